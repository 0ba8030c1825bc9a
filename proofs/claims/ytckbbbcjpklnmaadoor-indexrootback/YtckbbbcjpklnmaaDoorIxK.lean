import Derived.Test.YtckbbbcjpklnmaaDoorIxV4
namespace Go.Proofs.YtckbbbcjpklnmaaDoor.Ix
open Go.RowKit Go.Lib Go.Deep

noncomputable def eqB {α : Type} (R R' : List α) : Bool := @decide (R = R') (Classical.propDecidable _)
theorem eqB_true {α : Type} {R R' : List α} : eqB R R' = true ↔ R = R' := by unfold eqB; exact @decide_eq_true_iff (R = R') (Classical.propDecidable _)
theorem eqB_false {α : Type} {R R' : List α} (h : R ≠ R') : eqB R R' = false := by
  cases hb : eqB R R' with
  | false => rfl
  | true => exact absurd (eqB_true.1 hb) h
theorem eqB_self {α : Type} (R : List α) : eqB R R = true := eqB_true.2 rfl
set_option maxRecDepth 20000 in
set_option maxHeartbeats 1000000 in
theorem sameRoot_any (sl fl dr mf ls pg : Int) (R R' : List Rf) (w : World) (a a' : Option Addr) (n k n' k' : Nat) (hS : See w 2 (.slice a n k) n (rfsC R)) (hn : R.length = n) (hS' : See w 2 (.slice a' n' k') n' (rfsC R')) (hn' : R'.length = n') (hnb : n ≤ 1099511000000) :
    Calls Tryd.prog 18 #[.agg #[.int .i64 sl, .int .i64 fl, .int .i64 dr, .int .i64 mf, .int .i64 ls, .int .i64 pg, .slice a n k], .agg #[.int .i64 sl, .int .i64 fl, .int .i64 dr, .int .i64 mf, .int .i64 ls, .int .i64 pg, .slice a' n' k']] w fun e w' => e = .returned (.bool (eqB R R')) ∧ Below w.heap.size w w' := by
  obtain ⟨V, hV, hbV, g0, g1⟩ := two_new w #[.int .i64 sl, .int .i64 fl, .int .i64 dr, .int .i64 mf, .int .i64 ls, .int .i64 pg, .slice a n k] #[.int .i64 sl, .int .i64 fl, .int .i64 dr, .int .i64 mf, .int .i64 ls, .int .i64 pg, .slice a' n' k'] 38 38
  have l0 := heap_lt g0
  have l1 := heap_lt g1
  obtain ⟨y0, y1, y2, y3, y4, y5, y6, -⟩ := cells7 g0
  obtain ⟨x0, x1, x2, x3, x4, x5, x6, -⟩ := cells7 g1
  by_cases hnn : n = n'
  case neg =>
    rw [eqB_false (fun e => hnn (by rw [← hn, ← hn', e]))]
    have hne : ((n : Int) != (n' : Int)) = true := by rw [bne_iff_ne]; omega
    have HB : Hid _ := hbV
    clear hS hS' g0 g1 hnn hbV
    go_enter Tryd.func18, Tryd.ntmps18
    go_wp2
    go_ret
    exact ⟨rfl, HB.out⟩
  subst hnn
  have HX : Hid (∀ X, Below V.heap.size V X → X.cell? ⟨w.heap.size, 6, none⟩ = some (.slice a n k) ∧ X.cell? ⟨w.heap.size + 1, 6, none⟩ = some (.slice a' n k') ∧ See X 2 (.slice a n k) n (rfsC R) ∧ See X 2 (.slice a' n k') n (rfsC R') ∧ Below w.heap.size w X) := fun X hX => by
    have hb := hbV.trans (hX.mono hbV.size)
    exact ⟨(cell_of_heap ((hX.block _ l0).trans g0)).trans rfl, (cell_of_heap ((hX.block _ l1).trans g1)).trans rfl, hS.below hb, hS'.below hb, hb⟩
  obtain ⟨Z, hZ⟩ : ∃ Z, eqB R R' = Z := ⟨_, rfl⟩
  rw [hZ]
  have HZ : Hid (eqB R R' = Z) := hZ
  clear hZ hS hS' g0 g1 hbV
  go_enter Tryd.func18, Tryd.ntmps18
  go_wp2_with fail
  clear y0 y1 y2 y3 y4 y5 y6 x0 x1 x2 x3 x4 x5 x6
  go_loopg [5] n (fun gk iv wr => ∃ i : Nat, i + gk = n ∧ iv = .int .i64 (i : Int) ∧ Hid (Below V.heap.size V wr) ∧ Hid (R.take i = R'.take i))
  case atStart => exact ⟨0, by omega, rfl, Below.refl _ _, rfl⟩
  case round =>
    obtain ⟨i, hik, rfl, hbr, hpre⟩ := hrel
    obtain ⟨y6, x6, s1, s2, hbw⟩ := HX.out wr hbr.out
    by_cases hlt : i < n
    · have hltI : (i : Int) < (n : Int) := by omega
      obtain ⟨r, hr⟩ : ∃ r, R[i]? = some r := ⟨_, List.getElem?_eq_getElem (by omega)⟩
      obtain ⟨r', hr'⟩ : ∃ r, R'[i]? = some r := ⟨_, List.getElem?_eq_getElem (by omega)⟩
      obtain ⟨b, off, rfl, hbl, hcc⟩ := s1.row rfC_len (by decide) hr
      obtain ⟨b', off', rfl, hbl', hcc'⟩ := s2.row rfC_len (by decide) hr'
      obtain ⟨nm, tg⟩ := r
      obtain ⟨nm', tg'⟩ := r'
      have c0 : wr.cell? ⟨b, off + i * 2, none⟩ = some (.string nm) := hcc 0 _ rfl
      have c1 : wr.cell? ⟨b, off + i * 2 + 1, none⟩ = some (.string tg) := hcc 1 _ rfl
      have d0 : wr.cell? ⟨b', off' + i * 2, none⟩ = some (.string nm') := hcc' 0 _ rfl
      have d1 : wr.cell? ⟨b', off' + i * 2 + 1, none⟩ = some (.string tg') := hcc' 1 _ rfl
      clear s1 s2 hcc hcc'
      by_cases he : nm = nm' ∧ tg = tg'
      · obtain ⟨rfl, rfl⟩ := he
        have HP : Hid (R.take (i + 1) = R'.take (i + 1)) := by
          show _ = _
          rw [List.take_add_one, List.take_add_one, hr, hr', hpre.out]
        clear hr hr' hpre hbw
        go_wp2_with fail
        go_quiet (fail)
        go_wp2
        go_roundg (gk - 1)
        case measure => omega
        case rel => exact ⟨i + 1, by omega, rfl, bdr hbr.out _, HP⟩
      · obtain rfl : Z = false := by
          rw [← HZ.out]
          refine eqB_false fun e => he ?_
          rw [e, hr'] at hr
          injection hr with hr
          injection hr with h1 h2
          exact ⟨h1.symm, h2.symm⟩
        have hcase : ¬ nm = nm' ∨ (nm = nm' ∧ ¬ tg = tg') := by
          by_cases h : nm = nm'
          · exact .inr ⟨h, fun h2 => he ⟨h, h2⟩⟩
          · exact .inl h
        have HB : Hid (∀ j, Below w.heap.size w (wr.drewN j)) := fun j => bdr hbw j
        clear hr hr' hpre hbw HZ he
        rcases hcase with h | ⟨rfl, h⟩
        · have e1 : (nm.toList == nm'.toList) = false := beq_false_of_ne (fun e => h (toList_inj e))
          clear h
          go_wp2_with fail
          go_quiet (fail)
          go_wp2
          go_ret
          exact ⟨rfl, HB.out _⟩
        · have e1 : (tg.toList == tg'.toList) = false := beq_false_of_ne (fun e => h (toList_inj e))
          clear h
          go_wp2_with fail
          go_quiet (fail)
          go_wp2
          go_ret
          exact ⟨rfl, HB.out _⟩
    · obtain rfl : i = n := by omega
      have hltI : ¬ (i : Int) < (i : Int) := by omega
      obtain rfl : Z = true := by
        rw [← HZ.out]
        refine eqB_true.2 ?_
        have := hpre.out
        rwa [List.take_of_length_le (by omega), List.take_of_length_le (by omega)] at this
      have HB : Hid _ := hbw
      clear s1 s2 hbw HZ hpre
      go_wp2
      go_ret
      exact ⟨rfl, HB.out⟩
end Go.Proofs.YtckbbbcjpklnmaaDoor.Ix
