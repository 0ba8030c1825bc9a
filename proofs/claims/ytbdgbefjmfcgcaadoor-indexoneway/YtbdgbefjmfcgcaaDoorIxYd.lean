import Derived.Test.YtbdgbefjmfcgcaaDoorIxXk
namespace Go.Proofs.YtbdgbefjmfcgcaaDoor.Ix
open Go.RowKit Go.Lib Go.Deep
/-- told whether two lists are one -/
def Told {α : Type} (A B : α) (e : Ending) : Prop := ∃ b : Bool, (b = true ↔ A = B) ∧ e = .returned (.bool b)
theorem told_no {α : Type} {A B : α} (h : ¬ A = B) : Told A B (.returned (.bool false)) := ⟨false, ⟨fun e => (by cases e), fun e => absurd e h⟩, rfl⟩
theorem told_yes {α : Type} {A B : α} (h : A = B) : Told A B (.returned (.bool true)) := ⟨true, ⟨fun _ => h, fun _ => rfl⟩, rfl⟩
set_option maxRecDepth 20000 in
set_option maxHeartbeats 2000000 in
/-- two trees' states -/
theorem sameTree_all (f d : Int) (T T' : List Nd) (w : World) (a a2 : Option Addr) (n m k k2 : Nat) (h1 : See w 5 (.slice a n k) n (ndsC T)) (h2 : See w 5 (.slice a2 m k2) m (ndsC T')) (hn : T.length = n) (hm : T'.length = m) (hnb : n ≤ 1000000) :
    Calls Tryd.prog 11 #[.agg #[.int .i64 f, .int .i64 d, .slice a n k], .agg #[.int .i64 f, .int .i64 d, .slice a2 m k2]] w fun e w' => Told T T' e ∧ Below w.heap.size w w' := by
  by_cases hnm : n = m
  case neg =>
    have hne : ((n : Int) != (m : Int)) = true := by rw [bne_iff_ne]; omega
    have HNE : Hid (¬ T = T') := fun e => hnm (by rw [← hn, ← hm, e])
    obtain ⟨V, hV, hbV, g0, g1⟩ := two_new w #[.int .i64 f, .int .i64 d, .slice a n k] #[.int .i64 f, .int .i64 d, .slice a2 m k2] 28 28
    obtain ⟨x0, x1, x2⟩ := cells3 g0
    obtain ⟨y0, y1, y2⟩ := cells3 g1
    have HB : Hid _ := hbV
    clear h1 h2 g0 g1 hbV hn hm hnm
    go_enter Tryd.func11, Tryd.ntmps11
    go_wp2
    go_ret
    exact ⟨told_no HNE.out, HB.out⟩
  subst hnm
  obtain ⟨V, hV, hbV, g0, g1⟩ := two_new w #[.int .i64 f, .int .i64 d, .slice a n k] #[.int .i64 f, .int .i64 d, .slice a2 n k2] 28 28
  have HX : Hid (∀ X, Below V.heap.size V X → (X.cell? ⟨w.heap.size, 0, none⟩ = some (.int .i64 f) ∧ X.cell? ⟨w.heap.size, 1, none⟩ = some (.int .i64 d) ∧ X.cell? ⟨w.heap.size, 2, none⟩ = some (.slice a n k)) ∧ (X.cell? ⟨w.heap.size + 1, 0, none⟩ = some (.int .i64 f) ∧ X.cell? ⟨w.heap.size + 1, 1, none⟩ = some (.int .i64 d) ∧ X.cell? ⟨w.heap.size + 1, 2, none⟩ = some (.slice a2 n k2)) ∧ See X 5 (.slice a n k) n (ndsC T) ∧ See X 5 (.slice a2 n k2) n (ndsC T') ∧ Below w.heap.size w X) := fun X hX => by
    have hb := below_on hX hbV
    exact ⟨cells3 ((hX.block _ (heap_lt g0)).trans g0), cells3 ((hX.block _ (heap_lt g1)).trans g1), h1.below hb, h2.below hb, hb⟩
  obtain ⟨⟨x0, x1, x2⟩, ⟨y0, y1, y2⟩, -, -, -⟩ := HX.out V (Below.refl _ _)
  clear h1 h2 g0 g1 hbV
  go_enter Tryd.func11, Tryd.ntmps11
  go_wp2_with fail
  clear x0 x1 x2 y0 y1 y2
  go_loopg [5] n (fun gk iv wr => ∃ i : Nat, i + gk = n ∧ iv = .int .i64 (i : Int) ∧ Hid (Below V.heap.size V wr) ∧ Hid (T.take i = T'.take i))
  case atStart => exact ⟨0, by omega, rfl, Below.refl _ _, rfl⟩
  case round =>
    obtain ⟨i, hik, rfl, HBr, HPRE⟩ := hrel
    obtain ⟨⟨x0, x1, x2⟩, ⟨y0, y1, y2⟩, hs1, hs2, hbw⟩ := HX.out wr HBr.out
    by_cases hlt : i < n
    · have hltI : (i : Int) < (n : Int) := by omega
      obtain ⟨x, hx⟩ : ∃ x, T[i]? = some x := ⟨_, List.getElem?_eq_getElem (by omega)⟩
      obtain ⟨y, hy⟩ : ∃ y, T'[i]? = some y := ⟨_, List.getElem?_eq_getElem (by omega)⟩
      obtain ⟨b, off, rfl, hbl, hc⟩ := hs1.row ndC_len (by decide) hx
      obtain ⟨b2, off2, rfl, hbl2, hd⟩ := hs2.row ndC_len (by decide) hy
      obtain ⟨kd, nu, pa, nm, sz⟩ := x
      obtain ⟨kd', nu', pa', nm', sz'⟩ := y
      have c0 : wr.cell? ⟨b, off + i * 5, none⟩ = some (.int .i64 kd) := hc 0 _ rfl
      have c1 : wr.cell? ⟨b, off + i * 5 + 1, none⟩ = some (.int .i64 nu) := hc 1 _ rfl
      have c2 : wr.cell? ⟨b, off + i * 5 + 2, none⟩ = some (.int .i64 pa) := hc 2 _ rfl
      have c3 : wr.cell? ⟨b, off + i * 5 + 3, none⟩ = some (.string nm) := hc 3 _ rfl
      have c4 : wr.cell? ⟨b, off + i * 5 + 4, none⟩ = some (.int .i64 sz) := hc 4 _ rfl
      have d0 : wr.cell? ⟨b2, off2 + i * 5, none⟩ = some (.int .i64 kd') := hd 0 _ rfl
      have d1 : wr.cell? ⟨b2, off2 + i * 5 + 1, none⟩ = some (.int .i64 nu') := hd 1 _ rfl
      have d2 : wr.cell? ⟨b2, off2 + i * 5 + 2, none⟩ = some (.int .i64 pa') := hd 2 _ rfl
      have d3 : wr.cell? ⟨b2, off2 + i * 5 + 3, none⟩ = some (.string nm') := hd 3 _ rfl
      have d4 : wr.cell? ⟨b2, off2 + i * 5 + 4, none⟩ = some (.int .i64 sz') := hd 4 _ rfl
      clear hc hd hs1 hs2
      by_cases he : kd = kd' ∧ nu = nu' ∧ pa = pa' ∧ nm = nm' ∧ sz = sz'
      · obtain ⟨rfl, rfl, rfl, rfl, rfl⟩ := he
        have HP : Hid (T.take (i + 1) = T'.take (i + 1)) := by
          show _ = _
          rw [List.take_add_one, List.take_add_one, hx, hy, HPRE.out]
        clear hx hy HPRE hbw
        go_wp2_with fail
        go_quiet (fail)
        go_wp2
        go_roundg (gk - 1)
        case measure => omega
        case rel => exact ⟨i + 1, by omega, rfl, bdr HBr.out _, HP⟩
      · have HNE : Hid (¬ T = T') := fun e => he (by
          rw [e, hy] at hx
          injection hx with hx
          injection hx with h1 h2 h3 h4 h5
          exact ⟨h1.symm, h2.symm, h3.symm, h4.symm, h5.symm⟩)
        have hcase : (¬ kd = kd') ∨ (kd = kd' ∧ ¬ nu = nu') ∨ (kd = kd' ∧ nu = nu' ∧ ¬ pa = pa') ∨ (kd = kd' ∧ nu = nu' ∧ pa = pa' ∧ ¬ nm = nm') ∨ (kd = kd' ∧ nu = nu' ∧ pa = pa' ∧ nm = nm' ∧ ¬ sz = sz') := by
          by_cases h1 : kd = kd' <;> by_cases h2 : nu = nu' <;> by_cases h3 : pa = pa' <;> by_cases h4 : nm = nm' <;> by_cases h5 : sz = sz' <;> simp_all
        have HB : Hid (∀ j, Below w.heap.size w (wr.drewN j)) := fun j => bdr hbw j
        clear hx hy HPRE hbw he
        rcases hcase with h | ⟨rfl, h⟩ | ⟨rfl, rfl, h⟩ | ⟨rfl, rfl, rfl, h⟩ | ⟨rfl, rfl, rfl, rfl, h⟩
        · have e1 : (kd == kd') = false := beq_false_of_ne h
          have e2 : (kd != kd') = true := by rw [bne_iff_ne]; exact h
          clear h
          go_wp2_with fail
          go_quiet (fail)
          go_wp2
          go_ret
          exact ⟨told_no HNE.out, HB.out _⟩
        · have e1 : (nu == nu') = false := beq_false_of_ne h
          have e2 : (nu != nu') = true := by rw [bne_iff_ne]; exact h
          clear h
          go_wp2_with fail
          go_quiet (fail)
          go_wp2
          go_ret
          exact ⟨told_no HNE.out, HB.out _⟩
        · have e1 : (pa == pa') = false := beq_false_of_ne h
          have e2 : (pa != pa') = true := by rw [bne_iff_ne]; exact h
          clear h
          go_wp2_with fail
          go_quiet (fail)
          go_wp2
          go_ret
          exact ⟨told_no HNE.out, HB.out _⟩
        · have e1 : (nm.toList == nm'.toList) = false := beq_false_of_ne (fun e => h (toList_inj e))
          clear h
          go_wp2_with fail
          go_quiet (fail)
          go_wp2
          go_ret
          exact ⟨told_no HNE.out, HB.out _⟩
        · have e1 : (sz == sz') = false := beq_false_of_ne h
          have e2 : (sz != sz') = true := by rw [bne_iff_ne]; exact h
          clear h
          go_wp2_with fail
          go_quiet (fail)
          go_wp2
          go_ret
          exact ⟨told_no HNE.out, HB.out _⟩
    · obtain rfl : i = n := by omega
      have hltI : ¬ (i : Int) < (i : Int) := by omega
      have HE : Hid (T = T') := by
        have := HPRE.out
        rw [List.take_of_length_le (by omega), List.take_of_length_le (by omega)] at this
        exact this
      have HEb : Hid _ := hbw
      clear hs1 hs2 hbw
      go_wp2
      go_ret
      exact ⟨told_yes HE.out, HEb.out⟩
end Go.Proofs.YtbdgbefjmfcgcaaDoor.Ix
