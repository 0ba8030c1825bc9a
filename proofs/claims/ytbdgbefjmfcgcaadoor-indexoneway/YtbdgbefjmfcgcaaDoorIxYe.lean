import Derived.Test.YtbdgbefjmfcgcaaDoorIxYd
namespace Go.Proofs.YtbdgbefjmfcgcaaDoor.Ix
open Go.RowKit Go.Lib Go.Deep
set_option maxRecDepth 20000 in
set_option maxHeartbeats 2000000 in
/-- two tables' states, their lists of one length each -/
theorem samePool_all (O O' : List Ob) (Q Q' : List Int) (w : World) (a a2 q q2 : Option Addr) (n m k k2 j j2 : Nat) (h1 : See w 4 (.slice a n k) n (obsC O)) (h2 : See w 4 (.slice a2 n k2) n (obsC O')) (h3 : See w 1 (.slice q m j) m (zsC Q)) (m2 : Nat) (h4 : See w 1 (.slice q2 m2 j2) m2 (zsC Q')) (hn : O.length = n) (hn' : O'.length = n) (hm : Q.length = m) (hm' : Q'.length = m2) (hnb : n ≤ 1000000) (hmb : m ≤ 1000000) :
    Calls Tryd.prog 12 #[.agg #[.slice a n k, .slice q m j], .agg #[.slice a2 n k2, .slice q2 m2 j2]] w fun e w' => Told (O, Q) (O', Q') e ∧ Below w.heap.size w w' := by
  by_cases hmm : m = m2
  case neg =>
    have hne : ((m : Int) != (m2 : Int)) = true := by rw [bne_iff_ne]; omega
    have HNE : Hid (¬ (O, Q) = (O', Q')) := fun e => hmm (by
      injection e with _ e
      rw [← hm, ← hm', e])
    obtain ⟨V, hV, hbV, g0, g1⟩ := two_new w #[.slice a n k, .slice q m j] #[.slice a2 n k2, .slice q2 m2 j2] 32 32
    obtain ⟨x0, x1⟩ := cells2 g0
    obtain ⟨y0, y1⟩ := cells2 g1
    have HB : Hid _ := hbV
    clear h1 h2 h3 h4 g0 g1 hbV hn hn' hm hm' hmm
    go_enter Tryd.func12, Tryd.ntmps12
    go_wp2
    go_ret
    exact ⟨told_no HNE.out, HB.out⟩
  subst hmm
  obtain ⟨V, hV, hbV, g0, g1⟩ := two_new w #[.slice a n k, .slice q m j] #[.slice a2 n k2, .slice q2 m j2] 32 32
  have HX : Hid (∀ X, Below V.heap.size V X → (X.cell? ⟨w.heap.size, 0, none⟩ = some (.slice a n k) ∧ X.cell? ⟨w.heap.size, 1, none⟩ = some (.slice q m j)) ∧ (X.cell? ⟨w.heap.size + 1, 0, none⟩ = some (.slice a2 n k2) ∧ X.cell? ⟨w.heap.size + 1, 1, none⟩ = some (.slice q2 m j2)) ∧ See X 4 (.slice a n k) n (obsC O) ∧ See X 4 (.slice a2 n k2) n (obsC O') ∧ See X 1 (.slice q m j) m (zsC Q) ∧ See X 1 (.slice q2 m j2) m (zsC Q') ∧ Below w.heap.size w X) := fun X hX => by
    have hb := below_on hX hbV
    exact ⟨cells2 ((hX.block _ (heap_lt g0)).trans g0), cells2 ((hX.block _ (heap_lt g1)).trans g1), h1.below hb, h2.below hb, h3.below hb, h4.below hb, hb⟩
  obtain ⟨⟨x0, x1⟩, ⟨y0, y1⟩, -⟩ := HX.out V (Below.refl _ _)
  clear h1 h2 h3 h4 g0 g1 hbV
  go_enter Tryd.func12, Tryd.ntmps12
  go_wp2_with fail
  clear x0 x1 y0 y1
  go_loopg [5] n (fun gk iv wr => ∃ i : Nat, i + gk = n ∧ iv = .int .i64 (i : Int) ∧ Hid (Below V.heap.size V wr) ∧ Hid (O.take i = O'.take i))
  case atStart => exact ⟨0, by omega, rfl, Below.refl _ _, rfl⟩
  case round =>
    obtain ⟨i, hik, rfl, HBr, HPRE⟩ := hrel
    obtain ⟨⟨x0, x1⟩, ⟨y0, y1⟩, hs1, hs2, -, -, hbw⟩ := HX.out wr HBr.out
    by_cases hlt : i < n
    · have hltI : (i : Int) < (n : Int) := by omega
      obtain ⟨x, hx⟩ : ∃ x, O[i]? = some x := ⟨_, List.getElem?_eq_getElem (by omega)⟩
      obtain ⟨y, hy⟩ : ∃ y, O'[i]? = some y := ⟨_, List.getElem?_eq_getElem (by omega)⟩
      obtain ⟨b, off, rfl, hbl, hc⟩ := hs1.row obC_len (by decide) hx
      obtain ⟨b2, off2, rfl, hbl2, hd⟩ := hs2.row obC_len (by decide) hy
      obtain ⟨nm, tg, bk, ow⟩ := x
      obtain ⟨nm', tg', bk', ow'⟩ := y
      have c0 : wr.cell? ⟨b, off + i * 4, none⟩ = some (.string nm) := hc 0 _ rfl
      have c1 : wr.cell? ⟨b, off + i * 4 + 1, none⟩ = some (.string tg) := hc 1 _ rfl
      have c2 : wr.cell? ⟨b, off + i * 4 + 2, none⟩ = some (.int .i64 bk) := hc 2 _ rfl
      have c3 : wr.cell? ⟨b, off + i * 4 + 3, none⟩ = some (.int .i64 ow) := hc 3 _ rfl
      have d0 : wr.cell? ⟨b2, off2 + i * 4, none⟩ = some (.string nm') := hd 0 _ rfl
      have d1 : wr.cell? ⟨b2, off2 + i * 4 + 1, none⟩ = some (.string tg') := hd 1 _ rfl
      have d2 : wr.cell? ⟨b2, off2 + i * 4 + 2, none⟩ = some (.int .i64 bk') := hd 2 _ rfl
      have d3 : wr.cell? ⟨b2, off2 + i * 4 + 3, none⟩ = some (.int .i64 ow') := hd 3 _ rfl
      clear hc hd hs1 hs2
      by_cases he : nm = nm' ∧ tg = tg' ∧ bk = bk' ∧ ow = ow'
      · obtain ⟨rfl, rfl, rfl, rfl⟩ := he
        have HP : Hid (O.take (i + 1) = O'.take (i + 1)) := by
          show _ = _
          rw [List.take_add_one, List.take_add_one, hx, hy, HPRE.out]
        clear hx hy HPRE hbw
        go_wp2_with fail
        go_quiet (fail)
        go_wp2
        go_roundg (gk - 1)
        case measure => omega
        case rel => exact ⟨i + 1, by omega, rfl, bdr HBr.out _, HP⟩
      · have HNE : Hid (¬ (O, Q) = (O', Q')) := fun e => he (by
          injection e with e _
          rw [e, hy] at hx
          injection hx with hx
          injection hx with h1 h2 h3 h4
          exact ⟨h1.symm, h2.symm, h3.symm, h4.symm⟩)
        have hcase : (¬ nm = nm') ∨ (nm = nm' ∧ ¬ tg = tg') ∨ (nm = nm' ∧ tg = tg' ∧ ¬ bk = bk') ∨ (nm = nm' ∧ tg = tg' ∧ bk = bk' ∧ ¬ ow = ow') := by
          by_cases h1 : nm = nm' <;> by_cases h2 : tg = tg' <;> by_cases h3 : bk = bk' <;> by_cases h4 : ow = ow' <;> simp_all
        have HB : Hid (∀ j, Below w.heap.size w (wr.drewN j)) := fun j => bdr hbw j
        clear hx hy HPRE hbw he
        rcases hcase with h | ⟨rfl, h⟩ | ⟨rfl, rfl, h⟩ | ⟨rfl, rfl, rfl, h⟩
        · have e1 : (nm.toList == nm'.toList) = false := beq_false_of_ne (fun e => h (toList_inj e))
          clear h
          go_wp2_with fail
          go_quiet (fail)
          go_wp2
          go_ret
          exact ⟨told_no HNE.out, HB.out _⟩
        · have e1 : (tg.toList == tg'.toList) = false := beq_false_of_ne (fun e => h (toList_inj e))
          clear h
          go_wp2_with fail
          go_quiet (fail)
          go_wp2
          go_ret
          exact ⟨told_no HNE.out, HB.out _⟩
        · have e1 : (bk == bk') = false := beq_false_of_ne h
          have e2 : (bk != bk') = true := by rw [bne_iff_ne]; exact h
          clear h
          go_wp2_with fail
          go_quiet (fail)
          go_wp2
          go_ret
          exact ⟨told_no HNE.out, HB.out _⟩
        · have e1 : (ow == ow') = false := beq_false_of_ne h
          have e2 : (ow != ow') = true := by rw [bne_iff_ne]; exact h
          clear h
          go_wp2_with fail
          go_quiet (fail)
          go_wp2
          go_ret
          exact ⟨told_no HNE.out, HB.out _⟩
    · obtain rfl : i = n := by omega
      have hltI : ¬ (i : Int) < (i : Int) := by omega
      have HE : Hid (O = O') := by
        have := HPRE.out
        rw [List.take_of_length_le (by omega), List.take_of_length_le (by omega)] at this
        exact this
      clear hs1 hs2 hbw
      go_wp2_with fail
      clear x0 x1 y0 y1
      go_loopg [6] m (fun gk iv wr => ∃ e : Nat, e + gk = m ∧ iv = .int .i64 (e : Int) ∧ Hid (Below V.heap.size V wr) ∧ Hid (Q.take e = Q'.take e))
      case atStart => exact ⟨0, by omega, rfl, HBr.out, rfl⟩
      case round =>
        obtain ⟨e, hek, rfl, HB2, HPR2⟩ := hrel
        obtain ⟨⟨x0, x1⟩, ⟨y0, y1⟩, -, -, hs3, hs4, hbw⟩ := HX.out wr HB2.out
        by_cases hlt2 : e < m
        · have hltI2 : (e : Int) < (m : Int) := by omega
          obtain ⟨z, hz⟩ : ∃ z, Q[e]? = some z := ⟨_, List.getElem?_eq_getElem (by omega)⟩
          obtain ⟨z', hz'⟩ : ∃ z, Q'[e]? = some z := ⟨_, List.getElem?_eq_getElem (by omega)⟩
          obtain ⟨b, off, rfl, hbl, hc⟩ := hs3.z hz
          obtain ⟨b2, off2, rfl, hbl2, hc2⟩ := hs4.z hz'
          by_cases hzz : z = z'
          · subst hzz
            have HP : Hid (Q.take (e + 1) = Q'.take (e + 1)) := by
              show _ = _
              rw [List.take_add_one, List.take_add_one, hz, hz', HPR2.out]
            clear hz hz' hs3 hs4 hbw HPR2
            go_wp2_with fail
            go_quiet (fail)
            go_wp2
            go_roundg (gk - 1)
            case measure => omega
            case rel => exact ⟨e + 1, by omega, rfl, bdr HB2.out _, HP⟩
          · have HNE : Hid (¬ (O, Q) = (O', Q')) := fun ee => hzz (by
              injection ee with _ ee
              rw [ee, hz'] at hz
              injection hz with hz
              exact hz.symm)
            have e2 : (z != z') = true := by rw [bne_iff_ne]; exact hzz
            have HB : Hid (∀ j, Below w.heap.size w (wr.drewN j)) := fun j => bdr hbw j
            clear hz hz' hs3 hs4 hbw HPR2 hzz
            go_wp2_with fail
            go_quiet (fail)
            go_wp2
            go_ret
            exact ⟨told_no HNE.out, HB.out _⟩
        · obtain rfl : e = m := by omega
          have hltI2 : ¬ (e : Int) < (e : Int) := by omega
          have HE2 : Hid (Q = Q') := by
            have := HPR2.out
            rw [List.take_of_length_le (by omega), List.take_of_length_le (by omega)] at this
            exact this
          have HEb : Hid _ := hbw
          clear hs3 hs4 hbw
          go_wp2
          go_ret
          exact ⟨told_yes (by rw [HE.out, HE2.out]), HEb.out⟩
end Go.Proofs.YtbdgbefjmfcgcaaDoor.Ix
