import Derived.Test.YtbdgbefjmfcgcaaDoorIxYd
namespace Go.Proofs.YtbdgbefjmfcgcaaDoor.Ix
open Go.RowKit Go.Lib Go.Deep
set_option maxRecDepth 20000 in
set_option maxHeartbeats 1000000 in
/-- two lists of texts -/
theorem sameTexts_all (A B : List ByteArray) (w : World) (a a2 : Option Addr) (n m k k2 : Nat) (h1 : See w 1 (.slice a n k) n (scC A)) (h2 : See w 1 (.slice a2 m k2) m (scC B)) (hn : A.length = n) (hm : B.length = m) (hnb : n ≤ 1000000) :
    Calls Tryd.prog 13 #[.slice a n k, .slice a2 m k2] w fun e w' => Told A B e ∧ Below w.heap.size w w' := by
  by_cases hnm : n = m
  case neg =>
    have hne : ((n : Int) != (m : Int)) = true := by rw [bne_iff_ne]; omega
    have HNE : Hid (¬ A = B) := fun e => hnm (by rw [← hn, ← hm, e])
    clear h1 h2 hn hm hnm
    go_enter Tryd.func13, Tryd.ntmps13
    go_wp2
    go_ret
    exact ⟨told_no HNE.out, Below.refl _ _⟩
  subst hnm
  have HX : Hid (∀ X, Below w.heap.size w X → See X 1 (.slice a n k) n (scC A) ∧ See X 1 (.slice a2 n k2) n (scC B)) := fun X hX => ⟨h1.below hX, h2.below hX⟩
  clear h1 h2
  go_enter Tryd.func13, Tryd.ntmps13
  go_wp2_with fail
  go_loopg [5] n (fun gk iv wr => ∃ i : Nat, i + gk = n ∧ iv = .int .i64 (i : Int) ∧ Hid (Below w.heap.size w wr) ∧ Hid (A.take i = B.take i))
  case atStart => exact ⟨0, by omega, rfl, Below.refl _ _, rfl⟩
  case round =>
    obtain ⟨i, hik, rfl, HBr, HPRE⟩ := hrel
    obtain ⟨hs1, hs2⟩ := HX.out wr HBr.out
    by_cases hlt : i < n
    · have hltI : (i : Int) < (n : Int) := by omega
      obtain ⟨x, hx⟩ : ∃ x, A[i]? = some x := ⟨_, List.getElem?_eq_getElem (by omega)⟩
      obtain ⟨y, hy⟩ : ∃ y, B[i]? = some y := ⟨_, List.getElem?_eq_getElem (by omega)⟩
      obtain ⟨b, off, rfl, hbl, hc⟩ := hs1.s hx
      obtain ⟨b2, off2, rfl, hbl2, hd⟩ := hs2.s hy
      clear hs1 hs2
      by_cases he : x = y
      · subst he
        have HP : Hid (A.take (i + 1) = B.take (i + 1)) := by
          show _ = _
          rw [List.take_add_one, List.take_add_one, hx, hy, HPRE.out]
        clear hx hy HPRE
        go_wp2_with fail
        go_quiet (fail)
        go_wp2
        go_roundg (gk - 1)
        case measure => omega
        case rel => exact ⟨i + 1, by omega, rfl, bdr HBr.out _, HP⟩
      · have HNE : Hid (¬ A = B) := fun e => he (by
          rw [e, hy] at hx
          injection hx with hx
          exact hx.symm)
        have e1 : (x.toList == y.toList) = false := beq_false_of_ne (fun e => he (toList_inj e))
        clear hx hy HPRE he
        go_wp2_with fail
        go_quiet (fail)
        go_wp2
        go_ret
        exact ⟨told_no HNE.out, bdr HBr.out _⟩
    · obtain rfl : i = n := by omega
      have hltI : ¬ (i : Int) < (i : Int) := by omega
      have HE : Hid (A = B) := by
        have := HPRE.out
        rw [List.take_of_length_le (by omega), List.take_of_length_le (by omega)] at this
        exact this
      clear hs1 hs2
      go_wp2
      go_ret
      exact ⟨told_yes HE.out, HBr.out⟩
end Go.Proofs.YtbdgbefjmfcgcaaDoor.Ix
