import Derived.Test.YtpoipgmphhfgeabDoorPaT
namespace Go.Proofs.YtpoipgmphhfgeabDoor.Pa
open Go.RowKit Go.Lib

set_option maxRecDepth 20000 in
set_option maxHeartbeats 1000000 in
theorem rtext_any (w : World) (v : Value) (L : List ByteArray) (h1 : See w v L) (hn : L.length ≤ 9223372036854775000) : Calls Tryd.prog 27 #[v] w fun e w' => e = .returned (.tuple #[.string (textY L), .int .i64 (fault L)]) ∧ Below w.heap.size w w' := by
  have hf := rnames_any w v L h1 hn
  have HA : Hid (∀ W, Below w.heap.size w W → See W v L) := fun W hb => h1.below hb
  by_cases h0 : fault L = 0
  · obtain ⟨Y, hY⟩ : ∃ Y, textY L = Y := ⟨_, rfl⟩
    have HY : Hid (str (textL L) = Y) := (textY_ok h0).symm.trans hY
    rw [h0] at hf ⊢
    rw [hY]
    clear hY
    obtain ⟨a1, k1, rfl, -⟩ := h1
    by_cases hl : L = []
    · subst hl
      rw [← HY.out]
      go_enter Tryd.func27, Tryd.ntmps27
      go_wp2_with (go_at_call 36; refine hf.mono ?_; rintro e w1 ⟨rfl, hb1⟩)
      go_ret2
      exact ⟨rfl, hb1⟩
    have hn16 := (fault_zero.1 h0).2
    obtain ⟨n, hln⟩ : ∃ n, L.length = n := ⟨_, rfl⟩
    have hn0 : ¬ n = 0 := fun e => hl (List.eq_nil_of_length_eq_zero (by omega))
    rw [hln] at HA hf hn hn16 ⊢
    have HL : Hid (L.length = n) := hln
    have HN : Hid (L ≠ []) := hl
    clear hln hl
    go_enter Tryd.func27, Tryd.ntmps27
    go_wp2_with (first | (go_at_call 36; refine hf.mono ?_; rintro e w1 ⟨rfl, hb1⟩))
    go_loopg [5, 6] n (fun gk sv iv wr => ∃ (k : Nat) (S : ByteArray), k + gk = n ∧ iv = .int .i64 (k : Int) ∧ sv = .string S ∧ Hid (S = str (slashed (L.take k))) ∧ Hid (Below w.heap.size w wr))
    case atStart => exact ⟨0, _, by omega, rfl, rfl, rfl, hb1⟩
    case round =>
      obtain ⟨k, S, hk, rfl, rfl, HS, HW⟩ := hrel
      have HKG : Hid (k + gk = n) := hk
      have hkn : k ≤ n := by omega
      clear hk
      by_cases hlt : k < n
      · have hltI : (k : Int) < (n : Int) := by omega
        obtain ⟨x, hx⟩ : ∃ x, L[k]? = some x := ⟨_, List.getElem?_eq_getElem (by have := HL.out; omega)⟩
        obtain ⟨b, off, rfl, hc⟩ := (HA.out _ HW.out).cell hx
        have HS2 : Hid (S ++ { data := #[47] } ++ x = str (slashed (L.take (k + 1)))) := by
          show _ = _
          rw [slashed_take L k x hx, HS.out]
          have e : ({ data := #[47] } : ByteArray) = str [47] := rfl
          rw [e, ← str_of x, str_app, str_app, str_data]
          simp
        have hall := (fault_zero.1 h0).1
        have hz : S.size ≤ 33 * k := by
          rw [HS.out, str_size]
          have h2 := slashed_len (L.take k) (List.all_eq_true.2 fun y hy => List.all_eq_true.1 hall y (List.mem_of_mem_take hy))
          rw [List.length_take] at h2
          have := HL.out
          omega
        have hxz : x.size ≤ 32 := by
          have := (nm_free (List.all_eq_true.1 hall x (List.mem_of_getElem? hx))).2.2
          rw [size_eq x]; exact this
        have hc1 : ¬ 9223372036854775807 < S.size + 1 := by omega
        have hc2 : ¬ 9223372036854775807 < S.size + 1 + x.size := by omega
        clear hx hall hz hxz
        go_wp2
        go_roundg (gk - 1)
        case measure => have := HKG.out; omega
        case rel => exact ⟨k + 1, _, by have := HKG.out; omega, by go_num, rfl, HS2, HW⟩
      · obtain rfl : k = n := by omega
        have hltI : ¬ (k : Int) < (k : Int) := by omega
        obtain rfl : S = Y := by
          rw [← HY.out, HS.out, List.take_of_length_le (by rw [HL.out]; exact Nat.le_refl _)]
          unfold textL
          rw [if_neg HN.out]
        go_wp2
        go_ret2
        exact ⟨rfl, HW.out⟩
  · rcases fault_vals L with h | h | h
    · exact absurd h h0
    all_goals
      rw [h] at hf ⊢
      have HE : Hid (textY L = str []) := by show _ = _; unfold textY; rw [if_neg h0]
      obtain ⟨a1, k1, rfl, -⟩ := h1
      rw [HE.out]
      clear HE
      generalize L.length = n at *
      go_enter Tryd.func27, Tryd.ntmps27
      go_wp2_with (go_at_call 36; refine hf.mono ?_; rintro e w1 ⟨rfl, hb1⟩)
      go_ret2
      exact ⟨rfl, hb1⟩
end Go.Proofs.YtpoipgmphhfgeabDoor.Pa
