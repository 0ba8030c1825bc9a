import Derived.Test.YtpoipgmphhfgeabDoorPaD
import Derived.Test.YtpoipgmphhfgeabDoorShP
import Derived.Deep.RegionHeldLaw
namespace Go.Proofs.YtpoipgmphhfgeabDoor.Pa
open Go.RowKit Go.Lib

theorem textL_join (L : List ByteArray) : 47 :: join (L.map (·.data.toList)) [47] = textL L := by
  unfold textL
  cases L with
  | nil => rw [if_pos rfl]; rfl
  | cons x r =>
    rw [if_neg (by simp), List.map_cons, join_cons]
    unfold slashed joinTail
    rw [List.map_cons, List.flatten_cons, List.map_map]
    rfl
theorem textL_len {L : List ByteArray} (h : fault L = 0) : (textL L).length ≤ 529 := by
  obtain ⟨h1, h2⟩ := fault_zero.1 h
  have := slashed_len L h1
  unfold textL
  by_cases h0 : L = []
  · rw [if_pos h0]; simp
  · rw [if_neg h0]; omega
theorem str_app (a b : List UInt8) : str a ++ str b = str (a ++ b) := by
  apply ByteArray.ext
  simp [str, ByteArray.data_append]
theorem join_any (w : World) (v : Value) (L : List ByteArray) (hL : See w v L) (hf : fault L = 0) :
    Calls Tryd.prog 33 #[v, .string { data := #[47] }] w fun e w' => e = .returned (.string (str (join (L.map (·.data.toList)) [47]))) ∧ Below w.heap.size w w' := by
  have hlen := textL_len hf
  rw [← textL_join, List.length_cons] at hlen
  have hn := (fault_zero.1 hf).2
  obtain ⟨a, c, rfl, hc, hnil, hcell⟩ := hL
  by_cases h0 : L = []
  · subst h0
    exact (Any.strings_Join_none joinLays joinExtra a c { data := #[47] } w).mono fun e w' ⟨he, hw⟩ => ⟨he, hw ▸ Below.refl _ _⟩
  · obtain ⟨b, off, rfl, hlt, hcc⟩ := hcell h0
    refine Any.strings_Join joinLays joinExtra b off c L { data := #[47] } w hcc hlt (by omega) hc ?_
    exact Nat.le_trans (Nat.le_of_succ_le hlen) (by decide)

set_option maxRecDepth 20000 in
set_option maxHeartbeats 1000000 in
theorem text_any (w : World) (v : Value) (L : List ByteArray) (h1 : See w v L) (hn : L.length ≤ 9223372036854775000) : Calls Tryd.prog 21 #[v] w fun e w' => e = .returned (.tuple #[.string (textY L), .int .i64 (fault L)]) ∧ Below w.heap.size w w' := by
  have hf := fault_any w v L h1 hn
  have HA : Hid (∀ W, Below w.heap.size w W → See W v L) := fun W hb => h1.below hb
  by_cases h0 : fault L = 0
  · have HT : Hid (∀ W, Below w.heap.size w W → Calls Tryd.prog 33 #[v, .string { data := #[47] }] W fun e w' => e = .returned (.string (str (join (L.map (·.data.toList)) [47]))) ∧ Below W.heap.size W w') := fun W hb => join_any W v L (HA.out W hb) h0
    have HE : Hid (textY L = str [47] ++ str (join (L.map (·.data.toList)) [47])) := by
      show _ = _
      rw [str_app, textY_ok h0, ← textL_join]
      rfl
    rw [h0] at hf ⊢
    have hj : ¬ 9223372036854775807 < 1 + (str (join (L.map (·.data.toList)) [47])).size := by
      have hlen := textL_len h0
      rw [← textL_join, List.length_cons] at hlen
      rw [str_size]
      omega
    generalize join (L.map (·.data.toList)) [47] = J at HT HE hj
    obtain ⟨a1, k1, rfl, -⟩ := h1
    generalize L.length = n at *
    go_enter Tryd.func21, Tryd.ntmps21
    go_wp2_with (first
      | (go_at_call 18; refine hf.mono ?_; rintro e w1 ⟨rfl, hb1⟩)
      | (go_at_call 33; refine (HT.out _ hb1).mono ?_; rintro e w2 ⟨rfl, hb2⟩))
    go_ret2
    exact ⟨by rw [HE.out]; rfl, hb1.trans (hb2.mono hb1.size)⟩
  · rcases fault_vals L with h | h | h
    · exact absurd h h0
    all_goals
      rw [h] at hf ⊢
      have HE : Hid (textY L = str []) := by show _ = _; unfold textY; rw [if_neg h0]
      obtain ⟨a1, k1, rfl, -⟩ := h1
      rw [HE.out]
      clear HE
      generalize L.length = n at *
      go_enter Tryd.func21, Tryd.ntmps21
      go_wp2_with (go_at_call 18; refine hf.mono ?_; rintro e w1 ⟨rfl, hb1⟩)
      go_ret2
      exact ⟨rfl, hb1⟩
end Go.Proofs.YtpoipgmphhfgeabDoor.Pa
