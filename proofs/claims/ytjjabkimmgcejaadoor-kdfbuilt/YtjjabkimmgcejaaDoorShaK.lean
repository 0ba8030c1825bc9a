import Derived.Test.YtjjabkimmgcejaaDoorShaJ
namespace Go.Proofs.YtjjabkimmgcejaaDoor
open Go.RowKit Go.Lib Go.Deep

/-- what comes behind a text of so many bytes -/
def endL (n : Nat) : List UInt8 := ([128] ++ zeros ((119 - n % 64) % 64)) ++ be8 (8 * n)

theorem made_bytes (z : Nat) : (madeCells #[Value.int .u8 0] ((1 + z) * 1)).toList = byteCells (zeros (1 + z)) := by
  apply List.ext_getElem
  · simp [size_madeCells, byteCells, zeros]
  · intro i h1 h2
    simp [madeCells, byteCells, zeros, Nat.mod_one]

theorem made_own {w w1 : World} {z : Nat} (ho : w1.ownsRow w.heap.size 5 1 (.slice (some ⟨w.heap.size, 0, none⟩) (1 + z) (1 + z)) (1 + z) (madeCells (Value.int .u8 0).cells ((1 + z) * 1)).toList) :
    w1.ownsRow w.heap.size 5 1 (.slice (some ⟨w.heap.size, 0, none⟩) (1 + z) (1 + z)) (1 + z) (byteCells (zeros (1 + z))) := by
  have h := made_bytes z
  have e : (madeCells (Value.int .u8 0).cells ((1 + z) * 1)).toList = byteCells (zeros (1 + z)) := h
  rw [e] at ho
  exact ho
theorem made_cell {w w1 : World} {z : Nat} (ho : w1.ownsRow w.heap.size 5 1 (.slice (some ⟨w.heap.size, 0, none⟩) (1 + z) (1 + z)) (1 + z) (madeCells (Value.int .u8 0).cells ((1 + z) * 1)).toList) :
    w1.cell? ⟨w.heap.size, 0, none⟩ = some (.int .u8 0) ∧ w1.frozen? ⟨w.heap.size, 0, none⟩ = false := by
  have h := made_own ho
  refine ⟨?_, h.frozenAt 0⟩
  rw [h.cellAt 0 (by omega), show 1 + z = z + 1 by omega]
  rfl
theorem made_stored {w w1 : World} {z : Nat} (ho : w1.ownsRow w.heap.size 5 1 (.slice (some ⟨w.heap.size, 0, none⟩) (1 + z) (1 + z)) (1 + z) (madeCells (Value.int .u8 0).cells ((1 + z) * 1)).toList) :
    (w1.setCell ⟨w.heap.size, 0, none⟩ (.int .u8 128)).ownsRow w.heap.size 5 1 (.slice (some ⟨w.heap.size, 0, none⟩) (1 + z) (1 + z)) ([128] ++ zeros z : List UInt8).length (byteCells ([128] ++ zeros z)) := by
  have h := ((made_own ho).stored 0 (.int .u8 128)).1
  have e : (byteCells (zeros (1 + z))).set 0 (.int .u8 128) = byteCells ([128] ++ zeros z) := by
    rw [show 1 + z = z + 1 by omega]
    rfl
  rw [e] at h
  have l : ([128] ++ zeros z : List UInt8).length = 1 + z := by simp [zeros]; omega
  rw [l]
  exact h

set_option maxHeartbeats 1000000 in
theorem ending_any (n : Nat) (w : World) (hn : n < 1152921504606846976) :
    Calls Tryd.prog 47 #[.int .u64 (n : Int)] w fun e w' => e = .returned (.string (str (endL n))) ∧ Below w.heap.size w w' := by
  obtain ⟨i0, hi, hz0, hz1, hz2⟩ := info_parts info5
  obtain ⟨z, hz, hz64⟩ : ∃ z, (119 - n % 64) % 64 = z ∧ z < 64 := ⟨_, rfl, by omega⟩
  have HZ : Hid (endL n = ([128] ++ zeros z) ++ be8 (8 * n)) := by show endL n = _; rw [endL, hz]
  have t1 : ((n : Int).tmod 64) = (n : Int) % 64 := Int.tmod_eq_emod_of_nonneg (by omega)
  have t2 : ((119 - (n : Int) % 64).tmod 64) = (z : Int) := by rw [Int.tmod_eq_emod_of_nonneg (by omega)]; omega
  have hm8 : (8 * (n : Int)) % 18446744073709551616 = 8 * (n : Int) := by omega
  clear hz
  go_enter Tryd.func47, Tryd.ntmps47
  go_wp2_with (at_make; refine wpList_make_full _ rfl _ _ 42 rfl w.heap.size 5 i0 (.int .u8 0) 1 Tryd.underlying42 hi hz0 hz1 .u64 .u64 _ _ (1 + z) rfl rfl (by omega) (by omega) (by rw [hz2]; omega) (by unfold maxLen; omega) (Nat.le_refl _) ?_; intro w1 hown1 hg1; have c0 := (made_cell hown1).1; have f0 := (made_cell hown1).2)
  have hb1 : Below w.heap.size w (w1.setCell ⟨w.heap.size, 0, none⟩ (.int .u8 128)) := (Below.grown (Below.refl _ _) hg1 (Nat.le_refl _) (by simp)).setCell (Nat.le_refl _) _
  refine (number_any w.heap.size _ ([128] ++ zeros z) (8 * n) _ hb1.size (made_stored hown1) (by simp [zeros]; omega) (by omega)).mono ?_
  rintro e w2 ⟨v', rfl, hown2, hb2⟩
  have hcv := convert_own (P := Tryd.prog) w2 42 9 5 w.heap.size _ _ Tryd.underlying42 Tryd.underlying5 Tryd.underlying9 hown2
  go_wp2
  go_ret
  rw [HZ.out]
  exact ⟨rfl, hb1.trans hb2⟩

end Go.Proofs.YtjjabkimmgcejaaDoor
