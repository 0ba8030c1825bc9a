import Derived.Test.YtgeadhgomhgmoaaDoorShaM
namespace Go.Proofs.YtgeadhgomhgmoaaDoor
open Go.RowKit Go.Lib Go.Deep

def emptyHex : List UInt8 := [101, 51, 98, 48, 99, 52, 52, 50, 57, 56, 102, 99, 49, 99, 49, 52, 57, 97, 102, 98, 102, 52, 99, 56, 57, 57, 54, 102, 98, 57, 50, 52, 50, 55, 97, 101, 52, 49, 101, 52, 54, 52, 57, 98, 57, 51, 52, 99, 97, 52, 57, 53, 57, 57, 49, 98, 55, 56, 53, 50, 98, 56, 53, 53]
def abcHex : List UInt8 := [98, 97, 55, 56, 49, 54, 98, 102, 56, 102, 48, 49, 99, 102, 101, 97, 52, 49, 52, 49, 52, 48, 100, 101, 53, 100, 97, 101, 50, 50, 50, 51, 98, 48, 48, 51, 54, 49, 97, 51, 57, 54, 49, 55, 55, 97, 57, 99, 98, 52, 49, 48, 102, 102, 54, 49, 102, 50, 48, 48, 49, 53, 97, 100]
def longHex : List UInt8 := [50, 52, 56, 100, 54, 97, 54, 49, 100, 50, 48, 54, 51, 56, 98, 56, 101, 53, 99, 48, 50, 54, 57, 51, 48, 99, 51, 101, 54, 48, 51, 57, 97, 51, 51, 99, 101, 52, 53, 57, 54, 52, 102, 102, 50, 49, 54, 55, 102, 54, 101, 99, 101, 100, 100, 52, 49, 57, 100, 98, 48, 54, 99, 49]
def letters : List UInt8 := [97, 98, 99, 100, 98, 99, 100, 101, 99, 100, 101, 102, 100, 101, 102, 103, 101, 102, 103, 104, 102, 103, 104, 105, 103, 104, 105, 106, 104, 105, 106, 107, 105, 106, 107, 108, 106, 107, 108, 109, 107, 108, 109, 110, 108, 109, 110, 111, 109, 110, 111, 112, 110, 111, 112, 113]

theorem empty_known : hexL (shaL []) = emptyHex := by kernel_rfl
theorem abc_known : hexL (shaL [97, 98, 99]) = abcHex := by kernel_rfl
theorem long_known : hexL (shaL letters) = longHex := by kernel_rfl

theorem shaL_length (l : List UInt8) : (shaL l).length = 32 := by
  unfold shaL wtext
  rw [be4s_length]
  rfl

theorem hex_sum (l h : List UInt8) (hk : hexL (shaL l) = h) (w : World) :
    Calls Tryd.prog 41 #[.string (str (shaL l))] w fun e w' => e = .returned (.string (str h)) ∧ Below w.heap.size w w' := by
  refine (hex_any (str (shaL l)) w (by rw [str_size, shaL_length]; omega)).mono ?_
  rintro e w' ⟨rfl, hb⟩
  unfold hexS
  rw [str_data, hk]
  exact ⟨rfl, hb⟩

theorem hex_empty (w : World) : Calls Tryd.prog 41 #[.string (str (shaL []))] w fun e w' => e = .returned (.string { data := #[101, 51, 98, 48, 99, 52, 52, 50, 57, 56, 102, 99, 49, 99, 49, 52, 57, 97, 102, 98, 102, 52, 99, 56, 57, 57, 54, 102, 98, 57, 50, 52, 50, 55, 97, 101, 52, 49, 101, 52, 54, 52, 57, 98, 57, 51, 52, 99, 97, 52, 57, 53, 57, 57, 49, 98, 55, 56, 53, 50, 98, 56, 53, 53] }) ∧ Below w.heap.size w w' := hex_sum [] emptyHex empty_known w
theorem hex_abc (w : World) : Calls Tryd.prog 41 #[.string (str (shaL [97, 98, 99]))] w fun e w' => e = .returned (.string { data := #[98, 97, 55, 56, 49, 54, 98, 102, 56, 102, 48, 49, 99, 102, 101, 97, 52, 49, 52, 49, 52, 48, 100, 101, 53, 100, 97, 101, 50, 50, 50, 51, 98, 48, 48, 51, 54, 49, 97, 51, 57, 54, 49, 55, 55, 97, 57, 99, 98, 52, 49, 48, 102, 102, 54, 49, 102, 50, 48, 48, 49, 53, 97, 100] }) ∧ Below w.heap.size w w' := hex_sum _ abcHex abc_known w
theorem hex_long (w : World) : Calls Tryd.prog 41 #[.string (str (shaL letters))] w fun e w' => e = .returned (.string { data := #[50, 52, 56, 100, 54, 97, 54, 49, 100, 50, 48, 54, 51, 56, 98, 56, 101, 53, 99, 48, 50, 54, 57, 51, 48, 99, 51, 101, 54, 48, 51, 57, 97, 51, 51, 99, 101, 52, 53, 57, 54, 52, 102, 102, 50, 49, 54, 55, 102, 54, 101, 99, 101, 100, 100, 52, 49, 57, 100, 98, 48, 54, 99, 49] }) ∧ Below w.heap.size w w' := hex_sum _ longHex long_known w

theorem cells_strs (w : World) (ss : List ByteArray) : ∀ i s, ss[i]? = some s → (w.alloc (.cells (ss.map Value.string).toArray 9)).cell? ⟨w.heap.size, 0 + i, none⟩ = some (.string s) := by
  intro i s h
  rw [Nat.zero_add, cell_of_heap (heap_new _ _)]
  simp [h]

theorem sum_abc (w : World) (ht : Tabs w) (h4 : 4 ≤ w.heap.size) :
    Calls Tryd.prog 16 #[.slice (some ⟨w.heap.size, 0, none⟩) 3 3] (w.alloc (.cells #[.string { data := #[97, 98] }, .string { data := #[] }, .string { data := #[99] }] 9)) fun e w' => e = .returned (.string (str (shaL [97, 98, 99]))) ∧ Below w.heap.size w w' := by
  have hb : Below w.heap.size w (w.alloc (.cells #[.string { data := #[97, 98] }, .string { data := #[] }, .string { data := #[99] }] 9)) := (Below.refl _ _).alloc (Nat.le_refl _) _
  refine (sum_some _ (ht.below hb (by omega)) (by simp; omega) w.heap.size 0 3 3 [{ data := #[97, 98] }, { data := #[] }, { data := #[99] }] rfl (by omega) (by simp) (cells_strs w [{ data := #[97, 98] }, { data := #[] }, { data := #[99] }]) (by decide)).mono ?_
  rintro e w' ⟨rfl, h2⟩
  exact ⟨rfl, hb.trans (h2.mono (by simp))⟩
theorem sum_long (w : World) (ht : Tabs w) (h4 : 4 ≤ w.heap.size) :
    Calls Tryd.prog 16 #[.slice (some ⟨w.heap.size, 0, none⟩) 1 1] (w.alloc (.cells #[.string { data := #[97, 98, 99, 100, 98, 99, 100, 101, 99, 100, 101, 102, 100, 101, 102, 103, 101, 102, 103, 104, 102, 103, 104, 105, 103, 104, 105, 106, 104, 105, 106, 107, 105, 106, 107, 108, 106, 107, 108, 109, 107, 108, 109, 110, 108, 109, 110, 111, 109, 110, 111, 112, 110, 111, 112, 113] }] 9)) fun e w' => e = .returned (.string (str (shaL letters))) ∧ Below w.heap.size w w' := by
  have hb : Below w.heap.size w (w.alloc (.cells #[.string { data := #[97, 98, 99, 100, 98, 99, 100, 101, 99, 100, 101, 102, 100, 101, 102, 103, 101, 102, 103, 104, 102, 103, 104, 105, 103, 104, 105, 106, 104, 105, 106, 107, 105, 106, 107, 108, 106, 107, 108, 109, 107, 108, 109, 110, 108, 109, 110, 111, 109, 110, 111, 112, 110, 111, 112, 113] }] 9)) := (Below.refl _ _).alloc (Nat.le_refl _) _
  refine (sum_some _ (ht.below hb (by omega)) (by simp; omega) w.heap.size 0 1 1 [{ data := #[97, 98, 99, 100, 98, 99, 100, 101, 99, 100, 101, 102, 100, 101, 102, 103, 101, 102, 103, 104, 102, 103, 104, 105, 103, 104, 105, 106, 104, 105, 106, 107, 105, 106, 107, 108, 106, 107, 108, 109, 107, 108, 109, 110, 108, 109, 110, 111, 109, 110, 111, 112, 110, 111, 112, 113] }] rfl (by omega) (by simp) (cells_strs w [{ data := #[97, 98, 99, 100, 98, 99, 100, 101, 99, 100, 101, 102, 100, 101, 102, 103, 101, 102, 103, 104, 102, 103, 104, 105, 103, 104, 105, 106, 104, 105, 106, 107, 105, 106, 107, 108, 106, 107, 108, 109, 107, 108, 109, 110, 108, 109, 110, 111, 109, 110, 111, 112, 110, 111, 112, 113] }]) (by decide)).mono ?_
  rintro e w' ⟨rfl, h2⟩
  exact ⟨rfl, hb.trans (h2.mono (by simp))⟩
theorem sum_nothing (w : World) (ht : Tabs w) (h4 : 4 ≤ w.heap.size) :
    Calls Tryd.prog 16 #[.slice (some ⟨w.heap.size, 0, none⟩) 1 1] (w.alloc (.cells #[.string { data := #[] }] 9)) fun e w' => e = .returned (.string (str (shaL []))) ∧ Below w.heap.size w w' := by
  have hb : Below w.heap.size w (w.alloc (.cells #[.string { data := #[] }] 9)) := (Below.refl _ _).alloc (Nat.le_refl _) _
  refine (sum_some _ (ht.below hb (by omega)) (by simp; omega) w.heap.size 0 1 1 [{ data := #[] }] rfl (by omega) (by simp) (cells_strs w [{ data := #[] }]) (by decide)).mono ?_
  rintro e w' ⟨rfl, h2⟩
  exact ⟨rfl, hb.trans (h2.mono (by simp))⟩

set_option maxRecDepth 20000 in
set_option maxHeartbeats 1000000 in
theorem known_any (w : World) (ht : Tabs w) (h4 : 4 ≤ w.heap.size) :
    Calls Tryd.prog 17 #[] w fun e w' => e = .returned (.bool true) ∧ Below w.heap.size w w' := by
  go_enter Tryd.func17, Tryd.ntmps17
  go_wp2_with (go_at_call 16; refine (sum_none w ht h4).mono ?_; rintro e w1 ⟨rfl, hb1⟩)
  have z1 := hb1.size
  refine (hex_empty w1).mono ?_
  rintro e w2 ⟨rfl, hb2'⟩
  have hb2 : Below w.heap.size w w2 := hb1.trans (hb2'.mono z1)
  clear hb2'
  have ht2 := ht.below hb2 (by omega)
  have z2 := hb2.size
  go_wp2_with (go_at_call 16; refine (sum_abc w2 ht2 (by omega)).mono ?_; rintro e w3 ⟨rfl, hb3⟩)
  refine (hex_abc w3).mono ?_
  rintro e w4 ⟨rfl, hb4'⟩
  have hb4 : Below w.heap.size w w4 := (hb2.trans (hb3.mono z2)).trans (hb4'.mono (hb2.trans (hb3.mono z2)).size)
  clear hb4'
  go_wp2
  go_ret
  exact ⟨rfl, hb4⟩

end Go.Proofs.YtgeadhgomhgmoaaDoor
