import Derived.Test.YtjinhaallkgagaaTapeE
namespace Go.Proofs.Ytjinhaallkgagaa
open Go.RowKit Go.Lib Go.Deep

theorem hidden {p : Prop} (h : p) : Hid p := h

set_option maxHeartbeats 1000000 in
set_option maxRecDepth 20000 in
theorem split_fits (a0 : ByteArray) (a b : Int) (w : World) (h : a0.size ≤ 67108864) (ha : 0 ≤ a) (hb : 0 ≤ b) (hab : a + b ≤ (a0.size : Int)) :
    Calls Try.prog 5 #[.string a0, .int .i64 a, .int .i64 b] w fun e w' => e = .returned (.bool true) ∧ Below w.heap.size w w' := by
  have h1 : ¬ (67108864 : Int) < (a0.size : Int) := by omega
  have h2 : ¬ a < 0 := by omega
  have h3 : ¬ b < 0 := by omega
  have h4 : ¬ (67108864 : Int) < a := by omega
  have h5 : ¬ (67108864 : Int) < b := by omega
  have HL : Hid (a0.size = a0.data.toList.length) := size_eq a0
  go_enter Try.func5, Try.ntmps5
  go_wp2_with (go_at_call 9; refine (num_any _ _).mono ?_; rintro e w' ⟨rfl, rfl⟩)
  refine (new_tape a0 _ h).mono ?_
  rintro e w1 ⟨rfl, hx, ho1, hz1⟩
  have HZ1 : Hid (w1.heap.size = w.heap.size + 3) := hz1
  clear hz1
  go_wp2_with (go_at_call 9; refine (num_any _ _).mono ?_; rintro e w' ⟨rfl, rfl⟩)
  refine (new_tape a0 _ h).mono ?_
  rintro e w2 ⟨rfl, hy, ho2, hz2⟩
  have T2 : Two w2 w.heap.size w1.heap.size a0.data.toList a0.data.toList 0 0 := by
    have e1 := HZ1.out
    exact ⟨hx.only ho2 (by omega) (by simp) (by simp) (by simp), hy, by omega, by omega⟩
  have B2 : Below w.heap.size w w2 := (ho1.below (Nat.le_refl _) (by simp)).trans (ho2.below (by have := HZ1.out; omega) (by simp))
  clear hx hy ho1 ho2 hz2
  go_wp2_with (go_at_call 9; refine (num_any _ _).mono ?_; rintro e w' ⟨rfl, rfl⟩)
  refine (draw_takeS T2.one a (by omega) (by have := HL.out; omega)).mono ?_
  rintro e w3 ⟨s, rfl, hs, hx, ho⟩
  have T3 := T2.first hx ho
  have B3 := below_pair B2 (Nat.le_refl _) ho (by omega) (by omega)
  clear hx ho T2 B2
  go_wp2_with (go_at_call 9; refine (num_any _ _).mono ?_; rintro e w' ⟨rfl, rfl⟩)
  refine (draw_takeS T3.one b (by omega) (by have := HL.out; simp; omega)).mono ?_
  rintro e w4 ⟨t, rfl, ht, hx, ho⟩
  have T4 := T3.first hx ho
  have B4 := below_pair B3 (Nat.le_refl _) ho (by omega) (by omega)
  clear hx ho T3 B3
  go_wp2_with (go_at_call 9; refine (num_any _ _).mono ?_; rintro e w' ⟨rfl, rfl⟩)
  refine (draw_takeS T4.two (a + b) (by omega) (by have := HL.out; omega)).mono ?_
  rintro e w5 ⟨u, rfl, hu, hx, ho⟩
  have T5 := T4.second hx ho
  have B5 := below_pair B4 (Nat.le_refl _) ho (by have := T4.far; omega) (by have := T4.far; omega)
  clear hx ho T4 B4
  have hst : (s ++ t).toList = u.toList := by
    rw [toList_data, toList_data, ByteArray.data_append, Array.toList_append, hs.out, ht.out, hu.out, show ((a + b) : Int).toNat = (a : Int).toNat + (b : Int).toNat from by omega, List.take_add]
  have hsz : (s.size : Int) = a := by
    have e1 := HL.out
    rw [size_eq s, hs.out, List.length_take]
    omega
  have hsz2 : (t.size : Int) = b := by
    have e1 := HL.out
    rw [size_eq t, ht.out, List.length_take, List.length_drop]
    omega
  have L1 : (((List.drop (b : Int).toNat (List.drop (a : Int).toNat a0.data.toList)).length : Nat) : Int) = (a0.size : Int) - a - b := by have := HL.out; simp; omega
  have L2 : (((List.drop ((a + b) : Int).toNat a0.data.toList).length : Nat) : Int) = (a0.size : Int) - a - b := by have := HL.out; simp; omega
  have D1 : ((0 + (a : Int).toNat + (b : Int).toNat : Nat) : Int) = (a + b) := by omega
  have D2 : ((0 + ((a + b) : Int).toNat : Nat) : Int) = (a + b) := by omega
  have C1 := hidden (left_is T5.one _ L1)
  have C2 := hidden (left_is T5.two _ L2)
  have C3 := hidden (drawn_is T5.one _ D1)
  have C4 := hidden (drawn_is T5.two _ D2)
  clear L1 L2 D1 D2 hs ht hu T5
  go_wp2_with (first | (go_at_call 9; refine (num_any _ _).mono ?_; rintro e w' ⟨rfl, rfl⟩) | (go_at_call_of 10 (w1.heap.size); refine (C2.out).mono ?_; rintro e w' ⟨rfl, rfl⟩) | (go_at_call 10; refine (C1.out).mono ?_; rintro e w' ⟨rfl, rfl⟩) | (go_at_call_of 11 (w1.heap.size); refine (C4.out).mono ?_; rintro e w' ⟨rfl, rfl⟩) | (go_at_call 11; refine (C3.out).mono ?_; rintro e w' ⟨rfl, rfl⟩))
  go_ret
  exact ⟨rfl, B5⟩

set_option maxHeartbeats 1000000 in
set_option maxRecDepth 20000 in
theorem split_mid (a0 : ByteArray) (a b : Int) (w : World) (h : a0.size ≤ 67108864) (ha : 0 ≤ a) (hb : 0 ≤ b) (hA : a ≤ (a0.size : Int)) (hab : (a0.size : Int) < a + b) (hB : b ≤ 67108864) :
    Calls Try.prog 5 #[.string a0, .int .i64 a, .int .i64 b] w fun e w' => e = .returned (.bool true) ∧ Below w.heap.size w w' := by
  have h1 : ¬ (67108864 : Int) < (a0.size : Int) := by omega
  have h2 : ¬ a < 0 := by omega
  have h3 : ¬ b < 0 := by omega
  have h4 : ¬ (67108864 : Int) < a := by omega
  have h5 : ¬ (67108864 : Int) < b := by omega
  have HL : Hid (a0.size = a0.data.toList.length) := size_eq a0
  have h6 : ¬ a + b ≤ (a0.size : Int) := by omega
  go_enter Try.func5, Try.ntmps5
  go_wp2_with (go_at_call 9; refine (num_any _ _).mono ?_; rintro e w' ⟨rfl, rfl⟩)
  refine (new_tape a0 _ h).mono ?_
  rintro e w1 ⟨rfl, hx, ho1, hz1⟩
  have HZ1 : Hid (w1.heap.size = w.heap.size + 3) := hz1
  clear hz1
  go_wp2_with (go_at_call 9; refine (num_any _ _).mono ?_; rintro e w' ⟨rfl, rfl⟩)
  refine (new_tape a0 _ h).mono ?_
  rintro e w2 ⟨rfl, hy, ho2, hz2⟩
  have T2 : Two w2 w.heap.size w1.heap.size a0.data.toList a0.data.toList 0 0 := by
    have e1 := HZ1.out
    exact ⟨hx.only ho2 (by omega) (by simp) (by simp) (by simp), hy, by omega, by omega⟩
  have B2 : Below w.heap.size w w2 := (ho1.below (Nat.le_refl _) (by simp)).trans (ho2.below (by have := HZ1.out; omega) (by simp))
  clear hx hy ho1 ho2 hz2
  go_wp2_with (go_at_call 9; refine (num_any _ _).mono ?_; rintro e w' ⟨rfl, rfl⟩)
  refine (draw_takeS T2.one a (by omega) (by have := HL.out; omega)).mono ?_
  rintro e w3 ⟨s, rfl, hs, hx, ho⟩
  have T3 := T2.first hx ho
  have B3 := below_pair B2 (Nat.le_refl _) ho (by omega) (by omega)
  clear hx ho T2 B2
  go_wp2_with (go_at_call 9; refine (num_any _ _).mono ?_; rintro e w' ⟨rfl, rfl⟩)
  refine (draw_dry T3.one b (by have := HL.out; simp; omega)).mono ?_
  rintro e w4 ⟨rfl, hx, ho⟩
  have T4 := T3.first hx ho
  have B4 := below_pair B3 (Nat.le_refl _) ho (by omega) (by omega)
  clear hx ho T3 B3
  go_wp2_with (go_at_call 9; refine (num_any _ _).mono ?_; rintro e w' ⟨rfl, rfl⟩)
  refine (draw_dry T4.two (a + b) (by have := HL.out; omega)).mono ?_
  rintro e w5 ⟨rfl, hx, ho⟩
  have T5 := T4.second hx ho
  have B5 := below_pair B4 (Nat.le_refl _) ho (by have := T4.far; omega) (by have := T4.far; omega)
  clear hx ho T4 B4
  have C1 := hidden (left_is T5.one 0 rfl)
  have C2 := hidden (left_is T5.two 0 rfl)
  have C3 := hidden (drawn_is T5.one _ rfl)
  have C4 := hidden (drawn_is T5.two 0 rfl)
  clear T5
  go_wp2_with (first | (go_at_call 9; refine (num_any _ _).mono ?_; rintro e w' ⟨rfl, rfl⟩) | (go_at_call_of 10 (w1.heap.size); refine (C2.out).mono ?_; rintro e w' ⟨rfl, rfl⟩) | (go_at_call 10; refine (C1.out).mono ?_; rintro e w' ⟨rfl, rfl⟩) | (go_at_call_of 11 (w1.heap.size); refine (C4.out).mono ?_; rintro e w' ⟨rfl, rfl⟩) | (go_at_call 11; refine (C3.out).mono ?_; rintro e w' ⟨rfl, rfl⟩))
  go_ret
  exact ⟨rfl, B5⟩

set_option maxHeartbeats 1000000 in
set_option maxRecDepth 20000 in
theorem split_dry (a0 : ByteArray) (a b : Int) (w : World) (h : a0.size ≤ 67108864) (ha : 0 ≤ a) (hA : (a0.size : Int) < a) (hA' : a ≤ 67108864) (hB : b ≤ 67108864) (hB' : 0 < b) :
    Calls Try.prog 5 #[.string a0, .int .i64 a, .int .i64 b] w fun e w' => e = .returned (.bool true) ∧ Below w.heap.size w w' := by
  have h1 : ¬ (67108864 : Int) < (a0.size : Int) := by omega
  have h2 : ¬ a < 0 := by omega
  have h3 : ¬ b < 0 := by omega
  have h4 : ¬ (67108864 : Int) < a := by omega
  have h5 : ¬ (67108864 : Int) < b := by omega
  have HL : Hid (a0.size = a0.data.toList.length) := size_eq a0
  have h6 : ¬ a + b ≤ (a0.size : Int) := by omega
  go_enter Try.func5, Try.ntmps5
  go_wp2_with (go_at_call 9; refine (num_any _ _).mono ?_; rintro e w' ⟨rfl, rfl⟩)
  refine (new_tape a0 _ h).mono ?_
  rintro e w1 ⟨rfl, hx, ho1, hz1⟩
  have HZ1 : Hid (w1.heap.size = w.heap.size + 3) := hz1
  clear hz1
  go_wp2_with (go_at_call 9; refine (num_any _ _).mono ?_; rintro e w' ⟨rfl, rfl⟩)
  refine (new_tape a0 _ h).mono ?_
  rintro e w2 ⟨rfl, hy, ho2, hz2⟩
  have T2 : Two w2 w.heap.size w1.heap.size a0.data.toList a0.data.toList 0 0 := by
    have e1 := HZ1.out
    exact ⟨hx.only ho2 (by omega) (by simp) (by simp) (by simp), hy, by omega, by omega⟩
  have B2 : Below w.heap.size w w2 := (ho1.below (Nat.le_refl _) (by simp)).trans (ho2.below (by have := HZ1.out; omega) (by simp))
  clear hx hy ho1 ho2 hz2
  go_wp2_with (go_at_call 9; refine (num_any _ _).mono ?_; rintro e w' ⟨rfl, rfl⟩)
  refine (draw_dry T2.one a (by have := HL.out; omega)).mono ?_
  rintro e w3 ⟨rfl, hx, ho⟩
  have T3 := T2.first hx ho
  have B3 := below_pair B2 (Nat.le_refl _) ho (by omega) (by omega)
  clear hx ho T2 B2
  go_wp2_with (go_at_call 9; refine (num_any _ _).mono ?_; rintro e w' ⟨rfl, rfl⟩)
  refine (draw_dry T3.one b (by simp <;> omega)).mono ?_
  rintro e w4 ⟨rfl, hx, ho⟩
  have T4 := T3.first hx ho
  have B4 := below_pair B3 (Nat.le_refl _) ho (by omega) (by omega)
  clear hx ho T3 B3
  go_wp2_with (go_at_call 9; refine (num_any _ _).mono ?_; rintro e w' ⟨rfl, rfl⟩)
  refine (draw_dry T4.two (a + b) (by have := HL.out; omega)).mono ?_
  rintro e w5 ⟨rfl, hx, ho⟩
  have T5 := T4.second hx ho
  have B5 := below_pair B4 (Nat.le_refl _) ho (by have := T4.far; omega) (by have := T4.far; omega)
  clear hx ho T4 B4
  have C1 := hidden (left_is T5.one 0 rfl)
  have C2 := hidden (left_is T5.two 0 rfl)
  have C3 := hidden (drawn_is T5.one _ rfl)
  have C4 := hidden (drawn_is T5.two 0 rfl)
  clear T5
  go_wp2_with (first | (go_at_call 9; refine (num_any _ _).mono ?_; rintro e w' ⟨rfl, rfl⟩) | (go_at_call_of 10 (w1.heap.size); refine (C2.out).mono ?_; rintro e w' ⟨rfl, rfl⟩) | (go_at_call 10; refine (C1.out).mono ?_; rintro e w' ⟨rfl, rfl⟩) | (go_at_call_of 11 (w1.heap.size); refine (C4.out).mono ?_; rintro e w' ⟨rfl, rfl⟩) | (go_at_call 11; refine (C3.out).mono ?_; rintro e w' ⟨rfl, rfl⟩))
  go_ret
  exact ⟨rfl, B5⟩

set_option maxHeartbeats 1000000 in
set_option maxRecDepth 20000 in
theorem split_dry0 (a0 : ByteArray) (a : Int) (w : World) (h : a0.size ≤ 67108864) (ha : 0 ≤ a) (hA : (a0.size : Int) < a) (hA' : a ≤ 67108864) :
    Calls Try.prog 5 #[.string a0, .int .i64 a, .int .i64 0] w fun e w' => e = .returned (.bool true) ∧ Below w.heap.size w w' := by
  have h1 : ¬ (67108864 : Int) < (a0.size : Int) := by omega
  have h2 : ¬ a < 0 := by omega
  have h4 : ¬ (67108864 : Int) < a := by omega
  have HL : Hid (a0.size = a0.data.toList.length) := size_eq a0
  have h6 : ¬ a ≤ (a0.size : Int) := by omega
  go_enter Try.func5, Try.ntmps5
  go_wp2_with (go_at_call 9; refine (num_any _ _).mono ?_; rintro e w' ⟨rfl, rfl⟩)
  refine (new_tape a0 _ h).mono ?_
  rintro e w1 ⟨rfl, hx, ho1, hz1⟩
  have HZ1 : Hid (w1.heap.size = w.heap.size + 3) := hz1
  clear hz1
  go_wp2_with (go_at_call 9; refine (num_any _ _).mono ?_; rintro e w' ⟨rfl, rfl⟩)
  refine (new_tape a0 _ h).mono ?_
  rintro e w2 ⟨rfl, hy, ho2, hz2⟩
  have T2 : Two w2 w.heap.size w1.heap.size a0.data.toList a0.data.toList 0 0 := by
    have e1 := HZ1.out
    exact ⟨hx.only ho2 (by omega) (by simp) (by simp) (by simp), hy, by omega, by omega⟩
  have B2 : Below w.heap.size w w2 := (ho1.below (Nat.le_refl _) (by simp)).trans (ho2.below (by have := HZ1.out; omega) (by simp))
  clear hx hy ho1 ho2 hz2
  go_wp2_with (go_at_call 9; refine (num_any _ _).mono ?_; rintro e w' ⟨rfl, rfl⟩)
  refine (draw_dry T2.one a (by have := HL.out; omega)).mono ?_
  rintro e w3 ⟨rfl, hx, ho⟩
  have T3 := T2.first hx ho
  have B3 := below_pair B2 (Nat.le_refl _) ho (by omega) (by omega)
  clear hx ho T2 B2
  go_wp2_with (go_at_call 9; refine (num_any _ _).mono ?_; rintro e w' ⟨rfl, rfl⟩)
  refine (draw_zero T3.one).mono ?_
  rintro e w4 ⟨rfl, hx, ho⟩
  have T4 := T3.first hx ho
  have B4 := below_pair B3 (Nat.le_refl _) ho (by omega) (by omega)
  clear hx ho T3 B3
  go_wp2_with (go_at_call 9; refine (num_any _ _).mono ?_; rintro e w' ⟨rfl, rfl⟩)
  refine (draw_dry T4.two a (by have := HL.out; omega)).mono ?_
  rintro e w5 ⟨rfl, hx, ho⟩
  have T5 := T4.second hx ho
  have B5 := below_pair B4 (Nat.le_refl _) ho (by have := T4.far; omega) (by have := T4.far; omega)
  clear hx ho T4 B4
  have C1 := hidden (left_is T5.one 0 rfl)
  have C2 := hidden (left_is T5.two 0 rfl)
  have C3 := hidden (drawn_is T5.one _ rfl)
  have C4 := hidden (drawn_is T5.two 0 rfl)
  clear T5
  go_wp2_with (first | (go_at_call 9; refine (num_any _ _).mono ?_; rintro e w' ⟨rfl, rfl⟩) | (go_at_call_of 10 (w1.heap.size); refine (C2.out).mono ?_; rintro e w' ⟨rfl, rfl⟩) | (go_at_call 10; refine (C1.out).mono ?_; rintro e w' ⟨rfl, rfl⟩) | (go_at_call_of 11 (w1.heap.size); refine (C4.out).mono ?_; rintro e w' ⟨rfl, rfl⟩) | (go_at_call 11; refine (C3.out).mono ?_; rintro e w' ⟨rfl, rfl⟩))
  go_ret
  exact ⟨rfl, B5⟩

end Go.Proofs.Ytjinhaallkgagaa
