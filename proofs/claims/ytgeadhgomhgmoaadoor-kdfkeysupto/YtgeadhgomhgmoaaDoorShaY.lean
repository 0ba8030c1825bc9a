import Derived.Test.YtgeadhgomhgmoaaDoorShaX
import Derived.Test.YtgeadhgomhgmoaaDoorShaN
namespace Go.Proofs.YtgeadhgomhgmoaaDoor
open Go.RowKit Go.Lib Go.Deep

theorem num_any (n : Int) (w : World) : Calls Tryd.prog 10 #[.int .i64 n] w fun e w' => e = .returned (.int .i64 n) ∧ w = w' := by
  go_enter Tryd.func10, Tryd.ntmps10
  go_wp2
  go_ret
  exact ⟨rfl, rfl⟩

theorem restore_good (s : ByteArray) (w : World) (ht : Tabs w) (h4 : 4 ≤ w.heap.size) (hg : Good s.data.toList) :
    Calls Tryd.prog 9 #[.string s] w fun e w' => ∃ q, e = .returned (.tuple #[.pointer (some ⟨q, 0, none⟩), .int .i64 0]) ∧ w.heap.size ≤ q ∧ Hs w' q (w8 (stWords s.data.toList)) (s.data.toList.drop 40) (stCount s.data.toList) ∧ Below w.heap.size w w' := by
  refine (restore_any s w ht h4).mono ?_
  rintro e w' ⟨⟨_, q, h1, h2, h3⟩ | ⟨h, _⟩, hb⟩
  · exact ⟨q, h1, h2, h3, hb⟩
  · exact absurd hg h
theorem restore_bad (s : ByteArray) (w : World) (ht : Tabs w) (h4 : 4 ≤ w.heap.size) (hg : ¬ Good s.data.toList) :
    Calls Tryd.prog 9 #[.string s] w fun e w' => e = .returned (.tuple #[.pointer none, .int .i64 21]) ∧ Below w.heap.size w w' := by
  refine (restore_any s w ht h4).mono ?_
  rintro e w' ⟨⟨h, _⟩ | ⟨_, h1⟩, hb⟩
  · exact absurd h hg
  · exact ⟨h1, hb⟩

theorem sum_one (s : ByteArray) (w : World) (ht : Tabs w) (h4 : 4 ≤ w.heap.size) (hs : s.size < 1099511627776) :
    Calls Tryd.prog 16 #[.slice (some ⟨w.heap.size, 0, none⟩) 1 1] (w.alloc (.cells #[.string s] 9)) fun e w' => e = .returned (.string (str (shaL s.data.toList))) ∧ Below w.heap.size w w' := by
  have hb : Below w.heap.size w (w.alloc (.cells #[.string s] 9)) := (Below.refl _ _).alloc (Nat.le_refl _) _
  have hj : joinL [s] = s.data.toList := by simp [joinL]
  have h := sum_some _ (ht.below hb (by omega)) (by simp; omega) w.heap.size 0 1 1 [s] rfl (by omega) (by simp) (cells_strs w [s]) (by rw [hj, ← size_eq]; exact hs)
  rw [hj] at h
  refine h.mono ?_
  rintro e w' ⟨rfl, h2⟩
  exact ⟨rfl, hb.trans (h2.mono (by simp))⟩
theorem beyond_one (s : ByteArray) (w : World) :
    Calls Tryd.prog 12 #[.slice (some ⟨w.heap.size, 0, none⟩) 1 1] (w.alloc (.cells #[.string s] 9)) fun e w' => ∃ v, e = .returned (.bool v) ∧ (v = false → s.size ≤ 2147483646) ∧ Below w.heap.size w w' := by
  have hb : Below w.heap.size w (w.alloc (.cells #[.string s] 9)) := (Below.refl _ _).alloc (Nat.le_refl _) _
  have hj : joinL [s] = s.data.toList := by simp [joinL]
  refine (beyond_some _ w.heap.size 0 1 1 [s] rfl (by omega) (cells_strs w [s])).mono ?_
  rintro e w' ⟨v, rfl, h2, rfl⟩
  exact ⟨v, rfl, fun h => by have := h2 h; rw [hj, ← size_eq] at this; omega, hb⟩

/-- the state of a sum that took a text -/
def stateOf (l : List UInt8) : List UInt8 := stateL (eat first l).1 (eat first l).2 l.length
theorem stateOf_good (l : List UInt8) (h : l.length ≤ 1099511627776) : Good (stateOf l) :=
  good_state _ (eat_OK _ _ first_OK) _ _ h (eat_length _ _) fun h => by rw [eat_short first l h]
theorem stateOf_length (l : List UInt8) : (stateOf l).length = 40 + l.length % 64 := by rw [stateOf, stateL_length, eat_length]
theorem stateOf_back (l : List UInt8) (h : l.length ≤ 1099511627776) : w8 (stWords (stateOf l)) = (eat first l).1 ∧ (stateOf l).drop 40 = (eat first l).2 ∧ stCount (stateOf l) = l.length := by
  refine ⟨?_, ?_, ?_⟩
  · rw [stateOf, stWords_state _ (eat_OK _ _ first_OK), w8_of]
  · rw [stateOf, stateL_rest]
  · rw [stateOf, stCount_state _ _ _ (by omega)]

set_option maxRecDepth 20000 in
set_option maxHeartbeats 2000000 in
theorem shaStates_walk (state text : ByteArray) (w : World) (ht : Tabs w) (h4 : 4 ≤ w.heap.size) :
    Calls Tryd.prog 3 #[.string state, .string text] w fun e w' => e = .returned (.bool true) ∧ Below w.heap.size w w' := by
  obtain ⟨y, hy⟩ : ∃ y, str (stateOf text.data.toList) = y := ⟨_, rfl⟩
  have HY : Hid (str (stateL (eat first text.data.toList).1 (eat first text.data.toList).2 text.size) = y) := by show _ = _; rw [← hy, stateOf, size_eq]
  have hyd : y.data.toList = stateOf text.data.toList := by rw [← hy, str_data]
  have hys : y.size = 40 + text.size % 64 := by rw [size_eq, hyd, stateOf_length, ← size_eq]
  have hyi : (y.size : Int) = 40 + (text.size : Int) % 64 := by omega
  have htm : (text.size : Int).tmod 64 = (text.size : Int) % 64 := Int.tmod_eq_emod_of_nonneg (by omega)
  have hy0 : (0 : Int) ≤ (y.size : Int) - 1 := by omega
  have hy1 : (y.size : Int) - 1 ≤ (y.size : Int) := by omega
  have HRG : text.size ≤ 2147483646 → Hid (∀ W : World, Tabs W → 4 ≤ W.heap.size → Calls Tryd.prog 9 #[.string y] W fun e w' => ∃ q, e = .returned (.tuple #[.pointer (some ⟨q, 0, none⟩), .int .i64 0]) ∧ W.heap.size ≤ q ∧ Hs w' q (eat first text.data.toList).1 (eat first text.data.toList).2 text.size ∧ Below W.heap.size W w') := by
    intro hb W hT h4
    have hl : text.data.toList.length ≤ 1099511627776 := by rw [← size_eq]; omega
    obtain ⟨e1, e2, e3⟩ := stateOf_back _ hl
    have h := restore_good y W hT h4 (by rw [hyd]; exact stateOf_good _ hl)
    rw [hyd, e1, e2, e3, ← size_eq] at h
    exact h
  have HRC : text.size ≤ 2147483646 → Hid (∀ W : World, Tabs W → 4 ≤ W.heap.size → Calls Tryd.prog 9 #[.string (y.extract 0 (39 + text.size % 64))] W fun e w' => e = .returned (.tuple #[.pointer none, .int .i64 21]) ∧ Below W.heap.size W w') := by
    intro hb W hT h4
    refine restore_bad _ W hT h4 ?_
    have hr := eat_length first text.data.toList
    have h := not_good_cut (eat first text.data.toList).1 (eat first text.data.toList).2 text.size (by omega) (by rw [hr, ← size_eq])
    rw [extract_data, hyd, stateOf, List.drop_zero, show 39 + text.size % 64 - 0 = 39 + (eat first text.data.toList).2.length by rw [hr, ← size_eq]; omega, ← size_eq]
    exact h
  have HRL : text.size ≤ 2147483646 → Hid (∀ W : World, Tabs W → 4 ≤ W.heap.size → Calls Tryd.prog 9 #[.string (y ++ { data := #[120] })] W fun e w' => e = .returned (.tuple #[.pointer none, .int .i64 21]) ∧ Below W.heap.size W w') := by
    intro hb W hT h4
    refine restore_bad _ W hT h4 ?_
    have hr := eat_length first text.data.toList
    have h := not_good_long (eat first text.data.toList).1 (eat first text.data.toList).2 text.size 120 (by omega) (by rw [hr, ← size_eq])
    have e : (y ++ { data := #[120] } : ByteArray).data.toList = stateL (eat first text.data.toList).1 (eat first text.data.toList).2 text.size ++ [120] := by
      rw [ByteArray.data_append, Array.toList_append, hyd, stateOf, ← size_eq]
    rw [e]
    exact h
  have HSU : Hid (sumB (eat first text.data.toList).1 (eat first text.data.toList).2 text.size = shaL text.data.toList) := by show _ = _; rw [size_eq]; exact shaL_eat _
  clear hyd hy hys
  by_cases hg : Good state.data.toList
  · have HST : Hid (str (stateL (w8 (stWords state.data.toList)) (state.data.toList.drop 40) (stCount state.data.toList)) = state) := by show _ = _; rw [hg.state, str_of]
    go_enter Tryd.func3, Tryd.ntmps3
    go_wp2_with fail
    refine (restore_good state w ht h4 hg).mono ?_
    rintro e w1 ⟨q0, rfl, hq0, hs1, hb1⟩
    go_wp2_with (go_at_call 10; refine (num_any 0 _).mono ?_; rintro e w' ⟨rfl, rfl⟩)
    refine (state_any hs1).mono ?_
    rintro e w1' ⟨rfl, hb1a⟩
    rw [HST.out]
    have hb1' : Below w.heap.size w w1' := hb1.trans (hb1a.mono hb1.size)
    clear hb1a hb1 hs1
    go_wp2_with fail
    refine (beyond_one text w1').mono ?_
    rintro e w2 ⟨v, rfl, hv, hb2'⟩
    have hb2 : Below w.heap.size w w2 := hb1'.trans (hb2'.mono hb1'.size)
    clear hb2' hb1'
    cases v with
    | true =>
      go_wp2
      go_ret
      exact ⟨rfl, hb2⟩
    | false =>
      have hts := hv rfl
      have HRG := HRG hts
      have HRC := HRC hts
      have HRL := HRL hts
      have ht2 := ht.below hb2 (by omega)
      have z2 := hb2.size
      go_wp2_with fail
      refine (new_any w2 ht2 (by omega)).mono ?_
      rintro e w3 ⟨rfl, hs3, hb3', hz3, ht3⟩
      have hb3 : Below w.heap.size w w3 := hb2.trans (hb3'.mono z2)
      clear hb3'
      go_wp2_with fail
      refine (write_any hs3 ht3 text (by omega)).mono ?_
      rintro e w4 ⟨rfl, hs4, ho4, ht4⟩
      have hb4 : Below w.heap.size w w4 := hb3.trans (ho4.below hb3.size (by simp; omega))
      clear ho4 hs3 ht3
      rw [List.nil_append, Nat.zero_add] at hs4
      go_wp2_with fail
      refine (state_any hs4).mono ?_
      rintro e w5 ⟨rfl, hb5'⟩
      have hb5 : Below w.heap.size w w5 := hb4.trans (hb5'.mono hb4.size)
      clear hb5' hs4 ht4
      have ht5 := ht.below hb5 (by omega)
      have z5 := hb5.size
      rw [HY.out]
      go_wp2_with fail
      refine (HRG.out w5 ht5 (by omega)).mono ?_
      rintro e w6 ⟨q, rfl, hq, hs6, hb6'⟩
      have hb6 : Below w.heap.size w w6 := hb5.trans (hb6'.mono z5)
      clear hb6'
      have ht6 := ht.below hb6 (by omega)
      have z6 := hb6.size
      go_wp2_with (go_at_call 10; refine (num_any 0 _).mono ?_; rintro e w' ⟨rfl, rfl⟩)
      refine (HRC.out w6 ht6 (by omega)).mono ?_
      rintro e w7 ⟨rfl, hb7'⟩
      have hb7 : Below w.heap.size w w7 := hb6.trans (hb7'.mono z6)
      have hs7 := hs6.below hb7' hs6.lt
      clear hb7' hs6
      have ht7 := ht.below hb7 (by omega)
      have z7 := hb7.size
      go_wp2_with fail
      refine (HRL.out w7 ht7 (by omega)).mono ?_
      rintro e w8 ⟨rfl, hb8'⟩
      have hb8 : Below w.heap.size w w8 := hb7.trans (hb8'.mono z7)
      have hs8 := hs7.below hb8' hs7.lt
      clear hb8' hs7
      have ht8 := ht.below hb8 (by omega)
      have z8 := hb8.size
      go_wp2_with fail
      refine (hsum_any hs8 ht8 (by omega)).mono ?_
      rintro e w9 ⟨rfl, hb9'⟩
      have hb9 : Below w.heap.size w w9 := hb8.trans (hb9'.mono z8)
      have hs9 := hs8.below hb9' hs8.lt
      clear hb9' hs8
      have ht9 := ht.below hb9 (by omega)
      have z9 := hb9.size
      rw [HSU.out]
      go_wp2_with fail
      refine (sum_one text w9 ht9 (by omega) (by omega)).mono ?_
      rintro e w10 ⟨rfl, hb10'⟩
      have hb10 : Below w.heap.size w w10 := hb9.trans (hb10'.mono z9)
      have hs10 := hs9.below hb10' hs9.lt
      clear hb10' hs9
      have ht10 := ht.below hb10 (by omega)
      have z10 := hb10.size
      go_wp2_with fail
      refine (state_any hs10).mono ?_
      rintro e w11 ⟨rfl, hb11'⟩
      have hb11 : Below w.heap.size w w11 := hb10.trans (hb11'.mono z10)
      clear hb11' hs10
      have ht11 := ht.below hb11 (by omega)
      have z11 := hb11.size
      rw [HY.out]
      go_wp2_with (first | (go_at_call 10; refine (num_any 21 _).mono ?_; rintro e w' ⟨rfl, rfl⟩) | (go_at_call 17; refine (known_any w11 ht11 (by omega)).mono ?_; rintro e w12 ⟨rfl, hb12⟩))
      go_ret
      exact ⟨rfl, hb11.trans (hb12.mono z11)⟩
  · go_enter Tryd.func3, Tryd.ntmps3
    go_wp2_with fail
    refine (restore_bad state w ht h4 hg).mono ?_
    rintro e w1 ⟨rfl, hb1⟩
    go_wp2_with (go_at_call 10; refine (num_any 21 _).mono ?_; rintro e w' ⟨rfl, rfl⟩)
    refine (beyond_one text w1).mono ?_
    rintro e w2 ⟨v, rfl, hv, hb2'⟩
    have hb2 : Below w.heap.size w w2 := hb1.trans (hb2'.mono hb1.size)
    clear hb2' hb1
    cases v with
    | true =>
      go_wp2
      go_ret
      exact ⟨rfl, hb2⟩
    | false =>
      have hts := hv rfl
      have HRG := HRG hts
      have HRC := HRC hts
      have HRL := HRL hts
      have ht2 := ht.below hb2 (by omega)
      have z2 := hb2.size
      go_wp2_with fail
      refine (new_any w2 ht2 (by omega)).mono ?_
      rintro e w3 ⟨rfl, hs3, hb3', hz3, ht3⟩
      have hb3 : Below w.heap.size w w3 := hb2.trans (hb3'.mono z2)
      clear hb3'
      go_wp2_with fail
      refine (write_any hs3 ht3 text (by omega)).mono ?_
      rintro e w4 ⟨rfl, hs4, ho4, ht4⟩
      have hb4 : Below w.heap.size w w4 := hb3.trans (ho4.below hb3.size (by simp; omega))
      clear ho4 hs3 ht3
      rw [List.nil_append, Nat.zero_add] at hs4
      go_wp2_with fail
      refine (state_any hs4).mono ?_
      rintro e w5 ⟨rfl, hb5'⟩
      have hb5 : Below w.heap.size w w5 := hb4.trans (hb5'.mono hb4.size)
      clear hb5' hs4 ht4
      have ht5 := ht.below hb5 (by omega)
      have z5 := hb5.size
      rw [HY.out]
      go_wp2_with fail
      refine (HRG.out w5 ht5 (by omega)).mono ?_
      rintro e w6 ⟨q, rfl, hq, hs6, hb6'⟩
      have hb6 : Below w.heap.size w w6 := hb5.trans (hb6'.mono z5)
      clear hb6'
      have ht6 := ht.below hb6 (by omega)
      have z6 := hb6.size
      go_wp2_with (go_at_call 10; refine (num_any 0 _).mono ?_; rintro e w' ⟨rfl, rfl⟩)
      refine (HRC.out w6 ht6 (by omega)).mono ?_
      rintro e w7 ⟨rfl, hb7'⟩
      have hb7 : Below w.heap.size w w7 := hb6.trans (hb7'.mono z6)
      have hs7 := hs6.below hb7' hs6.lt
      clear hb7' hs6
      have ht7 := ht.below hb7 (by omega)
      have z7 := hb7.size
      go_wp2_with fail
      refine (HRL.out w7 ht7 (by omega)).mono ?_
      rintro e w8 ⟨rfl, hb8'⟩
      have hb8 : Below w.heap.size w w8 := hb7.trans (hb8'.mono z7)
      have hs8 := hs7.below hb8' hs7.lt
      clear hb8' hs7
      have ht8 := ht.below hb8 (by omega)
      have z8 := hb8.size
      go_wp2_with fail
      refine (hsum_any hs8 ht8 (by omega)).mono ?_
      rintro e w9 ⟨rfl, hb9'⟩
      have hb9 : Below w.heap.size w w9 := hb8.trans (hb9'.mono z8)
      have hs9 := hs8.below hb9' hs8.lt
      clear hb9' hs8
      have ht9 := ht.below hb9 (by omega)
      have z9 := hb9.size
      rw [HSU.out]
      go_wp2_with fail
      refine (sum_one text w9 ht9 (by omega) (by omega)).mono ?_
      rintro e w10 ⟨rfl, hb10'⟩
      have hb10 : Below w.heap.size w w10 := hb9.trans (hb10'.mono z9)
      have hs10 := hs9.below hb10' hs9.lt
      clear hb10' hs9
      have ht10 := ht.below hb10 (by omega)
      have z10 := hb10.size
      go_wp2_with fail
      refine (state_any hs10).mono ?_
      rintro e w11 ⟨rfl, hb11'⟩
      have hb11 : Below w.heap.size w w11 := hb10.trans (hb11'.mono z10)
      clear hb11' hs10
      have ht11 := ht.below hb11 (by omega)
      have z11 := hb11.size
      rw [HY.out]
      go_wp2_with (first | (go_at_call 10; refine (num_any 21 _).mono ?_; rintro e w' ⟨rfl, rfl⟩) | (go_at_call 17; refine (known_any w11 ht11 (by omega)).mono ?_; rintro e w12 ⟨rfl, hb12⟩))
      go_ret
      exact ⟨rfl, hb11.trans (hb12.mono z11)⟩

end Go.Proofs.YtgeadhgomhgmoaaDoor
