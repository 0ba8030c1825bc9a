import Derived.Test.YtjcmpfnndjlpkabDoorChaR
namespace Go.Proofs.YtjcmpfnndjlpkabDoor
open Go.RowKit Go.Lib Go.Deep

theorem xor_no (key nonce data : ByteArray) (c : Int) (hk : key.size ≤ maxLen) (hn : nonce.size ≤ maxLen) (h : ¬ (key.size = 32 ∧ nonce.size = 12)) (w : World) :
    Calls Tryd.prog 10 #[.string key, .int .i64 c, .string nonce, .string data] w fun e w' => e = .returned (.tuple #[.string { data := #[] }, .int .i64 (faultN key nonce 12)]) ∧ w = w' := by
  have hf := fault_any key nonce 12 hk hn w
  rcases fault_no h with h40 | h40
  · rw [h40] at hf ⊢
    go_enter Tryd.func10, Tryd.ntmps10
    go_wp2_with fail
    refine hf.mono ?_
    rintro e w1 ⟨rfl, rfl⟩
    go_wp2
    go_ret2
    exact ⟨rfl, rfl⟩
  · rw [h40] at hf ⊢
    go_enter Tryd.func10, Tryd.ntmps10
    go_wp2_with fail
    refine hf.mono ?_
    rintro e w1 ⟨rfl, rfl⟩
    go_wp2
    go_ret2
    exact ⟨rfl, rfl⟩

/-- is there a counter for each block? -/
def room (c : Int) (n : Nat) : Prop := (0 ≤ c ∧ c < 4294967296) ∧ c + ((n + 63) / 64 : Nat) ≤ 4294967296

set_option maxHeartbeats 1000000 in
theorem xor_far (key nonce data : ByteArray) (c : Int) (hk : key.size = 32) (hn : nonce.size = 12) (hd : data.size ≤ 281474976710656) (hc : ¬ room c data.size) (w : World) :
    Calls Tryd.prog 10 #[.string key, .int .i64 c, .string nonce, .string data] w fun e w' => e = .returned (.tuple #[.string { data := #[] }, .int .i64 42]) ∧ w = w' := by
  have hf := fault_any key nonce 12 (by unfold maxLen; omega) (by unfold maxLen; omega) w
  rw [fault_ok hk hn] at hf
  by_cases hw : 0 ≤ c ∧ c < 4294967296
  · obtain ⟨c, rfl⟩ := Int.eq_ofNat_of_zero_le hw.1
    have hiw := isWord_yes c (by omega) w
    have hbi := blocksIn_any data.size hd w
    have hgt : ¬ ((c : Int) + ((data.size + 63) / 64 : Nat) ≤ 4294967296) := fun h => hc ⟨hw, h⟩
    obtain ⟨nb, hnb⟩ : ∃ nb, (data.size + 63) / 64 = nb := ⟨_, rfl⟩
    rw [hnb] at hbi hgt
    have hsb : IntKind.i64.wrap (4294967296 - (c : Int)) = 4294967296 - (c : Int) := by rw [IntKind.wrap_i64]; omega
    have hgt1 : (4294967296 - (c : Int) < (nb : Int)) := by omega
    have hcl : (c : Int) < 4294967296 := hw.2
    clear hc hw hgt hnb
    go_enter Tryd.func10, Tryd.ntmps10
    go_wp2_with fail
    refine hf.mono ?_
    rintro e w1 ⟨rfl, rfl⟩
    go_wp2_with fail
    refine hiw.mono ?_
    rintro e w1 ⟨rfl, rfl⟩
    go_wp2_with fail
    refine hbi.mono ?_
    rintro e w1 ⟨rfl, rfl⟩
    go_wp2
    go_ret2
    exact ⟨rfl, rfl⟩
  · have hiw := isWord_no c hw w
    clear hc hw
    go_enter Tryd.func10, Tryd.ntmps10
    go_wp2_with fail
    refine hf.mono ?_
    rintro e w1 ⟨rfl, rfl⟩
    go_wp2_with fail
    refine hiw.mono ?_
    rintro e w1 ⟨rfl, rfl⟩
    go_wp2
    go_ret2
    exact ⟨rfl, rfl⟩

theorem xxor_no (key nonce data : ByteArray) (c : Int) (hk : key.size ≤ maxLen) (hn : nonce.size ≤ maxLen) (h : ¬ (key.size = 32 ∧ nonce.size = 24)) (w : World) :
    Calls Tryd.prog 12 #[.string key, .int .i64 c, .string nonce, .string data] w fun e w' => e = .returned (.tuple #[.string { data := #[] }, .int .i64 (faultN key nonce 24)]) ∧ w = w' := by
  have hf := fault_any key nonce 24 hk hn w
  rcases fault_no h with h40 | h40
  · rw [h40] at hf ⊢
    go_enter Tryd.func12, Tryd.ntmps12
    go_wp2_with fail
    refine hf.mono ?_
    rintro e w1 ⟨rfl, rfl⟩
    go_wp2
    go_ret2
    exact ⟨rfl, rfl⟩
  · rw [h40] at hf ⊢
    go_enter Tryd.func12, Tryd.ntmps12
    go_wp2_with fail
    refine hf.mono ?_
    rintro e w1 ⟨rfl, rfl⟩
    go_wp2
    go_ret2
    exact ⟨rfl, rfl⟩

/-- the two halves of a long nonce -/
theorem long_parts (nonce : ByteArray) (hn : nonce.size = 24) : ∃ n1 n2 : ByteArray, (∀ W, (Instr.slice 9 (.string nonce) none (some (.int .i64 16)) none).run Tryd.prog W = .ok (.string n1) W) ∧ (∀ W, (Instr.slice 9 (.string nonce) (some (.int .i64 16)) none none).run Tryd.prog W = .ok (.string n2) W) ∧
    n1.size = 16 ∧ n2.size = 8 ∧ n1.data.toList = nonce.data.toList.take 16 ∧ n2.data.toList = nonce.data.toList.drop 16 := by
  have hl : nonce.data.toList.length = 24 := by rw [← size_eq]; exact hn
  refine ⟨nonce.extract 0 16, nonce.extract 16 nonce.size, ?_, ?_, by simp [hn], by simp [hn], ?_, ?_⟩
  · intro W
    exact run_slice_string_h (P := Tryd.prog) W 9 nonce Tryd.underlying9 .i64 16 (by omega) (by omega)
  · intro W
    exact run_slice_string_l (P := Tryd.prog) W 9 nonce Tryd.underlying9 .i64 16 (by omega) (by omega)
  · rw [extract_data, List.drop_zero, Nat.sub_zero]
  · rw [extract_data, List.take_of_length_le (by rw [List.length_drop]; omega)]

/-- 'XXor' is 'Xor' of another key and nonce: its answer is that one's -/
theorem xxor_of (key nonce data : ByteArray) (c : Int) (hk : key.size = 32) (hn : nonce.size = 24) (w : World) (hT : CTabs w) (h3 : 3 ≤ w.heap.size) (v : Value) (e0 : Int)
    (hx : ∀ (k2 n2 : ByteArray), k2.data.toList = hchL key.data.toList (nonce.data.toList.take 16) → n2.data.toList = [0, 0, 0, 0] ++ nonce.data.toList.drop 16 → k2.size = 32 → n2.size = 12 → ∀ W, CTabs W → 3 ≤ W.heap.size →
      Calls Tryd.prog 10 #[.string k2, .int .i64 c, .string n2, .string data] W fun e w' => e = .returned (.tuple #[v, .int .i64 e0]) ∧ Below W.heap.size W w') :
    Calls Tryd.prog 12 #[.string key, .int .i64 c, .string nonce, .string data] w fun e w' => e = .returned (.tuple #[v, .int .i64 e0]) ∧ Below w.heap.size w w' := by
  have hf := fault_any key nonce 24 (by unfold maxLen; omega) (by unfold maxLen; omega) w
  rw [fault_ok hk hn] at hf
  obtain ⟨n1, n2, hs1, hs2, hz1, hz2, hd1, hd2⟩ := long_parts nonce hn
  have hnk := fun W hT h3 => newKey_any key n1 hk hz1 W hT h3
  rw [hd1] at hnk
  have d2 : (({ data := #[0, 0, 0, 0] } : ByteArray) ++ n2).data.toList = [0, 0, 0, 0] ++ nonce.data.toList.drop 16 := by rw [ByteArray.data_append, Array.toList_append, hd2]
  have hx2 := fun W hT h3 => hx (str (hchL key.data.toList (nonce.data.toList.take 16))) (({ data := #[0, 0, 0, 0] } : ByteArray) ++ n2) (str_data _) d2 (by rw [str_size, hchL_length]) (by rw [size_eq, d2, List.length_append, List.length_drop, ← size_eq, hn]; rfl) W hT h3
  have a1 : (({ data := #[0, 0, 0, 0] } : ByteArray)).size + n2.size ≤ 9223372036854775807 := by rw [hz2]; decide
  clear hx d2 hd1 hd2
  revert hnk hx2
  generalize str (hchL key.data.toList (nonce.data.toList.take 16)) = y
  intro hnk hx2
  go_enter Tryd.func12, Tryd.ntmps12
  go_wp2_with fail
  refine hf.mono ?_
  rintro e w1 ⟨rfl, rfl⟩
  go_wp2_with fail
  go_quiet (fail)
  have HB := below_drewN w nq
  refine with_world (R := fun W => Exit.then _ _ _ _ W) (Q := fun W => Below w.heap.size w W) _ HB ?_
  clear HB
  intro w2 hb2
  have z2 := hb2.size
  have hn2 := hnk w2 (hT.below hb2 h3) (by omega)
  go_wp2_with fail
  refine hn2.mono ?_
  rintro e w3 ⟨rfl, hb3'⟩
  have hb3 := hb2.trans (hb3'.mono z2)
  clear hb3' hn2 hnk
  have z3 := hb3.size
  have hx3 := hx2 w3 (hT.below hb3 h3) (by omega)
  go_wp2_with fail
  refine hx3.mono ?_
  rintro e w4 ⟨rfl, hb4⟩
  go_wp2
  go_ret2
  exact ⟨rfl, hb3.trans (hb4.mono z3)⟩

end Go.Proofs.YtjcmpfnndjlpkabDoor
