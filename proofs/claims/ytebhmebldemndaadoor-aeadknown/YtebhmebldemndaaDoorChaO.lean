import Derived.Test.YtebhmebldemndaaDoorChaM
namespace Go.Proofs.YtebhmebldemndaaDoor.Cha
open Go.RowKit Go.Lib Go.Deep

theorem block_yes (key nonce : ByteArray) (c : Nat) (hk : key.size = 32) (hn : nonce.size = 12) (hc : c < 4294967296) (w : World) (hT : CTabs w) (h3 : 4 ≤ w.heap.size) :
    Calls Tryd.prog 18 #[.string key, .int .i64 (c : Int), .string nonce] w fun e w' => e = .returned (.tuple #[.string (str (blockL key.data.toList c nonce.data.toList)), .int .i64 0]) ∧ Below w.heap.size w w' := by
  have hf := fault_any key nonce 12 (by unfold maxLen; omega) (by unfold maxLen; omega) w
  rw [fault_ok hk hn] at hf
  have hiw := isWord_yes c hc w
  have hss := streamState_any key nonce c hk hn hc w hT h3
  have hS : St (streamL key.data.toList c nonce.data.toList) := stateL_st _ _
  have HB : Hid (blockL key.data.toList c nonce.data.toList = blockOf (streamL key.data.toList c nonce.data.toList)) := rfl
  revert hss hS HB
  generalize streamL key.data.toList c nonce.data.toList = s
  intro hss hS HB
  go_enter Tryd.func18, Tryd.ntmps18
  go_wp2_with fail
  refine hf.mono ?_
  rintro e w1 ⟨rfl, rfl⟩
  go_wp2_with fail
  refine hiw.mono ?_
  rintro e w1 ⟨rfl, rfl⟩
  go_wp2_with fail
  refine hss.mono ?_
  rintro e w1 ⟨rfl, hb1⟩
  have z1 := hb1.size
  have hbl := block_any s hS w1 (hT.below hb1 h3) (by omega)
  clear hss hf hiw
  go_wp2_with (go_at_call 33; refine hbl.mono ?_; rintro e w2 ⟨rfl, hb2⟩)
  go_ret2
  rw [HB.out]
  exact ⟨rfl, hb1.trans (hb2.mono z1)⟩

theorem block_no (key nonce : ByteArray) (c : Int) (hk : key.size ≤ maxLen) (hn : nonce.size ≤ maxLen) (h : ¬ (key.size = 32 ∧ nonce.size = 12)) (w : World) :
    Calls Tryd.prog 18 #[.string key, .int .i64 c, .string nonce] w fun e w' => e = .returned (.tuple #[.string { data := #[] }, .int .i64 (faultN key nonce 12)]) ∧ w = w' := by
  have hf := fault_any key nonce 12 hk hn w
  rcases fault_no h with h40 | h40
  · rw [h40] at hf ⊢
    go_enter Tryd.func18, Tryd.ntmps18
    go_wp2_with fail
    refine hf.mono ?_
    rintro e w1 ⟨rfl, rfl⟩
    go_wp2
    go_ret2
    exact ⟨rfl, rfl⟩
  · rw [h40] at hf ⊢
    go_enter Tryd.func18, Tryd.ntmps18
    go_wp2_with fail
    refine hf.mono ?_
    rintro e w1 ⟨rfl, rfl⟩
    go_wp2
    go_ret2
    exact ⟨rfl, rfl⟩

theorem block_far (key nonce : ByteArray) (c : Int) (hk : key.size = 32) (hn : nonce.size = 12) (hc : ¬ (0 ≤ c ∧ c < 4294967296)) (w : World) :
    Calls Tryd.prog 18 #[.string key, .int .i64 c, .string nonce] w fun e w' => e = .returned (.tuple #[.string { data := #[] }, .int .i64 42]) ∧ w = w' := by
  have hf := fault_any key nonce 12 (by unfold maxLen; omega) (by unfold maxLen; omega) w
  rw [fault_ok hk hn] at hf
  have hiw := isWord_no c hc w
  clear hc
  go_enter Tryd.func18, Tryd.ntmps18
  go_wp2_with fail
  refine hf.mono ?_
  rintro e w1 ⟨rfl, rfl⟩
  go_wp2_with fail
  refine hiw.mono ?_
  rintro e w1 ⟨rfl, rfl⟩
  go_wp2
  go_ret2
  exact ⟨rfl, rfl⟩

end Go.Proofs.YtebhmebldemndaaDoor.Cha
