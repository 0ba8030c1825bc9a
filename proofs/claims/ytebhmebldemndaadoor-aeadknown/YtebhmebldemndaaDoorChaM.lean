import Derived.Test.YtebhmebldemndaaDoorIswA
import Derived.Test.YtebhmebldemndaaDoorChaJ
import Derived.Test.YtebhmebldemndaaDoorChaK
import Derived.Test.YtebhmebldemndaaDoorChaL
namespace Go.Proofs.YtebhmebldemndaaDoor.Cha
open Go.RowKit Go.Lib Go.Deep

/-- the two faults that come ahead of all others -/
def faultN (key nonce : ByteArray) (size : Nat) : Int := if key.size ≠ 32 then 40 else if nonce.size ≠ size then 41 else 0

theorem fault_any (key nonce : ByteArray) (size : Nat) (_hk : key.size ≤ maxLen) (_hn : nonce.size ≤ maxLen) (w : World) :
    Calls Tryd.prog 23 #[.string key, .string nonce, .int .i64 (size : Int)] w fun e w' => e = .returned (.int .i64 (faultN key nonce size)) ∧ w = w' := by
  unfold maxLen at _hk _hn
  unfold faultN
  by_cases h1 : key.size = 32
  · have h1b : ((key.size : Int) != 32) = false := by rw [h1]; rfl
    have h1c : ((key.size : Int) == 32) = true := by rw [h1]; rfl
    rw [if_neg (by simp [h1])]
    by_cases h2 : nonce.size = size
    · rw [if_neg (by simp [h2])]
      go_enter Tryd.func23, Tryd.ntmps23
      go_wp2
      go_ret
      exact ⟨rfl, rfl⟩
    · have h2b : ((nonce.size : Int) == (size : Int)) = false := by simp; omega
      have h2c : ¬ ((nonce.size : Int) = (size : Int)) := by omega
      rw [if_pos h2]
      go_enter Tryd.func23, Tryd.ntmps23
      go_wp2
      go_ret
      exact ⟨rfl, rfl⟩
  · have h1b : ((key.size : Int) == 32) = false := by simp; omega
    have h1c : ¬ ((key.size : Int) = 32) := by omega
    rw [if_pos h1]
    go_enter Tryd.func23, Tryd.ntmps23
    go_wp2
    go_ret
    exact ⟨rfl, rfl⟩

theorem fault_ok {key nonce : ByteArray} {size : Nat} (h1 : key.size = 32) (h2 : nonce.size = size) : faultN key nonce size = 0 := by simp [faultN, h1, h2]
theorem fault_no {key nonce : ByteArray} {size : Nat} (h : ¬ (key.size = 32 ∧ nonce.size = size)) : faultN key nonce size = 40 ∨ faultN key nonce size = 41 := by
  unfold faultN
  by_cases h1 : key.size = 32
  · right; rw [if_neg (by simp [h1]), if_pos (fun h2 => h ⟨h1, h2⟩)]
  · left; rw [if_pos h1]

theorem hch_yes (key nonce : ByteArray) (hk : key.size = 32) (hn : nonce.size = 16) (w : World) (hT : CTabs w) (h3 : 4 ≤ w.heap.size) :
    Calls Tryd.prog 10 #[.string key, .string nonce] w fun e w' => e = .returned (.tuple #[.string (str (hchL key.data.toList nonce.data.toList)), .int .i64 0]) ∧ Below w.heap.size w w' := by
  have hf := fault_any key nonce 16 (by unfold maxLen; omega) (by unfold maxLen; omega) w
  rw [fault_ok hk hn] at hf
  have hnk := newKey_any key nonce hk hn w hT h3
  revert hnk
  generalize str (hchL key.data.toList nonce.data.toList) = y
  intro hnk
  go_enter Tryd.func10, Tryd.ntmps10
  go_wp2_with fail
  refine hf.mono ?_
  rintro e w1 ⟨rfl, rfl⟩
  go_wp2_with (go_at_call 24; refine hnk.mono ?_; rintro e w2 ⟨rfl, hb2⟩)
  go_ret2
  exact ⟨rfl, hb2⟩
theorem hch_no (key nonce : ByteArray) (hk : key.size ≤ maxLen) (hn : nonce.size ≤ maxLen) (h : ¬ (key.size = 32 ∧ nonce.size = 16)) (w : World) :
    Calls Tryd.prog 10 #[.string key, .string nonce] w fun e w' => e = .returned (.tuple #[.string { data := #[] }, .int .i64 (faultN key nonce 16)]) ∧ w = w' := by
  have hf := fault_any key nonce 16 hk hn w
  rcases fault_no h with h40 | h40
  · rw [h40] at hf ⊢
    go_enter Tryd.func10, Tryd.ntmps10
    go_wp2_with fail
    refine hf.mono ?_
    rintro e w1 ⟨rfl, rfl⟩
    go_wp2
    go_ret2
    exact ⟨rfl, rfl⟩
  · rw [h40] at hf ⊢
    go_enter Tryd.func10, Tryd.ntmps10
    go_wp2_with fail
    refine hf.mono ?_
    rintro e w1 ⟨rfl, rfl⟩
    go_wp2
    go_ret2
    exact ⟨rfl, rfl⟩

end Go.Proofs.YtebhmebldemndaaDoor.Cha
