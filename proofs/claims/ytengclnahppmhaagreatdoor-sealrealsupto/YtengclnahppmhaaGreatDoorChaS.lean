import Derived.Test.YtengclnahppmhaaGreatDoorChZ3
namespace Go.Proofs.YtengclnahppmhaaGreatDoor.Cha
open Go.RowKit Go.Lib Go.Deep

theorem xor_no (key nonce data : ByteArray) (c : Int) (hk : key.size ≤ maxLen) (hn : nonce.size ≤ maxLen) (h : ¬ (key.size = 32 ∧ nonce.size = 12)) (w : World) :
    Calls Tryz.prog 119 #[.string key, .int .i64 c, .string nonce, .string data] w fun e w' => e = .returned (.tuple #[.string { data := #[] }, .int .i64 (faultN key nonce 12)]) ∧ w = w' := by
  have hf := fault_any key nonce 12 hk hn w
  rcases fault_no h with h40 | h40
  · rw [h40] at hf ⊢
    go_enter Tryz.func119, Tryz.ntmps119
    go_wp2_with fail
    refine hf.mono ?_
    rintro e w1 ⟨rfl, rfl⟩
    go_wp2
    go_ret2
    exact ⟨rfl, rfl⟩
  · rw [h40] at hf ⊢
    go_enter Tryz.func119, Tryz.ntmps119
    go_wp2_with fail
    refine hf.mono ?_
    rintro e w1 ⟨rfl, rfl⟩
    go_wp2
    go_ret2
    exact ⟨rfl, rfl⟩

/-- is there a counter for each block? -/
def room (c : Int) (n : Nat) : Prop := (0 ≤ c ∧ c < 4294967296) ∧ c + ((n + 63) / 64 : Nat) ≤ 4294967296

set_option maxHeartbeats 1000000 in
theorem xor_far (key nonce data : ByteArray) (c : Int) (hk : key.size = 32) (hn : nonce.size = 12) (hd : data.size ≤ 281474976710656) (hc : ¬ room c data.size) (w : World) :
    Calls Tryz.prog 119 #[.string key, .int .i64 c, .string nonce, .string data] w fun e w' => e = .returned (.tuple #[.string { data := #[] }, .int .i64 42]) ∧ w = w' := by
  have hf := fault_any key nonce 12 (by unfold maxLen; omega) (by unfold maxLen; omega) w
  rw [fault_ok hk hn] at hf
  by_cases hw : 0 ≤ c ∧ c < 4294967296
  · obtain ⟨c, rfl⟩ := Int.eq_ofNat_of_zero_le hw.1
    have hiw := isWord_yes c (by omega) w
    have hbi := blocksIn_any data.size hd w
    have hgt : ¬ ((c : Int) + ((data.size + 63) / 64 : Nat) ≤ 4294967296) := fun h => hc ⟨hw, h⟩
    obtain ⟨nb, hnb⟩ : ∃ nb, (data.size + 63) / 64 = nb := ⟨_, rfl⟩
    rw [hnb] at hbi hgt
    have hsb : IntKind.i64.wrap (4294967296 - (c : Int)) = 4294967296 - (c : Int) := by rw [IntKind.wrap_i64]; omega
    have hgt1 : (4294967296 - (c : Int) < (nb : Int)) := by omega
    have hcl : (c : Int) < 4294967296 := hw.2
    clear hc hw hgt hnb
    go_enter Tryz.func119, Tryz.ntmps119
    go_wp2_with fail
    refine hf.mono ?_
    rintro e w1 ⟨rfl, rfl⟩
    go_wp2_with fail
    refine hiw.mono ?_
    rintro e w1 ⟨rfl, rfl⟩
    go_wp2_with fail
    refine hbi.mono ?_
    rintro e w1 ⟨rfl, rfl⟩
    go_wp2
    go_ret2
    exact ⟨rfl, rfl⟩
  · have hiw := isWord_no c hw w
    clear hc hw
    go_enter Tryz.func119, Tryz.ntmps119
    go_wp2_with fail
    refine hf.mono ?_
    rintro e w1 ⟨rfl, rfl⟩
    go_wp2_with fail
    refine hiw.mono ?_
    rintro e w1 ⟨rfl, rfl⟩
    go_wp2
    go_ret2
    exact ⟨rfl, rfl⟩

end Go.Proofs.YtengclnahppmhaaGreatDoor.Cha
