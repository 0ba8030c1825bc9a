import Derived.Test.YtjjabkimmgcejaaDoorShaA
import Derived.Test.YtjjabkimmgcejaaDoorRows
namespace Go.Proofs.YtjjabkimmgcejaaDoor
open Go.RowKit Go.Lib Go.Deep

theorem rot_or (x s : Nat) (hx : x < 4294967296) (h1 : 1 ≤ s) (h2 : s ≤ 31) :
    bits .or .u32 ((x : Int) * 2 ^ (32 - s) % 4294967296) ((x : Int) / 2 ^ (32 - (32 - s))) = (rot x s : Int) := by
  have e : 2 ^ s * 2 ^ (32 - s) = 4294967296 := by rw [← Nat.pow_add, show s + (32 - s) = 32 by omega]
  have p : 0 < 2 ^ s := Nat.pow_pos (by omega)
  have a : x / 2 ^ s < 2 ^ (32 - s) := by
    rw [Nat.div_lt_iff_lt_mul p, Nat.mul_comm, e]
    exact hx
  have m : x * 2 ^ (32 - s) % 4294967296 = x % 2 ^ s * 2 ^ (32 - s) := by rw [← e, Nat.mul_mod_mul_right]
  have q : x / 2 ^ s < 4294967296 := Nat.lt_of_le_of_lt (Nat.div_le_self _ _) hx
  have r : x % 2 ^ s * 2 ^ (32 - s) < 4294967296 := by rw [← m]; exact Nat.mod_lt _ (by omega)
  have eA : (x : Int) * 2 ^ (32 - s) % 4294967296 = ((x % 2 ^ s * 2 ^ (32 - s) : Nat) : Int) := by rw [← m, Int.natCast_emod, Int.natCast_mul, Int.natCast_pow]; rfl
  have eB : (x : Int) / 2 ^ s = ((x / 2 ^ s : Nat) : Int) := by rw [Int.natCast_ediv, Int.natCast_pow]; rfl
  rw [show 32 - (32 - s) = s by omega, eA, eB, u32_or_nat _ _ r q, nat_join (32 - s) _ _ (Nat.mul_mod_left _ _) a, Nat.add_comm]
  rfl

set_option maxHeartbeats 1000000 in
theorem rotl_any (x s : Nat) (w : World) (hx : x < 4294967296) (h1 : 1 ≤ s) (h2 : s ≤ 31) :
    Calls Tryd.prog 66 #[.int .u32 (x : Int), .int .i64 (-(s : Int))] w fun e w' => e = .returned (.int .u32 (rot x s : Int)) ∧ w = w' := by
  have HR : Hid (bits .or .u32 ((x : Int) * 2 ^ (32 - s) % 4294967296) ((x : Int) / 2 ^ (32 - (32 - s))) = (rot x s : Int)) := rot_or x s hx h1 h2
  have hcv : (-(s : Int)) % 18446744073709551616 = ((18446744073709551616 - s : Nat) : Int) := by omega
  have hcw : IntKind.u64.wrap (-(s : Int)) = ((18446744073709551616 - s : Nat) : Int) := by rw [IntKind.wrap_u64]; omega
  have han : bits .and .u64 ((18446744073709551616 - s : Nat) : Int) 31 = ((32 - s : Nat) : Int) := by
    have := u64_and_nat (18446744073709551616 - s) 31 (by omega) (by omega)
    rw [nat_mask5] at this
    exact this.trans (by omega)
  go_enter Tryd.func66, Tryd.ntmps66
  go_wp2
  go_ret
  exact ⟨by simp [HR.out], rfl⟩

theorem turn_any (x s : Nat) (w : World) (hx : x < 4294967296) (h1 : 1 ≤ s) (h2 : s ≤ 31) :
    Calls Tryd.prog 63 #[.int .u32 (x : Int), .int .i64 (s : Int)] w fun e w' => e = .returned (.int .u32 (rot x s : Int)) ∧ w = w' := by
  go_enter Tryd.func63, Tryd.ntmps63
  go_wp2_with (go_at_call 66; refine (rotl_any x s _ hx h1 h2).mono ?_; rintro e w' ⟨rfl, rfl⟩)
  go_ret
  exact ⟨rfl, rfl⟩

theorem xor3 (x y z : Nat) (hx : x < 4294967296) (hy : y < 4294967296) (hz : z < 4294967296) : bits .xor .u32 (bits .xor .u32 (x : Int) (y : Int)) (z : Int) = (((x ^^^ y) ^^^ z : Nat) : Int) := by
  rw [u32_xor_nat x y hx hy, u32_xor_nat _ z (xor_lt x y hx hy) hz]

theorem big0_any (x : Nat) (w : World) (hx : x < 4294967296) : Calls Tryd.prog 55 #[.int .u32 (x : Int)] w fun e w' => e = .returned (.int .u32 (big0 x : Int)) ∧ w = w' := by
  have HX : Hid (bits .xor .u32 (bits .xor .u32 (rot x 2 : Int) (rot x 13 : Int)) (rot x 22 : Int) = (big0 x : Int)) := xor3 _ _ _ (rot_lt x 2 hx (by omega) (by omega)) (rot_lt x 13 hx (by omega) (by omega)) (rot_lt x 22 hx (by omega) (by omega))
  go_enter Tryd.func55, Tryd.ntmps55
  go_wp2_with (first | (go_at_call_of 63 (2 : Int); refine (turn_any x 2 _ hx (by omega) (by omega)).mono ?_; rintro e w' ⟨rfl, rfl⟩) | (go_at_call_of 63 (13 : Int); refine (turn_any x 13 _ hx (by omega) (by omega)).mono ?_; rintro e w' ⟨rfl, rfl⟩) | (go_at_call_of 63 (22 : Int); refine (turn_any x 22 _ hx (by omega) (by omega)).mono ?_; rintro e w' ⟨rfl, rfl⟩))
  go_ret
  exact ⟨by simp [HX.out], rfl⟩
theorem big1_any (x : Nat) (w : World) (hx : x < 4294967296) : Calls Tryd.prog 54 #[.int .u32 (x : Int)] w fun e w' => e = .returned (.int .u32 (big1 x : Int)) ∧ w = w' := by
  have HX : Hid (bits .xor .u32 (bits .xor .u32 (rot x 6 : Int) (rot x 11 : Int)) (rot x 25 : Int) = (big1 x : Int)) := xor3 _ _ _ (rot_lt x 6 hx (by omega) (by omega)) (rot_lt x 11 hx (by omega) (by omega)) (rot_lt x 25 hx (by omega) (by omega))
  go_enter Tryd.func54, Tryd.ntmps54
  go_wp2_with (first | (go_at_call_of 63 (6 : Int); refine (turn_any x 6 _ hx (by omega) (by omega)).mono ?_; rintro e w' ⟨rfl, rfl⟩) | (go_at_call_of 63 (11 : Int); refine (turn_any x 11 _ hx (by omega) (by omega)).mono ?_; rintro e w' ⟨rfl, rfl⟩) | (go_at_call_of 63 (25 : Int); refine (turn_any x 25 _ hx (by omega) (by omega)).mono ?_; rintro e w' ⟨rfl, rfl⟩))
  go_ret
  exact ⟨by simp [HX.out], rfl⟩
theorem little0_any (x : Nat) (w : World) (hx : x < 4294967296) : Calls Tryd.prog 62 #[.int .u32 (x : Int)] w fun e w' => e = .returned (.int .u32 (little0 x : Int)) ∧ w = w' := by
  have HX : Hid (bits .xor .u32 (bits .xor .u32 (rot x 7 : Int) (rot x 18 : Int)) ((x : Int) / 8) = (little0 x : Int)) := xor3 _ _ (x / 8) (rot_lt x 7 hx (by omega) (by omega)) (rot_lt x 18 hx (by omega) (by omega)) (by omega)
  go_enter Tryd.func62, Tryd.ntmps62
  go_wp2_with (first | (go_at_call_of 63 (7 : Int); refine (turn_any x 7 _ hx (by omega) (by omega)).mono ?_; rintro e w' ⟨rfl, rfl⟩) | (go_at_call_of 63 (18 : Int); refine (turn_any x 18 _ hx (by omega) (by omega)).mono ?_; rintro e w' ⟨rfl, rfl⟩))
  go_ret
  exact ⟨by simp [HX.out], rfl⟩
theorem little1_any (x : Nat) (w : World) (hx : x < 4294967296) : Calls Tryd.prog 61 #[.int .u32 (x : Int)] w fun e w' => e = .returned (.int .u32 (little1 x : Int)) ∧ w = w' := by
  have HX : Hid (bits .xor .u32 (bits .xor .u32 (rot x 17 : Int) (rot x 19 : Int)) ((x : Int) / 1024) = (little1 x : Int)) := xor3 _ _ (x / 1024) (rot_lt x 17 hx (by omega) (by omega)) (rot_lt x 19 hx (by omega) (by omega)) (by omega)
  go_enter Tryd.func61, Tryd.ntmps61
  go_wp2_with (first | (go_at_call_of 63 (17 : Int); refine (turn_any x 17 _ hx (by omega) (by omega)).mono ?_; rintro e w' ⟨rfl, rfl⟩) | (go_at_call_of 63 (19 : Int); refine (turn_any x 19 _ hx (by omega) (by omega)).mono ?_; rintro e w' ⟨rfl, rfl⟩))
  go_ret
  exact ⟨by simp [HX.out], rfl⟩

end Go.Proofs.YtjjabkimmgcejaaDoor
