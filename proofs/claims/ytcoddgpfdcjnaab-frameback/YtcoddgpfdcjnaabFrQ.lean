import Derived.Test.YtcoddgpfdcjnaabFrC
namespace Go.Proofs.Ytcoddgpfdcjnaab.Fr
open Go.RowKit Go.Lib Go.Deep

theorem clipped_any (n lo hi : Int) (_hn : -9223372036854775808 ≤ n ∧ n ≤ 9223372036854775807) (h0 : 0 ≤ lo) (h1 : lo ≤ hi) (h2 : hi ≤ 1099511627776) (w : World) :
    Calls Try.prog 11 #[.int .i64 n, .int .i64 lo, .int .i64 hi] w fun e w' => e = .returned (.int .i64 (lo + n % (hi - lo + 1))) ∧ w' = w := by
  obtain ⟨m, hm⟩ : ∃ m, hi - lo + 1 = m := ⟨_, rfl⟩
  have hm0 : 1 ≤ m ∧ m ≤ 1099511627777 := by omega
  have g0 : m ≠ 0 := by omega
  have g1 : -m < n.tmod m ∧ n.tmod m < m := ⟨Int.lt_tmod_of_pos n (by omega), Int.tmod_lt_of_pos n (by omega)⟩
  have g2 : IntKind.i64.wrap (n.tmod m) = n.tmod m := by rw [IntKind.wrap_i64]; omega
  have g5 := Int.emod_nonneg n g0
  have g6 := Int.emod_lt_of_pos n (show (0:Int) < m by omega)
  by_cases hneg : n.tmod m < 0
  · have g4 : n.tmod m + m = n % m := by
      have := Int.tmod_add_mul_tdiv n m
      have e1 : (n.tmod m + m) % m = n % m := by
        conv => rhs; rw [← this]
        rw [Int.add_emod_right, Int.add_mul_emod_self_left]
      rw [Int.emod_eq_of_lt (by omega) (by omega)] at e1
      exact e1
    rw [hm, ← g4]
    rw [← g4] at g5 g6
    clear g4
    go_enter Try.func11, Try.ntmps11
    go_wp2
    go_ret
    exact ⟨by go_num, rfl⟩
  · have g4 : n.tmod m = n % m := by
      have := Int.tmod_add_mul_tdiv n m
      have e1 : (n.tmod m) % m = n % m := by
        conv => rhs; rw [← this]
        rw [Int.add_mul_emod_self_left]
      rw [Int.emod_eq_of_lt (by omega) (by omega)] at e1
      exact e1
    rw [hm, ← g4]
    clear g4 g5 g6
    go_enter Try.func11, Try.ntmps11
    go_wp2
    go_ret
    exact ⟨rfl, rfl⟩
end Go.Proofs.Ytcoddgpfdcjnaab.Fr
