import Derived.Test.YtcoddgpfdcjnaaaFrD
namespace Go.Proofs.Ytcoddgpfdcjnaaa.Fr
open Go.RowKit Go.Lib Go.Deep

theorem clipped_any (n lo hi : Int) (_hn : -9223372036854775808 ≤ n ∧ n ≤ 9223372036854775807) (h0 : 0 ≤ lo) (h1 : lo ≤ hi) (h2 : hi ≤ 1099511627776) (w : World) :
    Calls Try.prog 12 #[.int .i64 n, .int .i64 lo, .int .i64 hi] w fun e w' => e = .returned (.int .i64 (lo + n % (hi - lo + 1))) ∧ w' = w := by
  obtain ⟨m, hm⟩ : ∃ m, hi - lo + 1 = m := ⟨_, rfl⟩
  have hm0 : 1 ≤ m ∧ m ≤ 1099511627777 := by omega
  have g0 : m ≠ 0 := by omega
  have g1 : -m < n.tmod m ∧ n.tmod m < m := ⟨Int.lt_tmod_of_pos n (by omega), Int.tmod_lt_of_pos n (by omega)⟩
  have g2 : IntKind.i64.wrap (n.tmod m) = n.tmod m := by rw [IntKind.wrap_i64]; omega
  have g5 := Int.emod_nonneg n g0
  have g6 := Int.emod_lt_of_pos n (show (0:Int) < m by omega)
  by_cases hneg : n.tmod m < 0
  · have g4 : n.tmod m + m = n % m := by
      have := Int.tmod_add_mul_tdiv n m
      have e1 : (n.tmod m + m) % m = n % m := by
        conv => rhs; rw [← this]
        rw [Int.add_emod_right, Int.add_mul_emod_self_left]
      rw [Int.emod_eq_of_lt (by omega) (by omega)] at e1
      exact e1
    rw [hm, ← g4]
    rw [← g4] at g5 g6
    clear g4
    go_enter Try.func12, Try.ntmps12
    go_wp2
    go_ret
    exact ⟨by go_num, rfl⟩
  · have g4 : n.tmod m = n % m := by
      have := Int.tmod_add_mul_tdiv n m
      have e1 : (n.tmod m) % m = n % m := by
        conv => rhs; rw [← this]
        rw [Int.add_mul_emod_self_left]
      rw [Int.emod_eq_of_lt (by omega) (by omega)] at e1
      exact e1
    rw [hm, ← g4]
    clear g4 g5 g6
    go_enter Try.func12, Try.ntmps12
    go_wp2
    go_ret
    exact ⟨rfl, rfl⟩

theorem padme_at (n b : Nat) (hn : n ≤ 1048576) (hb : bk n = b) (w : World) : Calls Try.prog 13 #[.int .i64 (n : Int)] w fun e w' => e = .returned (.tuple #[.int .i64 (b : Int), .int .i64 0]) ∧ w' = w := by
  have h := padme_any (n : Int) w
  have e1 : padY (n : Int) = b := by unfold padY; rw [if_neg (by omega), if_neg (by omega), Int.toNat_natCast, hb]
  have e2 : padE (n : Int) = 0 := by unfold padE; rw [if_neg (by omega), if_neg (by omega)]
  rw [e1, e2] at h
  exact h

set_option maxHeartbeats 1000000 in
theorem little_walk (n more : Int) (hn : -9223372036854775808 ≤ n ∧ n ≤ 9223372036854775807) (hm : -9223372036854775808 ≤ more ∧ more ≤ 9223372036854775807) (w : World) :
    Calls Try.prog 4 #[.int .i64 n, .int .i64 more] w fun e w' => e = .returned (.bool true) ∧ Below w.heap.size w w' := by
  have c1 := clipped_any n 2 1048576 hn (by omega) (by omega) (by omega)
  obtain ⟨N, hN⟩ : ∃ N : Nat, 2 + n % (1048576 - 2 + 1) = (N : Int) := ⟨(2 + n % (1048576 - 2 + 1)).toNat, by omega⟩
  have hN2 : 2 ≤ N ∧ N ≤ 1048576 := by omega
  rw [hN] at c1
  have c2 := clipped_any more (N : Int) 1048576 hm (by omega) (by omega) (by omega)
  obtain ⟨M, hM, hM2⟩ : ∃ M : Nat, (N : Int) + more % (1048576 - (N : Int) + 1) = (M : Int) ∧ N ≤ M ∧ M ≤ 1048576 := by
    have h1 := Int.emod_nonneg more (show (1048576 - (N : Int) + 1) ≠ 0 by omega)
    have h2 := Int.emod_lt_of_pos more (show (0 : Int) < 1048576 - (N : Int) + 1 by omega)
    exact ⟨((N : Int) + more % (1048576 - (N : Int) + 1)).toNat, by omega, by omega, by omega⟩
  rw [hM] at c2
  clear hN hM
  have k1 := bk_ge N
  have k2 := bk_le N hN2.2
  have k3 := bk_bk N hN2.2
  have k4 := bk_mono N M hM2.1 hM2.2
  have k5 := bk_little N hN2.1 hN2.2
  have k6 := bk_dvd N hN2.1
  have k7 := bk_top N hN2.1 hN2.2
  have k8 := bk_le M hM2.2
  have k9 := ex_spec N (by omega) hN2.2
  have k10 := sx_spec (ex N) (ex_pos N hN2.1 hN2.2) k9.2
  have c3 := padme_at N (bk N) hN2.2 rfl
  have c4 := padme_at (bk N) (bk N) k2 k3
  have c5 := padme_at M (bk M) hM2.2 rfl
  have c6 := rexp_any N (by omega) hN2.2
  have c7 := rdig_any (ex N) (ex_pos N hN2.1 hN2.2) k9.2
  have c8 := rpower_any (ex N - sx (ex N)) (st N) (by omega) rfl
  have c9 := rpower_any (sx (ex N)) _ (by omega) rfl
  have c10 := rpower_any (ex N + 1) _ (by omega) rfl
  have k11 := st_pos N
  obtain ⟨b, d, x, s, p, P, T, q, hx, hsx, g1, g2, g3, g4, g5, g6, g7, g8, g9, HQ, c3', c4', c5', c6', c7', c8', c9', c10'⟩ : ∃ b d x s p P T q : Nat, x ≤ 20 ∧ s ≤ x ∧ N ≤ b ∧ b ≤ 1048576 ∧ b ≤ d ∧ d ≤ 1048576 ∧ 0 < p ∧ b % p = 0 ∧ P ≤ 2 * x ∧ b ≤ T ∧ q < N ∧ Hid ((b - N) * (x + 1) = q) ∧
      (∀ w, Calls Try.prog 13 #[.int .i64 (N : Int)] w fun e w' => e = .returned (.tuple #[.int .i64 (b : Int), .int .i64 0]) ∧ w' = w) ∧
      (∀ w, Calls Try.prog 13 #[.int .i64 (b : Int)] w fun e w' => e = .returned (.tuple #[.int .i64 (b : Int), .int .i64 0]) ∧ w' = w) ∧
      (∀ w, Calls Try.prog 13 #[.int .i64 (M : Int)] w fun e w' => e = .returned (.tuple #[.int .i64 (d : Int), .int .i64 0]) ∧ w' = w) ∧
      (∀ w, Calls Try.prog 14 #[.int .i64 (N : Int)] w fun e w' => e = .returned (.int .i64 (x : Int)) ∧ w' = w) ∧
      (∀ w, Calls Try.prog 15 #[.int .i64 (x : Int)] w fun e w' => e = .returned (.int .i64 (s : Int)) ∧ w' = w) ∧
      (∀ w, Calls Try.prog 16 #[.int .i64 ((x - s : Nat) : Int)] w fun e w' => e = .returned (.int .i64 (p : Int)) ∧ w' = w) ∧
      (∀ w, Calls Try.prog 16 #[.int .i64 (s : Int)] w fun e w' => e = .returned (.int .i64 (P : Int)) ∧ w' = w) ∧
      (∀ w, Calls Try.prog 16 #[.int .i64 ((x + 1 : Nat) : Int)] w fun e w' => e = .returned (.int .i64 (T : Int)) ∧ w' = w) :=
    ⟨bk N, bk M, ex N, sx (ex N), st N, 2 ^ sx (ex N), 2 ^ (ex N + 1), (bk N - N) * (ex N + 1), k9.2, k10.2.2.2.2.1, k1, k2, k4, k8, k11, k6, k10.2.2.2.1, k7, k5, rfl, c3, c4, c5, c6, c7, c8, c9, c10⟩
  clear k1 k2 k3 k4 k5 k6 k7 k8 k9 k10 k11 c3 c4 c5 c6 c7 c8 c9 c10
  have a1 : wrap64 (((b : Int) - (N : Int)) * ((x : Int) + 1)) = (q : Int) := by
    rw [← HQ.out, show (b : Int) - (N : Int) = ((b - N : Nat) : Int) by omega, show (x : Int) + 1 = ((x + 1 : Nat) : Int) by omega, ← Int.natCast_mul, HQ.out]
    unfold wrap64
    omega
  have a2 : (x : Int) - (s : Int) = ((x - s : Nat) : Int) := by omega
  have a3 : (b : Int) % (p : Int) = 0 := by omega
  have a4 : (b : Int).tmod (p : Int) = 0 := by rw [Int.tmod_eq_emod_of_nonneg (by omega)]; exact a3
  have hnum := num_any 0
  have a5 : (b : Int) ≤ (T : Int) := by omega
  have a6 : (P : Int) ≤ 2 * (x : Int) := by omega
  go_enter Try.func4, Try.ntmps4
  go_wp2_with fail
  refine (c1 _).mono ?_
  rintro e w' ⟨rfl, rfl⟩
  go_wp2_with fail
  refine (c2 _).mono ?_
  rintro e w' ⟨rfl, rfl⟩
  go_wp2_with fail
  refine (c3' _).mono ?_
  rintro e w' ⟨rfl, rfl⟩
  go_wp2_with fail
  refine (c4' _).mono ?_
  rintro e w' ⟨rfl, rfl⟩
  go_wp2_with fail
  refine (c5' _).mono ?_
  rintro e w' ⟨rfl, rfl⟩
  go_wp2_with fail
  refine (hnum _).mono ?_
  rintro e w' ⟨rfl, rfl⟩
  go_wp2_with fail
  refine (hnum _).mono ?_
  rintro e w' ⟨rfl, rfl⟩
  go_wp2_with fail
  refine (hnum _).mono ?_
  rintro e w' ⟨rfl, rfl⟩
  go_wp2_with fail
  refine (c6' _).mono ?_
  rintro e w' ⟨rfl, rfl⟩
  go_wp2_with fail
  refine (c7' _).mono ?_
  rintro e w' ⟨rfl, rfl⟩
  go_wp2_with fail
  refine (c8' _).mono ?_
  rintro e w' ⟨rfl, rfl⟩
  go_wp2_with fail
  refine (c9' _).mono ?_
  rintro e w' ⟨rfl, rfl⟩
  go_wp2_with fail
  refine (c10' _).mono ?_
  rintro e w' ⟨rfl, rfl⟩
  go_wp2
  go_ret
  exact ⟨rfl, Below.refl _ _⟩
end Go.Proofs.Ytcoddgpfdcjnaaa.Fr
