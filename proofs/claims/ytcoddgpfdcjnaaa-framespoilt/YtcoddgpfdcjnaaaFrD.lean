import Derived.Test.YtcoddgpfdcjnaaaFrC
import Derived.OwnWalk
namespace Go.Proofs.Ytcoddgpfdcjnaaa.Fr
open Go.RowKit Go.Lib Go.Deep

/-- the reference -/
theorem rpower_any (n R : Nat) (hn : n ≤ 61) (hR : 2 ^ n = R) (w : World) : Calls Try.prog 16 #[.int .i64 (n : Int)] w fun e w' => e = .returned (.int .i64 (R : Int)) ∧ w' = w := by
  have HR : Hid (2 ^ n = R) := hR
  clear hR
  go_enter Try.func16, Try.ntmps16
  go_wp2
  go_loopg [3, 4] n (fun gk pv iv wr => ∃ k q : Nat, k + gk = n ∧ iv = .int .i64 (k : Int) ∧ pv = .int .i64 (q : Int) ∧ Hid (q = 2 ^ k) ∧ q ≤ 2305843009213693952 ∧ wr = w)
  case atStart => exact ⟨0, 1, by omega, rfl, rfl, rfl, by omega, rfl⟩
  case round =>
    obtain ⟨k, q, hk, rfl, rfl, HQ, hq, rfl⟩ := hrel
    by_cases hlt : k < n
    · have hlt' : (k : Int) < (n : Int) := by omega
      have HN : Hid (2 * q = 2 ^ (k + 1)) := by
        show _ = _
        rw [Nat.pow_succ, ← HQ.out, Nat.mul_comm]
      have hq2 : 2 * q ≤ 2305843009213693952 := by
        rw [HN.out]
        exact Nat.pow_le_pow_right (n := 2) (j := 61) (by omega) (by omega)
      go_wp2
      go_roundg (gk - 1)
      case measure => omega
      case rel => exact ⟨k + 1, 2 * q, by omega, by go_num, by go_num, HN, hq2, rfl⟩
    · obtain rfl : k = n := by omega
      have hlt' : ¬ (k : Int) < (k : Int) := by omega
      obtain rfl : q = R := HQ.out.trans HR.out
      go_wp2
      go_ret
      exact ⟨rfl, rfl⟩

theorem rexp_any (n : Nat) (h1 : 1 ≤ n) (h2 : n ≤ 1048576) (w : World) : Calls Try.prog 14 #[.int .i64 (n : Int)] w fun e w' => e = .returned (.int .i64 (ex n : Int)) ∧ w' = w := by
  obtain ⟨x, hx, HX, hx2⟩ : ∃ x, ex n = x ∧ Hid (IsExp x n) ∧ x ≤ 20 := ⟨_, rfl, (ex_spec n h1 h2).1, (ex_spec n h1 h2).2⟩
  rw [hx]
  clear hx
  go_enter Try.func14, Try.ntmps14
  go_wp2
  go_loopg [3] x (fun gk ev wr => ∃ k : Nat, k + gk = x ∧ ev = .int .i64 (k : Int) ∧ wr = w)
  case atStart => exact ⟨0, by omega, rfl, rfl⟩
  case round =>
    obtain ⟨k, hk, rfl, rfl⟩ := hrel
    obtain ⟨R, hR⟩ : ∃ R, 2 ^ (k + 1) = R := ⟨_, rfl⟩
    have hp := rpower_any (k + 1) R (by omega) hR
    rw [show ((k + 1 : Nat) : Int) = (k : Int) + 1 by omega] at hp
    by_cases hlt : k < x
    · have hle : R ≤ n := by
        rw [← hR]
        exact Nat.le_trans (Nat.pow_le_pow_right (by omega) hlt) HX.out.1
      have hle' : (R : Int) ≤ (n : Int) := by omega
      clear hR
      go_wp2_with fail
      refine (hp _).mono ?_
      rintro e w' ⟨rfl, rfl⟩
      go_wp2
      go_roundg (gk - 1)
      case measure => omega
      case rel => exact ⟨k + 1, by omega, by go_num, rfl⟩
    · obtain rfl : k = x := by omega
      have hle : ¬ R ≤ n := by
        rw [← hR]
        have := HX.out.2
        omega
      have hle' : ¬ (R : Int) ≤ (n : Int) := by omega
      clear hR
      go_wp2_with fail
      refine (hp _).mono ?_
      rintro e w' ⟨rfl, rfl⟩
      go_wp2
      go_ret
      exact ⟨rfl, rfl⟩

theorem rdig_any (n : Nat) (h1 : 1 ≤ n) (h2 : n ≤ 20) (w : World) : Calls Try.prog 15 #[.int .i64 (n : Int)] w fun e w' => e = .returned (.int .i64 (sx n : Int)) ∧ w' = w := by
  have h := sx_spec n h1 h2
  obtain ⟨x, hx, HX, hx2, hx1⟩ : ∃ x, sx n = x ∧ Hid (n < 2 ^ x ∧ 2 ^ (x - 1) ≤ n) ∧ x ≤ 5 ∧ 1 ≤ x := ⟨_, rfl, ⟨h.2.1, h.2.2.1⟩, h.2.2.2.2.2, h.1⟩
  rw [hx]
  clear hx h
  go_enter Try.func15, Try.ntmps15
  go_wp2
  go_loopg [3] x (fun gk ev wr => ∃ k : Nat, k + gk = x ∧ ev = .int .i64 (k : Int) ∧ wr = w)
  case atStart => exact ⟨0, by omega, rfl, rfl⟩
  case round =>
    obtain ⟨k, hk, rfl, rfl⟩ := hrel
    obtain ⟨R, hR⟩ : ∃ R, 2 ^ k = R := ⟨_, rfl⟩
    have hp := rpower_any k R (by omega) hR
    by_cases hlt : k < x
    · have hle : R ≤ n := by
        rw [← hR]
        exact Nat.le_trans (Nat.pow_le_pow_right (by omega) (show k ≤ x - 1 by omega)) HX.out.2
      have hle' : (R : Int) ≤ (n : Int) := by omega
      clear hR
      go_wp2_with fail
      refine (hp _).mono ?_
      rintro e w' ⟨rfl, rfl⟩
      go_wp2
      go_roundg (gk - 1)
      case measure => omega
      case rel => exact ⟨k + 1, by omega, by go_num, rfl⟩
    · obtain rfl : k = x := by omega
      have hle : ¬ R ≤ n := by
        rw [← hR]
        have := HX.out.1
        omega
      have hle' : ¬ (R : Int) ≤ (n : Int) := by omega
      clear hR
      go_wp2_with fail
      refine (hp _).mono ?_
      rintro e w' ⟨rfl, rfl⟩
      go_wp2
      go_ret
      exact ⟨rfl, rfl⟩

theorem rbucket_any (n : Nat) (hn : n ≤ 1048576) (w : World) : Calls Try.prog 28 #[.int .i64 (n : Int)] w fun e w' => e = .returned (.int .i64 (bk n : Int)) ∧ w' = w := by
  by_cases h : n < 2
  · have h' : (n : Int) < 2 := by omega
    have e : bk n = n := if_pos (by omega)
    rw [e]
    clear e
    go_enter Try.func28, Try.ntmps28
    go_wp2
    go_ret
    exact ⟨rfl, rfl⟩
  · have h' : ¬ (n : Int) < 2 := by omega
    have h3 := ex_spec n (by omega) hn
    have h4 := ex_pos n (by omega) hn
    have h5 := sx_spec (ex n) h4 h3.2
    have c1 := rexp_any n (by omega) hn
    have c2 := rdig_any (ex n) h4 h3.2
    have c3 := rpower_any (ex n - sx (ex n)) (st n) (by omega) rfl
    have c4 := rpower_any (ex n) _ (by omega) rfl
    have HF := fun b j => bk_from n b j (by omega) hn
    have hs := st_pos n
    have hsn : st n ≤ n := by
      refine Nat.le_trans ?_ h3.1.1
      unfold st
      exact Nat.pow_le_pow_right (by omega) (by omega)
    have hen := h3.1.1
    have hle := bk_le n hn
    have h51 := h5.2.2.2.2.1
    have h32 := h3.2
    obtain ⟨x, s, p, P, b, hB, hx, hsx, hb, HF', g1, g2, g3, g4, g5, g6, c1', c2', c3', c4'⟩ : ∃ x s p P b : Nat, bk n = b ∧ x ≤ 20 ∧ s ≤ x ∧ b ≤ 1048576 ∧
        Hid (∀ a j, a = P + j * p → n ≤ a → j = 0 ∨ P + (j - 1) * p < n → a = b) ∧ 0 < p ∧ p ≤ n ∧ P ≤ n ∧ 1 ≤ P ∧ (x : Int) - (s : Int) = ((x - s : Nat) : Int) ∧ P ≤ b ∧
        (∀ w, Calls Try.prog 14 #[.int .i64 (n : Int)] w fun e w' => e = .returned (.int .i64 (x : Int)) ∧ w' = w) ∧
        (∀ w, Calls Try.prog 15 #[.int .i64 (x : Int)] w fun e w' => e = .returned (.int .i64 (s : Int)) ∧ w' = w) ∧
        (∀ w, Calls Try.prog 16 #[.int .i64 ((x - s : Nat) : Int)] w fun e w' => e = .returned (.int .i64 (p : Int)) ∧ w' = w) ∧
        (∀ w, Calls Try.prog 16 #[.int .i64 (x : Int)] w fun e w' => e = .returned (.int .i64 (P : Int)) ∧ w' = w) :=
      ⟨ex n, sx (ex n), st n, 2 ^ ex n, bk n, rfl, h32, h51, hle, HF, hs, hsn, hen, Nat.pow_pos (by omega), by omega, Nat.le_trans hen (bk_ge n), c1, c2, c3, c4⟩
    rw [hB]
    clear c1 c2 c3 c4 h3 h4 h5 HF hs hsn hen hle h51 h32 hB
    go_enter Try.func28, Try.ntmps28
    go_wp2_with fail
    refine (c1' _).mono ?_
    rintro e w' ⟨rfl, rfl⟩
    go_wp2_with fail
    refine (c2' _).mono ?_
    rintro e w' ⟨rfl, rfl⟩
    go_wp2_with fail
    refine (c3' _).mono ?_
    rintro e w' ⟨rfl, rfl⟩
    go_wp2_with fail
    refine (c4' _).mono ?_
    rintro e w' ⟨rfl, rfl⟩
    go_wp2
    go_loopg [5] (2 * n - P) (fun gk bv wr => ∃ a j : Nat, a + gk = 2 * n ∧ bv = .int .i64 (a : Int) ∧ Hid (a = P + j * p ∧ (j = 0 ∨ P + (j - 1) * p < n)) ∧ wr = w')
    case atStart => exact ⟨P, 0, by omega, rfl, ⟨by simp, .inl rfl⟩, rfl⟩
    case round =>
      obtain ⟨a, j, hk, rfl, HJ, rfl⟩ := hrel
      by_cases hlt : a < n
      · have hlt' : (a : Int) < (n : Int) := by omega
        go_wp2
        go_roundg (gk - p)
        case measure => omega
        case rel => exact ⟨a + p, j + 1, by omega, by go_num, ⟨by rw [HJ.out.1, Nat.succ_mul]; omega, .inr (by rw [Nat.add_sub_cancel, ← HJ.out.1]; exact hlt)⟩, rfl⟩
      · have hlt' : ¬ (a : Int) < (n : Int) := by omega
        obtain rfl : a = b := HF'.out a j HJ.out.1 (by omega) HJ.out.2
        go_wp2
        go_ret
        exact ⟨rfl, rfl⟩

theorem rpadme_any (n : Int) (w : World) : Calls Try.prog 17 #[.int .i64 n] w fun e w' => e = .returned (.tuple #[.int .i64 (padY n : Int), .int .i64 (padE n)]) ∧ w' = w := by
  by_cases h1 : n < 0
  · have e1 : padY n = 0 := if_pos h1
    have e2 : padE n = 1 := if_pos h1
    rw [e1, e2]
    clear e1 e2
    go_enter Try.func17, Try.ntmps17
    go_wp2
    go_ret2
    exact ⟨rfl, rfl⟩
  · by_cases h2 : 1048576 < n
    · have e1 : padY n = 0 := by unfold padY; rw [if_neg h1, if_pos h2]
      have e2 : padE n = 3 := by unfold padE; rw [if_neg h1, if_pos h2]
      rw [e1, e2]
      clear e1 e2
      go_enter Try.func17, Try.ntmps17
      go_wp2
      go_ret2
      exact ⟨rfl, rfl⟩
    · have e1 : padY n = bk n.toNat := by unfold padY; rw [if_neg h1, if_neg h2]
      have e2 : padE n = 0 := by unfold padE; rw [if_neg h1, if_neg h2]
      rw [e1, e2]
      clear e1 e2
      obtain ⟨m, rfl⟩ : ∃ m : Nat, n = (m : Int) := ⟨n.toNat, by omega⟩
      rw [Int.toNat_natCast]
      have hb := rbucket_any m (by omega)
      go_enter Try.func17, Try.ntmps17
      go_wp2_with fail
      refine (hb _).mono ?_
      rintro e w' ⟨rfl, rfl⟩
      go_wp2
      go_ret2
      exact ⟨rfl, rfl⟩

theorem rsize_any (n l : Int) (w : World) : Calls Try.prog 19 #[.int .i64 n, .int .i64 l] w fun e w' => e = .returned (.tuple #[.int .i64 (sizY n l : Int), .int .i64 (sizE n l)]) ∧ w' = w := by
  by_cases h1 : n < 0
  · have e1 : sizY n l = 0 := if_pos (.inl h1)
    have e2 : sizE n l = 1 := if_pos (.inl h1)
    rw [e1, e2]
    clear e1 e2
    go_enter Try.func19, Try.ntmps19
    go_wp2
    go_ret2
    exact ⟨rfl, rfl⟩
  · by_cases h2 : l < 0
    · have e1 : sizY n l = 0 := if_pos (.inr h2)
      have e2 : sizE n l = 1 := if_pos (.inr h2)
      rw [e1, e2]
      clear e1 e2
      go_enter Try.func19, Try.ntmps19
      go_wp2
      go_ret2
      exact ⟨rfl, rfl⟩
    · have h0 : ¬ (n < 0 ∨ l < 0) := by omega
      by_cases h3 : 1048571 < n
      · have e1 : sizY n l = 0 := by unfold sizY; rw [if_neg h0, if_pos (.inl h3)]
        have e2 : sizE n l = 3 := by unfold sizE; rw [if_neg h0, if_pos (.inl h3)]
        rw [e1, e2]
        clear e1 e2 h0
        go_enter Try.func19, Try.ntmps19
        go_wp2
        go_ret2
        exact ⟨rfl, rfl⟩
      · by_cases h4 : 1048576 < l
        · have e1 : sizY n l = 0 := by unfold sizY; rw [if_neg h0, if_pos (.inr h4)]
          have e2 : sizE n l = 3 := by unfold sizE; rw [if_neg h0, if_pos (.inr h4)]
          rw [e1, e2]
          clear e1 e2 h0
          go_enter Try.func19, Try.ntmps19
          go_wp2
          go_ret2
          exact ⟨rfl, rfl⟩
        · have e1 : sizY n l = bk (max (n.toNat + 5) l.toNat) := by unfold sizY; rw [if_neg h0, if_neg (by omega)]
          have e2 : sizE n l = 0 := by unfold sizE; rw [if_neg h0, if_neg (by omega)]
          rw [e1, e2]
          clear e1 e2 h0
          obtain ⟨m, rfl⟩ : ∃ m : Nat, n = (m : Int) := ⟨n.toNat, by omega⟩
          obtain ⟨k, rfl⟩ : ∃ k : Nat, l = (k : Int) := ⟨l.toNat, by omega⟩
          rw [Int.toNat_natCast, Int.toNat_natCast]
          by_cases h5 : k < m + 5
          · have h5' : (k : Int) < (m : Int) + 5 := by omega
            rw [Nat.max_eq_left (by omega)]
            have hb := rbucket_any (m + 5) (by omega)
            rw [show ((m + 5 : Nat) : Int) = (m : Int) + 5 by omega] at hb
            go_enter Try.func19, Try.ntmps19
            go_wp2_with fail
            refine (hb _).mono ?_
            rintro e w' ⟨rfl, rfl⟩
            go_wp2
            go_ret2
            exact ⟨rfl, rfl⟩
          · have h5' : ¬ (k : Int) < (m : Int) + 5 := by omega
            rw [Nat.max_eq_right (by omega)]
            have hb := rbucket_any k (by omega)
            go_enter Try.func19, Try.ntmps19
            go_wp2_with fail
            refine (hb _).mono ?_
            rintro e w' ⟨rfl, rfl⟩
            go_wp2
            go_ret2
            exact ⟨rfl, rfl⟩

/-- the two laws' walks -/
theorem buckets_walk (n : Int) (w : World) : Calls Try.prog 5 #[.int .i64 n] w fun e w' => e = .returned (.bool true) ∧ Below w.heap.size w w' := by
  have h1 := padme_any n
  have h2 := rpadme_any n
  generalize padY n = y at h1 h2
  generalize padE n = f at h1 h2
  have h3 := num_any f
  go_enter Try.func5, Try.ntmps5
  go_wp2_with fail
  refine (h1 _).mono ?_
  rintro e w' ⟨rfl, rfl⟩
  go_wp2_with fail
  refine (h2 _).mono ?_
  rintro e w' ⟨rfl, rfl⟩
  go_wp2_with fail
  refine (h3 _).mono ?_
  rintro e w' ⟨rfl, rfl⟩
  go_wp2
  go_ret
  exact ⟨rfl, Below.refl _ _⟩
theorem sizes_walk (n l : Int) (w : World) : Calls Try.prog 6 #[.int .i64 n, .int .i64 l] w fun e w' => e = .returned (.bool true) ∧ Below w.heap.size w w' := by
  have h1 := size_any n l
  have h2 := rsize_any n l
  generalize sizY n l = y at h1 h2
  generalize sizE n l = f at h1 h2
  have h3 := num_any f
  go_enter Try.func6, Try.ntmps6
  go_wp2_with fail
  refine (h1 _).mono ?_
  rintro e w' ⟨rfl, rfl⟩
  go_wp2_with fail
  refine (h2 _).mono ?_
  rintro e w' ⟨rfl, rfl⟩
  go_wp2_with fail
  refine (h3 _).mono ?_
  rintro e w' ⟨rfl, rfl⟩
  go_wp2
  go_ret
  exact ⟨rfl, Below.refl _ _⟩
end Go.Proofs.Ytcoddgpfdcjnaaa.Fr
