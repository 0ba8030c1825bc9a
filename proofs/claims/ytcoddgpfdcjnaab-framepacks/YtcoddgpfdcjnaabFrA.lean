import Derived.Lib.BitFns
namespace Go.Proofs.Ytcoddgpfdcjnaab.Fr
open Go.Lib

/-- binary digits -/
def IsExp (e n : Nat) : Prop := 2 ^ e ≤ n ∧ n < 2 ^ (e + 1)
theorem exp_unique {e f n : Nat} (h : IsExp e n) (k : IsExp f n) : e = f := by
  rcases Nat.lt_trichotomy e f with h1 | h1 | h1
  · have := Nat.pow_le_pow_right (n := 2) (by omega) (show e + 1 ≤ f by omega)
    have := h.2; have := k.1; omega
  · exact h1
  · have := Nat.pow_le_pow_right (n := 2) (by omega) (show f + 1 ≤ e by omega)
    have := h.1; have := k.2; omega

theorem bitLenAux_spec : ∀ (f x : Nat), x < 2 ^ f → (x = 0 → bitLenAux f x = 0) ∧ (0 < x → 1 ≤ bitLenAux f x ∧ IsExp (bitLenAux f x - 1) x)
  | 0, x, h => by
    have : x = 0 := by simp at h; omega
    subst this
    exact ⟨fun _ => rfl, fun h => by omega⟩
  | f + 1, x, h => by
    unfold bitLenAux
    by_cases h0 : x = 0
    · rw [if_pos h0]; exact ⟨fun _ => rfl, fun h => by omega⟩
    · rw [if_neg h0]
      refine ⟨fun h => absurd h h0, fun _ => ⟨by omega, ?_⟩⟩
      obtain ⟨i0, i1⟩ := bitLenAux_spec f (x / 2) (by rw [Nat.pow_succ] at h; omega)
      by_cases h2 : x / 2 = 0
      · rw [i0 h2]
        exact ⟨by simp; omega, by simp; omega⟩
      · obtain ⟨j1, j2, j3⟩ := i1 (by omega)
        obtain ⟨m, hm⟩ : ∃ m, bitLenAux f (x / 2) = m + 1 := ⟨_, (Nat.sub_add_cancel j1).symm⟩
        rw [hm] at j2 j3 ⊢
        rw [Nat.add_sub_cancel] at j2 j3
        rw [show 1 + (m + 1) - 1 = m + 1 by omega]
        unfold IsExp
        rw [Nat.pow_succ] at j3 ⊢
        rw [Nat.pow_succ (n := 2) (m := m + 1)]
        rw [Nat.pow_succ (n := 2) (m := m)]
        omega
theorem bitLen_zero : bitLen 0 = 0 := rfl
theorem bitLen_pos (x : Nat) (h : 0 < x) (h2 : x < 2 ^ 64) : 1 ≤ bitLen x ∧ IsExp (bitLen x - 1) x := (bitLenAux_spec 64 x h2).2 h
theorem bitLen_of {e x : Nat} (h : IsExp e x) (h2 : x < 2 ^ 64) : bitLen x = e + 1 := by
  have hx : 0 < x := Nat.lt_of_lt_of_le (Nat.pow_pos (by omega)) h.1
  obtain ⟨h3, h4⟩ := bitLen_pos x hx h2
  have := exp_unique h h4
  omega

/-- the document's e and s -/
def ex (n : Nat) : Nat := bitLen n - 1
def sx (e : Nat) : Nat := bitLen e
def st (n : Nat) : Nat := 2 ^ (ex n - sx (ex n))
def bk (n : Nat) : Nat := if n ≤ 1 then n else (n + st n - 1) / st n * st n

theorem ex_spec (n : Nat) (h1 : 1 ≤ n) (h2 : n ≤ 1048576) : IsExp (ex n) n ∧ ex n ≤ 20 := by
  have h := (bitLen_pos n (by omega) (by omega)).2
  refine ⟨h, ?_⟩
  apply Nat.le_of_not_lt
  intro h3
  have := Nat.pow_le_pow_right (n := 2) (by omega) (show 21 ≤ bitLen n - 1 from h3)
  have := h.1
  omega
theorem ex_pos (n : Nat) (h1 : 2 ≤ n) (h2 : n ≤ 1048576) : 1 ≤ ex n := by
  have h := (ex_spec n (by omega) h2).1
  apply Nat.one_le_iff_ne_zero.2
  intro h0
  rw [h0] at h
  have := h.2
  omega
theorem sx_spec (e : Nat) (h1 : 1 ≤ e) (h2 : e ≤ 20) : 1 ≤ sx e ∧ e < 2 ^ sx e ∧ 2 ^ (sx e - 1) ≤ e ∧ 2 ^ sx e ≤ 2 * e ∧ sx e ≤ e ∧ sx e ≤ 5 := by
  obtain ⟨h3, h4, h5⟩ := bitLen_pos e (by omega) (by omega)
  change 1 ≤ sx e at h3
  change 2 ^ (sx e - 1) ≤ e at h4
  change e < 2 ^ (sx e - 1 + 1) at h5
  obtain ⟨m, hm⟩ : ∃ m, sx e = m + 1 := ⟨_, (Nat.sub_add_cancel h3).symm⟩
  rw [hm] at h4 h5 ⊢
  rw [Nat.add_sub_cancel] at h4 h5 ⊢
  have h6 := Nat.lt_two_pow_self (n := m)
  refine ⟨by omega, h5, h4, by rw [Nat.pow_succ]; omega, by omega, ?_⟩
  apply Nat.le_of_not_lt
  intro h7
  have := Nat.pow_le_pow_right (n := 2) (by omega) (show 5 ≤ m by omega)
  omega

theorem st_pos (n : Nat) : 0 < st n := Nat.pow_pos (by omega)
/-- the step divides the powers about -/
theorem st_dvd (n : Nat) (h1 : 2 ≤ n) (h2 : n ≤ 1048576) : 2 ^ ex n = 2 ^ sx (ex n) * st n := by
  have h3 := ex_spec n (by omega) h2
  have h4 := sx_spec (ex n) (ex_pos n h1 h2) h3.2
  unfold st
  rw [← Nat.pow_add]
  congr 1
  omega

/-- the least multiple -/
theorem up_le (n s : Nat) (h : 0 < s) : n ≤ (n + s - 1) / s * s ∧ (n + s - 1) / s * s ≤ n + s - 1 := by
  have h1 := Nat.div_add_mod (n + s - 1) s
  have h2 := Nat.mod_lt (n + s - 1) h
  rw [Nat.mul_comm] at h1
  omega
theorem up_least (n s k : Nat) (h : 0 < s) (hk : n ≤ k * s) : (n + s - 1) / s * s ≤ k * s := by
  apply Nat.mul_le_mul_right
  apply Nat.le_of_lt_succ
  rw [Nat.div_lt_iff_lt_mul h, Nat.succ_mul]
  omega
theorem up_mono (n m s : Nat) (h : n ≤ m) : (n + s - 1) / s * s ≤ (m + s - 1) / s * s := by
  apply Nat.mul_le_mul_right
  apply Nat.div_le_div_right
  omega
theorem up_self (k s : Nat) (h : 0 < s) : (k * s + s - 1) / s * s = k * s := by
  have h1 := up_le (k * s) s h
  have h2 := up_least (k * s) s k h (Nat.le_refl _)
  omega

theorem bk_big (n : Nat) (h : 2 ≤ n) : bk n = (n + st n - 1) / st n * st n := if_neg (by omega)
theorem bk_ge (n : Nat) : n ≤ bk n := by
  by_cases h : n ≤ 1
  · unfold bk; rw [if_pos h]; exact Nat.le_refl _
  · rw [bk_big n (by omega)]; exact (up_le n _ (st_pos n)).1
theorem pow_two (n : Nat) (h1 : 2 ≤ n) (h2 : n ≤ 1048576) : 2 ^ (ex n + 1) = 2 * 2 ^ sx (ex n) * st n := by
  rw [Nat.pow_succ, st_dvd n h1 h2, Nat.mul_comm, Nat.mul_assoc]
theorem bk_top (n : Nat) (h1 : 2 ≤ n) (h2 : n ≤ 1048576) : bk n ≤ 2 ^ (ex n + 1) := by
  have h := (ex_spec n (by omega) h2).1.2
  rw [bk_big n h1]
  rw [pow_two n h1 h2] at h ⊢
  exact up_least _ _ _ (st_pos n) (Nat.le_of_lt h)
theorem bk_le (n : Nat) (h : n ≤ 1048576) : bk n ≤ 1048576 := by
  by_cases h0 : n ≤ 1
  · unfold bk; rw [if_pos h0]; exact h
  · by_cases h1 : n = 1048576
    · subst h1; decide
    · have h2 := bk_top n (by omega) h
      have h3 := (ex_spec n (by omega) h).1.1
      have h4 : ex n + 1 ≤ 20 := by
        apply Nat.le_of_not_lt
        intro h4
        have := Nat.pow_le_pow_right (n := 2) (by omega) (show 20 ≤ ex n by omega)
        omega
      have := Nat.pow_le_pow_right (n := 2) (by omega) h4
      omega
theorem bk_dvd (n : Nat) (h : 2 ≤ n) : bk n % st n = 0 := by
  rw [bk_big n h]
  exact Nat.mul_mod_left _ _
/-- the least multiple of the step from the power on -/
theorem bk_least (n k : Nat) (h1 : 2 ≤ n) (hk : n ≤ k * st n) : bk n ≤ k * st n := by
  rw [bk_big n h1]
  exact up_least _ _ _ (st_pos n) hk
theorem bk_mul (n k : Nat) (h1 : 2 ≤ n) (hk : n = k * st n) : bk n = n := by
  have h2 := bk_least n k h1 (by omega)
  have := bk_ge n
  omega
theorem ex_of {e n : Nat} (h : IsExp e n) (h2 : n ≤ 1048576) : ex n = e := by
  have := bitLen_of h (by omega)
  unfold ex
  omega
theorem bk_bk (n : Nat) (h : n ≤ 1048576) : bk (bk n) = bk n := by
  by_cases h0 : n ≤ 1
  · have : bk n = n := if_pos h0
    rw [this, this]
  · have h1 : 2 ≤ n := by omega
    have hg := bk_ge n
    have hl := bk_le n h
    have ht := bk_top n h1 h
    have hd := bk_dvd n h1
    have he := (ex_spec n (by omega) h).1
    by_cases h2 : bk n = 2 ^ (ex n + 1)
    · have h3 : ex (bk n) = ex n + 1 := ex_of ⟨by omega, by rw [h2, Nat.pow_succ 2 (ex n + 1)]; have := Nat.pow_pos (n := ex n + 1) (show 0 < 2 by omega); omega⟩ hl
      have h4 := st_dvd (bk n) (by omega) hl
      rw [h3, ← h2] at h4
      exact bk_mul _ _ (by omega) h4
    · have h3 : ex (bk n) = ex n := ex_of ⟨by have := he.1; omega, by omega⟩ hl
      have h4 : st (bk n) = st n := by unfold st; rw [h3]
      have h5 := Nat.div_add_mod (bk n) (st n)
      rw [hd, Nat.add_zero, Nat.mul_comm] at h5
      exact bk_mul _ (bk n / st n) (by omega) (by rw [h4]; exact h5.symm)
theorem bk_mono (n m : Nat) (h : n ≤ m) (hm : m ≤ 1048576) : bk n ≤ bk m := by
  have hg := bk_ge m
  by_cases h0 : n ≤ 1
  · have : bk n = n := if_pos h0
    omega
  · have h1 : 2 ≤ n := by omega
    have he := (ex_spec n (by omega) (by omega)).1
    have hf := (ex_spec m (by omega) hm).1
    rcases Nat.lt_trichotomy (ex n) (ex m) with h2 | h2 | h2
    · have := bk_top n h1 (by omega)
      have := Nat.pow_le_pow_right (n := 2) (by omega) (show ex n + 1 ≤ ex m from h2)
      have := hf.1
      omega
    · have h4 : st m = st n := by unfold st; rw [h2]
      rw [bk_big n h1, bk_big m (by omega), h4]
      exact up_mono n m _ h
    · have := Nat.pow_le_pow_right (n := 2) (by omega) (show ex m + 1 ≤ ex n from h2)
      have := he.1; have := hf.2
      omega
theorem bk_little (n : Nat) (h1 : 2 ≤ n) (h2 : n ≤ 1048576) : (bk n - n) * (ex n + 1) < n := by
  have he := ex_spec n (by omega) h2
  have hs := sx_spec (ex n) (ex_pos n h1 h2) he.2
  have hu := (up_le n (st n) (st_pos n)).2
  rw [← bk_big n h1] at hu
  have hp := st_pos n
  have h3 : bk n - n ≤ st n - 1 := by omega
  have h4 := Nat.mul_le_mul h3 (show ex n + 1 ≤ 2 ^ sx (ex n) from hs.2.1)
  have h5 := st_dvd n h1 h2
  have h6 : (st n - 1) * 2 ^ sx (ex n) < 2 ^ ex n := by
    rw [h5, Nat.mul_comm]
    exact Nat.mul_lt_mul_of_pos_left (by omega) (Nat.pow_pos (by omega))
  have := he.1.1
  omega
/-- reached from the power on, step by step: at the first that is not below -/
theorem bk_from (n b j : Nat) (h1 : 2 ≤ n) (h2 : n ≤ 1048576) (hb : b = 2 ^ ex n + j * st n) (hn : n ≤ b) (hj : j = 0 ∨ 2 ^ ex n + (j - 1) * st n < n) : b = bk n := by
  have h5 := st_dvd n h1 h2
  have hp := st_pos n
  have e1 : b = (2 ^ sx (ex n) + j) * st n := by rw [hb, h5, Nat.add_mul]
  have h6 : bk n ≤ b := by rw [e1]; exact bk_least n _ h1 (by rw [← e1]; exact hn)
  have hg := bk_ge n
  rcases hj with rfl | hj
  · have he := (ex_spec n (by omega) h2).1.1
    simp at hb
    omega
  · apply Nat.le_antisymm _ h6
    apply Nat.le_of_not_lt
    intro h7
    obtain ⟨i, hi⟩ : ∃ i, bk n = i * st n := ⟨_, bk_big n h1⟩
    by_cases h0 : j = 0
    · subst h0
      have he := (ex_spec n (by omega) h2).1.1
      simp at hb
      omega
    · obtain ⟨q, rfl⟩ : ∃ q, j = q + 1 := ⟨j - 1, by omega⟩
      rw [Nat.add_sub_cancel, h5, ← Nat.add_mul] at hj
      have a1 : (2 ^ sx (ex n) + q) * st n < i * st n := by omega
      have a2 : i * st n < (2 ^ sx (ex n) + (q + 1)) * st n := by omega
      have a3 := Nat.lt_of_mul_lt_mul_right a1
      have a4 := Nat.lt_of_mul_lt_mul_right a2
      omega
end Go.Proofs.Ytcoddgpfdcjnaab.Fr
