import Derived.Test.YtggfeppphhigdabDoorPolB
namespace Go.Proofs.YtggfeppphhigdabDoor
open Go.RowKit Go.Lib

/-- a number of the document's: 24 digits to the base 65536 -/
def d24 (v : Nat) : List Nat := dg 65536 24 v
theorem d24_length (v : Nat) : (d24 v).length = 24 := dg_length _ _ _
theorem d24_at (v i : Nat) : (d24 v).getD i 0 < 65536 := by
  rw [List.getD_eq_getElem?_getD]
  cases hi : (d24 v)[i]? with
  | none => simp
  | some x => exact dg_lt _ _ _ (by omega) x (List.mem_of_getElem? hi)
theorem vl_d24 (v : Nat) (h : v < 65536 ^ 24) : vl 65536 (d24 v) = v := vl_dg_lt _ _ _ h
theorem d24_zero : d24 0 = List.replicate 24 0 := dg_zero _ _

/-- a byte more, even or odd -/
theorem num_digit (U k y : Nat) (hU : U < 256 ^ k) (hk : k < 48) (hy : y < 256) :
    (d24 U).set (k / 2) (U / 65536 ^ (k / 2) % 65536 + (if k % 2 = 0 then y else 256 * y)) = d24 (U + 256 ^ k * y) ∧ U / 65536 ^ (k / 2) % 65536 < 256 := by
  have e2 : (65536 : Nat) ^ (k / 2) = 256 ^ (2 * (k / 2)) := by rw [show (65536 : Nat) = 256 ^ 2 from rfl, ← Nat.pow_mul]
  have hp : 0 < 65536 ^ (k / 2) := Nat.pow_pos (by omega)
  have h24 : U < 65536 ^ 24 := by
    refine Nat.lt_of_lt_of_le hU ?_
    rw [show (65536 : Nat) ^ 24 = 256 ^ 48 from rfl]
    exact Nat.pow_le_pow_right (by omega) (by omega)
  by_cases hev : k % 2 = 0
  · have ek : k = 2 * (k / 2) := by omega
    have hq : U / 65536 ^ (k / 2) = 0 := by
      apply Nat.div_eq_of_lt
      rw [e2, ← ek]
      exact hU
    rw [if_pos hev]
    have h := dg_set 65536 24 U (k / 2) y (by omega) (by rw [hq]; omega)
    rw [Nat.mod_eq_of_lt h24, e2, ← ek] at h
    refine ⟨?_, by rw [hq]; omega⟩
    rw [e2, ← ek]
    exact h
  · have ek : k = 2 * (k / 2) + 1 := by omega
    have e3 : (256 : Nat) ^ k = 65536 ^ (k / 2) * 256 := by rw [e2, ← Nat.pow_succ]; congr 1
    have hq : U / 65536 ^ (k / 2) < 256 := by
      rw [Nat.div_lt_iff_lt_mul hp, Nat.mul_comm, ← e3]
      exact hU
    rw [if_neg hev]
    have hq2 : U / 65536 ^ (k / 2) % 65536 < 256 := Nat.lt_of_le_of_lt (Nat.mod_le _ _) hq
    have h := dg_set 65536 24 U (k / 2) (256 * y) (by omega) (by revert hq2; generalize U / 65536 ^ (k / 2) % 65536 = q; omega)
    rw [Nat.mod_eq_of_lt h24] at h
    refine ⟨?_, hq2⟩
    rw [e3, Nat.mul_assoc]
    exact h

/-- 2^130 and what stands above it -/
theorem parted_low (v : Nat) : (d24 v).take 8 ++ [(d24 v).getD 8 0 % 4] ++ List.replicate 15 0 = d24 (v % 1361129467683753853853498429727072845824) := by
  have e : ∀ u, d24 u = dg 65536 8 u ++ dg 65536 16 (u / 65536 ^ 8) := by
    intro u
    have : ∀ m n w, dg 65536 (m + n) w = dg 65536 m w ++ dg 65536 n (w / 65536 ^ m) := by
      intro m n
      induction m with
      | zero => intro w; simp [dg]
      | succ m ih =>
        intro w
        rw [show m + 1 + n = (m + n) + 1 by omega, dg, dg, ih, List.cons_append, Nat.div_div_eq_div_mul, Nat.pow_succ, Nat.mul_comm (65536 ^ m)]
    exact this 8 16 u
  have h1 : (d24 v).take 8 = dg 65536 8 v := dg_take _ _ _ _ (by omega)
  have h2 : (d24 v).getD 8 0 = v / 65536 ^ 8 % 65536 := dg_getD _ _ _ _ (by omega)
  rw [h1, h2, e (v % _)]
  have h3 : dg 65536 8 (v % 1361129467683753853853498429727072845824) = dg 65536 8 v := by
    rw [← dg_mod 65536 8 v (by omega), ← dg_mod 65536 8 (v % _) (by omega)]
    congr 1
    simp only [Nat.reducePow]
    omega
  have h4 : v % 1361129467683753853853498429727072845824 / 65536 ^ 8 = v / 65536 ^ 8 % 65536 % 4 := by
    simp only [Nat.reducePow]
    omega
  rw [h3, h4, List.append_assoc]
  congr 1
  generalize v / 65536 ^ 8 % 65536 = x
  rw [show (16 : Nat) = 15 + 1 from rfl, dg]
  have h5 : x % 4 % 65536 = x % 4 := by omega
  have h6 : x % 4 / 65536 = 0 := by omega
  rw [h5, h6, dg_zero]
  rfl
/-- a digit of what stands above -/
theorem parted_high (v i : Nat) (hi : i < 16) : (d24 v).getD (i + 8) 0 / 4 + (if i + 9 < 24 then (d24 v).getD (i + 9) 0 % 4 else 0) * 16384 = v % 65536 ^ 24 / 1361129467683753853853498429727072845824 / 65536 ^ i % 65536 := by
  have h1 : (d24 v).getD (i + 8) 0 = v % 65536 ^ 24 / 65536 ^ (i + 8) % 65536 := by
    have := dg_getD 65536 24 (i + 8) (v % 65536 ^ 24) (by omega)
    rw [dg_mod _ _ _ (by omega)] at this
    exact this
  have h2 : (if i + 9 < 24 then (d24 v).getD (i + 9) 0 % 4 else 0) = v % 65536 ^ 24 / 65536 ^ (i + 9) % 4 := by
    by_cases h : i + 9 < 24
    · rw [if_pos h]
      have := dg_getD 65536 24 (i + 9) (v % 65536 ^ 24) (by omega)
      rw [dg_mod _ _ _ (by omega)] at this
      show (dg 65536 24 v).getD (i + 9) 0 % 4 = _
      rw [this]
      omega
    · rw [if_neg h, show i + 9 = 24 by omega, Nat.div_eq_of_lt (Nat.mod_lt _ (Nat.pow_pos (by omega)))]
  rw [h1, h2, Nat.div_div_eq_div_mul, show 1361129467683753853853498429727072845824 = 65536 ^ 8 * 4 from rfl]
  generalize v % 65536 ^ 24 = u
  have e1 : u / 65536 ^ (i + 9) = u / 65536 ^ (i + 8) / 65536 := by rw [Nat.div_div_eq_div_mul, ← Nat.pow_succ]
  have e2 : u / (65536 ^ 8 * 4 * 65536 ^ i) = u / 65536 ^ (i + 8) / 4 := by rw [Nat.div_div_eq_div_mul, show 65536 ^ 8 * 4 * 65536 ^ i = 65536 ^ (i + 8) * 4 by rw [Nat.pow_add, Nat.mul_comm (65536 ^ i), Nat.mul_assoc, Nat.mul_comm 4, ← Nat.mul_assoc]]
  rw [e1, e2]
  generalize u / 65536 ^ (i + 8) = q
  omega
theorem dg_high (u k : Nat) (_h : u < 65536 ^ 16) (hk : k ≤ 16) : dg 65536 k u ++ List.replicate (24 - k) 0 = if k = 16 then d24 u else dg 65536 k u ++ List.replicate (24 - k) 0 := by
  by_cases h16 : k = 16
  · subst h16
    rw [if_pos rfl]
    have hx := dg_vl 65536 (dg 65536 16 u ++ List.replicate 8 0) (by
      intro x hx
      rcases List.mem_append.1 hx with h | h
      · exact dg_lt _ _ _ (by omega) x h
      · rw [(List.mem_replicate.1 h).2]; omega)
    rw [List.length_append, dg_length, List.length_replicate, vl_append, vl_replicate, vl_dg_lt _ _ _ _h, Nat.mul_zero, Nat.add_zero] at hx
    exact hx.symm
  · rw [if_neg h16]

theorem modulo_end (v : Nat) (h : v < 1361129467683753853853498429727072845824) : (if (v + 5) / 1361129467683753853853498429727072845824 = 0 then v else (v + 5) % 1361129467683753853853498429727072845824) = v % Pp := by
  unfold Pp
  by_cases h5 : 1361129467683753853853498429727072845819 ≤ v
  · rw [if_neg (by omega)]
    omega
  · rw [if_pos (by omega)]
    omega

theorem and15 (x : UInt8) : (x &&& 15).toNat = x.toNat % 16 := by rw [UInt8.toNat_and]; exact Nat.and_two_pow_sub_one_eq_mod x.toNat 4
theorem and255 (x : UInt8) : x &&& 255 = x := by
  apply UInt8.toNat_inj.1
  rw [UInt8.toNat_and]
  have := Nat.and_two_pow_sub_one_eq_mod x.toNat 8
  have h := x.toNat_lt
  simp only [Nat.reducePow, Nat.reduceSub] at this
  exact this.trans (by omega)
theorem and252 (x : UInt8) : (x &&& 252).toNat = x.toNat / 4 * 4 := by
  have : ∀ n : Fin 256, (UInt8.ofNat n.val &&& 252).toNat = n.val / 4 * 4 := by decide +kernel
  have h := this ⟨x.toNat, x.toNat_lt⟩
  simpa using h

end Go.Proofs.YtggfeppphhigdabDoor
