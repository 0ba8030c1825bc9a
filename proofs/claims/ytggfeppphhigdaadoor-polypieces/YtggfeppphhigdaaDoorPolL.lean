import Derived.Test.YtggfeppphhigdaaDoorPolB
namespace Go.Proofs.YtggfeppphhigdaaDoor
open Go.RowKit Go.Lib

theorem accN_zero (l : List UInt8) (k : Nat) : accN 0 l k = 0 := by
  cases k with
  | zero => rfl
  | succ k => rw [accN, pstep, Nat.mul_zero, Nat.zero_mod]
theorem bytL_add_mod (n a s : Nat) : bytL n (a % 256 ^ n + s) = bytL n (a + s) := by
  unfold bytL
  congr 1
  rw [← dg_mod 256 n (a % 256 ^ n + s) (by omega), ← dg_mod 256 n (a + s) (by omega), Nat.mod_add_mod]
theorem rOf_take (k x : List UInt8) (h : 16 ≤ k.length) : rOf (k.take 16 ++ x) = rOf k := by
  unfold rOf clampL
  congr 2
  rw [List.take_append_of_le_length (by rw [List.length_take]; omega), List.take_take, Nat.min_self]
theorem drop_take16 (k x : List UInt8) (h : 16 ≤ k.length) : (k.take 16 ++ x).drop 16 = x := by
  rw [List.drop_append_of_le_length (by rw [List.length_take]; omega), List.drop_eq_nil_of_le (by rw [List.length_take]; omega), List.nil_append]
theorem adds_one (k t : List UInt8) (h : k.length = 32) : bytL 16 (numL (tagL (k.take 16 ++ List.replicate 16 0) t) + numL (k.drop 16)) = tagL k t := by
  unfold tagL
  rw [numL_bytL, rOf_take k _ (by omega), sOf, drop_take16 k _ (by omega), numL_zeros, bytL_add_mod]
  rfl
theorem clampL_zeros (x : List UInt8) : rOf (List.replicate 16 0 ++ x) = 0 := by
  unfold rOf clampL
  rw [List.take_append_of_le_length (by simp), List.take_of_length_le (by simp)]
  decide
theorem adds_two (s t : List UInt8) (h : s.length = 16) : tagL (List.replicate 16 0 ++ s) t = s := by
  unfold tagL tagN
  rw [clampL_zeros, accN_zero, sOf, List.drop_append_of_le_length (by simp), List.drop_eq_nil_of_le (by simp), List.nil_append, Nat.zero_add, ← h, bytL_numL]

theorem rOf_one (s : List UInt8) : rOf (1 :: List.replicate 15 0 ++ s) = 1 := by
  unfold rOf clampL
  rw [List.take_append_of_le_length (by simp), List.take_of_length_le (by simp)]
  decide
theorem one_tag (s t n : List UInt8) (_hs : s.length = 16) (ht : t.length ≤ 16) (hn : n = if t = [] then List.replicate 16 0 else (t ++ 1 :: List.replicate 16 0).take 16) :
    tagL (1 :: List.replicate 15 0 ++ s) t = bytL 16 (numL n + numL s) := by
  unfold tagL tagN
  have hso : sOf (1 :: List.replicate 15 0 ++ s) = numL s := by
    unfold sOf
    rw [List.drop_append_of_le_length (by simp), List.drop_eq_nil_of_le (by simp), List.nil_append]
  rw [rOf_one, hso]
  by_cases h0 : t = []
  · subst h0
    rw [if_pos rfl] at hn
    subst hn
    rw [numL_zeros]
    rfl
  · rw [if_neg h0] at hn
    have hl : 0 < t.length := List.length_pos_iff.2 h0
    have e1 : accN 1 t ((t.length + 15) / 16) = numL (t ++ [1]) := by
      rw [show (t.length + 15) / 16 = 0 + 1 by omega, accN, accN, pstep, Nat.mul_zero, List.drop_zero, List.take_of_length_le ht, Nat.zero_add, Nat.mul_one]
      apply Nat.mod_eq_of_lt
      have h1 := numL_lt t
      have h2 : 256 ^ t.length ≤ 256 ^ 16 := Nat.pow_le_pow_right (by omega) ht
      rw [numL_append, show numL [1] = 1 from rfl]
      unfold Pp
      simp only [Nat.reducePow] at h2
      omega
    have e2 : numL n = numL (t ++ [1]) % 256 ^ 16 := by
      subst hn
      have h3 : numL (t ++ 1 :: List.replicate 16 0) = numL (t ++ [1]) := by
        rw [show t ++ 1 :: List.replicate 16 0 = (t ++ [1]) ++ List.replicate 16 0 by simp, numL_pad]
      rw [← h3]
      generalize t ++ 1 :: List.replicate 16 0 = u at *
      by_cases hu : 16 ≤ u.length
      · conv => rhs; rw [← List.take_append_drop 16 u, numL_append, List.length_take, Nat.min_eq_left hu, Nat.add_mul_mod_self_left]
        rw [Nat.mod_eq_of_lt]
        have := numL_lt (u.take 16)
        rwa [List.length_take, Nat.min_eq_left hu] at this
      · rw [List.take_of_length_le (by omega), Nat.mod_eq_of_lt]
        exact Nat.lt_of_lt_of_le (numL_lt u) (Nat.pow_le_pow_right (by omega) (by omega))
    rw [e1, e2, bytL_add_mod]

theorem and_xor_zero (x m k : UInt8) (h : m &&& k = 0) : (x ^^^ m) &&& k = x &&& k := by
  apply UInt8.toNat_inj.1
  have h' := congrArg UInt8.toNat h
  rw [UInt8.toNat_and] at h'
  rw [UInt8.toNat_and, UInt8.toNat_xor, UInt8.toNat_and, Nat.and_xor_distrib_right, h']
  exact Nat.xor_zero _
theorem clampL_set (l : List UInt8) (i : Nat) (m : UInt8) (h : m &&& keptL.getD i 0 = 0) : clampL (l.set i (l.getD i 0 ^^^ m)) = clampL l := by
  unfold clampL
  apply List.ext_getElem?
  intro j
  rw [List.getElem?_zipWith, List.getElem?_zipWith, List.take_set, List.getElem?_set]
  by_cases hji : i = j
  · subst hji
    rw [if_pos rfl]
    by_cases hlt : i < (l.take 16).length
    · rw [if_pos hlt, List.getElem?_eq_getElem hlt]
      have hk : i < keptL.length := by rw [List.length_take] at hlt; show i < 16; omega
      rw [List.getElem?_eq_getElem hk]
      have e1 : l.getD i 0 = (l.take 16)[i] := by
        rw [List.getElem_take, List.getD_eq_getElem?_getD, List.getElem?_eq_getElem (by rw [List.length_take] at hlt; omega)]
        rfl
      have e2 : keptL.getD i 0 = keptL[i] := by rw [List.getD_eq_getElem?_getD, List.getElem?_eq_getElem hk]; rfl
      rw [e2] at h
      simp only [Option.some.injEq]
      rw [e1, and_xor_zero _ _ _ h]
    · rw [if_neg hlt, List.getElem?_eq_none (l := l.take 16) (by omega)]
  · rw [if_neg hji]

end Go.Proofs.YtggfeppphhigdaaDoor
