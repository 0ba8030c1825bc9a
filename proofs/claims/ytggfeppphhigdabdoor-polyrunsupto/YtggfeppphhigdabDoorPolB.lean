import Derived.Test.YtggfeppphhigdabDoorPolA
namespace Go.Proofs.YtggfeppphhigdabDoor
open Go.RowKit Go.Lib

/-- five limbs of 26 bits -/
def lim (v : Nat) : List Nat := dg 67108864 5 v
theorem lim_length (v : Nat) : (lim v).length = 5 := dg_length _ _ _
theorem lim_lt (v : Nat) : ∀ x ∈ lim v, x < 67108864 := dg_lt _ _ _ (by omega)
theorem vl_lim (v : Nat) (h : v < 1361129467683753853853498429727072845824) : vl 67108864 (lim v) = v := vl_dg_lt _ _ _ h
theorem lim_at (v i : Nat) : (lim v).getD i 0 < 67108864 := by
  rw [List.getD_eq_getElem?_getD]
  cases hi : (lim v)[i]? with
  | none => simp
  | some x => exact lim_lt v x (List.mem_of_getElem? hi)

theorem take_drop_split (l : List UInt8) (a n : Nat) (h : a + n ≤ l.length) : numL l = numL (l.take a) + 256 ^ a * (numL ((l.drop a).take n) + 256 ^ n * numL (l.drop (a + n))) := by
  conv => lhs; rw [← List.take_append_drop a l, numL_append, ← List.take_append_drop n (l.drop a), numL_append]
  rw [List.drop_drop, List.length_take, List.length_take, List.length_drop, Nat.min_eq_left (by omega), Nat.min_eq_left (by omega)]

theorem limb_eq (b : List UInt8) (h : b.length = 17) (i : Nat) (hi : i < 5) : numL ((b.drop (3 * i)).take 5) / 4 ^ i % 67108864 = numL b / 67108864 ^ i % 67108864 := by
  have hs := take_drop_split b (3 * i) 5 (by omega)
  have h1 := numL_lt (b.take (3 * i))
  have h2 := numL_lt ((b.drop (3 * i)).take 5)
  rw [List.length_take, Nat.min_eq_left (by omega)] at h1
  rw [List.length_take, List.length_drop, Nat.min_eq_left (by omega)] at h2
  revert hs h1 h2
  generalize numL b = V
  generalize numL ((b.drop (3 * i)).take 5) = m
  generalize numL (b.take (3 * i)) = lo
  generalize numL (b.drop (3 * i + 5)) = hi'
  intro hs h1 h2
  have : i = 0 ∨ i = 1 ∨ i = 2 ∨ i = 3 ∨ i = 4 := by omega
  rcases this with rfl | rfl | rfl | rfl | rfl <;> simp only [Nat.mul_zero, Nat.pow_zero, Nat.one_mul, Nat.reducePow, Nat.reduceMul, Nat.div_one] at hs h1 h2 ⊢ <;> omega

theorem numL_take_succ (l : List UInt8) (a j : Nat) (h : a + j < l.length) : numL ((l.drop a).take (j + 1)) = numL ((l.drop a).take j) + 256 ^ j * (l.getD (a + j) 0).toNat := by
  have e : (l.drop a).take (j + 1) = (l.drop a).take j ++ [l.getD (a + j) 0] := by
    rw [List.take_add_one, List.getElem?_drop, List.getD_eq_getElem?_getD, List.getElem?_eq_getElem h]
    rfl
  rw [e, numL_append, List.length_take, List.length_drop, Nat.min_eq_left (by omega)]
  simp [numL, vl]

/-- a digit put over, where there is room for it -/
theorem dg_set (b n U k y : Nat) (hk : k < n) (hy : U / b ^ k % b + y < b) : (dg b n U).set k (U / b ^ k % b + y) = dg b n (U % b ^ n + b ^ k * y) := by
  have hb : 0 < b := by omega
  have hg := dg_getD b n k U hk
  have hv := vl_set b (dg b n U) k y (by rw [dg_length]; exact hk)
  rw [hg, vl_dg] at hv
  have hall : ∀ x ∈ (dg b n U).set k (U / b ^ k % b + y), x < b := by
    intro x hx
    rcases List.mem_or_eq_of_mem_set hx with h1 | rfl
    · exact dg_lt _ _ _ hb x h1
    · exact hy
  have h := dg_vl b _ hall
  rw [List.length_set, dg_length, hv] at h
  exact h.symm

/-- the bytes of a number's limbs: so far i limbs, and of the next one j bytes -/
def txt (v i j : Nat) : Nat := v % 67108864 ^ i + 256 ^ (3 * i) * ((v / 67108864 ^ i % 67108864 * 4 ^ i) % 256 ^ j)
theorem txt_next (v i : Nat) (hi : i < 5) : txt v i 5 = txt v (i + 1) 0 := by
  unfold txt
  have : i = 0 ∨ i = 1 ∨ i = 2 ∨ i = 3 ∨ i = 4 := by omega
  rcases this with rfl | rfl | rfl | rfl | rfl <;> simp only [Nat.mul_zero, Nat.pow_zero, Nat.one_mul, Nat.reducePow, Nat.reduceMul, Nat.div_one, Nat.mod_one, Nat.zero_add, Nat.reduceAdd, Nat.add_zero] <;> omega
theorem or_digit (a y s : Nat) (h1 : a < 2 ^ s) (h2 : y % 2 ^ s = 0) : a ||| y = a + y := by
  obtain ⟨z, rfl⟩ : ∃ z, y = 2 ^ s * z := ⟨y / 2 ^ s, by have := Nat.mod_add_div y (2 ^ s); omega⟩
  rw [Nat.or_comm, ← Nat.two_pow_add_eq_or_of_lt h1, Nat.add_comm]
theorem txt_byte (v i j : Nat) (hi : i < 5) (hj : j < 5) : txt v i j / 256 ^ (3 * i + j) % 256 < 4 ^ i ∧ (j ≠ 0 → txt v i j / 256 ^ (3 * i + j) % 256 = 0) := by
  unfold txt
  have h1 : i = 0 ∨ i = 1 ∨ i = 2 ∨ i = 3 ∨ i = 4 := by omega
  have h2 : j = 0 ∨ j = 1 ∨ j = 2 ∨ j = 3 ∨ j = 4 := by omega
  rcases h1 with rfl | rfl | rfl | rfl | rfl <;> rcases h2 with rfl | rfl | rfl | rfl | rfl <;> simp only [Nat.mul_zero, Nat.pow_zero, Nat.one_mul, Nat.mul_one, Nat.reducePow, Nat.reduceMul, Nat.div_one, Nat.mod_one, Nat.zero_add, Nat.reduceAdd, Nat.add_zero] <;> refine ⟨?_, ?_⟩ <;> first | omega | (intro h; first | omega | exact absurd rfl h)
theorem txt_more (v i j : Nat) : txt v i (j + 1) = txt v i j + 256 ^ (3 * i + j) * ((v / 67108864 ^ i % 67108864 * 4 ^ i) / 256 ^ j % 256) := by
  unfold txt
  generalize v / 67108864 ^ i % 67108864 * 4 ^ i = X
  rw [Nat.pow_succ, Nat.mod_mul, Nat.mul_add, Nat.pow_add, Nat.mul_assoc]
  omega
theorem txt_lt (v i j : Nat) (hi : i < 5) (hj : j ≤ 5) : txt v i j < 256 ^ 17 := by
  unfold txt
  have h1 : i = 0 ∨ i = 1 ∨ i = 2 ∨ i = 3 ∨ i = 4 := by omega
  have h2 : j = 0 ∨ j = 1 ∨ j = 2 ∨ j = 3 ∨ j = 4 ∨ j = 5 := by omega
  rcases h1 with rfl | rfl | rfl | rfl | rfl <;> rcases h2 with rfl | rfl | rfl | rfl | rfl | rfl <;> simp only [Nat.mul_zero, Nat.pow_zero, Nat.one_mul, Nat.mul_one, Nat.reducePow, Nat.reduceMul, Nat.div_one, Nat.mod_one, Nat.zero_add, Nat.add_zero] <;> omega
theorem txt_or (v i j : Nat) (hi : i < 5) (hj : j < 5) :
    txt v i j / 256 ^ (3 * i + j) % 256 ||| ((v / 67108864 ^ i % 67108864 * 4 ^ i) / 256 ^ j % 256) = txt v i j / 256 ^ (3 * i + j) % 256 + ((v / 67108864 ^ i % 67108864 * 4 ^ i) / 256 ^ j % 256)
      ∧ txt v i j / 256 ^ (3 * i + j) % 256 + ((v / 67108864 ^ i % 67108864 * 4 ^ i) / 256 ^ j % 256) < 256 := by
  obtain ⟨b1, b2⟩ := txt_byte v i j hi hj
  revert b1 b2
  generalize txt v i j / 256 ^ (3 * i + j) % 256 = a
  generalize v / 67108864 ^ i % 67108864 = x
  intro b1 b2
  have e4 : 4 ^ i = 2 ^ (2 * i) := by rw [Nat.pow_mul]
  by_cases h0 : j = 0
  · subst h0
    have hm : x * 4 ^ i / 256 ^ 0 % 256 % 2 ^ (2 * i) = 0 := by
      rw [Nat.pow_zero, Nat.div_one, e4]
      have hd : 2 ^ (2 * i) ∣ 256 := by
        have h1 : i = 0 ∨ i = 1 ∨ i = 2 ∨ i = 3 ∨ i = 4 := by omega
        rcases h1 with rfl | rfl | rfl | rfl | rfl <;> decide
      rw [Nat.mod_mod_of_dvd _ hd, Nat.mul_mod_left]
    rw [e4] at b1
    refine ⟨or_digit a _ (2 * i) b1 hm, ?_⟩
    rw [← e4] at hm b1
    have hy : x * 4 ^ i / 256 ^ 0 % 256 < 256 := Nat.mod_lt _ (by omega)
    revert hm hy
    generalize x * 4 ^ i / 256 ^ 0 % 256 = y
    intro hm hy
    have h1 : i = 0 ∨ i = 1 ∨ i = 2 ∨ i = 3 ∨ i = 4 := by omega
    rcases h1 with rfl | rfl | rfl | rfl | rfl <;> simp only [Nat.reducePow] at hm b1 <;> omega
  · obtain rfl : a = 0 := b2 h0
    simp
    omega
/-- taken together: a byte more -/
theorem txt_set (v i j : Nat) (hi : i < 5) (hj : j < 5) :
    (dg 256 17 (txt v i j)).set (3 * i + j) (txt v i j / 256 ^ (3 * i + j) % 256 ||| ((v / 67108864 ^ i % 67108864 * 4 ^ i) / 256 ^ j % 256)) = dg 256 17 (txt v i (j + 1)) := by
  obtain ⟨h1, h2⟩ := txt_or v i j hi hj
  rw [h1, dg_set 256 17 _ _ _ (by omega) h2, Nat.mod_eq_of_lt (txt_lt v i j hi (by omega)), txt_more]

/-- the product, limb by limb -/
theorem fold10 (S : List Nat) (h : S.length = 10) : vl 67108864 (S.take 5) + 5 * vl 67108864 (S.drop 5) + Pp * vl 67108864 (S.drop 5) = vl 67108864 S := by
  conv => rhs; rw [← List.take_append_drop 5 S, vl_append]
  rw [List.length_take, h, show min 5 10 = 5 from rfl]
  simp only [Nat.reducePow]
  unfold Pp
  omega
theorem zip5 (S : List Nat) (h : S.length = 10) : vl 67108864 ((List.range 5).map fun i => S.getD i 0 + 5 * S.getD (i + 5) 0) = vl 67108864 (S.take 5) + 5 * vl 67108864 (S.drop 5) := by
  match S, h with
  | [a, b, c, d, e, f, g, x, y, z], _ =>
    simp [List.range_succ, vl]
    omega
theorem vl5_lt (l : List Nat) (h : l.length = 5) (M : Nat) (hM : ∀ i, l.getD i 0 < M) : vl 67108864 l < M * 20282409905883129831204239441921 := by
  match l, h with
  | [a, b, c, d, e], _ =>
    have h0 := hM 0
    have h1 := hM 1
    have h2 := hM 2
    have h3 := hM 3
    have h4 := hM 4
    simp [vl] at *
    omega

/-- what a number at rest is modulo p -/
theorem least_eq (v : Nat) (h : v < 1361129467683753853853498429727072845824) : (v + 5 * ((v + 5) / 1361129467683753853853498429727072845824)) % 1361129467683753853853498429727072845824 = v % Pp := by
  unfold Pp
  by_cases h5 : 1361129467683753853853498429727072845819 ≤ v
  · rw [show (v + 5) / 1361129467683753853853498429727072845824 = 1 by omega]
    omega
  · rw [show (v + 5) / 1361129467683753853853498429727072845824 = 0 by omega]
    omega

end Go.Proofs.YtggfeppphhigdabDoor
