import Derived.Test.YtengclnahppmhaaGreatDoorBaseM
import Derived.Test.YtengclnahppmhaaGreatDoorRows
import Derived.OwnWalk
import Derived.KernelRfl
import Derived.Laws.BitsAll
import Derived.Deep.Cut
namespace Go.Proofs.YtengclnahppmhaaGreatDoor.Pol
open Go.RowKit Go.Lib

/-- digits, the lowest first -/
def dg (b : Nat) : Nat → Nat → List Nat
  | 0, _ => []
  | n + 1, v => v % b :: dg b n (v / b)
/-- what digits come to -/
def vl (b : Nat) : List Nat → Nat
  | [] => 0
  | x :: r => x + b * vl b r

theorem dg_length (b n v : Nat) : (dg b n v).length = n := by
  induction n generalizing v with
  | zero => rfl
  | succ n ih => simp [dg, ih]
theorem dg_lt (b n v : Nat) (hb : 0 < b) : ∀ x ∈ dg b n v, x < b := by
  induction n generalizing v with
  | zero => intro x h; simp [dg] at h
  | succ n ih =>
    intro x h
    simp only [dg, List.mem_cons] at h
    rcases h with rfl | h
    · exact Nat.mod_lt _ hb
    · exact ih _ x h
theorem vl_dg (b n v : Nat) : vl b (dg b n v) = v % b ^ n := by
  induction n generalizing v with
  | zero => simp [dg, vl, Nat.mod_one]
  | succ n ih => rw [dg, vl, ih, Nat.pow_succ, Nat.mul_comm (b ^ n) b, Nat.mod_mul]
theorem vl_dg_lt (b n v : Nat) (h : v < b ^ n) : vl b (dg b n v) = v := by rw [vl_dg, Nat.mod_eq_of_lt h]
theorem dg_vl (b : Nat) (l : List Nat) (h : ∀ x ∈ l, x < b) : dg b l.length (vl b l) = l := by
  induction l with
  | nil => rfl
  | cons x r ih =>
    have hx := h x (by simp)
    have hb : 0 < b := by omega
    simp only [List.length_cons, dg, vl, Nat.add_mul_mod_self_left, Nat.mod_eq_of_lt hx, Nat.add_mul_div_left _ _ hb, Nat.div_eq_of_lt hx, Nat.zero_add, ih (fun y hy => h y (by simp [hy]))]
theorem vl_append (b : Nat) (l r : List Nat) : vl b (l ++ r) = vl b l + b ^ l.length * vl b r := by
  induction l with
  | nil => simp [vl]
  | cons x l ih => simp only [List.cons_append, vl, ih, List.length_cons, Nat.mul_add, Nat.pow_succ]; rw [Nat.mul_comm (b ^ l.length) b, Nat.mul_assoc]; omega
theorem dg_snoc (b n v : Nat) : dg b (n + 1) v = dg b n v ++ [v / b ^ n % b] := by
  induction n generalizing v with
  | zero => simp [dg]
  | succ n ih =>
    rw [dg, ih, dg]
    simp only [List.cons_append, List.cons.injEq, true_and]
    rw [Nat.div_div_eq_div_mul, Nat.pow_succ, Nat.mul_comm (b ^ n) b]
theorem dg_add (b n v x : Nat) (hb : 0 < b) : dg b n (v + b ^ n * x) = dg b n v := by
  induction n generalizing v with
  | zero => rfl
  | succ n ih =>
    have e : v + b ^ (n + 1) * x = v + b * (b ^ n * x) := by rw [Nat.pow_succ, Nat.mul_comm (b ^ n) b, Nat.mul_assoc]
    rw [dg, dg, e, Nat.add_mul_mod_self_left, Nat.add_mul_div_left _ _ hb, ih]
theorem dg_mod (b n v : Nat) (hb : 0 < b) : dg b n (v % b ^ n) = dg b n v := by
  have e : v = v % b ^ n + b ^ n * (v / b ^ n) := (Nat.mod_add_div v (b ^ n)).symm
  conv => rhs; rw [e]
  rw [dg_add _ _ _ _ hb]
theorem dg_zero (b n : Nat) : dg b n 0 = List.replicate n 0 := by
  induction n with
  | zero => rfl
  | succ n ih => simp [dg, ih, List.replicate_succ]
theorem dg_take (b n k v : Nat) (h : k ≤ n) : (dg b n v).take k = dg b k v := by
  induction k generalizing n v with
  | zero => simp [dg]
  | succ k ih =>
    obtain ⟨m, rfl⟩ : ∃ m, n = m + 1 := ⟨n - 1, by omega⟩
    simp [dg, ih m (v / b) (by omega)]
theorem dg_getD (b n k v : Nat) (h : k < n) : (dg b n v).getD k 0 = v / b ^ k % b := by
  induction k generalizing n v with
  | zero =>
    obtain ⟨m, rfl⟩ : ∃ m, n = m + 1 := ⟨n - 1, by omega⟩
    simp [dg]
  | succ k ih =>
    obtain ⟨m, rfl⟩ : ∃ m, n = m + 1 := ⟨n - 1, by omega⟩
    rw [dg, List.getD_cons_succ, ih m (v / b) (by omega), Nat.div_div_eq_div_mul, Nat.pow_succ, Nat.mul_comm (b ^ k) b]

theorem vl_replicate (b n : Nat) : vl b (List.replicate n 0) = 0 := by
  induction n with
  | zero => rfl
  | succ n ih => simp [List.replicate_succ, vl, ih]
theorem vl_set (b : Nat) (l : List Nat) (i d : Nat) (h : i < l.length) : vl b (l.set i (l.getD i 0 + d)) = vl b l + b ^ i * d := by
  induction l generalizing i with
  | nil => simp at h
  | cons x r ih =>
    cases i with
    | zero => simp [vl]; omega
    | succ i =>
      simp only [List.length_cons] at h
      rw [List.set_cons_succ, List.getD_cons_succ, vl, ih i (by omega), vl, Nat.pow_succ, Nat.mul_comm (b ^ i) b, Nat.mul_assoc, Nat.mul_add]
      omega
theorem vl_take_succ (b : Nat) (l : List Nat) (k : Nat) (h : k < l.length) : vl b (l.take (k + 1)) = vl b (l.take k) + b ^ k * l.getD k 0 := by
  have e : l.take (k + 1) = l.take k ++ [l.getD k 0] := by
    rw [List.take_add_one, List.getD_eq_getElem?_getD, List.getElem?_eq_getElem h]
    rfl
  rw [e, vl_append, List.length_take, Nat.min_eq_left (by omega)]
  simp [vl]

/-- one digit more of what is carried on -/
theorem carry_digit (b k V x : Nat) (hb : 0 < b) : dg b (k + 1) (V + b ^ k * x) = dg b k V ++ [(V / b ^ k + x) % b] := by
  rw [dg_snoc, dg_add _ _ _ _ hb, Nat.add_mul_div_left _ _ (Nat.pow_pos hb)]
theorem carry_over (b k V x : Nat) (hb : 0 < b) : (V + b ^ k * x) / b ^ (k + 1) = (V / b ^ k + x) / b := by
  rw [Nat.pow_succ, ← Nat.div_div_eq_div_mul, Nat.add_mul_div_left _ _ (Nat.pow_pos hb)]

theorem vl_zip_add (b : Nat) (l r : List Nat) (h : l.length = r.length) : vl b (List.zipWith (· + ·) l r) = vl b l + vl b r := by
  induction l generalizing r with
  | nil => cases r with
    | nil => rfl
    | cons y r => simp at h
  | cons x l ih => cases r with
    | nil => simp at h
    | cons y r =>
      simp only [List.zipWith_cons_cons, vl, ih r (by simpa using h), Nat.mul_add]
      omega
theorem vl_map_mul (b c : Nat) (l : List Nat) : vl b (l.map (c * ·)) = c * vl b l := by
  induction l with
  | nil => rfl
  | cons x l ih => simp only [List.map_cons, vl, ih, Nat.mul_add]; rw [← Nat.mul_assoc, ← Nat.mul_assoc, Nat.mul_comm b c]
theorem vl_lt (b : Nat) (l : List Nat) (h : ∀ x ∈ l, x < b) : vl b l < b ^ l.length := by
  induction l with
  | nil => simp [vl]
  | cons x r ih =>
    have hx := h x (by simp)
    have hr := ih (fun y hy => h y (by simp [hy]))
    rw [vl, List.length_cons, Nat.pow_succ, Nat.mul_comm (b ^ r.length) b]
    have := Nat.mul_le_mul_left b (show vl b r + 1 ≤ b ^ r.length from hr)
    rw [Nat.mul_add] at this
    omega

/-- the prime -/
def Pp : Nat := 1361129467683753853853498429727072845819
/-- what stands above 2^130, five times below it -/
def fd (v : Nat) : Nat := v % 1361129467683753853853498429727072845824 + 5 * (v / 1361129467683753853853498429727072845824)
theorem fd_mod (v : Nat) : fd v % Pp = v % Pp := by
  have e : v = fd v + Pp * (v / 1361129467683753853853498429727072845824) := by unfold fd Pp; omega
  conv => rhs; rw [e]
  rw [Nat.add_mul_mod_self_left]
theorem fd_lt (v : Nat) (h : v < 23384026197294446691258957323460528314494920687616) : fd v < 1361129467683753853853498429813000000000 := by unfold fd; omega
theorem fd_fd_lt (v : Nat) (h : v < 23384026197294446691258957323460528314494920687616) : fd (fd v) < 1361129467683753853853498429727072845824 := by
  have := fd_lt v h
  generalize fd v = u at this
  unfold fd
  omega
theorem fd_self (v : Nat) (h : v < 1361129467683753853853498429727072845824) : fd v = v := by unfold fd; omega
theorem fd_less (v : Nat) (h : 1361129467683753853853498429727072845824 ≤ v) : fd v < v := by unfold fd; omega

/-- bytes as a number, the lowest first -/
def numL (l : List UInt8) : Nat := vl 256 (l.map UInt8.toNat)
theorem numL_lt (l : List UInt8) : numL l < 256 ^ l.length := by
  have := vl_lt 256 (l.map UInt8.toNat) (by
    intro x hx
    obtain ⟨y, _, rfl⟩ := List.mem_map.1 hx
    exact y.toNat_lt)
  rwa [List.length_map] at this
theorem numL_append (l r : List UInt8) : numL (l ++ r) = numL l + 256 ^ l.length * numL r := by
  unfold numL
  rw [List.map_append, vl_append, List.length_map]
theorem numL_zeros (n : Nat) : numL (List.replicate n 0) = 0 := by
  unfold numL
  rw [List.map_replicate]
  exact vl_replicate _ _
theorem numL_pad (l : List UInt8) (n : Nat) : numL (l ++ List.replicate n 0) = numL l := by rw [numL_append, numL_zeros]; omega
/-- a number as so many bytes -/
def bytL (n v : Nat) : List UInt8 := (dg 256 n v).map UInt8.ofNat
theorem bytL_length (n v : Nat) : (bytL n v).length = n := by simp [bytL, dg_length]
theorem ofNat_toNat (x : Nat) (h : x < 256) : (UInt8.ofNat x).toNat = x := by rw [UInt8.toNat_ofNat']; omega
theorem bytL_nat (n v : Nat) : (bytL n v).map UInt8.toNat = dg 256 n v := by
  unfold bytL
  rw [List.map_map]
  have : ∀ l : List Nat, (∀ x ∈ l, x < 256) → l.map (UInt8.toNat ∘ UInt8.ofNat) = l := by
    intro l h
    induction l with
    | nil => rfl
    | cons x r ih => simp only [List.map_cons, Function.comp, ofNat_toNat x (h x (by simp))]; rw [ih (fun y hy => h y (by simp [hy]))]
  exact this _ (dg_lt _ _ _ (by omega))
theorem numL_bytL (n v : Nat) : numL (bytL n v) = v % 256 ^ n := by rw [numL, bytL_nat, vl_dg]
theorem bytL_numL (l : List UInt8) : bytL l.length (numL l) = l := by
  have h := dg_vl 256 (l.map UInt8.toNat) (by
    intro x hx
    obtain ⟨y, _, rfl⟩ := List.mem_map.1 hx
    exact y.toNat_lt)
  rw [List.length_map] at h
  unfold bytL numL
  rw [h, List.map_map]
  conv => rhs; rw [← List.map_id l]
  congr 1
  funext x
  simp

/-- one block -/
def pstep (r a : Nat) (blk : List UInt8) : Nat := (a + numL (blk ++ [1])) * r % Pp
/-- so many blocks of a text -/
def accN (r : Nat) (l : List UInt8) : Nat → Nat
  | 0 => 0
  | k + 1 => pstep r (accN r l k) ((l.drop (16 * k)).take 16)
theorem accN_append (r : Nat) (l x : List UInt8) (k : Nat) (h : 16 * k ≤ l.length) : accN r (l ++ x) k = accN r l k := by
  induction k with
  | zero => rfl
  | succ k ih =>
    rw [accN, accN, ih (by omega), List.drop_append_of_le_length (by omega), List.take_append_of_le_length (by rw [List.length_drop]; omega)]
theorem accN_lt (r : Nat) (l : List UInt8) (k : Nat) : accN r l k < Pp := by
  cases k with
  | zero => exact (by decide : 0 < Pp)
  | succ k => exact Nat.mod_lt _ (by decide)
def keptL : List UInt8 := [255, 255, 255, 15, 252, 255, 255, 15, 252, 255, 255, 15, 252, 255, 255, 15]
/-- the first half of a key, without the bits that are taken as 0 -/
def clampL (key : List UInt8) : List UInt8 := List.zipWith (· &&& ·) (key.take 16) keptL
def rOf (key : List UInt8) : Nat := numL (clampL key)
def sOf (key : List UInt8) : Nat := numL (key.drop 16)
def tagN (r s : Nat) (l : List UInt8) : Nat := accN r l ((l.length + 15) / 16) + s
def tagL (key l : List UInt8) : List UInt8 := bytL 16 (tagN (rOf key) (sOf key) l)
theorem tagL_length (key l : List UInt8) : (tagL key l).length = 16 := bytL_length _ _
theorem clampL_length (key : List UInt8) (h : 16 ≤ key.length) : (clampL key).length = 16 := by
  rw [clampL, List.length_zipWith, List.length_take, Nat.min_eq_left h]
  rfl
theorem rOf_lt (key : List UInt8) (h : 16 ≤ key.length) : rOf key < 340282366920938463463374607431768211456 := by
  have := numL_lt (clampL key)
  rw [clampL_length key h] at this
  exact this
theorem sOf_lt (key : List UInt8) (h : key.length = 32) : sOf key < 340282366920938463463374607431768211456 := by
  have := numL_lt (key.drop 16)
  rw [List.length_drop, h] at this
  exact this

end Go.Proofs.YtengclnahppmhaaGreatDoor.Pol

namespace Go.Proofs.YtengclnahppmhaaGreatDoor.Pol
open Go.RowKit Go.Lib

/-- five limbs of 26 bits -/
def lim (v : Nat) : List Nat := dg 67108864 5 v
theorem lim_length (v : Nat) : (lim v).length = 5 := dg_length _ _ _
theorem lim_lt (v : Nat) : ∀ x ∈ lim v, x < 67108864 := dg_lt _ _ _ (by omega)
theorem vl_lim (v : Nat) (h : v < 1361129467683753853853498429727072845824) : vl 67108864 (lim v) = v := vl_dg_lt _ _ _ h
theorem lim_at (v i : Nat) : (lim v).getD i 0 < 67108864 := by
  rw [List.getD_eq_getElem?_getD]
  cases hi : (lim v)[i]? with
  | none => simp
  | some x => exact lim_lt v x (List.mem_of_getElem? hi)

theorem take_drop_split (l : List UInt8) (a n : Nat) (h : a + n ≤ l.length) : numL l = numL (l.take a) + 256 ^ a * (numL ((l.drop a).take n) + 256 ^ n * numL (l.drop (a + n))) := by
  conv => lhs; rw [← List.take_append_drop a l, numL_append, ← List.take_append_drop n (l.drop a), numL_append]
  rw [List.drop_drop, List.length_take, List.length_take, List.length_drop, Nat.min_eq_left (by omega), Nat.min_eq_left (by omega)]

theorem limb_eq (b : List UInt8) (h : b.length = 17) (i : Nat) (hi : i < 5) : numL ((b.drop (3 * i)).take 5) / 4 ^ i % 67108864 = numL b / 67108864 ^ i % 67108864 := by
  have hs := take_drop_split b (3 * i) 5 (by omega)
  have h1 := numL_lt (b.take (3 * i))
  have h2 := numL_lt ((b.drop (3 * i)).take 5)
  rw [List.length_take, Nat.min_eq_left (by omega)] at h1
  rw [List.length_take, List.length_drop, Nat.min_eq_left (by omega)] at h2
  revert hs h1 h2
  generalize numL b = V
  generalize numL ((b.drop (3 * i)).take 5) = m
  generalize numL (b.take (3 * i)) = lo
  generalize numL (b.drop (3 * i + 5)) = hi'
  intro hs h1 h2
  have : i = 0 ∨ i = 1 ∨ i = 2 ∨ i = 3 ∨ i = 4 := by omega
  rcases this with rfl | rfl | rfl | rfl | rfl <;> simp only [Nat.mul_zero, Nat.pow_zero, Nat.one_mul, Nat.reducePow, Nat.reduceMul, Nat.div_one] at hs h1 h2 ⊢ <;> omega

theorem numL_take_succ (l : List UInt8) (a j : Nat) (h : a + j < l.length) : numL ((l.drop a).take (j + 1)) = numL ((l.drop a).take j) + 256 ^ j * (l.getD (a + j) 0).toNat := by
  have e : (l.drop a).take (j + 1) = (l.drop a).take j ++ [l.getD (a + j) 0] := by
    rw [List.take_add_one, List.getElem?_drop, List.getD_eq_getElem?_getD, List.getElem?_eq_getElem h]
    rfl
  rw [e, numL_append, List.length_take, List.length_drop, Nat.min_eq_left (by omega)]
  simp [numL, vl]

/-- a digit put over, where there is room for it -/
theorem dg_set (b n U k y : Nat) (hk : k < n) (hy : U / b ^ k % b + y < b) : (dg b n U).set k (U / b ^ k % b + y) = dg b n (U % b ^ n + b ^ k * y) := by
  have hb : 0 < b := by omega
  have hg := dg_getD b n k U hk
  have hv := vl_set b (dg b n U) k y (by rw [dg_length]; exact hk)
  rw [hg, vl_dg] at hv
  have hall : ∀ x ∈ (dg b n U).set k (U / b ^ k % b + y), x < b := by
    intro x hx
    rcases List.mem_or_eq_of_mem_set hx with h1 | rfl
    · exact dg_lt _ _ _ hb x h1
    · exact hy
  have h := dg_vl b _ hall
  rw [List.length_set, dg_length, hv] at h
  exact h.symm

/-- the bytes of a number's limbs: so far i limbs, and of the next one j bytes -/
def txt (v i j : Nat) : Nat := v % 67108864 ^ i + 256 ^ (3 * i) * ((v / 67108864 ^ i % 67108864 * 4 ^ i) % 256 ^ j)
theorem txt_next (v i : Nat) (hi : i < 5) : txt v i 5 = txt v (i + 1) 0 := by
  unfold txt
  have : i = 0 ∨ i = 1 ∨ i = 2 ∨ i = 3 ∨ i = 4 := by omega
  rcases this with rfl | rfl | rfl | rfl | rfl <;> simp only [Nat.mul_zero, Nat.pow_zero, Nat.one_mul, Nat.reducePow, Nat.reduceMul, Nat.div_one, Nat.mod_one, Nat.zero_add, Nat.reduceAdd, Nat.add_zero] <;> omega
theorem or_digit (a y s : Nat) (h1 : a < 2 ^ s) (h2 : y % 2 ^ s = 0) : a ||| y = a + y := by
  obtain ⟨z, rfl⟩ : ∃ z, y = 2 ^ s * z := ⟨y / 2 ^ s, by have := Nat.mod_add_div y (2 ^ s); omega⟩
  rw [Nat.or_comm, ← Nat.two_pow_add_eq_or_of_lt h1, Nat.add_comm]
theorem txt_byte (v i j : Nat) (hi : i < 5) (hj : j < 5) : txt v i j / 256 ^ (3 * i + j) % 256 < 4 ^ i ∧ (j ≠ 0 → txt v i j / 256 ^ (3 * i + j) % 256 = 0) := by
  unfold txt
  have h1 : i = 0 ∨ i = 1 ∨ i = 2 ∨ i = 3 ∨ i = 4 := by omega
  have h2 : j = 0 ∨ j = 1 ∨ j = 2 ∨ j = 3 ∨ j = 4 := by omega
  rcases h1 with rfl | rfl | rfl | rfl | rfl <;> rcases h2 with rfl | rfl | rfl | rfl | rfl <;> simp only [Nat.mul_zero, Nat.pow_zero, Nat.one_mul, Nat.mul_one, Nat.reducePow, Nat.reduceMul, Nat.div_one, Nat.mod_one, Nat.zero_add, Nat.reduceAdd, Nat.add_zero] <;> refine ⟨?_, ?_⟩ <;> first | omega | (intro h; first | omega | exact absurd rfl h)
theorem txt_more (v i j : Nat) : txt v i (j + 1) = txt v i j + 256 ^ (3 * i + j) * ((v / 67108864 ^ i % 67108864 * 4 ^ i) / 256 ^ j % 256) := by
  unfold txt
  generalize v / 67108864 ^ i % 67108864 * 4 ^ i = X
  rw [Nat.pow_succ, Nat.mod_mul, Nat.mul_add, Nat.pow_add, Nat.mul_assoc]
  omega
theorem txt_lt (v i j : Nat) (hi : i < 5) (hj : j ≤ 5) : txt v i j < 256 ^ 17 := by
  unfold txt
  have h1 : i = 0 ∨ i = 1 ∨ i = 2 ∨ i = 3 ∨ i = 4 := by omega
  have h2 : j = 0 ∨ j = 1 ∨ j = 2 ∨ j = 3 ∨ j = 4 ∨ j = 5 := by omega
  rcases h1 with rfl | rfl | rfl | rfl | rfl <;> rcases h2 with rfl | rfl | rfl | rfl | rfl | rfl <;> simp only [Nat.mul_zero, Nat.pow_zero, Nat.one_mul, Nat.mul_one, Nat.reducePow, Nat.reduceMul, Nat.div_one, Nat.mod_one, Nat.zero_add, Nat.add_zero] <;> omega
theorem txt_or (v i j : Nat) (hi : i < 5) (hj : j < 5) :
    txt v i j / 256 ^ (3 * i + j) % 256 ||| ((v / 67108864 ^ i % 67108864 * 4 ^ i) / 256 ^ j % 256) = txt v i j / 256 ^ (3 * i + j) % 256 + ((v / 67108864 ^ i % 67108864 * 4 ^ i) / 256 ^ j % 256)
      ∧ txt v i j / 256 ^ (3 * i + j) % 256 + ((v / 67108864 ^ i % 67108864 * 4 ^ i) / 256 ^ j % 256) < 256 := by
  obtain ⟨b1, b2⟩ := txt_byte v i j hi hj
  revert b1 b2
  generalize txt v i j / 256 ^ (3 * i + j) % 256 = a
  generalize v / 67108864 ^ i % 67108864 = x
  intro b1 b2
  have e4 : 4 ^ i = 2 ^ (2 * i) := by rw [Nat.pow_mul]
  by_cases h0 : j = 0
  · subst h0
    have hm : x * 4 ^ i / 256 ^ 0 % 256 % 2 ^ (2 * i) = 0 := by
      rw [Nat.pow_zero, Nat.div_one, e4]
      have hd : 2 ^ (2 * i) ∣ 256 := by
        have h1 : i = 0 ∨ i = 1 ∨ i = 2 ∨ i = 3 ∨ i = 4 := by omega
        rcases h1 with rfl | rfl | rfl | rfl | rfl <;> decide
      rw [Nat.mod_mod_of_dvd _ hd, Nat.mul_mod_left]
    rw [e4] at b1
    refine ⟨or_digit a _ (2 * i) b1 hm, ?_⟩
    rw [← e4] at hm b1
    have hy : x * 4 ^ i / 256 ^ 0 % 256 < 256 := Nat.mod_lt _ (by omega)
    revert hm hy
    generalize x * 4 ^ i / 256 ^ 0 % 256 = y
    intro hm hy
    have h1 : i = 0 ∨ i = 1 ∨ i = 2 ∨ i = 3 ∨ i = 4 := by omega
    rcases h1 with rfl | rfl | rfl | rfl | rfl <;> simp only [Nat.reducePow] at hm b1 <;> omega
  · obtain rfl : a = 0 := b2 h0
    simp
    omega
/-- taken together: a byte more -/
theorem txt_set (v i j : Nat) (hi : i < 5) (hj : j < 5) :
    (dg 256 17 (txt v i j)).set (3 * i + j) (txt v i j / 256 ^ (3 * i + j) % 256 ||| ((v / 67108864 ^ i % 67108864 * 4 ^ i) / 256 ^ j % 256)) = dg 256 17 (txt v i (j + 1)) := by
  obtain ⟨h1, h2⟩ := txt_or v i j hi hj
  rw [h1, dg_set 256 17 _ _ _ (by omega) h2, Nat.mod_eq_of_lt (txt_lt v i j hi (by omega)), txt_more]

/-- the product, limb by limb -/
theorem fold10 (S : List Nat) (h : S.length = 10) : vl 67108864 (S.take 5) + 5 * vl 67108864 (S.drop 5) + Pp * vl 67108864 (S.drop 5) = vl 67108864 S := by
  conv => rhs; rw [← List.take_append_drop 5 S, vl_append]
  rw [List.length_take, h, show min 5 10 = 5 from rfl]
  simp only [Nat.reducePow]
  unfold Pp
  omega
theorem zip5 (S : List Nat) (h : S.length = 10) : vl 67108864 ((List.range 5).map fun i => S.getD i 0 + 5 * S.getD (i + 5) 0) = vl 67108864 (S.take 5) + 5 * vl 67108864 (S.drop 5) := by
  match S, h with
  | [a, b, c, d, e, f, g, x, y, z], _ =>
    simp [List.range_succ, vl]
    omega
theorem vl5_lt (l : List Nat) (h : l.length = 5) (M : Nat) (hM : ∀ i, l.getD i 0 < M) : vl 67108864 l < M * 20282409905883129831204239441921 := by
  match l, h with
  | [a, b, c, d, e], _ =>
    have h0 := hM 0
    have h1 := hM 1
    have h2 := hM 2
    have h3 := hM 3
    have h4 := hM 4
    simp [vl] at *
    omega

/-- what a number at rest is modulo p -/
theorem least_eq (v : Nat) (h : v < 1361129467683753853853498429727072845824) : (v + 5 * ((v + 5) / 1361129467683753853853498429727072845824)) % 1361129467683753853853498429727072845824 = v % Pp := by
  unfold Pp
  by_cases h5 : 1361129467683753853853498429727072845819 ≤ v
  · rw [show (v + 5) / 1361129467683753853853498429727072845824 = 1 by omega]
    omega
  · rw [show (v + 5) / 1361129467683753853853498429727072845824 = 0 by omega]
    omega

end Go.Proofs.YtengclnahppmhaaGreatDoor.Pol

namespace Go.Proofs.YtengclnahppmhaaGreatDoor.Pol
open Go.RowKit Go.Lib Go.Deep

/-- numbers as cells -/
def nsL (kd : IntKind) (l : List Nat) : List Value := l.map fun (n : Nat) => Value.int kd (n : Int)
def ns (kd : IntKind) (l : List Nat) : Array Value := (nsL kd l).toArray
theorem nsL_length (kd : IntKind) (l : List Nat) : (nsL kd l).length = l.length := by simp [nsL]
theorem ns_size (kd : IntKind) (l : List Nat) : (ns kd l).size = l.length := by simp [ns, nsL]
theorem ns_at (kd : IntKind) (l : List Nat) (i : Nat) (h : i < l.length) : (ns kd l)[i]? = some (.int kd ((l.getD i 0 : Nat) : Int)) := by
  simp [ns, nsL, List.getD_eq_getElem?_getD, h]
theorem nsL_one (kd : IntKind) (l : List Nat) : ∀ v ∈ nsL kd l, v.oneCell' = true := by
  intro v hv
  obtain ⟨n, _, rfl⟩ := List.mem_map.1 hv
  rfl
theorem ns_one (kd : IntKind) (l : List Nat) : (ns kd l).all (·.oneCell') = true := all_oneCell_toArray (nsL_one kd l)
theorem ns_set (kd : IntKind) (l : List Nat) (i x : Nat) : (ns kd l).setIfInBounds i (.int kd (x : Int)) = ns kd (l.set i x) := by simp [ns, nsL]
theorem nsL_append (kd : IntKind) (l r : List Nat) : nsL kd (l ++ r) = nsL kd l ++ nsL kd r := by simp [nsL]

/-- a block of numbers -/
def Nb (kd : IntKind) (t : TypeId) (w : World) (g : Nat) (l : List Nat) : Prop := w.heap[g]? = some (.cells (ns kd l) t (0, 0))
section
variable {kd : IntKind} {t : TypeId} {w : World} {g : Nat} {l : List Nat}
theorem Nb.lt (h : Nb kd t w g l) : g < w.heap.size := heap_lt h
theorem Nb.cell (h : Nb kd t w g l) (i : Nat) (hi : i < l.length) : w.cell? ⟨g, i, none⟩ = some (.int kd ((l.getD i 0 : Nat) : Int)) := (cell_of_heap h).trans (ns_at kd l i hi)
theorem Nb.frozen (h : Nb kd t w g l) (i : Nat) : w.frozen? ⟨g, i, none⟩ = false := frozen_of_heap h
theorem Nb.kept {w' : World} (h : Nb kd t w g l) (hk : w'.heap[g]? = w.heap[g]?) : Nb kd t w' g l := hk.trans h
theorem Nb.below {w' : World} {B : Nat} (h : Nb kd t w g l) (hb : Below B w w') (hg : g < B) : Nb kd t w' g l := h.kept (hb.block g hg)
theorem Nb.put (h : Nb kd t w g l) (i x : Nat) : Nb kd t (w.setCell ⟨g, i, none⟩ (.int kd (x : Int))) g (l.set i x) := by
  have h1 := heap_setCell_same w g i _ t (.int kd (x : Int)) h
  rw [ns_set] at h1
  exact h1
theorem Nb.beside (h : Nb kd t w g l) {p : Addr} (hp : p.block ≠ g) (v : Value) : Nb kd t (w.setCell p v) g l := h.kept (heap_setCell_other w p g v (Ne.symm hp))
theorem Nb.alloc (h : Nb kd t w g l) (o : Obj) : Nb kd t (w.alloc o) g l := h.kept (Below.heap_alloc _ _ _ h.lt)
theorem Nb.new (w : World) (kd : IntKind) (t : TypeId) (l : List Nat) : Nb kd t (w.alloc (.cells (ns kd l) t)) w.heap.size l := heap_new _ _
theorem Nb.newN (w : World) (kd : IntKind) (t : TypeId) (l : List Nat) (n : Nat) (hn : w.heap.size = n) : Nb kd t (w.alloc (.cells (ns kd l) t)) n l := by subst hn; exact heap_new _ _
theorem Nb.drew (h : Nb kd t w g l) : Nb kd t w.drew g l := h
theorem Nb.store (h : Nb kd t w g l) (l' : List Nat) (hl : l'.length = l.length) : Nb kd t (w.setCells g 0 (ns kd l').toList) g l' := by
  have h1 := heap_setCells g t (ns kd l').toList 0 _ w h
  rw [setMany_all _ _ (by rw [Array.length_toList, ns_size, ns_size, hl]), Array.toArray_toList] at h1
  exact h1
theorem Nb.aside (h : Nb kd t w g l) {b : Nat} (hb : g ≠ b) (o : Nat) (vs : List Value) : Nb kd t (w.setCells b o vs) g l := h.kept (heap_setCells_other b g hb vs o w)
theorem Nb.there (h : Nb kd t w g l) (n : Nat) (hn : l.length = n) : w.there g 0 n := there_of_heap h (by rw [ns_size]; omega)
end

theorem size46 : (Tryz.prog.info? 188).map (·.size) = some 5 := by kernel_rfl
theorem size42 : (Tryz.prog.info? 185).map (·.size) = some 17 := by kernel_rfl
theorem size56 : (Tryz.prog.info? 211).map (·.size) = some 10 := by kernel_rfl
theorem ns5 (l : List Nat) (h : l.length = 5) : (Tryz.prog.info? 188).map (·.size) = some (ns .u64 l).size := by rw [ns_size, h]; exact size46
theorem ns17 (l : List Nat) (h : l.length = 17) : (Tryz.prog.info? 185).map (·.size) = some (ns .u8 l).size := by rw [ns_size, h]; exact size42
theorem zeros5 : ns .u64 (List.replicate 5 0) = #[.int .u64 0, .int .u64 0, .int .u64 0, .int .u64 0, .int .u64 0] := rfl
theorem zeros10 : ns .u64 (List.replicate 10 0) = #[.int .u64 0, .int .u64 0, .int .u64 0, .int .u64 0, .int .u64 0, .int .u64 0, .int .u64 0, .int .u64 0, .int .u64 0, .int .u64 0] := rfl

end Go.Proofs.YtengclnahppmhaaGreatDoor.Pol

namespace Go.Proofs.YtengclnahppmhaaGreatDoor.Pol
open Go.RowKit Go.Lib Go.Deep

/-- a list, filled up with zeros -/
def fill (n : Nat) (l : List Nat) : List Nat := l ++ List.replicate (n - l.length) 0
theorem fill_length (n : Nat) (l : List Nat) (h : l.length ≤ n) : (fill n l).length = n := by simp [fill]; omega
theorem fill_full (n : Nat) (l : List Nat) (h : l.length = n) : fill n l = l := by simp [fill, h]
theorem fill_set (n k : Nat) (l : List Nat) (x : Nat) (hk : l.length = k) (h : k < n) : (fill n l).set k x = fill n (l ++ [x]) := by
  subst hk
  have e : n - l.length = (n - (l.length + 1)) + 1 := by omega
  simp [fill, e, List.replicate_succ]

/-- what spread holds -/
structure Sp (w wr : World) (n done : List Nat) : Prop where
  src : Nb .u64 188 wr w.heap.size n
  res : Nb .u64 188 wr (w.heap.size + 1) (fill 5 done)
  bel : Below w.heap.size w wr

theorem results_cell_tmp {P : Program} {fn : Func} {p u : Tmp} {ty : TypeId} (h : fn.results = #[.cell p ty, .tmp u]) (tmps : Array Value) (w : World) (g : Nat) (t : TypeId) (cs : Array Value) (fr : Nat × Nat) (d : TypeDesc)
    (hp : tmps.getD p undef = .pointer (some ⟨g, 0, none⟩)) (hg : w.heap[g]? = some (.cells cs t fr)) (hu : P.underlying ty = some d) (hd : (match d with | .struct _ | .array _ _ => true | _ => false) = true) (hi : (P.info? ty).map (·.size) = some cs.size) :
    (results fn tmps).run P w = .ok (.tuple #[.agg cs, tmps.getD u undef]) w := by
  have hp' : tmps[p]?.getD undef = .pointer (some ⟨g, 0, none⟩) := by simpa using hp
  simp [results, h, hp', asAddr, run_loadVar_row w g t ty cs fr d hg hu hd hi]

set_option maxRecDepth 20000 in
set_option maxHeartbeats 1000000 in
theorem spread_any (n : List Nat) (hn : n.length = 5) (hM : ∀ i, n.getD i 0 < 1152921504606846976) (w : World) :
    Calls Tryz.prog 147 #[.agg (ns .u64 n)] w fun e w' => e = .returned (.tuple #[.agg (ns .u64 (lim (vl 67108864 n))), .int .u64 ((vl 67108864 n / 1361129467683753853853498429727072845824 : Nat) : Int)]) ∧ Below w.heap.size w w' := by
  unfold lim
  have HS0 : Hid (Sp w ((w.alloc (.cells (ns .u64 n) 188)).alloc (.cells (ns .u64 (List.replicate 5 0)) 188)) n []) :=
    ⟨(Nb.new _ _ _ _).alloc _, Nb.newN _ _ _ _ _ (by simp), ((Below.refl _ _).alloc (Nat.le_refl _) _).alloc (by simp) _⟩
  rw [zeros5] at HS0
  have HM : Hid (∀ i, n.getD i 0 < 1152921504606846976) := hM
  clear hM
  go_enter Tryz.func147, Tryz.ntmps147
  go_wp2
  go_loopg [3, 5] 5 (fun gk ov i wr => ∃ k : Nat, k + gk = 5 ∧ i = .int .i64 k ∧ ov = .int .u64 ((vl 67108864 (n.take k) / 67108864 ^ k : Nat) : Int) ∧ vl 67108864 (n.take k) / 67108864 ^ k ≤ 1152921504606846976 ∧ Sp w wr n (dg 67108864 k (vl 67108864 (n.take k))))
  case atStart => exact ⟨0, by omega, rfl, by simp [vl], by simp [vl], HS0.out⟩
  case round =>
    clear HS0
    obtain ⟨k, hkk, rfl, rfl, hc, HS⟩ := hrel
    have HK : Hid (k + gk = 5) := hkk
    have hk' : k ≤ 5 := by omega
    clear hkk
    by_cases hlt : k < 5
    · have hltI : (k : Int) < 5 := by omega
      have hV := vl_take_succ 67108864 n k (by omega)
      have HD := carry_digit 67108864 k (vl 67108864 (n.take k)) (n.getD k 0) (by omega)
      have HO := carry_over 67108864 k (vl 67108864 (n.take k)) (n.getD k 0) (by omega)
      rw [← hV] at HD HO
      have hx := HM.out k
      have c0 := HS.src.cell k (by omega)
      have hlen : (dg 67108864 k (vl 67108864 (n.take k))).length = k := dg_length _ _ _
      have c1 := HS.res.cell k (by rw [fill_length _ _ (by omega)]; exact hlt)
      have f1 := HS.res.frozen k
      have HR : Hid (Sp w (wr.setCell ⟨w.heap.size + 1, k, none⟩ (.int .u64 (((vl 67108864 (n.take k) / 67108864 ^ k + n.getD k 0) % 67108864 : Nat) : Int))) n (dg 67108864 (k + 1) (vl 67108864 (n.take (k + 1))))) := by
        refine ⟨HS.src.beside (by simp) _, ?_, HS.bel.setCell (by simp) _⟩
        have h := HS.res.put k ((vl 67108864 (n.take k) / 67108864 ^ k + n.getD k 0) % 67108864)
        rw [fill_set 5 k _ _ hlen hlt, ← HD] at h
        exact h
      have HO' : Hid (vl 67108864 (n.take (k + 1)) / 67108864 ^ (k + 1) = (vl 67108864 (n.take k) / 67108864 ^ k + n.getD k 0) / 67108864) := HO
      clear HD HO hV HS hlen
      revert hc hx c0 c1 HR HO'
      generalize (fill 5 (dg 67108864 k (vl 67108864 (n.take k)))).getD k 0 = z
      generalize vl 67108864 (n.take k) / 67108864 ^ k = c
      generalize n.getD k 0 = x
      intro hc hx c0 c1 HR HO'
      have hand : bits .and .u64 ((c : Int) + (x : Int)) 67108863 = (((c + x) % 67108864 : Nat) : Int) := by
        have := u64_and_nat (c + x) 67108863 (by omega) (by omega)
        rw [nat_mask26, Int.natCast_add] at this
        exact this
      have hshr : ((c : Int) + (x : Int)) / 67108864 = (((c + x) / 67108864 : Nat) : Int) := by omega
      have hle : (c + x) / 67108864 ≤ 1152921504606846976 := by omega
      revert HR HO' hand hshr hle
      generalize (c + x) / 67108864 = o
      generalize (c + x) % 67108864 = d
      intro HR HO' hand hshr hle
      go_wp2
      go_roundg (gk - 1)
      case measure => have := HK.out; omega
      case rel => exact ⟨k + 1, by have := HK.out; omega, by go_num, by rw [HO'.out], by rw [HO'.out]; exact hle, HR.out⟩
    · obtain rfl : k = 5 := by omega
      rw [List.take_of_length_le (by omega)] at HS hc ⊢
      have hlen : (dg 67108864 5 (vl 67108864 n)).length = 5 := dg_length _ _ _
      have hres := HS.res
      rw [fill_full 5 _ hlen] at hres
      have hbel := HS.bel
      clear HS HK HM
      rw [show (67108864 : Nat) ^ 5 = 1361129467683753853853498429727072845824 from rfl]
      have HT := hres.store (dg 67108864 5 (vl 67108864 n)) rfl
      have hth := hres.there 5 hlen
      have hbel' : Below w.heap.size w (wr.setCells (w.heap.size + 1) 0 (ns .u64 (dg 67108864 5 (vl 67108864 n))).toList) := Below.setCells hbel (by simp) _ _
      have hsz := ns5 _ hlen
      have hone := ns_one .u64 (dg 67108864 5 (vl 67108864 n))
      have hsz5 : (ns .u64 (dg 67108864 5 (vl 67108864 n))).size = 5 := by rw [ns_size, hlen]
      rw [← hsz5] at hth
      unfold Nb at HT hres
      revert hres HT hth hbel' hsz hone
      generalize hC : ns .u64 (dg 67108864 5 (vl 67108864 n)) = C
      generalize hO : vl 67108864 n / 1361129467683753853853498429727072845824 = o
      intro hres HT hth hbel' hsz hone
      have HE : Hid (ns .u64 (dg 67108864 5 (vl 67108864 n)) = C ∧ vl 67108864 n / 1361129467683753853853498429727072845824 = o) := ⟨hC, hO⟩
      clear hC hO
      go_wp2_with (first | (refine wpList_load_row rfl 188 (.tmp 2) rfl (w.heap.size + 1) rfl 188 _ (0, 0) _ hres Tryz.underlying188 rfl hsz ?_) | (refine wpList_store_mid rfl 188 (.tmp 2) (.tmp 20) rfl (w.heap.size + 1) 0 _ rfl rfl hth hsz hone ?_))
      refine bodyPost_ret (results_cell_tmp rfl _ _ (w.heap.size + 1) 188 _ (0, 0) _ rfl HT Tryz.underlying188 rfl hsz) rfl ?_
      rw [HE.out.1, HE.out.2]
      exact ⟨rfl, hbel'⟩

end Go.Proofs.YtengclnahppmhaaGreatDoor.Pol

namespace Go.Proofs.YtengclnahppmhaaGreatDoor.Pol
open Go.RowKit Go.Lib Go.Deep

theorem mix_get (Z a : List Nat) (k : Nat) (hz : k ≤ Z.length) : (Z.take k ++ a.drop k).getD k 0 = a.getD k 0 := by
  rw [List.getD_eq_getElem?_getD, List.getElem?_append_right (by rw [List.length_take]; omega), List.length_take, Nat.min_eq_left hz, Nat.sub_self, List.getElem?_drop, Nat.add_zero, ← List.getD_eq_getElem?_getD]
theorem mix_set (Z a : List Nat) (k : Nat) (hz : k < Z.length) (ha : k < a.length) : (Z.take k ++ a.drop k).set k (Z.getD k 0) = Z.take (k + 1) ++ a.drop (k + 1) := by
  have e : (Z.take k).length = k := by rw [List.length_take]; omega
  rw [List.set_append_right _ _ (by omega), e, Nat.sub_self, List.take_add_one, List.getD_eq_getElem?_getD, List.getElem?_eq_getElem hz, List.drop_eq_getElem_cons ha, List.set_cons_zero, List.append_assoc]
  rfl
theorem zip_getD (a b : List Nat) (k : Nat) (ha : k < a.length) (hb : k < b.length) : (List.zipWith (· + ·) a b).getD k 0 = a.getD k 0 + b.getD k 0 := by
  simp [List.getD_eq_getElem?_getD, List.getElem?_zipWith, ha, hb]

/-- what plus holds -/
structure Pl (w wr : World) (a b n : List Nat) : Prop where
  one : Nb .u64 188 wr w.heap.size n
  two : Nb .u64 188 wr (w.heap.size + 1) b
  res : Nb .u64 188 wr (w.heap.size + 2) (List.replicate 5 0)
  bel : Below w.heap.size w wr

set_option maxRecDepth 20000 in
set_option maxHeartbeats 1000000 in
theorem plus_any (a b : List Nat) (ha : a.length = 5) (hb : b.length = 5) (hA : ∀ i, a.getD i 0 < 1152921504606846976) (hB : ∀ i, b.getD i 0 < 1152921504606846976) (w : World) :
    Calls Tryz.prog 146 #[.agg (ns .u64 a), .agg (ns .u64 b)] w fun e w' => e = .returned (.agg (ns .u64 (List.zipWith (· + ·) a b))) ∧ Below w.heap.size w w' := by
  have HS0 : Hid (Pl w (((w.alloc (.cells (ns .u64 a) 188)).alloc (.cells (ns .u64 b) 188)).alloc (.cells (ns .u64 (List.replicate 5 0)) 188)) a b a) :=
    ⟨((Nb.new _ _ _ _).alloc _).alloc _, (Nb.newN _ _ _ _ _ (by simp)).alloc _, Nb.newN _ _ _ _ _ (by simp), (((Below.refl _ _).alloc (Nat.le_refl _) _).alloc (by simp) _).alloc (by simp; omega) _⟩
  rw [zeros5] at HS0
  have hzl : (List.zipWith (· + ·) a b).length = 5 := by rw [List.length_zipWith, ha, hb]; rfl
  have HZ : Hid (∀ k, k < 5 → (List.zipWith (· + ·) a b).getD k 0 = a.getD k 0 + b.getD k 0) := fun k hk => zip_getD a b k (by omega) (by omega)
  have HA : Hid ((∀ i, a.getD i 0 < 1152921504606846976) ∧ (∀ i, b.getD i 0 < 1152921504606846976)) := ⟨hA, hB⟩
  clear hA hB
  obtain ⟨Z, hZ⟩ : ∃ Z, List.zipWith (· + ·) a b = Z := ⟨_, rfl⟩
  rw [hZ] at hzl HZ ⊢
  clear hZ
  go_enter Tryz.func146, Tryz.ntmps146
  go_wp2
  go_loopg [6] 5 (fun gk i wr => ∃ k : Nat, k + gk = 5 ∧ i = .int .i64 k ∧ Pl w wr a b (Z.take k ++ a.drop k))
  case atStart => exact ⟨0, by omega, rfl, HS0.out⟩
  case round =>
    clear HS0
    obtain ⟨k, hkk, rfl, HS⟩ := hrel
    have HK : Hid (k + gk = 5) := hkk
    have hk' : k ≤ 5 := by omega
    clear hkk
    by_cases hlt : k < 5
    · have hltI : (k : Int) < 5 := by omega
      have hx := HA.out.1 k
      have hy := HA.out.2 k
      have hz := HZ.out k hlt
      have c0 := HS.one.cell k (by rw [List.length_append, List.length_take, List.length_drop]; omega)
      rw [mix_get Z a k (by omega)] at c0
      have c1 := HS.two.cell k (by omega)
      have f0 := HS.one.frozen k
      have HR : Hid (Pl w (wr.setCell ⟨w.heap.size, k, none⟩ (.int .u64 ((a.getD k 0 : Int) + (b.getD k 0 : Int)))).drew a b (Z.take (k + 1) ++ a.drop (k + 1))) := by
        rw [← Int.natCast_add, ← hz]
        refine ⟨?_, (HS.two.beside (by simp) _).drew, (HS.res.beside (by simp) _).drew, (HS.bel.setCell (Nat.le_refl _) _).drew⟩
        rw [← mix_set Z a k (by omega) (by omega)]
        exact (HS.one.put k _).drew
      clear hz
      revert hx hy c0 c1 HR
      generalize a.getD k 0 = x
      generalize b.getD k 0 = y
      intro hx hy c0 c1 HR
      clear HS
      go_wp2
      go_region
      refine with_world (R := fun W => Exit.inBlock _ _ _ _ W) (Q := fun W => Pl w W a b (Z.take (k + 1) ++ a.drop (k + 1))) _ HR.out ?_
      clear HR c0 c1 f0
      intro w9 HP
      go_wp2
      go_roundg (gk - 1)
      case measure => have := HK.out; omega
      case rel => exact ⟨k + 1, by have := HK.out; omega, by go_num, HP⟩
    · obtain rfl : k = 5 := by omega
      rw [List.take_of_length_le (by omega), List.drop_eq_nil_of_le (by omega), List.append_nil] at HS
      have hres := HS.one
      have HT := HS.res.store Z hzl
      have hth := HS.res.there (ns .u64 Z).size (by rw [ns_size, hzl]; rfl)
      have hbel' : Below w.heap.size w (wr.setCells (w.heap.size + 2) 0 (ns .u64 Z).toList) := Below.setCells HS.bel (by simp) _ _
      have hsz := ns5 Z hzl
      have hone := ns_one .u64 Z
      unfold Nb at HT hres
      clear HS HK HA HZ
      revert hres HT hth hbel' hsz hone
      generalize hC : ns .u64 Z = C
      intro hres HT hth hbel' hsz hone
      have HE : Hid (ns .u64 Z = C) := hC
      clear hC
      go_wp2_with (first | (refine wpList_load_row rfl 188 (.tmp 2) rfl w.heap.size rfl 188 _ (0, 0) _ hres Tryz.underlying188 rfl hsz ?_) | (refine wpList_store_mid rfl 188 (.tmp 4) (.tmp 18) rfl (w.heap.size + 2) 0 _ rfl rfl hth hsz hone ?_))
      refine bodyPost_ret (results_cell_row rfl _ _ (w.heap.size + 2) 188 _ (0, 0) _ rfl HT Tryz.underlying188 rfl hsz) rfl ?_
      rw [HE.out]
      exact ⟨rfl, hbel'⟩

end Go.Proofs.YtengclnahppmhaaGreatDoor.Pol

namespace Go.Proofs.YtengclnahppmhaaGreatDoor.Pol
open Go.RowKit Go.Lib Go.Deep

/-- bytes as numbers -/
def nat8 (l : List UInt8) : List Nat := l.map UInt8.toNat
theorem nat8_length (l : List UInt8) : (nat8 l).length = l.length := by simp [nat8]
theorem nat8_getD (l : List UInt8) (i : Nat) : (nat8 l).getD i 0 = (l.getD i 0).toNat := by
  simp only [nat8, List.getD_eq_getElem?_getD, List.getElem?_map]
  cases l[i]? <;> rfl
theorem nat8_append (l r : List UInt8) : nat8 (l ++ r) = nat8 l ++ nat8 r := by simp [nat8]
theorem nat8_cells (l : List UInt8) : nsL .u8 (nat8 l) = byteCells l := by
  simp only [nsL, nat8, List.map_map]
  rfl

theorem shl_byte (y m : Nat) (hy : y < 256) (hm : m < 5) : IntKind.u64.wrap ((y : Int) * 2 ^ (8 * m)) = ((256 ^ m * y : Nat) : Int) := by
  have h : m = 0 ∨ m = 1 ∨ m = 2 ∨ m = 3 ∨ m = 4 := by omega
  rw [IntKind.wrap_u64]
  rcases h with rfl | rfl | rfl | rfl | rfl <;> simp only [Nat.mul_zero, Nat.reduceMul, Nat.reducePow, Int.reducePow, Nat.pow_zero] <;> omega
theorem or_byte (u y m : Nat) (hu : u < 256 ^ m) (hy : y < 256) (hm : m < 5) : bits .or .u64 (u : Int) ((256 ^ m * y : Nat) : Int) = ((u + 256 ^ m * y : Nat) : Int) := by
  have e : 256 ^ m = 2 ^ (8 * m) := by rw [Nat.pow_mul]
  have h1 : 256 ^ m ≤ 256 ^ 4 := Nat.pow_le_pow_right (by omega) (by omega)
  have h2 : 256 ^ m * y ≤ 256 ^ 4 * 255 := Nat.mul_le_mul h1 (by omega)
  simp only [Nat.reducePow, Nat.reduceMul] at h1 h2
  rw [u64_or_nat u (256 ^ m * y) (by omega) (by omega), or_digit u (256 ^ m * y) (8 * m) (by rw [← e]; exact hu) (by rw [← e]; exact Nat.mul_mod_right _ _)]
theorem shr_limb (u k : Nat) : (u : Int) / 2 ^ (2 * k) = ((u / 4 ^ k : Nat) : Int) := by
  rw [Int.natCast_ediv, Int.natCast_pow, Int.pow_mul]
  rfl

/-- what number holds -/
structure Nm (w wr : World) (b : List UInt8) (done : List Nat) : Prop where
  src : Nb .u8 185 wr w.heap.size (nat8 b)
  res : Nb .u64 188 wr (w.heap.size + 1) (List.replicate 5 0)
  own : Nb .u64 188 wr (w.heap.size + 2) (fill 5 done)
  bel : Below w.heap.size w wr

set_option maxRecDepth 20000 in
set_option maxHeartbeats 1000000 in
theorem number_any (b : List UInt8) (hb : b.length = 17) (w : World) :
    Calls Tryz.prog 141 #[.agg (ns .u8 (nat8 b))] w fun e w' => e = .returned (.agg (ns .u64 (lim (numL b)))) ∧ Below w.heap.size w w' := by
  have HS0 : Hid (Nm w (((w.alloc (.cells (ns .u8 (nat8 b)) 185)).alloc (.cells (ns .u64 (List.replicate 5 0)) 188)).alloc (.cells (ns .u64 (List.replicate 5 0)) 188)) b []) :=
    ⟨((Nb.new _ _ _ _).alloc _).alloc _, (Nb.newN _ _ _ _ _ (by simp)).alloc _, Nb.newN _ _ _ _ _ (by simp), (((Below.refl _ _).alloc (Nat.le_refl _) _).alloc (by simp) _).alloc (by simp; omega) _⟩
  rw [zeros5] at HS0
  have hnl : (nat8 b).length = 17 := by rw [nat8_length, hb]
  unfold lim
  go_enter Tryz.func141, Tryz.ntmps141
  go_wp2
  go_loopg [7] 5 (fun gk i wr => ∃ k : Nat, k + gk = 5 ∧ i = .int .i64 k ∧ Nm w wr b (dg 67108864 k (numL b)))
  case atStart => exact ⟨0, by omega, rfl, HS0.out⟩
  case round =>
    clear HS0
    obtain ⟨k, hkk, rfl, HS⟩ := hrel
    have HK : Hid (k + gk = 5) := hkk
    have hk' : k ≤ 5 := by omega
    clear hkk
    by_cases hlt : k < 5
    · have hltI : (k : Int) < 5 := by omega
      go_wp2
      go_loopg [5, 10] 5 (fun gj bits j wx => ∃ m : Nat, m + gj = 5 ∧ j = .int .i64 m ∧ bits = .int .u64 ((numL ((b.drop (3 * k)).take m) : Nat) : Int) ∧ wx = wr)
      case atStart => exact ⟨0, by omega, rfl, by simp [numL, vl], rfl⟩
      case round =>
        obtain ⟨m, hmm, rfl, rfl, rfl⟩ := hrel
        have HM : Hid (m + gk = 5) := hmm
        have hm' : m ≤ 5 := by omega
        clear hmm
        by_cases hml : m < 5
        · have hmlI : (m : Int) < 5 := by omega
          have hix : 3 * (k : Int) + (m : Int) < 17 := by omega
          have c0 := HS.src.cell (3 * k + m) (by omega)
          have hst := numL_take_succ b (3 * k) m (by omega)
          have hbd := numL_lt ((b.drop (3 * k)).take m)
          rw [List.length_take, List.length_drop, Nat.min_eq_left (by omega)] at hbd
          rw [nat8_getD] at c0
          have hy := (b.getD (3 * k + m) 0).toNat_lt
          revert c0 hst hbd hy
          generalize (b.getD (3 * k + m) 0).toNat = y
          generalize numL ((b.drop (3 * k)).take m) = u
          intro c0 hst hbd hy
          have hu : u < 4294967296 := by
            have h1 : 256 ^ m ≤ 256 ^ 4 := Nat.pow_le_pow_right (by omega) (by omega)
            simp only [Nat.reducePow] at h1
            omega
          have hshl := shl_byte y m hy hml
          have hor := or_byte u y m hbd hy hml
          rw [← hst] at hor
          have HST : Hid (numL ((b.drop (3 * k)).take (m + 1)) = numL ((b.drop (3 * k)).take (m + 1))) := rfl
          clear hst
          revert hor
          generalize hN : numL ((b.drop (3 * k)).take (m + 1)) = u'
          generalize 256 ^ m * y = ys at *
          intro hor
          have HN : Hid (numL ((b.drop (3 * k)).take (m + 1)) = u') := hN
          clear hN HST hbd
          go_wp2
          go_roundg (gk - 1)
          case measure => have := HM.out; omega
          case rel => exact ⟨m + 1, by have := HM.out; omega, by go_num, by rw [HN.out], rfl⟩
        · obtain rfl : m = 5 := by omega
          have hl := limb_eq b hb k hlt
          have hsn := dg_snoc 67108864 k (numL b)
          rw [← hl] at hsn
          have hu := numL_lt ((b.drop (3 * k)).take 5)
          rw [List.length_take, List.length_drop, Nat.min_eq_left (by omega)] at hu
          have hlen : (dg 67108864 k (numL b)).length = k := dg_length _ _ _
          have c1 := HS.own.cell k (by rw [fill_length _ _ (by omega)]; exact hlt)
          have f1 := HS.own.frozen k
          have HR : Hid (Nm w (wr.setCell ⟨w.heap.size + 2, k, none⟩ (.int .u64 ((numL ((b.drop (3 * k)).take 5) / 4 ^ k % 67108864 : Nat) : Int))) b (dg 67108864 (k + 1) (numL b))) := by
            refine ⟨HS.src.beside (by simp) _, HS.res.beside (by simp) _, ?_, HS.bel.setCell (by simp) _⟩
            have h := HS.own.put k (numL ((b.drop (3 * k)).take 5) / 4 ^ k % 67108864)
            rw [fill_set 5 k _ _ hlen hlt, ← hsn] at h
            exact h
          clear hl hsn hlen HS
          revert c1 hu HR
          generalize (fill 5 (dg 67108864 k (numL b))).getD k 0 = z
          generalize numL ((b.drop (3 * k)).take 5) = u
          intro hu c1 HR
          simp only [Nat.reducePow] at hu
          have hshr := shr_limb u k
          have hq : u / 4 ^ k < 1099511627776 := Nat.lt_of_le_of_lt (Nat.div_le_self _ _) hu
          revert hshr hq HR
          generalize u / 4 ^ k = q
          intro HR hshr hq
          have hand : bits .and .u64 (q : Int) 67108863 = ((q % 67108864 : Nat) : Int) := by
            have := u64_and_nat q 67108863 (by omega) (by omega)
            rw [nat_mask26] at this
            exact this
          revert hand HR
          generalize q % 67108864 = d
          intro HR hand
          go_wp2
          go_roundg (5 - (k + 1))
          case measure => have := HK.out; omega
          case rel => exact ⟨k + 1, by omega, by go_num, HR.out⟩
    · obtain rfl : k = 5 := by omega
      have hlen : (dg 67108864 5 (numL b)).length = 5 := dg_length _ _ _
      have hres := HS.own
      rw [fill_full 5 _ hlen] at hres
      have HT := HS.res.store (dg 67108864 5 (numL b)) hlen
      have hth := HS.res.there (ns .u64 (dg 67108864 5 (numL b))).size (by rw [ns_size, hlen]; rfl)
      have hbel' : Below w.heap.size w (wr.setCells (w.heap.size + 1) 0 (ns .u64 (dg 67108864 5 (numL b))).toList) := Below.setCells HS.bel (by simp) _ _
      have hsz := ns5 _ hlen
      have hone := ns_one .u64 (dg 67108864 5 (numL b))
      unfold Nb at HT hres
      clear HS HK
      revert hres HT hth hbel' hsz hone
      generalize hC : ns .u64 (dg 67108864 5 (numL b)) = C
      intro hres HT hth hbel' hsz hone
      have HE : Hid (ns .u64 (dg 67108864 5 (numL b)) = C) := hC
      clear hC
      go_wp2_with (first | (refine wpList_load_row rfl 188 (.tmp 3) rfl (w.heap.size + 2) rfl 188 _ (0, 0) _ hres Tryz.underlying188 rfl hsz ?_) | (refine wpList_store_mid rfl 188 (.tmp 2) (.tmp 34) rfl (w.heap.size + 1) 0 _ rfl rfl hth hsz hone ?_))
      refine bodyPost_ret (results_cell_row rfl _ _ (w.heap.size + 1) 188 _ (0, 0) _ rfl HT Tryz.underlying188 rfl hsz) rfl ?_
      rw [HE.out]
      exact ⟨rfl, hbel'⟩

end Go.Proofs.YtengclnahppmhaaGreatDoor.Pol

namespace Go.Proofs.YtengclnahppmhaaGreatDoor.Pol
open Go.RowKit Go.Lib Go.Deep

theorem zeros17 : ns .u8 (dg 256 17 0) = #[.int .u8 0, .int .u8 0, .int .u8 0, .int .u8 0, .int .u8 0, .int .u8 0, .int .u8 0, .int .u8 0, .int .u8 0, .int .u8 0, .int .u8 0, .int .u8 0, .int .u8 0, .int .u8 0, .int .u8 0, .int .u8 0, .int .u8 0] := rfl
theorem shl_limb (x k : Nat) (hx : x < 67108864) (hk : k < 5) : IntKind.u64.wrap ((x : Int) * 2 ^ (2 * k)) = ((x * 4 ^ k : Nat) : Int) := by
  have h : k = 0 ∨ k = 1 ∨ k = 2 ∨ k = 3 ∨ k = 4 := by omega
  rw [IntKind.wrap_u64]
  rcases h with rfl | rfl | rfl | rfl | rfl <;> simp only [Nat.mul_zero, Nat.reduceMul, Nat.reducePow, Int.reducePow, Nat.pow_zero] <;> omega
theorem shr_byte (u m : Nat) : (u : Int) / 2 ^ (8 * m) = ((u / 256 ^ m : Nat) : Int) := by
  rw [Int.natCast_ediv, Int.natCast_pow, Int.pow_mul]
  rfl

/-- what text holds -/
structure Tx (w wr : World) (v U : Nat) : Prop where
  src : Nb .u64 188 wr w.heap.size (lim v)
  own : Nb .u8 185 wr (w.heap.size + 1) (dg 256 17 U)
  bel : Below w.heap.size w wr

set_option maxRecDepth 20000 in
set_option maxHeartbeats 1000000 in
theorem text_any (v : Nat) (hv : v < 1361129467683753853853498429727072845824) (w : World) :
    Calls Tryz.prog 148 #[.agg (ns .u64 (lim v))] w fun e w' => e = .returned (.string (str (bytL 16 v))) ∧ Below w.heap.size w w' := by
  have HS0 : Hid (Tx w ((w.alloc (.cells (ns .u64 (lim v)) 188)).alloc (.cells (ns .u8 (dg 256 17 0)) 185)) v (txt v 0 0)) := by
    have e : txt v 0 0 = 0 := by simp [txt, Nat.mod_one]
    rw [e]
    exact ⟨(Nb.new _ _ _ _).alloc _, Nb.newN _ _ _ _ _ (by simp), ((Below.refl _ _).alloc (Nat.le_refl _) _).alloc (by simp) _⟩
  rw [zeros17] at HS0
  go_enter Tryz.func148, Tryz.ntmps148
  go_wp2
  go_loopg [6] 5 (fun gk i wr => ∃ k : Nat, k + gk = 5 ∧ i = .int .i64 k ∧ Tx w wr v (txt v k 0))
  case atStart => exact ⟨0, by omega, rfl, HS0.out⟩
  case round =>
    clear HS0
    obtain ⟨k, hkk, rfl, HS⟩ := hrel
    have HK : Hid (k + gk = 5) := hkk
    have hk' : k ≤ 5 := by omega
    clear hkk
    by_cases hlt : k < 5
    · have hltI : (k : Int) < 5 := by omega
      go_wp2
      go_loopg [9] 5 (fun gj j wx => ∃ m : Nat, m + gj = 5 ∧ j = .int .i64 m ∧ Tx w wx v (txt v k m))
      case atStart => exact ⟨0, by omega, rfl, HS⟩
      case round =>
        clear HS
        obtain ⟨m, hmm, rfl, HS⟩ := hrel
        have HM : Hid (m + gk = 5) := hmm
        have hm' : m ≤ 5 := by omega
        clear hmm
        by_cases hml : m < 5
        · have hmlI : (m : Int) < 5 := by omega
          have hix : 3 * (k : Int) + (m : Int) < 17 := by omega
          have c0 := HS.src.cell k (by rw [lim_length]; exact hlt)
          have hx := lim_at v k
          rw [show (lim v).getD k 0 = v / 67108864 ^ k % 67108864 from dg_getD _ _ _ _ hlt] at c0 hx
          have c1 := HS.own.cell (3 * k + m) (by rw [dg_length]; omega)
          rw [dg_getD _ _ _ _ (show 3 * k + m < 17 by omega)] at c1
          have f1 := HS.own.frozen (3 * k + m)
          have hset := txt_set v k m hlt hml
          have HR : Hid (Tx w (wr.setCell ⟨w.heap.size + 1, 3 * k + m, none⟩ (.int .u8 ((txt v k m / 256 ^ (3 * k + m) % 256 ||| ((v / 67108864 ^ k % 67108864 * 4 ^ k) / 256 ^ m % 256) : Nat) : Int))).drew v (txt v k (m + 1))) := by
            refine ⟨(HS.src.beside (by simp) _).drew, ?_, (HS.bel.setCell (by simp) _).drew⟩
            rw [← hset]
            exact (HS.own.put (3 * k + m) _).drew
          have hby : txt v k m / 256 ^ (3 * k + m) % 256 < 256 := Nat.mod_lt _ (by omega)
          clear hset HS
          revert c0 hx c1 HR hby
          generalize txt v k m / 256 ^ (3 * k + m) % 256 = z
          generalize v / 67108864 ^ k % 67108864 = x
          intro c0 hx c1 HR hby
          have hshl := shl_limb x k hx hlt
          have hX : x * 4 ^ k < 18446744073709551616 := by
            have h1 : 4 ^ k ≤ 4 ^ 4 := Nat.pow_le_pow_right (by omega) (by omega)
            have h2 := Nat.mul_le_mul (show x ≤ 67108864 by omega) h1
            simp only [Nat.reducePow, Nat.reduceMul] at h2
            omega
          revert hshl hX HR
          generalize x * 4 ^ k = X
          intro HR hshl hX
          have hshr := shr_byte X m
          revert hshr HR
          generalize X / 256 ^ m = q
          intro HR hshr
          have hcv : (q : Int) % 256 = ((q % 256 : Nat) : Int) := by omega
          have hcw : IntKind.u8.wrap (q : Int) = ((q % 256 : Nat) : Int) := by rw [IntKind.wrap_u8]; omega
          have hq : q % 256 < 256 := Nat.mod_lt _ (by omega)
          have hor := u8_or_nat z (q % 256) hby hq
          revert hor HR hcv hcw hq
          generalize z ||| q % 256 = o
          generalize q % 256 = r
          intro HR hcv hcw hq hor
          go_wp2
          go_region
          refine with_world (R := fun W => Exit.inBlock _ _ _ _ W) (Q := fun W => Tx w W v (txt v k (m + 1))) _ HR.out ?_
          clear HR c0 c1 f1 hor hcv hcw hshl hshr
          intro w9 HP
          go_wp2
          go_roundg (gk - 1)
          case measure => have := HM.out; omega
          case rel => exact ⟨m + 1, by have := HM.out; omega, by go_num, HP⟩
        · obtain rfl : m = 5 := by omega
          rw [txt_next v k hlt] at HS
          go_wp2
          go_roundg (5 - (k + 1))
          case measure => have := HK.out; omega
          case rel => exact ⟨k + 1, by omega, by go_num, HS⟩
    · obtain rfl : k = 5 := by omega
      have e : txt v 5 0 = v := by
        unfold txt
        rw [Nat.pow_zero, Nat.mod_one, Nat.mul_zero, Nat.add_zero]
        exact Nat.mod_eq_of_lt hv
      rw [e] at HS
      have hcv := run_convert_bytes_back (P := Tryz.prog) wr 96 9 5 ⟨w.heap.size + 1, 0, none⟩ 17 (bytL 16 v) Tryz.underlying96 Tryz.underlying5 Tryz.underlying9 (fun j hj => by
        rw [bytL_length] at hj
        rw [Addr.add_lit, Nat.zero_add, HS.own.cell j (by rw [dg_length]; omega), dg_getD _ _ _ _ (by omega)]
        have h1 : ((bytL 16 v)[j]'(by rw [bytL_length]; exact hj)).toNat = v / 256 ^ j % 256 := by
          have h2 := congrArg (fun l => l.getD j 0) (bytL_nat 16 v)
          simp only [dg_getD _ _ _ _ hj] at h2
          rw [← h2]
          simp [List.getD_eq_getElem?_getD, bytL_length, hj]
        rw [h1])
      rw [bytL_length] at hcv
      have hbel := HS.bel
      clear HS HK e hv
      go_wp2
      go_ret
      exact ⟨rfl, hbel⟩

end Go.Proofs.YtengclnahppmhaaGreatDoor.Pol

namespace Go.Proofs.YtengclnahppmhaaGreatDoor.Pol
open Go.RowKit Go.Lib Go.Deep

/-- what folded holds -/
structure Fo (w wr : World) (n : List Nat) : Prop where
  own : Nb .u64 188 wr w.heap.size n
  res : Nb .u64 188 wr (w.heap.size + 1) (List.replicate 5 0)
  bel : Below w.heap.size w wr

/-- how a product is brought to rest: the limbs after so many turns -/
def fols (n : List Nat) : Nat → List Nat
  | 0 => n
  | k + 1 => (lim (vl 67108864 (fols n k))).set 0 ((lim (vl 67108864 (fols n k))).getD 0 0 + 5 * (vl 67108864 (fols n k) / 1361129467683753853853498429727072845824))
theorem fols_length (n : List Nat) (h : n.length = 5) (k : Nat) : (fols n k).length = 5 := by
  cases k with
  | zero => exact h
  | succ k => rw [fols, List.length_set, lim_length]
theorem fols_vl (n : List Nat) (k : Nat) : vl 67108864 (fols n (k + 1)) = fd (vl 67108864 (fols n k)) := by
  rw [fols, vl_set _ _ _ _ (by rw [lim_length]; omega), Nat.pow_zero, Nat.one_mul, show vl 67108864 (lim (vl 67108864 (fols n k))) = vl 67108864 (fols n k) % 67108864 ^ 5 from vl_dg _ _ _]
  rfl
theorem fols_three (n : List Nat) (h : vl 67108864 n < 23384026197294446691258957323460528314494920687616) : fols n 3 = lim (fd (fd (vl 67108864 n))) := by
  have e2 : vl 67108864 (fols n 2) = fd (fd (vl 67108864 n)) := by rw [fols_vl, fols_vl]; rfl
  have hl := fd_fd_lt _ h
  rw [fols, e2]
  generalize fd (fd (vl 67108864 n)) = u at *
  rw [Nat.div_eq_of_lt hl, Nat.mul_zero, Nat.add_zero, List.getD_eq_getElem?_getD, List.getElem?_eq_getElem (by rw [lim_length]; omega)]
  simp
theorem fols_lt (n : List Nat) (_h : n.length = 5) (hM : ∀ i, n.getD i 0 < 1152921504606846976) (k : Nat) : ∀ i, (fols n k).getD i 0 < 1152921504606846976 := by
  have hv : ∀ l : List Nat, l.length = 5 → (∀ i, l.getD i 0 < 1152921504606846976) → 5 * (vl 67108864 l / 1361129467683753853853498429727072845824) < 1000000000000 := by
    intro l hl hi
    have := vl5_lt l hl 1152921504606846976 hi
    omega
  induction k with
  | zero => exact hM
  | succ k ih =>
    intro i
    have h1 := hv _ (fols_length n _h k) ih
    rw [fols]
    generalize 5 * (vl 67108864 (fols n k) / 1361129467683753853853498429727072845824) = q at *
    have h2 := lim_at (vl 67108864 (fols n k))
    generalize lim (vl 67108864 (fols n k)) = l at *
    rw [List.getD_eq_getElem?_getD, List.getElem?_set]
    have h20 := h2 0
    have h2i := h2 i
    rw [List.getD_eq_getElem?_getD] at h2i
    split
    · split
      · show l.getD 0 0 + q < _
        omega
      · show 0 < _
        omega
    · omega

set_option maxRecDepth 20000 in
set_option maxHeartbeats 1000000 in
theorem folded_any (n : List Nat) (hn : n.length = 5) (hM : ∀ i, n.getD i 0 < 1152921504606846976) (w : World) :
    Calls Tryz.prog 166 #[.agg (ns .u64 n)] w fun e w' => e = .returned (.agg (ns .u64 (fols n 3))) ∧ Below w.heap.size w w' := by
  have HS0 : Hid (Fo w ((w.alloc (.cells (ns .u64 n) 188)).alloc (.cells (ns .u64 (List.replicate 5 0)) 188)) (fols n 0)) :=
    ⟨(Nb.new _ _ _ _).alloc _, Nb.newN _ _ _ _ _ (by simp), ((Below.refl _ _).alloc (Nat.le_refl _) _).alloc (by simp) _⟩
  rw [zeros5] at HS0
  have HF : Hid (∀ k, (fols n k).length = 5 ∧ ∀ i, (fols n k).getD i 0 < 1152921504606846976) := fun k => ⟨fols_length n hn k, fols_lt n hn hM k⟩
  clear hM
  go_enter Tryz.func166, Tryz.ntmps166
  go_wp2
  go_loopg [4] 3 (fun gk i wr => ∃ k : Nat, k + gk = 3 ∧ i = .int .i64 k ∧ Fo w wr (fols n k))
  case atStart => exact ⟨0, by omega, rfl, HS0.out⟩
  case round =>
    clear HS0
    obtain ⟨k, hkk, rfl, HS⟩ := hrel
    have HK : Hid (k + gk = 3) := hkk
    have hk' : k ≤ 3 := by omega
    clear hkk
    obtain ⟨hl5, hlM⟩ := HF.out k
    by_cases hlt : k < 3
    · have hltI : (k : Int) < 3 := by omega
      have HN : Hid (fols n (k + 1) = (lim (vl 67108864 (fols n k))).set 0 ((lim (vl 67108864 (fols n k))).getD 0 0 + 5 * (vl 67108864 (fols n k) / 1361129467683753853853498429727072845824))) := rfl
      have hov : vl 67108864 (fols n k) / 1361129467683753853853498429727072845824 < 1000000000000 := by have := vl5_lt _ hl5 1152921504606846976 hlM; omega
      have hown := HS.own
      have hsz := ns5 _ hl5
      have HSP := spread_any (fols n k) hl5 hlM wr
      revert HSP hown hsz HN hov HS hlM hl5
      generalize fols n k = l
      intro HS hl5 hlM HN hov hown hsz HSP
      revert HSP HN hov
      generalize hV : vl 67108864 l = V
      generalize V / 1361129467683753853853498429727072845824 = o
      intro HN hov HSP
      clear hV hlM
      unfold Nb at hown
      have hLl := lim_length V
      have hL0 := lim_at V 0
      revert HSP HN hLl hL0
      generalize lim V = L
      intro HN HSP hLl hL0
      have hsz1 := ns5 L hLl
      have hone1 := ns_one .u64 L
      have HW : Hid (∀ W, Below wr.heap.size wr W → (W.there w.heap.size 0 (ns .u64 L).size) ∧ Fo w (W.setCells w.heap.size 0 (ns .u64 L).toList) L) := fun W hW => by
        have h1 := HS.own.below hW HS.own.lt
        have h2 := HS.res.below hW HS.res.lt
        refine ⟨h1.there _ (by rw [ns_size, hLl, hl5]), h1.store _ (by rw [hLl, hl5]), h2.aside (by simp) _ _, Below.setCells (HS.bel.trans (hW.mono HS.bel.size)) (Nat.le_refl _) _ _⟩
      clear HS
      go_upto_region 5 with (first | (refine wpList_load_row rfl 188 (.tmp 1) rfl w.heap.size rfl 188 _ (0, 0) _ hown Tryz.underlying188 rfl hsz ?_) | (go_at_call 147; refine HSP.mono ?_; rintro e w1 ⟨rfl, hb1⟩) | (refine wpList_store_mid rfl 188 (.tmp 1) (.tmp 9) rfl w.heap.size 0 _ rfl rfl (HW.out w1 hb1).1 hsz1 hone1 ?_))
      refine with_world (R := fun W => Code.wp _ _ _ _ W) (Q := fun W => Fo w W L) _ (HW.out w1 hb1).2 ?_
      clear HW hown hsz HSP hb1 hsz1 hone1 hl5
      intro w2 HS
      have c0 := HS.own.cell 0 (by omega)
      have f0 := HS.own.frozen 0
      have hx := hL0
      have HR : Hid (Fo w (w2.setCell ⟨w.heap.size, 0, none⟩ (.int .u64 ((L.getD 0 0 : Int) + 5 * (o : Int)))) (fols n (k + 1))) := by
        rw [HN.out]
        have e : ((L.getD 0 0 : Nat) : Int) + 5 * (o : Int) = ((L.getD 0 0 + 5 * o : Nat) : Int) := by omega
        rw [e]
        exact ⟨HS.own.put 0 _, HS.res.beside (by simp) _, HS.bel.setCell (Nat.le_refl _) _⟩
      clear HS HN
      revert c0 hx HR
      generalize L.getD 0 0 = x
      intro c0 hx HR
      go_wp2
      go_roundg (gk - 1)
      case measure => have := HK.out; omega
      case rel => exact ⟨k + 1, by have := HK.out; omega, by go_num, HR.out⟩
    · obtain rfl : k = 3 := by omega
      have hres := HS.own
      have HT := HS.res.store (fols n 3) hl5
      have hth := HS.res.there (ns .u64 (fols n 3)).size (by rw [ns_size, hl5]; rfl)
      have hbel' : Below w.heap.size w (wr.setCells (w.heap.size + 1) 0 (ns .u64 (fols n 3)).toList) := Below.setCells HS.bel (by simp) _ _
      have hsz := ns5 _ hl5
      have hone := ns_one .u64 (fols n 3)
      unfold Nb at HT hres
      clear HS HK hl5 hlM HF
      revert hres HT hth hbel' hsz hone
      generalize hC : ns .u64 (fols n 3) = C
      intro hres HT hth hbel' hsz hone
      have HE : Hid (ns .u64 (fols n 3) = C) := hC
      clear hC
      go_wp2_with (first | (refine wpList_load_row rfl 188 (.tmp 1) rfl w.heap.size rfl 188 _ (0, 0) _ hres Tryz.underlying188 rfl hsz ?_) | (refine wpList_store_mid rfl 188 (.tmp 2) (.tmp 18) rfl (w.heap.size + 1) 0 _ rfl rfl hth hsz hone ?_))
      refine bodyPost_ret (results_cell_row rfl _ _ (w.heap.size + 1) 188 _ (0, 0) _ rfl HT Tryz.underlying188 rfl hsz) rfl ?_
      rw [HE.out]
      exact ⟨rfl, hbel'⟩

end Go.Proofs.YtengclnahppmhaaGreatDoor.Pol

namespace Go.Proofs.YtengclnahppmhaaGreatDoor.Pol
open Go.RowKit Go.Lib Go.Deep

/-- what times holds -/
structure Tm (w wr : World) (a b S : List Nat) : Prop where
  one : Nb .u64 188 wr w.heap.size a
  two : Nb .u64 188 wr (w.heap.size + 1) b
  res : Nb .u64 188 wr (w.heap.size + 2) (List.replicate 5 0)
  own : Nb .u64 211 wr (w.heap.size + 3) S
  bel : Below w.heap.size w wr
theorem Tm.put {w wr : World} {a b S : List Nat} (h : Tm w wr a b S) (i x : Nat) : Tm w (wr.setCell ⟨w.heap.size + 3, i, none⟩ (.int .u64 (x : Int))).drew a b (S.set i x) :=
  ⟨(h.one.beside (by simp) _).drew, (h.two.beside (by simp) _).drew, (h.res.beside (by simp) _).drew, (h.own.put i x).drew, (h.bel.setCell (by simp) _).drew⟩

/-- so many rows, and of the next one so many -/
structure Ti (w wr : World) (a b : List Nat) (k m : Nat) : Prop where
  ex : ∃ S : List Nat, Tm w wr a b S ∧ S.length = 10 ∧ vl 67108864 S = vl 67108864 (a.take k) * vl 67108864 b + 67108864 ^ k * (a.getD k 0 * vl 67108864 (b.take m)) ∧ (∀ i, S.getD i 0 ≤ (k + 1) * 9007199254740992) ∧ (∀ i, k + m ≤ i → S.getD i 0 ≤ k * 9007199254740992)
theorem Ti.next {w wr : World} {a b : List Nat} {k : Nat} (h : Ti w wr a b k 5) (hb : b.length = 5) (hk : k < a.length) : Ti w wr a b (k + 1) 0 := by
  obtain ⟨S, h1, h2, h3, h4, h5⟩ := h.ex
  refine ⟨S, h1, h2, ?_, fun i => Nat.le_trans (h4 i) (Nat.mul_le_mul_right _ (by omega)), fun i _ => h4 i⟩
  rw [h3, List.take_of_length_le (show b.length ≤ 5 by omega), vl_take_succ _ _ _ hk, Nat.add_mul, Nat.mul_assoc]
  simp [vl]
theorem Ti.more {w w' : World} {a b S : List Nat} {k m : Nat} (hb : m < b.length) (h2 : S.length = 10) (hkm : k + m < 10)
    (h3 : vl 67108864 S = vl 67108864 (a.take k) * vl 67108864 b + 67108864 ^ k * (a.getD k 0 * vl 67108864 (b.take m))) (h4 : ∀ i, S.getD i 0 ≤ (k + 1) * 9007199254740992) (h5 : ∀ i, k + m ≤ i → S.getD i 0 ≤ k * 9007199254740992)
    (hp : a.getD k 0 * b.getD m 0 ≤ 9007199254740992) (h1 : Tm w w' a b (S.set (k + m) (S.getD (k + m) 0 + a.getD k 0 * b.getD m 0))) : Ti w w' a b k (m + 1) := by
  have hs := h5 (k + m) (Nat.le_refl _)
  refine ⟨_, h1, by rw [List.length_set, h2], ?_, ?_, ?_⟩
  · rw [vl_set _ _ _ _ (by omega), h3, vl_take_succ _ _ _ hb, Nat.mul_add, Nat.mul_add, Nat.add_assoc, Nat.pow_add]
    congr 2
    rw [Nat.mul_assoc]
    congr 1
    rw [← Nat.mul_assoc, ← Nat.mul_assoc, Nat.mul_comm (67108864 ^ m)]
  · intro i
    rw [List.getD_eq_getElem?_getD, List.getElem?_set]
    have := h4 i
    rw [List.getD_eq_getElem?_getD] at this
    split
    · split
      · show S.getD (k + m) 0 + a.getD k 0 * b.getD m 0 ≤ _
        rw [Nat.add_mul]
        omega
      · exact Nat.zero_le _
    · exact this
  · intro i hi
    rw [List.getD_eq_getElem?_getD, List.getElem?_set, if_neg (by omega), ← List.getD_eq_getElem?_getD]
    exact h5 i (by omega)

/-- the limbs of the product, so many -/
def prodL (S : List Nat) (k : Nat) : List Nat := (List.range k).map fun i => S.getD i 0 + 5 * S.getD (i + 5) 0
theorem prodL_length (S : List Nat) (k : Nat) : (prodL S k).length = k := by simp [prodL]
theorem prodL_succ (S : List Nat) (k : Nat) : prodL S (k + 1) = prodL S k ++ [S.getD k 0 + 5 * S.getD (k + 5) 0] := by simp [prodL, List.range_succ]
theorem prodL_at (S : List Nat) (M : Nat) (h : ∀ i, S.getD i 0 ≤ M) (i : Nat) : (prodL S 5).getD i 0 ≤ 6 * M := by
  rw [List.getD_eq_getElem?_getD, prodL, List.getElem?_map]
  by_cases hi : i < 5
  · rw [List.getElem?_range hi]
    have h1 := h i
    have h2 := h (i + 5)
    show S.getD i 0 + 5 * S.getD (i + 5) 0 ≤ _
    omega
  · rw [List.getElem?_eq_none (by simp; omega)]
    exact Nat.zero_le _

structure Tp (w wr : World) (g : Nat) (S : List Nat) (k : Nat) : Prop where
  gt : w.heap.size + 3 < g
  res : Nb .u64 188 wr (w.heap.size + 2) (List.replicate 5 0)
  own : Nb .u64 211 wr (w.heap.size + 3) S
  prod : Nb .u64 188 wr g (fill 5 (prodL S k))
  bel : Below w.heap.size w wr

/-- what comes of a product -/
theorem prod_fold (S a b : List Nat) (h : S.length = 10) (hv : vl 67108864 S = vl 67108864 a * vl 67108864 b) (hM : ∀ i, S.getD i 0 ≤ 54043195528445952) :
    ∃ X, fols (prodL S 5) 3 = lim X ∧ X < 1361129467683753853853498429727072845824 ∧ X % Pp = vl 67108864 a * vl 67108864 b % Pp := by
  have h1 := vl5_lt (prodL S 5) (prodL_length S 5) 1152921504606846976 (fun i => by have := prodL_at S _ hM i; omega)
  have h2 : vl 67108864 (prodL S 5) < 23384026197294446691258957323460528314494920687616 := by
    have h1' := vl5_lt (prodL S 5) (prodL_length S 5) 330000000000000000 (fun i => by have := prodL_at S _ hM i; omega)
    omega
  refine ⟨_, fols_three _ h2, fd_fd_lt _ h2, ?_⟩
  rw [fd_mod, fd_mod, ← hv, ← fold10 S h, ← zip5 S h, Nat.add_mul_mod_self_left]
  rfl

set_option maxRecDepth 20000 in
set_option maxHeartbeats 1000000 in
theorem times_any (a b : List Nat) (ha : a.length = 5) (hb : b.length = 5) (hA : ∀ i, a.getD i 0 < 134217728) (hB : ∀ i, b.getD i 0 < 67108864) (w : World) :
    Calls Tryz.prog 158 #[.agg (ns .u64 a), .agg (ns .u64 b)] w fun e w' => (∃ X, e = .returned (.agg (ns .u64 (lim X))) ∧ X < 1361129467683753853853498429727072845824 ∧ X % Pp = vl 67108864 a * vl 67108864 b % Pp) ∧ Below w.heap.size w w' := by
  have HS0 : Hid (Ti w ((((w.alloc (.cells (ns .u64 a) 188)).alloc (.cells (ns .u64 b) 188)).alloc (.cells (ns .u64 (List.replicate 5 0)) 188)).alloc (.cells (ns .u64 (List.replicate 10 0)) 211)) a b 0 0) :=
    ⟨_, ⟨(((Nb.new _ _ _ _).alloc _).alloc _).alloc _, ((Nb.newN _ _ _ _ _ (by simp)).alloc _).alloc _, (Nb.newN _ _ _ _ _ (by simp)).alloc _, Nb.newN _ _ _ _ _ (by simp), ((((Below.refl _ _).alloc (Nat.le_refl _) _).alloc (by simp) _).alloc (by simp; omega) _).alloc (by simp; omega) _⟩, rfl, by rw [vl_replicate]; simp [vl],
      fun i => by rw [List.getD_eq_getElem?_getD, List.getElem?_replicate]; split <;> exact Nat.zero_le _, fun i _ => by rw [List.getD_eq_getElem?_getD, List.getElem?_replicate]; split <;> exact Nat.zero_le _⟩
  rw [zeros5, zeros10] at HS0
  have HA : Hid ((∀ i, a.getD i 0 < 134217728) ∧ (∀ i, b.getD i 0 < 67108864)) := ⟨hA, hB⟩
  clear hA hB
  go_enter Tryz.func158, Tryz.ntmps158
  go_wp2
  go_loopg [10] 5 (fun gk i wr => ∃ k : Nat, k + gk = 5 ∧ i = .int .i64 k ∧ Ti w wr a b k 0)
  case atStart => exact ⟨0, by omega, rfl, HS0.out⟩
  case round =>
    clear HS0
    obtain ⟨k, hkk, rfl, HS⟩ := hrel
    have HK : Hid (k + gk = 5) := hkk
    have hk' : k ≤ 5 := by omega
    clear hkk
    by_cases hlt : k < 5
    · have hltI : (k : Int) < 5 := by omega
      go_wp2
      go_loopg [13] 5 (fun gj j wx => ∃ m : Nat, m + gj = 5 ∧ j = .int .i64 m ∧ Ti w wx a b k m)
      case atStart => exact ⟨0, by omega, rfl, HS⟩
      case round =>
        clear HS
        obtain ⟨m, hmm, rfl, HS⟩ := hrel
        have HM : Hid (m + gk = 5) := hmm
        have hm' : m ≤ 5 := by omega
        clear hmm
        by_cases hml : m < 5
        · have hmlI : (m : Int) < 5 := by omega
          have hix : (k : Int) + (m : Int) < 10 := by omega
          obtain ⟨S, h1, h2, h3, h4, h5⟩ := HS.ex
          have hx := HA.out.1 k
          have hy := HA.out.2 m
          have c0 := h1.one.cell k (by omega)
          have c1 := h1.two.cell m (by omega)
          have c2 := h1.own.cell (k + m) (by omega)
          have f2 := h1.own.frozen (k + m)
          have hs := h5 (k + m) (Nat.le_refl _)
          have hp : a.getD k 0 * b.getD m 0 ≤ 9007199254740992 := by
            have := Nat.mul_le_mul (show a.getD k 0 ≤ 134217728 by omega) (show b.getD m 0 ≤ 67108864 by omega)
            simpa using this
          have HR : Hid (∀ W : World, W = (wr.setCell ⟨w.heap.size + 3, k + m, none⟩ (.int .u64 ((S.getD (k + m) 0 + a.getD k 0 * b.getD m 0 : Nat) : Int))).drew → Ti w W a b k (m + 1)) := fun W hW => by
            subst hW
            exact Ti.more (by omega) h2 (by omega) h3 h4 h5 hp (h1.put _ _)
          have hs5 : S.getD (k + m) 0 ≤ 45035996273704960 := Nat.le_trans hs (by have := Nat.mul_le_mul_right 9007199254740992 (show k ≤ 5 by omega); simpa using this)
          clear h1 h2 h3 h4 h5 HS hs
          revert hx hy c0 c1 c2 hp HR hs5
          generalize S.getD (k + m) 0 = s
          generalize a.getD k 0 = x
          generalize b.getD m 0 = y
          intro hx hy c0 c1 c2 hp HR hs5
          have hw1 : IntKind.u64.wrap ((x : Int) * (y : Int)) = ((x * y : Nat) : Int) := by rw [IntKind.wrap_u64, ← Int.natCast_mul]; omega
          have hw2 : ((x : Int) * (y : Int)) % 18446744073709551616 = ((x * y : Nat) : Int) := by rw [← Int.natCast_mul]; omega
          revert hw1 hw2 HR hp
          generalize x * y = p
          intro hp HR hw1 hw2
          have HR' := HR.out _ (by rw [Int.natCast_add])
          clear HR
          go_wp2
          go_region
          refine with_world (R := fun W => Exit.inBlock _ _ _ _ W) (Q := fun W => Ti w W a b k (m + 1)) _ HR' ?_
          clear HR' c0 c1 c2 f2 hw1 hw2
          intro w9 HP
          go_wp2
          go_roundg (gk - 1)
          case measure => have := HM.out; omega
          case rel => exact ⟨m + 1, by have := HM.out; omega, by go_num, HP⟩
        · obtain rfl : m = 5 := by omega
          have HS' := HS.next hb (by omega)
          clear HS
          go_wp2
          go_roundg (5 - (k + 1))
          case measure => have := HK.out; omega
          case rel => exact ⟨k + 1, by omega, by go_num, HS'⟩
    · obtain rfl : k = 5 := by omega
      obtain ⟨S, h1, h2, h3, h4, h5⟩ := HS.ex
      rw [List.take_of_length_le (by omega), show vl 67108864 (b.take 0) = 0 from rfl, Nat.mul_zero, Nat.mul_zero, Nat.add_zero] at h3
      have h4' : ∀ i, S.getD i 0 ≤ 54043195528445952 := h4
      obtain ⟨X, hX, hXl, hXm⟩ := prod_fold S a b h2 h3 h4'
      have HF : Hid (∀ W, Calls Tryz.prog 166 #[.agg (ns .u64 (prodL S 5))] W fun e w' => e = .returned (.agg (ns .u64 (fols (prodL S 5) 3))) ∧ Below W.heap.size W w') := fun W => folded_any _ (prodL_length S 5) (fun i => by have := prodL_at S _ h4' i; omega) W
      have HX : Hid (X < 1361129467683753853853498429727072845824 ∧ X % Pp = vl 67108864 a * vl 67108864 b % Pp) := ⟨hXl, hXm⟩
      rw [hX] at HF
      have H4 : Hid (∀ i, S.getD i 0 ≤ 54043195528445952) := h4'
      have hall := lim_length X
      revert HF
      generalize hL : lim X = L at hall
      intro HF
      have HL : Hid (lim X = L) := hL
      have HT0 : Hid (Tp w (wr.alloc (.cells (ns .u64 (List.replicate 5 0)) 188)) wr.heap.size S 0) := ⟨h1.own.lt, h1.res.alloc _, h1.own.alloc _, Nb.new _ _ _ _, h1.bel.alloc h1.bel.size _⟩
      rw [zeros5] at HT0
      clear hX hXl hXm h1 h3 h4 h5 h4' HS hL HA HK
      go_wp2
      refine with_world (R := fun W => Code.wp _ _ _ _ W) (Q := fun W => Tp w W wr.heap.size S 0) _ HT0.out ?_
      clear HT0
      generalize wr.heap.size = g
      intro w5 HT0
      go_loopg [32] 5 (fun gj j wx => ∃ m : Nat, m + gj = 5 ∧ j = .int .i64 m ∧ Tp w wx g S m)
      case atStart => exact ⟨0, by omega, rfl, HT0⟩
      case round =>
        clear HT0
        obtain ⟨m, hmm, rfl, HS⟩ := hrel
        have HM : Hid (m + gk = 5) := hmm
        have hm' : m ≤ 5 := by omega
        clear hmm
        by_cases hml : m < 5
        · have hmlI : (m : Int) < 5 := by omega
          have hml2 : (m : Int) < 10 := by omega
          have hml3 : (m : Int) + 5 < 10 := by omega
          have c0 := HS.own.cell m (by omega)
          have c1 := HS.own.cell (m + 5) (by omega)
          have f2 := HS.prod.frozen m
          have c2 := HS.prod.cell m (by rw [fill_length _ _ (by rw [prodL_length]; omega)]; exact hml)
          have hx := H4.out m
          have hy := H4.out (m + 5)
          have hgt := HS.gt
          have HR : Hid (Tp w (wr.setCell ⟨g, m, none⟩ (.int .u64 ((S.getD m 0 + 5 * S.getD (m + 5) 0 : Nat) : Int))).drew g S (m + 1)) := by
            refine ⟨HS.gt, (HS.res.beside (by show g ≠ _; omega) _).drew, (HS.own.beside (by show g ≠ _; omega) _).drew, ?_, (HS.bel.setCell (by show w.heap.size ≤ g; omega) _).drew⟩
            have h := HS.prod.put m (S.getD m 0 + 5 * S.getD (m + 5) 0)
            rw [fill_set 5 m _ _ (prodL_length S m) hml, ← prodL_succ] at h
            exact h.drew
          rw [show ((S.getD m 0 + 5 * S.getD (m + 5) 0 : Nat) : Int) = (S.getD m 0 : Int) + 5 * (S.getD (m + 5) 0 : Int) by omega] at HR
          clear HS hgt
          revert c0 c1 c2 hx hy HR
          generalize (fill 5 (prodL S m)).getD m 0 = z
          generalize S.getD m 0 = x
          generalize S.getD (m + 5) 0 = y
          intro c0 c1 c2 hx hy HR
          go_wp2
          go_region
          refine with_world (R := fun W => Exit.inBlock _ _ _ _ W) (Q := fun W => Tp w W g S (m + 1)) _ HR.out ?_
          clear HR c0 c1 c2 f2
          intro w9 HP
          go_wp2
          go_roundg (gk - 1)
          case measure => have := HM.out; omega
          case rel => exact ⟨m + 1, by have := HM.out; omega, by go_num, HP⟩
        · obtain rfl : m = 5 := by omega
          have hres := HS.prod
          rw [fill_full 5 _ (prodL_length S 5)] at hres
          have hsz := ns5 _ (prodL_length S 5)
          have HFw := HF.out wr
          have HW : Hid (∀ W, Below wr.heap.size wr W → W.there (w.heap.size + 2) 0 (ns .u64 L).size ∧ Nb .u64 188 (W.setCells (w.heap.size + 2) 0 (ns .u64 L).toList) (w.heap.size + 2) L ∧ Below w.heap.size w (W.setCells (w.heap.size + 2) 0 (ns .u64 L).toList)) := fun W hW => by
            have h2 := HS.res.below hW HS.res.lt
            exact ⟨h2.there _ (by rw [ns_size, hall]; rfl), h2.store _ (by rw [hall]; rfl), Below.setCells (HS.bel.trans (hW.mono HS.bel.size)) (by simp) _ _⟩
          have hsz1 := ns5 L hall
          have hone1 := ns_one .u64 L
          unfold Nb at hres
          clear HS HF HM H4
          revert hres hsz HFw
          generalize ns .u64 (prodL S 5) = C
          intro hres hsz HFw
          go_wp2_with (first | (refine wpList_load_row rfl 188 (.tmp 8) rfl g rfl 188 _ (0, 0) _ hres Tryz.underlying188 rfl hsz ?_) | (go_at_call 166; refine HFw.mono ?_; rintro e w6 ⟨rfl, hb6⟩) | (refine wpList_store_mid rfl 188 (.tmp 4) (.tmp 48) rfl (w.heap.size + 2) 0 _ rfl rfl (HW.out w6 hb6).1 hsz1 hone1 ?_))
          have hT := (HW.out w6 hb6).2.1
          unfold Nb at hT
          refine bodyPost_ret (results_cell_row rfl _ _ (w.heap.size + 2) 188 _ (0, 0) _ rfl hT Tryz.underlying188 rfl hsz1) rfl ?_
          exact ⟨⟨X, by rw [HL.out], HX.out.1, HX.out.2⟩, (HW.out w6 hb6).2.2⟩

end Go.Proofs.YtengclnahppmhaaGreatDoor.Pol

namespace Go.Proofs.YtengclnahppmhaaGreatDoor.Pol
open Go.RowKit Go.Lib Go.Deep

theorem one5 (x : Nat) : ns .u64 [x, 0, 0, 0, 0] = #[.int .u64 (x : Int), .int .u64 0, .int .u64 0, .int .u64 0, .int .u64 0] := rfl
theorem vl_one5 (x : Nat) : vl 67108864 [x, 0, 0, 0, 0] = x := by simp [vl]
theorem lt_one5 (x : Nat) (hx : x < 1152921504606846976) (i : Nat) : [x, 0, 0, 0, 0].getD i 0 < 1152921504606846976 := by
  match i with
  | 0 => exact hx
  | 1 | 2 | 3 | 4 => show 0 < _; omega
  | n + 5 => show 0 < _; omega
theorem zip_lt (a b : List Nat) (M : Nat) (_hM : 0 < M) (ha : ∀ i, a.getD i 0 < M) (hb : ∀ i, b.getD i 0 < M) (i : Nat) : (List.zipWith (· + ·) a b).getD i 0 < 2 * M := by
  have h1 := ha i
  have h2 := hb i
  rw [List.getD_eq_getElem?_getD] at h1 h2 ⊢
  rw [List.getElem?_zipWith]
  cases ha' : a[i]? <;> cases hb' : b[i]? <;> simp [ha', hb'] at h1 h2 ⊢ <;> omega

/-- plus, then spread -/
theorem both_lt (v x : Nat) (hx : x < 67108864) : ∀ i, (List.zipWith (· + ·) (lim v) [x, 0, 0, 0, 0]).getD i 0 < 1152921504606846976 := fun i => by
  have := zip_lt (lim v) [x, 0, 0, 0, 0] 67108864 (by omega) (lim_at v) (fun j => by
    match j with
    | 0 => exact hx
    | 1 | 2 | 3 | 4 => show 0 < _; omega
    | n + 5 => show 0 < _; omega) i
  omega
theorem both_vl (v x : Nat) (hv : v < 1361129467683753853853498429727072845824) : vl 67108864 (List.zipWith (· + ·) (lim v) [x, 0, 0, 0, 0]) = v + x := by
  rw [vl_zip_add _ _ _ (by rw [lim_length]; rfl), vl_lim v hv, vl_one5]
theorem both_length (v x : Nat) : (List.zipWith (· + ·) (lim v) [x, 0, 0, 0, 0]).length = 5 := by rw [List.length_zipWith, lim_length]; rfl

/-- what least holds -/
structure Le (w wr : World) (L : List Nat) : Prop where
  own : Nb .u64 188 wr w.heap.size L
  res : Nb .u64 188 wr (w.heap.size + 1) (List.replicate 5 0)
  bel : Below w.heap.size w wr
theorem Le.below {w wr W : World} {L : List Nat} (h : Le w wr L) (hb : Below wr.heap.size wr W) : Le w W L := ⟨h.own.below hb h.own.lt, h.res.below hb h.res.lt, h.bel.trans (hb.mono h.bel.size)⟩
theorem Le.fresh {w wr : World} {L : List Nat} (h : Le w wr L) (o : Obj) (vs : List Value) : Le w ((wr.alloc o).setCells wr.heap.size 0 vs) L :=
  ⟨(h.own.alloc o).aside (by have := h.own.lt; omega) _ _, (h.res.alloc o).aside (by have := h.res.lt; omega) _ _, Below.setCells (h.bel.alloc h.bel.size _) h.bel.size _ _⟩

set_option maxRecDepth 20000 in
set_option maxHeartbeats 1000000 in
theorem least_any (v : Nat) (hv : v < 1361129467683753853853498429727072845824) (w : World) :
    Calls Tryz.prog 145 #[.agg (ns .u64 (lim v))] w fun e w' => e = .returned (.agg (ns .u64 (lim (v % Pp)))) ∧ Below w.heap.size w w' := by
  have hl5 := lim_length v
  have hlM := lim_at v
  have HP1 : Hid (∀ W, Calls Tryz.prog 146 #[.agg (ns .u64 (lim v)), .agg (ns .u64 [5, 0, 0, 0, 0])] W fun e w' => e = .returned (.agg (ns .u64 (List.zipWith (· + ·) (lim v) [5, 0, 0, 0, 0]))) ∧ Below W.heap.size W w') := fun W => plus_any _ _ hl5 rfl (fun i => by have := hlM i; omega) (lt_one5 5 (by omega)) W
  have HS1 : Hid (∀ W, Calls Tryz.prog 147 #[.agg (ns .u64 (List.zipWith (· + ·) (lim v) [5, 0, 0, 0, 0]))] W fun e w' => e = .returned (.tuple #[.agg (ns .u64 (lim (v + 5))), .int .u64 (((v + 5) / 1361129467683753853853498429727072845824 : Nat) : Int)]) ∧ Below W.heap.size W w') := fun W => by
    have h := spread_any _ (both_length v 5) (both_lt v 5 (by omega)) W
    rw [both_vl v 5 hv] at h
    exact h
  have ho : (v + 5) / 1361129467683753853853498429727072845824 ≤ 1 := by omega
  have HLE := least_eq v hv
  revert HS1 ho HLE
  generalize (v + 5) / 1361129467683753853853498429727072845824 = o
  intro HS1 ho HLE
  have HP2 : Hid (∀ W, Calls Tryz.prog 146 #[.agg (ns .u64 (lim v)), .agg (ns .u64 [5 * o, 0, 0, 0, 0])] W fun e w' => e = .returned (.agg (ns .u64 (List.zipWith (· + ·) (lim v) [5 * o, 0, 0, 0, 0]))) ∧ Below W.heap.size W w') := fun W => plus_any _ _ hl5 rfl (fun i => by have := hlM i; omega) (lt_one5 _ (by omega)) W
  have HS2 : Hid (∀ W, ∃ y, Calls Tryz.prog 147 #[.agg (ns .u64 (List.zipWith (· + ·) (lim v) [5 * o, 0, 0, 0, 0]))] W fun e w' => e = .returned (.tuple #[.agg (ns .u64 (lim (v % Pp))), .int .u64 (y : Int)]) ∧ Below W.heap.size W w') := fun W => by
    have h := spread_any _ (both_length v (5 * o)) (both_lt v (5 * o) (by omega)) W
    have e : lim (v + 5 * o) = lim (v % Pp) := by
      rw [← HLE]
      exact (dg_mod 67108864 5 (v + 5 * o) (by omega)).symm
    rw [both_vl v _ hv, e] at h
    exact ⟨_, h⟩
  rw [one5] at HP1
  rw [one5, Int.natCast_mul] at HP2
  have hl1 := lim_length (v + 5)
  have hl2 := lim_length (v % Pp)
  clear HLE hlM hv
  have HL0 : Hid (Le w ((w.alloc (.cells (ns .u64 (lim v)) 188)).alloc (.cells (ns .u64 (List.replicate 5 0)) 188)) (lim v)) :=
    ⟨(Nb.new _ _ _ _).alloc _, Nb.newN _ _ _ _ _ (by simp), ((Below.refl _ _).alloc (Nat.le_refl _) _).alloc (by simp) _⟩
  rw [zeros5] at HL0
  revert HP1 HS1 HP2 HS2 hl1 hl2 hl5 HL0
  generalize List.zipWith (· + ·) (lim v) [5, 0, 0, 0, 0] = Z1
  generalize List.zipWith (· + ·) (lim v) [5 * o, 0, 0, 0, 0] = Z2
  generalize lim (v + 5) = R1
  generalize lim (v % Pp) = R2
  generalize lim v = L
  intro hl5 HP1 HS1 HP2 HS2 hl1 hl2 HL0
  have hszL := ns5 L hl5
  have hsz1 := ns5 R1 hl1
  have hsz2 := ns5 R2 hl2
  have hone1 := ns_one .u64 R1
  have hone2 := ns_one .u64 R2
  have hs1 : (ns .u64 R1).size = 5 := by rw [ns_size, hl1]
  have hs2 : (ns .u64 R2).size = 5 := by rw [ns_size, hl2]
  go_enter Tryz.func145, Tryz.ntmps145
  go_upto_region 1 with fail
  refine with_world (R := fun W => Code.wp _ _ _ _ W) (Q := fun W => Le w W L) _ HL0.out ?_
  clear HL0
  intro w1 H1
  have hp1 := HP1.out w1
  go_wp2_with (refine wpList_load_row rfl 188 (.tmp 1) rfl w.heap.size rfl 188 _ (0, 0) _ H1.own Tryz.underlying188 rfl hszL ?_)
  refine hp1.mono ?_
  rintro e w2 ⟨rfl, hb2⟩
  have H2 := H1.below hb2
  clear H1 hb2 hp1 HP1
  have hp2 := HS1.out w2
  go_wp2_with fail
  refine hp2.mono ?_
  rintro e w3 ⟨rfl, hb3⟩
  have H3 := H2.below hb3
  clear H2 hb3 hp2 HS1
  go_upto_region 2 with (refine wpList_store_mid rfl 188 (.tmp 3) (.tmp 12) rfl w3.heap.size 0 _ rfl rfl (there_of_heap (heap_new _ _) (by rw [hs1]; decide)) hsz1 hone1 ?_)
  refine with_world (R := fun W => Code.wp _ _ _ _ W) (Q := fun W => Le w W L) _ (H3.fresh _ _) ?_
  clear H3
  intro w4 H4
  generalize w3.heap.size = g3
  have hp1 := HP2.out w4
  have hoI : (o : Int) ≤ 1 := by omega
  go_wp2_with (refine wpList_load_row rfl 188 (.tmp 1) rfl w.heap.size rfl 188 _ (0, 0) _ H4.own Tryz.underlying188 rfl hszL ?_)
  refine hp1.mono ?_
  rintro e w5 ⟨rfl, hb5⟩
  have H5 := H4.below hb5
  clear H4 hb5 hp1 HP2
  obtain ⟨y, hp2⟩ := HS2.out w5
  go_wp2_with fail
  refine hp2.mono ?_
  rintro e w6 ⟨rfl, hb6⟩
  have H6 := H5.below hb6
  clear H5 hb6 hp2 HS2
  have HN : Hid (∀ z : Array Value, z.size = 5 → Nb .u64 188 ((w6.alloc (.cells z 188)).setCells w6.heap.size 0 (ns .u64 R2).toList) w6.heap.size R2) := fun z hz => by
    have h := heap_setCells w6.heap.size 188 (ns .u64 R2).toList 0 z _ (heap_new w6 (.cells z 188))
    rw [setMany_all _ _ (by rw [Array.length_toList, hs2, hz]), Array.toArray_toList] at h
    exact h
  go_upto_region 3 with (refine wpList_store_mid rfl 188 (.tmp 5) (.tmp 21) rfl w6.heap.size 0 _ rfl rfl (there_of_heap (heap_new _ _) (by rw [hs2]; decide)) hsz2 hone2 ?_)
  have hlt6 := H6.res.lt
  refine with_world (R := fun W => Code.wp _ _ _ _ W) (Q := fun W => Le w W L ∧ Nb .u64 188 W w6.heap.size R2) _ ⟨H6.fresh _ _, HN.out _ rfl⟩ ?_
  clear H6 HN
  rintro w7 ⟨H7, hn7⟩
  revert hn7 hlt6
  generalize w6.heap.size = g6
  intro hlt6 hn7
  have HT := H7.res.store R2 hl2
  have hth := H7.res.there (ns .u64 R2).size (by rw [hs2]; rfl)
  have hbel' : Below w.heap.size w (w7.setCells (w.heap.size + 1) 0 (ns .u64 R2).toList) := Below.setCells H7.bel (by simp) _ _
  unfold Nb at HT hn7
  go_wp2_with (first | (refine wpList_load_row rfl 188 (.tmp 5) rfl g6 rfl 188 _ (0, 0) _ hn7 Tryz.underlying188 rfl hsz2 ?_) | (refine wpList_store_mid rfl 188 (.tmp 2) (.tmp 23) rfl (w.heap.size + 1) 0 _ rfl rfl hth hsz2 hone2 ?_))
  refine bodyPost_ret (results_cell_row rfl _ _ (w.heap.size + 1) 188 _ (0, 0) _ rfl HT Tryz.underlying188 rfl hsz2) rfl ?_
  exact ⟨rfl, hbel'⟩

end Go.Proofs.YtengclnahppmhaaGreatDoor.Pol
