import Derived.Test.YtggfeppphhigdabDoorHexA
namespace Go.Proofs.YtggfeppphhigdabDoor
open Go.RowKit Go.Lib

/-- digits, the lowest first -/
def dg (b : Nat) : Nat → Nat → List Nat
  | 0, _ => []
  | n + 1, v => v % b :: dg b n (v / b)
/-- what digits come to -/
def vl (b : Nat) : List Nat → Nat
  | [] => 0
  | x :: r => x + b * vl b r

theorem dg_length (b n v : Nat) : (dg b n v).length = n := by
  induction n generalizing v with
  | zero => rfl
  | succ n ih => simp [dg, ih]
theorem dg_lt (b n v : Nat) (hb : 0 < b) : ∀ x ∈ dg b n v, x < b := by
  induction n generalizing v with
  | zero => intro x h; simp [dg] at h
  | succ n ih =>
    intro x h
    simp only [dg, List.mem_cons] at h
    rcases h with rfl | h
    · exact Nat.mod_lt _ hb
    · exact ih _ x h
theorem vl_dg (b n v : Nat) : vl b (dg b n v) = v % b ^ n := by
  induction n generalizing v with
  | zero => simp [dg, vl, Nat.mod_one]
  | succ n ih => rw [dg, vl, ih, Nat.pow_succ, Nat.mul_comm (b ^ n) b, Nat.mod_mul]
theorem vl_dg_lt (b n v : Nat) (h : v < b ^ n) : vl b (dg b n v) = v := by rw [vl_dg, Nat.mod_eq_of_lt h]
theorem dg_vl (b : Nat) (l : List Nat) (h : ∀ x ∈ l, x < b) : dg b l.length (vl b l) = l := by
  induction l with
  | nil => rfl
  | cons x r ih =>
    have hx := h x (by simp)
    have hb : 0 < b := by omega
    simp only [List.length_cons, dg, vl, Nat.add_mul_mod_self_left, Nat.mod_eq_of_lt hx, Nat.add_mul_div_left _ _ hb, Nat.div_eq_of_lt hx, Nat.zero_add, ih (fun y hy => h y (by simp [hy]))]
theorem vl_append (b : Nat) (l r : List Nat) : vl b (l ++ r) = vl b l + b ^ l.length * vl b r := by
  induction l with
  | nil => simp [vl]
  | cons x l ih => simp only [List.cons_append, vl, ih, List.length_cons, Nat.mul_add, Nat.pow_succ]; rw [Nat.mul_comm (b ^ l.length) b, Nat.mul_assoc]; omega
theorem dg_snoc (b n v : Nat) : dg b (n + 1) v = dg b n v ++ [v / b ^ n % b] := by
  induction n generalizing v with
  | zero => simp [dg]
  | succ n ih =>
    rw [dg, ih, dg]
    simp only [List.cons_append, List.cons.injEq, true_and]
    rw [Nat.div_div_eq_div_mul, Nat.pow_succ, Nat.mul_comm (b ^ n) b]
theorem dg_add (b n v x : Nat) (hb : 0 < b) : dg b n (v + b ^ n * x) = dg b n v := by
  induction n generalizing v with
  | zero => rfl
  | succ n ih =>
    have e : v + b ^ (n + 1) * x = v + b * (b ^ n * x) := by rw [Nat.pow_succ, Nat.mul_comm (b ^ n) b, Nat.mul_assoc]
    rw [dg, dg, e, Nat.add_mul_mod_self_left, Nat.add_mul_div_left _ _ hb, ih]
theorem dg_mod (b n v : Nat) (hb : 0 < b) : dg b n (v % b ^ n) = dg b n v := by
  have e : v = v % b ^ n + b ^ n * (v / b ^ n) := (Nat.mod_add_div v (b ^ n)).symm
  conv => rhs; rw [e]
  rw [dg_add _ _ _ _ hb]
theorem dg_zero (b n : Nat) : dg b n 0 = List.replicate n 0 := by
  induction n with
  | zero => rfl
  | succ n ih => simp [dg, ih, List.replicate_succ]
theorem dg_take (b n k v : Nat) (h : k ≤ n) : (dg b n v).take k = dg b k v := by
  induction k generalizing n v with
  | zero => simp [dg]
  | succ k ih =>
    obtain ⟨m, rfl⟩ : ∃ m, n = m + 1 := ⟨n - 1, by omega⟩
    simp [dg, ih m (v / b) (by omega)]
theorem dg_getD (b n k v : Nat) (h : k < n) : (dg b n v).getD k 0 = v / b ^ k % b := by
  induction k generalizing n v with
  | zero =>
    obtain ⟨m, rfl⟩ : ∃ m, n = m + 1 := ⟨n - 1, by omega⟩
    simp [dg]
  | succ k ih =>
    obtain ⟨m, rfl⟩ : ∃ m, n = m + 1 := ⟨n - 1, by omega⟩
    rw [dg, List.getD_cons_succ, ih m (v / b) (by omega), Nat.div_div_eq_div_mul, Nat.pow_succ, Nat.mul_comm (b ^ k) b]

theorem vl_replicate (b n : Nat) : vl b (List.replicate n 0) = 0 := by
  induction n with
  | zero => rfl
  | succ n ih => simp [List.replicate_succ, vl, ih]
theorem vl_set (b : Nat) (l : List Nat) (i d : Nat) (h : i < l.length) : vl b (l.set i (l.getD i 0 + d)) = vl b l + b ^ i * d := by
  induction l generalizing i with
  | nil => simp at h
  | cons x r ih =>
    cases i with
    | zero => simp [vl]; omega
    | succ i =>
      simp only [List.length_cons] at h
      rw [List.set_cons_succ, List.getD_cons_succ, vl, ih i (by omega), vl, Nat.pow_succ, Nat.mul_comm (b ^ i) b, Nat.mul_assoc, Nat.mul_add]
      omega
theorem vl_take_succ (b : Nat) (l : List Nat) (k : Nat) (h : k < l.length) : vl b (l.take (k + 1)) = vl b (l.take k) + b ^ k * l.getD k 0 := by
  have e : l.take (k + 1) = l.take k ++ [l.getD k 0] := by
    rw [List.take_add_one, List.getD_eq_getElem?_getD, List.getElem?_eq_getElem h]
    rfl
  rw [e, vl_append, List.length_take, Nat.min_eq_left (by omega)]
  simp [vl]

/-- one digit more of what is carried on -/
theorem carry_digit (b k V x : Nat) (hb : 0 < b) : dg b (k + 1) (V + b ^ k * x) = dg b k V ++ [(V / b ^ k + x) % b] := by
  rw [dg_snoc, dg_add _ _ _ _ hb, Nat.add_mul_div_left _ _ (Nat.pow_pos hb)]
theorem carry_over (b k V x : Nat) (hb : 0 < b) : (V + b ^ k * x) / b ^ (k + 1) = (V / b ^ k + x) / b := by
  rw [Nat.pow_succ, ← Nat.div_div_eq_div_mul, Nat.add_mul_div_left _ _ (Nat.pow_pos hb)]

theorem vl_zip_add (b : Nat) (l r : List Nat) (h : l.length = r.length) : vl b (List.zipWith (· + ·) l r) = vl b l + vl b r := by
  induction l generalizing r with
  | nil => cases r with
    | nil => rfl
    | cons y r => simp at h
  | cons x l ih => cases r with
    | nil => simp at h
    | cons y r =>
      simp only [List.zipWith_cons_cons, vl, ih r (by simpa using h), Nat.mul_add]
      omega
theorem vl_map_mul (b c : Nat) (l : List Nat) : vl b (l.map (c * ·)) = c * vl b l := by
  induction l with
  | nil => rfl
  | cons x l ih => simp only [List.map_cons, vl, ih, Nat.mul_add]; rw [← Nat.mul_assoc, ← Nat.mul_assoc, Nat.mul_comm b c]
theorem vl_lt (b : Nat) (l : List Nat) (h : ∀ x ∈ l, x < b) : vl b l < b ^ l.length := by
  induction l with
  | nil => simp [vl]
  | cons x r ih =>
    have hx := h x (by simp)
    have hr := ih (fun y hy => h y (by simp [hy]))
    rw [vl, List.length_cons, Nat.pow_succ, Nat.mul_comm (b ^ r.length) b]
    have := Nat.mul_le_mul_left b (show vl b r + 1 ≤ b ^ r.length from hr)
    rw [Nat.mul_add] at this
    omega

/-- the prime -/
def Pp : Nat := 1361129467683753853853498429727072845819
/-- what stands above 2^130, five times below it -/
def fd (v : Nat) : Nat := v % 1361129467683753853853498429727072845824 + 5 * (v / 1361129467683753853853498429727072845824)
theorem fd_mod (v : Nat) : fd v % Pp = v % Pp := by
  have e : v = fd v + Pp * (v / 1361129467683753853853498429727072845824) := by unfold fd Pp; omega
  conv => rhs; rw [e]
  rw [Nat.add_mul_mod_self_left]
theorem fd_lt (v : Nat) (h : v < 23384026197294446691258957323460528314494920687616) : fd v < 1361129467683753853853498429813000000000 := by unfold fd; omega
theorem fd_fd_lt (v : Nat) (h : v < 23384026197294446691258957323460528314494920687616) : fd (fd v) < 1361129467683753853853498429727072845824 := by
  have := fd_lt v h
  generalize fd v = u at this
  unfold fd
  omega
theorem fd_self (v : Nat) (h : v < 1361129467683753853853498429727072845824) : fd v = v := by unfold fd; omega
theorem fd_less (v : Nat) (h : 1361129467683753853853498429727072845824 ≤ v) : fd v < v := by unfold fd; omega

/-- bytes as a number, the lowest first -/
def numL (l : List UInt8) : Nat := vl 256 (l.map UInt8.toNat)
theorem numL_lt (l : List UInt8) : numL l < 256 ^ l.length := by
  have := vl_lt 256 (l.map UInt8.toNat) (by
    intro x hx
    obtain ⟨y, _, rfl⟩ := List.mem_map.1 hx
    exact y.toNat_lt)
  rwa [List.length_map] at this
theorem numL_append (l r : List UInt8) : numL (l ++ r) = numL l + 256 ^ l.length * numL r := by
  unfold numL
  rw [List.map_append, vl_append, List.length_map]
theorem numL_zeros (n : Nat) : numL (List.replicate n 0) = 0 := by
  unfold numL
  rw [List.map_replicate]
  exact vl_replicate _ _
theorem numL_pad (l : List UInt8) (n : Nat) : numL (l ++ List.replicate n 0) = numL l := by rw [numL_append, numL_zeros]; omega
/-- a number as so many bytes -/
def bytL (n v : Nat) : List UInt8 := (dg 256 n v).map UInt8.ofNat
theorem bytL_length (n v : Nat) : (bytL n v).length = n := by simp [bytL, dg_length]
theorem ofNat_toNat (x : Nat) (h : x < 256) : (UInt8.ofNat x).toNat = x := by rw [UInt8.toNat_ofNat']; omega
theorem bytL_nat (n v : Nat) : (bytL n v).map UInt8.toNat = dg 256 n v := by
  unfold bytL
  rw [List.map_map]
  have : ∀ l : List Nat, (∀ x ∈ l, x < 256) → l.map (UInt8.toNat ∘ UInt8.ofNat) = l := by
    intro l h
    induction l with
    | nil => rfl
    | cons x r ih => simp only [List.map_cons, Function.comp, ofNat_toNat x (h x (by simp))]; rw [ih (fun y hy => h y (by simp [hy]))]
  exact this _ (dg_lt _ _ _ (by omega))
theorem numL_bytL (n v : Nat) : numL (bytL n v) = v % 256 ^ n := by rw [numL, bytL_nat, vl_dg]
theorem bytL_numL (l : List UInt8) : bytL l.length (numL l) = l := by
  have h := dg_vl 256 (l.map UInt8.toNat) (by
    intro x hx
    obtain ⟨y, _, rfl⟩ := List.mem_map.1 hx
    exact y.toNat_lt)
  rw [List.length_map] at h
  unfold bytL numL
  rw [h, List.map_map]
  conv => rhs; rw [← List.map_id l]
  congr 1
  funext x
  simp

/-- one block -/
def pstep (r a : Nat) (blk : List UInt8) : Nat := (a + numL (blk ++ [1])) * r % Pp
/-- so many blocks of a text -/
def accN (r : Nat) (l : List UInt8) : Nat → Nat
  | 0 => 0
  | k + 1 => pstep r (accN r l k) ((l.drop (16 * k)).take 16)
theorem accN_append (r : Nat) (l x : List UInt8) (k : Nat) (h : 16 * k ≤ l.length) : accN r (l ++ x) k = accN r l k := by
  induction k with
  | zero => rfl
  | succ k ih =>
    rw [accN, accN, ih (by omega), List.drop_append_of_le_length (by omega), List.take_append_of_le_length (by rw [List.length_drop]; omega)]
theorem accN_lt (r : Nat) (l : List UInt8) (k : Nat) : accN r l k < Pp := by
  cases k with
  | zero => exact (by decide : 0 < Pp)
  | succ k => exact Nat.mod_lt _ (by decide)
def keptL : List UInt8 := [255, 255, 255, 15, 252, 255, 255, 15, 252, 255, 255, 15, 252, 255, 255, 15]
/-- the first half of a key, without the bits that are taken as 0 -/
def clampL (key : List UInt8) : List UInt8 := List.zipWith (· &&& ·) (key.take 16) keptL
def rOf (key : List UInt8) : Nat := numL (clampL key)
def sOf (key : List UInt8) : Nat := numL (key.drop 16)
def tagN (r s : Nat) (l : List UInt8) : Nat := accN r l ((l.length + 15) / 16) + s
def tagL (key l : List UInt8) : List UInt8 := bytL 16 (tagN (rOf key) (sOf key) l)
theorem tagL_length (key l : List UInt8) : (tagL key l).length = 16 := bytL_length _ _
theorem clampL_length (key : List UInt8) (h : 16 ≤ key.length) : (clampL key).length = 16 := by
  rw [clampL, List.length_zipWith, List.length_take, Nat.min_eq_left h]
  rfl
theorem rOf_lt (key : List UInt8) (h : 16 ≤ key.length) : rOf key < 340282366920938463463374607431768211456 := by
  have := numL_lt (clampL key)
  rw [clampL_length key h] at this
  exact this
theorem sOf_lt (key : List UInt8) (h : key.length = 32) : sOf key < 340282366920938463463374607431768211456 := by
  have := numL_lt (key.drop 16)
  rw [List.length_drop, h] at this
  exact this

end Go.Proofs.YtggfeppphhigdabDoor
