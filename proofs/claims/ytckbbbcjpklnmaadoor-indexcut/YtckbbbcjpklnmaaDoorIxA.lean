import Derived.Test.YtckbbbcjpklnmaaDoorPaA
namespace Go.Proofs.YtckbbbcjpklnmaaDoor.Ix
open Go.RowKit Go.Lib

/-! a configuration -/
structure Cf where
  sl : Int
  fl : Int
  dr : Int
  mf : Int
  ls : Int
  pg : Int
structure Cn where
  sl : Nat
  fl : Nat
  dr : Nat
  mf : Nat
  ls : Nat
  pg : Nat
def Cn.cf (c : Cn) : Cf := ⟨c.sl, c.fl, c.dr, c.mf, c.ls, c.pg⟩
def Cf.n (c : Cf) : Cn := ⟨c.sl.toNat, c.fl.toNat, c.dr.toNat, c.mf.toNat, c.ls.toNat, c.pg.toNat⟩
def Cn.rows (c : Cn) : Nat := c.fl + c.sl
def Cn.len (c : Cn) : Nat := 36 * c.dr + 40 * c.fl + 44 * (c.fl + c.sl) + 4
def Cn.body (c : Cn) : Nat := c.pg - 5
def Cn.pgs (c : Cn) : Nat := (c.len + c.body - 1) / c.body
def Cf.In (c : Cf) : Prop := 1 ≤ c.sl ∧ c.sl ≤ 64 ∧ 1 ≤ c.fl ∧ c.fl ≤ 65536 ∧ 0 ≤ c.dr ∧ c.dr ≤ 4096 ∧ 0 ≤ c.mf ∧ c.mf ≤ 65536 ∧ 16 ≤ c.ls ∧ c.ls ≤ 65536 ∧ 64 ≤ c.pg ∧ c.pg ≤ 65536
def Cn.In (c : Cn) : Prop := 1 ≤ c.sl ∧ c.sl ≤ 64 ∧ 1 ≤ c.fl ∧ c.fl ≤ 65536 ∧ c.dr ≤ 4096 ∧ c.mf ≤ 65536 ∧ 16 ≤ c.ls ∧ c.ls ≤ 65536 ∧ 64 ≤ c.pg ∧ c.pg ≤ 65536
def Cn.May (c : Cn) : Prop := c.In ∧ c.pgs ≤ 1024
def Cf.May (c : Cf) : Prop := c.In ∧ c.n.pgs ≤ 1024
instance (c : Cf) : Decidable c.In := by unfold Cf.In; infer_instance
instance (c : Cf) : Decidable c.May := by unfold Cf.May; infer_instance
theorem Cf.In.cn {c : Cf} (h : c.In) : c = c.n.cf ∧ c.n.In := by
  obtain ⟨sl, fl, dr, mf, ls, pg⟩ := c
  simp only [Cf.In] at h
  simp only [Cf.n, Cn.cf, Cn.In, Cf.mk.injEq]
  omega
theorem Cn.cf_n (c : Cn) : c.cf.n = c := by
  obtain ⟨sl, fl, dr, mf, ls, pg⟩ := c
  simp [Cf.n, Cn.cf]
theorem Cn.In.cf {c : Cn} (h : c.In) : c.cf.In := by
  obtain ⟨sl, fl, dr, mf, ls, pg⟩ := c
  simp only [Cn.In] at h
  simp only [Cn.cf, Cf.In]
  omega
theorem Cn.May.cf {c : Cn} (h : c.May) : c.cf.May := ⟨h.1.cf, by rw [Cn.cf_n]; exact h.2⟩
theorem Cf.May.cn {c : Cf} (h : c.May) : ∃ n : Cn, n.May ∧ c = n.cf := ⟨c.n, ⟨h.1.cn.2, h.2⟩, h.1.cn.1⟩
theorem Cn.cf_inj {c d : Cn} (h : c.cf = d.cf) : c = d := by rw [← c.cf_n, h, d.cf_n]
theorem cn_of {c : Cf} (h : c.In) : ∃ n : Cn, n.In ∧ c = n.cf := ⟨c.n, h.cn.2, h.cn.1⟩
theorem may_iff (c : Cn) (h : c.In) : c.cf.May ↔ c.pgs ≤ 1024 := by
  unfold Cf.May
  rw [Cn.cf_n]
  exact ⟨fun x => x.2, fun x => ⟨h.cf, x⟩⟩
theorem Cn.In.len {c : Cn} (h : c.In) : 132 ≤ c.len ∧ c.len ≤ 5655300 ∧ 59 ≤ c.body ∧ c.body ≤ 65531 ∧ c.body + 5 = c.pg := by
  obtain ⟨sl, fl, dr, mf, ls, pg⟩ := c
  simp only [Cn.In] at h
  simp only [Cn.len, Cn.body]
  omega
/-- as few pages as hold the image -/
theorem Cn.In.fit {c : Cn} (h : c.In) : c.len ≤ c.pgs * c.body ∧ c.pgs * c.body < c.len + c.body ∧ 1 ≤ c.pgs := by
  obtain ⟨h1, h2, h3, h4, h5⟩ := h.len
  unfold Cn.pgs
  have h6 := Nat.div_add_mod (c.len + c.body - 1) c.body
  have h7 := Nat.mod_lt (c.len + c.body - 1) (show 0 < c.body by omega)
  rw [Nat.mul_comm] at h6
  refine ⟨by omega, by omega, ?_⟩
  exact (Nat.le_div_iff_mul_le (by omega)).2 (by omega)
theorem pgs_iff {c : Cn} (h : c.In) {m : Nat} (h1 : c.len ≤ m * c.body) (h2 : (m - 1) * c.body < c.len) (h0 : 1 ≤ m) : m = c.pgs := by
  obtain ⟨a1, a2, a3⟩ := h.fit
  obtain ⟨b1, b2, b3, b4, b5⟩ := h.len
  rcases Nat.lt_trichotomy m c.pgs with h3 | h3 | h3
  · have : (m + 1) * c.body ≤ c.pgs * c.body := Nat.mul_le_mul_right _ h3
    rw [Nat.add_mul] at this
    omega
  · exact h3
  · have : c.pgs * c.body ≤ (m - 1) * c.body := Nat.mul_le_mul_right _ (by omega)
    omega

/-! numbers, the highest byte first -/
def bgL : Nat → Nat → List UInt8
  | 0, _ => []
  | k + 1, n => UInt8.ofNat (n / 256 ^ k % 256) :: bgL k n
def nuL (l : List UInt8) : Nat := l.foldl (fun a b => a * 256 + b.toNat) 0
theorem bgL_len : ∀ k n, (bgL k n).length = k
  | 0, _ => rfl
  | k + 1, n => by rw [bgL, List.length_cons, bgL_len k n]
theorem nuL_one (l : List UInt8) (b : UInt8) : nuL (l ++ [b]) = nuL l * 256 + b.toNat := by simp [nuL]
theorem fold_bgL : ∀ (k n a : Nat), (bgL k n).foldl (fun a b => a * 256 + b.toNat) a = a * 256 ^ k + n % 256 ^ k
  | 0, n, a => by simp [bgL, Nat.mod_one]
  | k + 1, n, a => by
    rw [bgL, List.foldl_cons, fold_bgL k n, show (UInt8.ofNat (n / 256 ^ k % 256)).toNat = n / 256 ^ k % 256 by simp, Nat.pow_succ, Nat.mod_mul, Nat.add_mul]
    rw [Nat.mul_comm (n / 256 ^ k % 256), Nat.mul_assoc, Nat.mul_comm 256]
    omega
theorem nuL_bgL (k n : Nat) (h : n < 256 ^ k) : nuL (bgL k n) = n := by
  unfold nuL
  rw [fold_bgL, Nat.mod_eq_of_lt h]
  omega
theorem fold_from : ∀ (l : List UInt8) (a : Nat), l.foldl (fun a b => a * 256 + b.toNat) a = a * 256 ^ l.length + nuL l
  | [], a => by simp [nuL]
  | x :: l, a => by
    show l.foldl _ (a * 256 + x.toNat) = _ + l.foldl _ (0 * 256 + x.toNat)
    rw [fold_from l, fold_from l, List.length_cons, Nat.pow_succ, Nat.zero_mul, Nat.zero_add, Nat.add_mul, Nat.mul_assoc, Nat.mul_comm 256]
    omega
theorem nuL_cons (b : UInt8) (l : List UInt8) : nuL (b :: l) = b.toNat * 256 ^ l.length + nuL l := by
  show l.foldl _ (0 * 256 + b.toNat) = _
  rw [fold_from, Nat.zero_mul, Nat.zero_add]
theorem nuL_lt : ∀ (l : List UInt8), nuL l < 256 ^ l.length
  | [] => by decide
  | b :: l => by
    rw [nuL_cons, List.length_cons, Nat.pow_succ]
    have h1 := nuL_lt l
    have h2 : (b.toNat + 1) * 256 ^ l.length ≤ 256 * 256 ^ l.length := Nat.mul_le_mul_right _ b.toNat_lt
    rw [Nat.add_mul, Nat.mul_comm 256] at h2
    omega
theorem bgL_mod : ∀ k n m, n % 256 ^ k = m % 256 ^ k → bgL k n = bgL k m
  | 0, n, m, _ => rfl
  | k + 1, n, m, h => by
    rw [bgL, bgL]
    have h4 : n % 256 ^ k = m % 256 ^ k := by
      have := congrArg (· % 256 ^ k) h
      simp only [Nat.pow_succ, Nat.mod_mul_right_mod] at this
      exact this
    rw [bgL_mod k n m h4]
    rw [Nat.pow_succ, Nat.mod_mul, Nat.mod_mul, h4] at h
    have h5 : 256 ^ k * (n / 256 ^ k % 256) = 256 ^ k * (m / 256 ^ k % 256) := by omega
    rw [Nat.eq_of_mul_eq_mul_left (Nat.pos_of_ne_zero (by simp)) h5]
theorem bgL_nuL : ∀ (l : List UInt8), bgL l.length (nuL l) = l
  | [] => rfl
  | b :: l => by
    have hl := nuL_lt l
    have hp : 0 < 256 ^ l.length := Nat.pos_of_ne_zero (by simp)
    have h2 : nuL (b :: l) / 256 ^ l.length % 256 = b.toNat := by
      rw [nuL_cons, Nat.mul_comm, Nat.mul_add_div hp, Nat.div_eq_of_lt hl, Nat.add_zero]
      exact Nat.mod_eq_of_lt b.toNat_lt
    rw [List.length_cons, bgL, h2, bgL_mod l.length (nuL (b :: l)) (nuL l) (by rw [nuL_cons, Nat.mul_comm, Nat.mul_add_mod]), bgL_nuL l]
    simp

/-! rows -/
structure Nd where
  kd : Int
  nu : Int
  pa : Int
  nm : ByteArray
  sz : Int
structure Ob where
  nm : ByteArray
  tg : ByteArray
  bk : Int
  ow : Int
structure Rf where
  nm : ByteArray
  tg : ByteArray
def e0 : ByteArray := { data := #[] }
def zN : Nd := ⟨0, 0, 0, e0, 0⟩
def z0 (n : Nat) : List UInt8 := List.replicate n 0
def nodeL (n : Nd) : List UInt8 := 1 :: (bgL 2 n.pa.toNat ++ (bgL 1 n.nm.size ++ (n.nm.data.toList ++ z0 (32 - n.nm.size))))
def dirL (n : Nd) : List UInt8 := if n.kd = 0 then z0 36 else nodeL n
def filL (n : Nd) : List UInt8 := dirL n ++ bgL 4 n.sz.toNat
def objL (o : Ob) : List UInt8 := o.nm.data.toList ++ (o.tg.data.toList ++ (bgL 4 o.bk.toNat ++ bgL 4 (o.ow + 1).toNat))
def queL (q : Int) : List UInt8 := bgL 4 q.toNat
def refL (r : Rf) : List UInt8 := r.nm.data.toList ++ r.tg.data.toList

/-! what fits -/
def plc (c : Cn) (n : Nd) : Int := if n.kd = 1 then n.nu else c.dr + 1 + n.nu
def NdF (c : Cn) (n : Nd) : Prop := (n.kd = 1 ∧ 1 ≤ n.nu ∧ n.nu ≤ c.dr ∧ n.sz = 0 ∨ n.kd = 2 ∧ 0 ≤ n.nu ∧ n.nu < c.fl ∧ 0 ≤ n.sz ∧ n.sz ≤ c.mf) ∧ 0 ≤ n.pa ∧ n.pa ≤ c.dr ∧ Pa.nm n.nm = true
instance (c : Cn) (n : Nd) : Decidable (NdF c n) := by unfold NdF; infer_instance
def risB (c : Cn) : Int → List Nd → Bool
  | _, [] => true
  | l, n :: r => (decide (NdF c n) && decide (l < plc c n)) && risB c (plc c n) r
def treeB (c : Cn) (f d : Int) (T : List Nd) : Bool := decide (f = c.fl ∧ d = c.dr) && risB c 0 T
def ObF (c : Cn) (o : Ob) : Prop := o.nm.size = 16 ∧ o.tg.size = 16 ∧ 0 ≤ o.bk ∧ o.bk ≤ 1048576 ∧ -1 ≤ o.ow ∧ o.ow < c.fl
instance (c : Cn) (o : Ob) : Decidable (ObF c o) := by unfold ObF; infer_instance
def poolB (c : Cn) (O : List Ob) (Q : List Int) : Bool := decide (O.length = c.rows ∧ Q.length ≤ c.rows) && (O.all (fun o => decide (ObF c o)) && Q.all (fun q => decide (0 ≤ q ∧ q < c.rows)))

/-! the image -/
def slot (c : Cn) (T : List Nd) (p : Int) : Nd := (T.find? (fun n => plc c n == p)).getD zN
def dirsL (c : Cn) (T : List Nd) : List Nd := (List.range c.dr).map fun (k : Nat) => slot c T ((k : Int) + 1)
def filsL (c : Cn) (T : List Nd) : List Nd := (List.range c.fl).map fun (k : Nat) => slot c T (c.dr + 1 + (k : Int))
def cntL (c : Cn) (Q : List Int) : List Int := (Q.length : Int) :: (Q ++ List.replicate (c.rows - Q.length) 0)
def imgL (c : Cn) (T : List Nd) (O : List Ob) (Q : List Int) : List UInt8 := (dirsL c T).flatMap dirL ++ ((filsL c T).flatMap filL ++ (O.flatMap objL ++ (cntL c Q).flatMap queL))
def whoL (c : Cn) (T : List Nd) (O : List Ob) (Q : List Int) : List UInt8 := imgL c T O Q ++ z0 (c.pgs * c.body - c.len)
def seg (I : List UInt8) (a n : Nat) : List UInt8 := (I.drop a).take n
def cutL (b m : Nat) (L : List UInt8) : List ByteArray := (List.range m).map fun i => str (seg L (i * b) b)

/-! what is read -/
def rdN (row : List UInt8) (kd : Int) : Nd := if row.getD 0 0 = 0 then zN else ⟨kd, 0, (nuL (seg row 1 2) : Int), str (seg row 4 (min (row.getD 3 0).toNat 32)), 0⟩
def rdD (row : List UInt8) : Nd := rdN row 1
def rdF (row : List UInt8) : Nd := { rdN row 2 with sz := (nuL (seg row 36 4) : Int) }
def rdO (row : List UInt8) : Ob := ⟨str (seg row 0 16), str (seg row 16 16), (nuL (seg row 32 4) : Int), (nuL (seg row 36 4) : Int) - 1⟩
def rdR (row : List UInt8) : Rf := ⟨str (seg row 0 16), str (seg row 16 16)⟩
def numd : Int → List Nd → List Nd
  | _, [] => []
  | f, n :: r => if n.kd = 0 then numd (f + 1) r else { n with nu := f } :: numd (f + 1) r
def rowsA (I : List UInt8) (start size count : Nat) : List (List UInt8) := (List.range count).map fun i => seg I (start + i * size) size
def rdT (c : Cn) (I : List UInt8) : List Nd := numd 1 ((rowsA I 0 36 c.dr).map rdD) ++ numd 0 ((rowsA I (36 * c.dr) 40 c.fl).map rdF)
def rdP (c : Cn) (I : List UInt8) : List Ob := (rowsA I (36 * c.dr + 40 * c.fl) 40 c.rows).map rdO
def rdL (c : Cn) (I : List UInt8) : List Int := (rowsA I (36 * c.dr + 40 * c.fl + 40 * c.rows) 4 (1 + c.rows)).map fun r => (nuL r : Int)
def rdQ (c : Cn) (I : List UInt8) : List Int := (rdL c I).tail.take ((rdL c I).headD 0).toNat
end Go.Proofs.YtckbbbcjpklnmaaDoor.Ix
