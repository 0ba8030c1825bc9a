import Derived.Test.YtjjabkimmgcejaaDoorLawsB
namespace Go.Proofs.YtjjabkimmgcejaaDoor
open Go.RowKit Go.Lib

/-- a digit -/
def dig (n : Nat) : UInt8 := if n < 10 then UInt8.ofNat (48 + n) else UInt8.ofNat (87 + n)
/-- is it one? -/
def isDig (c : UInt8) : Bool := decide (48 ≤ c.toNat ∧ c.toNat ≤ 57 ∨ 97 ≤ c.toNat ∧ c.toNat ≤ 102)
/-- its value -/
def digVal (c : UInt8) : Nat := if c.toNat ≤ 57 then c.toNat - 48 else c.toNat - 87

theorem dig_is (n : Nat) (h : n < 16) : isDig (dig n) = true := by
  revert n
  decide
theorem dig_val (n : Nat) (h : n < 16) : digVal (dig n) = n := by
  revert n
  decide
theorem val_lt (c : UInt8) (h : isDig c = true) : digVal c < 16 := by
  simp only [isDig, decide_eq_true_eq] at h
  unfold digVal
  split <;> omega
theorem dig_digVal (c : UInt8) (h : isDig c = true) : dig (digVal c) = c := by
  simp only [isDig, decide_eq_true_eq] at h
  apply UInt8.toNat_inj.1
  unfold dig digVal
  have := c.toNat_lt
  split <;> split <;> simp [UInt8.toNat_ofNat'] <;> omega

/-- two digits a byte -/
def hexL : List UInt8 → List UInt8
  | [] => []
  | b :: r => dig (b.toNat / 16) :: dig (b.toNat % 16) :: hexL r

theorem hexL_length (l : List UInt8) : (hexL l).length = 2 * l.length := by
  induction l with
  | nil => rfl
  | cons b r ih => simp [hexL, ih]; omega

theorem hexL_append (l r : List UInt8) : hexL (l ++ r) = hexL l ++ hexL r := by
  induction l with
  | nil => rfl
  | cons b l ih => simp [hexL, ih]

theorem hexL_isDig (l : List UInt8) : ∀ c ∈ hexL l, isDig c = true := by
  induction l with
  | nil => intro c h; simp [hexL] at h
  | cons b r ih =>
    intro c h
    have := b.toNat_lt
    simp only [hexL, List.mem_cons] at h
    rcases h with rfl | rfl | h
    · exact dig_is _ (by omega)
    · exact dig_is _ (by omega)
    · exact ih c h

/-- pairs of digits as bytes -/
def unL : List UInt8 → List UInt8
  | a :: b :: r => UInt8.ofNat (16 * digVal a + digVal b) :: unL r
  | _ => []

theorem unL_hexL (l : List UInt8) : unL (hexL l) = l := by
  induction l with
  | nil => rfl
  | cons b r ih =>
    have := b.toNat_lt
    simp only [hexL, unL, ih, List.cons.injEq, and_true]
    rw [dig_val _ (by omega), dig_val _ (by omega)]
    apply UInt8.toNat_inj.1
    simp [UInt8.toNat_ofNat']
    omega

theorem unL_length : ∀ (l : List UInt8), (unL l).length = l.length / 2
  | [] => rfl
  | [_] => by simp [unL]
  | _ :: _ :: r => by simp [unL, unL_length r]; omega

theorem unL_append (l r : List UInt8) (h : l.length % 2 = 0) : unL (l ++ r) = unL l ++ unL r := by
  induction l using unL.induct with
  | case1 a b t ih => simp only [List.cons_append, unL, ih (by simp at h; omega)]
  | case2 l hl =>
    match l, h with
    | [], _ => rfl
    | [_], h => simp at h
    | a :: b :: t, _ => exact absurd rfl (hl a b t)

theorem hexL_unL (l : List UInt8) (h : l.length % 2 = 0) (hd : ∀ c ∈ l, isDig c = true) : hexL (unL l) = l := by
  induction l using unL.induct with
  | case1 a b t ih =>
    have ha := hd a (by simp)
    have hb := hd b (by simp)
    have h1 := val_lt a ha
    have h2 := val_lt b hb
    have e : (UInt8.ofNat (16 * digVal a + digVal b)).toNat = 16 * digVal a + digVal b := by simp [UInt8.toNat_ofNat']; omega
    simp only [unL, hexL, e]
    rw [show (16 * digVal a + digVal b) / 16 = digVal a by omega, show (16 * digVal a + digVal b) % 16 = digVal b by omega, dig_digVal a ha, dig_digVal b hb,
      ih (by simp at h; omega) (fun c hc => hd c (by simp [hc]))]
  | case2 l hl =>
    match l, h with
    | [], _ => rfl
    | [_], h => simp at h
    | a :: b :: t, _ => exact absurd rfl (hl a b t)

/-- the text as a string of the program's -/
def str (l : List UInt8) : ByteArray := ⟨l.toArray⟩
theorem str_size (l : List UInt8) : (str l).size = l.length := by simp [str, ByteArray.size]
theorem str_toList (l : List UInt8) : (str l).toList = l := by rw [toList_data]; simp [str]
theorem str_data (l : List UInt8) : (str l).data.toList = l := by simp [str]
theorem str_of (s : ByteArray) : str s.data.toList = s := by simp [str]

def hexS (s : ByteArray) : ByteArray := str (hexL s.data.toList)

/-- is there a text whose Hex it is? -/
def unOK (l : List UInt8) : Bool := decide (l.length % 2 = 0) && l.all isDig
def unS (s : ByteArray) : ByteArray := if unOK s.data.toList then str (unL s.data.toList) else ByteArray.empty
def unE (s : ByteArray) : Int := if unOK s.data.toList then 0 else 20

theorem take_succ_of (l : List UInt8) (k : Nat) (c : UInt8) (h : l[k]? = some c) : l.take (k + 1) = l.take k ++ [c] := by
  rw [List.take_add_one, h]
  rfl

theorem hexL_take (l : List UInt8) (k : Nat) (c : UInt8) (h : l[k]? = some c) : hexL (l.take (k + 1)) = hexL (l.take k) ++ [dig (c.toNat / 16), dig (c.toNat % 16)] := by
  rw [take_succ_of l k c h, hexL_append]
  rfl

theorem unL_take (l : List UInt8) (k : Nat) (a b : UInt8) (ha : l[2 * k]? = some a) (hb : l[2 * k + 1]? = some b) :
    unL (l.take (2 * (k + 1))) = unL (l.take (2 * k)) ++ [UInt8.ofNat (16 * digVal a + digVal b)] := by
  have hlt : 2 * k + 1 < l.length := (List.getElem?_eq_some_iff.1 hb).1
  rw [show 2 * (k + 1) = 2 * k + 1 + 1 by omega, take_succ_of l _ b hb, take_succ_of l _ a ha, List.append_assoc, unL_append _ _ (by simp; omega)]
  rfl

/-- the sixteen digits, as the program holds them -/
def digs : ByteArray := { data := #[48, 49, 50, 51, 52, 53, 54, 55, 56, 57, 97, 98, 99, 100, 101, 102] }
theorem digs_at (n : Nat) (h : n < 16) : digs.data[n]? = some (dig n) := by
  revert n
  decide

theorem index_at {P : Program} (w : World) (t : TypeId) (s : ByteArray) (k : IntKind) (i : Nat) (c : UInt8) (h : P.underlying t = some .string) (hc : s.data.toList[i]? = some c) :
    (Instr.index t (.string s) (.int k (i : Int))).run P w = .ok (.int .u8 (c.toNat : Int)) w := by
  have hi : i < s.size := by
    have := (List.getElem?_eq_some_iff.1 hc).1
    simpa using this
  rw [run_index_string w t s k i h, dif_pos (by omega)]
  have e : s[(i : Int).toNat]'(by omega) = c := by
    have h2 := (List.getElem?_eq_some_iff.1 hc).2
    rw [← h2]
    simp [ByteArray.getElem_eq_getElem_data]
  rw [e]

end Go.Proofs.YtjjabkimmgcejaaDoor
