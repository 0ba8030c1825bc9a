import Derived.Test.YtbjiamaaocjbfaaDoorBaseM
import Derived.Lib.ItoaNum
import Derived.Test.YtbjiamaaocjbfaaDoorShM2
import Derived.Lib.DecodeN
import Derived.Laws.RangeAny
namespace Go.Proofs.YtbjiamaaocjbfaaDoor.Kr
open Go.RowKit Go.Lib

/-- a text cut at a byte: the parts ahead of each, and what is left -/
def step (c : UInt8) (s : List (List UInt8) × List UInt8) (x : UInt8) : List (List UInt8) × List UInt8 := if x = c then (s.1 ++ [s.2], []) else (s.1, s.2 ++ [x])
def cutS (c : UInt8) (l : List UInt8) : List (List UInt8) × List UInt8 := l.foldl (step c) ([], [])
/-- the parts, each with the byte behind it -/
def glue (c : UInt8) (ps : List (List UInt8)) : List UInt8 := (ps.map fun p => p ++ [c]).flatten
theorem glue_append (c : UInt8) (a b : List (List UInt8)) : glue c (a ++ b) = glue c a ++ glue c b := by simp [glue]
theorem glue_cons (c : UInt8) (a : List UInt8) (b : List (List UInt8)) : glue c (a :: b) = a ++ [c] ++ glue c b := by simp [glue]
theorem fold_cut (c : UInt8) (l : List UInt8) (ps : List (List UInt8)) (r : List UInt8) (hp : ∀ p ∈ ps, c ∉ p) (hr : c ∉ r) :
    glue c (l.foldl (step c) (ps, r)).1 ++ (l.foldl (step c) (ps, r)).2 = glue c ps ++ r ++ l ∧ (∀ p ∈ (l.foldl (step c) (ps, r)).1, c ∉ p) ∧ c ∉ (l.foldl (step c) (ps, r)).2 := by
  induction l generalizing ps r with
  | nil => exact ⟨by simp, hp, hr⟩
  | cons x l ih =>
    rw [List.foldl_cons]
    by_cases h : x = c
    · have e : step c (ps, r) x = (ps ++ [r], []) := by simp [step, h]
      rw [e]
      obtain ⟨h1, h2, h3⟩ := ih (ps ++ [r]) [] (fun p hp' => by
        rcases List.mem_append.1 hp' with h' | h'
        · exact hp p h'
        · simp at h'; subst h'; exact hr) (by simp)
      refine ⟨?_, h2, h3⟩
      rw [h1, glue_append, h]
      simp [glue]
    · have e : step c (ps, r) x = (ps, r ++ [x]) := by simp [step, h]
      rw [e]
      obtain ⟨h1, h2, h3⟩ := ih ps (r ++ [x]) hp (by simp; exact ⟨hr, fun e => h e.symm⟩)
      exact ⟨by rw [h1]; simp, h2, h3⟩
theorem cut_glue (c : UInt8) (l : List UInt8) : glue c (cutS c l).1 ++ (cutS c l).2 = l ∧ (∀ p ∈ (cutS c l).1, c ∉ p) ∧ c ∉ (cutS c l).2 := by
  have h := fold_cut c l [] [] (by simp) (by simp)
  rw [show glue c [] ++ [] ++ l = l by simp [glue]] at h
  exact h
theorem fold_free (c : UInt8) (p : List UInt8) (hp : c ∉ p) (s : List (List UInt8) × List UInt8) : p.foldl (step c) s = (s.1, s.2 ++ p) := by
  induction p generalizing s with
  | nil => simp
  | cons x p ih =>
    rw [List.foldl_cons, ih (fun h => hp (List.mem_cons_of_mem _ h))]
    have : x ≠ c := fun e => hp (by simp [e])
    simp [step, this]
theorem cut_of (c : UInt8) (ps : List (List UInt8)) (r : List UInt8) (hp : ∀ p ∈ ps, c ∉ p) (hr : c ∉ r) : cutS c (glue c ps ++ r) = (ps, r) := by
  have key : ∀ (ps qs : List (List UInt8)), (∀ p ∈ ps, c ∉ p) → (glue c ps).foldl (step c) (qs, []) = (qs ++ ps, []) := by
    intro ps
    induction ps with
    | nil => intro qs _; simp [glue]
    | cons a ps ih =>
      intro qs h
      rw [glue_cons, List.foldl_append, List.foldl_append, fold_free c a (h a (by simp))]
      have e : [c].foldl (step c) (qs, [] ++ a) = (qs ++ [a], []) := by simp [step]
      rw [e, ih _ (fun p hp => h p (List.mem_cons_of_mem _ hp))]
      simp
  unfold cutS
  rw [List.foldl_append, key ps [] hp, fold_free c r hr]
  simp
theorem cut_take (c : UInt8) (l : List UInt8) (k : Nat) (x : UInt8) (h : l[k]? = some x) : cutS c (l.take (k + 1)) = step c (cutS c (l.take k)) x := by
  unfold cutS
  rw [List.take_add_one, h, List.foldl_append]
  rfl
theorem cut_rest (c : UInt8) (l : List UInt8) : (cutS c l).2.length ≤ l.length := by
  have h := congrArg List.length (cut_glue c l).1
  rw [List.length_append] at h
  omega
/-- what is left lies at the end -/
theorem cut_drop (c : UInt8) (l : List UInt8) : l.drop (l.length - (cutS c l).2.length) = (cutS c l).2 := by
  have h := (cut_glue c l).1
  have hl := congrArg List.length h
  rw [List.length_append] at hl
  have e : l.length - (cutS c l).2.length = (glue c (cutS c l).1).length := by omega
  rw [e]
  have h2 : (glue c (cutS c l).1 ++ (cutS c l).2).drop (glue c (cutS c l).1).length = (cutS c l).2 := by simp
  rw [h] at h2
  exact h2

def linesL (t : List UInt8) : List (List UInt8) := if (cutS 10 t).2 = [] then (cutS 10 t).1 else []
def wordsL (l : List UInt8) : List (List UInt8) := (cutS 32 l).1 ++ [(cutS 32 l).2]
theorem lines_glue {t : List UInt8} (h : linesL t ≠ []) : t = glue 10 (linesL t) ∧ ∀ p ∈ linesL t, (10 : UInt8) ∉ p := by
  unfold linesL at *
  by_cases e : (cutS 10 t).2 = []
  · rw [if_pos e] at *
    have hc := cut_glue 10 t
    rw [e, List.append_nil] at hc
    exact ⟨hc.1.symm, hc.2.1⟩
  · rw [if_neg e] at h
    exact absurd rfl h
theorem lines_of (ps : List (List UInt8)) (h : ∀ p ∈ ps, (10 : UInt8) ∉ p) : linesL (glue 10 ps) = ps := by
  have e := cut_of 10 ps [] h (by simp)
  rw [List.append_nil] at e
  unfold linesL
  rw [e]
  simp
/-- words with a blank between each two -/
def unwords : List (List UInt8) → List UInt8
  | [] => []
  | [a] => a
  | a :: b :: r => a ++ [32] ++ unwords (b :: r)
theorem unwords_snoc (ps : List (List UInt8)) (r : List UInt8) : unwords (ps ++ [r]) = glue 32 ps ++ r := by
  induction ps with
  | nil => simp [unwords, glue]
  | cons a ps ih =>
    rw [glue_cons, List.append_assoc, ← ih]
    cases ps with
    | nil => simp [unwords]
    | cons b ps => simp [unwords]
theorem words_un (l : List UInt8) : unwords (wordsL l) = l ∧ ∀ p ∈ wordsL l, (32 : UInt8) ∉ p := by
  have h := cut_glue 32 l
  unfold wordsL
  rw [unwords_snoc]
  refine ⟨h.1, fun p hp => ?_⟩
  rcases List.mem_append.1 hp with h' | h'
  · exact h.2.1 p h'
  · simp at h'; subst h'; exact h.2.2
theorem words_of (ps : List (List UInt8)) (hne : ps ≠ []) (h : ∀ p ∈ ps, (32 : UInt8) ∉ p) : wordsL (unwords ps) = ps := by
  obtain ⟨qs, r, rfl⟩ : ∃ qs r, ps = qs ++ [r] := ⟨ps.dropLast, ps.getLast hne, (List.dropLast_concat_getLast hne).symm⟩
  rw [unwords_snoc, wordsL, cut_of 32 qs r (fun p hp => h p (by simp [hp])) (h r (by simp))]

end Go.Proofs.YtbjiamaaocjbfaaDoor.Kr

namespace Go.Proofs.YtbjiamaaocjbfaaDoor.Kr
open Go.RowKit Go.Lib

def dec (n : Nat) : List UInt8 := Lib.decDigits n
def num1 (c : UInt8) : Bool := decide (48 ≤ c.toNat ∧ c.toNat ≤ 57)
def valL (s : List UInt8) : Nat := s.foldl (fun n c => 10 * n + (c.toNat - 48)) 0
/-- a number of 1 to 4 digits -/
def numOK (s : List UInt8) : Bool := decide (1 ≤ s.length ∧ s.length ≤ 4 ∧ ¬ (1 < s.length ∧ s[0]? = some 48)) && s.all num1
theorem dec_lt (n : Nat) (h : n < 10) : dec n = [UInt8.ofNat (48 + n)] := by unfold dec; rw [Lib.decDigits, dif_pos h]
theorem dec_ge (n : Nat) (h : 10 ≤ n) : dec n = dec (n / 10) ++ [UInt8.ofNat (48 + n % 10)] := by
  unfold dec
  rw [Lib.decDigits, dif_neg (by omega)]
theorem digit_eq (c : UInt8) (d : Nat) (h : c.toNat = 48 + d) : c = UInt8.ofNat (48 + d) := by
  apply UInt8.toNat_inj.1
  rw [UInt8.toNat_ofNat', h]
  have := c.toNat_lt
  omega
theorem num1_ofNat (d : Nat) (h : d < 10) : num1 (UInt8.ofNat (48 + d)) = true ∧ (UInt8.ofNat (48 + d)).toNat - 48 = d := by
  have e : (UInt8.ofNat (48 + d)).toNat = 48 + d := by rw [UInt8.toNat_ofNat']; omega
  unfold num1
  rw [e]
  exact ⟨by simp; omega, by omega⟩
theorem num1_val {c : UInt8} (h : num1 c = true) : c.toNat = 48 + (c.toNat - 48) ∧ c.toNat - 48 < 10 := by
  unfold num1 at h
  have := of_decide_eq_true h
  omega
/-- what is read as a number is how it is written -/
theorem dec_val (s : List UInt8) (h : numOK s = true) : dec (valL s) = s ∧ valL s ≤ 9999 := by
  unfold numOK at h
  rw [Bool.and_eq_true] at h
  obtain ⟨h1, h2⟩ := h
  have h1 := of_decide_eq_true h1
  rw [List.all_eq_true] at h2
  match s, h1, h2 with
  | [a], _, h2 =>
    obtain ⟨ea, la⟩ := num1_val (h2 a (by simp))
    have e : valL [a] = a.toNat - 48 := by simp [valL]
    rw [e, dec_lt _ la, ← digit_eq a _ ea]
    exact ⟨rfl, by omega⟩
  | [a, b], h1, h2 =>
    obtain ⟨ea, la⟩ := num1_val (h2 a (by simp))
    obtain ⟨eb, lb⟩ := num1_val (h2 b (by simp))
    have na : a.toNat ≠ 48 := fun e => h1.2.2 ⟨by simp, by simp; exact UInt8.toNat_inj.1 e⟩
    generalize hA : a.toNat - 48 = A at *
    generalize hB : b.toNat - 48 = B at *
    have e : valL [a, b] = 10 * A + B := by simp [valL, hA, hB]
    rw [e, dec_ge _ (by omega), show (10 * A + B) / 10 = A by omega, show (10 * A + B) % 10 = B by omega, dec_lt _ la, ← digit_eq a _ ea, ← digit_eq b _ eb]
    exact ⟨rfl, by omega⟩
  | [a, b, c], h1, h2 =>
    obtain ⟨ea, la⟩ := num1_val (h2 a (by simp))
    obtain ⟨eb, lb⟩ := num1_val (h2 b (by simp))
    obtain ⟨ec, lc⟩ := num1_val (h2 c (by simp))
    have na : a.toNat ≠ 48 := fun e => h1.2.2 ⟨by simp, by simp; exact UInt8.toNat_inj.1 e⟩
    generalize hA : a.toNat - 48 = A at *
    generalize hB : b.toNat - 48 = B at *
    generalize hC : c.toNat - 48 = C at *
    have e : valL [a, b, c] = 10 * (10 * A + B) + C := by simp [valL, hA, hB, hC]
    rw [e, dec_ge _ (by omega), show (10 * (10 * A + B) + C) / 10 = 10 * A + B by omega, show (10 * (10 * A + B) + C) % 10 = C by omega, dec_ge _ (by omega), show (10 * A + B) / 10 = A by omega, show (10 * A + B) % 10 = B by omega, dec_lt _ la, ← digit_eq a _ ea, ← digit_eq b _ eb, ← digit_eq c _ ec]
    exact ⟨rfl, by omega⟩
  | [a, b, c, d], h1, h2 =>
    obtain ⟨ea, la⟩ := num1_val (h2 a (by simp))
    obtain ⟨eb, lb⟩ := num1_val (h2 b (by simp))
    obtain ⟨ec, lc⟩ := num1_val (h2 c (by simp))
    obtain ⟨ed, ld⟩ := num1_val (h2 d (by simp))
    have na : a.toNat ≠ 48 := fun e => h1.2.2 ⟨by simp, by simp; exact UInt8.toNat_inj.1 e⟩
    generalize hA : a.toNat - 48 = A at *
    generalize hB : b.toNat - 48 = B at *
    generalize hC : c.toNat - 48 = C at *
    generalize hD : d.toNat - 48 = D at *
    have e : valL [a, b, c, d] = 10 * (10 * (10 * A + B) + C) + D := by simp [valL, hA, hB, hC, hD]
    rw [e, dec_ge _ (by omega), show (10 * (10 * (10 * A + B) + C) + D) / 10 = 10 * (10 * A + B) + C by omega, show (10 * (10 * (10 * A + B) + C) + D) % 10 = D by omega, dec_ge _ (by omega), show (10 * (10 * A + B) + C) / 10 = 10 * A + B by omega, show (10 * (10 * A + B) + C) % 10 = C by omega, dec_ge _ (by omega), show (10 * A + B) / 10 = A by omega, show (10 * A + B) % 10 = B by omega, dec_lt _ la, ← digit_eq a _ ea, ← digit_eq b _ eb, ← digit_eq c _ ec, ← digit_eq d _ ed]
    exact ⟨rfl, by omega⟩
theorem valL_snoc (s : List UInt8) (c : UInt8) : valL (s ++ [c]) = 10 * valL s + (c.toNat - 48) := by simp [valL, List.foldl_append]
theorem dec_head (n : Nat) (h : 1 ≤ n) : (dec n)[0]? ≠ some 48 ∧ (dec n).length ≠ 0 := by
  induction n using Nat.strongRecOn with
  | ind n ih =>
    by_cases hl : n < 10
    · rw [dec_lt n hl]
      refine ⟨?_, by simp⟩
      simp
      intro e
      have := congrArg UInt8.toNat e
      rw [UInt8.toNat_ofNat'] at this
      simp at this
      omega
    · obtain ⟨h1, h2⟩ := ih (n / 10) (by omega) (by omega)
      rw [dec_ge n (by omega)]
      refine ⟨?_, by simp⟩
      rw [List.getElem?_append_left (by omega)]
      exact h1
theorem dec_length (n : Nat) : (n < 10 → (dec n).length = 1) ∧ (10 ≤ n → (dec n).length = (dec (n / 10)).length + 1) := by
  refine ⟨fun h => by rw [dec_lt n h]; rfl, fun h => by rw [dec_ge n h]; simp⟩
theorem dec_all (n : Nat) : (dec n).all num1 = true ∧ valL (dec n) = n := by
  induction n using Nat.strongRecOn with
  | ind n ih =>
    by_cases hl : n < 10
    · obtain ⟨h1, h2⟩ := num1_ofNat n hl
      rw [dec_lt n hl]
      exact ⟨by rw [List.all_cons, h1]; rfl, by simp only [valL, List.foldl_cons, List.foldl_nil]; omega⟩
    · obtain ⟨h1, h2⟩ := ih (n / 10) (by omega)
      obtain ⟨h3, h4⟩ := num1_ofNat (n % 10) (by omega)
      rw [dec_ge n (by omega)]
      refine ⟨by rw [List.all_append, h1, List.all_cons, h3]; rfl, ?_⟩
      rw [valL_snoc, h2, h4]
      omega
theorem dec_len4 (n : Nat) (h : n ≤ 9999) : 1 ≤ (dec n).length ∧ (dec n).length ≤ 4 := by
  have a0 := dec_length n
  have a1 := dec_length (n / 10)
  have a2 := dec_length (n / 10 / 10)
  have a3 := dec_length (n / 10 / 10 / 10)
  omega
/-- how a number is written is read as that -/
theorem num_dec (n : Nat) (h : n ≤ 9999) : numOK (dec n) = true ∧ valL (dec n) = n := by
  obtain ⟨h1, h2⟩ := dec_all n
  obtain ⟨h3, h4⟩ := dec_len4 n h
  refine ⟨?_, h2⟩
  unfold numOK
  rw [h1, Bool.and_true]
  apply decide_eq_true
  refine ⟨h3, h4, fun hh => ?_⟩
  by_cases hn : n < 10
  · have := (dec_length n).1 hn
    omega
  · exact (dec_head n (by omega)).1 hh.2
theorem dec_free (n : Nat) (c : UInt8) (h : num1 c = false) : c ∉ dec n := fun hm => by
  have := List.all_eq_true.1 (dec_all n).1 c hm
  rw [h] at this
  cases this
theorem hex_free (l : List UInt8) (c : UInt8) (h : isDig c = false) : c ∉ hexL l := fun hm => by
  have := hexL_isDig l c hm
  rw [h] at this
  cases this

end Go.Proofs.YtbjiamaaocjbfaaDoor.Kr

namespace Go.Proofs.YtbjiamaaocjbfaaDoor.Kr
open Go.RowKit Go.Lib

structure Slot where
  salt : List UInt8
  rounds : Int
  wrapped : List UInt8
/-- "casket ring 1", "id", "slots", "slot", "sum" -/
def kHead : List UInt8 := [99, 97, 115, 107, 101, 116, 32, 114, 105, 110, 103, 32, 49]
def kId : List UInt8 := [105, 100]
def kSlots : List UInt8 := [115, 108, 111, 116, 115]
def kSlot : List UInt8 := [115, 108, 111, 116]
def kSum : List UInt8 := [115, 117, 109]
def idLine (id : List UInt8) : List UInt8 := unwords [kId, hexL id]
def slotsLine (n : Nat) : List UInt8 := unwords [kSlots, dec n]
def slotLine (s : Slot) : List UInt8 := unwords [kSlot, dec s.rounds.toNat, hexL s.salt, hexL s.wrapped]
def sumLine (sum : List UInt8) : List UInt8 := unwords [kSum, hexL sum]
/-- what is printed of a ring, ahead of its sum -/
def textL (id : List UInt8) (ss : List Slot) : List UInt8 := glue 10 ([kHead, idLine id, slotsLine ss.length] ++ ss.map slotLine)
def wholeL (id : List UInt8) (ss : List Slot) (sum : List UInt8) : List UInt8 := textL id ss ++ (sumLine sum ++ [10])
structure Fits (ss : List Slot) : Prop where
  n : ss.length ≤ 9999
  r : ∀ s ∈ ss, 0 ≤ s.rounds ∧ s.rounds ≤ 9999
/-- the text has the form of a ring, and says this -/
def Form (t id : List UInt8) (ss : List Slot) (sum : List UInt8) : Prop := t = wholeL id ss sum ∧ Fits ss

def oneL (line word : List UInt8) : Option (List UInt8) :=
  match wordsL line with
  | [a, b] => if a = word ∧ unOK b = true then some (unL b) else none
  | _ => none
def slotL (line : List UInt8) : Option Slot :=
  match wordsL line with
  | [a, b, c, d] => if a = kSlot ∧ numOK b = true ∧ unOK c = true ∧ unOK d = true then some ⟨unL c, valL b, unL d⟩ else none
  | _ => none
theorem hex_un {l : List UInt8} (h : unOK l = true) : hexL (unL l) = l := by
  unfold unOK at h
  rw [Bool.and_eq_true] at h
  exact hexL_unL l (of_decide_eq_true h.1) (List.all_eq_true.1 h.2)
theorem unOK_hexL (l : List UInt8) : unOK (hexL l) = true := by
  unfold unOK
  rw [Bool.and_eq_true]
  exact ⟨decide_eq_true (by rw [hexL_length]; omega), List.all_eq_true.2 (hexL_isDig l)⟩
theorem mem2 {c : UInt8} {p q : List UInt8} (h1 : c ∉ p) (h2 : c ∉ q) : ∀ x ∈ [p, q], c ∉ x := by
  intro x hx
  simp at hx
  rcases hx with rfl | rfl
  · exact h1
  · exact h2
theorem mem4 {c : UInt8} {p q r s : List UInt8} (h1 : c ∉ p) (h2 : c ∉ q) (h3 : c ∉ r) (h4 : c ∉ s) : ∀ x ∈ [p, q, r, s], c ∉ x := by
  intro x hx
  simp at hx
  rcases hx with rfl | rfl | rfl | rfl
  · exact h1
  · exact h2
  · exact h3
  · exact h4
theorem one_iff (line word x : List UInt8) (hw : (32 : UInt8) ∉ word) : oneL line word = some x ↔ line = unwords [word, hexL x] := by
  constructor
  · intro h
    have hu := (words_un line).1
    unfold oneL at h
    split at h
    · next a b e =>
      rw [e] at hu
      split at h
      · next hc =>
        obtain rfl := Option.some.inj h
        rw [hex_un hc.2, ← hc.1]
        exact hu.symm
      · cases h
    · cases h
  · rintro rfl
    unfold oneL
    rw [words_of _ (by simp) (mem2 (hw) (hex_free _ _ rfl))]
    simp only [unOK_hexL, unL_hexL, and_self, if_true]
theorem slot_iff (line : List UInt8) (s : Slot) : slotL line = some s ↔ line = slotLine s ∧ 0 ≤ s.rounds ∧ s.rounds ≤ 9999 := by
  constructor
  · intro h
    have hu := (words_un line).1
    unfold slotL at h
    split at h
    · next a b c d e =>
      rw [e] at hu
      split at h
      · next hc =>
        obtain rfl := Option.some.inj h
        obtain ⟨h1, h2⟩ := dec_val b hc.2.1
        refine ⟨?_, by show (0 : Int) ≤ (valL b : Int); omega, by show ((valL b : Nat) : Int) ≤ 9999; omega⟩
        unfold slotLine
        show line = unwords [kSlot, dec ((valL b : Int)).toNat, hexL (unL c), hexL (unL d)]
        rw [Int.toNat_natCast, h1, hex_un hc.2.2.1, hex_un hc.2.2.2, ← hc.1]
        exact hu.symm
      · cases h
    · cases h
  · rintro ⟨rfl, hr0, hr⟩
    unfold slotL slotLine
    obtain ⟨h1, h2⟩ := num_dec s.rounds.toNat (by omega)
    have h3 : ((s.rounds.toNat : Nat) : Int) = s.rounds := Int.toNat_of_nonneg hr0
    rw [words_of _ (by simp) (mem4 (by decide) (dec_free _ _ rfl) (hex_free _ _ rfl) (hex_free _ _ rfl))]
    simp only [unOK_hexL, unL_hexL, h1, h2, h3, and_self, if_true]
/-- slots of lines, all or none -/
def slotsL : List (List UInt8) → Option (List Slot)
  | [] => some []
  | l :: r => match slotL l, slotsL r with
    | some s, some ss => some (s :: ss)
    | _, _ => none
theorem slots_iff (ls : List (List UInt8)) (ss : List Slot) : slotsL ls = some ss ↔ ls = ss.map slotLine ∧ ∀ s ∈ ss, 0 ≤ s.rounds ∧ s.rounds ≤ 9999 := by
  induction ls generalizing ss with
  | nil =>
    constructor
    · intro h
      obtain rfl := Option.some.inj h
      simp
    · rintro ⟨h, _⟩
      cases ss with
      | nil => rfl
      | cons => cases h
  | cons l r ih =>
    constructor
    · intro h
      unfold slotsL at h
      split at h
      · next s ss' e1 e2 =>
        obtain rfl := Option.some.inj h
        obtain ⟨a1, a2⟩ := (slot_iff l s).1 e1
        obtain ⟨b1, b2⟩ := (ih ss').1 e2
        refine ⟨by rw [a1, b1]; rfl, fun x hx => ?_⟩
        rcases List.mem_cons.1 hx with rfl | hx
        · exact a2
        · exact b2 x hx
      · cases h
    · rintro ⟨h, hr⟩
      cases ss with
      | nil => cases h
      | cons s ss =>
        obtain ⟨rfl, rfl⟩ := List.cons.inj h
        unfold slotsL
        rw [(slot_iff _ s).2 ⟨rfl, hr s (by simp)⟩, (ih ss).2 ⟨rfl, fun x hx => hr x (List.mem_cons_of_mem _ hx)⟩]

theorem line_free (ps : List (List UInt8)) (h : ∀ p ∈ ps, (10 : UInt8) ∉ p) : (10 : UInt8) ∉ unwords ps := by
  induction ps with
  | nil => simp [unwords]
  | cons a ps ih =>
    cases ps with
    | nil => exact h a (by simp)
    | cons b ps =>
      have hb := ih (fun p hp => h p (List.mem_cons_of_mem _ hp))
      have ha := h a (by simp)
      rw [unwords]
      simp [ha, hb]
/-- all the lines -/
def linesOf (id : List UInt8) (ss : List Slot) (sum : List UInt8) : List (List UInt8) := [kHead, idLine id, slotsLine ss.length] ++ ss.map slotLine ++ [sumLine sum]
theorem whole_glue (id : List UInt8) (ss : List Slot) (sum : List UInt8) : wholeL id ss sum = glue 10 (linesOf id ss sum) := by
  unfold wholeL textL linesOf
  rw [glue_append]
  simp [glue]
theorem lines_whole (id : List UInt8) (ss : List Slot) (sum : List UInt8) : linesL (wholeL id ss sum) = linesOf id ss sum := by
  rw [whole_glue]
  apply lines_of
  intro p hp
  unfold linesOf at hp
  simp only [List.mem_append, List.mem_cons, List.not_mem_nil, or_false, List.mem_map] at hp
  rcases hp with ((rfl | rfl | rfl) | ⟨s, _, rfl⟩) | rfl
  · decide
  · exact line_free _ (mem2 (by decide) (hex_free _ _ rfl))
  · exact line_free _ (mem2 (by decide) (dec_free _ _ rfl))
  · exact line_free _ (mem4 (by decide) (dec_free _ _ rfl) (hex_free _ _ rfl) (hex_free _ _ rfl))
  · exact line_free _ (mem2 (by decide) (hex_free _ _ rfl))

end Go.Proofs.YtbjiamaaocjbfaaDoor.Kr

namespace Go.Proofs.YtbjiamaaocjbfaaDoor.Kr
open Go.RowKit Go.Lib

theorem form_iff (t id : List UInt8) (ss : List Slot) (sum : List UInt8) : Form t id ss sum ↔ linesL t = linesOf id ss sum ∧ Fits ss := by
  constructor
  · rintro ⟨rfl, h⟩
    exact ⟨lines_whole _ _ _, h⟩
  · rintro ⟨h, hf⟩
    refine ⟨?_, hf⟩
    rw [whole_glue, ← h]
    exact (lines_glue (by rw [h]; simp [linesOf])).1
theorem idLine_one (id : List UInt8) : oneL (idLine id) kId = some id := (one_iff _ _ _ (by decide)).2 rfl
theorem sumLine_one (sum : List UInt8) : oneL (sumLine sum) kSum = some sum := (one_iff _ _ _ (by decide)).2 rfl
theorem slotLine_one (s : Slot) (h : 0 ≤ s.rounds ∧ s.rounds ≤ 9999) : slotL (slotLine s) = some s := (slot_iff _ _).2 ⟨rfl, h⟩
theorem slotsLine_words (n : Nat) : wordsL (slotsLine n) = [kSlots, dec n] := words_of _ (by simp) (mem2 (by decide) (dec_free _ _ rfl))
theorem dec_inj {m n : Nat} (h : dec m = dec n) : m = n := by rw [← (dec_all m).2, h, (dec_all n).2]
theorem slotsLine_inj {m n : Nat} (h : slotsLine m = slotsLine n) : m = n := by
  have e := congrArg wordsL h
  rw [slotsLine_words, slotsLine_words] at e
  exact dec_inj (by simpa using e)
/-- a text says one thing alone -/
theorem form_one {t id id' : List UInt8} {ss ss' : List Slot} {sum sum' : List UInt8} (h : Form t id ss sum) (h' : Form t id' ss' sum') : id = id' ∧ ss = ss' ∧ sum = sum' := by
  obtain ⟨h1, h2⟩ := (form_iff _ _ _ _).1 h
  obtain ⟨h3, h4⟩ := (form_iff _ _ _ _).1 h'
  have e := h1.symm.trans h3
  unfold linesOf at e
  simp only [List.cons_append, List.nil_append, List.cons.injEq] at e
  obtain ⟨_, e1, e2, e3⟩ := e
  have hl := slotsLine_inj e2
  obtain ⟨e4, e5⟩ := List.append_inj e3 (by simp; exact hl)
  refine ⟨?_, ?_, ?_⟩
  · have := (idLine_one id).symm.trans ((congrArg (fun x => oneL x kId) e1).trans (idLine_one id'))
    exact Option.some.inj this
  · have a := (slots_iff _ ss).2 ⟨rfl, h2.r⟩
    rw [e4] at a
    exact (Option.some.inj (((slots_iff _ ss').2 ⟨rfl, h4.r⟩).symm.trans a)).symm
  · have e6 : sumLine sum = sumLine sum' := by simpa using e5
    have := (sumLine_one sum).symm.trans ((congrArg (fun x => oneL x kSum) e6).trans (sumLine_one sum'))
    exact Option.some.inj this
theorem cut_append (c : UInt8) (ps : List (List UInt8)) (r : List UInt8) (hp : ∀ p ∈ ps, c ∉ p) : cutS c (glue c ps ++ r) = (ps ++ (cutS c r).1, (cutS c r).2) := by
  obtain ⟨h1, h2, h3⟩ := cut_glue c r
  have e : glue c ps ++ r = glue c (ps ++ (cutS c r).1) ++ (cutS c r).2 := by rw [glue_append, List.append_assoc, h1]
  rw [e]
  exact cut_of c _ _ (fun p hp' => (List.mem_append.1 hp').elim (hp p) (h2 p)) h3
theorem linesOf_free (id : List UInt8) (ss : List Slot) (sum : List UInt8) : ∀ p ∈ linesOf id ss sum, (10 : UInt8) ∉ p := by
  have h := lines_whole id ss sum
  rw [← h]
  exact (lines_glue (by rw [h]; simp [linesOf])).2
/-- no ring's text begins another's -/
theorem form_prefix {a r id id' : List UInt8} {ss ss' : List Slot} {sum sum' : List UInt8} (h : Form a id ss sum) (h' : Form (a ++ r) id' ss' sum') : r = [] := by
  obtain ⟨rfl, hf⟩ := h
  obtain ⟨h3, h4⟩ := (form_iff _ _ _ _).1 h'
  rw [whole_glue] at h3
  have hc := cut_append 10 (linesOf id ss sum) r (linesOf_free id ss sum)
  unfold linesL at h3
  rw [hc] at h3
  by_cases e : (cutS 10 r).2 = []
  · rw [if_pos e] at h3
    have hl := congrArg List.length h3
    have h2 : slotsLine ss.length = slotsLine ss'.length := by
      have := congrArg (fun l => l[2]?) h3
      simpa [linesOf] using this
    have hn := slotsLine_inj h2
    simp [linesOf] at hl
    have hz : (cutS 10 r).1 = [] := List.eq_nil_of_length_eq_zero (by omega)
    have hg := (cut_glue 10 r).1
    rw [hz, e] at hg
    simpa [glue] using hg.symm
  · rw [if_neg e] at h3
    simp [linesOf] at h3

/-- what a text says, if it has the form -/
noncomputable def readC (t : List UInt8) : Option (List UInt8 × List Slot × List UInt8) := by
  classical
  exact if h : ∃ x : List UInt8 × List Slot × List UInt8, Form t x.1 x.2.1 x.2.2 then some h.choose else none
theorem read_iff (t id : List UInt8) (ss : List Slot) (sum : List UInt8) : readC t = some (id, ss, sum) ↔ Form t id ss sum := by
  unfold readC
  constructor
  · intro h
    split at h
    · next he =>
      have hc := he.choose_spec
      rw [Option.some.inj h] at hc
      exact hc
    · cases h
  · intro h
    have he : ∃ x : List UInt8 × List Slot × List UInt8, Form t x.1 x.2.1 x.2.2 := ⟨(id, ss, sum), h⟩
    rw [dif_pos he]
    obtain ⟨a, b, c⟩ := form_one he.choose_spec h
    exact congrArg some (Prod.ext a (Prod.ext b c))
theorem read_none (t : List UInt8) : readC t = none ↔ ∀ id ss sum, ¬ Form t id ss sum := by
  constructor
  · intro h id ss sum hf
    rw [(read_iff _ _ _ _).2 hf] at h
    cases h
  · intro h
    cases e : readC t with
    | none => rfl
    | some x => exact absurd ((read_iff t x.1 x.2.1 x.2.2).1 e) (h _ _ _)

end Go.Proofs.YtbjiamaaocjbfaaDoor.Kr

namespace Go.Proofs.YtbjiamaaocjbfaaDoor.Kr
open Go.RowKit Go.Lib

/-- what the lines of a text of the form are -/
theorem form_parts {t id : List UInt8} {ss : List Slot} {sum : List UInt8} (h : Form t id ss sum) :
    (linesL t).length = ss.length + 4 ∧ (linesL t)[0]? = some kHead ∧ (linesL t)[1]? = some (idLine id) ∧ (linesL t)[2]? = some (slotsLine ss.length) ∧
    (∀ i s, ss[i]? = some s → (linesL t)[3 + i]? = some (slotLine s)) ∧ (linesL t)[ss.length + 3]? = some (sumLine sum) ∧ Fits ss := by
  obtain ⟨h1, h2⟩ := (form_iff _ _ _ _).1 h
  rw [h1]
  unfold linesOf
  refine ⟨by simp, rfl, rfl, rfl, fun i s hs => ?_, ?_, h2⟩
  · have hi : i < ss.length := (List.getElem?_eq_some_iff.1 hs).1
    rw [List.getElem?_append_left (by simp; omega), List.getElem?_append_right (by simp)]
    simp [hs]
  · rw [List.getElem?_append_right (by simp)]
    simp
theorem form_make {t id : List UInt8} {ss : List Slot} {sum : List UInt8} (h0 : (linesL t).length = ss.length + 4) (h1 : (linesL t)[0]? = some kHead) (h2 : (linesL t)[1]? = some (idLine id)) (h3 : (linesL t)[2]? = some (slotsLine ss.length))
    (h4 : ((linesL t).drop 3).take ss.length = ss.map slotLine) (h5 : (linesL t)[ss.length + 3]? = some (sumLine sum)) (hf : Fits ss) : Form t id ss sum := by
  refine (form_iff _ _ _ _).2 ⟨?_, hf⟩
  generalize linesL t = L at *
  unfold linesOf
  rw [← h4]
  apply List.ext_getElem?
  intro i
  by_cases hi : i < 3
  · rw [List.getElem?_append_left (by simp; omega), List.getElem?_append_left (by simpa using hi)]
    have hc : i = 0 ∨ i = 1 ∨ i = 2 := by omega
    rcases hc with rfl | rfl | rfl
    · exact h1
    · exact h2
    · exact h3
  · by_cases hj : i < ss.length + 3
    · rw [List.getElem?_append_left (by simp; omega), List.getElem?_append_right (by simp; omega)]
      rw [List.getElem?_take, if_pos (by simp; omega), List.getElem?_drop]
      congr 1
      simp
      omega
    · by_cases hk : i = ss.length + 3
      · subst hk
        rw [h5, List.getElem?_append_right (by simp; omega)]
        have e : ss.length + 3 - ([kHead, idLine id, slotsLine ss.length] ++ (L.drop 3).take ss.length).length = 0 := by simp; omega
        rw [e]
        rfl
      · rw [List.getElem?_eq_none (by omega), List.getElem?_eq_none (by simp; omega)]
theorem words_slots {l d : List UInt8} (h : wordsL l = [kSlots, d]) (hd : numOK d = true) : l = slotsLine (valL d) := by
  have hu := (words_un l).1
  rw [h] at hu
  rw [slotsLine, (dec_val d hd).1]
  exact hu.symm
def slotCells (s : Slot) : List Value := [.string (str s.salt), .int .i64 s.rounds, .string (str s.wrapped)]
def ringCells (ss : List Slot) : List Value := (ss.map slotCells).flatten
theorem ringCells_append (a b : List Slot) : ringCells (a ++ b) = ringCells a ++ ringCells b := by simp [ringCells]
theorem ringCells_length (ss : List Slot) : (ringCells ss).length = ss.length * 3 := by
  induction ss with
  | nil => rfl
  | cons s ss ih =>
    have : ringCells (s :: ss) = slotCells s ++ ringCells ss := by simp [ringCells]
    rw [this, List.length_append, ih]
    simp [slotCells]
    omega

end Go.Proofs.YtbjiamaaocjbfaaDoor.Kr

namespace Go.Proofs.YtbjiamaaocjbfaaDoor.Kr
open Go.RowKit Go.Lib

def slotOK (s : Slot) : Bool := decide (s.salt.length = 16 ∧ 1 ≤ s.rounds ∧ s.rounds ≤ 4096 ∧ s.wrapped.length = 72)
def rightR (id : List UInt8) (ss : List Slot) : Bool := decide (id.length = 16 ∧ 1 ≤ ss.length ∧ ss.length ≤ 8) && ss.all slotOK
theorem right_fits {id : List UInt8} {ss : List Slot} (h : rightR id ss = true) : Fits ss := by
  unfold rightR at h
  rw [Bool.and_eq_true] at h
  have h1 := of_decide_eq_true h.1
  refine ⟨by omega, fun s hs => ?_⟩
  have h2 := of_decide_eq_true (List.all_eq_true.1 h.2 s hs)
  omega
def printL (id : List UInt8) (ss : List Slot) : List UInt8 := wholeL id ss (shaL (textL id ss))
def printE (id : List UInt8) (ss : List Slot) : Int := if rightR id ss = true then 0 else 72
def printY (id : List UInt8) (ss : List Slot) : List UInt8 := if rightR id ss = true then printL id ss else []
/-- what Parse answers -/
noncomputable def parseE (t : List UInt8) : Int :=
  match readC t with
  | none => 70
  | some x => if x.2.2 = shaL (textL x.1 x.2.1) then (if rightR x.1 x.2.1 = true then 0 else 72) else 71
noncomputable def parseI (t : List UInt8) : List UInt8 :=
  match readC t with
  | none => []
  | some x => if parseE t = 0 then x.1 else []
noncomputable def parseS (t : List UInt8) : List Slot :=
  match readC t with
  | none => []
  | some x => if parseE t = 0 then x.2.1 else []
theorem parse_none {t : List UInt8} (h : ∀ id ss sum, ¬ Form t id ss sum) : parseE t = 70 ∧ parseI t = [] ∧ parseS t = [] := by
  have e := (read_none t).2 h
  simp only [parseE, parseI, parseS, e, and_self]
theorem parse_check {t id : List UInt8} {ss : List Slot} {sum : List UInt8} (h : Form t id ss sum) (hs : sum ≠ shaL (textL id ss)) : parseE t = 71 ∧ parseI t = [] ∧ parseS t = [] := by
  have e := (read_iff t id ss sum).2 h
  have e1 : parseE t = 71 := by simp only [parseE, e]; rw [if_neg hs]
  refine ⟨e1, ?_, ?_⟩
  · simp only [parseI, e]; rw [e1, if_neg (by decide)]
  · simp only [parseS, e]; rw [e1, if_neg (by decide)]
theorem parse_field {t id : List UInt8} {ss : List Slot} {sum : List UInt8} (h : Form t id ss sum) (hs : sum = shaL (textL id ss)) (hr : rightR id ss = false) : parseE t = 72 ∧ parseI t = [] ∧ parseS t = [] := by
  have e := (read_iff t id ss sum).2 h
  have e1 : parseE t = 72 := by simp only [parseE, e]; rw [if_pos hs, if_neg (by rw [hr]; decide)]
  refine ⟨e1, ?_, ?_⟩
  · simp only [parseI, e]; rw [e1, if_neg (by decide)]
  · simp only [parseS, e]; rw [e1, if_neg (by decide)]
theorem parse_yes {t id : List UInt8} {ss : List Slot} {sum : List UInt8} (h : Form t id ss sum) (hs : sum = shaL (textL id ss)) (hr : rightR id ss = true) : parseE t = 0 ∧ parseI t = id ∧ parseS t = ss := by
  have e := (read_iff t id ss sum).2 h
  have e1 : parseE t = 0 := by simp only [parseE, e]; rw [if_pos hs, if_pos hr]
  refine ⟨e1, ?_, ?_⟩
  · simp only [parseI, e]; rw [e1, if_pos rfl]
  · simp only [parseS, e]; rw [e1, if_pos rfl]
/-- what is printed is read back -/
theorem parse_print {id : List UInt8} {ss : List Slot} (h : rightR id ss = true) : parseE (printL id ss) = 0 ∧ parseI (printL id ss) = id ∧ parseS (printL id ss) = ss :=
  parse_yes (sum := shaL (textL id ss)) ⟨rfl, right_fits h⟩ rfl h
/-- what is taken is what is printed of it -/
theorem print_parse {t : List UInt8} (h : parseE t = 0) : t = printL (parseI t) (parseS t) ∧ rightR (parseI t) (parseS t) = true := by
  cases e : readC t with
  | none => simp only [parseE, e] at h; cases h
  | some x =>
    have hf := (read_iff t x.1 x.2.1 x.2.2).1 e
    have h0 := h
    simp only [parseE, e] at h
    by_cases h1 : x.2.2 = shaL (textL x.1 x.2.1)
    · rw [if_pos h1] at h
      by_cases h2 : rightR x.1 x.2.1 = true
      · obtain ⟨_, a, b⟩ := parse_yes hf h1 h2
        rw [a, b]
        refine ⟨?_, h2⟩
        unfold printL
        rw [← h1]
        exact hf.1
      · rw [if_neg h2] at h; cases h
    · rw [if_neg h1] at h; cases h
theorem parse_no {t : List UInt8} (h : parseE t ≠ 0) : parseI t = [] ∧ parseS t = [] := by
  cases e : readC t with
  | none => simp only [parseI, parseS, e, and_self]
  | some x => simp only [parseI, parseS, e]; rw [if_neg h, if_neg h]; exact ⟨rfl, rfl⟩

end Go.Proofs.YtbjiamaaocjbfaaDoor.Kr

namespace Go.Proofs.YtbjiamaaocjbfaaDoor.Kr
open Go.RowKit Go.Lib

/-- the first lines, for n slots -/
def text0 (id : List UInt8) (n : Nat) : List UInt8 := glue 10 [kHead, idLine id, slotsLine n]
theorem text0_eq (id : List UInt8) (n : Nat) : (kHead ++ [10] ++ kId ++ [32]) ++ hexL id ++ ([10] ++ kSlots ++ [32]) ++ dec n ++ [10] = text0 id n := by
  simp [text0, glue, idLine, slotsLine, unwords]
theorem textL_eq (id : List UInt8) (ss : List Slot) : textL id ss = text0 id ss.length ++ glue 10 (ss.map slotLine) := by
  unfold textL text0
  exact glue_append _ _ _
theorem slot_eq (s : Slot) : (kSlot ++ [32]) ++ dec s.rounds.toNat ++ [32] ++ hexL s.salt ++ [32] ++ hexL s.wrapped ++ [10] = slotLine s ++ [10] := by
  simp [slotLine, unwords]
theorem glue_take (ss : List Slot) (k : Nat) (s : Slot) (h : ss[k]? = some s) : glue 10 ((ss.take (k + 1)).map slotLine) = glue 10 ((ss.take k).map slotLine) ++ (slotLine s ++ [10]) := by
  rw [List.take_add_one, h, List.map_append, glue_append]
  simp [glue]
theorem slotLine_length (s : Slot) (h : 0 ≤ s.rounds ∧ s.rounds ≤ 9999) : (slotLine s).length ≤ 12 + 2 * s.salt.length + 2 * s.wrapped.length := by
  have h1 := (dec_len4 s.rounds.toNat (by omega)).2
  unfold slotLine
  simp [unwords, kSlot, hexL_length]
  omega
theorem text0_length (id : List UInt8) (n : Nat) (h : n ≤ 9999) : (text0 id n).length ≤ 64 + 2 * id.length := by
  have h1 := (dec_len4 n h).2
  rw [← text0_eq]
  simp [kHead, kId, kSlots, hexL_length]
  omega

theorem right_sizes {id : List UInt8} {ss : List Slot} (h : rightR id ss = true) : id.length = 16 ∧ 1 ≤ ss.length ∧ ss.length ≤ 8 ∧ ∀ s ∈ ss, s.salt.length = 16 ∧ 1 ≤ s.rounds ∧ s.rounds ≤ 4096 ∧ s.wrapped.length = 72 := by
  unfold rightR at h
  rw [Bool.and_eq_true] at h
  have h1 := of_decide_eq_true h.1
  exact ⟨h1.1, h1.2.1, h1.2.2, fun s hs => of_decide_eq_true (List.all_eq_true.1 h.2 s hs)⟩
/-- the text of a ring that is right is short -/
theorem textL_le {id : List UInt8} {ss : List Slot} (h : rightR id ss = true) : (textL id ss).length ≤ 4096 := by
  obtain ⟨h1, h2, h3, h4⟩ := right_sizes h
  rw [textL_eq, List.length_append]
  have a := text0_length id ss.length (by omega)
  have b : ∀ l : List Slot, (∀ s ∈ l, s ∈ ss) → (glue 10 (l.map slotLine)).length ≤ 200 * l.length := by
    intro l
    induction l with
    | nil => intro _; simp [glue]
    | cons s l ih =>
      intro hl
      have i1 := ih (fun x hx => hl x (List.mem_cons_of_mem _ hx))
      obtain ⟨j1, j2, j3, j4⟩ := h4 s (hl s (by simp))
      have i2 := slotLine_length s ⟨by omega, by omega⟩
      rw [List.map_cons, glue_cons]
      simp
      omega
  have := b ss (fun s hs => hs)
  omega


end Go.Proofs.YtbjiamaaocjbfaaDoor.Kr

namespace Go.Proofs.YtbjiamaaocjbfaaDoor.Kr
open Go.RowKit Go.Lib

/-- a byte that ends a word -/
def stopB (c : UInt8) : Bool := c == 32 || c == 10
def Stops (r : List UInt8) : Prop := ∃ c r', r = c :: r' ∧ stopB c = true
def fixR (want rest : List UInt8) : Option (List UInt8) := if want.isPrefixOf rest = true then some (rest.drop want.length) else none
def wordR (rest : List UInt8) : Option (List UInt8 × List UInt8) :=
  if rest.dropWhile (fun c => !stopB c) = [] then none else some (rest.takeWhile fun c => !stopB c, rest.dropWhile fun c => !stopB c)
def numR (rest : List UInt8) : Option (Nat × List UInt8) :=
  match wordR rest with
  | some (wd, r) => if numOK wd = true then some (valL wd, r) else none
  | none => none
def bytR (rest : List UInt8) : Option (List UInt8 × List UInt8) :=
  match wordR rest with
  | some (wd, r) => if unOK wd = true then some (unL wd, r) else none
  | none => none
def fieldR {α : Type} (a : List UInt8) (rd : List UInt8 → Option (α × List UInt8)) (b rest : List UInt8) : Option (α × List UInt8) :=
  match fixR a rest with
  | none => none
  | some r =>
    match rd r with
    | none => none
    | some (v, r) =>
      match fixR b r with
      | none => none
      | some r => some (v, r)
def slotR (rest : List UInt8) : Option (Slot × List UInt8) :=
  match fieldR (kSlot ++ [32]) numR [32] rest with
  | none => none
  | some (n, r) =>
    match fieldR [] bytR [32] r with
    | none => none
    | some (s, r) =>
      match fieldR [] bytR [10] r with
      | none => none
      | some (x, r) => some (⟨s, n, x⟩, r)
def slotsR : Nat → List UInt8 → Option (List Slot × List UInt8)
  | 0, rest => some ([], rest)
  | n + 1, rest =>
    match slotsR n rest with
    | none => none
    | some (ss, r) =>
      match slotR r with
      | none => none
      | some (s, r) => some (ss ++ [s], r)
def ringR (t : List UInt8) : Option (List UInt8 × List Slot × List UInt8) :=
  match fixR (kHead ++ [10]) t with
  | none => none
  | some r =>
    match fieldR (kId ++ [32]) bytR [10] r with
    | none => none
    | some (id, r) =>
      match fieldR (kSlots ++ [32]) numR [10] r with
      | none => none
      | some (n, r) =>
        match slotsR n r with
        | none => none
        | some (ss, r) =>
          match fieldR (kSum ++ [32]) bytR [10] r with
          | none => none
          | some (sum, r) => if r = [] then some (id, ss, sum) else none

theorem fix_iff (want rest r : List UInt8) : fixR want rest = some r ↔ rest = want ++ r := by
  unfold fixR
  constructor
  · intro h
    split at h
    · next hp =>
      obtain ⟨x, rfl⟩ := List.isPrefixOf_iff_prefix.1 hp
      have := Option.some.inj h
      rw [List.drop_left] at this
      rw [this]
    · cases h
  · rintro rfl
    rw [if_pos (List.isPrefixOf_iff_prefix.2 (List.prefix_append _ _)), List.drop_left]

theorem fix_none {want rest : List UInt8} (h : fixR want rest = none) : want.isPrefixOf rest = false := by
  unfold fixR at h
  cases e : want.isPrefixOf rest with
  | false => rfl
  | true => rw [if_pos e] at h; cases h

theorem span_of (wd r : List UInt8) (h1 : ∀ c ∈ wd, stopB c = false) (h2 : Stops r) : (wd ++ r).takeWhile (fun c => !stopB c) = wd ∧ (wd ++ r).dropWhile (fun c => !stopB c) = r := by
  induction wd with
  | nil =>
    obtain ⟨c, r', rfl, hc⟩ := h2
    simp [hc]
  | cons a wd ih =>
    obtain ⟨e1, e2⟩ := ih (fun c hc => h1 c (List.mem_cons_of_mem _ hc))
    have ha := h1 a (by simp)
    simp only [List.cons_append, List.takeWhile_cons, List.dropWhile_cons, ha, Bool.not_false, if_true, e1, e2, and_self]

theorem drop_stops (l : List UInt8) (h : l.dropWhile (fun c => !stopB c) ≠ []) : Stops (l.dropWhile fun c => !stopB c) := by
  induction l with
  | nil => exact absurd rfl h
  | cons a l ih =>
    by_cases ha : stopB a = true
    · refine ⟨a, l, ?_, ha⟩
      rw [List.dropWhile_cons, if_neg (by simp [ha])]
    · rw [Bool.not_eq_true] at ha
      rw [List.dropWhile_cons, if_pos (by simp [ha])] at h ⊢
      exact ih h

theorem take_free (l : List UInt8) : ∀ c ∈ l.takeWhile (fun c => !stopB c), stopB c = false := by
  induction l with
  | nil => intro c h; cases h
  | cons a l ih =>
    intro c h
    by_cases ha : stopB a = true
    · rw [List.takeWhile_cons, if_neg (by simp [ha])] at h
      cases h
    · rw [Bool.not_eq_true] at ha
      rw [List.takeWhile_cons, if_pos (by simp [ha])] at h
      rcases List.mem_cons.1 h with rfl | h
      · exact ha
      · exact ih c h

theorem word_iff (rest wd r : List UInt8) : wordR rest = some (wd, r) ↔ rest = wd ++ r ∧ (∀ c ∈ wd, stopB c = false) ∧ Stops r := by
  unfold wordR
  constructor
  · intro h
    split at h
    · cases h
    · next hne =>
      obtain ⟨rfl, rfl⟩ := Prod.mk.inj (Option.some.inj h)
      exact ⟨(List.takeWhile_append_dropWhile ..).symm, take_free rest, drop_stops rest hne⟩
  · rintro ⟨rfl, h1, h2⟩
    obtain ⟨e1, e2⟩ := span_of wd r h1 h2
    rw [e1, e2, if_neg]
    obtain ⟨c, r', rfl, _⟩ := h2
    simp

theorem word_none {rest : List UInt8} (h : wordR rest = none) : ∀ c ∈ rest, stopB c = false := by
  unfold wordR at h
  split at h
  · next e =>
    have h2 := take_free rest
    have h3 := List.takeWhile_append_dropWhile (p := fun c => !stopB c) (l := rest)
    rw [e, List.append_nil] at h3
    rw [h3] at h2
    exact h2
  · cases h

theorem stop_dig {c : UInt8} (h : stopB c = true) : isDig c = false ∧ num1 c = false := by
  unfold stopB at h
  rw [Bool.or_eq_true, beq_iff_eq, beq_iff_eq] at h
  rcases h with rfl | rfl <;> exact ⟨rfl, rfl⟩

theorem num_iff (rest r : List UInt8) (n : Nat) : numR rest = some (n, r) ↔ rest = dec n ++ r ∧ n ≤ 9999 ∧ Stops r := by
  unfold numR
  constructor
  · intro h
    split at h
    · next wd r' e =>
      split at h
      · next ho =>
        obtain ⟨rfl, rfl⟩ := Prod.mk.inj (Option.some.inj h)
        obtain ⟨e1, _, e3⟩ := (word_iff _ _ _).1 e
        obtain ⟨e4, e5⟩ := dec_val wd ho
        rw [e4]
        exact ⟨e1, e5, e3⟩
      · cases h
    · cases h
  · rintro ⟨rfl, hn, hs⟩
    obtain ⟨a, b⟩ := num_dec n hn
    have e : wordR (dec n ++ r) = some (dec n, r) := (word_iff _ _ _).2 ⟨rfl, fun c hc => by
      cases ec : stopB c with
      | false => rfl
      | true => exact absurd hc (dec_free n c (stop_dig ec).2), hs⟩
    rw [e]
    simp only [a, b, if_true]

theorem byt_iff (rest r x : List UInt8) : bytR rest = some (x, r) ↔ rest = hexL x ++ r ∧ Stops r := by
  unfold bytR
  constructor
  · intro h
    split at h
    · next wd r' e =>
      split at h
      · next ho =>
        obtain ⟨rfl, rfl⟩ := Prod.mk.inj (Option.some.inj h)
        obtain ⟨e1, _, e3⟩ := (word_iff _ _ _).1 e
        rw [hex_un ho]
        exact ⟨e1, e3⟩
      · cases h
    · cases h
  · rintro ⟨rfl, hs⟩
    have e : wordR (hexL x ++ r) = some (hexL x, r) := (word_iff _ _ _).2 ⟨rfl, fun c hc => by
      cases ec : stopB c with
      | false => rfl
      | true => exact absurd hc (hex_free x c (stop_dig ec).1), hs⟩
    rw [e]
    simp only [unOK_hexL, unL_hexL, if_true]

theorem field_iff {α : Type} (a : List UInt8) (rd : List UInt8 → Option (α × List UInt8)) (b rest : List UInt8) (v : α) (r : List UInt8) :
    fieldR a rd b rest = some (v, r) ↔ ∃ r0, rest = a ++ r0 ∧ rd r0 = some (v, b ++ r) := by
  unfold fieldR
  constructor
  · intro h
    split at h
    · cases h
    · next r0 e0 =>
      split at h
      · cases h
      · next v' r1 e1 =>
        split at h
        · cases h
        · next r2 e2 =>
          obtain ⟨rfl, rfl⟩ := Prod.mk.inj (Option.some.inj h)
          refine ⟨r0, (fix_iff _ _ _).1 e0, ?_⟩
          rw [e1, (fix_iff _ _ _).1 e2]
  · rintro ⟨r0, rfl, h⟩
    rw [(fix_iff a (a ++ r0) r0).2 rfl]
    simp only [h, (fix_iff b (b ++ r) r).2 rfl]

theorem stops_sp (r : List UInt8) : Stops ([32] ++ r) := ⟨32, r, rfl, rfl⟩
theorem stops_lf (r : List UInt8) : Stops ([10] ++ r) := ⟨10, r, rfl, rfl⟩

theorem slotR_iff (rest r : List UInt8) (s : Slot) : slotR rest = some (s, r) ↔ rest = slotLine s ++ [10] ++ r ∧ 0 ≤ s.rounds ∧ s.rounds ≤ 9999 := by
  unfold slotR
  constructor
  · intro h
    split at h
    · cases h
    · next n r0 e0 =>
      split at h
      · cases h
      · next x r1 e1 =>
        split at h
        · cases h
        · next y r2 e2 =>
          obtain ⟨rfl, rfl⟩ := Prod.mk.inj (Option.some.inj h)
          obtain ⟨q0, rfl, h0⟩ := (field_iff _ _ _ _ _ _).1 e0
          obtain ⟨q1, rfl, h1⟩ := (field_iff _ _ _ _ _ _).1 e1
          obtain ⟨q2, rfl, h2⟩ := (field_iff _ _ _ _ _ _).1 e2
          obtain ⟨rfl, hn, _⟩ := (num_iff _ _ _).1 h0
          obtain ⟨h1, _⟩ := (byt_iff _ _ _).1 h1
          obtain ⟨h2, _⟩ := (byt_iff _ _ _).1 h2
          subst h1 h2
          refine ⟨?_, by simp, by simp; omega⟩
          simp [slotLine, unwords]
  · rintro ⟨rfl, h1, h2⟩
    have e0 : fieldR (kSlot ++ [32]) numR [32] (slotLine s ++ [10] ++ r) = some (s.rounds.toNat, hexL s.salt ++ [32] ++ (hexL s.wrapped ++ [10] ++ r)) := by
      refine (field_iff _ _ _ _ _ _).2 ⟨dec s.rounds.toNat ++ ([32] ++ (hexL s.salt ++ [32] ++ (hexL s.wrapped ++ [10] ++ r))), ?_, (num_iff _ _ _).2 ⟨rfl, by omega, stops_sp _⟩⟩
      simp [slotLine, unwords]
    have e1 : fieldR [] bytR [32] (hexL s.salt ++ [32] ++ (hexL s.wrapped ++ [10] ++ r)) = some (s.salt, hexL s.wrapped ++ [10] ++ r) :=
      (field_iff _ _ _ _ _ _).2 ⟨_, rfl, (byt_iff _ _ _).2 ⟨by simp, stops_sp _⟩⟩
    have e2 : fieldR [] bytR [10] (hexL s.wrapped ++ [10] ++ r) = some (s.wrapped, r) :=
      (field_iff _ _ _ _ _ _).2 ⟨_, rfl, (byt_iff _ _ _).2 ⟨by simp, stops_lf _⟩⟩
    simp only [e0, e1, e2]
    have : ((s.rounds.toNat : Nat) : Int) = s.rounds := Int.toNat_of_nonneg h1
    rw [this]

theorem slotsR_iff (n : Nat) (rest r : List UInt8) (ss : List Slot) : slotsR n rest = some (ss, r) ↔ ss.length = n ∧ rest = glue 10 (ss.map slotLine) ++ r ∧ ∀ s ∈ ss, 0 ≤ s.rounds ∧ s.rounds ≤ 9999 := by
  induction n generalizing ss r with
  | zero =>
    constructor
    · intro h
      obtain ⟨rfl, rfl⟩ := Prod.mk.inj (Option.some.inj h)
      simp [glue]
    · rintro ⟨h, h2, _⟩
      obtain rfl := List.length_eq_zero_iff.1 h
      rw [h2]
      rfl
  | succ n ih =>
    constructor
    · intro h
      unfold slotsR at h
      split at h
      · cases h
      · next ss' r0 e0 =>
        split at h
        · cases h
        · next s r1 e1 =>
          obtain ⟨rfl, rfl⟩ := Prod.mk.inj (Option.some.inj h)
          obtain ⟨a1, a2, a3⟩ := (ih _ _).1 e0
          obtain ⟨b1, b2⟩ := (slotR_iff _ _ _).1 e1
          refine ⟨by simp [a1], ?_, fun x hx => ?_⟩
          · rw [a2, b1, List.map_append, glue_append]
            simp [glue]
          · rcases List.mem_append.1 hx with hx | hx
            · exact a3 x hx
            · simp at hx; subst hx; exact b2
    · rintro ⟨h, h2, h3⟩
      obtain ⟨qs, s, rfl⟩ : ∃ qs s, ss = qs ++ [s] := by
        have hne : ss ≠ [] := by rintro rfl; cases h
        exact ⟨ss.dropLast, ss.getLast hne, (List.dropLast_concat_getLast hne).symm⟩
      have e0 : slotsR n rest = some (qs, slotLine s ++ [10] ++ r) := (ih _ _).2 ⟨by simpa using h, by rw [h2, List.map_append, glue_append]; simp [glue], fun x hx => h3 x (by simp [hx])⟩
      have e1 : slotR (slotLine s ++ [10] ++ r) = some (s, r) := (slotR_iff _ _ _).2 ⟨rfl, h3 s (by simp)⟩
      unfold slotsR
      rw [e0]
      simp only [e1]

theorem slotsR_stop (m n : Nat) (rest : List UInt8) (h : slotsR m rest = none) (hm : m ≤ n) : slotsR n rest = none := by
  induction n with
  | zero => obtain rfl : m = 0 := by omega
            exact h
  | succ n ih =>
    by_cases e : m = n + 1
    · rw [← e]; exact h
    · unfold slotsR
      rw [ih (by omega)]

theorem ringR_iff (t id : List UInt8) (ss : List Slot) (sum : List UInt8) : ringR t = some (id, ss, sum) ↔ Form t id ss sum := by
  unfold ringR
  constructor
  · intro h
    split at h
    · cases h
    · next r0 e0 =>
      split at h
      · cases h
      · next id' r1 e1 =>
        split at h
        · cases h
        · next n r2 e2 =>
          split at h
          · cases h
          · next ss' r3 e3 =>
            split at h
            · cases h
            · next sum' r4 e4 =>
              split at h
              · next he =>
                subst he
                obtain ⟨rfl, hh⟩ := Prod.mk.inj (Option.some.inj h)
                obtain ⟨rfl, rfl⟩ := Prod.mk.inj hh
                obtain rfl := (fix_iff _ _ _).1 e0
                obtain ⟨q1, rfl, h1⟩ := (field_iff _ _ _ _ _ _).1 e1
                obtain ⟨q2, rfl, h2⟩ := (field_iff _ _ _ _ _ _).1 e2
                obtain ⟨q4, rfl, h4⟩ := (field_iff _ _ _ _ _ _).1 e4
                obtain ⟨h3, h3', h3''⟩ := (slotsR_iff _ _ _ _).1 e3
                obtain ⟨rfl, _⟩ := (byt_iff _ _ _).1 h1
                obtain ⟨rfl, hn, _⟩ := (num_iff _ _ _).1 h2
                obtain ⟨rfl, _⟩ := (byt_iff _ _ _).1 h4
                refine ⟨?_, by omega, h3''⟩
                subst h3 h3'
                simp [wholeL, textL, sumLine, idLine, slotsLine, unwords, glue_cons]
              · cases h
  · rintro ⟨rfl, hf⟩
    have hw : wholeL id ss sum = kHead ++ [10] ++ (kId ++ [32] ++ (hexL id ++ ([10] ++ (kSlots ++ [32] ++ (dec ss.length ++ ([10] ++ (glue 10 (ss.map slotLine) ++ (kSum ++ [32] ++ (hexL sum ++ ([10] ++ [])))))))))) := by
      simp [wholeL, textL, sumLine, idLine, slotsLine, unwords, glue_cons]
    rw [hw, (fix_iff _ _ _).2 rfl]
    have e1 : ∀ r, fieldR (kId ++ [32]) bytR [10] (kId ++ [32] ++ (hexL id ++ ([10] ++ r))) = some (id, r) := fun r => (field_iff _ _ _ _ _ _).2 ⟨_, rfl, (byt_iff _ _ _).2 ⟨rfl, stops_lf _⟩⟩
    have e2 : ∀ r, fieldR (kSlots ++ [32]) numR [10] (kSlots ++ [32] ++ (dec ss.length ++ ([10] ++ r))) = some (ss.length, r) := fun r => (field_iff _ _ _ _ _ _).2 ⟨_, rfl, (num_iff _ _ _).2 ⟨rfl, hf.n, stops_lf _⟩⟩
    have e3 : ∀ r, slotsR ss.length (glue 10 (ss.map slotLine) ++ r) = some (ss, r) := fun r => (slotsR_iff _ _ _ _).2 ⟨rfl, rfl, hf.r⟩
    have e4 : ∀ r, fieldR (kSum ++ [32]) bytR [10] (kSum ++ [32] ++ (hexL sum ++ ([10] ++ r))) = some (sum, r) := fun r => (field_iff _ _ _ _ _ _).2 ⟨_, rfl, (byt_iff _ _ _).2 ⟨rfl, stops_lf _⟩⟩
    simp only [e1, e2, e3, e4, if_true]

theorem ring_none {t : List UInt8} (h : ringR t = none) : ∀ id ss sum, ¬ Form t id ss sum := fun id ss sum hf => by
  rw [(ringR_iff _ _ _ _).2 hf] at h
  cases h

end Go.Proofs.YtbjiamaaocjbfaaDoor.Kr

namespace Go.Proofs.YtbjiamaaocjbfaaDoor.Kr
open Go.RowKit Go.Lib

/-- the place of the first byte that ends a word -/
def anyI (l : List UInt8) : Int :=
  match wordR l with
  | some (wd, _) => wd.length
  | none => -1
def NoStop (l : List UInt8) (i : Nat) : Prop := ∀ j x, j < i → l[j]? = some x → stopB x = false
theorem NoStop.zero (l : List UInt8) : NoStop l 0 := fun j _ h _ => absurd h (Nat.not_lt_zero j)
theorem NoStop.succ {l : List UInt8} {i : Nat} {x : UInt8} (h : NoStop l i) (hx : l[i]? = some x) (hs : stopB x = false) : NoStop l (i + 1) := fun j y hj hy => by
  by_cases e : j = i
  · subst e
    rw [hx] at hy
    obtain rfl := Option.some.inj hy
    exact hs
  · exact h j y (by omega) hy
theorem any_none {l : List UInt8} (h : NoStop l l.length) : anyI l = -1 := by
  unfold anyI
  cases e : wordR l with
  | none => rfl
  | some x =>
    obtain ⟨wd, r⟩ := x
    obtain ⟨rfl, _, c, r', rfl, hc⟩ := (word_iff _ _ _).1 e
    have := h wd.length c (by simp) (by simp)
    rw [hc] at this
    cases this
theorem any_hit {l : List UInt8} {i : Nat} {x : UInt8} (h : NoStop l i) (hx : l[i]? = some x) (hs : stopB x = true) : anyI l = i := by
  have hi : i < l.length := (List.getElem?_eq_some_iff.1 hx).1
  have hf : ∀ c ∈ l.take i, stopB c = false := fun c hc => by
    obtain ⟨j, hj⟩ := List.mem_iff_getElem?.1 hc
    rw [List.getElem?_take] at hj
    split at hj
    · next hlt => exact h j c hlt hj
    · cases hj
  have hd : Stops (l.drop i) := ⟨x, l.drop (i + 1), by rw [List.drop_eq_getElem_cons hi, (List.getElem?_eq_some_iff.1 hx).2], hs⟩
  have e : wordR l = some (l.take i, l.drop i) := (word_iff _ _ _).2 ⟨(List.take_append_drop i l).symm, hf, hd⟩
  unfold anyI
  rw [e]
  simp only [List.length_take]
  omega

theorem decN_skip (n b0 b1 b2 b3 : Nat) (hb : 128 ≤ b0) (h0 : b0 < 256) : 128 ≤ (decodeN n b0 b1 b2 b3).1 ∧ (decodeN n b0 b1 b2 b3).1 ≤ 1114111 ∧ ((decodeN n b0 b1 b2 b3).1 < 55296 ∨ 57344 ≤ (decodeN n b0 b1 b2 b3).1) ∧
    1 ≤ (decodeN n b0 b1 b2 b3).2 ∧ (decodeN n b0 b1 b2 b3).2 ≤ 4 ∧ (1 < (decodeN n b0 b1 b2 b3).2 → 1 < n ∧ 128 ≤ b1) ∧ (2 < (decodeN n b0 b1 b2 b3).2 → 2 < n ∧ 128 ≤ b2) ∧ (3 < (decodeN n b0 b1 b2 b3).2 → 3 < n ∧ 128 ≤ b3) := by
  unfold decodeN
  rw [if_neg (by omega)]
  repeat' split
  all_goals (simp only; omega)

theorem get_toList (s : ByteArray) (j : Nat) (b : UInt8) (h : s.data.toList[j]? = some b) : s.get! j = b := by
  have hj : j < s.size := by have := (List.getElem?_eq_some_iff.1 h).1; simpa using this
  have e := (List.getElem?_eq_some_iff.1 h).2
  show s.data[j]! = b
  rw [← e]
  simp [getElem!_pos, hj]

/-- a rune of bytes that are no ASCII: what is passed over holds no byte that ends a word -/
theorem decode_skip (s : ByteArray) (i : Nat) (x : UInt8) (hx : s.data.toList[i]? = some x) (h : 128 ≤ x.toNat) :
    128 ≤ (Utf8.decode s i).1 ∧ (Utf8.decode s i).1 ≤ 1114111 ∧ ((Utf8.decode s i).1 < 55296 ∨ 57344 ≤ (Utf8.decode s i).1) ∧ 1 ≤ (Utf8.decode s i).2 ∧ i + (Utf8.decode s i).2 ≤ s.size ∧
    ∀ j b, i ≤ j → j < i + (Utf8.decode s i).2 → s.data.toList[j]? = some b → 128 ≤ b.toNat := by
  have hi : i < s.size := by have := (List.getElem?_eq_some_iff.1 hx).1; simpa using this
  rw [decode_at]
  have g0 := get_toList s i x hx
  obtain ⟨a1, a2, a3, a4, a5, a6, a7, a8⟩ := decN_skip (s.size - i) (s.get! i).toNat (s.get! (i + 1)).toNat (s.get! (i + 2)).toNat (s.get! (i + 3)).toNat (by rw [g0]; exact h) (UInt8.toNat_lt _)
  refine ⟨a1, a2, a3, a4, by omega, fun j b h1 h2 h3 => ?_⟩
  have gj := get_toList s j b h3
  generalize (decodeN (s.size - i) (s.get! i).toNat (s.get! (i + 1)).toNat (s.get! (i + 2)).toNat (s.get! (i + 3)).toNat).2 = d at *
  rw [← gj]
  by_cases e0 : j = i
  · rw [e0, g0]; exact h
  by_cases e1 : j = i + 1
  · rw [e1]; exact (a6 (by omega)).2
  by_cases e2 : j = i + 2
  · rw [e2]; exact (a7 (by omega)).2
  have e3 : j = i + 3 := by omega
  rw [e3]; exact (a8 (by omega)).2

theorem stop_ascii {x : UInt8} (h : 128 ≤ x.toNat) : stopB x = false := by
  unfold stopB
  rw [Bool.or_eq_false_iff, beq_eq_false_iff_ne, beq_eq_false_iff_ne]
  exact ⟨fun e => by rw [e] at h; simp at h, fun e => by rw [e] at h; simp at h⟩
theorem stop_toNat (x : UInt8) : stopB x = (decide (x.toNat = 32) || decide (x.toNat = 10)) := by
  unfold stopB
  congr 1
  · rw [Bool.eq_iff_iff, beq_iff_eq, decide_eq_true_iff, ← UInt8.toNat_inj]; rfl
  · rw [Bool.eq_iff_iff, beq_iff_eq, decide_eq_true_iff, ← UInt8.toNat_inj]; rfl
theorem NoStop.skip {l : List UInt8} {i k : Nat} (h : NoStop l i) (hk : ∀ j b, i ≤ j → j < k → l[j]? = some b → 128 ≤ b.toNat) : NoStop l k := fun j y hj hy => by
  by_cases e : j < i
  · exact h j y e hy
  · exact stop_ascii (hk j y (by omega) hj hy)

end Go.Proofs.YtbjiamaaocjbfaaDoor.Kr
