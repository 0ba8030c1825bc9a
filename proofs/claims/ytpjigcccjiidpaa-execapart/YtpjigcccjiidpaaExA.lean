import Derived.Test.YtpjigcccjiidpaaBaseM
namespace Go.Proofs.Ytpjigcccjiidpaa.Ex
open Go.RowKit Go.Lib

/-! the live files, as a list of numbers and contents -/
abbrev Fl := List (Int × List UInt8)
def fnd : Fl → Int → Option (List UInt8)
  | [], _ => none
  | x :: l, k => if x.1 = k then some x.2 else fnd l k
def wo (L : Fl) (k : Int) : Fl := L.filter fun x => decide (x.1 ≠ k)
def wi (L : Fl) (k : Int) (s : List UInt8) : Fl := wo L k ++ [(k, s)]
def Nd (L : Fl) : Prop := (L.map (·.1)).Nodup
theorem fnd_app (A B : Fl) (k : Int) : fnd (A ++ B) k = (fnd A k).or (fnd B k) := by
  induction A with
  | nil => rfl
  | cons x A ih =>
    rw [List.cons_append]
    show (if x.1 = k then some x.2 else fnd (A ++ B) k) = (if x.1 = k then some x.2 else fnd A k).or (fnd B k)
    by_cases e : x.1 = k
    · rw [if_pos e, if_pos e]; rfl
    · rw [if_neg e, if_neg e, ih]
theorem fnd_wo (L : Fl) (k j : Int) : fnd (wo L k) j = if j = k then none else fnd L j := by
  induction L with
  | nil => simp [wo, fnd]
  | cons x L ih =>
    unfold wo at ih ⊢
    by_cases e : x.1 = k
    · rw [List.filter_cons_of_neg (by simp [e]), ih]
      by_cases e2 : j = k
      · rw [if_pos e2, if_pos e2]
      · rw [if_neg e2, if_neg e2]
        conv => rhs; unfold fnd
        rw [if_neg (by rw [e]; exact fun h => e2 h.symm)]
    · rw [List.filter_cons_of_pos (by simp [e])]
      unfold fnd
      by_cases e3 : x.1 = j
      · rw [if_pos e3, if_neg (by rw [← e3]; exact e), if_pos e3]
      · rw [if_neg e3, ih]
        by_cases e2 : j = k
        · rw [if_pos e2, if_pos e2]
        · rw [if_neg e2, if_neg e2, if_neg e3]
theorem fnd_wi (L : Fl) (k : Int) (s : List UInt8) (j : Int) : fnd (wi L k s) j = if j = k then some s else fnd L j := by
  unfold wi
  rw [fnd_app, fnd_wo]
  by_cases e : j = k
  · subst e
    simp [fnd]
  · rw [if_neg e, if_neg e]
    show (fnd L j).or (if k = j then some s else none) = fnd L j
    rw [if_neg (fun h => e h.symm)]
    cases fnd L j <;> rfl
theorem fnd_none_iff (L : Fl) (k : Int) : fnd L k = none ↔ k ∉ L.map (·.1) := by
  induction L with
  | nil => simp [fnd]
  | cons x L ih =>
    unfold fnd
    by_cases e : x.1 = k
    · rw [if_pos e]; simp [e]
    · rw [if_neg e, ih, List.map_cons, List.mem_cons, not_or]
      exact ⟨fun h => ⟨fun h' => e h'.symm, h⟩, fun h => h.2⟩
theorem nd_nil : Nd [] := by simp [Nd]
theorem nd_wo {L : Fl} (h : Nd L) (k : Int) : Nd (wo L k) := h.sublist (List.Sublist.map _ List.filter_sublist)
theorem nd_wi {L : Fl} (h : Nd L) (k : Int) (s : List UInt8) : Nd (wi L k s) := by
  unfold wi Nd
  rw [List.map_append, List.nodup_append]
  refine ⟨nd_wo h k, by simp, fun a ha b hb => ?_⟩
  simp only [List.map_cons, List.map_nil, List.mem_singleton] at hb
  subst hb
  intro e
  subst e
  have := (fnd_none_iff (wo L a) a).1 (by rw [fnd_wo, if_pos rfl])
  exact this ha
theorem wo_none {L : Fl} {k : Int} (h : fnd L k = none) : wo L k = L := by
  unfold wo
  rw [List.filter_eq_self]
  intro x hx
  have := (fnd_none_iff L k).1 h
  simp only [decide_eq_true_eq]
  exact fun e => this (List.mem_map.2 ⟨x, hx, e⟩)
theorem len_wo : ∀ {L : Fl}, Nd L → ∀ k, (wo L k).length + (if (fnd L k).isSome then 1 else 0) = L.length
  | [], _, k => by simp [wo, fnd]
  | x :: L, h, k => by
    have h2 : Nd L := by unfold Nd at h ⊢; rw [List.map_cons, List.nodup_cons] at h; exact h.2
    have ih := len_wo h2 k
    by_cases e : x.1 = k
    · have hn : fnd L k = none := (fnd_none_iff L k).2 (by unfold Nd at h; rw [List.map_cons, List.nodup_cons, e] at h; exact h.1)
      have e1 : wo (x :: L) k = wo L k := by unfold wo; rw [List.filter_cons_of_neg (by simp [e])]
      rw [e1, wo_none hn]
      unfold fnd
      rw [if_pos e]
      simp
    · have e1 : wo (x :: L) k = x :: wo L k := by unfold wo; rw [List.filter_cons_of_pos (by simp [e])]
      rw [e1]
      unfold fnd
      rw [if_neg e, List.length_cons, List.length_cons]
      omega
theorem len_wi {L : Fl} (h : Nd L) (k : Int) (s : List UInt8) : (wi L k s).length = if (fnd L k).isSome then L.length else L.length + 1 := by
  have := len_wo h k
  unfold wi
  rw [List.length_append, List.length_singleton]
  split at this <;> simp_all <;> omega

/-! a content, cut or written -/
def resz (s : List UInt8) (n : Nat) : List UInt8 := s.take n ++ List.replicate (n - s.length) 0
theorem resz_len (s : List UInt8) (n : Nat) : (resz s n).length = n := by
  unfold resz
  rw [List.length_append, List.length_take, List.length_replicate]
  omega
theorem resz_cut {s : List UInt8} {n : Nat} (h : n ≤ s.length) : resz s n = s.take n := by
  unfold resz
  rw [Nat.sub_eq_zero_of_le h]
  simp
theorem resz_grow {s : List UInt8} {n : Nat} (h : s.length ≤ n) : resz s n = s ++ List.replicate (n - s.length) 0 := by
  unfold resz
  rw [List.take_of_length_le h]
theorem resz_get (s : List UInt8) (n i : Nat) (hi : i < n) : (resz s n)[i]? = some ((s[i]?).getD 0) := by
  unfold resz
  by_cases h : i < s.length
  · rw [List.getElem?_append_left (by rw [List.length_take]; omega), List.getElem?_take, if_pos hi, List.getElem?_eq_getElem h]
    rfl
  · rw [List.getElem?_append_right (by rw [List.length_take]; omega), List.getElem?_replicate, if_pos (by rw [List.length_take]; omega), List.getElem?_eq_none (by omega)]
    rfl
def szw (s : List UInt8) (at_ : Nat) (d : List UInt8) : Nat := if d = [] then s.length else max s.length (at_ + d.length)
def lay (t : List UInt8) (at_ : Nat) (d : List UInt8) : List UInt8 := t.take at_ ++ d ++ t.drop (at_ + d.length)
def wrt (s : List UInt8) (at_ : Nat) (d : List UInt8) : List UInt8 := if d = [] then s else lay (resz s (szw s at_ d)) at_ d
theorem szw_ge (s : List UInt8) (at_ : Nat) (d : List UInt8) : s.length ≤ szw s at_ d := by
  unfold szw
  split <;> omega
theorem szw_end {s : List UInt8} {at_ : Nat} {d : List UInt8} (h : d ≠ []) : at_ + d.length ≤ szw s at_ d := by
  unfold szw
  rw [if_neg h]
  omega
theorem lay_len {t : List UInt8} {at_ : Nat} {d : List UInt8} (h : at_ + d.length ≤ t.length) : (lay t at_ d).length = t.length := by
  unfold lay
  rw [List.length_append, List.length_append, List.length_take, List.length_drop]
  omega
theorem wrt_len (s : List UInt8) (at_ : Nat) (d : List UInt8) : (wrt s at_ d).length = szw s at_ d := by
  unfold wrt
  by_cases h : d = []
  · rw [if_pos h]; unfold szw; rw [if_pos h]
  · rw [if_neg h, lay_len (by rw [resz_len]; exact szw_end h), resz_len]
theorem lay_get {t : List UInt8} {at_ : Nat} {d : List UInt8} (h : at_ + d.length ≤ t.length) (i : Nat) : (lay t at_ d)[i]? = if at_ ≤ i ∧ i < at_ + d.length then d[i - at_]? else t[i]? := by
  unfold lay
  have hl : (t.take at_).length = at_ := by rw [List.length_take]; omega
  by_cases h1 : i < at_
  · rw [List.append_assoc, List.getElem?_append_left (by omega), List.getElem?_take, if_pos h1, if_neg (by omega)]
  · by_cases h2 : i < at_ + d.length
    · rw [List.append_assoc, List.getElem?_append_right (by omega), List.getElem?_append_left (by omega), if_pos ⟨by omega, h2⟩, hl]
    · rw [List.getElem?_append_right (by rw [List.length_append]; omega), if_neg (by omega), List.getElem?_drop, List.length_append, hl]
      congr 1
      omega

/-! effects, results, steps, slots -/
structure Ef where
  kd : Int
  fl : Int
  gn : Int
  at_ : Int
  n : Int
  da : List UInt8
  sz : Int
structure Rs where
  cd : Int
  da : List UInt8
  n : Int
  kd : Int
  sz : Int
structure Sp where
  r : Rs
  e : Ef
structure Sl where
  ob : Int
  wa : Int
  fi : Int
  bu : Int
def szI (s : List UInt8) (at_ : Int) (d : List UInt8) : Int := if d = [] then (s.length : Int) else max (s.length : Int) (at_ + d.length)
theorem szI_nat (s : List UInt8) (n : Nat) (d : List UInt8) : szI s (n : Int) d = (szw s n d : Nat) := by
  unfold szI szw
  split <;> omega
def may (L : Fl) (e : Ef) : Bool :=
  if e.kd = 1 then decide (0 ≤ e.fl ∧ fnd L e.fl = none)
  else if e.kd = 2 then (match fnd L e.fl with | none => false | some s => decide ((s.length : Int) = e.sz ∧ 0 ≤ e.at_ ∧ 0 ≤ e.n ∧ (e.n = 0 ∨ e.n ≤ e.sz - e.at_)))
  else if e.kd = 3 then (match fnd L e.fl with | none => false | some s => decide (0 ≤ e.at_ ∧ e.at_ ≤ 65536 - (e.da.length : Int) ∧ e.sz = szI s e.at_ e.da))
  else if e.kd = 4 then decide ((fnd L e.fl).isSome = true ∧ 0 ≤ e.n ∧ e.n ≤ 65536 ∧ e.sz = e.n)
  else if e.kd = 5 then (fnd L e.fl).isSome
  else if e.kd = 6 then (fnd L e.gn).isSome
  else false
def ctt (L : Fl) (k : Int) : List UInt8 := (fnd L k).getD []
def beh (L : Fl) (e : Ef) : Fl :=
  if e.kd = 1 then wi L e.fl []
  else if e.kd = 3 then wi L e.fl (wrt (ctt L e.fl) e.at_.toNat e.da)
  else if e.kd = 4 then wi L e.fl (resz (ctt L e.fl) e.n.toNat)
  else if e.kd = 5 then wo L e.fl
  else if e.kd = 6 then wo L e.gn
  else L
def rdD (L : Fl) (e : Ef) (d : List UInt8) : List UInt8 := if e.kd = 2 then ((ctt L e.fl).drop e.at_.toNat).take e.n.toNat else d
def idle (s : Sp) : Bool := decide (s.r.cd ≠ 0 ∨ s.e.kd = 0)
def go1 (L : Fl) (s : Sp) : Option (Fl × Rs) :=
  if idle s then some (L, s.r) else if may L s.e then some (beh L s.e, ⟨s.r.cd, rdD L s.e s.r.da, s.r.n, s.r.kd, s.r.sz⟩) else none
def goL : Fl → List Sp → Option (Fl × List Rs)
  | L, [] => some (L, [])
  | L, s :: l => (go1 L s).bind fun p => (goL p.1 l).map fun q => (q.1, p.2 :: q.2)
def opn : Fl → List (Sl × List UInt8) → Option Fl
  | L, [] => some L
  | L, x :: l => if x.1.wa = -1 ∧ x.2 = [] then opn L l else if x.1.wa < 0 ∨ (fnd L x.1.wa).isSome = true then none else opn (wi L x.1.wa x.2) l
def cls : Fl → List Sl → Option (List (List UInt8))
  | L, [] => if L.length = 0 then some [] else none
  | L, s :: l => if s.fi = -1 then (cls L l).map fun q => [] :: q else (fnd L s.fi).bind fun c => (cls (wo L s.fi) l).map fun q => c :: q
def app (sl : List Sl) (sp : List Sp) (cs : List (List UInt8)) : Option (List Rs × List (List UInt8)) :=
  if cs.length = sl.length then (opn [] (sl.zip cs)).bind fun L => (goL L sp).bind fun q => (cls q.1 sl).map fun c => (q.2, c) else none
theorem goL_len : ∀ (l : List Sp) (L : Fl) (q : Fl × List Rs), goL L l = some q → q.2.length = l.length
  | [], L, q, h => by simp only [goL, Option.some.injEq] at h; subst h; rfl
  | s :: l, L, q, h => by
    unfold goL at h
    cases h1 : go1 L s with
    | none => rw [h1] at h; cases h
    | some p =>
      rw [h1] at h
      simp only [Option.bind_some, Option.map_eq_some_iff] at h
      obtain ⟨q', h2, rfl⟩ := h
      simp [goL_len l _ _ h2]
theorem cls_len : ∀ (l : List Sl) (L : Fl) (c : List (List UInt8)), cls L l = some c → c.length = l.length
  | [], L, c, h => by
    unfold cls at h
    split at h
    · simp only [Option.some.injEq] at h; subst h; rfl
    · cases h
  | s :: l, L, c, h => by
    unfold cls at h
    split at h
    · simp only [Option.map_eq_some_iff] at h
      obtain ⟨q, h2, rfl⟩ := h
      simp [cls_len l _ _ h2]
    · cases h1 : fnd L s.fi with
      | none => rw [h1] at h; cases h
      | some p =>
        rw [h1] at h
        simp only [Option.bind_some, Option.map_eq_some_iff] at h
        obtain ⟨q', h2, rfl⟩ := h
        simp [cls_len l _ _ h2]
end Go.Proofs.Ytpjigcccjiidpaa.Ex
