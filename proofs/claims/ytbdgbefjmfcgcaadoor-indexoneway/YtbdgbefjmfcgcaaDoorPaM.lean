import Derived.Test.YtbdgbefjmfcgcaaDoorBaseM
import Derived.Test.YtbdgbefjmfcgcaaDoorResB
import Derived.Test.YtbdgbefjmfcgcaaDoorTrZ
import Derived.Laws.AppendOwnNone
import Derived.Lib.AppendZerosOnto
import Derived.OwnWalk
import Derived.BigQuiet
import Derived.Deep.RegionHeldLaw
namespace Go.Proofs.YtbdgbefjmfcgcaaDoor.Pa
open Go.RowKit Go.Lib

/-- a text cut at a byte: the parts ahead of each, and what is left -/
def step (c : UInt8) (s : List (List UInt8) × List UInt8) (x : UInt8) : List (List UInt8) × List UInt8 := if x = c then (s.1 ++ [s.2], []) else (s.1, s.2 ++ [x])
def cutS (c : UInt8) (l : List UInt8) : List (List UInt8) × List UInt8 := l.foldl (step c) ([], [])
/-- the parts, each with the byte behind it -/
def glue (c : UInt8) (ps : List (List UInt8)) : List UInt8 := (ps.map fun p => p ++ [c]).flatten
theorem glue_append (c : UInt8) (a b : List (List UInt8)) : glue c (a ++ b) = glue c a ++ glue c b := by simp [glue]
theorem glue_cons (c : UInt8) (a : List UInt8) (b : List (List UInt8)) : glue c (a :: b) = a ++ [c] ++ glue c b := by simp [glue]
theorem fold_cut (c : UInt8) (l : List UInt8) (ps : List (List UInt8)) (r : List UInt8) (hp : ∀ p ∈ ps, c ∉ p) (hr : c ∉ r) :
    glue c (l.foldl (step c) (ps, r)).1 ++ (l.foldl (step c) (ps, r)).2 = glue c ps ++ r ++ l ∧ (∀ p ∈ (l.foldl (step c) (ps, r)).1, c ∉ p) ∧ c ∉ (l.foldl (step c) (ps, r)).2 := by
  induction l generalizing ps r with
  | nil => exact ⟨by simp, hp, hr⟩
  | cons x l ih =>
    rw [List.foldl_cons]
    by_cases h : x = c
    · have e : step c (ps, r) x = (ps ++ [r], []) := by simp [step, h]
      rw [e]
      obtain ⟨h1, h2, h3⟩ := ih (ps ++ [r]) [] (fun p hp' => by
        rcases List.mem_append.1 hp' with h' | h'
        · exact hp p h'
        · simp at h'; subst h'; exact hr) (by simp)
      refine ⟨?_, h2, h3⟩
      rw [h1, glue_append, h]
      simp [glue]
    · have e : step c (ps, r) x = (ps, r ++ [x]) := by simp [step, h]
      rw [e]
      obtain ⟨h1, h2, h3⟩ := ih ps (r ++ [x]) hp (by simp; exact ⟨hr, fun e => h e.symm⟩)
      exact ⟨by rw [h1]; simp, h2, h3⟩
theorem cut_glue (c : UInt8) (l : List UInt8) : glue c (cutS c l).1 ++ (cutS c l).2 = l ∧ (∀ p ∈ (cutS c l).1, c ∉ p) ∧ c ∉ (cutS c l).2 := by
  have h := fold_cut c l [] [] (by simp) (by simp)
  rw [show glue c [] ++ [] ++ l = l by simp [glue]] at h
  exact h
theorem fold_free (c : UInt8) (p : List UInt8) (hp : c ∉ p) (s : List (List UInt8) × List UInt8) : p.foldl (step c) s = (s.1, s.2 ++ p) := by
  induction p generalizing s with
  | nil => simp
  | cons x p ih =>
    rw [List.foldl_cons, ih (fun h => hp (List.mem_cons_of_mem _ h))]
    have : x ≠ c := fun e => hp (by simp [e])
    simp [step, this]
theorem cut_of (c : UInt8) (ps : List (List UInt8)) (r : List UInt8) (hp : ∀ p ∈ ps, c ∉ p) (hr : c ∉ r) : cutS c (glue c ps ++ r) = (ps, r) := by
  have key : ∀ (ps qs : List (List UInt8)), (∀ p ∈ ps, c ∉ p) → (glue c ps).foldl (step c) (qs, []) = (qs ++ ps, []) := by
    intro ps
    induction ps with
    | nil => intro qs _; simp [glue]
    | cons a ps ih =>
      intro qs h
      rw [glue_cons, List.foldl_append, List.foldl_append, fold_free c a (h a (by simp))]
      have e : [c].foldl (step c) (qs, [] ++ a) = (qs ++ [a], []) := by simp [step]
      rw [e, ih _ (fun p hp => h p (List.mem_cons_of_mem _ hp))]
      simp
  unfold cutS
  rw [List.foldl_append, key ps [] hp, fold_free c r hr]
  simp
theorem cut_take (c : UInt8) (l : List UInt8) (k : Nat) (x : UInt8) (h : l[k]? = some x) : cutS c (l.take (k + 1)) = step c (cutS c (l.take k)) x := by
  unfold cutS
  rw [List.take_add_one, h, List.foldl_append]
  rfl
theorem cut_rest (c : UInt8) (l : List UInt8) : (cutS c l).2.length ≤ l.length := by
  have h := congrArg List.length (cut_glue c l).1
  rw [List.length_append] at h
  omega
/-- what is left lies at the end -/
theorem cut_drop (c : UInt8) (l : List UInt8) : l.drop (l.length - (cutS c l).2.length) = (cutS c l).2 := by
  have h := (cut_glue c l).1
  have hl := congrArg List.length h
  rw [List.length_append] at hl
  have e : l.length - (cutS c l).2.length = (glue c (cutS c l).1).length := by omega
  rw [e]
  have h2 : (glue c (cutS c l).1 ++ (cutS c l).2).drop (glue c (cutS c l).1).length = (cutS c l).2 := by simp
  rw [h] at h2
  exact h2

end Go.Proofs.YtbdgbefjmfcgcaaDoor.Pa

namespace Go.Proofs.YtbdgbefjmfcgcaaDoor.Pa
open Go.RowKit Go.Lib

/-- a byte of a name -/
def nb (b : UInt8) : Bool := decide (33 ≤ b.toNat) && decide (b.toNat ≤ 126) && decide (b.toNat ≠ 47)
/-- a name -/
def isN (l : List UInt8) : Bool := decide (1 ≤ l.length) && decide (l.length ≤ 32) && decide (l ≠ [46]) && decide (l ≠ [46, 46]) && l.all nb
def nm (s : ByteArray) : Bool := isN s.data.toList
def nameE (s : ByteArray) : Int := if nm s = true then 0 else 111
def fault (L : List ByteArray) : Int := if L.all nm = true then (if L.length ≤ 16 then 0 else 112) else 111
/-- a text cut at each slash -/
def pieces (t : List UInt8) : List (List UInt8) := (cutS 47 t).1 ++ [(cutS 47 t).2]
def rooted (t : List UInt8) : Bool := decide (t.length ≤ 1024) && decide (t.head? = some 47) && (decide (t = [47]) || decide (t.getLast? ≠ some 47))
def pcs (s : ByteArray) : List ByteArray := (pieces s.data.toList.tail).map str
def parseE (s : ByteArray) : Int := if rooted s.data.toList = true then (if s.data.toList = [47] then 0 else fault (pcs s)) else 110
def parseY (s : ByteArray) : List ByteArray := if parseE s = 0 then (if s.data.toList = [47] then [] else pcs s) else []
def slashed (L : List ByteArray) : List UInt8 := (L.map fun s => 47 :: s.data.toList).flatten
def textL (L : List ByteArray) : List UInt8 := if L = [] then [47] else slashed L
def textY (L : List ByteArray) : ByteArray := if fault L = 0 then str (textL L) else str []

theorem nm_free {s : ByteArray} (h : nm s = true) : (47 : UInt8) ∉ s.data.toList ∧ s.data.toList ≠ [] ∧ s.data.toList.length ≤ 32 := by
  simp only [nm, isN, Bool.and_eq_true, decide_eq_true_eq] at h
  obtain ⟨⟨⟨⟨h1, h2⟩, _⟩, _⟩, h5⟩ := h
  refine ⟨fun hm => ?_, fun e => by rw [e] at h1; simp at h1, h2⟩
  have := List.all_eq_true.1 h5 _ hm
  simp [nb] at this
theorem fault_zero {L : List ByteArray} : fault L = 0 ↔ L.all nm = true ∧ L.length ≤ 16 := by
  unfold fault
  by_cases h1 : L.all nm = true
  · rw [if_pos h1]
    by_cases h2 : L.length ≤ 16
    · rw [if_pos h2]; exact ⟨fun _ => ⟨h1, h2⟩, fun _ => rfl⟩
    · rw [if_neg h2]; exact ⟨fun h => (by cases h), fun h => absurd h.2 h2⟩
  · rw [if_neg h1]; exact ⟨fun h => (by cases h), fun h => absurd h.1 h1⟩
theorem fault_nil : fault [] = 0 := rfl
theorem fault_vals (L : List ByteArray) : fault L = 0 ∨ fault L = 111 ∨ fault L = 112 := by
  unfold fault
  by_cases h1 : L.all nm = true
  · rw [if_pos h1]
    by_cases h2 : L.length ≤ 16
    · rw [if_pos h2]; exact .inl rfl
    · rw [if_neg h2]; exact .inr (.inr rfl)
  · rw [if_neg h1]; exact .inr (.inl rfl)
theorem parse_vals (s : ByteArray) : parseE s = 0 ∨ parseE s = 110 ∨ parseE s = 111 ∨ parseE s = 112 := by
  unfold parseE
  by_cases h1 : rooted s.data.toList = true
  · rw [if_pos h1]
    by_cases h2 : s.data.toList = [47]
    · rw [if_pos h2]; exact .inl rfl
    · rw [if_neg h2]
      rcases fault_vals (pcs s) with h | h | h
      · exact .inl h
      · exact .inr (.inr (.inl h))
      · exact .inr (.inr (.inr h))
  · rw [if_neg h1]; exact .inr (.inl rfl)

theorem glue_slash (c : UInt8) (ps : List (List UInt8)) (r : List UInt8) : c :: (glue c ps ++ r) = ((ps ++ [r]).map (c :: ·)).flatten := by
  induction ps with
  | nil => simp [glue]
  | cons a ps ih =>
    rw [glue_cons, List.cons_append, List.map_cons, List.flatten_cons, ← ih]
    simp
theorem sl_pieces (t : List UInt8) : ((pieces t).map (47 :: ·)).flatten = 47 :: t ∧ ∀ p ∈ pieces t, (47 : UInt8) ∉ p := by
  have h := cut_glue 47 t
  refine ⟨?_, fun p hp => ?_⟩
  · unfold pieces
    rw [← glue_slash, h.1]
  · rcases List.mem_append.1 hp with h' | h'
    · exact h.2.1 p h'
    · simp at h'; subst h'; exact h.2.2
theorem pieces_sl (ps : List (List UInt8)) (hne : ps ≠ []) (h : ∀ p ∈ ps, (47 : UInt8) ∉ p) : ∃ t, (ps.map (47 :: ·)).flatten = 47 :: t ∧ pieces t = ps := by
  obtain ⟨qs, r, rfl⟩ : ∃ qs r, ps = qs ++ [r] := ⟨ps.dropLast, ps.getLast hne, (List.dropLast_concat_getLast hne).symm⟩
  refine ⟨glue 47 qs ++ r, (glue_slash 47 qs r).symm, ?_⟩
  unfold pieces
  rw [cut_of 47 qs r (fun p hp => h p (by simp [hp])) (h r (by simp))]
theorem slashed_data (L : List ByteArray) : slashed L = ((L.map fun s => s.data.toList).map (47 :: ·)).flatten := by
  unfold slashed
  rw [List.map_map]
  rfl
theorem slashed_append (a b : List ByteArray) : slashed (a ++ b) = slashed a ++ slashed b := by simp [slashed]
theorem slashed_take (L : List ByteArray) (k : Nat) (x : ByteArray) (h : L[k]? = some x) : slashed (L.take (k + 1)) = slashed (L.take k) ++ 47 :: x.data.toList := by
  rw [List.take_add_one, h, slashed_append]
  simp [slashed]
theorem map_str_data (ps : List (List UInt8)) : (ps.map str).map (fun s => s.data.toList) = ps := by
  rw [List.map_map]
  have : (fun s : ByteArray => s.data.toList) ∘ str = id := by funext l; simp [str_data]
  rw [this, List.map_id]
theorem map_data_str (L : List ByteArray) : (L.map (fun s => s.data.toList)).map str = L := by
  rw [List.map_map]
  have : str ∘ (fun s : ByteArray => s.data.toList) = id := by funext s; simp [str_of]
  rw [this, List.map_id]
theorem pcs_ne (s : ByteArray) : pcs s ≠ [] := by
  unfold pcs pieces
  simp
theorem slashed_pcs (s : ByteArray) (h : s.data.toList.head? = some 47) : slashed (pcs s) = s.data.toList := by
  unfold pcs
  rw [slashed_data, map_str_data, (sl_pieces _).1]
  cases hs : s.data.toList with
  | nil => rw [hs] at h; cases h
  | cons x t => rw [hs] at h; simp at h; subst h; rfl
theorem slashed_len (L : List ByteArray) (h : L.all nm = true) : (slashed L).length ≤ 33 * L.length := by
  induction L with
  | nil => simp [slashed]
  | cons x L ih =>
    simp only [List.all_cons, Bool.and_eq_true] at h
    have h1 := (nm_free h.1).2.2
    have h2 := ih h.2
    have e : slashed (x :: L) = (47 :: x.data.toList) ++ slashed L := by simp [slashed]
    rw [e, List.length_append, List.length_cons, List.length_cons]
    omega
theorem rooted_parts {t : List UInt8} (h : rooted t = true) : t.length ≤ 1024 ∧ t.head? = some 47 ∧ (t = [47] ∨ t.getLast? ≠ some 47) := by
  simp only [rooted, Bool.and_eq_true, Bool.or_eq_true, decide_eq_true_eq] at h
  exact ⟨h.1.1, h.1.2, h.2⟩
theorem rooted_mk {t : List UInt8} (h1 : t.length ≤ 1024) (h2 : t.head? = some 47) (h3 : t = [47] ∨ t.getLast? ≠ some 47) : rooted t = true := by
  simp only [rooted, Bool.and_eq_true, Bool.or_eq_true, decide_eq_true_eq]
  exact ⟨⟨h1, h2⟩, h3⟩
/-- a text that is taken is the text of its names -/
theorem parse_text {s : ByteArray} (h : parseE s = 0) : fault (parseY s) = 0 ∧ textY (parseY s) = s := by
  have h0 := h
  unfold parseY
  rw [if_pos h]
  unfold parseE at h
  by_cases hr : rooted s.data.toList = true
  · rw [if_pos hr] at h
    by_cases h1 : s.data.toList = [47]
    · rw [if_pos h1]
      refine ⟨rfl, ?_⟩
      unfold textY textL
      rw [if_pos fault_nil, if_pos rfl, ← h1, str_of]
    · rw [if_neg h1] at h ⊢
      refine ⟨h, ?_⟩
      unfold textY textL
      rw [if_pos h, if_neg (pcs_ne s), slashed_pcs s (rooted_parts hr).2.1, str_of]
  · rw [if_neg hr] at h; cases h
theorem textY_ok {L : List ByteArray} (h : fault L = 0) : textY L = str (textL L) := by unfold textY; rw [if_pos h]
/-- names that are taken are those of their text -/
theorem text_parse {L : List ByteArray} (h : fault L = 0) : parseE (textY L) = 0 ∧ parseY (textY L) = L := by
  rw [textY_ok h]
  obtain ⟨ha, hl⟩ := fault_zero.1 h
  by_cases hn : L = []
  · subst hn
    exact ⟨by decide, by decide⟩
  · have hfree : ∀ p ∈ L.map (fun s => s.data.toList), (47 : UInt8) ∉ p := fun p hp => by
      obtain ⟨s, hs, rfl⟩ := List.mem_map.1 hp
      exact (nm_free (List.all_eq_true.1 ha s hs)).1
    obtain ⟨t, ht, hp⟩ := pieces_sl (L.map fun s => s.data.toList) (by simpa using hn) hfree
    rw [← slashed_data] at ht
    have et : textL L = 47 :: t := by unfold textL; rw [if_neg hn, ht]
    have epc : pcs (str (textL L)) = L := by
      unfold pcs
      rw [str_data, et, List.tail_cons, hp, map_data_str]
    have hne : textL L ≠ [47] := by
      intro e
      rw [et] at e
      injection e with _ e
      subst e
      obtain ⟨x, L', rfl⟩ : ∃ x L', L = x :: L' := by
        cases L with
        | nil => exact absurd rfl hn
        | cons x L' => exact ⟨x, L', rfl⟩
      have h1 : pieces [] = [[]] := rfl
      rw [h1] at hp
      simp at hp
      simp only [List.all_cons, Bool.and_eq_true] at ha
      have hx := (nm_free ha.1).2.1
      exact hx (by simpa using hp.1.symm)
    have hlast : (textL L).getLast? ≠ some 47 := by
      obtain ⟨L', x, rfl⟩ : ∃ L' x, L = L' ++ [x] := ⟨L.dropLast, L.getLast hn, (List.dropLast_concat_getLast hn).symm⟩
      have hx := nm_free (List.all_eq_true.1 ha x (by simp))
      unfold textL
      rw [if_neg hn, slashed_append]
      have e : slashed [x] = 47 :: x.data.toList := by simp [slashed]
      rw [e, List.getLast?_append]
      intro hh
      have e2 : (47 :: x.data.toList).getLast? = x.data.toList.getLast? := by
        cases hd : x.data.toList with
        | nil => exact absurd hd hx.2.1
        | cons a b => simp [List.getLast?_cons_cons]
      rw [e2] at hh
      cases hg : x.data.toList.getLast? with
      | none => exact hx.2.1 (List.getLast?_eq_none_iff.1 hg)
      | some y =>
        rw [hg] at hh
        simp at hh
        subst hh
        exact hx.1 (List.mem_of_getLast? hg)
    have hlen : (textL L).length ≤ 1024 := by
      have := slashed_len L ha
      unfold textL
      rw [if_neg hn]
      omega
    have hE : parseE (str (textL L)) = 0 := by
      unfold parseE
      rw [str_data, if_pos (rooted_mk hlen (by rw [et]; rfl) (.inr hlast)), if_neg hne, epc, h]
    refine ⟨hE, ?_⟩
    unfold parseY
    rw [if_pos hE, str_data, if_neg hne, epc]
theorem parse_len (s : ByteArray) : (parseY s).length ≤ 16 ∧ (parseY s).all nm = true := by
  by_cases h : parseE s = 0
  · have := fault_zero.1 (parse_text h).1
    exact ⟨this.2, this.1⟩
  · unfold parseY
    rw [if_neg h]
    exact ⟨by simp, rfl⟩
theorem parse_nil {s : ByteArray} (h : parseE s ≠ 0) : parseY s = [] := by unfold parseY; rw [if_neg h]
theorem parse_inj {s t : ByteArray} (hs : parseE s = 0) (ht : parseE t = 0) (h : parseY s = parseY t) : s = t := by
  rw [← (parse_text hs).2, ← (parse_text ht).2, h]
end Go.Proofs.YtbdgbefjmfcgcaaDoor.Pa

namespace Go.Proofs.YtbdgbefjmfcgcaaDoor.Ix
open Go.RowKit Go.Lib

/-! a configuration -/
structure Cf where
  sl : Int
  fl : Int
  dr : Int
  mf : Int
  ls : Int
  pg : Int
structure Cn where
  sl : Nat
  fl : Nat
  dr : Nat
  mf : Nat
  ls : Nat
  pg : Nat
def Cn.cf (c : Cn) : Cf := ⟨c.sl, c.fl, c.dr, c.mf, c.ls, c.pg⟩
def Cf.n (c : Cf) : Cn := ⟨c.sl.toNat, c.fl.toNat, c.dr.toNat, c.mf.toNat, c.ls.toNat, c.pg.toNat⟩
def Cn.rows (c : Cn) : Nat := c.fl + c.sl
def Cn.len (c : Cn) : Nat := 36 * c.dr + 40 * c.fl + 44 * (c.fl + c.sl) + 4
def Cn.body (c : Cn) : Nat := c.pg - 5
def Cn.pgs (c : Cn) : Nat := (c.len + c.body - 1) / c.body
def Cf.In (c : Cf) : Prop := 1 ≤ c.sl ∧ c.sl ≤ 64 ∧ 1 ≤ c.fl ∧ c.fl ≤ 65536 ∧ 0 ≤ c.dr ∧ c.dr ≤ 4096 ∧ 0 ≤ c.mf ∧ c.mf ≤ 65536 ∧ 16 ≤ c.ls ∧ c.ls ≤ 65536 ∧ 64 ≤ c.pg ∧ c.pg ≤ 65536
def Cn.In (c : Cn) : Prop := 1 ≤ c.sl ∧ c.sl ≤ 64 ∧ 1 ≤ c.fl ∧ c.fl ≤ 65536 ∧ c.dr ≤ 4096 ∧ c.mf ≤ 65536 ∧ 16 ≤ c.ls ∧ c.ls ≤ 65536 ∧ 64 ≤ c.pg ∧ c.pg ≤ 65536
def Cn.May (c : Cn) : Prop := c.In ∧ c.pgs ≤ 1024
def Cf.May (c : Cf) : Prop := c.In ∧ c.n.pgs ≤ 1024
instance (c : Cf) : Decidable c.In := by unfold Cf.In; infer_instance
instance (c : Cf) : Decidable c.May := by unfold Cf.May; infer_instance
theorem Cf.In.cn {c : Cf} (h : c.In) : c = c.n.cf ∧ c.n.In := by
  obtain ⟨sl, fl, dr, mf, ls, pg⟩ := c
  simp only [Cf.In] at h
  simp only [Cf.n, Cn.cf, Cn.In, Cf.mk.injEq]
  omega
theorem Cn.cf_n (c : Cn) : c.cf.n = c := by
  obtain ⟨sl, fl, dr, mf, ls, pg⟩ := c
  simp [Cf.n, Cn.cf]
theorem Cn.In.cf {c : Cn} (h : c.In) : c.cf.In := by
  obtain ⟨sl, fl, dr, mf, ls, pg⟩ := c
  simp only [Cn.In] at h
  simp only [Cn.cf, Cf.In]
  omega
theorem Cn.May.cf {c : Cn} (h : c.May) : c.cf.May := ⟨h.1.cf, by rw [Cn.cf_n]; exact h.2⟩
theorem Cf.May.cn {c : Cf} (h : c.May) : ∃ n : Cn, n.May ∧ c = n.cf := ⟨c.n, ⟨h.1.cn.2, h.2⟩, h.1.cn.1⟩
theorem Cn.cf_inj {c d : Cn} (h : c.cf = d.cf) : c = d := by rw [← c.cf_n, h, d.cf_n]
theorem cn_of {c : Cf} (h : c.In) : ∃ n : Cn, n.In ∧ c = n.cf := ⟨c.n, h.cn.2, h.cn.1⟩
theorem may_iff (c : Cn) (h : c.In) : c.cf.May ↔ c.pgs ≤ 1024 := by
  unfold Cf.May
  rw [Cn.cf_n]
  exact ⟨fun x => x.2, fun x => ⟨h.cf, x⟩⟩
theorem Cn.In.len {c : Cn} (h : c.In) : 132 ≤ c.len ∧ c.len ≤ 5655300 ∧ 59 ≤ c.body ∧ c.body ≤ 65531 ∧ c.body + 5 = c.pg := by
  obtain ⟨sl, fl, dr, mf, ls, pg⟩ := c
  simp only [Cn.In] at h
  simp only [Cn.len, Cn.body]
  omega
/-- as few pages as hold the image -/
theorem Cn.In.fit {c : Cn} (h : c.In) : c.len ≤ c.pgs * c.body ∧ c.pgs * c.body < c.len + c.body ∧ 1 ≤ c.pgs := by
  obtain ⟨h1, h2, h3, h4, h5⟩ := h.len
  unfold Cn.pgs
  have h6 := Nat.div_add_mod (c.len + c.body - 1) c.body
  have h7 := Nat.mod_lt (c.len + c.body - 1) (show 0 < c.body by omega)
  rw [Nat.mul_comm] at h6
  refine ⟨by omega, by omega, ?_⟩
  exact (Nat.le_div_iff_mul_le (by omega)).2 (by omega)
theorem pgs_iff {c : Cn} (h : c.In) {m : Nat} (h1 : c.len ≤ m * c.body) (h2 : (m - 1) * c.body < c.len) (h0 : 1 ≤ m) : m = c.pgs := by
  obtain ⟨a1, a2, a3⟩ := h.fit
  obtain ⟨b1, b2, b3, b4, b5⟩ := h.len
  rcases Nat.lt_trichotomy m c.pgs with h3 | h3 | h3
  · have : (m + 1) * c.body ≤ c.pgs * c.body := Nat.mul_le_mul_right _ h3
    rw [Nat.add_mul] at this
    omega
  · exact h3
  · have : c.pgs * c.body ≤ (m - 1) * c.body := Nat.mul_le_mul_right _ (by omega)
    omega

/-! numbers, the highest byte first -/
def bgL : Nat → Nat → List UInt8
  | 0, _ => []
  | k + 1, n => UInt8.ofNat (n / 256 ^ k % 256) :: bgL k n
def nuL (l : List UInt8) : Nat := l.foldl (fun a b => a * 256 + b.toNat) 0
theorem bgL_len : ∀ k n, (bgL k n).length = k
  | 0, _ => rfl
  | k + 1, n => by rw [bgL, List.length_cons, bgL_len k n]
theorem nuL_one (l : List UInt8) (b : UInt8) : nuL (l ++ [b]) = nuL l * 256 + b.toNat := by simp [nuL]
theorem fold_bgL : ∀ (k n a : Nat), (bgL k n).foldl (fun a b => a * 256 + b.toNat) a = a * 256 ^ k + n % 256 ^ k
  | 0, n, a => by simp [bgL, Nat.mod_one]
  | k + 1, n, a => by
    rw [bgL, List.foldl_cons, fold_bgL k n, show (UInt8.ofNat (n / 256 ^ k % 256)).toNat = n / 256 ^ k % 256 by simp, Nat.pow_succ, Nat.mod_mul, Nat.add_mul]
    rw [Nat.mul_comm (n / 256 ^ k % 256), Nat.mul_assoc, Nat.mul_comm 256]
    omega
theorem nuL_bgL (k n : Nat) (h : n < 256 ^ k) : nuL (bgL k n) = n := by
  unfold nuL
  rw [fold_bgL, Nat.mod_eq_of_lt h]
  omega
theorem fold_from : ∀ (l : List UInt8) (a : Nat), l.foldl (fun a b => a * 256 + b.toNat) a = a * 256 ^ l.length + nuL l
  | [], a => by simp [nuL]
  | x :: l, a => by
    show l.foldl _ (a * 256 + x.toNat) = _ + l.foldl _ (0 * 256 + x.toNat)
    rw [fold_from l, fold_from l, List.length_cons, Nat.pow_succ, Nat.zero_mul, Nat.zero_add, Nat.add_mul, Nat.mul_assoc, Nat.mul_comm 256]
    omega
theorem nuL_cons (b : UInt8) (l : List UInt8) : nuL (b :: l) = b.toNat * 256 ^ l.length + nuL l := by
  show l.foldl _ (0 * 256 + b.toNat) = _
  rw [fold_from, Nat.zero_mul, Nat.zero_add]
theorem nuL_lt : ∀ (l : List UInt8), nuL l < 256 ^ l.length
  | [] => by decide
  | b :: l => by
    rw [nuL_cons, List.length_cons, Nat.pow_succ]
    have h1 := nuL_lt l
    have h2 : (b.toNat + 1) * 256 ^ l.length ≤ 256 * 256 ^ l.length := Nat.mul_le_mul_right _ b.toNat_lt
    rw [Nat.add_mul, Nat.mul_comm 256] at h2
    omega
theorem bgL_mod : ∀ k n m, n % 256 ^ k = m % 256 ^ k → bgL k n = bgL k m
  | 0, n, m, _ => rfl
  | k + 1, n, m, h => by
    rw [bgL, bgL]
    have h4 : n % 256 ^ k = m % 256 ^ k := by
      have := congrArg (· % 256 ^ k) h
      simp only [Nat.pow_succ, Nat.mod_mul_right_mod] at this
      exact this
    rw [bgL_mod k n m h4]
    rw [Nat.pow_succ, Nat.mod_mul, Nat.mod_mul, h4] at h
    have h5 : 256 ^ k * (n / 256 ^ k % 256) = 256 ^ k * (m / 256 ^ k % 256) := by omega
    rw [Nat.eq_of_mul_eq_mul_left (Nat.pos_of_ne_zero (by simp)) h5]
theorem bgL_nuL : ∀ (l : List UInt8), bgL l.length (nuL l) = l
  | [] => rfl
  | b :: l => by
    have hl := nuL_lt l
    have hp : 0 < 256 ^ l.length := Nat.pos_of_ne_zero (by simp)
    have h2 : nuL (b :: l) / 256 ^ l.length % 256 = b.toNat := by
      rw [nuL_cons, Nat.mul_comm, Nat.mul_add_div hp, Nat.div_eq_of_lt hl, Nat.add_zero]
      exact Nat.mod_eq_of_lt b.toNat_lt
    rw [List.length_cons, bgL, h2, bgL_mod l.length (nuL (b :: l)) (nuL l) (by rw [nuL_cons, Nat.mul_comm, Nat.mul_add_mod]), bgL_nuL l]
    simp

/-! rows -/
structure Nd where
  kd : Int
  nu : Int
  pa : Int
  nm : ByteArray
  sz : Int
structure Ob where
  nm : ByteArray
  tg : ByteArray
  bk : Int
  ow : Int
structure Rf where
  nm : ByteArray
  tg : ByteArray
def e0 : ByteArray := { data := #[] }
def zN : Nd := ⟨0, 0, 0, e0, 0⟩
def z0 (n : Nat) : List UInt8 := List.replicate n 0
def nodeL (n : Nd) : List UInt8 := 1 :: (bgL 2 n.pa.toNat ++ (bgL 1 n.nm.size ++ (n.nm.data.toList ++ z0 (32 - n.nm.size))))
def dirL (n : Nd) : List UInt8 := if n.kd = 0 then z0 36 else nodeL n
def filL (n : Nd) : List UInt8 := dirL n ++ bgL 4 n.sz.toNat
def objL (o : Ob) : List UInt8 := o.nm.data.toList ++ (o.tg.data.toList ++ (bgL 4 o.bk.toNat ++ bgL 4 (o.ow + 1).toNat))
def queL (q : Int) : List UInt8 := bgL 4 q.toNat
def refL (r : Rf) : List UInt8 := r.nm.data.toList ++ r.tg.data.toList

/-! what fits -/
def plc (c : Cn) (n : Nd) : Int := if n.kd = 1 then n.nu else c.dr + 1 + n.nu
def NdF (c : Cn) (n : Nd) : Prop := (n.kd = 1 ∧ 1 ≤ n.nu ∧ n.nu ≤ c.dr ∧ n.sz = 0 ∨ n.kd = 2 ∧ 0 ≤ n.nu ∧ n.nu < c.fl ∧ 0 ≤ n.sz ∧ n.sz ≤ c.mf) ∧ 0 ≤ n.pa ∧ n.pa ≤ c.dr ∧ Pa.nm n.nm = true
instance (c : Cn) (n : Nd) : Decidable (NdF c n) := by unfold NdF; infer_instance
def risB (c : Cn) : Int → List Nd → Bool
  | _, [] => true
  | l, n :: r => (decide (NdF c n) && decide (l < plc c n)) && risB c (plc c n) r
def treeB (c : Cn) (f d : Int) (T : List Nd) : Bool := decide (f = c.fl ∧ d = c.dr) && risB c 0 T
def ObF (c : Cn) (o : Ob) : Prop := o.nm.size = 16 ∧ o.tg.size = 16 ∧ 0 ≤ o.bk ∧ o.bk ≤ 1048576 ∧ -1 ≤ o.ow ∧ o.ow < c.fl
instance (c : Cn) (o : Ob) : Decidable (ObF c o) := by unfold ObF; infer_instance
def poolB (c : Cn) (O : List Ob) (Q : List Int) : Bool := decide (O.length = c.rows ∧ Q.length ≤ c.rows) && (O.all (fun o => decide (ObF c o)) && Q.all (fun q => decide (0 ≤ q ∧ q < c.rows)))

/-! the image -/
def slot (c : Cn) (T : List Nd) (p : Int) : Nd := (T.find? (fun n => plc c n == p)).getD zN
def dirsL (c : Cn) (T : List Nd) : List Nd := (List.range c.dr).map fun (k : Nat) => slot c T ((k : Int) + 1)
def filsL (c : Cn) (T : List Nd) : List Nd := (List.range c.fl).map fun (k : Nat) => slot c T (c.dr + 1 + (k : Int))
def cntL (c : Cn) (Q : List Int) : List Int := (Q.length : Int) :: (Q ++ List.replicate (c.rows - Q.length) 0)
def imgL (c : Cn) (T : List Nd) (O : List Ob) (Q : List Int) : List UInt8 := (dirsL c T).flatMap dirL ++ ((filsL c T).flatMap filL ++ (O.flatMap objL ++ (cntL c Q).flatMap queL))
def whoL (c : Cn) (T : List Nd) (O : List Ob) (Q : List Int) : List UInt8 := imgL c T O Q ++ z0 (c.pgs * c.body - c.len)
def seg (I : List UInt8) (a n : Nat) : List UInt8 := (I.drop a).take n
def cutL (b m : Nat) (L : List UInt8) : List ByteArray := (List.range m).map fun i => str (seg L (i * b) b)

/-! what is read -/
def rdN (row : List UInt8) (kd : Int) : Nd := if row.getD 0 0 = 0 then zN else ⟨kd, 0, (nuL (seg row 1 2) : Int), str (seg row 4 (min (row.getD 3 0).toNat 32)), 0⟩
def rdD (row : List UInt8) : Nd := rdN row 1
def rdF (row : List UInt8) : Nd := { rdN row 2 with sz := (nuL (seg row 36 4) : Int) }
def rdO (row : List UInt8) : Ob := ⟨str (seg row 0 16), str (seg row 16 16), (nuL (seg row 32 4) : Int), (nuL (seg row 36 4) : Int) - 1⟩
def rdR (row : List UInt8) : Rf := ⟨str (seg row 0 16), str (seg row 16 16)⟩
def numd : Int → List Nd → List Nd
  | _, [] => []
  | f, n :: r => if n.kd = 0 then numd (f + 1) r else { n with nu := f } :: numd (f + 1) r
def rowsA (I : List UInt8) (start size count : Nat) : List (List UInt8) := (List.range count).map fun i => seg I (start + i * size) size
def rdT (c : Cn) (I : List UInt8) : List Nd := numd 1 ((rowsA I 0 36 c.dr).map rdD) ++ numd 0 ((rowsA I (36 * c.dr) 40 c.fl).map rdF)
def rdP (c : Cn) (I : List UInt8) : List Ob := (rowsA I (36 * c.dr + 40 * c.fl) 40 c.rows).map rdO
def rdL (c : Cn) (I : List UInt8) : List Int := (rowsA I (36 * c.dr + 40 * c.fl + 40 * c.rows) 4 (1 + c.rows)).map fun r => (nuL r : Int)
def rdQ (c : Cn) (I : List UInt8) : List Int := (rdL c I).tail.take ((rdL c I).headD 0).toNat
end Go.Proofs.YtbdgbefjmfcgcaaDoor.Ix

namespace Go.Proofs.YtbdgbefjmfcgcaaDoor.Ix
open Go.RowKit Go.Lib

/-! pieces -/
theorem seg_len {I : List UInt8} {a n : Nat} (h : a + n ≤ I.length) : (seg I a n).length = n := by
  unfold seg
  rw [List.length_take, List.length_drop]
  omega
theorem seg_mid (A B C : List UInt8) (a n : Nat) (ha : a = A.length) (hn : n = B.length) : seg (A ++ (B ++ C)) a n = B := by
  subst ha
  subst hn
  unfold seg
  rw [List.drop_left, List.take_left]
theorem seg_app (A B : List UInt8) (a n : Nat) (h : A.length ≤ a) : seg (A ++ B) a n = seg B (a - A.length) n := by
  unfold seg
  rw [List.drop_append, List.drop_eq_nil_of_le h, List.nil_append]
theorem rows_flat {α : Type} (f : α → List UInt8) (k : Nat) (C : List UInt8) : ∀ (l : List α) (A : List UInt8), (∀ a ∈ l, (f a).length = k) → rowsA (A ++ (l.flatMap f ++ C)) A.length k l.length = l.map f
  | [], A, _ => rfl
  | a :: l, A, h => by
    have h1 := h a (by simp)
    have ih := rows_flat f k C l (A ++ f a) (fun b hb => h b (by simp [hb]))
    unfold rowsA at ih ⊢
    rw [List.length_cons, List.range_succ_eq_map, List.map_cons, List.map_cons, List.map_map, List.flatMap_cons, List.append_assoc]
    congr 1
    · exact seg_mid A (f a) _ _ _ (by omega) h1.symm
    · rw [← ih]
      apply List.map_congr_left
      intro i _
      show seg _ (A.length + (i + 1) * k) k = _
      rw [List.append_assoc, List.length_append, h1, Nat.add_mul]
      congr 1
      omega
theorem flat_length {α : Type} (f : α → List UInt8) (k : Nat) : ∀ (l : List α), (∀ a ∈ l, (f a).length = k) → (l.flatMap f).length = k * l.length
  | [], _ => by simp
  | a :: l, h => by rw [List.flatMap_cons, List.length_append, h a (by simp), flat_length f k l (fun b hb => h b (by simp [hb])), List.length_cons, Nat.mul_add]; omega

/-! what fits -/
theorem ris_iff (c : Cn) : ∀ (T : List Nd) (l : Int), risB c l T = true ↔ (∀ m ∈ T, NdF c m ∧ l < plc c m) ∧ T.Pairwise (fun a b => plc c a < plc c b)
  | [], l => by simp [risB]
  | n :: r, l => by
    rw [risB, Bool.and_eq_true, Bool.and_eq_true, decide_eq_true_eq, decide_eq_true_eq, ris_iff c r, List.pairwise_cons]
    constructor
    · rintro ⟨⟨h1, h2⟩, h3, h4⟩
      refine ⟨fun m hm => ?_, fun m hm => (h3 m hm).2, h4⟩
      rcases List.mem_cons.1 hm with rfl | hm
      · exact ⟨h1, h2⟩
      · exact ⟨(h3 m hm).1, Int.lt_trans h2 (h3 m hm).2⟩
    · rintro ⟨h1, h2, h3⟩
      exact ⟨h1 n (by simp), fun m hm => ⟨(h1 m (by simp [hm])).1, h2 m hm⟩, h3⟩
theorem plc_ge {c : Cn} {n : Nd} (h : NdF c n) : 1 ≤ plc c n ∧ plc c n ≤ c.dr + c.fl ∧ (n.kd = 1 ↔ plc c n ≤ c.dr) := by
  unfold NdF at h
  unfold plc
  split <;> omega
theorem nm_size {s : ByteArray} (h : Pa.nm s = true) : 1 ≤ s.size ∧ s.size ≤ 32 := by
  simp only [Pa.nm, Pa.isN, Bool.and_eq_true, decide_eq_true_eq] at h
  exact ⟨h.1.1.1.1, h.1.1.1.2⟩
theorem nodeL_len {n : Nd} (h : n.nm.size ≤ 32) : (nodeL n).length = 36 := by
  have hs : n.nm.data.toList.length = n.nm.size := rfl
  simp only [nodeL, z0, List.length_cons, List.length_append, bgL_len, List.length_replicate, hs]
  omega
theorem dirL_len {n : Nd} (h : n.nm.size ≤ 32) : (dirL n).length = 36 := by
  unfold dirL
  split
  · simp [z0]
  · exact nodeL_len h
theorem filL_len {n : Nd} (h : n.nm.size ≤ 32) : (filL n).length = 40 := by
  unfold filL
  rw [List.length_append, dirL_len h, bgL_len]
theorem objL_len {c : Cn} {o : Ob} (h : ObF c o) : (objL o).length = 40 := by
  have h1 : o.nm.data.toList.length = o.nm.size := rfl
  have h2 : o.tg.data.toList.length = o.tg.size := rfl
  simp only [objL, List.length_append, bgL_len, h1, h2, h.1, h.2.1]
theorem queL_len (q : Int) : (queL q).length = 4 := bgL_len _ _
theorem slot_or {c : Cn} {T : List Nd} {p : Int} (h : ∀ m ∈ T, NdF c m) : slot c T p = zN ∨ slot c T p ∈ T ∧ NdF c (slot c T p) ∧ plc c (slot c T p) = p := by
  unfold slot
  cases e : T.find? (fun n => plc c n == p) with
  | none => exact .inl rfl
  | some n =>
    refine .inr ⟨List.mem_of_find?_eq_some e, h n (List.mem_of_find?_eq_some e), ?_⟩
    have := List.find?_some e
    simpa using this
theorem slot_size {c : Cn} {T : List Nd} {p : Int} (h : ∀ m ∈ T, NdF c m) : (slot c T p).nm.size ≤ 32 := by
  rcases slot_or (p := p) h with e | ⟨_, e, _⟩
  · rw [e]; exact Nat.zero_le _
  · exact (nm_size e.2.2.2).2
theorem imgL_len {c : Cn} {T : List Nd} {O : List Ob} {Q : List Int} (h : ∀ m ∈ T, NdF c m) (hO : ∀ o ∈ O, ObF c o) (h1 : O.length = c.rows) (h2 : Q.length ≤ c.rows) :
    ((dirsL c T).flatMap dirL).length = 36 * c.dr ∧ ((filsL c T).flatMap filL).length = 40 * c.fl ∧ (O.flatMap objL).length = 40 * c.rows ∧ ((cntL c Q).flatMap queL).length = 4 * (1 + c.rows) ∧ (imgL c T O Q).length = c.len := by
  have a1 : ((dirsL c T).flatMap dirL).length = 36 * c.dr := by
    rw [flat_length dirL 36 _ (fun a ha => ?_)]
    · simp [dirsL]
    · obtain ⟨k, _, rfl⟩ := List.mem_map.1 ha
      exact dirL_len (slot_size h)
  have a2 : ((filsL c T).flatMap filL).length = 40 * c.fl := by
    rw [flat_length filL 40 _ (fun a ha => ?_)]
    · simp [filsL]
    · obtain ⟨k, _, rfl⟩ := List.mem_map.1 ha
      exact filL_len (slot_size h)
  have a3 : (O.flatMap objL).length = 40 * c.rows := by rw [flat_length objL 40 _ (fun a ha => objL_len (hO a ha)), h1]
  have a4 : ((cntL c Q).flatMap queL).length = 4 * (1 + c.rows) := by
    rw [flat_length queL 4 _ (fun a _ => queL_len a)]
    simp only [cntL, List.length_cons, List.length_append, List.length_replicate]
    omega
  refine ⟨a1, a2, a3, a4, ?_⟩
  unfold imgL
  rw [List.length_append, List.length_append, List.length_append, a1, a2, a3, a4]
  unfold Cn.len Cn.rows
  omega

/-! there and back -/
def clr (n : Nd) : Nd := { n with nu := 0 }
theorem nodeL_form (n : Nd) (r : List UInt8) (h : n.nm.size ≤ 32) : ∃ x y z, bgL 2 n.pa.toNat = [x, y] ∧ z.toNat = n.nm.size ∧ nodeL n ++ r = 1 :: x :: y :: z :: (n.nm.data.toList ++ (z0 (32 - n.nm.size) ++ r)) := by
  refine ⟨_, _, UInt8.ofNat (n.nm.size / 256 ^ 0 % 256), rfl, ?_, ?_⟩
  · simp
    omega
  · simp [nodeL, bgL]
theorem rdN_node {n : Nd} {kd : Int} (r : List UInt8) (h : n.nm.size ≤ 32) (hp : 0 ≤ n.pa) (hp2 : n.pa ≤ 4096) : rdN (nodeL n ++ r) kd = ⟨kd, 0, n.pa, n.nm, 0⟩ := by
  obtain ⟨x, y, z, h1, h2, h3⟩ := nodeL_form n r h
  have hs : n.nm.data.toList.length = n.nm.size := rfl
  unfold rdN
  rw [h3]
  rw [if_neg (by simp)]
  have e1 : seg (1 :: x :: y :: z :: (n.nm.data.toList ++ (z0 (32 - n.nm.size) ++ r))) 1 2 = [x, y] := rfl
  have e2 : (min ((1 :: x :: y :: z :: (n.nm.data.toList ++ (z0 (32 - n.nm.size) ++ r))).getD 3 0).toNat 32) = n.nm.size := by
    show min z.toNat 32 = _
    omega
  have e3 : seg (1 :: x :: y :: z :: (n.nm.data.toList ++ (z0 (32 - n.nm.size) ++ r))) 4 n.nm.size = n.nm.data.toList := by
    show List.take n.nm.size (n.nm.data.toList ++ _) = _
    rw [← hs, List.take_left]
  rw [e1, e2, e3, ← h1, nuL_bgL 2 _ (by omega), str_of]
  congr 1
  omega
theorem rdD_dirL {c : Cn} {n : Nd} (hd : c.dr ≤ 4096) (h : n = zN ∨ NdF c n ∧ n.kd = 1) : rdD (dirL n) = clr n := by
  rcases h with rfl | ⟨h, hk⟩
  · rfl
  · unfold rdD dirL
    rw [if_neg (by omega)]
    have := rdN_node (n := n) (kd := 1) [] (nm_size h.2.2.2).2 h.2.1 (by have := h.2.2.1; omega)
    rw [List.append_nil] at this
    rw [this]
    have hsz : n.sz = 0 := by
      unfold NdF at h
      omega
    obtain ⟨kd, nu, pa, nm, sz⟩ := n
    simp only [clr, Nd.mk.injEq] at *
    exact ⟨hk.symm, trivial, trivial, trivial, hsz.symm⟩
theorem rdF_filL {c : Cn} {n : Nd} (hd : c.dr ≤ 4096) (hm : c.mf ≤ 65536) (h : n = zN ∨ NdF c n ∧ n.kd = 2) : rdF (filL n) = clr n := by
  rcases h with rfl | ⟨h, hk⟩
  · rfl
  · have hl := nodeL_len (nm_size h.2.2.2).2
    have hsz : 0 ≤ n.sz ∧ n.sz ≤ 65536 := by
      unfold NdF at h
      omega
    unfold rdF filL dirL
    rw [if_neg (by omega), rdN_node (n := n) (kd := 2) _ (nm_size h.2.2.2).2 h.2.1 (by have := h.2.2.1; omega)]
    have e : seg (nodeL n ++ bgL 4 n.sz.toNat) 36 4 = bgL 4 n.sz.toNat := by
      have := seg_mid (nodeL n) (bgL 4 n.sz.toNat) [] 36 4 hl.symm (bgL_len _ _).symm
      rwa [List.append_nil] at this
    rw [e, nuL_bgL 4 _ (by omega)]
    obtain ⟨kd, nu, pa, nm, sz⟩ := n
    simp only [clr, Nd.mk.injEq] at *
    refine ⟨hk.symm, trivial, trivial, trivial, ?_⟩
    omega
theorem rdO_objL {c : Cn} {o : Ob} (hf : c.fl ≤ 65536) (h : ObF c o) : rdO (objL o) = o := by
  obtain ⟨h1, h2, h3, h4, h5, h6⟩ := h
  have s1 : o.nm.data.toList.length = 16 := h1
  have s2 : o.tg.data.toList.length = 16 := h2
  have b1 := bgL_len 4 o.bk.toNat
  have b2 := bgL_len 4 (o.ow + 1).toNat
  have e1 : seg (objL o) 0 16 = o.nm.data.toList := seg_mid [] o.nm.data.toList _ 0 16 rfl s1.symm
  have e2 : seg (objL o) 16 16 = o.tg.data.toList := seg_mid o.nm.data.toList o.tg.data.toList _ 16 16 s1.symm s2.symm
  have e3 : seg (objL o) 32 4 = bgL 4 o.bk.toNat := by
    have := seg_mid (o.nm.data.toList ++ o.tg.data.toList) (bgL 4 o.bk.toNat) (bgL 4 (o.ow + 1).toNat) 32 4 (by rw [List.length_append, s1, s2]) b1.symm
    rwa [List.append_assoc] at this
  have e4 : seg (objL o) 36 4 = bgL 4 (o.ow + 1).toNat := by
    have := seg_mid (o.nm.data.toList ++ (o.tg.data.toList ++ bgL 4 o.bk.toNat)) (bgL 4 (o.ow + 1).toNat) [] 36 4 (by rw [List.length_append, List.length_append, s1, s2, b1]) b2.symm
    rwa [List.append_nil, List.append_assoc, List.append_assoc] at this
  unfold rdO
  rw [e1, e2, e3, e4, nuL_bgL 4 _ (by omega), nuL_bgL 4 _ (by omega), str_of, str_of]
  obtain ⟨nm, tg, bk, ow⟩ := o
  simp only [Ob.mk.injEq] at *
  exact ⟨trivial, trivial, by omega, by omega⟩
theorem numd_slots (c : Cn) (d : Int) : ∀ (n : Nat) (a : Int) (T : List Nd), (∀ m ∈ T, a ≤ plc c m ∧ plc c m < a + n ∧ m.nu = plc c m - d ∧ m.kd ≠ 0) → T.Pairwise (fun x y => plc c x < plc c y) →
    numd (a - d) ((List.range n).map fun (k : Nat) => clr (slot c T (a + k))) = T
  | 0, a, T, h, _ => by
    cases T with
    | nil => rfl
    | cons m R => have := h m (by simp); omega
  | n + 1, a, T, h, hp => by
    have hs : ∀ (T : List Nd), ((List.range (n + 1)).map fun (k : Nat) => clr (slot c T (a + k))) = clr (slot c T a) :: ((List.range n).map fun (k : Nat) => clr (slot c T (a + 1 + k))) := fun T => by
      rw [List.range_succ_eq_map, List.map_cons, List.map_map]
      congr 1
      · simp
      · apply List.map_congr_left
        intro k _
        show clr (slot c T (a + ((k + 1 : Nat) : Int))) = _
        congr 2
        omega
    rw [hs]
    have hz : ∀ (T : List Nd), (∀ m ∈ T, plc c m ≠ a) → slot c T a = zN := fun T hT => by
      unfold slot
      rw [List.find?_eq_none.2 (fun m hm => by simp [hT m hm])]
      rfl
    have hskip : ∀ (L : List Nd), numd (a - d) (clr zN :: L) = numd (a + 1 - d) L := fun L => by
      rw [numd, if_pos (show (clr zN).kd = 0 from rfl)]
      congr 1
      omega
    cases T with
    | nil =>
      rw [hz [] (by simp), hskip]
      exact numd_slots c d n (a + 1) [] (by simp) List.Pairwise.nil
    | cons m R =>
      have hm := h m (by simp)
      obtain ⟨hp1, hp2⟩ := List.pairwise_cons.1 hp
      by_cases e : plc c m = a
      · have hsm : slot c (m :: R) a = m := by
          unfold slot
          rw [List.find?_cons_of_pos (by simp [e])]
          rfl
        have hrest : ((List.range n).map fun (k : Nat) => clr (slot c (m :: R) (a + 1 + k))) = (List.range n).map fun (k : Nat) => clr (slot c R (a + 1 + k)) := by
          apply List.map_congr_left
          intro k _
          unfold slot
          rw [List.find?_cons_of_neg (by simp; omega)]
        have ih := numd_slots c d n (a + 1) R (fun x hx => by
          have h1 := h x (by simp [hx])
          have h2 := hp1 x hx
          omega) hp2
        rw [hsm, hrest, numd, if_neg (show ¬ (clr m).kd = 0 from hm.2.2.2), show a - d + 1 = a + 1 - d by omega, ih]
        obtain ⟨kd, nu, pa, nm, sz⟩ := m
        simp only [clr, List.cons.injEq, Nd.mk.injEq, and_true, true_and] at *
        omega
      · rw [hz (m :: R) (fun x hx => by
          rcases List.mem_cons.1 hx with rfl | hx
          · exact e
          · have := hp1 x hx
            omega), hskip]
        refine numd_slots c d n (a + 1) (m :: R) (fun x hx => ?_) hp
        have h1 := h x hx
        rcases List.mem_cons.1 hx with rfl | hx
        · omega
        · have := hp1 x hx
          omega
theorem parted (c : Cn) : ∀ (T : List Nd), (∀ m ∈ T, NdF c m) → T.Pairwise (fun x y => plc c x < plc c y) → ∃ D F, T = D ++ F ∧ (∀ m ∈ D, m.kd = 1) ∧ ∀ m ∈ F, m.kd = 2
  | [], _, _ => ⟨[], [], rfl, by simp, by simp⟩
  | m :: R, h, hp => by
    obtain ⟨hp1, hp2⟩ := List.pairwise_cons.1 hp
    have hm := h m (by simp)
    by_cases e : m.kd = 1
    · obtain ⟨D, F, e1, e2, e3⟩ := parted c R (fun x hx => h x (by simp [hx])) hp2
      refine ⟨m :: D, F, by rw [e1]; rfl, fun x hx => ?_, e3⟩
      rcases List.mem_cons.1 hx with rfl | hx
      · exact e
      · exact e2 x hx
    · refine ⟨[], m :: R, rfl, by simp, fun x hx => ?_⟩
      have hxf := h x hx
      have h1 := plc_ge hxf
      have h2 := plc_ge hm
      have h3 : x.kd = 1 ∨ x.kd = 2 := by
        unfold NdF at hxf
        omega
      rcases List.mem_cons.1 hx with rfl | hx
      · omega
      · have := hp1 x hx
        omega
theorem slot_left {c : Cn} {D F : List Nd} {p : Int} (h : ∀ m ∈ F, plc c m ≠ p) : slot c (D ++ F) p = slot c D p := by
  have e : F.find? (fun n => plc c n == p) = none := List.find?_eq_none.2 fun m hm => by simp [h m hm]
  unfold slot
  rw [List.find?_append, e, Option.or_none]
theorem slot_right {c : Cn} {D F : List Nd} {p : Int} (h : ∀ m ∈ D, plc c m ≠ p) : slot c (D ++ F) p = slot c F p := by
  have e : D.find? (fun n => plc c n == p) = none := List.find?_eq_none.2 fun m hm => by simp [h m hm]
  unfold slot
  rw [List.find?_append, e, Option.none_or]
theorem rdT_back {c : Cn} {T : List Nd} (C : List UInt8) (hc : c.In) (hT : risB c 0 T = true) : rdT c ((dirsL c T).flatMap dirL ++ ((filsL c T).flatMap filL ++ C)) = T := by
  obtain ⟨h1, h2⟩ := (ris_iff c T 0).1 hT
  have hN : ∀ m ∈ T, NdF c m := fun m hm => (h1 m hm).1
  obtain ⟨_, _, _, _, c5, c6, _, _, _, _⟩ := hc
  have l1 : (dirsL c T).length = c.dr := by simp [dirsL]
  have l2 : (filsL c T).length = c.fl := by simp [filsL]
  have s1 : ∀ a ∈ dirsL c T, (dirL a).length = 36 := fun a ha => by
    obtain ⟨k, _, rfl⟩ := List.mem_map.1 ha
    exact dirL_len (slot_size hN)
  have s2 : ∀ a ∈ filsL c T, (filL a).length = 40 := fun a ha => by
    obtain ⟨k, _, rfl⟩ := List.mem_map.1 ha
    exact filL_len (slot_size hN)
  have r1 := rows_flat dirL 36 ((filsL c T).flatMap filL ++ C) (dirsL c T) [] s1
  have r2 := rows_flat filL 40 C (filsL c T) ((dirsL c T).flatMap dirL) s2
  rw [l1] at r1
  rw [l2, flat_length dirL 36 _ s1, l1] at r2
  rw [List.nil_append, List.length_nil] at r1
  unfold rdT
  rw [r1, r2, List.map_map, List.map_map]
  obtain ⟨D, F, rfl, hD, hF⟩ := parted c T hN h2
  have pD : ∀ m ∈ D, 1 ≤ plc c m ∧ plc c m ≤ c.dr ∧ plc c m = m.nu := fun m hm => by
    have := plc_ge (hN m (by simp [hm]))
    have := hD m hm
    refine ⟨by omega, by omega, ?_⟩
    unfold plc
    rw [if_pos (hD m hm)]
  have pF : ∀ m ∈ F, (c.dr : Int) < plc c m ∧ plc c m ≤ c.dr + c.fl ∧ plc c m = c.dr + 1 + m.nu := fun m hm => by
    have := plc_ge (hN m (by simp [hm]))
    have := hF m hm
    refine ⟨by omega, by omega, ?_⟩
    unfold plc
    rw [if_neg (by omega)]
  obtain ⟨g1, g2, g3⟩ := List.pairwise_append.1 h2
  have e1 : (dirsL c (D ++ F)).map (rdD ∘ dirL) = (List.range c.dr).map fun (k : Nat) => clr (slot c D (1 + (k : Int))) := by
    unfold dirsL
    rw [List.map_map]
    apply List.map_congr_left
    intro k hk
    have hk2 := List.mem_range.1 hk
    show rdD (dirL (slot c (D ++ F) ((k : Int) + 1))) = _
    rw [slot_left (fun m hm => by have := pF m hm; omega), Int.add_comm]
    refine rdD_dirL c5 ?_
    rcases slot_or (c := c) (T := D) (p := 1 + (k : Int)) (fun m hm => hN m (by simp [hm])) with e | ⟨e, e2, _⟩
    · exact .inl e
    · exact .inr ⟨e2, hD _ e⟩
  have e2 : (filsL c (D ++ F)).map (rdF ∘ filL) = (List.range c.fl).map fun (k : Nat) => clr (slot c F (c.dr + 1 + (k : Int))) := by
    unfold filsL
    rw [List.map_map]
    apply List.map_congr_left
    intro k hk
    have hk2 := List.mem_range.1 hk
    show rdF (filL (slot c (D ++ F) (c.dr + 1 + (k : Int)))) = _
    rw [slot_right (fun m hm => by have := pD m hm; omega)]
    refine rdF_filL c5 c6 ?_
    rcases slot_or (c := c) (T := F) (p := c.dr + 1 + (k : Int)) (fun m hm => hN m (by simp [hm])) with e | ⟨e, e2, _⟩
    · exact .inl e
    · exact .inr ⟨e2, hF _ e⟩
  rw [e1, e2]
  have n1 := numd_slots c 0 c.dr 1 D (fun m hm => by have := pD m hm; have := hD m hm; omega) g1
  have n2 := numd_slots c (c.dr + 1) c.fl (c.dr + 1) F (fun m hm => by have := pF m hm; have := hF m hm; omega) g2
  rw [show (1 : Int) - 0 = 1 by omega] at n1
  rw [show ((c.dr : Int) + 1) - (c.dr + 1) = 0 by omega] at n2
  rw [n1, n2]
theorem pool_iff {c : Cn} {O : List Ob} {Q : List Int} : poolB c O Q = true ↔ (O.length = c.rows ∧ Q.length ≤ c.rows) ∧ (∀ o ∈ O, ObF c o) ∧ ∀ q ∈ Q, 0 ≤ q ∧ q < c.rows := by
  unfold poolB
  simp only [Bool.and_eq_true, decide_eq_true_eq, List.all_eq_true]
/-- what is decoded is what was encoded -/
theorem read_back {c : Cn} {T : List Nd} {O : List Ob} {Q : List Int} (Z : List UInt8) (hc : c.In) (hT : risB c 0 T = true) (hP : poolB c O Q = true) :
    rdT c (imgL c T O Q ++ Z) = T ∧ rdP c (imgL c T O Q ++ Z) = O ∧ rdQ c (imgL c T O Q ++ Z) = Q := by
  obtain ⟨⟨q1, q2⟩, q3, q4⟩ := pool_iff.1 hP
  obtain ⟨h1, _⟩ := (ris_iff c T 0).1 hT
  obtain ⟨a1, a2, a3, a4, _⟩ := imgL_len (fun m hm => (h1 m hm).1) q3 q1 q2
  have hr : c.rows ≤ 65600 := by
    unfold Cn.rows
    have := hc
    unfold Cn.In at this
    omega
  refine ⟨?_, ?_, ?_⟩
  · unfold imgL
    rw [List.append_assoc, List.append_assoc]
    exact rdT_back _ hc hT
  · have r := rows_flat objL 40 ((cntL c Q).flatMap queL ++ Z) O ((dirsL c T).flatMap dirL ++ (filsL c T).flatMap filL) (fun o ho => objL_len (q3 o ho))
    rw [List.length_append, a1, a2, q1] at r
    unfold rdP imgL
    have e : (dirsL c T).flatMap dirL ++ ((filsL c T).flatMap filL ++ (O.flatMap objL ++ (cntL c Q).flatMap queL)) ++ Z = (dirsL c T).flatMap dirL ++ (filsL c T).flatMap filL ++ (O.flatMap objL ++ ((cntL c Q).flatMap queL ++ Z)) := by simp only [List.append_assoc]
    rw [e, r, List.map_map]
    conv => rhs; rw [← List.map_id O]
    apply List.map_congr_left
    intro o ho
    exact rdO_objL (by have := hc; unfold Cn.In at this; omega) (q3 o ho)
  · have r := rows_flat queL 4 Z (cntL c Q) ((dirsL c T).flatMap dirL ++ ((filsL c T).flatMap filL ++ O.flatMap objL)) (fun q _ => queL_len q)
    have hl : (cntL c Q).length = 1 + c.rows := by
      simp only [cntL, List.length_cons, List.length_append, List.length_replicate]
      omega
    rw [List.length_append, List.length_append, a1, a2, a3, hl, ← Nat.add_assoc] at r
    have e : (dirsL c T).flatMap dirL ++ ((filsL c T).flatMap filL ++ (O.flatMap objL ++ (cntL c Q).flatMap queL)) ++ Z = (dirsL c T).flatMap dirL ++ ((filsL c T).flatMap filL ++ O.flatMap objL) ++ ((cntL c Q).flatMap queL ++ Z) := by simp only [List.append_assoc]
    have hL : rdL c (imgL c T O Q ++ Z) = cntL c Q := by
      unfold rdL imgL
      rw [e, r, List.map_map]
      conv => rhs; rw [← List.map_id (cntL c Q)]
      apply List.map_congr_left
      intro q hq
      have hq2 : 0 ≤ q ∧ q ≤ 65600 := by
        rcases List.mem_cons.1 hq with rfl | hq
        · omega
        · rcases List.mem_append.1 hq with hq | hq
          · have := q4 q hq
            omega
          · rw [List.eq_of_mem_replicate hq]
            omega
      show ((nuL (queL q) : Nat) : Int) = q
      unfold queL
      rw [nuL_bgL 4 _ (by omega)]
      omega
    unfold rdQ
    rw [hL]
    show List.take (Int.toNat (Q.length : Int)) (Q ++ _) = Q
    rw [Int.toNat_natCast, List.take_left]

/-! cut and joined -/
def catL (L : List ByteArray) : List UInt8 := L.flatMap fun s => s.data.toList
theorem cat_cut (b : Nat) : ∀ (m : Nat) (L : List UInt8), L.length = m * b → catL (cutL b m L) = L
  | 0, L, h => by
    have : L = [] := List.eq_nil_of_length_eq_zero (by omega)
    rw [this]
    rfl
  | m + 1, L, h => by
    rw [Nat.add_mul, Nat.one_mul] at h
    have hc : cutL b (m + 1) L = str (L.take b) :: cutL b m (L.drop b) := by
      unfold cutL
      rw [List.range_succ_eq_map, List.map_cons, List.map_map]
      congr 1
      · unfold seg
        rw [Nat.zero_mul, List.drop_zero]
      · apply List.map_congr_left
        intro i _
        show str (seg L ((i + 1) * b) b) = _
        unfold seg
        rw [List.drop_drop, Nat.add_mul, Nat.one_mul, Nat.add_comm]
    rw [hc]
    show (str (L.take b)).data.toList ++ catL (cutL b m (L.drop b)) = L
    rw [cat_cut b m (L.drop b) (by rw [List.length_drop]; omega), str_data, List.take_append_drop]
theorem cut_get {b m : Nat} {L : List UInt8} {i : Nat} (h : i < m) : (cutL b m L)[i]? = some (str (seg L (i * b) b)) := by
  unfold cutL
  rw [List.getElem?_map, List.getElem?_range h]
  rfl
theorem cut_len (b m : Nat) (L : List UInt8) : (cutL b m L).length = m := by simp [cutL]
theorem cut_sizes {b m : Nat} {L : List UInt8} (h : L.length = m * b) : ∀ s ∈ cutL b m L, s.size = b := by
  intro s hs
  obtain ⟨i, hi, rfl⟩ := List.mem_map.1 hs
  have := List.mem_range.1 hi
  rw [str_size, seg_len]
  have : (i + 1) * b ≤ m * b := Nat.mul_le_mul_right _ this
  rw [Nat.add_mul] at this
  omega
theorem cat_length (b : Nat) : ∀ (L : List ByteArray), (∀ s ∈ L, s.size = b) → (catL L).length = L.length * b
  | [], _ => by simp [catL]
  | s :: L, h => by
    show (s.data.toList ++ catL L).length = _
    rw [List.length_append, cat_length b L (fun x hx => h x (by simp [hx])), List.length_cons, Nat.add_mul]
    have : s.data.toList.length = s.size := rfl
    rw [this, h s (by simp)]
    omega
end Go.Proofs.YtbdgbefjmfcgcaaDoor.Ix

namespace Go.Proofs.YtbdgbefjmfcgcaaDoor.Ix
open Go.RowKit Go.Lib Go.Deep

theorem some_lt {α : Type _} {l : List α} {i : Nat} {x : α} (h : l[i]? = some x) : i < l.length := (List.getElem?_eq_some_iff.1 h).1
theorem owns_keep {W W' : World} {B e n size : Nat} {v : Value} {xs : List Value} (h : W.ownsRow B e size v n xs) (hk : ∀ g, v.ownBlock = some g → W'.heap[g]? = W.heap[g]?) : W'.ownsRow B e size v n xs := by
  obtain ⟨q0, q⟩ := h
  refine ⟨q0, ?_⟩
  rcases q with q | ⟨g1, cap1, cur1, q1, q2, q3, q4⟩
  · exact .inl q
  · exact .inr ⟨g1, cap1, cur1, q1, q2, (hk g1 (by rw [q1]; rfl)).trans q3, q4⟩
theorem owns_below {W W' : World} {e n size : Nat} {v : Value} {xs : List Value} {B : Nat} (h : W.ownsRow B e size v n xs) (hb : Below W.heap.size W W') : W'.ownsRow B e size v n xs := owns_keep h fun g hg => hb.block g (h.lt g hg).2
theorem owns_base {W : World} {e n size : Nat} {v : Value} {xs : List Value} {B B' : Nat} (h : W.ownsRow B e size v n xs) (hB : B' ≤ B) : W.ownsRow B' e size v n xs := by
  obtain ⟨q0, q⟩ := h
  refine ⟨q0, ?_⟩
  rcases q with q | ⟨g1, cap1, cur1, q1, q2, q3⟩
  · exact .inl q
  · exact .inr ⟨g1, cap1, cur1, q1, Nat.le_trans hB q2, q3⟩
theorem owns_block {w : World} {B n size e k : Nat} {v : Value} {xs : List Value} (h : w.ownsRow B e size v n xs) (hv : v.ownBlock = some k) : ∃ cur, w.heap[k]? = some (.cells cur e (0, 0)) := by
  rcases h.2 with ⟨q1, _⟩ | ⟨g1, cap1, cur1, q1, q2, q3, q4⟩
  · rw [q1] at hv; cases hv
  · rw [q1] at hv
    simp [Value.ownBlock] at hv
    subst hv
    exact ⟨cur1, q3⟩
theorem owns_form {w : World} {B ty sz n : Nat} {v : Value} {xs : List Value} (h : w.ownsRow B ty sz v n xs) : ∃ a cap, v = .slice a n cap := by
  rcases h.2 with ⟨h1, h2⟩ | ⟨g, cap, cur, h1, _⟩
  · exact ⟨none, 0, by rw [h2]; exact h1⟩
  · exact ⟨_, cap, h1⟩
theorem owns_form2 {w : World} {B ty sz n : Nat} {v : Value} {xs : List Value} (h : w.ownsRow B ty sz v n xs) (hn : 0 < n) : ∃ g cap, v = .slice (some ⟨g, 0, none⟩) n cap := by
  rcases h.2 with ⟨h1, h2⟩ | ⟨g, cap, cur, h1, _⟩
  · omega
  · exact ⟨g, cap, h1⟩
theorem only_below {S : List Nat} {a w w' : World} (h : Only S a w) (hb : Below w.heap.size w w') : Only S a w' := h.trans ⟨hb.os, hb.tape, hb.output, hb.size, fun k hk _ => hb.block k hk⟩
theorem only_grown {S : List Nat} {a w w' : World} {row : Option Nat} (h : Only S a w) (hg : w.grownBy w' row) (hr : ∀ k, row = some k → k ∈ S ∨ a.heap.size ≤ k) : Only S a w' :=
  ⟨hg.os.trans h.os, hg.tape.trans h.tape, hg.output.trans h.output, Nat.le_trans h.size hg.size, fun k hk hS => (hg.block k (Nat.lt_of_lt_of_le hk h.size) (fun e => by
    rcases hr k e.symm with h1 | h1
    · exact hS h1
    · omega)).trans (h.block k hk hS)⟩
theorem only_set {w : World} {b j : Nat} (v : Value) : Only [b] w (w.setCell ⟨b, j, none⟩ v) := ⟨rfl, rfl, rfl, by simp, fun k _ hn => heap_setCell_other _ _ _ _ (fun e => hn (by simp [e]))⟩
theorem bdr {w W : World} {B : Nat} (h : Below B w W) (k : Nat) : Below B w (W.drewN k) := ⟨h.os, h.tape, h.output, h.size, h.block⟩

theorem flat_len {α : Type} (f : α → List Value) (k : Nat) (hf : ∀ a, (f a).length = k) : ∀ l : List α, (l.flatMap f).length = l.length * k
  | [] => by simp
  | a :: l => by rw [List.flatMap_cons, List.length_append, hf, flat_len f k hf l, List.length_cons, Nat.add_mul]; omega
theorem flat_get {α : Type} (f : α → List Value) (k : Nat) (hf : ∀ a, (f a).length = k) : ∀ (l : List α) (i : Nat) (a : α), l[i]? = some a → ∀ j, j < k → (l.flatMap f)[i * k + j]? = (f a)[j]?
  | [], i, a, h, j, hj => by cases h
  | b :: l, 0, a, h, j, hj => by
    simp only [List.getElem?_cons_zero, Option.some.injEq] at h
    subst h
    rw [Nat.zero_mul, Nat.zero_add, List.flatMap_cons, List.getElem?_append_left (by rw [hf]; exact hj)]
  | b :: l, i + 1, a, h, j, hj => by
    rw [List.getElem?_cons_succ] at h
    rw [List.flatMap_cons, List.getElem?_append_right (by rw [hf, Nat.add_mul]; omega), hf, show (i + 1) * k + j - k = i * k + j by rw [Nat.add_mul]; omega]
    exact flat_get f k hf l i a h j hj
theorem flat_set {α : Type} (f : α → List Value) (k : Nat) (hf : ∀ a, (f a).length = k) : ∀ (l : List α) (i : Nat) (a b : α), l[i]? = some a → ∀ (j : Nat) (v : Value), j < k → f b = (f a).set j v → (l.flatMap f).set (i * k + j) v = (l.set i b).flatMap f
  | [], i, a, b, h, j, v, hj, e => by cases h
  | c :: l, 0, a, b, h, j, v, hj, e => by
    simp only [List.getElem?_cons_zero, Option.some.injEq] at h
    subst h
    rw [Nat.zero_mul, Nat.zero_add, List.flatMap_cons, List.set_append_left _ _ (by rw [hf]; exact hj), ← e, List.set_cons_zero, List.flatMap_cons]
  | c :: l, i + 1, a, b, h, j, v, hj, e => by
    rw [List.getElem?_cons_succ] at h
    rw [List.flatMap_cons, List.set_append_right _ _ (by rw [hf, Nat.add_mul]; omega), hf, show (i + 1) * k + j - k = i * k + j by rw [Nat.add_mul]; omega, List.set_cons_succ, List.flatMap_cons, flat_set f k hf l i a b h j v hj e]
theorem two_new (w : World) (A B : Array Value) (s t : TypeId) : ∃ W, (w.alloc (.cells A s)).alloc (.cells B t) = W ∧ Below w.heap.size w W ∧ W.heap[w.heap.size]? = some (.cells A s (0, 0)) ∧ W.heap[w.heap.size + 1]? = some (.cells B t (0, 0)) := by
  have hb1 : Below w.heap.size w (w.alloc (.cells A s)) := (Below.refl _ _).alloc (Nat.le_refl _) _
  refine ⟨_, rfl, hb1.alloc hb1.size _, (Below.heap_alloc _ _ _ (by simp)).trans (heap_new w _), ?_⟩
  have := heap_new (w.alloc (.cells A s)) (.cells B t)
  rw [show (w.alloc (.cells A s)).heap.size = w.heap.size + 1 by simp] at this
  exact this
theorem one_new (w : World) (A : Array Value) (s : TypeId) : ∃ W, w.alloc (.cells A s) = W ∧ Below w.heap.size w W ∧ W.heap[w.heap.size]? = some (.cells A s (0, 0)) := ⟨_, rfl, (Below.refl _ _).alloc (Nat.le_refl _) _, heap_new w _⟩
theorem info_parts {P : Program} {e : TypeId} {z : Value} {s b : Nat} (h : (P.info? e).map (fun i => (i.zero, i.size, i.bytes)) = some (some z, s, b)) : ∃ i0, P.info? e = some i0 ∧ i0.zero = some z ∧ i0.size = s ∧ i0.bytes = b := by
  cases hq : P.info? e with
  | none => rw [hq] at h; cases h
  | some i =>
    rw [hq] at h
    simp at h
    exact ⟨i, rfl, h.1, h.2.1, h.2.2⟩
theorem wpList_append_run {P : Program} {ops : Array Oper} {rest : List Oper} {o : Oper} {a : Act} {w : World} {Q : Exit → Act → World → Prop} (hgd : o.guard = none) (s x : Operand) (t u : TypeId)
    (ho : o.op = .call { callee := .builtin .append, args := #[s, x], argTypes := #[t, u] }) (v x' v' : Value) (w' : World) (hs : a.eval s = v) (hx : a.eval x = x')
    (hr : ∀ ty, (Builtin.append_ #[t, u] ty #[v, x']).run P w = .ok v' w') (h : wpList P ops Q rest (a.put o.dst v') w') : wpList P ops Q (o :: rest) a w := by
  refine wpList_plain hgd fun K hK => ?_
  unfold Oper.wp execOp
  simp only [ho, resolve, invoke, builtin, Sem.run_bind, Sem.run_pure, Result.andThen_ok, List.map_toArray, List.map_cons, List.map_nil, hs, hx, hr]
  exact hK _ _ h

/-- cells that can be read, n elements of sz cells -/
def See (w : World) (sz : Nat) (v : Value) (n : Nat) (xs : List Value) : Prop :=
  xs.length = n * sz ∧ (∀ u ∈ xs, u.oneCell' = true) ∧ ∃ a c, v = .slice a n c ∧ n ≤ c ∧ (a = none → c = 0) ∧ (0 < n → ∃ b off, a = some ⟨b, off, none⟩ ∧ b < w.heap.size ∧ ∀ (j : Nat) u, xs[j]? = some u → w.cell? ⟨b, off + j, none⟩ = some u)
theorem See.below {w w' : World} {sz n : Nat} {v : Value} {xs : List Value} (h : See w sz v n xs) (hb : Below w.heap.size w w') : See w' sz v n xs := by
  obtain ⟨h0, h5, a, c, h1, h2, h3, h4⟩ := h
  refine ⟨h0, h5, a, c, h1, h2, h3, fun hn => ?_⟩
  obtain ⟨b, off, e, hlt, hc⟩ := h4 hn
  exact ⟨b, off, e, Nat.lt_of_lt_of_le hlt hb.size, fun j u hu => (hb.cell (p := ⟨b, off + j, none⟩) hlt).trans (hc j u hu)⟩
theorem See.form {w : World} {sz n : Nat} {v : Value} {xs : List Value} (h : See w sz v n xs) : ∃ a c, v = .slice a n c := by
  obtain ⟨h0, h5, a, c, h1, _⟩ := h
  exact ⟨a, c, h1⟩
theorem see_own {w : World} {B sz n e : Nat} {v : Value} {xs : List Value} (h : w.ownsRow B e sz v n xs) (h1 : ∀ u ∈ xs, u.oneCell' = true) : See w sz v n xs := by
  refine ⟨h.1, h1, ?_⟩
  rcases h.2 with ⟨q1, q2⟩ | ⟨g, cap, cur, q1, q2, q3, q4, q5, q6, q7⟩
  · exact ⟨none, 0, by rw [q2]; exact q1, by omega, fun _ => rfl, fun h => by omega⟩
  · refine ⟨_, cap, q1, q4, fun e => (by cases e), fun _ => ⟨g, 0, rfl, heap_lt q3, fun j u hu => ?_⟩⟩
    have hj := (List.getElem?_eq_some_iff.1 hu).1
    rw [← q7, List.getElem?_take] at hu
    split at hu
    · rw [Array.getElem?_toList] at hu
      rw [Nat.zero_add, cell_of_heap q3]
      exact hu
    · cases hu
set_option maxRecDepth 20000 in
/-- a list that can be read is appended to a row of the call's own -/
theorem wpList_app {w : World} {ops : Array Oper} {rest : List Oper} {o : Oper} {a : Act} {Q : Exit → Act → World → Prop} (hgd : o.guard = none) (s x : Operand) (t e : TypeId)
    (ho : o.op = .call { callee := .builtin .append, args := #[s, x], argTypes := #[t, t] }) (z : Value) (sz by_ : Nat) (ht : Tryd.prog.underlying t = some (.slice e)) (hinf : (Tryd.prog.info? e).map (fun i => (i.zero, i.size, i.bytes)) = some (some z, sz, by_)) (hzs : z.cells.size = sz) (hsz : 0 < sz)
    (B : Nat) (v xv : Value) (nA nL : Nat) (A L : List Value) (hs : a.eval s = v) (hown : w.ownsRow B e sz v nA A) (hx : a.eval x = xv) (hL : See w sz xv nL L) (h63 : nA + nL ≤ maxLen) (hb : (nA + nL) * by_ ≤ 140737488355328) (hB : B ≤ w.heap.size)
    (h : ∀ v' w', w'.ownsRow B e sz v' (nA + nL) (A ++ L) → w.grownBy w' v.ownBlock → wpList Tryd.prog ops Q rest (a.put o.dst v') w') : wpList Tryd.prog ops Q (o :: rest) a w := by
  obtain ⟨i0, hi, hz0, hz1, hz2⟩ := info_parts hinf
  obtain ⟨hlen, hone, ad, c, rfl, hc, hnil, hcell⟩ := hL
  cases ad with
  | none =>
    obtain rfl := hnil rfl
    obtain rfl : nL = 0 := by omega
    obtain rfl : L = [] := List.eq_nil_of_length_eq_zero (by rw [hlen]; omega)
    refine wpList_append_own_none hgd s x t ho B e i0 sz ht hi v nA A hs hown hx ?_
    exact h v w (by rw [List.append_nil]; exact hown) ⟨rfl, rfl, rfl, Nat.le_refl _, fun _ _ _ => rfl⟩
  | some ad =>
    refine wpList_append_own w hgd s x t ho B e i0 z sz by_ ht hi hz0 hz1 hz2 hzs hsz v nA A hs hown ad nL c L hx hlen
      (fun j u hu => ?_) hone h63 hb hB (fun v' w' ho' hg _ => h v' w' ho' hg)
    have hn : 0 < nL := by
      have := (List.getElem?_eq_some_iff.1 hu).1
      rw [hlen] at this
      rcases Nat.eq_zero_or_pos nL with h0 | h0
      · rw [h0] at this; omega
      · exact h0
    obtain ⟨b, off, e, _, hcc⟩ := hcell hn
    injection e with e
    subst e
    rw [Addr.add_lit]
    exact hcc j u hu
theorem grown_base {w w' : World} {B : Nat} {v : Value} {e : TypeId} {size n : Nat} {xs : List Value} (h : w.grownBy w' v.ownBlock) (hB : B ≤ w.heap.size) (ho : w.ownsRow B e size v n xs) : Below B w w' := grown_below h hB ho

theorem see_nil (W : World) (sz : Nat) : See W sz (.slice none 0 0) 0 [] := by
  refine ⟨by simp, fun u hu => (by cases hu), none, 0, rfl, Nat.le_refl _, fun _ => rfl, fun h => ?_⟩
  exact absurd h (by decide)
/-- a list that came in, as it can be read -/
theorem see_in {W : World} {x : Addr} {len cap sz : Nat} {xs : List Value} (hs : 0 < sz) (hl : len ≤ cap) (hx : xs.length = len * sz) (h1 : ∀ u ∈ xs, u.oneCell' = true) (hc : ∀ (j : Nat) u, xs[j]? = some u → W.cell? (x.add j) = some u) : See W sz (.slice (some x) len cap) len xs := by
  refine ⟨hx, h1, _, _, rfl, hl, fun e => (by cases e), fun hn => ?_⟩
  obtain ⟨b, off, spot⟩ := x
  have hlt : 0 < xs.length := by rw [hx]; exact Nat.mul_pos hn hs
  have h0 := hc 0 _ (List.getElem?_eq_getElem hlt)
  have hspot : spot = none := by simpa [Addr.add] using World.cell?_spot h0
  subst hspot
  rw [Addr.add_lit] at h0
  refine ⟨b, off, rfl, block_lt_of_cell h0, fun j u hu => ?_⟩
  have := hc j u hu
  rw [Addr.add_lit] at this
  exact this
theorem see_take {w : World} {B e sz n cap : Nat} {A L : List Value} {g : Nat} (h : w.ownsRow B e sz (.slice (some ⟨g, 0, none⟩) (n + 1) cap) (n + 1) (A ++ L)) (hA : A.length = n * sz) (h1 : ∀ u ∈ A, u.oneCell' = true) : See w sz (.slice (some ⟨g, 0, none⟩) n cap) n A := by
  have hs := h.2
  rcases hs with ⟨q1, -⟩ | ⟨g', cap', cur, q1, q2, q3, q4, q5, q6, q7⟩
  · cases q1
  · injection q1 with e1 _ e3
    injection e1 with e1
    injection e1 with e1
    subst e1 e3
    refine ⟨hA, h1, _, _, rfl, by omega, fun e => (by cases e), fun _ => ⟨_, _, rfl, heap_lt q3, fun j u hu => ?_⟩⟩
    have hu2 : (A ++ L)[j]? = some u := by rw [List.getElem?_append_left (some_lt hu)]; exact hu
    rw [← q7, List.getElem?_take] at hu2
    split at hu2
    · rw [Array.getElem?_toList] at hu2
      rw [Nat.zero_add, cell_of_heap q3]
      exact hu2
    · cases hu2
theorem own_cap {w : World} {B e sz n cap g : Nat} {xs : List Value} (h : w.ownsRow B e sz (.slice (some ⟨g, 0, none⟩) n cap) n xs) : n ≤ cap := by
  rcases h.2 with ⟨q1, -⟩ | ⟨g', cap', cur, q1, q2, q3, q4, q5, q6, q7⟩
  · cases q1
  · injection q1 with _ _ e3
    omega
/-- one element, built for an append -/
theorem see_one {wr : World} {A : Array Value} {t : TypeId} {sz : Nat} (h : A.toList.length = sz) (h1 : ∀ u ∈ A.toList, u.oneCell' = true) : See (wr.alloc (.cells A t)) sz (.slice (some ⟨wr.heap.size, 0, none⟩) 1 1) 1 A.toList := by
  refine ⟨by omega, h1, _, 1, rfl, Nat.le_refl _, fun e => (by cases e), fun _ => ⟨_, _, rfl, heap_lt (heap_new wr _), fun j u hu => ?_⟩⟩
  rw [Nat.zero_add, cell_of_heap (heap_new wr _)]
  rw [Array.getElem?_toList] at hu
  exact hu
theorem bdN (w : World) (n : Nat) : Below w.heap.size w (w.drewN n) := ⟨rfl, rfl, rfl, Nat.le_refl _, fun _ _ => rfl⟩
theorem str_app (a b : List UInt8) : str a ++ str b = str (a ++ b) := by
  apply ByteArray.ext
  apply Array.ext'
  rw [ByteArray.data_append, Array.toList_append, str_data, str_data, str_data]

/-! values -/
def cfA (c : Cf) : Array Value := #[.int .i64 c.sl, .int .i64 c.fl, .int .i64 c.dr, .int .i64 c.mf, .int .i64 c.ls, .int .i64 c.pg]
def cfV (c : Cf) : Value := .agg (cfA c)
def ndC (n : Nd) : List Value := [.int .i64 n.kd, .int .i64 n.nu, .int .i64 n.pa, .string n.nm, .int .i64 n.sz]
def ndV (n : Nd) : Value := .agg #[.int .i64 n.kd, .int .i64 n.nu, .int .i64 n.pa, .string n.nm, .int .i64 n.sz]
def ndsC (l : List Nd) : List Value := l.flatMap ndC
def obC (o : Ob) : List Value := [.string o.nm, .string o.tg, .int .i64 o.bk, .int .i64 o.ow]
def obV (o : Ob) : Value := .agg #[.string o.nm, .string o.tg, .int .i64 o.bk, .int .i64 o.ow]
def obsC (l : List Ob) : List Value := l.flatMap obC
def rfC (r : Rf) : List Value := [.string r.nm, .string r.tg]
def rfV (r : Rf) : Value := .agg #[.string r.nm, .string r.tg]
def rfsC (l : List Rf) : List Value := l.flatMap rfC
def zsC (l : List Int) : List Value := l.map fun (z : Int) => Value.int .i64 z
def scC (l : List ByteArray) : List Value := l.map Value.string
theorem ndC_len (n : Nd) : (ndC n).length = 5 := rfl
theorem obC_len (o : Ob) : (obC o).length = 4 := rfl
theorem rfC_len (r : Rf) : (rfC r).length = 2 := rfl
theorem nds_len (l : List Nd) : (ndsC l).length = l.length * 5 := flat_len ndC 5 ndC_len l
theorem obs_len (l : List Ob) : (obsC l).length = l.length * 4 := flat_len obC 4 obC_len l
theorem rfs_len (l : List Rf) : (rfsC l).length = l.length * 2 := flat_len rfC 2 rfC_len l
theorem nds_one (l : List Nd) : ∀ u ∈ ndsC l, u.oneCell' = true := fun u hu => by
  obtain ⟨n, _, h⟩ := List.mem_flatMap.1 hu
  simp [ndC] at h
  rcases h with rfl | rfl | rfl | rfl | rfl <;> rfl
theorem obs_one (l : List Ob) : ∀ u ∈ obsC l, u.oneCell' = true := fun u hu => by
  obtain ⟨n, _, h⟩ := List.mem_flatMap.1 hu
  simp [obC] at h
  rcases h with rfl | rfl | rfl | rfl <;> rfl
theorem rfs_one (l : List Rf) : ∀ u ∈ rfsC l, u.oneCell' = true := fun u hu => by
  obtain ⟨n, _, h⟩ := List.mem_flatMap.1 hu
  simp [rfC] at h
  rcases h with rfl | rfl <;> rfl
theorem zs_one (l : List Int) : ∀ u ∈ zsC l, u.oneCell' = true := fun u hu => by
  obtain ⟨s, _, rfl⟩ := List.mem_map.1 hu
  rfl
theorem sc_one (l : List ByteArray) : ∀ u ∈ scC l, u.oneCell' = true := fun u hu => by
  obtain ⟨s, _, rfl⟩ := List.mem_map.1 hu
  rfl
theorem bytes_one (l : List UInt8) : ∀ u ∈ Lib.byteCells l, u.oneCell' = true := fun u hu => by
  obtain ⟨s, _, rfl⟩ := List.mem_map.1 hu
  rfl
/-- the cells of one row of a list that can be read -/
theorem See.row {w : World} {a : Option Addr} {n c sz : Nat} {α : Type} {f : α → List Value} {A : List α} (h : See w sz (.slice a n c) n (A.flatMap f)) (hf : ∀ x, (f x).length = sz) (hs : 0 < sz) {i : Nat} {x : α} (hi : A[i]? = some x) : ∃ b off, a = some ⟨b, off, none⟩ ∧ b < w.heap.size ∧ ∀ j u, (f x)[j]? = some u → w.cell? ⟨b, off + i * sz + j, none⟩ = some u := by
  obtain ⟨h0, _, a', c', h1, h2, h3, h4⟩ := h
  injection h1 with e1 _ e2
  subst e1 e2
  have hl := some_lt hi
  rw [flat_len f sz hf] at h0
  have hn : A.length = n := Nat.eq_of_mul_eq_mul_right hs h0
  obtain ⟨b, off, e, hlt, hc⟩ := h4 (by omega)
  refine ⟨b, off, e, hlt, fun j u hu => ?_⟩
  have hj := some_lt hu
  rw [hf] at hj
  have := hc (i * sz + j) u (by rw [flat_get f sz hf A i x hi j hj]; exact hu)
  rwa [← Nat.add_assoc] at this
theorem See.z {w : World} {a : Option Addr} {n c : Nat} {A : List Int} (h : See w 1 (.slice a n c) n (zsC A)) {i : Nat} {z : Int} (hi : A[i]? = some z) : ∃ b off, a = some ⟨b, off, none⟩ ∧ b < w.heap.size ∧ w.cell? ⟨b, off + i, none⟩ = some (.int .i64 z) := by
  obtain ⟨h0, _, a', c', h1, h2, h3, h4⟩ := h
  injection h1 with e1 _ e2
  subst e1 e2
  have hl := some_lt hi
  simp [zsC] at h0
  obtain ⟨b, off, e, hlt, hc⟩ := h4 (by omega)
  exact ⟨b, off, e, hlt, hc i _ (by unfold zsC; rw [List.getElem?_map, hi]; rfl)⟩
theorem See.s {w : World} {a : Option Addr} {n c : Nat} {A : List ByteArray} (h : See w 1 (.slice a n c) n (scC A)) {i : Nat} {z : ByteArray} (hi : A[i]? = some z) : ∃ b off, a = some ⟨b, off, none⟩ ∧ b < w.heap.size ∧ w.cell? ⟨b, off + i, none⟩ = some (.string z) := by
  obtain ⟨h0, _, a', c', h1, h2, h3, h4⟩ := h
  injection h1 with e1 _ e2
  subst e1 e2
  have hl := some_lt hi
  simp [scC] at h0
  obtain ⟨b, off, e, hlt, hc⟩ := h4 (by omega)
  exact ⟨b, off, e, hlt, hc i _ (by unfold scC; rw [List.getElem?_map, hi]; rfl)⟩
/-- the table of the rows' sizes -/
structure RT (w : World) : Prop where
  rt : ∃ t fr, w.heap[0]? = some (.cells #[.int .i64 36, .int .i64 40, .int .i64 40, .int .i64 4] t fr)
theorem RT.below {w w' : World} {B : Nat} (h : RT w) (hb : Below B w w') (hB : 0 < B) : RT w' := by
  obtain ⟨t, fr, e⟩ := h.rt
  exact ⟨t, fr, (hb.block _ hB).trans e⟩
theorem RT.lt {w : World} (h : RT w) : 0 < w.heap.size := by
  obtain ⟨t, fr, e⟩ := h.rt
  exact heap_lt e
theorem RT.next {w w' : World} (h : RT w) (hb : Below w.heap.size w w') : RT w' := h.below hb h.lt
theorem RT.cells {w : World} (h : RT w) : w.cell? ⟨0, 0, none⟩ = some (.int .i64 36) ∧ w.cell? ⟨0, 1, none⟩ = some (.int .i64 40) ∧ w.cell? ⟨0, 2, none⟩ = some (.int .i64 40) ∧ w.cell? ⟨0, 3, none⟩ = some (.int .i64 4) := by
  obtain ⟨t, fr, e⟩ := h.rt
  exact ⟨(cell_of_heap e).trans rfl, (cell_of_heap e).trans rfl, (cell_of_heap e).trans rfl, (cell_of_heap e).trans rfl⟩
end Go.Proofs.YtbdgbefjmfcgcaaDoor.Ix
