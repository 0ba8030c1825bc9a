import Derived.Test.YtnfddiabhpandaaGreatDoorBaseM
namespace Go.Proofs.YtnfddiabhpandaaGreatDoor.Pa
open Go.RowKit Go.Lib

/-- a text cut at a byte: the parts ahead of each, and what is left -/
def step (c : UInt8) (s : List (List UInt8) × List UInt8) (x : UInt8) : List (List UInt8) × List UInt8 := if x = c then (s.1 ++ [s.2], []) else (s.1, s.2 ++ [x])
def cutS (c : UInt8) (l : List UInt8) : List (List UInt8) × List UInt8 := l.foldl (step c) ([], [])
/-- the parts, each with the byte behind it -/
def glue (c : UInt8) (ps : List (List UInt8)) : List UInt8 := (ps.map fun p => p ++ [c]).flatten
theorem glue_append (c : UInt8) (a b : List (List UInt8)) : glue c (a ++ b) = glue c a ++ glue c b := by simp [glue]
theorem glue_cons (c : UInt8) (a : List UInt8) (b : List (List UInt8)) : glue c (a :: b) = a ++ [c] ++ glue c b := by simp [glue]
theorem fold_cut (c : UInt8) (l : List UInt8) (ps : List (List UInt8)) (r : List UInt8) (hp : ∀ p ∈ ps, c ∉ p) (hr : c ∉ r) :
    glue c (l.foldl (step c) (ps, r)).1 ++ (l.foldl (step c) (ps, r)).2 = glue c ps ++ r ++ l ∧ (∀ p ∈ (l.foldl (step c) (ps, r)).1, c ∉ p) ∧ c ∉ (l.foldl (step c) (ps, r)).2 := by
  induction l generalizing ps r with
  | nil => exact ⟨by simp, hp, hr⟩
  | cons x l ih =>
    rw [List.foldl_cons]
    by_cases h : x = c
    · have e : step c (ps, r) x = (ps ++ [r], []) := by simp [step, h]
      rw [e]
      obtain ⟨h1, h2, h3⟩ := ih (ps ++ [r]) [] (fun p hp' => by
        rcases List.mem_append.1 hp' with h' | h'
        · exact hp p h'
        · simp at h'; subst h'; exact hr) (by simp)
      refine ⟨?_, h2, h3⟩
      rw [h1, glue_append, h]
      simp [glue]
    · have e : step c (ps, r) x = (ps, r ++ [x]) := by simp [step, h]
      rw [e]
      obtain ⟨h1, h2, h3⟩ := ih ps (r ++ [x]) hp (by simp; exact ⟨hr, fun e => h e.symm⟩)
      exact ⟨by rw [h1]; simp, h2, h3⟩
theorem cut_glue (c : UInt8) (l : List UInt8) : glue c (cutS c l).1 ++ (cutS c l).2 = l ∧ (∀ p ∈ (cutS c l).1, c ∉ p) ∧ c ∉ (cutS c l).2 := by
  have h := fold_cut c l [] [] (by simp) (by simp)
  rw [show glue c [] ++ [] ++ l = l by simp [glue]] at h
  exact h
theorem fold_free (c : UInt8) (p : List UInt8) (hp : c ∉ p) (s : List (List UInt8) × List UInt8) : p.foldl (step c) s = (s.1, s.2 ++ p) := by
  induction p generalizing s with
  | nil => simp
  | cons x p ih =>
    rw [List.foldl_cons, ih (fun h => hp (List.mem_cons_of_mem _ h))]
    have : x ≠ c := fun e => hp (by simp [e])
    simp [step, this]
theorem cut_of (c : UInt8) (ps : List (List UInt8)) (r : List UInt8) (hp : ∀ p ∈ ps, c ∉ p) (hr : c ∉ r) : cutS c (glue c ps ++ r) = (ps, r) := by
  have key : ∀ (ps qs : List (List UInt8)), (∀ p ∈ ps, c ∉ p) → (glue c ps).foldl (step c) (qs, []) = (qs ++ ps, []) := by
    intro ps
    induction ps with
    | nil => intro qs _; simp [glue]
    | cons a ps ih =>
      intro qs h
      rw [glue_cons, List.foldl_append, List.foldl_append, fold_free c a (h a (by simp))]
      have e : [c].foldl (step c) (qs, [] ++ a) = (qs ++ [a], []) := by simp [step]
      rw [e, ih _ (fun p hp => h p (List.mem_cons_of_mem _ hp))]
      simp
  unfold cutS
  rw [List.foldl_append, key ps [] hp, fold_free c r hr]
  simp
theorem cut_take (c : UInt8) (l : List UInt8) (k : Nat) (x : UInt8) (h : l[k]? = some x) : cutS c (l.take (k + 1)) = step c (cutS c (l.take k)) x := by
  unfold cutS
  rw [List.take_add_one, h, List.foldl_append]
  rfl
theorem cut_rest (c : UInt8) (l : List UInt8) : (cutS c l).2.length ≤ l.length := by
  have h := congrArg List.length (cut_glue c l).1
  rw [List.length_append] at h
  omega
/-- what is left lies at the end -/
theorem cut_drop (c : UInt8) (l : List UInt8) : l.drop (l.length - (cutS c l).2.length) = (cutS c l).2 := by
  have h := (cut_glue c l).1
  have hl := congrArg List.length h
  rw [List.length_append] at hl
  have e : l.length - (cutS c l).2.length = (glue c (cutS c l).1).length := by omega
  rw [e]
  have h2 : (glue c (cutS c l).1 ++ (cutS c l).2).drop (glue c (cutS c l).1).length = (cutS c l).2 := by simp
  rw [h] at h2
  exact h2

end Go.Proofs.YtnfddiabhpandaaGreatDoor.Pa

namespace Go.Proofs.YtnfddiabhpandaaGreatDoor.Pa
open Go.RowKit Go.Lib

/-- a byte of a name -/
def nb (b : UInt8) : Bool := decide (33 ≤ b.toNat) && decide (b.toNat ≤ 126) && decide (b.toNat ≠ 47)
/-- a name -/
def isN (l : List UInt8) : Bool := decide (1 ≤ l.length) && decide (l.length ≤ 32) && decide (l ≠ [46]) && decide (l ≠ [46, 46]) && l.all nb
def nm (s : ByteArray) : Bool := isN s.data.toList
def nameE (s : ByteArray) : Int := if nm s = true then 0 else 111
def fault (L : List ByteArray) : Int := if L.all nm = true then (if L.length ≤ 16 then 0 else 112) else 111
/-- a text cut at each slash -/
def pieces (t : List UInt8) : List (List UInt8) := (cutS 47 t).1 ++ [(cutS 47 t).2]
def rooted (t : List UInt8) : Bool := decide (t.length ≤ 1024) && decide (t.head? = some 47) && (decide (t = [47]) || decide (t.getLast? ≠ some 47))
def pcs (s : ByteArray) : List ByteArray := (pieces s.data.toList.tail).map str
def parseE (s : ByteArray) : Int := if rooted s.data.toList = true then (if s.data.toList = [47] then 0 else fault (pcs s)) else 110
def parseY (s : ByteArray) : List ByteArray := if parseE s = 0 then (if s.data.toList = [47] then [] else pcs s) else []
def slashed (L : List ByteArray) : List UInt8 := (L.map fun s => 47 :: s.data.toList).flatten
def textL (L : List ByteArray) : List UInt8 := if L = [] then [47] else slashed L
def textY (L : List ByteArray) : ByteArray := if fault L = 0 then str (textL L) else str []

theorem nm_free {s : ByteArray} (h : nm s = true) : (47 : UInt8) ∉ s.data.toList ∧ s.data.toList ≠ [] ∧ s.data.toList.length ≤ 32 := by
  simp only [nm, isN, Bool.and_eq_true, decide_eq_true_eq] at h
  obtain ⟨⟨⟨⟨h1, h2⟩, _⟩, _⟩, h5⟩ := h
  refine ⟨fun hm => ?_, fun e => by rw [e] at h1; simp at h1, h2⟩
  have := List.all_eq_true.1 h5 _ hm
  simp [nb] at this
theorem fault_zero {L : List ByteArray} : fault L = 0 ↔ L.all nm = true ∧ L.length ≤ 16 := by
  unfold fault
  by_cases h1 : L.all nm = true
  · rw [if_pos h1]
    by_cases h2 : L.length ≤ 16
    · rw [if_pos h2]; exact ⟨fun _ => ⟨h1, h2⟩, fun _ => rfl⟩
    · rw [if_neg h2]; exact ⟨fun h => (by cases h), fun h => absurd h.2 h2⟩
  · rw [if_neg h1]; exact ⟨fun h => (by cases h), fun h => absurd h.1 h1⟩
theorem fault_nil : fault [] = 0 := rfl
theorem fault_vals (L : List ByteArray) : fault L = 0 ∨ fault L = 111 ∨ fault L = 112 := by
  unfold fault
  by_cases h1 : L.all nm = true
  · rw [if_pos h1]
    by_cases h2 : L.length ≤ 16
    · rw [if_pos h2]; exact .inl rfl
    · rw [if_neg h2]; exact .inr (.inr rfl)
  · rw [if_neg h1]; exact .inr (.inl rfl)
theorem parse_vals (s : ByteArray) : parseE s = 0 ∨ parseE s = 110 ∨ parseE s = 111 ∨ parseE s = 112 := by
  unfold parseE
  by_cases h1 : rooted s.data.toList = true
  · rw [if_pos h1]
    by_cases h2 : s.data.toList = [47]
    · rw [if_pos h2]; exact .inl rfl
    · rw [if_neg h2]
      rcases fault_vals (pcs s) with h | h | h
      · exact .inl h
      · exact .inr (.inr (.inl h))
      · exact .inr (.inr (.inr h))
  · rw [if_neg h1]; exact .inr (.inl rfl)

theorem glue_slash (c : UInt8) (ps : List (List UInt8)) (r : List UInt8) : c :: (glue c ps ++ r) = ((ps ++ [r]).map (c :: ·)).flatten := by
  induction ps with
  | nil => simp [glue]
  | cons a ps ih =>
    rw [glue_cons, List.cons_append, List.map_cons, List.flatten_cons, ← ih]
    simp
theorem sl_pieces (t : List UInt8) : ((pieces t).map (47 :: ·)).flatten = 47 :: t ∧ ∀ p ∈ pieces t, (47 : UInt8) ∉ p := by
  have h := cut_glue 47 t
  refine ⟨?_, fun p hp => ?_⟩
  · unfold pieces
    rw [← glue_slash, h.1]
  · rcases List.mem_append.1 hp with h' | h'
    · exact h.2.1 p h'
    · simp at h'; subst h'; exact h.2.2
theorem pieces_sl (ps : List (List UInt8)) (hne : ps ≠ []) (h : ∀ p ∈ ps, (47 : UInt8) ∉ p) : ∃ t, (ps.map (47 :: ·)).flatten = 47 :: t ∧ pieces t = ps := by
  obtain ⟨qs, r, rfl⟩ : ∃ qs r, ps = qs ++ [r] := ⟨ps.dropLast, ps.getLast hne, (List.dropLast_concat_getLast hne).symm⟩
  refine ⟨glue 47 qs ++ r, (glue_slash 47 qs r).symm, ?_⟩
  unfold pieces
  rw [cut_of 47 qs r (fun p hp => h p (by simp [hp])) (h r (by simp))]
theorem slashed_data (L : List ByteArray) : slashed L = ((L.map fun s => s.data.toList).map (47 :: ·)).flatten := by
  unfold slashed
  rw [List.map_map]
  rfl
theorem slashed_append (a b : List ByteArray) : slashed (a ++ b) = slashed a ++ slashed b := by simp [slashed]
theorem slashed_take (L : List ByteArray) (k : Nat) (x : ByteArray) (h : L[k]? = some x) : slashed (L.take (k + 1)) = slashed (L.take k) ++ 47 :: x.data.toList := by
  rw [List.take_add_one, h, slashed_append]
  simp [slashed]
theorem map_str_data (ps : List (List UInt8)) : (ps.map str).map (fun s => s.data.toList) = ps := by
  rw [List.map_map]
  have : (fun s : ByteArray => s.data.toList) ∘ str = id := by funext l; simp [str_data]
  rw [this, List.map_id]
theorem map_data_str (L : List ByteArray) : (L.map (fun s => s.data.toList)).map str = L := by
  rw [List.map_map]
  have : str ∘ (fun s : ByteArray => s.data.toList) = id := by funext s; simp [str_of]
  rw [this, List.map_id]
theorem pcs_ne (s : ByteArray) : pcs s ≠ [] := by
  unfold pcs pieces
  simp
theorem slashed_pcs (s : ByteArray) (h : s.data.toList.head? = some 47) : slashed (pcs s) = s.data.toList := by
  unfold pcs
  rw [slashed_data, map_str_data, (sl_pieces _).1]
  cases hs : s.data.toList with
  | nil => rw [hs] at h; cases h
  | cons x t => rw [hs] at h; simp at h; subst h; rfl
theorem slashed_len (L : List ByteArray) (h : L.all nm = true) : (slashed L).length ≤ 33 * L.length := by
  induction L with
  | nil => simp [slashed]
  | cons x L ih =>
    simp only [List.all_cons, Bool.and_eq_true] at h
    have h1 := (nm_free h.1).2.2
    have h2 := ih h.2
    have e : slashed (x :: L) = (47 :: x.data.toList) ++ slashed L := by simp [slashed]
    rw [e, List.length_append, List.length_cons, List.length_cons]
    omega
theorem rooted_parts {t : List UInt8} (h : rooted t = true) : t.length ≤ 1024 ∧ t.head? = some 47 ∧ (t = [47] ∨ t.getLast? ≠ some 47) := by
  simp only [rooted, Bool.and_eq_true, Bool.or_eq_true, decide_eq_true_eq] at h
  exact ⟨h.1.1, h.1.2, h.2⟩
theorem rooted_mk {t : List UInt8} (h1 : t.length ≤ 1024) (h2 : t.head? = some 47) (h3 : t = [47] ∨ t.getLast? ≠ some 47) : rooted t = true := by
  simp only [rooted, Bool.and_eq_true, Bool.or_eq_true, decide_eq_true_eq]
  exact ⟨⟨h1, h2⟩, h3⟩
/-- a text that is taken is the text of its names -/
theorem parse_text {s : ByteArray} (h : parseE s = 0) : fault (parseY s) = 0 ∧ textY (parseY s) = s := by
  have h0 := h
  unfold parseY
  rw [if_pos h]
  unfold parseE at h
  by_cases hr : rooted s.data.toList = true
  · rw [if_pos hr] at h
    by_cases h1 : s.data.toList = [47]
    · rw [if_pos h1]
      refine ⟨rfl, ?_⟩
      unfold textY textL
      rw [if_pos fault_nil, if_pos rfl, ← h1, str_of]
    · rw [if_neg h1] at h ⊢
      refine ⟨h, ?_⟩
      unfold textY textL
      rw [if_pos h, if_neg (pcs_ne s), slashed_pcs s (rooted_parts hr).2.1, str_of]
  · rw [if_neg hr] at h; cases h
theorem textY_ok {L : List ByteArray} (h : fault L = 0) : textY L = str (textL L) := by unfold textY; rw [if_pos h]
/-- names that are taken are those of their text -/
theorem text_parse {L : List ByteArray} (h : fault L = 0) : parseE (textY L) = 0 ∧ parseY (textY L) = L := by
  rw [textY_ok h]
  obtain ⟨ha, hl⟩ := fault_zero.1 h
  by_cases hn : L = []
  · subst hn
    exact ⟨by decide, by decide⟩
  · have hfree : ∀ p ∈ L.map (fun s => s.data.toList), (47 : UInt8) ∉ p := fun p hp => by
      obtain ⟨s, hs, rfl⟩ := List.mem_map.1 hp
      exact (nm_free (List.all_eq_true.1 ha s hs)).1
    obtain ⟨t, ht, hp⟩ := pieces_sl (L.map fun s => s.data.toList) (by simpa using hn) hfree
    rw [← slashed_data] at ht
    have et : textL L = 47 :: t := by unfold textL; rw [if_neg hn, ht]
    have epc : pcs (str (textL L)) = L := by
      unfold pcs
      rw [str_data, et, List.tail_cons, hp, map_data_str]
    have hne : textL L ≠ [47] := by
      intro e
      rw [et] at e
      injection e with _ e
      subst e
      obtain ⟨x, L', rfl⟩ : ∃ x L', L = x :: L' := by
        cases L with
        | nil => exact absurd rfl hn
        | cons x L' => exact ⟨x, L', rfl⟩
      have h1 : pieces [] = [[]] := rfl
      rw [h1] at hp
      simp at hp
      simp only [List.all_cons, Bool.and_eq_true] at ha
      have hx := (nm_free ha.1).2.1
      exact hx (by simpa using hp.1.symm)
    have hlast : (textL L).getLast? ≠ some 47 := by
      obtain ⟨L', x, rfl⟩ : ∃ L' x, L = L' ++ [x] := ⟨L.dropLast, L.getLast hn, (List.dropLast_concat_getLast hn).symm⟩
      have hx := nm_free (List.all_eq_true.1 ha x (by simp))
      unfold textL
      rw [if_neg hn, slashed_append]
      have e : slashed [x] = 47 :: x.data.toList := by simp [slashed]
      rw [e, List.getLast?_append]
      intro hh
      have e2 : (47 :: x.data.toList).getLast? = x.data.toList.getLast? := by
        cases hd : x.data.toList with
        | nil => exact absurd hd hx.2.1
        | cons a b => simp [List.getLast?_cons_cons]
      rw [e2] at hh
      cases hg : x.data.toList.getLast? with
      | none => exact hx.2.1 (List.getLast?_eq_none_iff.1 hg)
      | some y =>
        rw [hg] at hh
        simp at hh
        subst hh
        exact hx.1 (List.mem_of_getLast? hg)
    have hlen : (textL L).length ≤ 1024 := by
      have := slashed_len L ha
      unfold textL
      rw [if_neg hn]
      omega
    have hE : parseE (str (textL L)) = 0 := by
      unfold parseE
      rw [str_data, if_pos (rooted_mk hlen (by rw [et]; rfl) (.inr hlast)), if_neg hne, epc, h]
    refine ⟨hE, ?_⟩
    unfold parseY
    rw [if_pos hE, str_data, if_neg hne, epc]
theorem parse_len (s : ByteArray) : (parseY s).length ≤ 16 ∧ (parseY s).all nm = true := by
  by_cases h : parseE s = 0
  · have := fault_zero.1 (parse_text h).1
    exact ⟨this.2, this.1⟩
  · unfold parseY
    rw [if_neg h]
    exact ⟨by simp, rfl⟩
theorem parse_nil {s : ByteArray} (h : parseE s ≠ 0) : parseY s = [] := by unfold parseY; rw [if_neg h]
theorem parse_inj {s t : ByteArray} (hs : parseE s = 0) (ht : parseE t = 0) (h : parseY s = parseY t) : s = t := by
  rw [← (parse_text hs).2, ← (parse_text ht).2, h]
end Go.Proofs.YtnfddiabhpandaaGreatDoor.Pa
