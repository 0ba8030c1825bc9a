import Derived.Test.YthmjjpaengackaaBaseM
namespace Go.Proofs.Ythmjjpaengackaa.Po

/-! a pool over lists -/
structure Ob where
  nm : ByteArray
  tg : ByteArray
  bk : Int
  ow : Int
structure Ps where
  fl : Nat
  R : List Ob
  Q : List Nat
def e0 : ByteArray := { data := #[] }
def kyN (o : Ob) : List UInt8 := o.nm.data.toList
theorem ba_ext {a b : ByteArray} (h : a.data.toList = b.data.toList) : a = b := by
  cases a; cases b
  simp only at h
  rw [Array.toList_inj.1 h]
theorem some_lt {α : Type _} {l : List α} {i : Nat} {x : α} (h : l[i]? = some x) : i < l.length := (List.getElem?_eq_some_iff.1 h).1

/-! a table: by a key the row that has it -/
def Is {K : Type} (key : Ob → K) (no : K) (R : List Ob) (f : K → Option Nat) : Prop := ∀ k i, f k = some i ↔ k ≠ no ∧ ∃ o, R[i]? = some o ∧ key o = k
theorem Is.move {K : Type} [DecidableEq K] {key : Ob → K} {no : K} {R : List Ob} {f : K → Option Nat} (h : Is key no R f) {i : Nat} {was next : Ob} (hi : R[i]? = some was) (hf : key next ≠ no → ∀ j, f (key next) = some j → j = i) :
    Is key no (R.set i next) (fun k => if k = key next ∧ key next ≠ no then some i else if k = key was then none else f k) := by
  have hl := some_lt hi
  have hs : ∀ j, (R.set i next)[j]? = if i = j then some next else R[j]? := fun j => by
    rw [List.getElem?_set]
    by_cases e : i = j
    · rw [if_pos e, if_pos e, if_pos (e ▸ hl)]
    · rw [if_neg e, if_neg e]
  intro k j
  rw [hs j]
  show (if k = key next ∧ key next ≠ no then some i else if k = key was then none else f k) = some j ↔ _
  by_cases h1 : k = key next ∧ key next ≠ no
  · rw [if_pos h1]
    obtain ⟨rfl, h2⟩ := h1
    by_cases e : i = j
    · subst e
      rw [if_pos rfl]
      exact ⟨fun _ => ⟨h2, next, rfl, rfl⟩, fun _ => rfl⟩
    · rw [if_neg e]
      refine ⟨fun e2 => absurd (Option.some.inj e2) e, fun ⟨_, o, ho, hk⟩ => ?_⟩
      exact absurd (hf h2 j ((h _ j).2 ⟨h2, o, ho, hk⟩)).symm e
  · rw [if_neg h1]
    by_cases h3 : k = key was
    · rw [if_pos h3]
      refine ⟨fun e => (by cases e), fun ⟨h4, o, ho, hk⟩ => ?_⟩
      by_cases e : i = j
      · rw [if_pos e] at ho
        obtain rfl := Option.some.inj ho
        exact absurd ⟨hk.symm, hk ▸ h4⟩ h1
      · rw [if_neg e] at ho
        have a := (h k j).2 ⟨h4, o, ho, hk⟩
        have b := (h k i).2 ⟨h4, was, hi, h3.symm⟩
        rw [a] at b
        exact absurd (Option.some.inj b).symm e
    · rw [if_neg h3, h k j]
      by_cases e : i = j
      · subst e
        rw [if_pos rfl]
        refine ⟨fun ⟨h4, o, ho, hk⟩ => ?_, fun ⟨h4, o, ho, hk⟩ => ?_⟩
        · rw [hi] at ho
          obtain rfl := Option.some.inj ho
          exact absurd hk.symm h3
        · obtain rfl := Option.some.inj ho
          exact absurd ⟨hk.symm, hk ▸ h4⟩ h1
      · rw [if_neg e]

/-! a ring -/
structure Rng (room : List Nat) (h : Nat) (Q : List Nat) : Prop where
  hm : h < room.length ∨ (room = [] ∧ h = 0)
  le : Q.length ≤ room.length
  at_ : ∀ j, j < Q.length → room[(h + j) % room.length]? = Q[j]?
theorem Rng.list {room : List Nat} {h : Nat} {Q : List Nat} (r : Rng room h Q) : (room.take (min (h + Q.length) room.length)).drop h ++ room.take (Q.length - (min (h + Q.length) room.length - h)) = Q := by
  apply List.ext_getElem?
  intro j
  rcases r.hm with hh | ⟨rfl, rfl⟩
  · by_cases hj : j < Q.length
    · rw [← r.at_ j hj]
      by_cases h1 : h + j < room.length
      · rw [Nat.mod_eq_of_lt h1, List.getElem?_append_left (by simp; omega), List.getElem?_drop, List.getElem?_take, if_pos (by omega)]
      · have hle := r.le
        have hmd : (h + j) % room.length = h + j - room.length := by
          rw [Nat.mod_eq_sub_mod (by omega), Nat.mod_eq_of_lt (by omega)]
        rw [hmd, List.getElem?_append_right (by simp; omega), List.getElem?_take, if_pos (by simp; omega)]
        congr 1
        simp
        omega
    · rw [List.getElem?_eq_none (l := Q) (by omega), List.getElem?_eq_none]
      have hle := r.le
      simp
      omega
  · have := r.le
    simp at this
    subst this
    simp
theorem Rng.push {room : List Nat} {h : Nat} {Q : List Nat} (r : Rng room h Q) (hl : Q.length < room.length) (n : Nat) : Rng (room.set ((h + Q.length) % room.length) n) h (Q ++ [n]) := by
  have hh : h < room.length := by
    rcases r.hm with hh | ⟨rfl, rfl⟩
    · exact hh
    · simp at hl
  refine ⟨.inl (by simpa using hh), by simp; omega, fun j hj => ?_⟩
  simp only [List.length_append, List.length_singleton] at hj
  rw [List.length_set, List.getElem?_set]
  by_cases e : j = Q.length
  · subst e
    rw [if_pos rfl, if_pos (Nat.mod_lt _ (by omega)), List.getElem?_append_right (Nat.le_refl _), Nat.sub_self]
    rfl
  · have hj2 : j < Q.length := by omega
    rw [List.getElem?_append_left hj2, ← r.at_ j hj2, if_neg]
    intro e2
    have key : ∀ x, x < room.length → (h + x) % room.length = if h + x < room.length then h + x else h + x - room.length := fun x hx => by
      by_cases h1 : h + x < room.length
      · rw [if_pos h1, Nat.mod_eq_of_lt h1]
      · rw [if_neg h1, Nat.mod_eq_sub_mod (by omega), Nat.mod_eq_of_lt (by omega)]
    rw [key _ hl, key _ (by omega)] at e2
    split at e2 <;> split at e2 <;> omega
theorem Rng.pop {room : List Nat} {h a : Nat} {Q : List Nat} (r : Rng room h (a :: Q)) : h < room.length ∧ room[h]? = some a ∧ Rng room ((h + 1) % room.length) Q := by
  have hle := r.le
  simp only [List.length_cons] at hle
  have hh : h < room.length := by
    rcases r.hm with hh | ⟨rfl, rfl⟩
    · exact hh
    · simp at hle
  refine ⟨hh, ?_, .inl (Nat.mod_lt _ (by omega)), by omega, fun j hj => ?_⟩
  · have := r.at_ 0 (by simp)
    rw [Nat.add_zero, Nat.mod_eq_of_lt hh] at this
    exact this
  · have := r.at_ (j + 1) (by simp; omega)
    rw [List.getElem?_cons_succ] at this
    rw [← this, Nat.mod_add_mod]
    congr 2
    omega
theorem rng_grown (Q : List Nat) (k : Nat) (hk : 0 < Q.length + k) : Rng (Q ++ List.replicate k 0) 0 Q := by
  refine ⟨.inl (by simp; omega), by simp, fun j hj => ?_⟩
  rw [Nat.zero_add, Nat.mod_eq_of_lt (by simp; omega), List.getElem?_append_left hj]
theorem rng_own (Q : List Nat) : Rng Q 0 Q := by
  refine ⟨?_, Nat.le_refl _, fun j hj => ?_⟩
  · cases Q with
    | nil => exact .inr ⟨rfl, rfl⟩
    | cons a l => exact .inl (by simp)
  · rw [Nat.zero_add, Nat.mod_eq_of_lt hj]

/-! what the calls answer -/
def isText (s : ByteArray) : Prop := s.size = 0 ∨ s.size = 16
instance (s : ByteArray) : Decidable (isText s) := by unfold isText; infer_instance
def stored (o : Ob) : Prop := isText o.nm ∧ isText o.tg ∧ 0 ≤ o.bk ∧ o.bk ≤ 1048576
instance (o : Ob) : Decidable (stored o) := by unfold stored; infer_instance
def heldL (R : List Ob) (f : Int) : Bool := R.any fun o => decide (o.ow = f)
def otherL (R : List Ob) (n : ByteArray) (i : Nat) : Bool := decide (n.size ≠ 0) && (List.range R.length).any fun j => decide (j ≠ i) && (match R[j]? with | some o => decide (o.nm = n) | none => false)
structure Good (S : Ps) : Prop where
  st : ∀ (i : Nat) o, S.R[i]? = some o → stored o ∧ -1 ≤ o.ow ∧ o.ow < S.fl
  ou : ∀ (i j : Nat) o o', S.R[i]? = some o → S.R[j]? = some o' → o.ow = o'.ow → o.ow ≠ -1 → i = j
  nu : ∀ (i j : Nat) o o', S.R[i]? = some o → S.R[j]? = some o' → o.nm = o'.nm → o.nm.size ≠ 0 → i = j
  qn : S.Q.Nodup
  qd : ∀ i, i ∈ S.Q → ∃ o, S.R[i]? = some o ∧ o.ow = -1
  fl : 1 ≤ S.fl ∧ S.fl < S.R.length ∧ S.R.length ≤ 65600
theorem nodup_len : ∀ (n : Nat) (l : List Nat), l.Nodup → (∀ x, x ∈ l → x < n) → l.length ≤ n
  | 0, l, _, h => by
    cases l with
    | nil => exact Nat.le_refl _
    | cons a l => exact absurd (h a (by simp)) (by omega)
  | n + 1, l, hn, h => by
    by_cases hm : n ∈ l
    · have h1 := List.length_erase_of_mem hm
      have h2 := nodup_len n (l.erase n) (hn.erase n) (fun x hx => by
        have h3 := (hn.mem_erase_iff).1 hx
        have := h x h3.2
        omega)
      have := List.length_pos_of_mem hm
      omega
    · have := nodup_len n l hn (fun x hx => by
        have := h x hx
        have : x ≠ n := fun e => hm (e ▸ hx)
        omega)
      omega
theorem Good.ql {S : Ps} (h : Good S) : S.Q.length ≤ S.R.length := by
  exact nodup_len _ _ h.qn fun i hi => by
    obtain ⟨o, ho, _⟩ := h.qd i hi
    exact some_lt ho
theorem held_iff {R : List Ob} {f : Int → Option Nat} (h : Is Ob.ow (-1) R f) (k : Int) (hk : k ≠ -1) : (f k).isSome = heldL R k := by
  unfold heldL
  cases hf : f k with
  | none =>
    symm
    rw [Option.isSome_none, List.any_eq_false]
    intro o ho e
    obtain ⟨i, hi⟩ := List.mem_iff_getElem?.1 ho
    have := (h k i).2 ⟨hk, o, hi, of_decide_eq_true e⟩
    rw [hf] at this
    cases this
  | some i =>
    symm
    obtain ⟨_, o, ho, e⟩ := (h k i).1 hf
    rw [Option.isSome_some, List.any_eq_true]
    exact ⟨o, List.mem_iff_getElem?.2 ⟨i, ho⟩, by simp [e]⟩
def kyB (n : ByteArray) : List UInt8 := n.data.toList
theorem kyB_nil {n : ByteArray} : kyB n = [] ↔ n.size = 0 := by
  unfold kyB
  rw [← List.length_eq_zero_iff]
  exact Iff.rfl
theorem other_iff {R : List Ob} {f : List UInt8 → Option Nat} (h : Is kyN [] R f) (n : ByteArray) (i : Nat) : (match f (kyB n) with | some j => decide (j ≠ i) | none => false) = otherL R n i := by
  unfold otherL
  by_cases hn : n.size = 0
  · have e : f (kyB n) = none := by
      cases hf : f (kyB n) with
      | none => rfl
      | some j => exact absurd (kyB_nil.2 hn) ((h _ j).1 hf).1
    rw [e]
    simp [hn]
  · simp only [ne_eq, hn, not_false_eq_true, decide_true, Bool.true_and]
    have hk : kyB n ≠ [] := fun e => hn (kyB_nil.1 e)
    cases hf : f (kyB n) with
    | none =>
      symm
      rw [List.any_eq_false]
      intro j hj
      cases hR : R[j]? with
      | none => simp
      | some o =>
        intro e
        simp at e
        have := (h (kyB n) j).2 ⟨hk, o, hR, by unfold kyN kyB; rw [e.2]⟩
        rw [hf] at this
        cases this
    | some j =>
      obtain ⟨_, o, ho, e⟩ := (h _ j).1 hf
      by_cases hji : j = i
      · subst hji
        show decide (j ≠ j) = _
        rw [decide_eq_false (by simp)]
        symm
        rw [List.any_eq_false]
        intro k hk2
        cases hR : R[k]? with
        | none => simp
        | some o' =>
          intro e2
          simp at e2
          have := (h (kyB n) k).2 ⟨hk, o', hR, by unfold kyN kyB; rw [e2.2]⟩
          rw [hf] at this
          exact e2.1 (Option.some.inj this).symm
      · show decide (j ≠ i) = _
        rw [decide_eq_true hji]
        symm
        rw [List.any_eq_true]
        refine ⟨j, List.mem_range.2 (some_lt ho), ?_⟩
        rw [ho]
        simp only [hji, not_false_eq_true, decide_true, Bool.true_and, decide_eq_true_eq]
        exact ba_ext e
end Go.Proofs.Ythmjjpaengackaa.Po
