import Derived.Test.YthmjjpaengackaaRlC
namespace Go.Proofs.Ythmjjpaengackaa.Po
open Go.RowKit Go.Lib Go.Deep

/-! the document's settled and what the program takes up -/
theorem rightP_iff {o : Ob} {f : Nat} : rightP o (f : Int) ↔ stored o ∧ -1 ≤ o.ow ∧ o.ow < (f : Int) :=
  ⟨fun ⟨a, b, c, d, e, g⟩ => ⟨⟨a, b, c, d⟩, e, g⟩, fun ⟨⟨a, b, c, d⟩, e, g⟩ => ⟨a, b, c, d, e, g⟩⟩
theorem fst_ge {α : Type} {p : α → Bool} {l : List α} {k : Nat} : 0 ≤ fstI p l k ↔ ∃ (j : Nat) (x : α), j < k ∧ l[j]? = some x ∧ p x = true := by
  constructor
  · intro h
    unfold fstI at h
    cases hq : (l.take k).findIdx? p with
    | none => rw [hq] at h; exact absurd h (by decide)
    | some i =>
      rw [List.findIdx?_eq_some_iff_getElem] at hq
      obtain ⟨hi, hp, -⟩ := hq
      have hik : i < k := by
        rw [List.length_take] at hi
        omega
      have e1 : (l.take k)[i]? = some (l.take k)[i] := List.getElem?_eq_getElem hi
      rw [List.getElem?_take, if_pos hik] at e1
      exact ⟨i, _, hik, e1, hp⟩
  · rintro ⟨j, x, hj, hx, hp⟩
    by_cases h : ∀ (i : Nat) y, i < k → l[i]? = some y → p y = false
    · exact absurd hp (by rw [h j x hj hx]; exact Bool.false_ne_true)
    · unfold fstI
      cases hq : (l.take k).findIdx? p with
      | some i => exact Int.natCast_nonneg i
      | none =>
        rw [List.findIdx?_eq_none_iff] at hq
        exact absurd (fun i y hi hy => hq y (List.mem_iff_getElem?.2 ⟨i, by rw [List.getElem?_take, if_pos hi]; exact hy⟩)) h
theorem sk_at {f : Nat} {R : List Ob} {k j : Nat} {x : Ob} (hj : j < k) (h : R[j]? = some x) : (SK f R k).R[j]? = some x := by
  have hl := some_lt h
  show (R.take k ++ List.replicate (R.length - k) dOb)[j]? = some x
  rw [List.getElem?_append_left (by simp; omega), List.getElem?_take, if_pos hj]
  exact h
def twiceP (R : List Ob) (k : Nat) (o : Ob) : Prop := o.nm.size ≠ 0 ∧ 0 ≤ fstI (nmB o.nm) R k
def sameP (R : List Ob) (k : Nat) (o : Ob) : Prop := 0 ≤ o.ow ∧ 0 ≤ fstI (owB o.ow) R k
theorem may_iff {f : Nat} {R : List Ob} {k : Nat} {o : Ob} : mayS (SK f R k) k o ↔ rightP o (f : Int) ∧ ¬ twiceP R k o ∧ ¬ sameP R k o := by
  rw [rightP_iff]
  constructor
  · rintro ⟨h1, h2, h3⟩
    have hb : -1 ≤ o.ow ∧ o.ow < (f : Int) := by
      rcases h1 with h1 | ⟨⟨h4, h5⟩, _⟩
      · omega
      · have h5 : o.ow < (f : Int) := h5
        omega
    refine ⟨⟨h2, hb⟩, ?_, ?_⟩
    · rintro ⟨e, h4⟩
      obtain ⟨j, x, hj, hx, hp⟩ := fst_ge.1 h4
      exact other_no h3 e j x (by omega) (sk_at hj hx) (of_decide_eq_true hp)
    · rintro ⟨e, h4⟩
      obtain ⟨j, x, hj, hx, hp⟩ := fst_ge.1 h4
      rcases h1 with h1 | ⟨_, h5⟩
      · omega
      · exact held_no h5 j x (sk_at hj hx) (of_decide_eq_true hp)
  · rintro ⟨⟨h1, h2, h3⟩, h4, h5⟩
    refine ⟨?_, h1, ?_⟩
    · by_cases e : o.ow = -1
      · exact .inl e
      · refine .inr ⟨⟨by omega, h3⟩, ?_⟩
        unfold heldL
        rw [List.any_eq_false]
        intro x hx e2
        obtain ⟨j, hj⟩ := List.mem_iff_getElem?.1 hx
        have e2 := of_decide_eq_true e2
        rcases sk_row hj with ⟨q1, q2⟩ | rfl
        · exact h5 ⟨by omega, fst_ge.2 ⟨j, x, q1, q2, decide_eq_true e2⟩⟩
        · exact e e2.symm
    · unfold otherL
      by_cases e : o.nm.size = 0
      · simp [e]
      · rw [decide_eq_true e, Bool.true_and, List.any_eq_false]
        intro j _ e2
        rw [Bool.and_eq_true] at e2
        obtain ⟨-, e3⟩ := e2
        cases hj : (SK f R k).R[j]? with
        | none => rw [hj] at e3; cases e3
        | some x =>
          rw [hj] at e3
          have e3 := of_decide_eq_true e3
          rcases sk_row hj with ⟨q1, q2⟩ | rfl
          · exact h4 ⟨e, fst_ge.2 ⟨j, x, q1, q2, decide_eq_true e3⟩⟩
          · exact e (by rw [← e3]; rfl)
theorem queue_iff {f : Nat} {R : List Ob} {Z : List Int} {k : Nat} {z : Int} (hR : ∀ (j : Nat) o, R[j]? = some o → -1 ≤ o.ow) (hZ : ∀ (j : Nat) y, j < k → Z[j]? = some y → 0 ≤ y) :
    (rowN (SQ f R Z k) z ∧ outL (SQ f R Z k) z = true) ↔ (0 ≤ z ∧ z < (R.length : Int)) ∧ (rowAt (SQ f R Z k) z).ow < 0 ∧ anyB z Z k = false := by
  refine and_congr_right fun h => ?_
  have hg := row_get h
  have h1 := hR _ _ hg
  obtain ⟨h0, -⟩ := h
  rw [out_iff]
  refine and_congr (by omega) ?_
  constructor
  · intro hn
    refine anyB_no fun j y hj hy => decide_eq_false fun e => hn ?_
    subst e
    exact List.mem_map.2 ⟨y, List.mem_iff_getElem?.2 ⟨j, by rw [List.getElem?_take, if_pos hj]; exact hy⟩, rfl⟩
  · intro ha hm
    obtain ⟨y, hy, e⟩ := List.mem_map.1 hm
    obtain ⟨j, hj⟩ := List.mem_iff_getElem?.1 hy
    rw [List.getElem?_take] at hj
    split at hj
    · rename_i hlt
      have := hZ j y hlt hj
      have e2 : y = z := by omega
      subst e2
      rw [anyB_at hlt hj] at ha
      cases ha
    · cases hj
end Go.Proofs.Ythmjjpaengackaa.Po
