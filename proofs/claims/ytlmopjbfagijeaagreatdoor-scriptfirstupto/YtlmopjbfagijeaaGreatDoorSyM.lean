import Derived.Test.YtlmopjbfagijeaaGreatDoorSyJ
namespace Go.Proofs.YtlmopjbfagijeaaGreatDoor.Sc
open Go.RowKit Go.Lib Go.Deep

theorem RowF.lower {w : World} {B B' : Nat} {e : TypeId} {v : Value} {xs : List Value} (h : RowF w B e v xs) (hB : B' ≤ B) : RowF w B' e v xs := by
  obtain ⟨g, cap, cur, fr, r1, r2, r3⟩ := h
  exact ⟨g, cap, cur, fr, r1, Nat.le_trans hB r2, r3⟩
theorem Moved.cons {a : ActV} {t V' : List ActV} (h : Moved (a :: t) V') : ∃ b c t', V' = ({ a.1 with ops := b, cops := c }, a.2) :: t' ∧ Moved t t' := by
  cases V' with
  | nil => exact absurd h.1 (by simp)
  | cons y t' =>
    obtain ⟨b, c, e⟩ := h.2 0 a rfl
    obtain rfl := Option.some.inj e
    exact ⟨b, c, t', rfl, by have := h.1; simpa using this, fun i x hx => h.2 (i + 1) x hx⟩
theorem moved_sums (V : List ActV) : ∀ V', Moved V V' → firA V' = firA V ∧ actsT V' = actsT V ∧ lnsT V' = lnsT V := by
  induction V with
  | nil =>
    intro V' h
    obtain rfl : V' = [] := List.length_eq_zero_iff.1 h.1
    exact ⟨rfl, rfl, rfl⟩
  | cons a t ih =>
    intro V' h
    obtain ⟨b, c, t', rfl, h'⟩ := h.cons
    obtain ⟨h1, h2, h3⟩ := ih t' h'
    have hp := prA_moved a b c
    refine ⟨?_, ?_, ?_⟩
    · rw [firA, firA, hp, h1]
    · simp only [actsT, List.flatMap_cons] at h2 ⊢
      rw [hp, h2]
    · simp only [lnsT, List.map_cons, List.sum_cons] at h3 ⊢
      rw [h3]
      rfl
/-- the text does not ask where the lists lie -/
theorem printV_moved (p : PlR) {V V' : List ActV} (h : Moved V V') (a : Option Addr) (c : Nat) : printV { p with acts := a, cacts := c } V' = printV p V := by
  obtain ⟨h1, h2, h3⟩ := moved_sums V V' h
  show printV p V' = printV p V
  unfold printV
  rw [h1, h2, h3]
theorem VOk.moved {V V' : List ActV} (hok : VOk V) (h : Moved V V') : VOk V' :=
  ⟨fun y hy => by
    obtain ⟨i, hi⟩ := List.mem_iff_getElem?.1 hy
    have hlt := (List.getElem?_eq_some_iff.1 hi).1
    obtain ⟨x, hx⟩ : ∃ x, V[i]? = some x := ⟨_, List.getElem?_eq_getElem (by rw [← h.1]; exact hlt)⟩
    obtain ⟨a, c, e⟩ := h.2 i x hx
    rw [hi] at e
    obtain rfl := Option.some.inj e
    obtain ⟨h1, h2, h3, h4⟩ := hok.each x (List.mem_of_getElem? hx)
    exact ⟨⟨h1.kind, h1.i, h1.before, h1.ek, h1.put, h1.frm, h1.name, h1.blob⟩, h2, h3, h4⟩, by rw [h.1]; exact hok.len⟩
theorem VOk.rev {V : List ActV} (hok : VOk V) : VOk V.reverse := ⟨fun x hx => hok.each x (List.mem_reverse.1 hx), by rw [List.length_reverse]; exact hok.len⟩
theorem lnsT_rev (V : List ActV) : lnsT V.reverse = lnsT V := by
  unfold lnsT
  rw [List.map_reverse, List.sum_reverse]
theorem lnsT_nops (V : List ActV) (h : ∀ x ∈ V, x.2.length = x.1.nops) : lnsT V ≤ (V.map (·.1.nops)).sum + 2 * V.length := by
  induction V with
  | nil => simp [lnsT]
  | cons a t ih =>
    have h1 := h a (List.mem_cons_self ..)
    have h2 := ih fun x hx => h x (List.mem_cons_of_mem _ hx)
    simp only [lnsT, List.map_cons, List.sum_cons, List.length_cons] at h2 ⊢
    have h3 : lnsA a ≤ a.2.length + 2 := by unfold lnsA; split <;> omega
    omega
theorem firA_bd (V : List ActV) (hok : VOk V) : 0 ≤ firA V ∧ firA V < 1000 := by
  have key : ∀ L : List ActV, (∀ x ∈ L, x ∈ V) → 0 ≤ firA L ∧ firA L < 1000 := by
    intro L
    induction L with
    | nil => exact fun _ => ⟨Int.le_refl _, by decide⟩
    | cons a t ih =>
      intro h
      have hp := prA_pa a (hok.each a (h a (List.mem_cons_self ..)))
      rw [firA]
      split
      · exact ih fun x hx => h x (List.mem_cons_of_mem _ hx)
      · exact ⟨hp.lo, hp.hi⟩
  exact key V fun _ h => h
theorem printV_form (p : PlR) (V : List ActV) (hok : VOk V) : ∃ (x : ByteArray) (c : Int), printV p V = .tuple #[.string x, .int .i64 c] ∧ 0 ≤ c ∧ c < 1000 := by
  unfold printV
  split
  · exact ⟨_, _, rfl, by decide, by decide⟩
  · split
    · exact ⟨_, _, rfl, by decide, by decide⟩
    · split
      · exact ⟨_, _, rfl, (firA_bd V hok).1, (firA_bd V hok).2⟩
      · split
        · exact ⟨_, _, rfl, by decide, by decide⟩
        · exact ⟨_, _, rfl, by decide, by decide⟩
end Go.Proofs.YtlmopjbfagijeaaGreatDoor.Sc
