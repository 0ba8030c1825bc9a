import Derived.Test.YtlmopjbfagijeaaGreatDoorBaseM
namespace Go.Proofs.YtlmopjbfagijeaaGreatDoor.Pa
open Go.RowKit Go.Lib

/-- a text cut at a byte: the parts ahead of each, and what is left -/
def step (c : UInt8) (s : List (List UInt8) × List UInt8) (x : UInt8) : List (List UInt8) × List UInt8 := if x = c then (s.1 ++ [s.2], []) else (s.1, s.2 ++ [x])
def cutS (c : UInt8) (l : List UInt8) : List (List UInt8) × List UInt8 := l.foldl (step c) ([], [])
/-- the parts, each with the byte behind it -/
def glue (c : UInt8) (ps : List (List UInt8)) : List UInt8 := (ps.map fun p => p ++ [c]).flatten
theorem glue_append (c : UInt8) (a b : List (List UInt8)) : glue c (a ++ b) = glue c a ++ glue c b := by simp [glue]
theorem glue_cons (c : UInt8) (a : List UInt8) (b : List (List UInt8)) : glue c (a :: b) = a ++ [c] ++ glue c b := by simp [glue]
theorem fold_cut (c : UInt8) (l : List UInt8) (ps : List (List UInt8)) (r : List UInt8) (hp : ∀ p ∈ ps, c ∉ p) (hr : c ∉ r) :
    glue c (l.foldl (step c) (ps, r)).1 ++ (l.foldl (step c) (ps, r)).2 = glue c ps ++ r ++ l ∧ (∀ p ∈ (l.foldl (step c) (ps, r)).1, c ∉ p) ∧ c ∉ (l.foldl (step c) (ps, r)).2 := by
  induction l generalizing ps r with
  | nil => exact ⟨by simp, hp, hr⟩
  | cons x l ih =>
    rw [List.foldl_cons]
    by_cases h : x = c
    · have e : step c (ps, r) x = (ps ++ [r], []) := by simp [step, h]
      rw [e]
      obtain ⟨h1, h2, h3⟩ := ih (ps ++ [r]) [] (fun p hp' => by
        rcases List.mem_append.1 hp' with h' | h'
        · exact hp p h'
        · simp at h'; subst h'; exact hr) (by simp)
      refine ⟨?_, h2, h3⟩
      rw [h1, glue_append, h]
      simp [glue]
    · have e : step c (ps, r) x = (ps, r ++ [x]) := by simp [step, h]
      rw [e]
      obtain ⟨h1, h2, h3⟩ := ih ps (r ++ [x]) hp (by simp; exact ⟨hr, fun e => h e.symm⟩)
      exact ⟨by rw [h1]; simp, h2, h3⟩
theorem cut_glue (c : UInt8) (l : List UInt8) : glue c (cutS c l).1 ++ (cutS c l).2 = l ∧ (∀ p ∈ (cutS c l).1, c ∉ p) ∧ c ∉ (cutS c l).2 := by
  have h := fold_cut c l [] [] (by simp) (by simp)
  rw [show glue c [] ++ [] ++ l = l by simp [glue]] at h
  exact h
theorem fold_free (c : UInt8) (p : List UInt8) (hp : c ∉ p) (s : List (List UInt8) × List UInt8) : p.foldl (step c) s = (s.1, s.2 ++ p) := by
  induction p generalizing s with
  | nil => simp
  | cons x p ih =>
    rw [List.foldl_cons, ih (fun h => hp (List.mem_cons_of_mem _ h))]
    have : x ≠ c := fun e => hp (by simp [e])
    simp [step, this]
theorem cut_of (c : UInt8) (ps : List (List UInt8)) (r : List UInt8) (hp : ∀ p ∈ ps, c ∉ p) (hr : c ∉ r) : cutS c (glue c ps ++ r) = (ps, r) := by
  have key : ∀ (ps qs : List (List UInt8)), (∀ p ∈ ps, c ∉ p) → (glue c ps).foldl (step c) (qs, []) = (qs ++ ps, []) := by
    intro ps
    induction ps with
    | nil => intro qs _; simp [glue]
    | cons a ps ih =>
      intro qs h
      rw [glue_cons, List.foldl_append, List.foldl_append, fold_free c a (h a (by simp))]
      have e : [c].foldl (step c) (qs, [] ++ a) = (qs ++ [a], []) := by simp [step]
      rw [e, ih _ (fun p hp => h p (List.mem_cons_of_mem _ hp))]
      simp
  unfold cutS
  rw [List.foldl_append, key ps [] hp, fold_free c r hr]
  simp
theorem cut_take (c : UInt8) (l : List UInt8) (k : Nat) (x : UInt8) (h : l[k]? = some x) : cutS c (l.take (k + 1)) = step c (cutS c (l.take k)) x := by
  unfold cutS
  rw [List.take_add_one, h, List.foldl_append]
  rfl
theorem cut_rest (c : UInt8) (l : List UInt8) : (cutS c l).2.length ≤ l.length := by
  have h := congrArg List.length (cut_glue c l).1
  rw [List.length_append] at h
  omega
/-- what is left lies at the end -/
theorem cut_drop (c : UInt8) (l : List UInt8) : l.drop (l.length - (cutS c l).2.length) = (cutS c l).2 := by
  have h := (cut_glue c l).1
  have hl := congrArg List.length h
  rw [List.length_append] at hl
  have e : l.length - (cutS c l).2.length = (glue c (cutS c l).1).length := by omega
  rw [e]
  have h2 : (glue c (cutS c l).1 ++ (cutS c l).2).drop (glue c (cutS c l).1).length = (cutS c l).2 := by simp
  rw [h] at h2
  exact h2

end Go.Proofs.YtlmopjbfagijeaaGreatDoor.Pa
