import Derived.Test.YtnfddiabhpandaaGreatDoorKqM
import Derived.Test.YtnfddiabhpandaaGreatDoorKsM
import Derived.Test.YtnfddiabhpandaaGreatDoorSaM
import Derived.Test.YtnfddiabhpandaaGreatDoorSnM
namespace Go.Proofs.YtnfddiabhpandaaGreatDoor.Tr
open Go.RowKit Go.Lib Go.Deep

/-- the tables with a node more -/
def entT (T : Ts) (x : Nd) : Ts := if x.kind = 1 then { T with D := gapL T.D x.number (some (x.parent, x.name)) } else { T with F := gapL T.F x.number (some (x.parent, x.name, x.size)) }
def entL (T : Ts) (l : List Nd) : Ts := l.foldl entT T
theorem entL_snoc (T : Ts) (l : List Nd) (x : Nd) : entL T (l ++ [x]) = entT (entL T l) x := by simp [entL]
theorem entT_stay (T : Ts) (x : Nd) : (entT T x).fr = T.fr ∧ (entT T x).dr = T.dr ∧ (entT T x).most = T.most ∧ (entT T x).M = T.M := by
  unfold entT
  split <;> exact ⟨rfl, rfl, rfl, rfl⟩
theorem entL_stay (T : Ts) : ∀ l : List Nd, (entL T l).fr = T.fr ∧ (entL T l).dr = T.dr ∧ (entL T l).most = T.most ∧ (entL T l).M = T.M := by
  intro l
  induction l generalizing T with
  | nil => exact ⟨rfl, rfl, rfl, rfl⟩
  | cons a l ih =>
    obtain ⟨h1, h2, h3, h4⟩ := ih (entT T a)
    obtain ⟨g1, g2, g3, g4⟩ := entT_stay T a
    exact ⟨h1.trans g1, h2.trans g2, h3.trans g3, h4.trans g4⟩
/-- the nodes that are still to come have numbers beyond the tables -/
structure Bey (T : Ts) (l : List Nd) : Prop where
  k : ∀ x ∈ l, x.kind = 1 ∨ x.kind = 2
  d : ∀ x ∈ l, x.kind = 1 → T.D.length ≤ x.number
  f : ∀ x ∈ l, x.kind ≠ 1 → T.F.length ≤ x.number
theorem Bey.step {T : Ts} {x : Nd} {l : List Nd} (h : Bey T (x :: l)) (hs : ∀ y ∈ l, ndLt x y) : Bey (entT T x) l := by
  unfold entT
  by_cases hk : x.kind = 1
  · rw [if_pos hk]
    refine ⟨fun y hy => h.k y (List.mem_cons_of_mem _ hy), fun y hy hy1 => ?_, fun y hy hy1 => h.f y (List.mem_cons_of_mem _ hy) hy1⟩
    show (gapL T.D x.number _).length ≤ _
    rw [gapL_len (h.d x (List.mem_cons_self ..) hk)]
    rcases hs y hy with h1 | ⟨_, h1⟩ <;> omega
  · rw [if_neg hk]
    refine ⟨fun y hy => h.k y (List.mem_cons_of_mem _ hy), fun y hy hy1 => h.d y (List.mem_cons_of_mem _ hy) hy1, fun y hy hy1 => ?_⟩
    show (gapL T.F x.number _).length ≤ _
    rw [gapL_len (h.f x (List.mem_cons_self ..) hk)]
    rcases hs y hy with h1 | ⟨_, h1⟩
    · have a1 := h.k x (List.mem_cons_self ..)
      have a2 := h.k y (List.mem_cons_of_mem _ hy)
      omega
    · omega
theorem ent_D {T : Ts} : ∀ {l : List Nd}, Bey T l → l.Pairwise ndLt → ∀ j d, (entL T l).D[j]? = some (some d) ↔ T.D[j]? = some (some d) ∨ ∃ x ∈ l, x.kind = 1 ∧ x.number = j ∧ d = (x.parent, x.name) := by
  intro l
  induction l generalizing T with
  | nil => intro _ _ j d; simp [entL]
  | cons a l ih =>
    intro hB hp j d
    have hp2 := List.pairwise_cons.1 hp
    show (entL (entT T a) l).D[j]? = _ ↔ _
    rw [ih (hB.step hp2.1) hp2.2]
    unfold entT
    by_cases hk : a.kind = 1
    · rw [if_pos hk]
      show (gapL T.D a.number _)[j]? = _ ∨ _ ↔ _
      rw [gapL_some (hB.d a (List.mem_cons_self ..) hk)]
      constructor
      · rintro ((⟨h1, h2⟩ | h1) | ⟨x, h1, h2⟩)
        · exact .inr ⟨a, List.mem_cons_self .., hk, h1.symm, h2⟩
        · exact .inl h1
        · exact .inr ⟨x, List.mem_cons_of_mem _ h1, h2⟩
      · rintro (h1 | ⟨x, h1, h2, h3, h4⟩)
        · exact .inl (.inr h1)
        · rcases List.mem_cons.1 h1 with rfl | h1
          · exact .inl (.inl ⟨h3.symm, h4⟩)
          · exact .inr ⟨x, h1, h2, h3, h4⟩
    · rw [if_neg hk]
      constructor
      · rintro (h1 | ⟨x, h1, h2⟩)
        · exact .inl h1
        · exact .inr ⟨x, List.mem_cons_of_mem _ h1, h2⟩
      · rintro (h1 | ⟨x, h1, h2, h3⟩)
        · exact .inl h1
        · rcases List.mem_cons.1 h1 with rfl | h1
          · exact absurd h2 hk
          · exact .inr ⟨x, h1, h2, h3⟩
theorem ent_F {T : Ts} : ∀ {l : List Nd}, Bey T l → l.Pairwise ndLt → ∀ j d, (entL T l).F[j]? = some (some d) ↔ T.F[j]? = some (some d) ∨ ∃ x ∈ l, x.kind ≠ 1 ∧ x.number = j ∧ d = (x.parent, x.name, x.size) := by
  intro l
  induction l generalizing T with
  | nil => intro _ _ j d; simp [entL]
  | cons a l ih =>
    intro hB hp j d
    have hp2 := List.pairwise_cons.1 hp
    show (entL (entT T a) l).F[j]? = _ ↔ _
    rw [ih (hB.step hp2.1) hp2.2]
    unfold entT
    by_cases hk : a.kind = 1
    · rw [if_pos hk]
      constructor
      · rintro (h1 | ⟨x, h1, h2⟩)
        · exact .inl h1
        · exact .inr ⟨x, List.mem_cons_of_mem _ h1, h2⟩
      · rintro (h1 | ⟨x, h1, h2, h3⟩)
        · exact .inl h1
        · rcases List.mem_cons.1 h1 with rfl | h1
          · exact absurd hk h2
          · exact .inr ⟨x, h1, h2, h3⟩
    · rw [if_neg hk]
      show (gapL T.F a.number _)[j]? = _ ∨ _ ↔ _
      rw [gapL_some (hB.f a (List.mem_cons_self ..) hk)]
      constructor
      · rintro ((⟨h1, h2⟩ | h1) | ⟨x, h1, h2⟩)
        · exact .inr ⟨a, List.mem_cons_self .., hk, h1.symm, h2⟩
        · exact .inl h1
        · exact .inr ⟨x, List.mem_cons_of_mem _ h1, h2⟩
      · rintro (h1 | ⟨x, h1, h2, h3, h4⟩)
        · exact .inl (.inr h1)
        · rcases List.mem_cons.1 h1 with rfl | h1
          · exact .inl (.inl ⟨h3.symm, h4⟩)
          · exact .inr ⟨x, h1, h2, h3, h4⟩
/-- two tables hold the same -/
def Sme {α : Type} (l m : List (Option α)) : Prop := ∀ (j : Nat) (d : α), l[j]? = some (some d) ↔ m[j]? = some (some d)
theorem bey_told {T : Ts} (f d m : Nat) : Bey (newT f d m) (told T) := by
  refine ⟨fun x hx => ?_, fun x hx hk => ?_, fun x _ _ => Nat.zero_le _⟩
  · rcases told_mem hx with h | h
    · exact .inl h.1
    · exact .inr h.1
  · rcases told_mem hx with h | h
    · exact h.2.1
    · omega
/-- how State's nodes say the tables -/
theorem in_toldD {T : Ts} {j : Nat} {p : Nat} {n : ByteArray} (hj : 1 ≤ j) (h : T.D[j]? = some (some (p, n))) : (⟨1, j, p, n, 0⟩ : Nd) ∈ told T := by
  refine List.mem_append_left _ ?_
  unfold toldD
  refine List.mem_filterMap.2 ⟨(some (p, n), j), ?_, rfl⟩
  refine List.mem_iff_getElem?.2 ⟨j - 1, ?_⟩
  rw [List.getElem?_drop, List.getElem?_zipIdx, show 1 + (j - 1) = j by omega, h]
  simp
theorem in_toldF {T : Ts} {j : Nat} {p s : Nat} {n : ByteArray} (h : T.F[j]? = some (some (p, n, s))) : (⟨2, j, p, n, s⟩ : Nd) ∈ told T := by
  refine List.mem_append_right _ ?_
  unfold toldF
  exact List.mem_filterMap.2 ⟨(some (p, n, s), j), List.mem_zipIdx_iff_getElem?.2 h, rfl⟩
theorem load_D {T : Ts} {dp : Nat → Nat} (hv : Inv T dp) (f d m : Nat) : Sme (entL (newT f d m) (told T)).D T.D := fun j x => by
  rw [ent_D (bey_told f d m) (told_sorted T)]
  constructor
  · rintro (h | ⟨y, h1, h2, h3, rfl⟩)
    · have : j = 0 := by have := some_lt h; simp [newT] at this; omega
      subst this
      rw [hv.root]
      exact h
    · rcases told_mem h1 with h | h
      · rw [← h3]; exact h.2.2.1
      · omega
  · intro h
    by_cases hj : j = 0
    · subst hj
      rw [hv.root] at h
      exact .inl h
    · exact .inr ⟨_, in_toldD (by omega) h, rfl, rfl, rfl⟩
theorem load_F {T : Ts} (f d m : Nat) : Sme (entL (newT f d m) (told T)).F T.F := fun j x => by
  rw [ent_F (bey_told f d m) (told_sorted T)]
  constructor
  · rintro (h | ⟨y, h1, h2, h3, rfl⟩)
    · simp [newT] at h
    · rcases told_mem h1 with h | h
      · exact absurd h.1 h2
      · rw [← h3]; exact h.2
  · intro h
    exact .inr ⟨_, in_toldF h, by simp, rfl, rfl⟩
/-- whatever lies in a tree lies in its root, by the table of directories alone -/
theorem root_of {T U : Ts} {dp : Nat → Nat} (hv : Inv T dp) (hD : Sme U.D T.D) : ∀ (k p : Nat), tk T p → dp p < k → rootd U k p = true
  | 0, _, _, h => by omega
  | k + 1, p, ht, h => by
    by_cases hp : p = 0
    · subst hp; exact rootd_zero
    · obtain ⟨⟨q, n⟩, hd⟩ := ht
      have hm : T.M q (ky n) = some (1, p) := (hv.hM _ _ _).2 (.inl ⟨rfl, hp, n, hd, rfl⟩)
      have h1 := (hv.d1 _ _ _ hm).2 rfl
      rw [rootd_some hp ((hD p _).2 hd)]
      exact root_of hv hD k q (hv.hP _ _ _ hm) (by simp only at h1; omega)
/-- a node's place takes it -/
def hgD1 (T : Ts) (x : Cm) : Ts := if x.i = 0 then T else hangT T x.p x.n (some (1, x.i))
def hgD (T : Ts) (l : List Cm) : Ts := l.foldl hgD1 T
def hgF (T : Ts) (l : List Cm) : Ts := l.foldl (fun T x => hangT T x.p x.n (some (2, x.i))) T
theorem hgD_snoc (T : Ts) (l : List Cm) (x : Cm) : hgD T (l ++ [x]) = hgD1 (hgD T l) x := by simp [hgD]
theorem hgF_snoc (T : Ts) (l : List Cm) (x : Cm) : hgF T (l ++ [x]) = hangT (hgF T l) x.p x.n (some (2, x.i)) := by simp [hgF]
theorem hgD_stay (T : Ts) (l : List Cm) : (hgD T l).fr = T.fr ∧ (hgD T l).dr = T.dr ∧ (hgD T l).most = T.most ∧ (hgD T l).D = T.D ∧ (hgD T l).F = T.F := by
  induction l generalizing T with
  | nil => exact ⟨rfl, rfl, rfl, rfl, rfl⟩
  | cons a l ih =>
    have h : (hgD1 T a).fr = T.fr ∧ (hgD1 T a).dr = T.dr ∧ (hgD1 T a).most = T.most ∧ (hgD1 T a).D = T.D ∧ (hgD1 T a).F = T.F := by unfold hgD1; split <;> exact ⟨rfl, rfl, rfl, rfl, rfl⟩
    obtain ⟨a1, a2, a3, a4, a5⟩ := ih (hgD1 T a)
    exact ⟨a1.trans h.1, a2.trans h.2.1, a3.trans h.2.2.1, a4.trans h.2.2.2.1, a5.trans h.2.2.2.2⟩
theorem hgF_stay (T : Ts) (l : List Cm) : (hgF T l).fr = T.fr ∧ (hgF T l).dr = T.dr ∧ (hgF T l).most = T.most ∧ (hgF T l).D = T.D ∧ (hgF T l).F = T.F := by
  induction l generalizing T with
  | nil => exact ⟨rfl, rfl, rfl, rfl, rfl⟩
  | cons a l ih => exact ih (hangT T a.p a.n (some (2, a.i)))
theorem hgD_M (T : Ts) (l : List Cm) {p : Nat} {k : Key} {v : Nat × Nat} (h : (hgD T l).M p k = some v) : T.M p k = some v ∨ ∃ x ∈ l, x.i ≠ 0 ∧ x.p = p ∧ ky x.n = k ∧ v = (1, x.i) := by
  induction l generalizing T with
  | nil => exact .inl h
  | cons a l ih =>
    rcases ih (hgD1 T a) h with h1 | ⟨x, h1, h2⟩
    · unfold hgD1 at h1
      by_cases ha : a.i = 0
      · rw [if_pos ha] at h1; exact .inl h1
      · rw [if_neg ha] at h1
        have h1 : (if p = a.p ∧ k = ky a.n then some (1, a.i) else T.M p k) = some v := h1
        by_cases hc : p = a.p ∧ k = ky a.n
        · rw [if_pos hc] at h1
          injection h1 with h1
          exact .inr ⟨a, List.mem_cons_self .., ha, hc.1.symm, hc.2.symm, h1.symm⟩
        · rw [if_neg hc] at h1; exact .inl h1
    · exact .inr ⟨x, List.mem_cons_of_mem _ h1, h2⟩
theorem hgF_M (T : Ts) (l : List Cm) {p : Nat} {k : Key} {v : Nat × Nat} (h : (hgF T l).M p k = some v) : T.M p k = some v ∨ ∃ x ∈ l, x.p = p ∧ ky x.n = k ∧ v = (2, x.i) := by
  induction l generalizing T with
  | nil => exact .inl h
  | cons a l ih =>
    rcases ih (hangT T a.p a.n (some (2, a.i))) h with h1 | ⟨x, h1, h2⟩
    · have h1 : (if p = a.p ∧ k = ky a.n then some (2, a.i) else T.M p k) = some v := h1
      by_cases hc : p = a.p ∧ k = ky a.n
      · rw [if_pos hc] at h1
        injection h1 with h1
        exact .inr ⟨a, List.mem_cons_self .., hc.1.symm, hc.2.symm, h1.symm⟩
      · rw [if_neg hc] at h1; exact .inl h1
    · exact .inr ⟨x, List.mem_cons_of_mem _ h1, h2⟩
theorem upto_mem {rs : List (Option (Nat × ByteArray × Nat))} {k : Nat} {x : Cm} (h : x ∈ upto rs k) : x.i < k ∧ rs[x.i]? = some (some (x.p, x.n, x.x)) := by
  unfold upto at h
  obtain ⟨r, hr, h2⟩ := List.mem_filterMap.1 h
  have h3 := List.mem_zipIdx_iff_getElem?.1 hr
  cases ho : r.1 with
  | none => rw [ho] at h2; cases h2
  | some d =>
    rw [ho] at h2 h3
    simp only [Option.map_some, Option.some.injEq] at h2
    subst h2
    have hl := (List.getElem?_eq_some_iff.1 h3).1
    rw [List.length_take] at hl
    rw [List.getElem?_take] at h3
    refine ⟨by show r.2 < k; omega, ?_⟩
    split at h3
    · exact h3
    · cases h3
theorem mem_upto {rs : List (Option (Nat × ByteArray × Nat))} {k i p y : Nat} {n : ByteArray} (hi : i < k) (h : rs[i]? = some (some (p, n, y))) : (⟨i, p, n, y⟩ : Cm) ∈ upto rs k := by
  unfold upto
  refine List.mem_filterMap.2 ⟨(some (p, n, y), i), List.mem_zipIdx_iff_getElem?.2 ?_, rfl⟩
  rw [List.getElem?_take, if_pos hi]
  exact h

end Go.Proofs.YtnfddiabhpandaaGreatDoor.Tr

namespace Go.Proofs.YtnfddiabhpandaaGreatDoor.Tr
open Go.RowKit Go.Lib Go.Deep

theorem upto_lt (rs : List (Option (Nat × ByteArray × Nat))) (k : Nat) : (upto rs k).Pairwise fun a b => a.i < b.i := by
  induction k with
  | zero => simp [upto]
  | succ k ih =>
    cases h : rs[k]? with
    | none =>
      have hl := List.getElem?_eq_none_iff.1 h
      rw [upto_all rs (show rs.length ≤ k + 1 by omega), ← upto_all rs hl]
      exact ih
    | some o =>
      rw [upto_succ h]
      refine List.pairwise_append.2 ⟨ih, ?_, fun a ha b hb => ?_⟩
      · cases o <;> simp
      · cases o with
        | none => simp at hb
        | some d =>
          simp at hb
          subst hb
          exact (upto_mem ha).1
theorem sorted_ext : ∀ {l m : List Nd}, l.Pairwise ndLt → m.Pairwise ndLt → (∀ x, x ∈ l ↔ x ∈ m) → l = m := by
  intro l
  induction l with
  | nil =>
    intro m _ _ h
    cases m with
    | nil => rfl
    | cons b m => exact absurd ((h b).2 (List.mem_cons_self ..)) (by simp)
  | cons a l ih =>
    intro m hl hm h
    cases m with
    | nil => exact absurd ((h a).1 (List.mem_cons_self ..)) (by simp)
    | cons b m =>
      have hl2 := List.pairwise_cons.1 hl
      have hm2 := List.pairwise_cons.1 hm
      have irr : ∀ x y : Nd, ndLt x y → ndLt y x → False := fun x y h1 h2 => by
        rcases h1 with h1 | ⟨h1, h1'⟩ <;> rcases h2 with h2 | ⟨h2, h2'⟩ <;> omega
      have hab : a = b := by
        rcases List.mem_cons.1 ((h a).1 (List.mem_cons_self ..)) with e | e
        · exact e
        · rcases List.mem_cons.1 ((h b).2 (List.mem_cons_self ..)) with e' | e'
          · exact e'.symm
          · exact (irr _ _ (hm2.1 a e) (hl2.1 b e')).elim
      subst hab
      rw [ih hl2.2 hm2.2 fun x => ?_]
      constructor
      · intro hx
        rcases List.mem_cons.1 ((h x).1 (List.mem_cons_of_mem _ hx)) with e | e
        · subst e; exact (irr _ _ (hl2.1 x hx) (hl2.1 x hx)).elim
        · exact e
      · intro hx
        rcases List.mem_cons.1 ((h x).2 (List.mem_cons_of_mem _ hx)) with e | e
        · subst e; exact (irr _ _ (hm2.1 x hx) (hm2.1 x hx)).elim
        · exact e
/-- tables that hold the same are told alike -/
theorem told_eq {T U : Ts} (hD : Sme U.D T.D) (hF : Sme U.F T.F) : told U = told T := by
  have key : ∀ {A B : Ts}, Sme A.D B.D → Sme A.F B.F → ∀ x, x ∈ told A → x ∈ told B := fun {A B} h1 h2 x hx => by
    rcases told_mem hx with ⟨a1, a2, a3, a4⟩ | ⟨a1, a2⟩
    · have := in_toldD (T := B) a2 ((h1 _ _).1 a3)
      obtain ⟨xk, xn, xp, xm, xs⟩ := x
      simp only at a1 a4 this
      rw [a1, a4]
      exact this
    · have := in_toldF (T := B) ((h2 _ _).1 a2)
      obtain ⟨xk, xn, xp, xm, xs⟩ := x
      simp only at a1 this
      rw [a1]
      exact this
  exact sorted_ext (told_sorted U) (told_sorted T) fun x => ⟨key hD hF x, key (fun j d => (hD j d).symm) (fun j d => (hF j d).symm) x⟩
/-- what comes of a table of directories lies in the tree -/
theorem cmD {T U : Ts} {dp : Nat → Nat} (hv : Inv T dp) (hD : Sme U.D T.D) {ms : Nat → Nat} {k : Nat} {x : Cm} (h : x ∈ upto (rsD U.D ms) k) : T.D[x.i]? = some (some (x.p, x.n)) ∧ (x.i ≠ 0 → T.M x.p (ky x.n) = some (1, x.i)) := by
  have h1 := (upto_mem h).2
  rw [rsD_get] at h1
  have h2 : T.D[x.i]? = some (some (x.p, x.n)) := by
    refine (hD _ _).1 ?_
    cases hu : U.D[x.i]? with
    | none => rw [hu] at h1; cases h1
    | some o =>
      rw [hu] at h1
      cases o with
      | none => cases h1
      | some d =>
        simp only [Option.map_some, Option.some.injEq, Prod.mk.injEq] at h1
        rw [← h1.1, ← h1.2.1]
  exact ⟨h2, fun hi => (hv.hM _ _ _).2 (.inl ⟨rfl, hi, _, h2, rfl⟩)⟩
theorem cmF {T U : Ts} {dp : Nat → Nat} (hv : Inv T dp) (hF : Sme U.F T.F) {k : Nat} {x : Cm} (h : x ∈ upto U.F k) : T.F[x.i]? = some (some (x.p, x.n, x.x)) ∧ T.M x.p (ky x.n) = some (2, x.i) := by
  have h2 := (hF _ _).1 (upto_mem h).2
  exact ⟨h2, (hv.hM _ _ _).2 (.inr ⟨rfl, _, _, h2, rfl⟩)⟩
theorem rootd_D {T U : Ts} (h : T.D = U.D) : ∀ k p, rootd T k p = rootd U k p
  | 0, _ => rfl
  | k + 1, p => by
    by_cases hp : p = 0
    · subst hp; rw [rootd_zero, rootd_zero]
    · cases hd : U.D[p]? with
      | none => rw [rootd_none hp (fun d => by rw [h, hd]; exact fun e => by cases e), rootd_none hp (fun d => by rw [hd]; exact fun e => by cases e)]
      | some o => cases o with
        | none => rw [rootd_none hp (fun d => by rw [h, hd]; exact fun e => by cases e), rootd_none hp (fun d => by rw [hd]; exact fun e => by cases e)]
        | some d => rw [rootd_some hp (by rw [h]; exact hd), rootd_some hp hd, rootd_D h k d.1]
/-- every directory finds its place free -/
theorem placeD {T U : Ts} {dp : Nat → Nat} (hv : Inv T dp) (hD : Sme U.D T.D) (hM : U.M = fun _ _ => none) {ms : Nat → Nat} {k : Nat} {pre : List Cm} {x : Cm} (h : upto (rsD U.D ms) k = pre ++ [x]) (hx : x.i ≠ 0) : rootd (hgD U pre) 16 x.p = true ∧ (hgD U pre).M x.p (ky x.n) = none := by
  have hmx : x ∈ upto (rsD U.D ms) k := by rw [h]; simp
  obtain ⟨c1, c2⟩ := cmD hv hD hmx
  have c3 := c2 hx
  refine ⟨?_, ?_⟩
  · rw [rootd_D (hgD_stay U pre).2.2.2.1]
    exact root_of hv hD 16 x.p (hv.hP _ _ _ c3) (by have := (hv.d1 _ _ _ c3).1; omega)
  · cases hm : (hgD U pre).M x.p (ky x.n) with
    | none => rfl
    | some v =>
      exfalso
      rcases hgD_M U pre hm with h1 | ⟨y, h1, h2, h3, h4, h5⟩
      · rw [hM] at h1; cases h1
      · have hmy : y ∈ upto (rsD U.D ms) k := by rw [h]; exact List.mem_append_left _ h1
        have c4 := (cmD hv hD hmy).2 h2
        rw [h3, h4, c3] at c4
        injection c4 with c4
        injection c4 with _ c4
        have hp := upto_lt (rsD U.D ms) k
        rw [h] at hp
        have := (List.pairwise_append.1 hp).2.2 y h1 x (by simp)
        omega
/-- and every file -/
theorem placeF {T U : Ts} {dp : Nat → Nat} (hv : Inv T dp) (hD : Sme U.D T.D) (hF : Sme U.F T.F) (hM : U.M = fun _ _ => none) {ms : Nat → Nat} {j k : Nat} {pre : List Cm} {x : Cm} (h : upto U.F k = pre ++ [x]) : rootd (hgF (hgD U (upto (rsD U.D ms) j)) pre) 16 x.p = true ∧ (hgF (hgD U (upto (rsD U.D ms) j)) pre).M x.p (ky x.n) = none := by
  have hmx : x ∈ upto U.F k := by rw [h]; simp
  obtain ⟨c1, c3⟩ := cmF hv hF hmx
  refine ⟨?_, ?_⟩
  · rw [rootd_D ((hgF_stay _ pre).2.2.2.1.trans (hgD_stay U _).2.2.2.1)]
    exact root_of hv hD 16 x.p (hv.hP _ _ _ c3) (by have := (hv.d1 _ _ _ c3).1; omega)
  · cases hm : (hgF (hgD U (upto (rsD U.D ms) j)) pre).M x.p (ky x.n) with
    | none => rfl
    | some v =>
      exfalso
      rcases hgF_M _ pre hm with h1 | ⟨y, h1, h3, h4, h5⟩
      · rcases hgD_M U _ h1 with h2 | ⟨y, h2, h3, h4, h5, h6⟩
        · rw [hM] at h2; cases h2
        · have c4 := (cmD hv hD h2).2 h3
          rw [h4, h5, c3] at c4
          injection c4 with c4
          injection c4 with c4 _
          omega
      · have hmy : y ∈ upto U.F k := by rw [h]; exact List.mem_append_left _ h1
        have c4 := (cmF hv hF hmy).2
        rw [h3, h4, c3] at c4
        injection c4 with c4
        injection c4 with _ c4
        have hp := upto_lt U.F k
        rw [h] at hp
        have := (List.pairwise_append.1 hp).2.2 y h1 x (by simp)
        omega
theorem hang_some {T : Ts} {p q : Nat} {n : ByteArray} {k : Key} {v : Nat × Nat} (h : (T.M p k).isSome = true) : ((hangT T q n (some v)).M p k).isSome = true := by
  show (if p = q ∧ k = ky n then some v else T.M p k).isSome = true
  split
  · rfl
  · exact h
theorem hgD_keeps {p : Nat} {k : Key} : ∀ (l : List Cm) (T : Ts), (T.M p k).isSome = true → ((hgD T l).M p k).isSome = true
  | [], _, h => h
  | a :: l, T, h => hgD_keeps l (hgD1 T a) (by unfold hgD1; split; exact h; exact hang_some h)
theorem hgF_keeps {p : Nat} {k : Key} : ∀ (l : List Cm) (T : Ts), (T.M p k).isSome = true → ((hgF T l).M p k).isSome = true
  | [], _, h => h
  | a :: l, T, h => hgF_keeps l (hangT T a.p a.n (some (2, a.i))) (hang_some h)
theorem hang_here (T : Ts) (p : Nat) (n : ByteArray) (v : Nat × Nat) : ((hangT T p n (some v)).M p (ky n)).isSome = true := by
  show (if p = p ∧ ky n = ky n then some v else T.M p (ky n)).isSome = true
  rw [if_pos ⟨rfl, rfl⟩]
  rfl
theorem hgD_has : ∀ (l : List Cm) (T : Ts) {x : Cm}, x ∈ l → x.i ≠ 0 → ((hgD T l).M x.p (ky x.n)).isSome = true
  | a :: l, T, x, h, hx => by
    rcases List.mem_cons.1 h with rfl | h
    · exact hgD_keeps l (hgD1 T x) (by unfold hgD1; rw [if_neg hx]; exact hang_here _ _ _ _)
    · exact hgD_has l (hgD1 T a) h hx
theorem hgF_has : ∀ (l : List Cm) (T : Ts) {x : Cm}, x ∈ l → ((hgF T l).M x.p (ky x.n)).isSome = true
  | a :: l, T, x, h => by
    rcases List.mem_cons.1 h with rfl | h
    · exact hgF_keeps l _ (hang_here _ _ _ _)
    · exact hgF_has l _ h
/-- all is laid as it lay -/
theorem load_M {T U : Ts} {dp : Nat → Nat} (hv : Inv T dp) (hD : Sme U.D T.D) (hF : Sme U.F T.F) (hM : U.M = fun _ _ => none) (ms : Nat → Nat) : (hgF (hgD U (upto (rsD U.D ms) (rsD U.D ms).length)) (upto U.F U.F.length)).M = T.M := by
  have fwd : ∀ p k v, (hgF (hgD U (upto (rsD U.D ms) (rsD U.D ms).length)) (upto U.F U.F.length)).M p k = some v → T.M p k = some v := fun p k v h => by
    rcases hgF_M _ _ h with h1 | ⟨y, h1, h3, h4, h5⟩
    · rcases hgD_M U _ h1 with h2 | ⟨y, h2, h3, h4, h5, h6⟩
      · rw [hM] at h2; cases h2
      · rw [← h4, ← h5, h6]; exact (cmD hv hD h2).2 h3
    · rw [← h3, ← h4, h5]; exact (cmF hv hF h1).2
  funext p k
  cases ht : T.M p k with
  | none =>
    cases hm : (hgF (hgD U (upto (rsD U.D ms) (rsD U.D ms).length)) (upto U.F U.F.length)).M p k with
    | none => rfl
    | some v => rw [fwd p k v hm] at ht; cases ht
  | some v =>
    have hs : ((hgF (hgD U (upto (rsD U.D ms) (rsD U.D ms).length)) (upto U.F U.F.length)).M p k).isSome = true := by
      rcases (hv.hM _ _ _).1 ht with ⟨a1, a2, n, a3, a4⟩ | ⟨a1, n, s, a3, a4⟩
      · rw [← a4]
        refine hgF_keeps _ _ (hgD_has (x := ⟨v.2, p, n, ms v.2⟩) _ U (mem_upto ?_ ?_) a2)
        · rw [rsD_len]; exact some_lt ((hD _ _).2 a3)
        · rw [rsD_get, (hD _ _).2 a3]; rfl
      · rw [← a4]
        exact hgF_has (x := ⟨v.2, p, n, s⟩) _ _ (mem_upto (some_lt ((hF _ _).2 a3)) ((hF _ _).2 a3))
    obtain ⟨u, hu⟩ := Option.isSome_iff_exists.1 hs
    rw [hu, ← ht, fwd p k u hu]
/-- a loaded tree is one -/
theorem load_inv {T U : Ts} {dp : Nat → Nat} (hv : Inv T dp) (hD : Sme U.D T.D) (hF : Sme U.F T.F) (hM : U.M = T.M) (hdl : U.D.length ≤ U.dr) (hfl : U.F.length ≤ U.fr) (hs : ∀ (x p : Nat) (n : ByteArray) (s : Nat), T.F[x]? = some (some (p, n, s)) → s ≤ U.most) : Inv U dp := by
  refine ⟨(hD _ _).2 hv.root, hdl, hfl, fun p k v => ?_, fun p k v h => ?_, fun p k v h => hv.hN p k v (hM ▸ h), fun x p n s h => hs x p n s ((hF _ _).1 h), hv.d0, fun p k v h => hv.d1 p k v (hM ▸ h)⟩
  · rw [hM, hv.hM]
    constructor
    · rintro (⟨h1, h2, n, h3, h4⟩ | ⟨h1, n, s, h3, h4⟩)
      · exact .inl ⟨h1, h2, n, (hD _ _).2 h3, h4⟩
      · exact .inr ⟨h1, n, s, (hF _ _).2 h3, h4⟩
    · rintro (⟨h1, h2, n, h3, h4⟩ | ⟨h1, n, s, h3, h4⟩)
      · exact .inl ⟨h1, h2, n, (hD _ _).1 h3, h4⟩
      · exact .inr ⟨h1, n, s, (hF _ _).1 h3, h4⟩
  · obtain ⟨d, hd⟩ := hv.hP p k v (hM ▸ h)
    exact ⟨d, (hD _ _).2 hd⟩

end Go.Proofs.YtnfddiabhpandaaGreatDoor.Tr
