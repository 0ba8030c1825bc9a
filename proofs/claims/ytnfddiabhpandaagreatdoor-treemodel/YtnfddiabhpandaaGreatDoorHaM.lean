import Derived.Test.YtnfddiabhpandaaGreatDoorTaM
namespace Go.Proofs.YtnfddiabhpandaaGreatDoor.Tr
open Go.RowKit Go.Lib

theorem fnd_app (T : Ts) : ∀ (A B : List ByteArray) (a : Sp), fnd T a (A ++ B) = if (fnd T a A).2 ≠ 0 then (Sp.zero, (fnd T a A).2) else fnd T (fnd T a A).1 B
  | [], B, a => by rw [if_neg (by simp [fnd])]; rfl
  | n :: A, B, a => by
    have e1 : fnd T a (n :: A ++ B) = if a.kd = 0 then (Sp.zero, 120) else if a.kd = 2 then (Sp.zero, 122) else fnd T (nxt T a n) (A ++ B) := rfl
    have e2 : fnd T a (n :: A) = if a.kd = 0 then (Sp.zero, 120) else if a.kd = 2 then (Sp.zero, 122) else fnd T (nxt T a n) A := rfl
    rw [e1, e2]
    by_cases h1 : a.kd = 0
    · rw [if_pos h1, if_pos h1, if_pos (by simp)]
    · rw [if_neg h1, if_neg h1]
      by_cases h2 : a.kd = 2
      · rw [if_pos h2, if_pos h2, if_pos (by simp)]
      · rw [if_neg h2, if_neg h2]
        exact fnd_app T A B _
theorem fnd_err (T : Ts) : ∀ (L : List ByteArray) (a : Sp), (fnd T a L).2 = 0 ∨ (fnd T a L) = (Sp.zero, 120) ∨ (fnd T a L) = (Sp.zero, 122)
  | [], a => .inl rfl
  | n :: L, a => by
    have e2 : fnd T a (n :: L) = if a.kd = 0 then (Sp.zero, 120) else if a.kd = 2 then (Sp.zero, 122) else fnd T (nxt T a n) L := rfl
    rw [e2]
    by_cases h1 : a.kd = 0
    · rw [if_pos h1]; exact .inr (.inl rfl)
    · rw [if_neg h1]
      by_cases h2 : a.kd = 2
      · rw [if_pos h2]; exact .inr (.inr rfl)
      · rw [if_neg h2]; exact fnd_err T L _
/-- a node lies at a path -/
def Is (T : Ts) (P : List ByteArray) (v : Nat × Nat) : Prop := ∃ L n x, P = L ++ [n] ∧ Lds T L x ∧ T.M x (ky n) = some v
theorem fndA_snoc (T : Ts) (L : List ByteArray) (n : ByteArray) : fndA T (L ++ [n]) = if (fndA T L).2 ≠ 0 then (Sp.zero, (fndA T L).2) else if (fndA T L).1.kd = 0 then (Sp.zero, 120) else if (fndA T L).1.kd = 2 then (Sp.zero, 122) else (nxt T (fndA T L).1 n, 0) := fnd_app T L [n] Sp.root
theorem lds_fnd {T : Ts} {L : List ByteArray} {x : Nat} (h : Lds T L x) : (fndA T L).2 = 0 ∧ (fndA T L).1.kd = 1 ∧ (fndA T L).1.no = x := by
  induction h with
  | nil => exact ⟨rfl, rfl, rfl⟩
  | snoc _ hm ih =>
    obtain ⟨h1, h2, h3⟩ := ih
    rw [fndA_snoc, if_neg (fun e => e h1), if_neg (by omega), if_neg (by omega)]
    unfold nxt
    rw [h3, hm]
    exact ⟨rfl, rfl, rfl⟩
theorem lds_one {T : Ts} {L : List ByteArray} {x y : Nat} (h : Lds T L x) (h' : Lds T L y) : x = y := (lds_fnd h).2.2.symm.trans (lds_fnd h').2.2
theorem is_fnd {T : Ts} {P : List ByteArray} {v : Nat × Nat} (h : Is T P v) : (fndA T P).2 = 0 ∧ (fndA T P).1.kd = v.1 ∧ (fndA T P).1.no = v.2 := by
  obtain ⟨L, n, x, rfl, hL, hm⟩ := h
  obtain ⟨h1, h2, h3⟩ := lds_fnd hL
  rw [fndA_snoc, if_neg (fun e => e h1), if_neg (by omega), if_neg (by omega)]
  unfold nxt
  rw [h3, hm]
  exact ⟨rfl, rfl, rfl⟩
theorem is_one {T : Ts} {P : List ByteArray} {v u : Nat × Nat} (h : Is T P v) (h' : Is T P u) : v = u := by
  obtain ⟨_, h2, h3⟩ := is_fnd h
  obtain ⟨_, h5, h6⟩ := is_fnd h'
  exact Prod.ext (h2.symm.trans h5) (h3.symm.trans h6)
theorem is_ne {T : Ts} {P : List ByteArray} {v : Nat × Nat} (h : Is T P v) : P ≠ [] := by
  obtain ⟨L, n, x, rfl, _⟩ := h
  simp
theorem is_of {T : Ts} {dp : Nat → Nat} (h : Inv T dp) {P : List ByteArray} (hP : P.all Pa.nm = true) (hne : P ≠ []) (he : (fndA T P).2 = 0) (hk : (fndA T P).1.kd ≠ 0) : Is T P ((fndA T P).1.kd, (fndA T P).1.no) := by
  have hg := got h hP he
  refine ⟨P.dropLast, (fndA T P).1.nm, (fndA T P).1.par, ?_, hg.up hne, ?_⟩
  · have h2 := hg.nm hne
    rw [List.getLast?_eq_some_getLast hne] at h2
    rw [← Option.some.inj h2]
    exact (List.dropLast_concat_getLast hne).symm
  · rcases (hg.sp hne).hv with h3 | h3
    · exact absurd h3.1 hk
    · exact h3
theorem lds_is {T : Ts} {P : List ByteArray} {x : Nat} (h : Lds T P x) (hne : P ≠ []) : Is T P (1, x) := by
  cases h with
  | nil => exact absurd rfl hne
  | snoc h1 h2 => exact ⟨_, _, _, rfl, h1, h2⟩
theorem is_lds {T : Ts} {P : List ByteArray} {x : Nat} (h : Is T P (1, x)) : Lds T P x := by
  obtain ⟨L, n, y, rfl, hL, hm⟩ := h
  exact .snoc hL hm
theorem lds_ok {T : Ts} {dp : Nat → Nat} (h : Inv T dp) {L : List ByteArray} {x : Nat} (hL : Lds T L x) : L.all Pa.nm = true ∧ dp x = L.length ∧ (L ≠ [] → L.length ≤ 16) := by
  induction hL with
  | nil => exact ⟨rfl, h.d0, fun e => absurd rfl e⟩
  | snoc _ hm ih =>
    obtain ⟨h1, h2, h3⟩ := ih
    obtain ⟨d1, d2⟩ := h.d1 _ _ _ hm
    have d2 := d2 rfl
    simp only at d2
    refine ⟨?_, by rw [d2, h2]; simp, fun _ => by simp; omega⟩
    rw [List.all_append, h1]
    simp only [List.all_cons, List.all_nil, Bool.and_true, Bool.true_and]
    exact h.hN _ _ _ hm
theorem is_ok {T : Ts} {dp : Nat → Nat} (h : Inv T dp) {P : List ByteArray} {v : Nat × Nat} (hP : Is T P v) : P.all Pa.nm = true ∧ P.length ≤ 16 ∧ (v.1 = 1 ∨ v.1 = 2) := by
  obtain ⟨L, n, x, rfl, hL, hm⟩ := hP
  obtain ⟨h1, h2, _⟩ := lds_ok h hL
  obtain ⟨d1, _⟩ := h.d1 _ _ _ hm
  refine ⟨?_, by simp; omega, h.kinds hm⟩
  rw [List.all_append, h1]
  simp only [List.all_cons, List.all_nil, Bool.and_true, Bool.true_and]
  exact h.hN _ _ _ hm
/-- under a file, and where nothing is, nothing lies -/
theorem is_under {T : Ts} {P R : List ByteArray} {v : Nat × Nat} (h : Is T (P ++ R) v) (hR : R ≠ []) (hP : P ≠ []) : ∃ x, Is T P (1, x) := by
  have key : ∀ (L : List ByteArray) x, Lds T L x → P <+: L → ∃ y, Is T P (1, y) := by
    intro L x hL
    induction hL with
    | nil => intro hp; exact absurd (List.prefix_nil.1 hp) hP
    | snoc h1 h2 ih =>
      rename_i L p n y
      intro hp
      rcases List.prefix_concat_iff.1 hp with e | e
      · exact ⟨y, e ▸ ⟨_, _, _, rfl, h1, h2⟩⟩
      · exact ih e
  obtain ⟨L, n, x, e, hL, _⟩ := h
  refine key L x hL ?_
  have hl : P.length ≤ L.length := by
    have := congrArg List.length e
    simp at this
    have : 0 < R.length := List.length_pos_iff.2 hR
    omega
  have : P <+: L ++ [n] := e ▸ List.prefix_append _ _
  exact List.prefix_of_prefix_length_le this (List.prefix_append _ _) hl
/-- a node is hung where nothing was -/
theorem lds_put {T U : Ts} {dp : Nat → Nat} (h : Inv T dp) {L0 : List ByteArray} {p0 : Nat} {n0 : ByteArray} {v0 : Nat × Nat} (hL0 : Lds T L0 p0) (hM : U.M = putM T.M p0 (ky n0) (some v0)) (hfr : T.M p0 (ky n0) = none) (hx : v0.1 = 1 → v0.2 ≠ p0 ∧ ∀ k, T.M v0.2 k = none) {L : List ByteArray} {x : Nat} :
    Lds U L x ↔ Lds T L x ∨ (v0.1 = 1 ∧ L = L0 ++ [n0] ∧ x = v0.2) := by
  have up : ∀ L x, Lds T L x → Lds U L x := fun L x hL => by
    induction hL with
    | nil => exact .nil
    | snoc _ hm ih =>
      refine .snoc ih ?_
      rw [hM, putM_other (fun e => by rw [e.1, e.2, hfr] at hm; cases hm)]
      exact hm
  constructor
  · intro hL
    induction hL with
    | nil => exact .inl .nil
    | snoc _h0 hm ih =>
      rename_i L p n y
      rw [hM] at hm
      rcases ih with h1 | ⟨h1, h2, h3⟩
      · by_cases hc : p = p0 ∧ ky n = ky n0
        · unfold putM at hm
          rw [if_pos hc] at hm
          injection hm with hm
          obtain ⟨e1, e2⟩ := hc
          subst e1
          rw [h1.eq h hL0, ky_inj e2]
          exact .inr ⟨by rw [hm], rfl, by rw [hm]⟩
        · rw [putM_other hc] at hm
          exact .inl (.snoc h1 hm)
      · obtain ⟨k1, k2⟩ := hx h1
        subst h3
        rw [putM_other (fun e => k1 e.1), k2] at hm
        cases hm
  · rintro (h1 | ⟨h1, rfl, rfl⟩)
    · exact up _ _ h1
    · refine .snoc (up _ _ hL0) ?_
      rw [hM, putM_same, ← h1]
theorem is_put {T U : Ts} {dp : Nat → Nat} (h : Inv T dp) {L0 : List ByteArray} {p0 : Nat} {n0 : ByteArray} {v0 : Nat × Nat} (hL0 : Lds T L0 p0) (hM : U.M = putM T.M p0 (ky n0) (some v0)) (hfr : T.M p0 (ky n0) = none) (hx : v0.1 = 1 → v0.2 ≠ p0 ∧ ∀ k, T.M v0.2 k = none) {P : List ByteArray} {v : Nat × Nat} :
    Is U P v ↔ Is T P v ∨ (P = L0 ++ [n0] ∧ v = v0) := by
  constructor
  · rintro ⟨L, n, x, rfl, hL, hm⟩
    rw [hM] at hm
    rcases (lds_put h hL0 hM hfr hx).1 hL with h1 | ⟨h1, h2, h3⟩
    · by_cases hc : x = p0 ∧ ky n = ky n0
      · unfold putM at hm
        rw [if_pos hc] at hm
        injection hm with hm
        obtain ⟨e1, e2⟩ := hc
        subst e1
        rw [h1.eq h hL0, ky_inj e2]
        exact .inr ⟨rfl, hm.symm⟩
      · rw [putM_other hc] at hm
        exact .inl ⟨L, n, x, rfl, h1, hm⟩
    · obtain ⟨k1, k2⟩ := hx h1
      subst h3
      rw [putM_other (fun e => k1 e.1), k2] at hm
      cases hm
  · rintro (⟨L, n, x, rfl, hL, hm⟩ | ⟨rfl, rfl⟩)
    · refine ⟨L, n, x, rfl, (lds_put h hL0 hM hfr hx).2 (.inl hL), ?_⟩
      rw [hM, putM_other (fun e => by rw [e.1, e.2, hfr] at hm; cases hm)]
      exact hm
    · exact ⟨L0, n0, p0, rfl, (lds_put h hL0 hM hfr hx).2 (.inl hL0), by rw [hM, putM_same]⟩
/-- a node under which nothing lies is taken away -/
theorem is_drop {T U : Ts} {dp : Nat → Nat} (h : Inv T dp) {L0 : List ByteArray} {p0 : Nat} {n0 : ByteArray} {v0 : Nat × Nat} (hL0 : Lds T L0 p0) (hv : T.M p0 (ky n0) = some v0) (hM : U.M = putM T.M p0 (ky n0) none) (hx : v0.1 = 1 → ∀ k, T.M v0.2 k = none) {P : List ByteArray} {v : Nat × Nat} :
    Is U P v ↔ Is T P v ∧ P ≠ L0 ++ [n0] := by
  have dn : ∀ L x, Lds U L x → Lds T L x := fun L x hL => by
    induction hL with
    | nil => exact .nil
    | snoc _h0 hm ih =>
      rename_i L p n y
      refine .snoc ih ?_
      rw [hM] at hm
      by_cases hc : p = p0 ∧ ky n = ky n0
      · unfold putM at hm; rw [if_pos hc] at hm; cases hm
      · rwa [putM_other hc] at hm
  have up : ∀ L x, Lds T L x → (∃ k v, T.M x k = some v) → Lds U L x := fun L x hL => by
    induction hL with
    | nil => intro _; exact .nil
    | snoc h1 hm ih =>
      rename_i L p n y
      intro hs
      refine .snoc (ih ⟨_, _, hm⟩) ?_
      rw [hM, putM_other (fun e => ?_)]
      · exact hm
      · rw [e.1, e.2, hv] at hm
        injection hm with hm
        obtain ⟨k, v, hk⟩ := hs
        have := hx (by rw [hm]) k
        rw [hm] at this
        rw [this] at hk
        cases hk
  constructor
  · rintro ⟨L, n, x, rfl, hL, hm⟩
    rw [hM] at hm
    have hc : ¬ (x = p0 ∧ ky n = ky n0) := fun hc => by unfold putM at hm; rw [if_pos hc] at hm; cases hm
    rw [putM_other hc] at hm
    refine ⟨⟨L, n, x, rfl, dn _ _ hL, hm⟩, fun e => hc ?_⟩
    obtain ⟨e1, e2⟩ := List.append_inj' e rfl
    injection e2 with e2
    subst e1 e2
    exact ⟨lds_one (dn _ _ hL) hL0, rfl⟩
  · rintro ⟨⟨L, n, x, rfl, hL, hm⟩, hne⟩
    refine ⟨L, n, x, rfl, up _ _ hL ⟨_, _, hm⟩, ?_⟩
    rw [hM, putM_other (fun e => hne ?_)]
    · exact hm
    · obtain ⟨e1, e2⟩ := e
      subst e1
      rw [hL.eq h hL0, ky_inj e2]
/-- a node goes somewhere else, and all that lies under it -/
theorem is_move {T U : Ts} {dp : Nat → Nat} (h : Inv T dp) {La Lb : List ByteArray} {pa pb : Nat} {na nb : ByteArray} {v0 : Nat × Nat} (hLa : Lds T La pa) (hLb : Lds T Lb pb) (hv : T.M pa (ky na) = some v0) (hM : U.M = putM (putM T.M pa (ky na) none) pb (ky nb) (some v0))
    (hfr : ∀ x, T.M pb (ky nb) ≠ some (1, x)) (hnp : v0.1 = 1 → ¬ (La ++ [na]) <+: (Lb ++ [nb])) (hne : La ++ [na] ≠ Lb ++ [nb]) {P : List ByteArray} {v : Nat × Nat} :
    Is U P v ↔ (Is T P v ∧ ¬ (La ++ [na]) <+: P ∧ P ≠ Lb ++ [nb]) ∨ (∃ R, P = Lb ++ [nb] ++ R ∧ Is T (La ++ [na] ++ R) v) := by
  have hab : ¬ (pb = pa ∧ ky nb = ky na) := fun ⟨e1, e2⟩ => hne (by subst e1; rw [hLb.eq h hLa, ky_inj e2])
  have hMb : U.M pb (ky nb) = some v0 := by rw [hM, putM_same]
  have hMa : U.M pa (ky na) = none := by rw [hM, putM_other (fun e => hab ⟨e.1.symm, e.2.symm⟩), putM_same]
  have hMo : ∀ p n, ¬ (p = pb ∧ ky n = ky nb) → ¬ (p = pa ∧ ky n = ky na) → U.M p (ky n) = T.M p (ky n) := fun p n h1 h2 => by rw [hM, putM_other h1, putM_other h2]
  -- the names of a directory
  have key : ∀ L x, Lds U L x ↔ (Lds T L x ∧ ¬ (La ++ [na]) <+: L) ∨ (v0.1 = 1 ∧ ∃ R, L = Lb ++ [nb] ++ R ∧ Lds T (La ++ [na] ++ R) x) := by
    intro L x
    constructor
    · intro hL
      induction hL with
      | nil => exact .inl ⟨.nil, fun e => by simp at e⟩
      | snoc _h0 hm ih =>
        rename_i L p n y
        rcases ih with ⟨h1, h2⟩ | ⟨hk, R, rfl, h2⟩
        · by_cases hc : p = pb ∧ ky n = ky nb
          · obtain ⟨e1, e2⟩ := hc
            subst e1
            rw [e2, hMb] at hm
            injection hm with hm
            rw [h1.eq h hLb, ky_inj e2]
            refine .inr ⟨by rw [hm], [], by simp, ?_⟩
            rw [List.append_nil]
            exact .snoc hLa (by rw [hv, hm])
          · by_cases hd : p = pa ∧ ky n = ky na
            · rw [hd.1, hd.2, hMa] at hm; cases hm
            · rw [hMo p n hc hd] at hm
              refine .inl ⟨.snoc h1 hm, fun hp => ?_⟩
              rcases List.prefix_concat_iff.1 hp with e | e
              · obtain ⟨e1, e2⟩ := List.append_inj' e rfl
                injection e2 with e2
                subst e1 e2
                exact hd ⟨lds_one h1 hLa, rfl⟩
              · exact h2 e
        · have hc : ¬ (p = pb ∧ ky n = ky nb) := fun ⟨e1, e2⟩ => by
            subst e1
            refine hnp hk ?_
            rw [← h2.eq h hLb]
            exact ((List.prefix_append _ _).trans (List.prefix_append _ _))
          have hd : ¬ (p = pa ∧ ky n = ky na) := fun ⟨e1, e2⟩ => by
            subst e1
            have := congrArg List.length (h2.eq h hLa)
            simp at this
          rw [hMo p n hc hd] at hm
          refine .inr ⟨hk, R ++ [n], by simp, ?_⟩
          rw [← List.append_assoc]
          exact .snoc h2 hm
    · have s1 : ∀ L x, Lds T L x → ¬ (La ++ [na]) <+: L → Lds U L x := fun L x hL => by
        induction hL with
        | nil => intro _; exact .nil
        | snoc h1 hm ih =>
          rename_i L p n y
          intro hp
          have hq : ¬ (La ++ [na]) <+: L := fun e => hp (e.trans (List.prefix_append _ _))
          refine .snoc (ih hq) ?_
          rw [hMo p n (fun ⟨e1, e2⟩ => by subst e1; rw [e2] at hm; exact hfr _ hm) (fun ⟨e1, e2⟩ => by subst e1; exact hp (by rw [h1.eq h hLa, ky_inj e2]; exact List.prefix_rfl))]
          exact hm
      have s2 : v0.1 = 1 → ∀ L x, Lds T L x → ∀ R, L = La ++ [na] ++ R → Lds U (Lb ++ [nb] ++ R) x := fun hk L x hL => by
        induction hL with
        | nil => intro R e; simp at e
        | snoc h1 hm ih =>
          rename_i L p n y
          intro R e
          by_cases hR : R = []
          · subst hR
            rw [List.append_nil] at e ⊢
            obtain ⟨e1, e2⟩ := List.append_inj' e rfl
            injection e2 with e2
            subst e1 e2
            obtain rfl := lds_one h1 hLa
            rw [hv] at hm
            injection hm with hm
            refine .snoc (s1 _ _ hLb (fun e => hnp hk (e.trans (List.prefix_append _ _)))) ?_
            rw [hMb, hm]
          · obtain ⟨R', r, rfl⟩ : ∃ R' r, R = R' ++ [r] := ⟨_, _, (List.dropLast_concat_getLast hR).symm⟩
            rw [← List.append_assoc] at e
            obtain ⟨e1, e2⟩ := List.append_inj' e rfl
            injection e2 with e2
            subst e2
            rw [← List.append_assoc]
            refine .snoc (ih R' e1) ?_
            rw [hMo p n (fun ⟨e3, e4⟩ => ?_) (fun ⟨e3, e4⟩ => ?_)]
            · exact hm
            · subst e3
              refine hnp hk ?_
              rw [← h1.eq h hLb, e1]
              exact ((List.prefix_append _ _).trans (List.prefix_append _ _))
            · subst e3
              have := congrArg List.length (e1.symm.trans (h1.eq h hLa))
              simp at this
      rintro (⟨h1, h2⟩ | ⟨hk, R, rfl, h2⟩)
      · exact s1 _ _ h1 h2
      · exact s2 hk _ _ h2 R rfl
  constructor
  · rintro ⟨L, n, x, rfl, hL, hm⟩
    rcases (key L x).1 hL with ⟨h1, h2⟩ | ⟨hk, R, rfl, h2⟩
    · by_cases hc : x = pb ∧ ky n = ky nb
      · obtain ⟨e1, e2⟩ := hc
        subst e1
        rw [e2, hMb] at hm
        injection hm with hm
        subst hm
        rw [h1.eq h hLb, ky_inj e2]
        refine .inr ⟨[], by simp, ?_⟩
        rw [List.append_nil]
        exact ⟨La, na, pa, rfl, hLa, hv⟩
      · by_cases hd : x = pa ∧ ky n = ky na
        · rw [hd.1, hd.2, hMa] at hm; cases hm
        · rw [hMo x n hc hd] at hm
          refine .inl ⟨⟨L, n, x, rfl, h1, hm⟩, fun hp => ?_, fun e => ?_⟩
          · rcases List.prefix_concat_iff.1 hp with e | e
            · obtain ⟨e1, e2⟩ := List.append_inj' e rfl
              injection e2 with e2
              subst e1 e2
              exact hd ⟨lds_one h1 hLa, rfl⟩
            · exact h2 e
          · obtain ⟨e1, e2⟩ := List.append_inj' e rfl
            injection e2 with e2
            subst e1 e2
            exact hc ⟨lds_one h1 hLb, rfl⟩
    · have hc : ¬ (x = pb ∧ ky n = ky nb) := fun ⟨e1, e2⟩ => by
        subst e1
        refine hnp hk ?_
        rw [← h2.eq h hLb]
        exact ((List.prefix_append _ _).trans (List.prefix_append _ _))
      have hd : ¬ (x = pa ∧ ky n = ky na) := fun ⟨e1, e2⟩ => by
        subst e1
        have := congrArg List.length (h2.eq h hLa)
        simp at this
      rw [hMo x n hc hd] at hm
      refine .inr ⟨R ++ [n], by simp, ?_⟩
      rw [← List.append_assoc]
      exact ⟨_, n, x, rfl, h2, hm⟩
  · rintro (⟨⟨L, n, x, rfl, hL, hm⟩, h1, h2⟩ | ⟨R, rfl, hR⟩)
    · refine ⟨L, n, x, rfl, (key L x).2 (.inl ⟨hL, fun e => h1 (e.trans (List.prefix_append _ _))⟩), ?_⟩
      rw [hMo x n (fun ⟨e1, e2⟩ => h2 (by subst e1; rw [hL.eq h hLb, ky_inj e2])) (fun ⟨e1, e2⟩ => h1 (by subst e1; rw [hL.eq h hLa, ky_inj e2]; exact List.prefix_rfl))]
      exact hm
    · by_cases hR0 : R = []
      · subst hR0
        rw [List.append_nil] at hR ⊢
        have : v = v0 := is_one hR ⟨La, na, pa, rfl, hLa, hv⟩
        subst this
        have hq : ¬ (La ++ [na]) <+: Lb := fun e => by
          by_cases hk : v.1 = 1
          · exact hnp hk (e.trans (List.prefix_append _ _))
          · obtain ⟨S, rfl⟩ := e
            by_cases hS : S = []
            · subst hS
              rw [List.append_nil] at hLb
              have := is_one hR (lds_is hLb (by simp))
              rw [this] at hk
              exact hk rfl
            · obtain ⟨y, hy⟩ := is_under (lds_is hLb (by simp)) hS (by simp)
              have := is_one hR hy
              rw [this] at hk
              exact hk rfl
        exact ⟨Lb, nb, pb, rfl, (key Lb pb).2 (.inl ⟨hLb, hq⟩), hMb⟩
      · obtain ⟨y, hy⟩ := is_under hR hR0 (by simp)
        have hk : v0.1 = 1 := by rw [is_one ⟨La, na, pa, rfl, hLa, hv⟩ hy]
        obtain ⟨R', r, rfl⟩ : ∃ R' r, R = R' ++ [r] := ⟨_, _, (List.dropLast_concat_getLast hR0).symm⟩
        obtain ⟨L, n, x, e, hL, hm⟩ := hR
        rw [← List.append_assoc] at e
        obtain ⟨e1, e2⟩ := List.append_inj' e rfl
        injection e2 with e2
        subst e1 e2
        refine ⟨Lb ++ [nb] ++ R', r, x, by simp, (key _ x).2 (.inr ⟨hk, R', rfl, hL⟩), ?_⟩
        rw [hMo x r (fun ⟨e1, e2⟩ => ?_) (fun ⟨e1, e2⟩ => ?_)]
        · exact hm
        · subst e1
          refine hnp hk ?_
          rw [← hL.eq h hLb]
          exact ((List.prefix_append _ _).trans (List.prefix_append _ _))
        · subst e1
          have := congrArg List.length (hL.eq h hLa)
          simp at this

end Go.Proofs.YtnfddiabhpandaaGreatDoor.Tr

namespace Go.Proofs.YtnfddiabhpandaaGreatDoor.Tr
open Go.RowKit Go.Lib

/-- what is at a path -/
structure En where
  p : List ByteArray
  kd : Nat
  sz : Nat
def szE (T : Ts) (v : Nat × Nat) : Nat := if v.1 = 2 then szF T v.2 else 0
def cntL {α : Type} (l : List (Option α)) : Nat := l.countP fun o => o.isSome
def isK (k : Nat) (e : En) : Bool := decide (e.kd = k)
/-- a list of paths that says a tree -/
structure Mo (T : Ts) (L : List En) : Prop where
  nd : (L.map (·.p)).Nodup
  mem : ∀ e, e ∈ L ↔ ∃ no, Is T e.p (e.kd, no) ∧ e.sz = szE T (e.kd, no)
  cD : L.countP (isK 1) + 1 = cntL T.D
  cF : L.countP (isK 2) = cntL T.F
theorem is_inj {T : Ts} {dp : Nat → Nat} (h : Inv T dp) {P P' : List ByteArray} {v : Nat × Nat} (h1 : Is T P v) (h2 : Is T P' v) : P = P' := by
  obtain ⟨L, n, x, rfl, hL, hm⟩ := h1
  obtain ⟨L', n', x', rfl, hL', hm'⟩ := h2
  obtain ⟨e1, e2⟩ := lies_eq ((h.hM _ _ _).1 hm) ((h.hM _ _ _).1 hm')
  subst e1
  rw [hL.eq h hL', ky_inj e2]
theorem Mo.one {T : Ts} {L : List En} (h : Mo T L) {e e' : En} (he : e ∈ L) (he' : e' ∈ L) (hp : e.p = e'.p) : e = e' := by
  obtain ⟨no, h1, h2⟩ := (h.mem e).1 he
  obtain ⟨no', h3, h4⟩ := (h.mem e').1 he'
  rw [← hp] at h3
  have := is_one h1 h3
  injection this with e1 e2
  obtain ⟨p, k, s⟩ := e
  obtain ⟨p', k', s'⟩ := e'
  simp only at hp e1 h2 h4
  subst hp e1 e2
  rw [h2, h4]
theorem layL_cnt {α : Type} (l : List (Option α)) (x : Nat) (a : α) (hf : ∀ b, l[x]? ≠ some (some b)) : cntL (layL l x (some a)) = cntL l + 1 := by
  unfold layL cntL
  by_cases h : x < l.length
  · rw [if_pos h, List.countP_set h]
    have : l[x].isSome = false := by
      cases hq : l[x] with
      | none => rfl
      | some b => exact absurd (by rw [List.getElem?_eq_getElem h, hq]) (hf b)
    simp [this]
  · rw [if_neg h, List.countP_append]
    rfl
theorem layL_drop {α : Type} (l : List (Option α)) (x : Nat) (a : α) (ha : l[x]? = some (some a)) : cntL (layL l x none) + 1 = cntL l := by
  obtain ⟨h, e⟩ := List.getElem?_eq_some_iff.1 ha
  unfold layL cntL
  rw [if_pos h, List.countP_set h, e]
  have : 0 < l.countP fun o => o.isSome := List.countP_pos_iff.2 ⟨some a, e ▸ List.getElem_mem h, rfl⟩
  simp
  omega
theorem layL_same {α : Type} (l : List (Option α)) (x : Nat) (a b : α) (ha : l[x]? = some (some a)) : cntL (layL l x (some b)) = cntL l := by
  obtain ⟨h, e⟩ := List.getElem?_eq_some_iff.1 ha
  unfold layL cntL
  rw [if_pos h, List.countP_set h, e]
  have : 0 < l.countP fun o => o.isSome := List.countP_pos_iff.2 ⟨some a, e ▸ List.getElem_mem h, rfl⟩
  simp
  omega
theorem cnt_le {α : Type} (l : List (Option α)) : cntL l ≤ l.length := List.countP_le_length
theorem low_cnt {α : Type} (l : List (Option α)) (N : Nat) (h : l.length ≤ N) : lowL l < N ↔ cntL l < N := by
  by_cases hl : lowL l < l.length
  · have h1 : ∃ o ∈ l, ¬ o.isSome = true := by
      refine ⟨l[lowL l], List.getElem_mem hl, ?_⟩
      intro e
      cases hq : l[lowL l] with
      | none => rw [hq] at e; cases e
      | some a => exact lowL_free l a (by rw [List.getElem?_eq_getElem hl, hq])
    have h2 : cntL l < l.length := by
      obtain ⟨o, ho, hn⟩ := h1
      refine Nat.lt_of_le_of_ne List.countP_le_length fun e => hn (List.countP_eq_length.1 e o ho)
    constructor
    · intro _; omega
    · intro _; omega
  · have h0 : lowL l = l.length := Nat.le_antisymm (lowL_le l) (by omega)
    have h2 : cntL l = l.length := List.countP_eq_length.2 fun o ho => by
      obtain ⟨i, hi⟩ := List.mem_iff_getElem?.1 ho
      obtain ⟨a, ha⟩ := lowL_below l (i := i) (by rw [h0]; exact (List.getElem?_eq_some_iff.1 hi).1)
      rw [hi] at ha
      injection ha with ha
      rw [ha]
      rfl
    rw [h0, h2]
theorem mo_put {T U : Ts} {L : List En} (hm : Mo T L) (P0 : List ByteArray) (v0 : Nat × Nat) (hk : v0.1 = 1 ∨ v0.1 = 2) (hIs : ∀ P v, Is U P v ↔ Is T P v ∨ (P = P0 ∧ v = v0)) (hsz : ∀ P v, Is T P v → szE U v = szE T v) (hfr : ∀ v, ¬ Is T P0 v)
    (hD : cntL U.D = cntL T.D + (if v0.1 = 1 then 1 else 0)) (hF : cntL U.F = cntL T.F + (if v0.1 = 2 then 1 else 0)) : Mo U (L ++ [⟨P0, v0.1, szE U v0⟩]) := by
  refine ⟨?_, fun e => ?_, ?_, ?_⟩
  · rw [List.map_append]
    refine List.nodup_append.2 ⟨hm.nd, by simp, fun a ha b hb e => ?_⟩
    simp only [List.map_cons, List.map_nil, List.mem_singleton] at hb
    obtain ⟨x, hx, rfl⟩ := List.mem_map.1 ha
    obtain ⟨no, h1, _⟩ := (hm.mem x).1 hx
    rw [e, hb] at h1
    exact hfr _ h1
  · rw [List.mem_append, hm.mem, List.mem_singleton]
    constructor
    · rintro (⟨no, h1, h2⟩ | rfl)
      · exact ⟨no, (hIs _ _).2 (.inl h1), by rw [h2, hsz _ _ h1]⟩
      · exact ⟨v0.2, (hIs _ _).2 (.inr ⟨rfl, rfl⟩), rfl⟩
    · rintro ⟨no, h1, h2⟩
      rcases (hIs _ _).1 h1 with h3 | ⟨h3, h4⟩
      · exact .inl ⟨no, h3, by rw [h2, hsz _ _ h3]⟩
      · refine .inr ?_
        obtain ⟨p, k, s⟩ := e
        simp only at h2 h3 h4
        subst h3
        rw [← h4]
        simp only
        rw [h2]
  · rw [List.countP_append, hD, ← hm.cD]
    rcases hk with h | h <;> simp [isK, h] <;> omega
  · rw [List.countP_append, hF, ← hm.cF]
    rcases hk with h | h <;> simp [isK, h]
open Classical in
theorem filter_one {L : List En} (hnd : (L.map (·.p)).Nodup) {e : En} (he : e ∈ L) (f : En → Bool) : L.countP f = (L.filter fun x => decide (x.p ≠ e.p)).countP f + (if f e = true then 1 else 0) := by
  induction L with
  | nil => cases he
  | cons a L ih =>
    rw [List.map_cons, List.nodup_cons] at hnd
    rcases List.mem_cons.1 he with rfl | he
    · have hall : L.filter (fun x => decide (x.p ≠ e.p)) = L := List.filter_eq_self.2 fun x hx => decide_eq_true fun h => hnd.1 (h ▸ List.mem_map_of_mem hx)
      rw [List.filter_cons, if_neg (by simp), hall, List.countP_cons]
    · have hne : a.p ≠ e.p := fun h => hnd.1 (h ▸ List.mem_map_of_mem he)
      rw [List.filter_cons, if_pos (decide_eq_true hne), List.countP_cons, List.countP_cons, ih hnd.2 he]
      omega
open Classical in
theorem mo_drop {T U : Ts} {L : List En} (hm : Mo T L) (P0 : List ByteArray) (v0 : Nat × Nat) (h0 : Is T P0 v0) (hIs : ∀ P v, Is U P v ↔ Is T P v ∧ P ≠ P0) (hsz : ∀ P v, Is T P v → P ≠ P0 → szE U v = szE T v)
    (hD : cntL U.D + (if v0.1 = 1 then 1 else 0) = cntL T.D) (hF : cntL U.F + (if v0.1 = 2 then 1 else 0) = cntL T.F) : Mo U (L.filter fun e => decide (e.p ≠ P0)) := by
  have he : (⟨P0, v0.1, szE T v0⟩ : En) ∈ L := (hm.mem _).2 ⟨v0.2, h0, rfl⟩
  have c1 := filter_one hm.nd he (isK 1)
  have c2 := filter_one hm.nd he (isK 2)
  refine ⟨?_, fun e => ?_, ?_, ?_⟩
  · exact List.Nodup.sublist (List.filter_sublist.map _) hm.nd
  · rw [List.mem_filter, hm.mem, decide_eq_true_eq]
    constructor
    · rintro ⟨⟨no, h1, h2⟩, h3⟩
      exact ⟨no, (hIs _ _).2 ⟨h1, h3⟩, by rw [h2, hsz _ _ h1 h3]⟩
    · rintro ⟨no, h1, h2⟩
      obtain ⟨h3, h4⟩ := (hIs _ _).1 h1
      exact ⟨⟨no, h3, by rw [h2, hsz _ _ h3 h4]⟩, h4⟩
  · have := hm.cD
    simp only [isK, decide_eq_true_eq] at c1
    omega
  · have := hm.cF
    simp only [isK, decide_eq_true_eq] at c2
    omega
open Classical in
theorem mo_size {T U : Ts} {dp : Nat → Nat} (h : Inv T dp) {L : List En} (hm : Mo T L) (P0 : List ByteArray) (x s : Nat) (h0 : Is T P0 (2, x)) (hM : U.M = T.M) (hD : U.D = T.D) (hF : cntL U.F = cntL T.F) (hs : ∀ y, szF U y = if y = x then s else szF T y) : Mo U (L.map fun e => if e.p = P0 then { e with sz := s } else e) := by
  have hIs : ∀ P v, Is U P v ↔ Is T P v := fun P v => by
    have k : ∀ L y, Lds U L y ↔ Lds T L y := fun L y => ⟨fun hL => by
      induction hL with
      | nil => exact .nil
      | snoc _ hm ih => exact .snoc ih (hM ▸ hm), fun hL => by
      induction hL with
      | nil => exact .nil
      | snoc _ hm ih => exact .snoc ih (by rw [hM]; exact hm)⟩
    unfold Is
    simp only [k, hM]
  have hp : (L.map fun e => if e.p = P0 then { e with sz := s } else e).map (·.p) = L.map (·.p) := by
    rw [List.map_map]
    refine List.map_congr_left fun e _ => ?_
    simp only [Function.comp]
    split <;> rfl
  have hk : ∀ k, (L.map fun e => if e.p = P0 then { e with sz := s } else e).countP (isK k) = L.countP (isK k) := fun k => by
    rw [List.countP_map]
    refine List.countP_congr fun e _ => ?_
    simp only [Function.comp, isK]
    split <;> rfl
  refine ⟨by rw [hp]; exact hm.nd, fun e => ?_, by rw [hk, hD]; exact hm.cD, by rw [hk, hF]; exact hm.cF⟩
  rw [List.mem_map]
  constructor
  · rintro ⟨a, ha, rfl⟩
    obtain ⟨no, h1, h2⟩ := (hm.mem a).1 ha
    by_cases hq : a.p = P0
    · rw [if_pos hq]
      simp only
      rw [hq] at h1
      have e1 := is_one h1 h0
      injection e1 with e1 e2
      refine ⟨no, (hIs _ _).2 (by rw [hq]; exact h1), ?_⟩
      unfold szE
      rw [e1, e2, if_pos rfl, hs, if_pos rfl]
    · rw [if_neg hq]
      refine ⟨no, (hIs _ _).2 h1, ?_⟩
      rw [h2]
      unfold szE
      by_cases hk2 : a.kd = 2
      · rw [if_pos hk2, if_pos hk2, hs, if_neg fun e => hq ?_]
        subst e
        rw [hk2] at h1
        exact is_inj h h1 h0
      · rw [if_neg hk2, if_neg hk2]
  · rintro ⟨no, h1, h2⟩
    have h1 := (hIs _ _).1 h1
    by_cases hq : e.p = P0
    · have e1 := is_one (hq ▸ h1) h0
      injection e1 with e1 e2
      refine ⟨⟨P0, 2, szE T (2, x)⟩, (hm.mem _).2 ⟨x, h0, rfl⟩, ?_⟩
      rw [if_pos rfl]
      obtain ⟨p, k, z⟩ := e
      simp only at hq e1 h2
      subst hq e1 e2
      simp only
      rw [h2]
      unfold szE
      rw [if_pos rfl, hs, if_pos rfl]
    · refine ⟨e, (hm.mem e).2 ⟨no, h1, ?_⟩, by rw [if_neg hq]⟩
      rw [h2]
      unfold szE
      by_cases hk2 : e.kd = 2
      · rw [if_pos hk2, if_pos hk2, hs, if_neg fun e' => hq ?_]
        subst e'
        rw [hk2] at h1
        exact is_inj h h1 h0
      · rw [if_neg hk2, if_neg hk2]
/-- a path that goes from under P0 to under Q0 -/
def mvP (P0 Q0 P : List ByteArray) : List ByteArray := Q0 ++ P.drop P0.length
open Classical in
noncomputable def mvE (P0 Q0 : List ByteArray) (e : En) : En := if P0 <+: e.p then { e with p := mvP P0 Q0 e.p } else e
theorem mvP_app (P0 Q0 R : List ByteArray) : mvP P0 Q0 (P0 ++ R) = Q0 ++ R := by unfold mvP; rw [List.drop_left]
open Classical in
theorem mo_move {T U : Ts} {L : List En} (hm : Mo T L) (P0 Q0 : List ByteArray) (hnp : ∀ R v, Is T (P0 ++ R) v → P0 ++ R ≠ Q0) (hQu : ∀ R v, R ≠ [] → ¬ Is T (Q0 ++ R) v)
    (hIs : ∀ P v, Is U P v ↔ (Is T P v ∧ ¬ P0 <+: P ∧ P ≠ Q0) ∨ (∃ R, P = Q0 ++ R ∧ Is T (P0 ++ R) v)) (hsz : ∀ P v, Is T P v → P ≠ Q0 → szE U v = szE T v)
    (hc : (¬ (∃ v, Is T Q0 v) ∧ cntL U.D = cntL T.D ∧ cntL U.F = cntL T.F) ∨ (∃ v, Is T Q0 v ∧ cntL U.D + (if v.1 = 1 then 1 else 0) = cntL T.D ∧ cntL U.F + (if v.1 = 2 then 1 else 0) = cntL T.F)) : Mo U ((L.filter fun e => decide (e.p ≠ Q0)).map (mvE P0 Q0)) := by
  have hk : ∀ e, (mvE P0 Q0 e).kd = e.kd := fun e => by unfold mvE; split <;> rfl
  have hz : ∀ e, (mvE P0 Q0 e).sz = e.sz := fun e => by unfold mvE; split <;> rfl
  have hcn : ∀ k, ((L.filter fun e => decide (e.p ≠ Q0)).map (mvE P0 Q0)).countP (isK k) = (L.filter fun e => decide (e.p ≠ Q0)).countP (isK k) := fun k => by
    rw [List.countP_map]
    refine List.countP_congr fun e _ => ?_
    simp only [Function.comp, isK, hk]
  have hcnt : ∀ k, (L.filter fun e => decide (e.p ≠ Q0)).countP (isK k) + (if ∃ v, Is T Q0 v ∧ v.1 = k then 1 else 0) = L.countP (isK k) := fun k => by
    by_cases hq : ∃ v, Is T Q0 v
    · obtain ⟨v, hv⟩ := hq
      have he : (⟨Q0, v.1, szE T v⟩ : En) ∈ L := (hm.mem _).2 ⟨v.2, hv, rfl⟩
      have := filter_one hm.nd he (isK k)
      rw [this]
      congr 1
      by_cases hvk : v.1 = k
      · rw [if_pos ⟨v, hv, hvk⟩, if_pos (by simp [isK, hvk])]
      · rw [if_neg (fun ⟨u, hu, huk⟩ => hvk (by rw [is_one hv hu]; exact huk)), if_neg (by simp [isK, hvk])]
    · have hs : (L.filter fun e => decide (e.p ≠ Q0)) = L := List.filter_eq_self.2 fun e he => decide_eq_true fun e' => by
        obtain ⟨no, h1, _⟩ := (hm.mem e).1 he
        exact hq ⟨_, e' ▸ h1⟩
      rw [if_neg (fun ⟨u, hu, _⟩ => hq ⟨u, hu⟩), hs, Nat.add_zero]
  refine ⟨?_, fun e => ?_, ?_, ?_⟩
  · rw [List.map_map]
    have hs : (L.filter fun e => decide (e.p ≠ Q0)).Pairwise fun a b => a.p ≠ b.p := by
      have := List.Nodup.sublist (l₁ := (L.filter fun e => decide (e.p ≠ Q0)).map (·.p)) (List.Sublist.map (fun e : En => e.p) List.filter_sublist) hm.nd
      exact List.pairwise_map.1 this
    refine List.pairwise_map.2 (List.Pairwise.imp_of_mem (fun {a b} ha hb hab e => hab ?_) hs)
    obtain ⟨ha1, ha2⟩ := List.mem_filter.1 ha
    obtain ⟨hb1, hb2⟩ := List.mem_filter.1 hb
    obtain ⟨na, ia, _⟩ := (hm.mem a).1 ha1
    obtain ⟨nb, ib, _⟩ := (hm.mem b).1 hb1
    simp only [Function.comp] at e
    unfold mvE at e
    by_cases p1 : P0 <+: a.p
    · obtain ⟨R, hR⟩ := p1
      by_cases p2 : P0 <+: b.p
      · obtain ⟨R', hR'⟩ := p2
        rw [if_pos ⟨R, hR⟩, if_pos ⟨R', hR'⟩] at e
        simp only [← hR, ← hR', mvP_app] at e
        rw [← hR, ← hR', List.append_cancel_left e]
      · rw [if_pos ⟨R, hR⟩, if_neg p2] at e
        simp only [← hR, mvP_app] at e
        rw [← e] at ib hb2
        by_cases hR0 : R = []
        · subst hR0; simp at hb2
        · exact absurd ib (hQu R _ hR0)
    · by_cases p2 : P0 <+: b.p
      · obtain ⟨R', hR'⟩ := p2
        rw [if_neg p1, if_pos ⟨R', hR'⟩] at e
        simp only [← hR', mvP_app] at e
        rw [e] at ia ha2
        by_cases hR0 : R' = []
        · subst hR0; simp at ha2
        · exact absurd ia (hQu R' _ hR0)
      · rw [if_neg p1, if_neg p2] at e
        exact e
  · rw [List.mem_map]
    constructor
    · rintro ⟨a, ha, rfl⟩
      obtain ⟨ha1, ha2⟩ := List.mem_filter.1 ha
      obtain ⟨no, h1, h2⟩ := (hm.mem a).1 ha1
      have ha3 : a.p ≠ Q0 := of_decide_eq_true ha2
      refine ⟨no, (hIs _ _).2 ?_, by rw [hz, hk, h2, hsz _ _ h1 ha3]⟩
      rw [hk]
      by_cases p1 : P0 <+: a.p
      · obtain ⟨R, hR⟩ := p1
        refine .inr ⟨R, ?_, by rw [hR]; exact h1⟩
        unfold mvE
        rw [if_pos ⟨R, hR⟩]
        simp only [← hR, mvP_app]
      · refine .inl ?_
        have : mvE P0 Q0 a = a := by unfold mvE; rw [if_neg p1]
        rw [this]
        exact ⟨h1, p1, ha3⟩
    · rintro ⟨no, h1, h2⟩
      rcases (hIs _ _).1 h1 with ⟨h3, h4, h5⟩ | ⟨R, h3, h4⟩
      · refine ⟨e, List.mem_filter.2 ⟨(hm.mem e).2 ⟨no, h3, by rw [h2, hsz _ _ h3 h5]⟩, decide_eq_true h5⟩, ?_⟩
        unfold mvE
        rw [if_neg h4]
      · have h5 := hnp R _ h4
        refine ⟨⟨P0 ++ R, e.kd, e.sz⟩, List.mem_filter.2 ⟨(hm.mem _).2 ⟨no, h4, by rw [h2]; exact hsz _ _ h4 h5⟩, decide_eq_true h5⟩, ?_⟩
        unfold mvE
        rw [if_pos (List.prefix_append _ _)]
        obtain ⟨p, k, z⟩ := e
        simp only at h3 ⊢
        rw [mvP_app, h3]
  · have h1 := hcnt 1
    have h2 := hm.cD
    rw [hcn]
    rcases hc with ⟨c1, c2, c3⟩ | ⟨v, c1, c2, c3⟩
    · rw [if_neg (fun ⟨u, hu, _⟩ => c1 ⟨u, hu⟩)] at h1
      omega
    · by_cases hv : v.1 = 1
      · rw [if_pos ⟨v, c1, hv⟩] at h1
        rw [if_pos hv] at c2
        omega
      · rw [if_neg (fun ⟨u, hu, huk⟩ => hv (by rw [is_one c1 hu]; exact huk))] at h1
        rw [if_neg hv] at c2
        omega
  · have h1 := hcnt 2
    have h2 := hm.cF
    rw [hcn]
    rcases hc with ⟨c1, c2, c3⟩ | ⟨v, c1, c2, c3⟩
    · rw [if_neg (fun ⟨u, hu, _⟩ => c1 ⟨u, hu⟩)] at h1
      omega
    · by_cases hv : v.1 = 2
      · rw [if_pos ⟨v, c1, hv⟩] at h1
        rw [if_pos hv] at c3
        omega
      · rw [if_neg (fun ⟨u, hu, huk⟩ => hv (by rw [is_one c1 hu]; exact huk))] at h1
        rw [if_neg hv] at c3
        omega

end Go.Proofs.YtnfddiabhpandaaGreatDoor.Tr

namespace Go.Proofs.YtnfddiabhpandaaGreatDoor.Tr
open Go.RowKit Go.Lib

/-- the kind of what is at a path -/
def kdT (T : Ts) (P : List ByteArray) : Nat := if (fndA T P).2 = 0 then (fndA T P).1.kd else 0
theorem kd_mem {T : Ts} {dp : Nat → Nat} (h : Inv T dp) {L : List En} (hm : Mo T L) {P : List ByteArray} (hP : P.all Pa.nm = true) (hne : P ≠ []) (hk : kdT T P ≠ 0) : (⟨P, kdT T P, szE T (kdT T P, (fndA T P).1.no)⟩ : En) ∈ L ∧ (fndA T P).2 = 0 := by
  unfold kdT at hk ⊢
  by_cases he : (fndA T P).2 = 0
  · rw [if_pos he] at hk ⊢
    exact ⟨(hm.mem _).2 ⟨_, is_of h hP hne he hk, rfl⟩, he⟩
  · rw [if_neg he] at hk
    exact absurd rfl hk
theorem mem_kd {T : Ts} {L : List En} (hm : Mo T L) {e : En} (he : e ∈ L) : kdT T e.p = e.kd ∧ (fndA T e.p).2 = 0 ∧ e.sz = szE T (e.kd, (fndA T e.p).1.no) := by
  obtain ⟨no, h1, h2⟩ := (hm.mem e).1 he
  obtain ⟨h3, h4, h5⟩ := is_fnd h1
  unfold kdT
  rw [if_pos h3, h4, h5]
  exact ⟨rfl, h3, h2⟩
/-- where nothing is yet -/
theorem free_is {T : Ts} {dp : Nat → Nat} (h : Inv T dp) {P : List ByteArray} (hP : P.all Pa.nm = true) (h0 : (fndN T P).2 = 0) : P ≠ [] ∧ P = P.dropLast ++ [(fndN T P).1.nm] ∧ Lds T P.dropLast (fndN T P).1.par ∧ T.M (fndN T P).1.par (ky (fndN T P).1.nm) = none ∧ tk T (fndN T P).1.par ∧ ∀ v, ¬ Is T P v := by
  obtain ⟨e1, e2, e3⟩ := fndN_ok h0
  rw [e1]
  have hne : P ≠ [] := ne_of_kd (T := T) (by omega)
  have hg := got h hP e2
  have hs := hg.sp hne
  refine ⟨hne, ?_, hg.up hne, ?_, hs.ht, fun v hv => ?_⟩
  · have h2 := hg.nm hne
    rw [List.getLast?_eq_some_getLast hne] at h2
    rw [← Option.some.inj h2]
    exact (List.dropLast_concat_getLast hne).symm
  · rcases hs.hv with h3 | h3
    · exact h3.2.2
    · have := h.kinds h3
      simp only [e3] at this
      omega
  · obtain ⟨_, h4, _⟩ := is_fnd hv
    obtain ⟨_, _, h5⟩ := is_ok h hv
    omega
theorem szF_lay (T : Ts) (x : Nat) (v : Option (Nat × ByteArray × Nat)) (hx : x ≤ T.F.length) (y : Nat) : szF (setF T x v) y = if y = x then (match v with | some r => r.2.2 | none => 0) else szF T y := by
  unfold szF
  rw [setF_get T x v hx y]
  by_cases hy : y = x
  · rw [if_pos hy, if_pos hy]
    cases v <;> rfl
  · rw [if_neg hy, if_neg hy]
theorem is_no {T : Ts} {dp : Nat → Nat} (h : Inv T dp) {P : List ByteArray} {v : Nat × Nat} (hP : Is T P v) : (v.1 = 1 → v.2 ≠ 0 ∧ ∃ d, T.D[v.2]? = some (some d)) ∧ (v.1 = 2 → ∃ r, T.F[v.2]? = some (some r)) := by
  obtain ⟨L, n, x, rfl, hL, hm⟩ := hP
  rcases (h.hM _ _ _).1 hm with ⟨h1, h2, n', h3, _⟩ | ⟨h1, n', s, h3, _⟩
  · exact ⟨fun _ => ⟨h2, _, h3⟩, fun e => by omega⟩
  · exact ⟨fun e => by omega, fun _ => ⟨_, h3⟩⟩
theorem mo_mkd {T : Ts} {dp : Nat → Nat} (h : Inv T dp) {L : List En} (hm : Mo T L) {P : List ByteArray} (hP : P.all Pa.nm = true) (h0 : (fndN T P).2 = 0) (hx : lowL T.D < T.dr) : Mo (mkdT T P).2.2 (L ++ [⟨P, 1, 0⟩]) := by
  obtain ⟨hne, eP, hL, hM, ht, hn⟩ := free_is h hP h0
  unfold mkdT
  rw [if_neg (fun e => e h0), if_pos hx]
  have hemp : ∀ k, T.M (lowL T.D) k = none := fun k => by rw [h.empty (lowL_free T.D)]
  have hne2 : lowL T.D ≠ (fndN T P).1.par := fun e => by
    obtain ⟨d, hd⟩ := ht
    rw [← e] at hd
    exact lowL_free T.D d hd
  refine mo_put hm P (1, lowL T.D) (.inl rfl) (fun R v => ?_) (fun _ _ _ => rfl) hn ?_ rfl
  · have := is_put (U := hangT (setD T (lowL T.D) (some ((fndN T P).1.par, (fndN T P).1.nm))) (fndN T P).1.par (fndN T P).1.nm (some (1, lowL T.D))) h hL rfl hM (fun _ => ⟨hne2, hemp⟩) (P := R) (v := v)
    rw [← eP] at this
    exact this
  · rw [if_pos rfl]
    exact layL_cnt _ _ _ (lowL_free T.D)
theorem mo_cre {T : Ts} {dp : Nat → Nat} (h : Inv T dp) {L : List En} (hm : Mo T L) {P : List ByteArray} (hP : P.all Pa.nm = true) (h0 : (fndN T P).2 = 0) (hx : lowL T.F < T.fr) : Mo (creT T P).2.2 (L ++ [⟨P, 2, 0⟩]) := by
  obtain ⟨hne, eP, hL, hM, ht, hn⟩ := free_is h hP h0
  unfold creT
  rw [if_neg (fun e => e h0), if_pos hx]
  have hs : ∀ y, szF (hangT (setF T (lowL T.F) (some ((fndN T P).1.par, (fndN T P).1.nm, 0))) (fndN T P).1.par (fndN T P).1.nm (some (2, lowL T.F))) y = if y = lowL T.F then 0 else szF T y := fun y => szF_lay T (lowL T.F) _ (lowL_le _) y
  have := mo_put (U := hangT (setF T (lowL T.F) (some ((fndN T P).1.par, (fndN T P).1.nm, 0))) (fndN T P).1.par (fndN T P).1.nm (some (2, lowL T.F))) hm P (2, lowL T.F) (.inr rfl) (fun R v => ?_) (fun R v hv => ?_) hn rfl ?_
  · have e : szE (hangT (setF T (lowL T.F) (some ((fndN T P).1.par, (fndN T P).1.nm, 0))) (fndN T P).1.par (fndN T P).1.nm (some (2, lowL T.F))) (2, lowL T.F) = 0 := by
      unfold szE
      rw [if_pos rfl, hs, if_pos rfl]
    rw [e] at this
    exact this
  · have := is_put (U := hangT (setF T (lowL T.F) (some ((fndN T P).1.par, (fndN T P).1.nm, 0))) (fndN T P).1.par (fndN T P).1.nm (some (2, lowL T.F))) h hL rfl hM (fun e => by cases e) (P := R) (v := v)
    rw [← eP] at this
    exact this
  · unfold szE
    by_cases hk : v.1 = 2
    · rw [if_pos hk, if_pos hk, hs, if_neg fun e => ?_]
      obtain ⟨r, hr⟩ := (is_no h hv).2 hk
      rw [e] at hr
      exact lowL_free T.F r hr
    · rw [if_neg hk, if_neg hk]
  · rw [if_pos rfl]
    exact layL_cnt _ _ _ (lowL_free T.F)
/-- where something is -/
theorem some_is {T : Ts} {dp : Nat → Nat} (h : Inv T dp) {P : List ByteArray} (hP : P.all Pa.nm = true) (hne : P ≠ []) (he : (fndA T P).2 = 0) (hk : (fndA T P).1.kd ≠ 0) : P = P.dropLast ++ [(fndA T P).1.nm] ∧ Lds T P.dropLast (fndA T P).1.par ∧ T.M (fndA T P).1.par (ky (fndA T P).1.nm) = some ((fndA T P).1.kd, (fndA T P).1.no) := by
  have hg := got h hP he
  refine ⟨?_, hg.up hne, ?_⟩
  · have h2 := hg.nm hne
    rw [List.getLast?_eq_some_getLast hne] at h2
    rw [← Option.some.inj h2]
    exact (List.dropLast_concat_getLast hne).symm
  · rcases (hg.sp hne).hv with h3 | h3
    · exact absurd h3.1 hk
    · exact h3
theorem file_is {T : Ts} {dp : Nat → Nat} (h : Inv T dp) {P : List ByteArray} (hP : P.all Pa.nm = true) (h0 : (fndF T P).2 = 0) : fndF T P = fndA T P ∧ P ≠ [] ∧ (fndA T P).1.kd = 2 ∧ Is T P (2, (fndA T P).1.no) := by
  obtain ⟨e1, e2, e3, e4⟩ := fndF_ok h0
  have hne : P ≠ [] := ne_of_kd e4
  have hi := is_of h hP hne e2 e3
  have hk : (fndA T P).1.kd = 2 := by rcases (is_ok h hi).2.2 with h5 | h5 <;> simp only at h5 <;> omega
  rw [hk] at hi
  exact ⟨e1, hne, hk, hi⟩
open Classical in
theorem mo_rem {T : Ts} {dp : Nat → Nat} (h : Inv T dp) {L : List En} (hm : Mo T L) {P : List ByteArray} (hP : P.all Pa.nm = true) (h0 : (fndF T P).2 = 0) : Mo (remT T P).2.2 (L.filter fun e => decide (e.p ≠ P)) := by
  obtain ⟨e1, hne, hk, hi⟩ := file_is h hP h0
  obtain ⟨r, hr⟩ := (is_no h hi).2 rfl
  obtain ⟨eP, hL, hM⟩ := some_is h hP hne (fndF_ok h0).2.1 (by omega)
  unfold remT
  rw [if_neg (fun e => e h0), e1]
  refine mo_drop hm P (2, (fndA T P).1.no) hi (fun R v => ?_) (fun R v hv hR => ?_) rfl ?_
  · have := is_drop (U := setF (hangT T (fndA T P).1.par (fndA T P).1.nm none) (fndA T P).1.no none) h hL hM rfl (fun e => by simp only at e; omega) (P := R) (v := v)
    rw [← eP] at this
    exact this
  · unfold szE
    by_cases hk2 : v.1 = 2
    · rw [if_pos hk2, if_pos hk2]
      have := szF_lay (hangT T (fndA T P).1.par (fndA T P).1.nm none) (fndA T P).1.no none (Nat.le_of_lt (some_lt hr)) v.2
      refine this.trans ?_
      rw [if_neg fun e => hR ?_]
      · rfl
      · refine is_inj h hv ?_
        have e2 : v = (2, (fndA T P).1.no) := Prod.ext hk2 e
        rw [e2]
        exact hi
    · rw [if_neg hk2, if_neg hk2]
  · rw [if_pos rfl]
    exact layL_drop _ _ _ hr
theorem dir_is {T : Ts} {dp : Nat → Nat} (h : Inv T dp) {P : List ByteArray} (hP : P.all Pa.nm = true) (h0 : (fndD T P).2 = 0) : fndD T P = fndA T P ∧ (fndA T P).2 = 0 ∧ (fndA T P).1.kd = 1 ∧ Lds T P (fndA T P).1.no := by
  obtain ⟨e1, e2, e3, e4⟩ := fndD_ok h0
  have hg := got h hP e2
  by_cases hne : P = []
  · subst hne
    exact ⟨e1, e2, rfl, .nil⟩
  · have hi := is_of h hP hne e2 e3
    have hk : (fndA T P).1.kd = 1 := by rcases (is_ok h hi).2.2 with h5 | h5 <;> simp only at h5 <;> omega
    exact ⟨e1, e2, hk, (hg.dir hk).2.1⟩
open Classical in
theorem mo_rmd {T : Ts} {dp : Nat → Nat} (h : Inv T dp) {L : List En} (hm : Mo T L) {P : List ByteArray} (hP : P.all Pa.nm = true) (hne : P ≠ []) (h0 : (fndD T P).2 = 0) (hem : ¬ ∃ k, (T.M (fndD T P).1.no k).isSome = true) : Mo (rmdT T P).2.2 (L.filter fun e => decide (e.p ≠ P)) := by
  obtain ⟨e1, e2, hk, hL0⟩ := dir_is h hP h0
  have hi := lds_is hL0 hne
  obtain ⟨_, d, hd⟩ := (is_no h hi).1 rfl
  obtain ⟨eP, hL, hM⟩ := some_is h hP hne e2 (by omega)
  unfold rmdT
  rw [if_neg hne, if_neg (fun e => e h0), if_neg hem, e1]
  rw [e1] at hem
  have hem2 : ∀ k, T.M (fndA T P).1.no k = none := fun k => by
    cases hq : T.M (fndA T P).1.no k with
    | none => rfl
    | some v => exact absurd ⟨k, by rw [hq]; rfl⟩ hem
  refine mo_drop hm P (1, (fndA T P).1.no) hi (fun R v => ?_) (fun R v hv hR => rfl) ?_ rfl
  · have := is_drop (U := setD (hangT T (fndA T P).1.par (fndA T P).1.nm none) (fndA T P).1.no none) h hL hM rfl (fun _ => hem2) (P := R) (v := v)
    rw [← eP] at this
    exact this
  · rw [if_pos rfl]
    exact layL_drop _ _ _ hd
open Classical in
theorem mo_siz {T : Ts} {dp : Nat → Nat} (h : Inv T dp) {L : List En} (hm : Mo T L) {P : List ByteArray} (hP : P.all Pa.nm = true) (h0 : (fndF T P).2 = 0) (s : Nat) : Mo (sizeT T (fndF T P).1.no s) (L.map fun e => if e.p = P then { e with sz := s } else e) := by
  obtain ⟨e1, hne, hk, hi⟩ := file_is h hP h0
  obtain ⟨r, hr⟩ := (is_no h hi).2 rfl
  rw [e1]
  exact mo_size h hm P _ s hi rfl rfl (layL_same _ _ _ _ hr) fun y => szF_lay T _ _ (Nat.le_of_lt (some_lt hr)) y

end Go.Proofs.YtnfddiabhpandaaGreatDoor.Tr

namespace Go.Proofs.YtnfddiabhpandaaGreatDoor.Tr
open Go.RowKit Go.Lib

theorem rch_is {T : Ts} {x j : Nat} (hr : Rch T x j) : ∀ {P : List ByteArray}, Lds T P x → ∃ R v, R.length = j ∧ R ≠ [] ∧ Is T (P ++ R) v := by
  induction hr with
  | one hm =>
    rename_i p k v
    intro P hP
    exact ⟨[str k], v, rfl, by simp, P, str k, p, rfl, hP, by rw [show ky (str k) = k from str_data k]; exact hm⟩
  | more hm _ ih =>
    rename_i p k x j _
    intro P hP
    have h1 : Lds T (P ++ [str k]) x := .snoc hP (by rw [show ky (str k) = k from str_data k]; exact hm)
    obtain ⟨R, v, h2, h3, h4⟩ := ih h1
    exact ⟨str k :: R, v, by rw [List.length_cons, h2], by simp, by rw [List.append_assoc] at h4; exact h4⟩
theorem is_rch {T : Ts} : ∀ (R : List ByteArray) {P : List ByteArray} {x : Nat} {v : Nat × Nat}, R ≠ [] → Lds T P x → Is T (P ++ R) v → Rch T x R.length
  | [], _, _, _, h, _, _ => absurd rfl h
  | [n], P, x, v, _, hP, hi => by
    obtain ⟨L, m, y, e, hL, hm⟩ := hi
    obtain ⟨e1, e2⟩ := List.append_inj' e rfl
    injection e2 with e2
    subst e1 e2
    rw [lds_one hL hP] at hm
    exact .one hm
  | n :: r :: R, P, x, v, _, hP, hi => by
    have e : P ++ n :: r :: R = (P ++ [n]) ++ (r :: R) := by simp
    rw [e] at hi
    obtain ⟨y, hy⟩ := is_under hi (by simp) (by simp)
    have h1 := is_rch (r :: R) (by simp) (is_lds hy) hi
    obtain ⟨L, m, z, e, hL, hm⟩ := hy
    obtain ⟨e1, e2⟩ := List.append_inj' e rfl
    injection e2 with e2
    subst e1 e2
    rw [lds_one hL hP] at hm
    exact .more hm h1
/-- is a path under another? -/
def Blw (P D : List ByteArray) : Prop := D <+: P ∧ P ≠ D
theorem blw_iff {P D : List ByteArray} : Blw P D ↔ ∃ R, R ≠ [] ∧ P = D ++ R := by
  constructor
  · rintro ⟨⟨R, rfl⟩, h⟩
    exact ⟨R, fun e => h (by rw [e, List.append_nil]), rfl⟩
  · rintro ⟨R, h, rfl⟩
    exact ⟨List.prefix_append _ _, fun e => h (List.append_right_eq_self.1 e)⟩
theorem deep_iff {T : Ts} {L : List En} (hm : Mo T L) {P : List ByteArray} {x : Nat} (hP : Lds T P x) (q : Nat) : (∃ j, Rch T x j ∧ 16 < q + j) ↔ ∃ e ∈ L, Blw e.p P ∧ 16 < e.p.length - P.length + q := by
  constructor
  · rintro ⟨j, hj, hq⟩
    obtain ⟨R, v, h1, h2, h3⟩ := rch_is hj hP
    refine ⟨⟨P ++ R, v.1, szE T v⟩, (hm.mem _).2 ⟨v.2, h3, rfl⟩, blw_iff.2 ⟨R, h2, rfl⟩, ?_⟩
    simp only [List.length_append]
    omega
  · rintro ⟨e, he, hb, hq⟩
    obtain ⟨R, h2, h3⟩ := blw_iff.1 hb
    obtain ⟨no, h4, _⟩ := (hm.mem e).1 he
    rw [h3] at h4 hq
    refine ⟨R.length, is_rch R h2 hP h4, ?_⟩
    simp only [List.length_append] at hq
    omega
open Classical in
theorem mo_ren {T : Ts} {dp : Nat → Nat} (h : Inv T dp) {L : List En} (hm : Mo T L) {P Q : List ByteArray} (hP : P.all Pa.nm = true) (hQ : Q.all Pa.nm = true) (h0 : (fndS T P).2 = 0) (hPQ : P ≠ Q) (ht : tarE T P Q (fndS T P).1 = 0) : Mo (renT T P Q).2.2 ((L.filter fun e => decide (e.p ≠ Q)).map (mvE P Q)) := by
  obtain ⟨e1, e2, e3⟩ := fndS_ok h0
  rw [e1] at ht
  obtain ⟨t1, t2, t3, t4, t5⟩ := tarE_ok ht
  have hPn : P ≠ [] := fun e => by
    subst e
    exact t1 ⟨rfl, List.nil_prefix⟩
  have hQn : Q ≠ [] := ne_of_kd t3
  obtain ⟨eP, hLa, hMa⟩ := some_is h hP hPn e2 e3
  have hi := is_of h hP hPn e2 e3
  have hgQ := got h hQ t2
  have eQ : Q = Q.dropLast ++ [(fndA T Q).1.nm] := by
    have h2 := hgQ.nm hQn
    rw [List.getLast?_eq_some_getLast hQn] at h2
    rw [← Option.some.inj h2]
    exact (List.dropLast_concat_getLast hQn).symm
  have hLb := hgQ.up hQn
  have hvQ := (hgQ.sp hQn).hv
  have hfr : ∀ x, T.M (fndA T Q).1.par (ky (fndA T Q).1.nm) ≠ some (1, x) := fun x e => by
    rcases hvQ with h3 | h3
    · rw [h3.2.2] at e; cases e
    · rw [h3] at e
      injection e with e
      injection e with e _
      exact t3 e
  have hMm : ∀ (U : Ts), U.M = putM (putM T.M (fndA T P).1.par (ky (fndA T P).1.nm) none) (fndA T Q).1.par (ky (fndA T Q).1.nm) (some ((fndA T P).1.kd, (fndA T P).1.no)) → ∀ R v, Is U R v ↔ (Is T R v ∧ ¬ P <+: R ∧ R ≠ Q) ∨ (∃ S, R = Q ++ S ∧ Is T (P ++ S) v) := fun U hU R v => by
    have := is_move (U := U) h hLa hLb hMa hU hfr (fun hk hp => by rw [← eP, ← eQ] at hp; exact t1 ⟨hk, hp⟩) (by rw [← eP, ← eQ]; exact hPQ) (P := R) (v := v)
    rw [← eP, ← eQ] at this
    exact this
  have hnp : ∀ R v, Is T (P ++ R) v → P ++ R ≠ Q := fun R v hv e => by
    by_cases hR : R = []
    · subst hR
      rw [List.append_nil] at e
      exact hPQ e
    · obtain ⟨y, hy⟩ := is_under hv hR hPn
      have := is_one hi hy
      injection this with k1 _
      exact t1 ⟨k1, e ▸ List.prefix_append _ _⟩
  have hQu : ∀ R v, R ≠ [] → ¬ Is T (Q ++ R) v := fun R v hR hv => by
    obtain ⟨y, hy⟩ := is_under hv hR hQn
    exact t3 (is_fnd hy).2.1
  have hkP := (is_ok h hi).2.2
  simp only at hkP
  unfold renT
  rw [if_neg (fun e => e h0), if_neg hPQ, e1, if_neg (fun e => e ht)]
  by_cases hkQ : (fndA T Q).1.kd = 0
  · rw [if_pos hkQ]
    have hnQ : ¬ ∃ v, Is T Q v := fun ⟨v, hv⟩ => by
      have k1 := (is_fnd hv).2.1
      have k2 := (is_ok h hv).2.2
      omega
    simp only
    unfold movT
    by_cases hk : (fndA T P).1.kd = 1
    · rw [if_pos hk]
      obtain ⟨_, d, hd⟩ := (is_no h hi).1 hk
      refine mo_move hm P Q hnp hQu (hMm _ rfl) (fun _ _ _ _ => rfl) (.inl ⟨hnQ, ?_, rfl⟩)
      exact layL_same _ _ _ _ hd
    · rw [if_neg hk]
      obtain ⟨r, hr⟩ := (is_no h hi).2 (by simp only; omega)
      refine mo_move hm P Q hnp hQu (hMm _ rfl) (fun R v _ _ => ?_) (.inl ⟨hnQ, rfl, ?_⟩)
      · unfold szE
        by_cases hk2 : v.1 = 2
        · rw [if_pos hk2, if_pos hk2]
          refine (szF_lay (hangT (hangT T (fndA T P).1.par (fndA T P).1.nm none) (fndA T Q).1.par (fndA T Q).1.nm (some ((fndA T P).1.kd, (fndA T P).1.no))) (fndA T P).1.no _ (Nat.le_of_lt (some_lt hr)) v.2).trans ?_
          by_cases hv : v.2 = (fndA T P).1.no
          · rw [if_pos hv, hv]
          · rw [if_neg hv]; rfl
        · rw [if_neg hk2, if_neg hk2]
      · exact layL_same _ _ _ _ hr
  · rw [if_neg hkQ]
    have hiQ := is_of h hQ hQn t2 hkQ
    have hkQ2 : (fndA T Q).1.kd = 2 := by
      have := (is_ok h hiQ).2.2
      simp only at this
      omega
    have hk : ¬ (fndA T P).1.kd = 1 := fun e => t4 ⟨hkQ2, e⟩
    have hk2P : (fndA T P).1.kd = 2 := by omega
    obtain ⟨r, hr⟩ := (is_no h hi).2 hk2P
    obtain ⟨rq, hrq⟩ := (is_no h hiQ).2 hkQ2
    simp only at hr hrq
    have hnn : (fndA T Q).1.no ≠ (fndA T P).1.no := fun e => hPQ (is_inj h hi (by rw [hk2P, ← e, ← hkQ2]; exact hiQ))
    simp only
    unfold movT
    rw [if_neg hk]
    have hF1 : (setF (hangT (hangT T (fndA T P).1.par (fndA T P).1.nm none) (fndA T Q).1.par (fndA T Q).1.nm (some ((fndA T P).1.kd, (fndA T P).1.no))) (fndA T P).1.no (some ((fndA T Q).1.par, (fndA T Q).1.nm, szF T (fndA T P).1.no))).F[(fndA T Q).1.no]? = some (some rq) := by
      refine (setF_get (hangT (hangT T (fndA T P).1.par (fndA T P).1.nm none) (fndA T Q).1.par (fndA T Q).1.nm (some ((fndA T P).1.kd, (fndA T P).1.no))) _ _ (Nat.le_of_lt (some_lt hr)) _).trans ?_
      rw [if_neg hnn]
      exact hrq
    refine mo_move hm P Q hnp hQu (hMm _ rfl) (fun R v hv hR => ?_) (.inr ⟨_, hiQ, ?_, ?_⟩)
    · unfold szE
      by_cases hk2 : v.1 = 2
      · rw [if_pos hk2, if_pos hk2]
        refine (szF_lay _ (fndA T Q).1.no none (Nat.le_of_lt (some_lt hF1)) v.2).trans ?_
        rw [if_neg fun e => hR ?_]
        · refine (szF_lay (hangT (hangT T (fndA T P).1.par (fndA T P).1.nm none) (fndA T Q).1.par (fndA T Q).1.nm (some ((fndA T P).1.kd, (fndA T P).1.no))) (fndA T P).1.no _ (Nat.le_of_lt (some_lt hr)) v.2).trans ?_
          by_cases hv : v.2 = (fndA T P).1.no
          · rw [if_pos hv, hv]
          · rw [if_neg hv]; rfl
        · refine is_inj h hv ?_
          have e5 : v = ((fndA T Q).1.kd, (fndA T Q).1.no) := Prod.ext (hk2.trans hkQ2.symm) e
          rw [e5]
          exact hiQ
      · rw [if_neg hk2, if_neg hk2]
    · simp only [hkQ2]; rfl
    · simp only [hkQ2, if_true]
      have d1 := layL_drop _ _ _ hF1
      have d2 := layL_same _ _ _ ((fndA T Q).1.par, (fndA T Q).1.nm, szF T (fndA T P).1.no) hr
      exact d1.trans d2
/-- a name at its place -/
def insN (x : ByteArray) : List ByteArray → List ByteArray
  | [] => [x]
  | y :: l => if x.data.toList < y.data.toList then x :: y :: l else y :: insN x l
theorem insN_mem (x y : ByteArray) : ∀ l, y ∈ insN x l ↔ y = x ∨ y ∈ l
  | [] => by simp [insN]
  | z :: l => by
    unfold insN
    split
    · simp
    · rw [List.mem_cons, insN_mem x y l, List.mem_cons]
      constructor
      · rintro (h | h | h)
        · exact .inr (.inl h)
        · exact .inl h
        · exact .inr (.inr h)
      · rintro (h | h | h)
        · exact .inr (.inl h)
        · exact .inl h
        · exact .inr (.inr h)
theorem insN_sorted (x : ByteArray) : ∀ l : List ByteArray, l.Pairwise (fun a b => a.data.toList < b.data.toList) → x ∉ l → (insN x l).Pairwise (fun a b => a.data.toList < b.data.toList)
  | [], _, _ => by simp [insN]
  | y :: l, h, hn => by
    rw [List.pairwise_cons] at h
    unfold insN
    by_cases hc : x.data.toList < y.data.toList
    · rw [if_pos hc]
      refine List.pairwise_cons.2 ⟨fun z hz => ?_, List.pairwise_cons.2 h⟩
      rcases List.mem_cons.1 hz with rfl | hz
      · exact hc
      · exact List.lt_trans hc (h.1 z hz)
    · rw [if_neg hc]
      refine List.pairwise_cons.2 ⟨fun z hz => ?_, insN_sorted x l h.2 (fun e => hn (by simp [e]))⟩
      rcases (insN_mem x z l).1 hz with rfl | hz
      · have hne : z.data.toList ≠ y.data.toList := fun e => hn (by rw [ky_inj e]; simp)
        rcases List.le_iff_lt_or_eq.1 (List.not_lt.1 hc) with h1 | h1
        · exact h1
        · exact absurd h1.symm hne
      · exact h.1 z hz
open Classical in
/-- the names directly in a directory, of the first entries -/
noncomputable def nmsL (D : List ByteArray) (L : List En) : List ByteArray := L.foldl (fun l e => if D = e.p.dropLast ∧ e.p ≠ [] then insN (e.p.getLastD e0) l else l) []
open Classical in
theorem nms_snoc (D : List ByteArray) (L : List En) (e : En) : nmsL D (L ++ [e]) = if D = e.p.dropLast ∧ e.p ≠ [] then insN (e.p.getLastD e0) (nmsL D L) else nmsL D L := by unfold nmsL; rw [List.foldl_append]; rfl
theorem last_app (D : List ByteArray) (n : ByteArray) : (D ++ [n]).getLastD e0 = n := by simp [List.getLastD_eq_getLast?]
theorem nms_mem (D : List ByteArray) : ∀ L : List En, (∀ n, n ∈ nmsL D L ↔ ∃ e ∈ L, e.p = D ++ [n]) ∧ ((L.map (·.p)).Nodup → (nmsL D L).Pairwise (fun a b => a.data.toList < b.data.toList)) := by
  intro L
  suffices h : ∀ R : List En, (∀ n, n ∈ nmsL D R.reverse ↔ ∃ e ∈ R.reverse, e.p = D ++ [n]) ∧ ((R.reverse.map (·.p)).Nodup → (nmsL D R.reverse).Pairwise (fun a b => a.data.toList < b.data.toList)) by
    have := h L.reverse
    rwa [List.reverse_reverse] at this
  intro R
  induction R with
  | nil => exact ⟨fun n => by simp [nmsL], fun _ => by simp [nmsL]⟩
  | cons e R ih =>
    rw [List.reverse_cons, nms_snoc]
    obtain ⟨i1, i2⟩ := ih
    by_cases hc : D = e.p.dropLast ∧ e.p ≠ []
    · have hp : e.p = D ++ [e.p.getLastD e0] := by
        obtain ⟨m, hm⟩ : ∃ m, e.p = D ++ [m] := ⟨_, by rw [hc.1]; exact (List.dropLast_concat_getLast hc.2).symm⟩
        rw [hm, last_app]
      rw [if_pos hc]
      refine ⟨fun n => ?_, fun hnd => ?_⟩
      · rw [insN_mem, i1]
        constructor
        · rintro (rfl | ⟨x, hx, h1⟩)
          · exact ⟨e, by simp, hp⟩
          · exact ⟨x, by simp only [List.mem_append]; exact .inl hx, h1⟩
        · rintro ⟨x, hx, h1⟩
          rcases List.mem_append.1 hx with hx | hx
          · exact .inr ⟨x, hx, h1⟩
          · simp only [List.mem_singleton] at hx
            subst hx
            left
            rw [h1, last_app]
      · rw [List.map_append, List.nodup_append] at hnd
        refine insN_sorted _ _ (i2 hnd.1) fun hin => ?_
        obtain ⟨x, hx, h1⟩ := (i1 _).1 hin
        exact hnd.2.2 x.p (List.mem_map_of_mem hx) e.p (by simp) (by rw [h1, ← hp])
    · rw [if_neg hc]
      refine ⟨fun n => ?_, fun hnd => ?_⟩
      · rw [i1]
        constructor
        · rintro ⟨x, hx, h1⟩
          exact ⟨x, by simp only [List.mem_append]; exact .inl hx, h1⟩
        · rintro ⟨x, hx, h1⟩
          rcases List.mem_append.1 hx with hx | hx
          · exact ⟨x, hx, h1⟩
          · simp only [List.mem_singleton] at hx
            subst hx
            exact absurd ⟨by rw [h1]; simp, by rw [h1]; simp⟩ hc
      · rw [List.map_append, List.nodup_append] at hnd
        exact i2 hnd.1
theorem nms_keys {T : Ts} {L : List En} (hm : Mo T L) {D : List ByteArray} {x : Nat} (hD : Lds T D x) : (keysL (T.M x)).map str = nmsL D L := by
  obtain ⟨m1, m2⟩ := nms_mem D L
  have hr : Rises ((nmsL D L).map ky) (T.M x) := by
    refine ⟨?_, ?_, fun k => ?_⟩
    · refine List.pairwise_map.2 ((m2 hm.nd).imp fun h => ?_)
      exact decide_eq_true (List.le_of_lt h)
    · refine List.pairwise_map.2 ((m2 hm.nd).imp fun h e => ?_)
      have e : (_ : List UInt8) = _ := e
      unfold ky at e
      rw [e] at h
      exact List.lt_irrefl _ h
    · rw [List.mem_map, Option.isSome_iff_exists]
      constructor
      · rintro ⟨n, hn, rfl⟩
        obtain ⟨e, he, hp⟩ := (m1 n).1 hn
        obtain ⟨no, h1, _⟩ := (hm.mem e).1 he
        rw [hp] at h1
        obtain ⟨L', n', x', e', hL', hm'⟩ := h1
        obtain ⟨e1, e2⟩ := List.append_inj' e' rfl
        injection e2 with e2
        subst e1 e2
        rw [lds_one hL' hD] at hm'
        exact ⟨_, hm'⟩
      · rintro ⟨v, hv⟩
        refine ⟨str k, (m1 _).2 ⟨⟨D ++ [str k], v.1, szE T v⟩, (hm.mem _).2 ⟨v.2, ⟨D, str k, x, rfl, hD, by rw [show ky (str k) = k from str_data k]; exact hv⟩, rfl⟩, rfl⟩, str_data k⟩
  rw [keysL_eq hr, List.map_map]
  exact (List.map_congr_left fun n _ => str_of n).trans (List.map_id _)

end Go.Proofs.YtnfddiabhpandaaGreatDoor.Tr

namespace Go.Proofs.YtnfddiabhpandaaGreatDoor.Tr
open Go.RowKit Go.Lib

/-- the text of a path -/
abbrev tx (P : List ByteArray) : ByteArray := Pa.textY P
def Vd (P : List ByteArray) : Prop := Pa.fault P = 0
theorem Vd.nm {P : List ByteArray} (h : Vd P) : P.all Pa.nm = true := (Pa.fault_zero.1 h).1
theorem Vd.len {P : List ByteArray} (h : Vd P) : P.length ≤ 16 := (Pa.fault_zero.1 h).2
theorem vd_of {P : List ByteArray} (h : P.all Pa.nm = true) (hl : P.length ≤ 16) : Vd P := Pa.fault_zero.2 ⟨h, hl⟩
theorem vd_take {P : List ByteArray} (h : Vd P) (j : Nat) : Vd (P.take j) := vd_of (List.all_eq_true.2 fun x hx => List.all_eq_true.1 h.nm x (List.mem_of_mem_take hx)) (by rw [List.length_take]; have := h.len; omega)
theorem tx_data {P : List ByteArray} (h : Vd P) : (tx P).data.toList = Pa.textL P := by
  show (Pa.textY P).data.toList = _
  rw [Pa.textY_ok h, str_data]
theorem tx_inj {P Q : List ByteArray} (h : Vd P) (h' : Vd Q) (e : tx P = tx Q) : P = Q := by
  have e1 := (Pa.text_parse h).2
  have e2 := (Pa.text_parse h').2
  have e : Pa.textY P = Pa.textY Q := e
  rw [e] at e1
  exact e1.symm.trans e2
theorem tx_nil {P : List ByteArray} (h : Vd P) : tx P = { data := #[47] } ↔ P = [] := by
  constructor
  · intro e
    exact tx_inj h Pa.fault_nil (e.trans rfl)
  · rintro rfl
    rfl
theorem textL_ne {P : List ByteArray} (h : P ≠ []) : Pa.textL P = Pa.slashed P := by unfold Pa.textL; rw [if_neg h]
theorem sl_cons (n : ByteArray) (P : List ByteArray) : Pa.slashed (n :: P) = 47 :: n.data.toList ++ Pa.slashed P := by simp [Pa.slashed]
theorem slash_at : ∀ (P : List ByteArray), P.all Pa.nm = true → ∀ i, (Pa.slashed P)[i]? = some 47 ↔ ∃ j, j < P.length ∧ i = (Pa.slashed (P.take j)).length
  | [], _, i => by simp [Pa.slashed]
  | n :: P, h, i => by
    simp only [List.all_cons, Bool.and_eq_true] at h
    have hn := (Pa.nm_free h.1).1
    have ih := slash_at P h.2
    rw [sl_cons]
    constructor
    · intro hi
      cases i with
      | zero => exact ⟨0, by simp, by simp [Pa.slashed]⟩
      | succ i =>
        rw [List.cons_append, List.getElem?_cons_succ] at hi
        by_cases hl : i < n.data.toList.length
        · rw [List.getElem?_append_left hl] at hi
          exact absurd (List.mem_of_getElem? hi) hn
        · rw [List.getElem?_append_right (by omega)] at hi
          obtain ⟨j, h1, h2⟩ := (ih _).1 hi
          refine ⟨j + 1, by simp; omega, ?_⟩
          rw [List.take_succ_cons, sl_cons]
          simp only [List.cons_append, List.length_cons, List.length_append]
          omega
    · rintro ⟨j, h1, h2⟩
      cases j with
      | zero => subst h2; simp [Pa.slashed]
      | succ j =>
        rw [List.take_succ_cons, sl_cons] at h2
        simp only [List.cons_append, List.length_cons, List.length_append] at h2
        subst h2
        rw [List.cons_append, List.getElem?_cons_succ, List.getElem?_append_right (by omega)]
        refine (ih _).2 ⟨j, by simpa using h1, by omega⟩
theorem sl_take (P : List ByteArray) (j : Nat) : (Pa.slashed P).take (Pa.slashed (P.take j)).length = Pa.slashed (P.take j) := by
  have e : Pa.slashed P = Pa.slashed (P.take j) ++ Pa.slashed (P.drop j) := by rw [← Pa.slashed_append, List.take_append_drop]
  rw [e, List.take_left]
theorem sl_count : ∀ (P : List ByteArray), P.all Pa.nm = true → (Pa.slashed P).count 47 = P.length
  | [], _ => rfl
  | n :: P, h => by
    simp only [List.all_cons, Bool.and_eq_true] at h
    have hn := (Pa.nm_free h.1).1
    rw [sl_cons, List.cons_append, List.count_cons_self, List.count_append, sl_count P h.2, List.count_eq_zero.2 hn]
    simp
theorem sl_pos {P : List ByteArray} (h : P ≠ []) : 0 < (Pa.slashed P).length := by
  cases P with
  | nil => exact absurd rfl h
  | cons n P => rw [sl_cons]; simp
theorem tx_size {P : List ByteArray} (h : Vd P) : 1 ≤ (tx P).size ∧ (tx P).size ≤ 529 := by
  have e : (tx P).size = (Pa.textL P).length := by rw [size_eq, tx_data h]
  rw [e]
  unfold Pa.textL
  split
  · simp
  · rename_i hn
    have h1 := Pa.slashed_len P h.nm
    have h2 := h.len
    have h3 := sl_pos hn
    omega
/-- the position of a slash -/
theorem slash_pos {P : List ByteArray} (h : Vd P) {i : Nat} (hi : 1 ≤ i) (hs : (tx P).data.toList[i]? = some 47) : ∃ j, 1 ≤ j ∧ j < P.length ∧ i = (Pa.slashed (P.take j)).length ∧ (tx P).data.toList.take i = (tx (P.take j)).data.toList := by
  rw [tx_data h] at hs ⊢
  by_cases hn : P = []
  · subst hn
    unfold Pa.textL at hs
    rw [if_pos rfl] at hs
    cases i with
    | zero => omega
    | succ i => simp at hs
  · rw [textL_ne hn] at hs ⊢
    obtain ⟨j, h1, h2⟩ := (slash_at P h.nm i).1 hs
    have hj : 1 ≤ j := by
      rcases Nat.eq_zero_or_pos j with e | e
      · subst e; simp [Pa.slashed] at h2; omega
      · exact e
    refine ⟨j, hj, h1, h2, ?_⟩
    have hne : P.take j ≠ [] := fun e => by
      have := congrArg List.length e
      rw [List.length_take, List.length_nil] at this
      omega
    rw [tx_data (vd_take h j), textL_ne hne, h2, sl_take]
theorem way_ok {T : Ts} {P : List ByteArray} (h : ∀ j, 1 ≤ j → j < P.length → kdT T (P.take j) = 1) : (fndA T P).2 = 0 := by
  by_cases hn : P = []
  · subst hn; rfl
  · obtain ⟨L, n, rfl⟩ : ∃ L n, P = L ++ [n] := ⟨_, _, (List.dropLast_concat_getLast hn).symm⟩
    rw [fndA_snoc]
    by_cases hL : L = []
    · subst hL
      rw [if_neg (by simp [fndA, fnd]), if_neg (by simp [fndA, fnd, Sp.root]), if_neg (by simp [fndA, fnd, Sp.root])]
    · have hk := h L.length (List.length_pos_iff.2 hL) (by simp)
      rw [List.take_left] at hk
      unfold kdT at hk
      by_cases he : (fndA T L).2 = 0
      · rw [if_pos he] at hk
        rw [if_neg (fun e => e he), if_neg (by omega), if_neg (by omega)]
      · rw [if_neg he] at hk; cases hk
theorem way_stop {T : Ts} {P : List ByteArray} {j : Nat} (hl : j < P.length) (h : ∀ i, 1 ≤ i → i < j → kdT T (P.take i) = 1) (hk2 : kdT T (P.take j) = 0 ∨ kdT T (P.take j) = 2) : (fndA T P).2 = if kdT T (P.take j) = 0 then 120 else 122 := by
  have e0 : (fndA T (P.take j)).2 = 0 := way_ok fun i h1 h2 => by
    rw [List.length_take] at h2
    rw [List.take_take, Nat.min_eq_left (by omega)]
    exact h i h1 (by omega)
  have hd : P.drop j ≠ [] := fun e => by
    have := congrArg List.length e
    rw [List.length_drop, List.length_nil] at this
    omega
  have e1 : fndA T P = fnd T (fndA T (P.take j)).1 (P.drop j) := by
    have := fnd_app T (P.take j) (P.drop j) Sp.root
    rw [List.take_append_drop] at this
    unfold fndA at e0 ⊢
    rw [this, if_neg (fun e => e e0)]
  unfold kdT at hk2 ⊢
  rw [if_pos e0] at hk2 ⊢
  rw [e1]
  cases hq : P.drop j with
  | nil => exact absurd hq hd
  | cons n R =>
    have e2 : fnd T (fndA T (P.take j)).1 (n :: R) = if (fndA T (P.take j)).1.kd = 0 then (Sp.zero, 120) else if (fndA T (P.take j)).1.kd = 2 then (Sp.zero, 122) else fnd T (nxt T (fndA T (P.take j)).1 n) R := rfl
    rw [e2]
    rcases hk2 with h1 | h1
    · rw [if_pos h1, if_pos h1]
    · rw [if_neg (by omega), if_pos h1, if_neg (by omega)]
theorem kdT_vals {T : Ts} {dp : Nat → Nat} (h : Inv T dp) {P : List ByteArray} (hP : P.all Pa.nm = true) : kdT T P = 0 ∨ kdT T P = 1 ∨ kdT T P = 2 := by
  unfold kdT
  by_cases he : (fndA T P).2 = 0
  · rw [if_pos he]
    by_cases hn : P = []
    · subst hn; exact .inr (.inl rfl)
    · by_cases hk : (fndA T P).1.kd = 0
      · exact .inl hk
      · exact .inr ((is_ok h (is_of h hP hn he hk)).2.2)
  · rw [if_neg he]; exact .inl rfl
/-- under a directory, by the texts -/
theorem blw_tx {P D : List ByteArray} (h : Vd P) (h' : Vd D) (hD : D ≠ []) : Blw P D ↔ (tx D).size < (tx P).size ∧ (tx P).data.toList.take ((tx D).size + 1) = (tx D).data.toList ++ [47] := by
  have sP : (tx P).size = (Pa.textL P).length := by rw [size_eq, tx_data h]
  have sD : (tx D).size = (Pa.slashed D).length := by rw [size_eq, tx_data h', textL_ne hD]
  rw [sP, sD, tx_data h, tx_data h', textL_ne hD]
  constructor
  · intro hb
    obtain ⟨R, hR, rfl⟩ := blw_iff.1 hb
    have hne : D ++ R ≠ [] := by simp [hD]
    rw [textL_ne hne, Pa.slashed_append]
    cases R with
    | nil => exact absurd rfl hR
    | cons r R =>
      rw [sl_cons]
      refine ⟨by simp, ?_⟩
      rw [List.take_length_add_append]
      simp
  · rintro ⟨h1, h2⟩
    have hn : P ≠ [] := fun e => by
      subst e
      have e1 : (Pa.textL []).length = 1 := rfl
      have e2 := sl_pos hD
      rw [e1] at h1
      omega
    rw [textL_ne hn] at h1 h2
    have h3 : (Pa.slashed P)[(Pa.slashed D).length]? = some 47 := by
      have := congrArg (fun l => l[(Pa.slashed D).length]?) h2
      simp only [List.getElem?_append_right (Nat.le_refl _), Nat.sub_self] at this
      rw [List.getElem?_take_of_lt (by omega)] at this
      exact this
    obtain ⟨j, h4, h5⟩ := (slash_at P h.nm _).1 h3
    have h6 : Pa.slashed (P.take j) = Pa.slashed D := by
      rw [← sl_take P j, ← h5]
      have := congrArg (fun l => l.take (Pa.slashed D).length) h2
      simp only [List.take_left, List.take_take] at this
      rw [Nat.min_eq_left (by omega)] at this
      exact this
    have hne : P.take j ≠ [] := fun e => by
      rw [e] at h6
      have := sl_pos hD
      rw [← h6] at this
      simp [Pa.slashed] at this
    have h7 : P.take j = D := tx_inj (vd_take h j) h' (by
      refine ky_inj ?_
      unfold ky
      rw [tx_data (vd_take h j), tx_data h', textL_ne hne, textL_ne hD, h6])
    refine ⟨h7 ▸ List.take_prefix _ _, fun e => ?_⟩
    have := congrArg List.length h7
    rw [List.length_take, ← e] at this
    omega
theorem tx_count {P : List ByteArray} (h : Vd P) (hn : P ≠ []) : (tx P).data.toList.count 47 = P.length := by rw [tx_data h, textL_ne hn, sl_count P h.nm]
/-- the last name of a path -/
theorem tx_last {D : List ByteArray} {n : ByteArray} (h : Vd (D ++ [n])) (h' : Vd D) : (tx (D ++ [n])).data.toList.drop (if D = [] then 1 else (tx D).size + 1) = n.data.toList := by
  rw [tx_data h, textL_ne (by simp), Pa.slashed_append]
  have e : Pa.slashed [n] = 47 :: n.data.toList := by simp [Pa.slashed]
  rw [e]
  by_cases hD : D = []
  · subst hD; simp [Pa.slashed]
  · have sD : (tx D).size = (Pa.slashed D).length := by rw [size_eq, tx_data h', textL_ne hD]
    rw [if_neg hD, sD, List.drop_length_add_append]
    rfl
/-- a path with another beginning -/
theorem tx_move {P Q R : List ByteArray} (hP : P ≠ []) (hQ : Q ≠ []) (h1 : Vd (P ++ R)) (h2 : Vd P) (h3 : Vd Q) (h4 : Vd (Q ++ R)) : (tx Q).data.toList ++ (tx (P ++ R)).data.toList.drop (tx P).size = (tx (Q ++ R)).data.toList := by
  have sP : (tx P).size = (Pa.slashed P).length := by rw [size_eq, tx_data h2, textL_ne hP]
  rw [sP, tx_data h1, tx_data h3, tx_data h4, textL_ne hQ, textL_ne (by simp [hP]), textL_ne (by simp [hQ]), Pa.slashed_append, Pa.slashed_append, List.drop_left]

end Go.Proofs.YtnfddiabhpandaaGreatDoor.Tr
