import Derived.Test.YtdgokfehgjkalaaWoG
namespace Go.Proofs.Ytdgokfehgjkalaa.Wd
open Go.RowKit Go.Lib Go.Deep

abbrev Bl := ByteArray × ByteArray
/-- what a list of objects holds -/
def cont (L : List Bl) : Sto := fun k => (L.find? (fun x => decide (ky x.1 = k))).map (·.2)
def ND (L : List Bl) : Prop := (L.map (·.1)).Nodup
def withoutL (L : List Bl) (n : ByteArray) : List Bl := L.filter (fun x => decide (x.1 ≠ n))
def stepL (L : List Bl) (c : Cal) : List Bl := if c.kind = 2 then withoutL L c.name ++ [(c.name, c.blob)] else if c.kind = 3 then withoutL L c.name else L
def repL (L : List Bl) (tr : List Cal) : List Bl := tr.foldl stepL L
def stepF (f : Sto) (c : Cal) : Sto := if c.kind = 2 then putF f c.name c.blob else if c.kind = 3 then delF f c.name else f
def rep (f : Sto) (tr : List Cal) : Sto := tr.foldl stepF f
theorem ky_iff {a b : ByteArray} : ky a = ky b ↔ a = b := ⟨ky_inj, fun h => by rw [h]⟩
theorem cont_cons (x : Bl) (L : List Bl) : cont (x :: L) = putF (cont L) x.1 x.2 := by
  funext k
  unfold cont putF
  rw [List.find?_cons]
  by_cases h : k = ky x.1
  · rw [if_pos h]
    simp [h]
  · rw [if_neg h]
    have : ¬ (ky x.1 = k) := fun e => h e.symm
    simp [this]
theorem cont_without (L : List Bl) (n : ByteArray) : cont (withoutL L n) = delF (cont L) n := by
  induction L with
  | nil => funext k; simp [cont, withoutL, delF]
  | cons x L ih =>
    unfold withoutL at ih ⊢
    rw [List.filter_cons]
    by_cases h : x.1 = n
    · rw [if_neg (by simp [h]), ih, cont_cons]
      funext k
      unfold delF putF
      by_cases hk : k = ky n
      · rw [if_pos hk, if_pos hk]
      · rw [if_neg hk, if_neg hk, if_neg (by rw [h]; exact hk)]
    · rw [if_pos (by simp [h]), cont_cons, cont_cons, ih]
      funext k
      unfold delF putF
      by_cases hk : k = ky x.1
      · have hn : ¬ (k = ky n) := fun e => h (ky_inj (hk.symm.trans e))
        simp only [if_pos hk, if_neg hn]
      · by_cases hn : k = ky n
        · simp only [if_neg hk, if_pos hn]
        · simp only [if_neg hk, if_neg hn]
theorem cont_snoc (L : List Bl) (n b : ByteArray) (h : ∀ x ∈ L, x.1 ≠ n) : cont (L ++ [(n, b)]) = putF (cont L) n b := by
  induction L with
  | nil => rw [List.nil_append, cont_cons]
  | cons x L ih =>
    rw [List.cons_append, cont_cons, cont_cons, ih (fun y hy => h y (List.mem_cons_of_mem _ hy))]
    funext k
    unfold putF
    have hx := h x List.mem_cons_self
    by_cases hk : k = ky x.1
    · rw [if_pos hk, if_neg (fun e => hx (ky_inj (hk.symm.trans e))), if_pos hk]
    · rw [if_neg hk]
      by_cases hn : k = ky n
      · rw [if_pos hn, if_pos hn]
      · rw [if_neg hn, if_neg hn, if_neg hk]
theorem mem_without {L : List Bl} {n : ByteArray} {x : Bl} (h : x ∈ withoutL L n) : x.1 ≠ n := by
  unfold withoutL at h
  rw [List.mem_filter] at h
  exact of_decide_eq_true h.2
theorem cont_step (L : List Bl) (c : Cal) : cont (stepL L c) = stepF (cont L) c := by
  unfold stepL stepF
  split
  · rw [cont_snoc _ _ _ (fun x hx => mem_without hx), cont_without]
    funext k
    unfold putF delF
    split <;> rfl
  · split
    · exact cont_without _ _
    · rfl
theorem cont_rep (L : List Bl) (tr : List Cal) : cont (repL L tr) = rep (cont L) tr := by
  induction tr generalizing L with
  | nil => rfl
  | cons c tr ih =>
    unfold repL rep at ih ⊢
    rw [List.foldl_cons, List.foldl_cons, ih, cont_step]
theorem nd_without {L : List Bl} (h : ND L) (n : ByteArray) : ND (withoutL L n) := by
  unfold ND withoutL at *
  exact List.Sublist.nodup (List.filter_sublist.map _) h
theorem nd_snoc {L : List Bl} (h : ND L) {n b : ByteArray} (hn : ∀ x ∈ L, x.1 ≠ n) : ND (L ++ [(n, b)]) := by
  unfold ND at *
  rw [List.map_append, List.nodup_append]
  refine ⟨h, by simp, fun a ha b hb => ?_⟩
  obtain ⟨x, hx, rfl⟩ := List.mem_map.1 ha
  simp at hb
  subst hb
  exact hn x hx
theorem nd_step {L : List Bl} (h : ND L) (c : Cal) : ND (stepL L c) := by
  unfold stepL
  split
  · exact nd_snoc (nd_without h _) (fun x hx => mem_without hx)
  · split
    · exact nd_without h _
    · exact h
theorem nd_rep {L : List Bl} (h : ND L) (tr : List Cal) : ND (repL L tr) := by
  induction tr generalizing L with
  | nil => exact h
  | cons c tr ih => exact ih (nd_step h c)
theorem rep_snoc (f : Sto) (tr : List Cal) (c : Cal) : rep f (tr ++ [c]) = stepF (rep f tr) c := by simp [rep, List.foldl_append]
theorem repL_snoc (L : List Bl) (tr : List Cal) (c : Cal) : repL L (tr ++ [c]) = stepL (repL L tr) c := by simp [repL, List.foldl_append]
/-- a world holds what its trace tells -/
theorem told_end {S T : Wst} {f0 : Sto} {c : Cal} (h : S.f = rep f0 S.tr) (h1 : T.tr = S.tr) (h2 : T.f = stepF S.f c) : (endS T c).f = rep f0 (endS T c).tr := by
  unfold endS
  obtain ⟨a, _, _, _, b⟩ := useS_tr (logS T c)
  rw [a, b]
  show T.f = rep f0 (T.tr ++ [c])
  rw [rep_snoc, h1, ← h, h2]
theorem told_use {S : Wst} {f0 : Sto} (h : S.f = rep f0 S.tr) : (useS S).f = rep f0 (useS S).tr := by
  obtain ⟨a, _, _, _, b⟩ := useS_tr S
  rw [a, b]
  exact h
theorem told_do {S : Wst} {f0 : Sto} (h : S.f = rep f0 S.tr) (o : Ops) : (doS S o).f = rep f0 (doS S o).tr := by
  unfold doS
  split
  · unfold getS; split
    · exact told_end h rfl rfl
    · exact h
  split
  · unfold putS; split
    · exact told_end h rfl rfl
    · exact h
  split
  · unfold delS; split
    · exact told_end h rfl rfl
    · exact h
  split
  · unfold listS; split
    · exact h
    · exact told_end h rfl rfl
  split
  · unfold loadS; split
    · exact h
    · exact told_use h
  split
  · unfold pendS; split
    · exact h
    · split
      · exact told_use (S := { S with pen := o.name }) h
      · exact h
  split
  · unfold commitS; split
    · exact h
    · refine told_use (S := comS S) ?_
      unfold comS; split
      · exact h
      · exact h
  split
  · unfold forgetS; split
    · exact h
    · exact told_use (S := { S with pen := { data := #[] } }) h
  split
  · unfold stopS; split
    · exact h
    · exact told_use (S := { S with stp := true }) h
  split
  · unfold armSS; split
    · exact h
    · exact h
  split
  · exact h
  · exact h
/-- how many calls a step adds -/
theorem calls_do (S : Wst) (o : Ops) : S.tr.length ≤ (doS S o).tr.length ∧ (doS S o).tr.length ≤ S.tr.length + 1 ∧ (S.off = true → (doS S o).tr.length = S.tr.length) := by
  have he : ∀ (T : Wst) c, T.tr = S.tr → (endS T c).tr.length = S.tr.length + 1 := fun T c h => by
    unfold endS
    rw [(useS_tr _).1]
    simp [logS, h]
  have hu : ∀ T : Wst, T.tr = S.tr → (useS T).tr.length = S.tr.length := fun T h => by rw [(useS_tr _).1, h]
  have ht : ∀ T : Wst, T.tr.length = S.tr.length → S.tr.length ≤ T.tr.length ∧ T.tr.length ≤ S.tr.length + 1 ∧ (S.off = true → T.tr.length = S.tr.length) := fun T h => ⟨by omega, by omega, fun _ => h⟩
  have hc : ∀ T : Wst, S.off = false → T.tr.length = S.tr.length + 1 → S.tr.length ≤ T.tr.length ∧ T.tr.length ≤ S.tr.length + 1 ∧ (S.off = true → T.tr.length = S.tr.length) := fun T h h2 => ⟨by omega, by omega, fun h3 => by rw [h] at h3; cases h3⟩
  have hr1 : ∀ n, getR S n = 0 → S.off = false := fun n h => by
    cases ho : S.off with
    | true => unfold getR at h; rw [refE_off ho] at h; cases h
    | false => rfl
  have hr2 : ∀ n b, putE S n b = 0 → S.off = false := fun n b h => by
    cases ho : S.off with
    | true => unfold putE at h; rw [refE_off ho] at h; cases h
    | false => rfl
  unfold doS
  split
  · unfold getS; split
    · rename_i h; exact hc _ (hr1 _ h) (he _ _ rfl)
    · exact ht _ rfl
  split
  · unfold putS; split
    · rename_i h; exact hc _ (hr2 _ _ h) (he _ _ rfl)
    · exact ht _ rfl
  split
  · unfold delS; split
    · rename_i h; exact hc _ (hr1 _ h) (he _ _ rfl)
    · exact ht _ rfl
  split
  · unfold listS; split
    · exact ht _ rfl
    · rename_i h; exact hc _ (by simpa using h) (he _ _ rfl)
  split
  · unfold loadS; split
    · exact ht _ rfl
    · exact ht _ (hu _ rfl)
  split
  · unfold pendS; split
    · exact ht _ rfl
    · split
      · exact ht _ (hu _ rfl)
      · exact ht _ rfl
  split
  · unfold commitS; split
    · exact ht _ rfl
    · refine ht _ (hu _ ?_)
      unfold comS; split <;> rfl
  split
  · unfold forgetS; split
    · exact ht _ rfl
    · exact ht _ (hu _ rfl)
  split
  · unfold stopS; split
    · exact ht _ rfl
    · exact ht _ (hu _ rfl)
  split
  · unfold armSS; split
    · exact ht _ rfl
    · exact ht _ rfl
  split
  · exact ht _ rfl
  · exact ht _ rfl
/-- the place of a name -/
def fidx (L : List Bl) (n : ByteArray) : Option Nat := L.findIdx? (fun x => decide (x.1 = n))
theorem fidx_some {L : List Bl} {n b : ByteArray} (h : cont L (ky n) = some b) : ∃ j, fidx L n = some j ∧ L[j]? = some (n, b) := by
  induction L with
  | nil => cases h
  | cons x L ih =>
    rw [cont_cons] at h
    unfold fidx
    rw [List.findIdx?_cons]
    by_cases hx : x.1 = n
    · refine ⟨0, by simp [hx], ?_⟩
      unfold putF at h
      rw [if_pos (by rw [hx])] at h
      obtain ⟨x1, x2⟩ := x
      simp at hx h
      simp [hx, h]
    · unfold putF at h
      rw [if_neg (fun e => hx (ky_inj e).symm)] at h
      obtain ⟨j, h1, h2⟩ := ih h
      unfold fidx at h1
      refine ⟨j + 1, by simp [hx, h1], by simpa using h2⟩
theorem len_eq {ks : List (List UInt8)} {f : Sto} {L : List Bl} (hR : Rises ks f) (hN : ND L) (hc : cont L = f) : ks.length = L.length := by
  have hp : (L.map fun x => ky x.1).Perm ks := by
    refine (List.perm_ext_iff_of_nodup ?_ hR.2.1).2 fun k => ?_
    · unfold ND List.Nodup at hN
      unfold List.Nodup
      rw [List.pairwise_map] at hN ⊢
      exact hN.imp (fun h e => h (ky_inj e))
    · rw [hR.2.2 k, ← hc]
      unfold cont
      rw [Option.isSome_map, List.find?_isSome]
      simp
  have := hp.length_eq
  simpa using this.symm

end Go.Proofs.Ytdgokfehgjkalaa.Wd
