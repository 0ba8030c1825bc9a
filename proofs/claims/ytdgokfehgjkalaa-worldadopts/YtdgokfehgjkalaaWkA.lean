import Derived.Test.YtdgokfehgjkalaaWtE
namespace Go.Proofs.Ytdgokfehgjkalaa.Wd
open Go.RowKit Go.Lib Go.Deep

/-- names that may be -/
def KOK (f : Sto) : Prop := ∀ k, (f k).isSome = true → nameOK (str k) = true
theorem kok_put {f : Sto} (h : KOK f) {n b : ByteArray} (hn : nameOK n = true) : KOK (putF f n b) := fun k hk => by
  unfold putF at hk
  split at hk
  · rename_i e
    rw [e]
    unfold ky
    rw [str_of]
    exact hn
  · exact h k hk
theorem kok_del {f : Sto} (h : KOK f) (n : ByteArray) : KOK (delF f n) := fun k hk => by
  unfold delF at hk
  split at hk
  · cases hk
  · exact h k hk
theorem kok_eq {S T : Wst} (h : KOK S.f) (e : T.f = S.f) : KOK T.f := by rw [e]; exact h
theorem put_name {S : Wst} {n b : ByteArray} (h : putE S n b = 0) : nameOK n = true := by
  unfold putE at h
  cases hoff : S.off with
  | true => rw [refE_off hoff] at h; cases h
  | false =>
    rw [refE_on2 hoff] at h
    unfold nameE at h
    cases hn : nameOK n with
    | true => rfl
    | false => rw [hn] at h; cases h
theorem kok_do {S : Wst} (h : KOK S.f) (o : Ops) : KOK (doS S o).f := by
  have hu : ∀ T : Wst, KOK T.f → KOK (useS T).f := fun T hT => by rw [(useS_tr T).2.2.2.2]; exact hT
  unfold doS
  split
  · unfold getS; split
    · exact hu _ h
    · exact h
  split
  · unfold putS; split
    · rename_i hp; exact hu _ (kok_put h (put_name hp))
    · exact h
  split
  · unfold delS; split
    · exact hu _ (kok_del h _)
    · exact h
  split
  · unfold listS; split
    · exact h
    · exact hu _ h
  split
  · unfold loadS; split
    · exact h
    · exact hu _ h
  split
  · unfold pendS; split
    · exact h
    · split
      · exact hu _ h
      · exact h
  split
  · unfold commitS; split
    · exact h
    · refine hu _ ?_
      unfold comS; split
      · exact h
      · exact h
  split
  · unfold forgetS; split
    · exact h
    · exact hu _ h
  split
  · unfold stopS; split
    · exact h
    · exact hu _ h
  split
  · unfold armSS; split
    · exact h
    · exact h
  split
  · exact h
  · exact h
theorem kok_cont {bs : List Bl} (h : ∀ x ∈ bs, nameOK x.1 = true) : KOK (cont bs) := fun k hk => by
  obtain ⟨x, hx, e⟩ := cont_mem (L := bs) (n := str k) (by rw [ky_str]; exact hk)
  rw [← e]
  exact h x hx

theorem bnd_list {S : Wst} {B N : Nat} (h : Bnd S B N) : Bnd (listS S) (B + 1) (N + 1) := by
  have := doS_bnd h ⟨7, 0, .empty, .empty, 0, 0, 0, 0, .empty, .empty, 0, none, 0, 0, .empty, .empty, false⟩
  simpa [doS] using this
theorem bnd_get {S : Wst} {B N : Nat} {n : ByteArray} (h : Bnd S B N) : Bnd (getS S n) (B + 1) (N + 1) := by
  have := doS_bnd h ⟨4, 0, n, .empty, 0, 0, 0, 0, .empty, .empty, 0, none, 0, 0, .empty, .empty, false⟩
  simpa [doS] using this
theorem get_stays {S : Wst} {n : ByteArray} (h1 : S.off = false) (h2 : S.left = 0) (h3 : getR S n = 0) : (getS S n).f = S.f ∧ (getS S n).off = false ∧ (getS S n).left = 0 := by
  have e : getS S n = endS (begS S) ⟨1, n, { data := #[] }, codeF S.f n, objB S.f n, []⟩ := if_pos h3
  rw [e]
  unfold endS
  refine ⟨(useS_tr _).2.2.2.2, ?_, ?_⟩
  · rw [useS_off (logS (begS S) _) h1]
    show decide (S.left = 1) = false
    rw [h2]
    rfl
  · rw [useS_left]
    show S.left - 1 = 0
    omega

end Go.Proofs.Ytdgokfehgjkalaa.Wd
