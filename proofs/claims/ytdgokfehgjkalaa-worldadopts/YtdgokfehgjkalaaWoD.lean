import Derived.Test.YtdgokfehgjkalaaWoC
namespace Go.Proofs.Ytdgokfehgjkalaa.Wd
open Go.RowKit Go.Lib Go.Deep

/-- a world that was made since w -/
structure Lv (w wr : World) (pb q : Nat) (F : List Nat) (S : Wst) : Prop where
  top : Top wr pb q
  st : St wr q F S
  fr : ∀ k, k ∈ F → w.heap.size ≤ k
  pb : w.heap.size ≤ pb
  be : Below w.heap.size w wr
theorem Lv.turn {w wr W : World} {pb q : Nat} {F : List Nat} {S S' : Wst} (h : Lv w wr pb q F S) (hT : Turn F wr W q S') : ∃ F', Lv w W pb q F' S' := by
  obtain ⟨o1, F2, s2, k2⟩ := id hT
  refine ⟨F2, h.top.keep h.st hT, s2, fun k hk => ?_, h.pb, o1.os.trans h.be.os, o1.tape.trans h.be.tape, o1.output.trans h.be.output, Nat.le_trans h.be.size o1.size, fun k hk => ?_⟩
  · rcases k2 k hk with h' | h'
    · exact h.fr k h'
    · exact Nat.le_trans h.be.size h'
  · exact (o1.block k (Nat.lt_of_lt_of_le hk h.be.size) (fun e => by have := h.fr k e; omega)).trans (h.be.block k hk)
theorem Lv.below {w wr W : World} {pb q : Nat} {F : List Nat} {S : Wst} (h : Lv w wr pb q F S) (hb : Below wr.heap.size wr W) : Lv w W pb q F S := ⟨h.top.below hb, h.st.below hb, h.fr, h.pb, h.be.trans (hb.mono h.be.size)⟩
/-- what a script is -/
structure SeeO (w : World) (v : Value) (n : Nat) (ops : List Ops) : Prop where
  len : ops.length = n
  ex : ∃ a c, v = .slice a n c ∧ ∀ i o, ops[i]? = some o → ∃ g f, a = some ⟨g, f, none⟩ ∧ g < w.heap.size ∧ ∀ j u, (opC o)[j]? = some u → w.cell? ⟨g, f + i * 15 + j, none⟩ = some u
  le : ∀ (i : Nat) (o : Ops), ops[i]? = some o → o.n ≤ 9223372036854775807
theorem SeeO.below {w W : World} {v : Value} {n : Nat} {ops : List Ops} (h : SeeO w v n ops) (hb : Below w.heap.size w W) : SeeO W v n ops := by
  obtain ⟨a, c, rfl, h2⟩ := h.ex
  refine ⟨h.len, ⟨a, c, rfl, fun i x hx => ?_⟩, h.le⟩
  obtain ⟨g, o, e, hg, c1⟩ := h2 i x hx
  exact ⟨g, o, e, Nat.lt_of_lt_of_le hg hb.size, fun j u hu => (hb.cell (p := ⟨g, _, none⟩) hg).trans (c1 j u hu)⟩
theorem SeeO.at_ {w : World} {a : Option Addr} {n c : Nat} {ops : List Ops} (h : SeeO w (.slice a n c) n ops) {i : Nat} {o : Ops} (ho : ops[i]? = some o) : ∃ g f, a = some ⟨g, f, none⟩ ∧
    w.cell? ⟨g, f + i * 15, none⟩ = some (.int .i64 o.kind) ∧ w.cell? ⟨g, f + i * 15 + 1, none⟩ = some (.int .i64 o.at_) ∧ w.cell? ⟨g, f + i * 15 + 2, none⟩ = some (.string o.name) ∧ w.cell? ⟨g, f + i * 15 + 3, none⟩ = some (.string o.blob) ∧
    w.cell? ⟨g, f + i * 15 + 4, none⟩ = some (.int .i64 o.eb) ∧ w.cell? ⟨g, f + i * 15 + 5, none⟩ = some (.int .i64 o.ek) ∧ w.cell? ⟨g, f + i * 15 + 6, none⟩ = some (.int .i64 o.ep) ∧ w.cell? ⟨g, f + i * 15 + 7, none⟩ = some (.int .i64 o.ef) ∧
    w.cell? ⟨g, f + i * 15 + 8, none⟩ = some (.string o.en) ∧ w.cell? ⟨g, f + i * 15 + 9, none⟩ = some (.string o.el) ∧ w.cell? ⟨g, f + i * 15 + 10, none⟩ = some (.int .i64 o.n) ∧ w.cell? ⟨g, f + i * 15 + 11, none⟩ = some (.slice o.ba o.bn o.bc) ∧
    w.cell? ⟨g, f + i * 15 + 12, none⟩ = some (.string o.rc) ∧ w.cell? ⟨g, f + i * 15 + 13, none⟩ = some (.string o.rp) ∧ w.cell? ⟨g, f + i * 15 + 14, none⟩ = some (.bool o.rs) := by
  obtain ⟨a', c', e, h2⟩ := h.ex
  injection e with e _ _
  subst e
  obtain ⟨g, f, rfl, hg, hc⟩ := h2 i o ho
  exact ⟨g, f, rfl, hc 0 _ rfl, hc 1 _ rfl, hc 2 _ rfl, hc 3 _ rfl, hc 4 _ rfl, hc 5 _ rfl, hc 6 _ rfl, hc 7 _ rfl, hc 8 _ rfl, hc 9 _ rfl, hc 10 _ rfl, hc 11 _ rfl, hc 12 _ rfl, hc 13 _ rfl, hc 14 _ rfl⟩

/-! what a step comes to -/
theorem useS_tr (S : Wst) : (useS S).tr = S.tr ∧ (useS S).ah = S.ah ∧ (useS S).pu = S.pu ∧ (useS S).nn = S.nn ∧ (useS S).f = S.f := by unfold useS; split <;> exact ⟨rfl, rfl, rfl, rfl, rfl⟩
theorem useS_left (S : Wst) : (useS S).left = S.left - 1 := by
  unfold useS
  split
  · omega
  · rfl
theorem useS_off (S : Wst) (h : S.off = false) : (useS S).off = decide (S.left = 1) := by
  unfold useS
  split
  · rename_i h0; rw [h, h0]; rfl
  · rfl
theorem useS_bnd {S : Wst} {B N : Nat} (h : Bnd S B N) : Bnd (useS S) B N := by
  obtain ⟨a, b, c, d, _⟩ := useS_tr S
  exact ⟨by rw [a]; exact h.tr, by rw [b]; exact h.ah, by rw [c]; exact h.pu, by rw [d]; exact h.nn⟩
/-- is a call done? -/
def cntB (S : Wst) (o : Ops) : Bool :=
  if o.kind = 4 then decide (getR S o.name = 0) else if o.kind = 5 then decide (putE S o.name o.blob = 0) else if o.kind = 6 then decide (getR S o.name = 0) else if o.kind = 9 then tagOK o.name else true
theorem doS_off {S : Wst} {o : Ops} (h : S.off = true) (h1 : 4 ≤ o.kind) (h2 : o.kind ≤ 12) : doS S o = S := by
  have hk : o.kind = 4 ∨ o.kind = 5 ∨ o.kind = 6 ∨ o.kind = 7 ∨ o.kind = 8 ∨ o.kind = 9 ∨ o.kind = 10 ∨ o.kind = 11 ∨ o.kind = 12 := by omega
  unfold doS
  rcases hk with e | e | e | e | e | e | e | e | e <;> rw [e] <;> simp only [Int.reduceEq, if_true, if_false]
  · exact if_neg (by unfold getR; rw [refE_off h]; decide)
  · exact if_neg (by unfold putE; rw [refE_off h]; decide)
  · exact if_neg (by unfold getR; rw [refE_off h]; decide)
  · exact if_pos h
  · exact if_pos h
  · exact if_pos h
  · exact if_pos h
  · exact if_pos h
  · exact if_pos h
/-- what a step does to the power, with it on -/
theorem doS_on {S : Wst} {o : Ops} (h : S.off = false) (h1 : 4 ≤ o.kind) (h2 : o.kind ≤ 12) : (doS S o).left = (if cntB S o = true then S.left - 1 else S.left) ∧ (doS S o).off = (cntB S o && decide (S.left = 1)) ∧
    (o.kind ≤ 6 → (doS S o).tr.length = S.tr.length + (if cntB S o = true then 1 else 0)) := by
  have hk : o.kind = 4 ∨ o.kind = 5 ∨ o.kind = 6 ∨ o.kind = 7 ∨ o.kind = 8 ∨ o.kind = 9 ∨ o.kind = 10 ∨ o.kind = 11 ∨ o.kind = 12 := by omega
  have hno : ¬ (S.off = true) := by rw [h]; decide
  have us1 : ∀ T : Wst, T.left = S.left → (useS T).left = (if true = true then S.left - 1 else S.left) := fun T h2 => by rw [useS_left, h2]; rfl
  have us2 : ∀ T : Wst, T.off = false → T.left = S.left → (useS T).off = (true && decide (S.left = 1)) := fun T h1 h2 => by rw [useS_off T h1, h2]; simp
  unfold doS cntB
  rcases hk with e | e | e | e | e | e | e | e | e <;> rw [e] <;> simp only [Int.reduceEq, if_true, if_false]
  · by_cases hg : getR S o.name = 0
    · have e1 : getS S o.name = endS (begS S) ⟨1, o.name, { data := #[] }, codeF S.f o.name, objB S.f o.name, []⟩ := if_pos hg
      rw [e1, decide_eq_true hg]
      refine ⟨us1 _ ?_, us2 _ ?_ ?_, fun _ => ?_⟩
      · rfl
      · exact h
      · rfl
      unfold endS
      rw [(useS_tr _).1]
      simp [logS, begS]
    · have e1 : getS S o.name = S := if_neg hg
      rw [e1, decide_eq_false hg]
      exact ⟨rfl, h, fun _ => rfl⟩
  · by_cases hg : putE S o.name o.blob = 0
    · have e1 : putS S o.name o.blob = endS (cntS (layS (begS S) o.name o.blob)) ⟨2, o.name, o.blob, 0, { data := #[] }, []⟩ := if_pos hg
      rw [e1, decide_eq_true hg]
      refine ⟨us1 _ ?_, us2 _ ?_ ?_, fun _ => ?_⟩
      · rfl
      · exact h
      · rfl
      unfold endS
      rw [(useS_tr _).1]
      simp [logS, begS, cntS, layS]
    · have e1 : putS S o.name o.blob = S := if_neg hg
      rw [e1, decide_eq_false hg]
      exact ⟨rfl, h, fun _ => rfl⟩
  · by_cases hg : getR S o.name = 0
    · have e1 : delS S o.name = endS (dropS (begS S) o.name) ⟨3, o.name, { data := #[] }, codeF S.f o.name, { data := #[] }, []⟩ := if_pos hg
      rw [e1, decide_eq_true hg]
      refine ⟨us1 _ ?_, us2 _ ?_ ?_, fun _ => ?_⟩
      · rfl
      · exact h
      · rfl
      unfold endS
      rw [(useS_tr _).1]
      simp [logS, begS, dropS]
    · have e1 : delS S o.name = S := if_neg hg
      rw [e1, decide_eq_false hg]
      exact ⟨rfl, h, fun _ => rfl⟩
  · have e1 : listS S = _ := if_neg hno
    rw [e1]
    refine ⟨us1 _ ?_, us2 _ ?_ ?_, fun h => absurd h (by decide)⟩
    · rfl
    · exact h
    · rfl
  · have e1 : loadS S = _ := if_neg hno
    rw [e1]
    refine ⟨us1 _ ?_, us2 _ ?_ ?_, fun h => absurd h (by decide)⟩
    · rfl
    · exact h
    · rfl
  · have e1 : pendS S o.name = if tagOK o.name = true then useS { S with pen := o.name } else S := if_neg hno
    rw [e1]
    cases tagOK o.name
    · exact ⟨rfl, h, fun h => absurd h (by decide)⟩
    · refine ⟨us1 _ ?_, us2 _ ?_ ?_, fun h => absurd h (by decide)⟩
      · rfl
      · exact h
      · rfl
  · have e1 : commitS S = _ := if_neg hno
    rw [e1]
    have e2 : (comS S).off = false := by unfold comS; split <;> exact h
    exact ⟨us1 _ (comS_left S), us2 _ e2 (comS_left S), fun h => absurd h (by decide)⟩
  · have e1 : forgetS S = _ := if_neg hno
    rw [e1]
    refine ⟨us1 _ ?_, us2 _ ?_ ?_, fun h => absurd h (by decide)⟩
    · rfl
    · exact h
    · rfl
  · have e1 : stopS S = _ := if_neg hno
    rw [e1]
    refine ⟨us1 _ ?_, us2 _ ?_ ?_, fun h => absurd h (by decide)⟩
    · rfl
    · exact h
    · rfl
/-- how much a step adds -/
theorem doS_bnd {S : Wst} {B N : Nat} (h : Bnd S B N) (o : Ops) : Bnd (doS S o) (B + 1) (N + 1) := by
  have h' : Bnd S (B + 1) (N + 1) := h.mono (by omega) (by omega)
  have hl : ∀ (T : Wst) c, T.tr.length ≤ B → T.ah.length ≤ B + 1 → T.pu.length ≤ B + 1 → T.nn ≤ N + 1 → Bnd (endS T c) (B + 1) (N + 1) := fun T c h1 h2 h3 h4 => useS_bnd ⟨by simp [logS]; omega, h2, h3, h4⟩
  unfold doS
  split
  · unfold getS; split
    · exact hl _ _ h.tr (by simp [begS]; exact h.ah) h'.pu h'.nn
    · exact h'
  split
  · unfold putS; split
    · exact hl _ _ h.tr (by simp [cntS, layS, begS]; exact h.ah) (by simp [cntS, layS, begS]; exact h.pu) (by simp [cntS, layS, begS]; exact h.nn)
    · exact h'
  split
  · unfold delS; split
    · exact hl _ _ h.tr (by simp [dropS, begS]; exact h.ah) h'.pu h'.nn
    · exact h'
  split
  · unfold listS; split
    · exact h'
    · exact hl _ _ h.tr (by simp [begS]; exact h.ah) h'.pu h'.nn
  split
  · unfold loadS; split
    · exact h'
    · exact useS_bnd h'
  split
  · unfold pendS; split
    · exact h'
    · split
      · exact useS_bnd ⟨h'.tr, h'.ah, h'.pu, h'.nn⟩
      · exact h'
  split
  · unfold commitS; split
    · exact h'
    · refine useS_bnd ?_
      unfold comS; split
      · exact h'
      · exact ⟨h'.tr, h'.ah, h'.pu, h'.nn⟩
  split
  · unfold forgetS; split
    · exact h'
    · exact useS_bnd ⟨h'.tr, h'.ah, h'.pu, h'.nn⟩
  split
  · unfold stopS; split
    · exact h'
    · exact useS_bnd ⟨h'.tr, h'.ah, h'.pu, h'.nn⟩
  split
  · unfold armSS; split
    · exact h'
    · exact ⟨h'.tr, h'.ah, h'.pu, h'.nn⟩
  split
  · exact ⟨h'.tr, h'.ah, h'.pu, h'.nn⟩
  · exact h'

end Go.Proofs.Ytdgokfehgjkalaa.Wd
