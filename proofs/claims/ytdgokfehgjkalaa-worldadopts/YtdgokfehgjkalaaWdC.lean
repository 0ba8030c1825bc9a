import Derived.Test.YtdgokfehgjkalaaWdB
namespace Go.Proofs.Ytdgokfehgjkalaa.Wd
open Go.RowKit Go.Lib Go.Deep

theorem Top.keep {w w' : World} {pb q : Nat} {F : List Nat} {S S' : Wst} (h : Top w pb q) (hs : St w q F S) (ht : Turn F w w' q S') : Top w' pb q := (ht.1.block pb (heap_lt h) (hs.notin h (by decide))).trans h
theorem Top.below {w w' : World} {pb q : Nat} (h : Top w pb q) (hb : Below w.heap.size w w') : Top w' pb q := (hb.block pb (heap_lt h)).trans h
theorem Top.cell {w : World} {pb q : Nat} (h : Top w pb q) : w.cell? ⟨pb, 0, none⟩ = some (.pointer (some ⟨q, 0, none⟩)) := (cell_of_heap h).trans rfl
/-- what can be seen of a state -/
structure See (w : World) (q : Nat) (S : Wst) : Prop where
  c2 : w.cell? ⟨q, 2, none⟩ = some (.string S.cur)
  c3 : w.cell? ⟨q, 3, none⟩ = some (.string S.pen)
  c4 : w.cell? ⟨q, 4, none⟩ = some (.bool S.stp)
  c5 : w.cell? ⟨q, 5, none⟩ = some (.bool S.off)
  c6 : w.cell? ⟨q, 6, none⟩ = some (.int .i64 (S.left : Int))
  fr : ∀ i, w.frozen? ⟨q, i, none⟩ = false
theorem St.see {w : World} {q : Nat} {F : List Nat} {S : Wst} (h : St w q F S) : See w q S := by
  obtain ⟨m, pl, la, tv, av, uv, D, al, nv, hF, hI⟩ := h
  obtain ⟨_, _, c2, c3, c4, c5, c6, _⟩ := hI.cells
  exact ⟨c2, c3, c4, c5, c6, fun i => frozen_of_heap hI.hq⟩
theorem Turn.see {F : List Nat} {w w' : World} {q : Nat} {S : Wst} (h : Turn F w w' q S) : See w' q S := by
  obtain ⟨_, F', h2, _⟩ := h
  exact h2.see
theorem useS_cur (S : Wst) : (useS S).cur = S.cur := by unfold useS; split <;> rfl
theorem useS_pen (S : Wst) : (useS S).pen = S.pen := by unfold useS; split <;> rfl
theorem useS_stp (S : Wst) : (useS S).stp = S.stp := by unfold useS; split <;> rfl
def regV (S : Wst) : Value := .agg #[.string S.cur, .string S.pen, .bool S.stp]
def zreg : Value := .agg #[.string { data := #[] }, .string { data := #[] }, .bool false]
def loadS (S : Wst) : Wst := if S.off = true then S else useS S
def loadV (S : Wst) : Value := if S.off = true then zreg else regV S
def pendS (S : Wst) (t : ByteArray) : Wst := if S.off = true then S else if tagOK t = true then useS { S with pen := t } else S
def comS (S : Wst) : Wst := if S.pen.size = 0 then S else { S with cur := S.pen, pen := { data := #[] } }
def commitS (S : Wst) : Wst := if S.off = true then S else useS (comS S)
def forgetS (S : Wst) : Wst := if S.off = true then S else useS { S with pen := { data := #[] } }
def stopS (S : Wst) : Wst := if S.off = true then S else useS { S with stp := true }
def armSS (S : Wst) (k : Int) : Wst := if S.off = true then S else armS S k
def powS (S : Wst) : Wst := { S with off := false, left := 0 }

theorem put3 {W : World} {g : Nat} {t : TypeId} {x0 x1 x2 y0 y1 y2 : Value} (h : W.heap[g]? = some (.cells #[x0, x1, x2] t (0, 0))) : (((W.setCell ⟨g, 0, none⟩ y0).setCell ⟨g, 1, none⟩ y1).setCell ⟨g, 2, none⟩ y2).heap[g]? = some (.cells #[y0, y1, y2] t (0, 0)) :=
  heap_setCell_same _ _ 2 _ _ y2 (heap_setCell_same _ _ 1 _ _ y1 (heap_setCell_same _ _ 0 _ _ y0 h))
theorem below3 {B : Nat} {w W : World} {g : Nat} {y0 y1 y2 : Value} (h : Below B w W) (hg : B ≤ g) : Below B w (((W.setCell ⟨g, 0, none⟩ y0).setCell ⟨g, 1, none⟩ y1).setCell ⟨g, 2, none⟩ y2) := ((h.setCell hg _).setCell hg _).setCell hg _
theorem sizeReg : (Try.prog.info? 32).map (·.size) = some 3 := by kernel_rfl
theorem Turn.set3 {F : List Nat} {w w' : World} {q g : Nat} {S : Wst} (h : Turn F w w' q S) (hg : w.heap.size ≤ g) (hF : ∀ F', St w' q F' S → g ∉ F') (ty : ∀ (k : Nat), k = g → ∃ cur e, w'.heap[k]? = some (.cells cur e (0, 0)) ∧ e = 32) (y0 y1 y2 : Value) : Turn F w (((w'.setCell ⟨g, 0, none⟩ y0).setCell ⟨g, 1, none⟩ y1).setCell ⟨g, 2, none⟩ y2) q S := by
  obtain ⟨h1, F2, h2, h3⟩ := h
  obtain ⟨cur, e, hc, he⟩ := ty g rfl
  subst he
  have ho : Only [g] w' (((w'.setCell ⟨g, 0, none⟩ y0).setCell ⟨g, 1, none⟩ y1).setCell ⟨g, 2, none⟩ y2) := ((only_set _).trans (only_set _)).trans (only_set _)
  have hne : ∀ k, k < w'.heap.size → k ≠ g → (((w'.setCell ⟨g, 0, none⟩ y0).setCell ⟨g, 1, none⟩ y1).setCell ⟨g, 2, none⟩ y2).heap[k]? = w'.heap[k]? := fun k hk hn => ho.block k hk (by simpa using hn)
  refine ⟨⟨ho.os.trans h1.os, ho.tape.trans h1.tape, ho.output.trans h1.output, Nat.le_trans h1.size ho.size, fun k hk hS => (hne k (Nat.lt_of_lt_of_le hk h1.size) (by omega)).trans (h1.block k hk hS)⟩, F2, ?_, h3⟩
  have hgF := hF F2 h2
  obtain ⟨m, pl, la, tv, av, uv, D, al, nv, rfl, hI⟩ := h2
  refine ⟨m, pl, la, tv, av, uv, D, al, nv, rfl, hI.keep (fun k hk => hne k (hI.lt hk) (fun e => hgF (e ▸ hk))) (fun k cur2 hk => hne k (heap_lt hk) (fun e => ?_)) (fun k cur2 hk => hne k (heap_lt hk) (fun e => ?_))⟩
  · subst e; rw [hc] at hk; injection hk with hk; injection hk with _ hk _; cases hk
  · subst e; rw [hc] at hk; injection hk with hk; injection hk with _ hk _; cases hk
set_option maxRecDepth 10000 in
theorem load_any (w : World) (pb q : Nat) (F : List Nat) (S : Wst) (h : Top w pb q) (hs : St w q F S) : Calls Try.prog 17 #[.pointer (some ⟨pb, 0, none⟩)] w fun e w' => e = .returned (.tuple #[loadV S, .int .i64 (refE S [])]) ∧ Turn F w w' q (loadS S) := by
  obtain ⟨W0, hW0⟩ : ∃ W, w.alloc (.cells #[.string { data := #[] }, .string { data := #[] }, .bool false] 32) = W := ⟨_, rfl⟩
  have hb0 : Below w.heap.size w W0 := by rw [← hW0]; exact (Below.refl _ _).alloc (Nat.le_refl _) _
  have hs0 : w.heap.size < W0.heap.size := by rw [← hW0]; simp
  have hcl : W0.heap[w.heap.size]? = some (.cells #[.string { data := #[] }, .string { data := #[] }, .bool false] 32 (0, 0)) := by rw [← hW0]; exact heap_new _ _
  have h' := h.below hb0
  have hs' := hs.below hb0
  have hr := refusal0_any W0 pb q F S h' hs'
  have c0 := h'.cell
  have hgF : w.heap.size ∉ F := fun e => Nat.lt_irrefl _ (hs.lt _ e)
  have fin : ∀ {w' : World} {S' : Wst} (y0 y1 y2 : Value), Turn F W0 w' q S' → Turn F w (((w'.setCell ⟨w.heap.size, 0, none⟩ y0).setCell ⟨w.heap.size, 1, none⟩ y1).setCell ⟨w.heap.size, 2, none⟩ y2) q S' ∧ (((w'.setCell ⟨w.heap.size, 0, none⟩ y0).setCell ⟨w.heap.size, 1, none⟩ y1).setCell ⟨w.heap.size, 2, none⟩ y2).heap[w.heap.size]? = some (.cells #[y0, y1, y2] 32 (0, 0)) := fun {w' S'} y0 y1 y2 ht => by
    have hk : w'.heap[w.heap.size]? = some (.cells #[.string { data := #[] }, .string { data := #[] }, .bool false] 32 (0, 0)) := (ht.1.block _ hs0 hgF).trans hcl
    refine ⟨Turn.set3 (Turn.ahead hb0 ht) (Nat.le_refl _) (fun F' hF' => hF'.notin hk (by decide)) (fun k e => ⟨_, _, e ▸ hk, rfl⟩) y0 y1 y2, put3 hk⟩
  have FIN : Hid _ := @fin
  have cel : ∀ {w' : World} {S' : Wst}, Turn F W0 w' q S' → (w'.cell? ⟨w.heap.size, 0, none⟩ = some (.string { data := #[] }) ∧ w'.cell? ⟨w.heap.size, 1, none⟩ = some (.string { data := #[] }) ∧ w'.cell? ⟨w.heap.size, 2, none⟩ = some (.bool false)) ∧ ∀ i, w'.frozen? ⟨w.heap.size, i, none⟩ = false := fun {w' S'} ht => by
    have hk : w'.heap[w.heap.size]? = some (.cells #[.string { data := #[] }, .string { data := #[] }, .bool false] 32 (0, 0)) := (ht.1.block _ hs0 hgF).trans hcl
    exact ⟨⟨(cell_of_heap hk).trans rfl, (cell_of_heap hk).trans rfl, (cell_of_heap hk).trans rfl⟩, fun i => frozen_of_heap hk⟩
  have CEL : Hid _ := @cel
  cases hoff : S.off with
  | true =>
    rw [refE_off hoff] at hr ⊢
    have e1 : loadV S = zreg := if_pos hoff
    have e2 : loadS S = S := if_pos hoff
    rw [e1, e2]
    have HT : Turn F W0 W0 q S := hs'.turn (Below.refl _ _)
    obtain ⟨⟨y0, y1, y2⟩, hfr⟩ := CEL.out HT
    have f0 := hfr 0
    have f1 := hfr 1
    have f2 := hfr 2
    have XX : Hid _ := FIN.out (.string { data := #[] }) (.string { data := #[] }) (.bool false) HT
    unfold zreg
    clear e1 e2 hoff hs h hs' h' HT hfr hcl fin cel
    go_enter Try.func17, Try.ntmps17
    go_wp2_with fail
    try rw [hW0]
    refine hr.mono ?_
    rintro e w' ⟨rfl, rfl⟩
    go_wp2
    refine bodyPost_ret (Kr.results_cell_tmp rfl _ _ w.heap.size 32 _ (0, 0) _ rfl XX.out.2 Try.underlying32 rfl sizeReg) rfl ?_
    exact ⟨rfl, XX.out.1⟩
  | false =>
    rw [refE_on0 hoff] at hr ⊢
    have e1 : loadV S = regV S := if_neg (by rw [hoff]; decide)
    have e2 : loadS S = useS S := if_neg (by rw [hoff]; decide)
    rw [e1, e2]
    have hu := use_any W0 q F S hs'
    have HK : Hid (∀ w', Turn F W0 w' q (useS S) → w'.cell? ⟨pb, 0, none⟩ = some (.pointer (some ⟨q, 0, none⟩)) ∧ w'.cell? ⟨q, 2, none⟩ = some (.string S.cur) ∧ w'.cell? ⟨q, 3, none⟩ = some (.string S.pen) ∧ w'.cell? ⟨q, 4, none⟩ = some (.bool S.stp)) := fun w' ht => by
      have hs' := ht.see
      exact ⟨(h'.keep (hs.below hb0) ht).cell, by rw [hs'.c2, useS_cur], by rw [hs'.c3, useS_pen], by rw [hs'.c4, useS_stp]⟩
    unfold regV
    clear e1 e2 hoff hs h hs' h' hcl fin cel
    go_enter Try.func17, Try.ntmps17
    go_wp2_with fail
    try rw [hW0]
    refine hr.mono ?_
    rintro e w' ⟨rfl, rfl⟩
    go_wp2_with fail
    refine hu.mono ?_
    rintro e w2 ⟨rfl, hT⟩
    obtain ⟨d0, d2, d3, d4⟩ := HK.out _ hT
    obtain ⟨⟨y0, y1, y2⟩, hfr⟩ := CEL.out hT
    have f0 := hfr 0
    have f1 := hfr 1
    have f2 := hfr 2
    have XX : Hid _ := FIN.out (.string S.cur) (.string S.pen) (.bool S.stp) hT
    clear hT c0 hfr
    go_wp2
    refine bodyPost_ret (Kr.results_cell_tmp rfl _ _ w.heap.size 32 _ (0, 0) _ rfl XX.out.2 Try.underlying32 rfl sizeReg) rfl ?_
    exact ⟨rfl, XX.out.1⟩

set_option maxRecDepth 10000 in
theorem forget_any (w : World) (pb q : Nat) (F : List Nat) (S : Wst) (h : Top w pb q) (hs : St w q F S) : Calls Try.prog 38 #[.pointer (some ⟨pb, 0, none⟩)] w fun e w' => e = .returned (.int .i64 (refE S [])) ∧ Turn F w w' q (forgetS S) := by
  have hr := refusal0_any w pb q F S h hs
  have c0 := h.cell
  cases hoff : S.off with
  | true =>
    rw [refE_off hoff] at hr ⊢
    have e2 : forgetS S = S := if_pos hoff
    rw [e2]
    have HT : Hid (Turn F w w q S) := hs.turn (Below.refl _ _)
    clear e2 hoff hs h
    go_enter Try.func38, Try.ntmps38
    go_wp2_with fail
    refine hr.mono ?_
    rintro e w' ⟨rfl, rfl⟩
    go_wp2
    go_ret
    exact ⟨rfl, HT.out⟩
  | false =>
    rw [refE_on0 hoff] at hr ⊢
    have e2 : forgetS S = useS { S with pen := { data := #[] } } := if_neg (by rw [hoff]; decide)
    rw [e2]
    obtain ⟨W1, hW1⟩ : ∃ W, w.setCell ⟨q, 3, none⟩ (.string { data := #[] }) = W := ⟨_, rfl⟩
    have ht1 : Turn F w W1 q { S with pen := { data := #[] } } := by
      rw [← hW1]
      refine hs.self (fun m la tv av uv pl hq => ?_) (only_set _) rfl rfl rfl rfl rfl (id (by obtain ⟨m, pl, la, tv, av, uv, D, al, nv, hF, hI⟩ := hs; exact hI.hle))
      rw [put12 3 _ hq]
      rfl
    have d0 := (h.keep hs ht1).cell
    obtain ⟨o1, F1, s1, k1⟩ := ht1
    have hu := use_any W1 q F1 _ s1
    have HT : Hid (∀ w', Turn F1 W1 w' q (useS { S with pen := { data := #[] } }) → Turn F w w' q (useS { S with pen := { data := #[] } })) := fun w' ht => turn_trans o1 k1 ht
    have c3 := hs.see.c3
    have f3 := hs.see.fr 3
    clear e2 hoff hs h o1 s1 k1
    go_enter Try.func38, Try.ntmps38
    go_wp2_with fail
    refine hr.mono ?_
    rintro e w' ⟨rfl, rfl⟩
    go_wp2_with fail
    refine hu.mono ?_
    rintro e w2 ⟨rfl, hT⟩
    have HT2 : Hid _ := hT
    clear hT c0
    go_wp2
    go_ret
    exact ⟨rfl, HT.out _ HT2.out⟩

set_option maxRecDepth 10000 in
theorem stop_any (w : World) (pb q : Nat) (F : List Nat) (S : Wst) (h : Top w pb q) (hs : St w q F S) : Calls Try.prog 39 #[.pointer (some ⟨pb, 0, none⟩)] w fun e w' => e = .returned (.int .i64 (refE S [])) ∧ Turn F w w' q (stopS S) := by
  have hr := refusal0_any w pb q F S h hs
  have c0 := h.cell
  cases hoff : S.off with
  | true =>
    rw [refE_off hoff] at hr ⊢
    have e2 : stopS S = S := if_pos hoff
    rw [e2]
    have HT : Hid (Turn F w w q S) := hs.turn (Below.refl _ _)
    clear e2 hoff hs h
    go_enter Try.func39, Try.ntmps39
    go_wp2_with fail
    refine hr.mono ?_
    rintro e w' ⟨rfl, rfl⟩
    go_wp2
    go_ret
    exact ⟨rfl, HT.out⟩
  | false =>
    rw [refE_on0 hoff] at hr ⊢
    have e2 : stopS S = useS { S with stp := true } := if_neg (by rw [hoff]; decide)
    rw [e2]
    obtain ⟨W1, hW1⟩ : ∃ W, w.setCell ⟨q, 4, none⟩ (.bool true) = W := ⟨_, rfl⟩
    have ht1 : Turn F w W1 q { S with stp := true } := by
      rw [← hW1]
      refine hs.self (fun m la tv av uv pl hq => ?_) (only_set _) rfl rfl rfl rfl rfl (id (by obtain ⟨m, pl, la, tv, av, uv, D, al, nv, hF, hI⟩ := hs; exact hI.hle))
      rw [put12 4 _ hq]
      rfl
    have d0 := (h.keep hs ht1).cell
    obtain ⟨o1, F1, s1, k1⟩ := ht1
    have hu := use_any W1 q F1 _ s1
    have HT : Hid (∀ w', Turn F1 W1 w' q (useS { S with stp := true }) → Turn F w w' q (useS { S with stp := true })) := fun w' ht => turn_trans o1 k1 ht
    have c4 := hs.see.c4
    have f4 := hs.see.fr 4
    clear e2 hoff hs h o1 s1 k1
    go_enter Try.func39, Try.ntmps39
    go_wp2_with fail
    refine hr.mono ?_
    rintro e w' ⟨rfl, rfl⟩
    go_wp2_with fail
    refine hu.mono ?_
    rintro e w2 ⟨rfl, hT⟩
    have HT2 : Hid _ := hT
    clear hT c0
    go_wp2
    go_ret
    exact ⟨rfl, HT.out _ HT2.out⟩


end Go.Proofs.Ytdgokfehgjkalaa.Wd
