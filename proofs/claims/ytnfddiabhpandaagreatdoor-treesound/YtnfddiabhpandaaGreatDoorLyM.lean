import Derived.Test.YtnfddiabhpandaaGreatDoorStM
import Derived.Test.YtnfddiabhpandaaGreatDoorFiM
namespace Go.Proofs.YtnfddiabhpandaaGreatDoor.Tr
open Go.RowKit Go.Lib Go.Deep

theorem Inn.blocks {w : World} {q : Nat} {dv fv : Value} {ld lf : Nat} {ms : Nat → Nat} {nn : Nat} {T : Ts} (h : Inn w q dv fv ld lf ms nn T) : (∀ g, dv.ownBlock = some g → g ≠ q) ∧ (∀ g, fv.ownBlock = some g → g ≠ q) ∧ (∀ g k, dv.ownBlock = some g → fv.ownBlock = some k → g ≠ k) ∧ ∀ (i : Nat) d, T.D[i]? = some (some d) → ms i ≠ q ∧ dv.ownBlock ≠ some (ms i) ∧ fv.ownBlock ≠ some (ms i) := by
  have ty : ∀ {k : Nat} {c c' : Array Value} {e e' : TypeId}, w.heap[k]? = some (.cells c e (0, 0)) → w.heap[k]? = some (.cells c' e' (0, 0)) → e = e' := fun h1 h2 => by
    rw [h1] at h2
    injection h2 with h2
    injection h2 with _ h2 _
  refine ⟨fun g hg e => ?_, fun g hg e => ?_, fun g k hg hk e => ?_, fun i d hd => ?_⟩
  · obtain ⟨c, hc⟩ := owns_block h.hd hg
    subst e
    exact absurd (ty hc h.hq) (by decide)
  · obtain ⟨c, hc⟩ := owns_block h.hf hg
    subst e
    exact absurd (ty hc h.hq) (by decide)
  · obtain ⟨c, hc⟩ := owns_block h.hd hg
    obtain ⟨c', hc'⟩ := owns_block h.hf hk
    subst e
    exact absurd (ty hc hc') (by decide)
  · obtain ⟨Dt, h2, _⟩ := h.hm i d hd
    obtain ⟨es, cl, h3⟩ := map_block h2
    refine ⟨fun e => ?_, fun e => ?_, fun e => ?_⟩
    · rw [e, h.hq] at h3; cases h3
    · obtain ⟨c, hc⟩ := owns_block h.hd e
      rw [hc] at h3; cases h3
    · obtain ⟨c, hc⟩ := owns_block h.hf e
      rw [hc] at h3; cases h3
/-- the files' rows have turned -/
theorem Inn.turnF {w W : World} {q : Nat} {dv fv fv' : Value} {ld lf lf' : Nat} {ms : Nat → Nat} {nn : Nat} {T : Ts} (h : Inn w q dv fv ld lf ms nn T) (F' : List (Option (Nat × ByteArray × Nat))) (ho : Only (q :: fv.ownBlock.toList) w W)
    (hq : W.heap[q]? = some (.cells (stA T dv fv' ld lf') 125 (0, 0))) (hf : W.ownsRow 0 176 4 fv' F'.length (rwsC (fRows F'))) (hl : ∀ i, i < lf' → ∃ d, F'[i]? = some (some d)) (hll : lf' ≤ F'.length) (hfl : F'.length ≤ T.fr) : Inn W q dv fv' ld lf' ms nn { T with F := F' } := by
  obtain ⟨b1, b2, b3, b4⟩ := h.blocks
  have ne : ∀ k, k < w.heap.size → k ≠ q → fv.ownBlock ≠ some k → W.heap[k]? = w.heap[k]? := fun k hk h1 h2 => ho.block k hk (by simp only [List.mem_cons, Option.mem_toList, not_or]; exact ⟨h1, h2⟩)
  refine ⟨hq, owns_keep h.hd fun g hg => ne g (h.hd.lt g hg).2 (b1 g hg) (fun e => b3 g g hg e rfl), hf, fun i d hd => ?_, h.hi, h.hld, hl, h.ldl, hll, h.dl, hfl, h.lim⟩
  obtain ⟨Dt, h2, h3⟩ := h.hm i d hd
  obtain ⟨c1, c2, c3⟩ := b4 i d hd
  exact ⟨Dt, map_keep h2 (ne _ h2.lt c1 c3), h3⟩
/-- the directories' rows have turned, their maps stay -/
theorem Inn.turnD {w W : World} {q : Nat} {dv dv' fv : Value} {ld ld' lf : Nat} {ms ms' : Nat → Nat} {nn : Nat} {T : Ts} (h : Inn w q dv fv ld lf ms nn T) (D' : List (Option (Nat × ByteArray))) (ho : Only (q :: dv.ownBlock.toList) w W)
    (hq : W.heap[q]? = some (.cells (stA T dv' fv ld' lf) 125 (0, 0))) (hd : W.ownsRow 0 172 4 dv' D'.length (rwsC (dRows D' ms'))) (hl : ∀ i, i < ld' → ∃ d, D'[i]? = some (some d)) (hll : ld' ≤ D'.length) (hdl : D'.length ≤ T.dr)
    (hm : ∀ (i : Nat) d, D'[i]? = some (some d) → (∃ e, T.D[i]? = some (some e) ∧ ms' i = ms i) ∨ (W.ownsMap Tryz.prog 9 nodeR (ms' i) 0 (.map []) ∧ T.M i = fun _ => none)) (hi : ∀ (i j : Nat) d e, D'[i]? = some (some d) → D'[j]? = some (some e) → ms' i = ms' j → i = j) : Inn W q dv' fv ld' lf ms' nn { T with D := D' } := by
  obtain ⟨b1, b2, b3, b4⟩ := h.blocks
  have ne : ∀ k, k < w.heap.size → k ≠ q → dv.ownBlock ≠ some k → W.heap[k]? = w.heap[k]? := fun k hk h1 h2 => ho.block k hk (by simp only [List.mem_cons, Option.mem_toList, not_or]; exact ⟨h1, h2⟩)
  refine ⟨hq, hd, owns_keep h.hf fun g hg => ne g (h.hf.lt g hg).2 (b2 g hg) (fun e => b3 g g e hg rfl), fun i d hd => ?_, hi, hl, h.hlf, hll, h.lfl, hdl, h.fl, h.lim⟩
  rcases hm i d hd with ⟨e, h1, h2⟩ | ⟨h1, h2⟩
  · obtain ⟨Dt, h3, h4⟩ := h.hm i e h1
    obtain ⟨c1, c2, c3⟩ := b4 i e h1
    rw [h2]
    exact ⟨Dt, map_keep h3 (ne _ h3.lt c1 c2), h4⟩
  · exact ⟨_, h1.mono (Nat.zero_le _), by show Tab _ (T.M i); rw [h2]; exact tab_nil⟩
theorem put4_only {w : World} {g o : Nat} {r : Rw} : Only [g] w (put4 w g o r) := ((only_set _).trans (only_set _)).trans ((only_set _).trans (only_set _))
theorem layL_set {α : Type} {l : List (Option α)} {x : Nat} {v : Option α} (h : x < l.length) : layL l x v = l.set x v := if_pos h
/-- a file's row is written over -/
theorem lay_setF {w W w0 : World} {q : Nat} {dv fv : Value} {ld lf g cap : Nat} {ms : Nat → Nat} {nn : Nat} {T : Ts} (h : Inn w q dv fv ld lf ms nn T) (hg : fv = .slice (some ⟨g, 0, none⟩) (fRows T.F).length cap) {i : Nat} (hi : i < T.F.length) (o : Nat × ByteArray × Nat) (hb : Below w.heap.size w w0) (hW : W = put4 w0 g (i * 4) (fRow (some o))) :
    Turn (fp q dv fv T.D ms) w W q nn (setF T i (some o)) := by
  have h0 := h.below hb
  subst hg
  obtain ⟨r1, r2⟩ := rows_put h0.hf' i (fRow (some o))
  rw [← hW] at r1 r2
  have hgq := h.blocks.2.1 g rfl
  have hoW : Only (q :: (Value.slice (some ⟨g, 0, none⟩) (fRows T.F).length cap).ownBlock.toList) w W := only_grown (only_below (Only.refl _ _) hb) r2 (fun k e => by
    injection e with e
    subst e
    exact .inl (by simp [Value.ownBlock]))
  have e1 : setF T i (some o) = { T with F := T.F.set i (some o) } := by unfold setF; rw [layL_set hi]
  have e2 : fRows (T.F.set i (some o)) = (fRows T.F).set i (fRow (some o)) := by unfold fRows; rw [List.map_set]
  rw [e1]
  refine ⟨hoW.mono (fun k hk => ?_), _, ⟨_, _, _, _, _, rfl, h.turnF (T.F.set i (some o)) hoW ?_ ?_ (fun j hj => ?_) (by simpa using h.lfl) (by simpa using h.fl)⟩, fun k hk => .inl hk⟩
  · simp only [List.mem_cons, Option.mem_toList] at hk
    exact mem_fp.2 (by rcases hk with h1 | h1
                       · exact .inl h1
                       · exact .inr (.inr (.inl h1)))
  · exact (r2.block q (Nat.lt_of_lt_of_le (heap_lt h.hq) hb.size) (fun e => hgq (by injection e with e; exact e.symm))).trans h0.hq
  · rw [e2, List.length_set, ← fRows_len]
    exact r1
  · obtain ⟨d, hd⟩ := h.hlf j hj
    rw [List.getElem?_set]
    by_cases hij : i = j
    · subst hij; rw [if_pos rfl, if_pos hi]; exact ⟨_, rfl⟩
    · rw [if_neg hij]; exact ⟨d, hd⟩

end Go.Proofs.YtnfddiabhpandaaGreatDoor.Tr

namespace Go.Proofs.YtnfddiabhpandaaGreatDoor.Tr
open Go.RowKit Go.Lib Go.Deep

theorem lowR_f (F : List (Option (Nat × ByteArray × Nat))) : lowR (fRows F) = lowL F := lowR_eq (fun i hi => by
    obtain ⟨d, hd⟩ := lowL_below F hi
    exact ⟨_, by rw [fRows_get, hd]; rfl, rfl⟩) (fun r hr => by
    rw [fRows_get] at hr
    cases hq : F[lowL F]? with
    | none => rw [hq] at hr; cases hr
    | some o =>
      cases o with
      | none => rw [hq] at hr; injection hr with hr; rw [← hr]; rfl
      | some d => exact absurd hq (lowL_free F d)) (by rw [fRows_len]; exact lowL_le F)
theorem lowR_d (D : List (Option (Nat × ByteArray))) (ms : Nat → Nat) : lowR (dRows D ms) = lowL D := lowR_eq (fun i hi => by
    obtain ⟨d, hd⟩ := lowL_below D hi
    exact ⟨_, by rw [dRows_get, hd]; rfl, rfl⟩) (fun r hr => by
    rw [dRows_get] at hr
    cases hq : D[lowL D]? with
    | none => rw [hq] at hr; cases hr
    | some o =>
      cases o with
      | none => rw [hq] at hr; injection hr with hr; rw [← hr]; rfl
      | some d => exact absurd hq (lowL_free D d)) (by rw [dRows_len]; exact lowL_le D)
theorem fpF {q : Nat} {dv fv : Value} {D : List (Option (Nat × ByteArray))} {ms : Nat → Nat} {k : Nat} (hk : k ∈ q :: fv.ownBlock.toList) : k ∈ fp q dv fv D ms := by
  simp only [List.mem_cons, Option.mem_toList] at hk
  rcases hk with h1 | h1
  · exact mem_fp.2 (.inl h1)
  · exact mem_fp.2 (.inr (.inr (.inl h1)))
theorem fpD {q : Nat} {dv fv : Value} {D : List (Option (Nat × ByteArray))} {ms : Nat → Nat} {k : Nat} (hk : k ∈ q :: dv.ownBlock.toList) : k ∈ fp q dv fv D ms := by
  simp only [List.mem_cons, Option.mem_toList] at hk
  rcases hk with h1 | h1
  · exact mem_fp.2 (.inl h1)
  · exact mem_fp.2 (.inr (.inl h1))
/-- a file's number is free -/
theorem lay_freeF {w W w0 : World} {q : Nat} {dv fv : Value} {ld lf g cap : Nat} {ms : Nat → Nat} {nn : Nat} {T : Ts} (h : Inn w q dv fv ld lf ms nn T) (hg : fv = .slice (some ⟨g, 0, none⟩) (fRows T.F).length cap) {i : Nat} (hi : i < T.F.length) (hb : Below w.heap.size w w0) (hW : W = (put4 w0 g (i * 4) (fRow none)).setCell ⟨q, 5, none⟩ (.int .i64 ((min lf i : Nat) : Int))) :
    Turn (fp q dv fv T.D ms) w W q nn (setF T i none) := by
  have h0 := h.below hb
  have hgv : fv.ownBlock = some g := by rw [hg]; rfl
  have hf2 := h0.hf'
  rw [hg] at hf2
  obtain ⟨r1, r2⟩ := rows_put hf2 i (fRow none)
  rw [← hg] at r1
  generalize hV : put4 w0 g (i * 4) (fRow none) = V at *
  have hgq := h.blocks.2.1 g hgv
  have hq1 := (r2.block q (Nat.lt_of_lt_of_le (heap_lt h.hq) hb.size) (fun e => hgq (by injection e with e; exact e.symm))).trans h0.hq
  have hoW : Only (q :: fv.ownBlock.toList) w W := by
    rw [hW, hgv]
    refine (only_grown (only_below (Only.refl _ _) hb) r2 (fun k e => ?_)).trans ((only_set _).mono (by intro k hk; simp at hk; simp [hk]))
    injection e with e
    subst e
    exact .inl (by simp)
  have e1 : setF T i none = { T with F := T.F.set i none } := by unfold setF; rw [layL_set hi]
  have e2 : fRows (T.F.set i none) = (fRows T.F).set i (fRow none) := by unfold fRows; rw [List.map_set]
  have k1 : W.heap[q]? = some (.cells (stA T dv fv ld (min lf i)) 125 (0, 0)) := by
    rw [hW]
    exact heap_setCell_same _ _ 5 _ _ _ hq1
  have k2 : W.ownsRow 0 176 4 fv (T.F.set i none).length (rwsC (fRows (T.F.set i none))) := by
    rw [e2, List.length_set, ← fRows_len, hW]
    exact owns_keep r1 fun k hk => heap_setCell_other _ _ _ _ (by rw [hgv] at hk; injection hk with hk; rw [← hk]; exact hgq)
  rw [e1]
  refine ⟨hoW.mono (fun k hk => fpF hk), fp q dv fv T.D ms, ⟨dv, fv, ld, min lf i, ms, rfl, h.turnF (fv' := fv) (lf' := min lf i) (T.F.set i none) hoW k1 k2 (fun j hj => ?_) (by have := h.lfl; simp; omega) (by simpa using h.fl)⟩, fun k hk => .inl hk⟩
  obtain ⟨d, hd⟩ := h.hlf j (by omega)
  rw [List.getElem?_set, if_neg (by omega)]
  exact ⟨d, hd⟩
/-- a directory's row is written over, its map stays -/
theorem lay_putD {w W w0 : World} {q : Nat} {dv fv : Value} {ld ld' lf g cap : Nat} {ms : Nat → Nat} {nn : Nat} {T : Ts} (h : Inn w q dv fv ld lf ms nn T) (hg : dv = .slice (some ⟨g, 0, none⟩) (dRows T.D ms).length cap) {i : Nat} {d : Nat × ByteArray} (hi : T.D[i]? = some (some d)) (o : Option (Nat × ByteArray)) (hb : Below w.heap.size w w0) (hlo : ld' ≤ ld) (hli : o = none → ld' ≤ i)
    (hW : W = (put4 w0 g (i * 4) (dRow o (ms i))).setCell ⟨q, 2, none⟩ (.int .i64 (ld' : Int)) ∨ (W = put4 w0 g (i * 4) (dRow o (ms i)) ∧ ld' = ld)) : Turn (fp q dv fv T.D ms) w W q nn (setD T i o) := by
  have h0 := h.below hb
  have hlt := some_lt hi
  have hgv : dv.ownBlock = some g := by rw [hg]; rfl
  have hd2 := h0.hd'
  rw [hg] at hd2
  obtain ⟨r1, r2⟩ := rows_put hd2 i (dRow o (ms i))
  rw [← hg] at r1
  generalize hV : put4 w0 g (i * 4) (dRow o (ms i)) = V at *
  have hgq := h.blocks.1 g hgv
  have hq1 := (r2.block q (Nat.lt_of_lt_of_le (heap_lt h.hq) hb.size) (fun e => hgq (by injection e with e; exact e.symm))).trans h0.hq
  have hoV : Only (q :: dv.ownBlock.toList) w V := by
    rw [hgv]
    refine only_grown (only_below (Only.refl _ _) hb) r2 (fun k e => ?_)
    injection e with e
    subst e
    exact .inl (by simp)
  have e2 : dRows (T.D.set i o) ms = (dRows T.D ms).set i (dRow o (ms i)) := by
    have := dRows_lay T.D ms i o (ms i) (Nat.le_of_lt hlt)
    rw [layL_set hlt] at this
    unfold layR at this
    rw [if_pos (by rw [dRows_len]; exact hlt)] at this
    rw [← this]
    congr 1
    funext j
    split
    · rename_i e; rw [e]
    · rfl
  have hall : Only (q :: dv.ownBlock.toList) w W ∧ W.heap[q]? = some (.cells (stA T dv fv ld' lf) 125 (0, 0)) ∧ W.ownsRow 0 172 4 dv (T.D.set i o).length (rwsC (dRows (T.D.set i o) ms)) := by
    rw [e2, List.length_set, ← dRows_len T.D ms]
    rcases hW with rfl | ⟨rfl, rfl⟩
    · refine ⟨hoV.trans ((only_set _).mono (by intro k hk; simp at hk; simp [hk])), heap_setCell_same _ _ 2 _ _ _ hq1, owns_keep r1 fun k hk => heap_setCell_other _ _ _ _ (by rw [hgv] at hk; injection hk with hk; rw [← hk]; exact hgq)⟩
    · exact ⟨hoV, hq1, r1⟩
  obtain ⟨hoW, k1, k2⟩ := hall
  have hsome : ∀ (j : Nat) e, (T.D.set i o)[j]? = some (some e) → ∃ e', T.D[j]? = some (some e') := fun j e hj => by
    rw [List.getElem?_set] at hj
    by_cases hij : i = j
    · subst hij; exact ⟨d, hi⟩
    · rw [if_neg hij] at hj; exact ⟨e, hj⟩
  have e1 : setD T i o = { T with D := T.D.set i o } := by unfold setD; rw [layL_set hlt]
  rw [e1]
  refine ⟨hoW.mono (fun k hk => fpD hk), fp q dv fv (T.D.set i o) ms, ⟨dv, fv, ld', lf, ms, rfl, h.turnD (dv' := dv) (ld' := ld') (ms' := ms) (T.D.set i o) hoW k1 k2 (fun j hj => ?_) (by have := h.ldl; simp; omega) (by simpa using h.dl) (fun j e hj => ?_) (fun j k e f hj hk => ?_)⟩, fun k hk => .inl ?_⟩
  · obtain ⟨e, he⟩ := h.hld j (by omega)
    rw [List.getElem?_set]
    by_cases hij : i = j
    · subst hij
      rw [if_pos rfl, if_pos hlt]
      cases o with
      | none => have := hli rfl; omega
      | some o => exact ⟨o, rfl⟩
    · rw [if_neg hij]; exact ⟨e, he⟩
  · obtain ⟨e', h1⟩ := hsome j e hj
    exact .inl ⟨e', h1, rfl⟩
  · obtain ⟨e', h1⟩ := hsome j e hj
    obtain ⟨f', h2⟩ := hsome k f hk
    exact h.hi j k e' f' h1 h2
  · rcases mem_fp.1 hk with h1 | h1 | h1 | ⟨j, e, h1, h2⟩
    · exact mem_fp.2 (.inl h1)
    · exact mem_fp.2 (.inr (.inl h1))
    · exact mem_fp.2 (.inr (.inr (.inl h1)))
    · obtain ⟨e', h3⟩ := hsome j e h1
      exact mem_fp.2 (.inr (.inr (.inr ⟨j, e', h3, h2⟩)))
/-- a file's number is given -/
theorem lay_giveF {w W : World} {q : Nat} {dv fv fv' : Value} {ld lf : Nat} {ms : Nat → Nat} {nn : Nat} {T : Ts} (h : Inn w q dv fv ld lf ms nn T) (hr : lowL T.F < T.fr) (o : Nat × ByteArray × Nat) (hC : Clm w W q ((stA T dv fv ld lf).setIfInBounds 5 (.int .i64 (lowL T.F : Int))) 4 fv 176 (layR (fRows T.F) (lowL T.F) (fRow (some o))) fv') :
    Turn (fp q dv fv T.D ms) w W q nn (setF T (lowL T.F) (some o)) := by
  have hle := lowL_le T.F
  have hg : ∀ j : Nat, (layL T.F (lowL T.F) (some o))[j]? = if j = lowL T.F then some (some o) else T.F[j]? := fun j => layL_get _ hle j
  have hR := hC.hr
  rw [← fRows_lay, fRows_len] at hR
  have hlen := layL_len (l := T.F) (x := lowL T.F) (some o)
  refine ⟨hC.ho.mono (fun k hk => fpF hk), _, ⟨dv, fv', ld, lowL T.F, ms, rfl, h.turnF (lf' := lowL T.F) (layL T.F (lowL T.F) (some o)) hC.ho hC.hq hR (fun j hj => ?_) ?_ ?_⟩, fun k hk => ?_⟩
  · rw [hg, if_neg (by omega)]
    exact lowL_below T.F hj
  · rw [hlen]; split <;> omega
  · rw [hlen]; have := h.fl; split <;> omega
  · rcases mem_fp.1 hk with h1 | h1 | h1 | h1
    · exact .inl (mem_fp.2 (.inl h1))
    · exact .inl (mem_fp.2 (.inr (.inl h1)))
    · rcases hC.hv k h1 with h2 | h2
      · exact .inl (mem_fp.2 (.inr (.inr (.inl h2))))
      · exact .inr h2
    · exact .inl (mem_fp.2 (.inr (.inr (.inr h1))))
/-- a directory's number is given -/
theorem lay_giveD {w0 w W : World} {q m : Nat} {dv dv' fv : Value} {ld lf : Nat} {ms : Nat → Nat} {nn : Nat} {T : Ts} (h0 : Inn w0 q dv fv ld lf ms nn T) (hb : Below w0.heap.size w0 w) (hm0 : w0.heap.size ≤ m) (hmm : w.ownsMap Tryz.prog 9 nodeR m 0 (.map [])) (hME : T.M (lowL T.D) = fun _ => none) (hr : lowL T.D < T.dr) (o : Nat × ByteArray) (hC : Clm w W q ((stA T dv fv ld lf).setIfInBounds 2 (.int .i64 (lowL T.D : Int))) 1 dv 172 (layR (dRows T.D ms) (lowL T.D) (dRow (some o) m)) dv') :
    Turn (fp q dv fv T.D ms) w0 W q nn (setD T (lowL T.D) (some o)) := by
  have h := h0.below hb
  have hle := lowL_le T.D
  have hfr := lowL_free T.D
  have hg : ∀ j : Nat, (layL T.D (lowL T.D) (some o))[j]? = if j = lowL T.D then some (some o) else T.D[j]? := fun j => layL_get _ hle j
  have hR := hC.hr
  rw [← dRows_lay T.D ms (lowL T.D) (some o) m hle, dRows_len] at hR
  have hlen := layL_len (l := T.D) (x := lowL T.D) (some o)
  have hnew : ∀ (i : Nat) d, T.D[i]? = some (some d) → ms i ≠ m := fun i d hd e => by
    have := h0.lt (mem_fp.2 (.inr (.inr (.inr ⟨i, d, hd, rfl⟩))))
    omega
  have hmW : W.heap[m]? = w.heap[m]? := by
    obtain ⟨es, cl, h3⟩ := map_block hmm
    refine hC.ho.block m hmm.lt (fun e => ?_)
    simp only [List.mem_cons, Option.mem_toList] at e
    rcases e with e | e
    · rw [e, h.hq] at h3; cases h3
    · obtain ⟨c, hc⟩ := owns_block h.hd e
      rw [hc] at h3; cases h3
  refine ⟨(only_below (Only.refl _ _) hb).trans (hC.ho.mono (fun k hk => fpD hk)), _, ⟨dv', fv, lowL T.D, lf, fun i => if i = lowL T.D then m else ms i, rfl, h.turnD (ld' := lowL T.D) (layL T.D (lowL T.D) (some o)) hC.ho hC.hq hR (fun j hj => ?_) ?_ ?_ (fun j d hj => ?_) (fun i j d e hi hj he => ?_)⟩, fun k hk => ?_⟩
  · rw [hg, if_neg (by omega)]
    exact lowL_below T.D hj
  · rw [hlen]; split <;> omega
  · rw [hlen]; have := h.dl; split <;> omega
  · rw [hg] at hj
    by_cases hjx : j = lowL T.D
    · right
      rw [if_pos hjx]
      exact ⟨map_keep hmm hmW, by rw [hjx]; exact hME⟩
    · left
      rw [if_neg hjx] at hj ⊢
      exact ⟨d, hj, rfl⟩
  · rw [hg] at hi hj
    by_cases hix : i = lowL T.D <;> by_cases hjx : j = lowL T.D
    · rw [hix, hjx]
    · rw [if_neg hjx] at hj
      simp only [if_pos hix, if_neg hjx] at he
      exact absurd he.symm (hnew j e hj)
    · rw [if_neg hix] at hi
      simp only [if_neg hix, if_pos hjx] at he
      exact absurd he (hnew i d hi)
    · rw [if_neg hix] at hi
      rw [if_neg hjx] at hj
      simp only [if_neg hix, if_neg hjx] at he
      exact h0.hi i j d e hi hj he
  · rcases mem_fp.1 hk with h1 | h1 | h1 | ⟨j, d, h1, h2⟩
    · exact .inl (mem_fp.2 (.inl h1))
    · rcases hC.hv k h1 with h2 | h2
      · exact .inl (mem_fp.2 (.inr (.inl h2)))
      · exact .inr (Nat.le_trans hb.size h2)
    · exact .inl (mem_fp.2 (.inr (.inr (.inl h1))))
    · have h1 : (layL T.D (lowL T.D) (some o))[j]? = some (some d) := h1
      rw [hg] at h1
      by_cases hjx : j = lowL T.D
      · rw [if_pos hjx] at h2
        exact .inr (by rw [h2]; exact hm0)
      · rw [if_neg hjx] at h1 h2
        exact .inl (mem_fp.2 (.inr (.inr (.inr ⟨j, d, h1, h2⟩))))
/-- no number was free -/
theorem lay_fullF {w W : World} {q : Nat} {dv fv : Value} {ld lf : Nat} {ms : Nat → Nat} {nn : Nat} {T : Ts} (h : Inn w q dv fv ld lf ms nn T) (ho : Only [q] w W) (hq : W.heap[q]? = some (.cells ((stA T dv fv ld lf).setIfInBounds 5 (.int .i64 (lowL T.F : Int))) 125 (0, 0))) : Turn (fp q dv fv T.D ms) w W q nn T := by
  have ho' : Only (q :: fv.ownBlock.toList) w W := ho.mono (by intro k hk; simp at hk; simp [hk])
  refine ⟨ho'.mono (fun k hk => fpF hk), _, ⟨dv, fv, ld, lowL T.F, ms, rfl, h.turnF (lf' := lowL T.F) T.F ho' hq (owns_keep h.hf fun g hg => ho.block g (h.hf.lt g hg).2 (by simp; exact h.blocks.2.1 g hg)) (fun j hj => lowL_below T.F hj) (lowL_le _) h.fl⟩, fun k hk => .inl hk⟩
theorem lay_fullD {w W : World} {q : Nat} {dv fv : Value} {ld lf : Nat} {ms : Nat → Nat} {nn : Nat} {T : Ts} (h : Inn w q dv fv ld lf ms nn T) (ho : Only [q] w W) (hq : W.heap[q]? = some (.cells ((stA T dv fv ld lf).setIfInBounds 2 (.int .i64 (lowL T.D : Int))) 125 (0, 0))) : Turn (fp q dv fv T.D ms) w W q nn T := by
  have ho' : Only (q :: dv.ownBlock.toList) w W := ho.mono (by intro k hk; simp at hk; simp [hk])
  refine ⟨ho'.mono (fun k hk => fpD hk), _, ⟨dv, fv, lowL T.D, lf, ms, rfl, h.turnD (ld' := lowL T.D) (ms' := ms) T.D ho' hq (owns_keep h.hd fun g hg => ho.block g (h.hd.lt g hg).2 (by simp; exact h.blocks.1 g hg)) (fun j hj => lowL_below T.D hj) (lowL_le _) h.dl (fun j d hj => .inl ⟨d, hj, rfl⟩) h.hi⟩, fun k hk => .inl hk⟩

end Go.Proofs.YtnfddiabhpandaaGreatDoor.Tr

namespace Go.Proofs.YtnfddiabhpandaaGreatDoor.Tr
open Go.RowKit Go.Lib Go.Deep

theorem freeF_any (w : World) (q : Nat) (F : List Nat) (nn : Nat) (T : Ts) (hL : Lay w q F nn T) (i : Nat) (o : Nat × ByteArray × Nat) (hi : T.F[i]? = some (some o)) :
    Calls Tryz.prog 146 #[.pointer (some ⟨q, 3, none⟩), .int .i64 (i : Int)] w fun e w' => e = .returned (.tuple #[]) ∧ Turn F w w' q nn (setF T i none) := by
  obtain ⟨dv, fv, ld, lf, ms, rfl, hI⟩ := hL
  obtain ⟨g, cap, hg⟩ := rows_form2 hI.hf' (i := i) (r := fRow (some o)) (by rw [fRows_get, hi]; rfl)
  have c1 := hI.cells.2.2.2.2.1
  have hf := hI.hf'
  rw [hg] at c1 hf
  have hlf := hI.lfl
  rw [← fRows_len] at hlf
  refine (free_f w q g cap lf (fRows T.F) c1 hI.cells.2.2.2.2.2.1 (hI.frozen 5) (fun e => hI.blocks.2.1 g (by rw [hg]; rfl) e.symm) hf (Nat.le_trans hI.lenF (by omega)) hlf i (by rw [fRows_len]; exact some_lt hi)).mono ?_
  rintro e w' ⟨rfl, w0, hb, hW⟩
  exact ⟨rfl, lay_freeF hI hg (some_lt hi) hb hW⟩
theorem freeD_any (w : World) (q : Nat) (F : List Nat) (nn : Nat) (T : Ts) (hL : Lay w q F nn T) (i : Nat) (o : Nat × ByteArray) (hi : T.D[i]? = some (some o)) :
    Calls Tryz.prog 149 #[.pointer (some ⟨q, 0, none⟩), .int .i64 (i : Int)] w fun e w' => e = .returned (.tuple #[]) ∧ Turn F w w' q nn (setD T i none) := by
  obtain ⟨dv, fv, ld, lf, ms, rfl, hI⟩ := hL
  obtain ⟨g, cap, hg⟩ := rows_form2 hI.hd' (i := i) (r := dRow (some o) (ms i)) (by rw [dRows_get, hi]; rfl)
  have c1 := hI.cells.2.1
  have hf := hI.hd'
  rw [hg] at c1 hf
  have hlf := hI.ldl
  rw [← dRows_len T.D ms] at hlf
  refine (free_d w q g cap ld (dRows T.D ms) c1 hI.cells.2.2.1 (hI.frozen 2) (fun e => hI.blocks.1 g (by rw [hg]; rfl) e.symm) hf (Nat.le_trans hI.lenD (by omega)) hlf i (by rw [dRows_len]; exact some_lt hi)).mono ?_
  rintro e w' ⟨rfl, w0, hb, hW⟩
  exact ⟨rfl, lay_putD (ld' := min ld i) hI hg hi none hb (by omega) (fun _ => by omega) (.inl hW)⟩
theorem setF_any (w : World) (q : Nat) (F : List Nat) (nn : Nat) (T : Ts) (hL : Lay w q F nn T) (i : Nat) (hi : i < T.F.length) (p s : Nat) (n : ByteArray) :
    Calls Tryz.prog 159 #[.pointer (some ⟨q, 3, none⟩), .int .i64 (i : Int), .agg #[.int .i64 (p : Int), .string n, .int .i64 (s : Int)]] w fun e w' => e = .returned (.tuple #[]) ∧ Turn F w w' q nn (setF T i (some (p, n, s))) := by
  obtain ⟨dv, fv, ld, lf, ms, rfl, hI⟩ := hL
  have hir : i < (fRows T.F).length := by rw [fRows_len]; exact hi
  obtain ⟨g, cap, hg⟩ := rows_form2 hI.hf' (i := i) (List.getElem?_eq_getElem hir)
  have c1 := hI.cells.2.2.2.2.1
  have hf := hI.hf'
  rw [hg] at c1 hf
  refine (set_f w q g cap (fRows T.F) c1 hf (Nat.le_trans hI.lenF (by omega)) i hir p n (s : Int)).mono ?_
  rintro e w' ⟨rfl, w0, hb, hW⟩
  exact ⟨rfl, lay_setF hI hg hi (p, n, s) hb hW⟩
theorem getF_any (w : World) (q : Nat) (F : List Nat) (nn : Nat) (T : Ts) (hL : Lay w q F nn T) (i p s : Nat) (n : ByteArray) (hi : T.F[i]? = some (some (p, n, s))) :
    Calls Tryz.prog 141 #[.pointer (some ⟨q, 3, none⟩), .int .i64 (i : Int)] w fun e w' => e = .returned (.agg #[.int .i64 (p : Int), .string n, .int .i64 (s : Int)]) ∧ Below w.heap.size w w' := by
  obtain ⟨dv, fv, ld, lf, ms, rfl, hI⟩ := hL
  exact get_f w q fv _ hI.cells.2.2.2.2.1 hI.hf' (Nat.le_trans hI.lenF (by omega)) i (fRow (some (p, n, s))) (by rw [fRows_get, hi]; rfl) (s : Int) rfl
theorem eff_any (w : World) (q : Nat) (F : List Nat) (nn : Nat) (T : Ts) (hL : Lay w q F nn T) (k : Int) (i p s : Nat) (n : ByteArray) (hi : T.F[i]? = some (some (p, n, s))) :
    Calls Tryz.prog 138 #[.pointer (some ⟨q, 0, none⟩), .int .i64 k, .int .i64 (i : Int)] w fun e w' => e = .returned (efV ⟨k, i, -1, 0, 0, e0, s⟩) ∧ Below w.heap.size w w' := by
  obtain ⟨dv, fv, ld, lf, ms, rfl, hI⟩ := hL
  exact effect_any w q dv fv ld lf ms nn T hI k i p s n hi
theorem giveF_any (w : World) (q : Nat) (F : List Nat) (nn : Nat) (T : Ts) (hL : Lay w q F nn T) (p : Nat) (n : ByteArray) :
    Calls Tryz.prog 137 #[.pointer (some ⟨q, 3, none⟩), .agg #[.int .i64 (p : Int), .string n, .int .i64 0]] w fun e w' => e = .returned (.tuple #[.int .i64 (lowL T.F : Int), .bool (decide (lowL T.F < T.fr))]) ∧ Turn F w w' q nn (if lowL T.F < T.fr then setF T (lowL T.F) (some (p, n, 0)) else T) := by
  obtain ⟨dv, fv, ld, lf, ms, rfl, hI⟩ := hL
  have hlf := hI.lfl
  rw [← fRows_len] at hlf
  refine (give_f w q T.fr lf _ fv (fRows T.F) hI.hq rfl rfl rfl hI.hf' hI.lenF hlf (fun i hi => ?_) (by have := hI.lim; omega) p n 0).mono ?_
  · obtain ⟨d, hd⟩ := hI.hlf i hi
    exact ⟨_, by rw [fRows_get, hd]; rfl, rfl⟩
  · rw [lowR_f]
    rintro e w' ⟨rfl, h | h⟩
    · obtain ⟨hr, v', hC⟩ := h
      rw [if_pos hr]
      exact ⟨rfl, lay_giveF hI hr (p, n, 0) hC⟩
    · obtain ⟨hr, hq, ho⟩ := h
      rw [if_neg (by omega)]
      exact ⟨rfl, lay_fullF hI ho hq⟩
theorem giveD_any (w0 w : World) (q m : Nat) (F : List Nat) (nn : Nat) (T : Ts) (hL : Lay w0 q F nn T) (hb : Below w0.heap.size w0 w) (hm0 : w0.heap.size ≤ m) (hmm : w.ownsMap Tryz.prog 9 nodeR m 0 (.map [])) (hME : T.M (lowL T.D) = fun _ => none) (p : Nat) (n : ByteArray) :
    Calls Tryz.prog 135 #[.pointer (some ⟨q, 0, none⟩), .agg #[.int .i64 (p : Int), .string n, .map (some m)]] w fun e w' => e = .returned (.tuple #[.int .i64 (lowL T.D : Int), .bool (decide (lowL T.D < T.dr))]) ∧ Turn F w0 w' q nn (if lowL T.D < T.dr then setD T (lowL T.D) (some (p, n)) else T) := by
  obtain ⟨dv, fv, ld, lf, ms, rfl, hI0⟩ := hL
  have hI := hI0.below hb
  have hlf := hI.ldl
  rw [← dRows_len T.D ms] at hlf
  refine (give_d w q T.dr ld _ dv (dRows T.D ms) hI.hq rfl rfl rfl hI.hd' (Nat.le_trans hI.lenD (by omega)) hlf (fun i hi => ?_) (by have := hI.lim; omega) p n (some m)).mono ?_
  · obtain ⟨d, hd⟩ := hI.hld i hi
    exact ⟨_, by rw [dRows_get, hd]; rfl, rfl⟩
  · rw [lowR_d]
    rintro e w' ⟨rfl, h | h⟩
    · obtain ⟨hr, v', hC⟩ := h
      rw [if_pos hr]
      exact ⟨rfl, lay_giveD hI0 hb hm0 hmm hME hr (p, n) hC⟩
    · obtain ⟨hr, hq, ho⟩ := h
      rw [if_neg (by omega)]
      exact ⟨rfl, Turn.ahead hb (lay_fullD hI ho hq)⟩
/-- what is no tree's stays -/
theorem Turn.keep {F : List Nat} {w w' : World} {q nn nn' : Nat} {T T' : Ts} (ht : Turn F w w' q nn' T') (h : Lay w q F nn T) {k : Nat} {cur : Array Value} {e : TypeId} (hk : w.heap[k]? = some (.cells cur e (0, 0))) (he : ¬ (e = 125 ∨ e = 172 ∨ e = 176)) : w'.heap[k]? = some (.cells cur e (0, 0)) :=
  (ht.1.block k (heap_lt hk) (h.notin hk he)).trans hk
theorem Turn.up {F : List Nat} {w w' : World} {q nn N : Nat} {T : Ts} (h : Turn F w w' q nn T) (hN : nn ≤ N) : Turn F w w' q N T := by
  obtain ⟨h1, F2, h2, h3⟩ := h
  exact ⟨h1, F2, h2.up hN, h3⟩

end Go.Proofs.YtnfddiabhpandaaGreatDoor.Tr
