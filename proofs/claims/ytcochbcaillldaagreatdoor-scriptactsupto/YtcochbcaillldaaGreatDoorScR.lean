import Derived.Test.YtcochbcaillldaaGreatDoorRowU
import Derived.Lib.AppendStr
import Derived.Lib.SlBytesConst
import Derived.Lib.Builder
namespace Go.Proofs.YtcochbcaillldaaGreatDoor.Sc
open Go.RowKit Go.Lib Go.Deep

theorem run_storeCells_rowM (P : Program) (g o : Nat) (t : TypeId) (fz : Nat × Nat) : ∀ (vs : List Value) (i : Nat) (cur : Array Value) (w : World), w.heap[g]? = some (.cells cur t fz) → (∀ j, j < cur.size → ¬ (fz.1 ≤ j ∧ j < fz.2)) → o + i + vs.length ≤ cur.size → (∀ v ∈ vs, v.oneCell' = true) →
    (storeCells ⟨g, o, none⟩ vs i).run P w = .ok () (w.setRow g (cur.toList.take (o + i) ++ vs ++ cur.toList.drop (o + i + vs.length)).toArray)
  | [], i, cur, w, hg, _, _, _ => by
    simp only [storeCells, List.append_nil, List.length_nil, Nat.add_zero, List.take_append_drop, Array.toArray_toList]
    rw [setRow_self w g cur t fz hg]
    rfl
  | v :: rest, i, cur, w, hg, hfz, hl, h1 => by
    have hi : o + i < cur.size := by simp at hl; omega
    have hadd : (⟨g, o, none⟩ : Addr).add i = ⟨g, o + i, none⟩ := by unfold Addr.add; split <;> simp_all
    have hcell : w.cell? ⟨g, o + i, none⟩ = some cur[o + i] := by simp [World.cell?, hg, hi]
    have hfro : w.frozen? ⟨g, o + i, none⟩ = false := by
      have hq := hfz (o + i) hi
      obtain ⟨lo, hi'⟩ := fz
      simp only [World.frozen?, hg, Bool.and_eq_false_iff, decide_eq_false_iff_not]
      simp only at hq
      omega
    have hst : (store ((⟨g, o, none⟩ : Addr).add i) v).run P w = .ok () (w.setRow g (cur.setIfInBounds (o + i) v)) := by
      rw [hadd, run_store P w _ v _ (h1 v (by simp)), hcell]
      simp [hfro, setCell_eq_setRow w g (o + i) cur t fz v hg]
    have ih := run_storeCells_rowM P g o t fz rest (i + 1) (cur.setIfInBounds (o + i) v) (w.setRow g (cur.setIfInBounds (o + i) v)) (setRow_heap w g cur _ t _ hg) (by simpa using hfz) (by simp at hl ⊢; omega) (fun x hx => h1 x (by simp [hx]))
    simp only [storeCells, Sem.run_bind, hst, Result.andThen_ok, ih, setRow_setRow]
    congr 3
    have e := list_seg_step cur.toList (o + i) v rest (by simp at hl ⊢; omega)
    simpa [Array.toList_setIfInBounds, Nat.add_assoc] using e

/-- what an append to a row of this type leaves -/
def Oth0 (e : TypeId) (w w' : World) : Prop := ∀ (k : Nat) (o : Obj), (∀ cs fr, o ≠ .cells cs e fr) → w.heap[k]? = some o → w'.heap[k]? = some o
/-- 'append' to such a row -/
theorem run_append_rowF2 {P : Program} (w : World) (base : Nat) (t ty e : TypeId) (i : TypeInfo) (z : Value) (bytes : Nat) (ht : P.underlying t = some (.slice e)) (hi : P.info? e = some i) (hz : i.zero = some z)
    (hsize : i.size = 1) (hby : i.bytes = bytes) (hzs : z.cells.size = 1) (v : Value) (xs : List Value) (hv : RowF w base e v xs)
    (a : Addr) (m c : Nat) (news : List Value) (hl : news.length = m) (hnews : ∀ j u, news[j]? = some u → w.cell? (a.add j) = some u) (h1 : ∀ u ∈ news, u.oneCell' = true)
    (h63 : xs.length + m ≤ maxLen) (hbytes : (xs.length + m) * bytes ≤ 140737488355328) (hbase : base ≤ w.heap.size) :
    ∃ v' w', (Builtin.append_ #[t, t] ty #[v, .slice (some a) m c]).run P w = .ok v' w' ∧ RowF w' base e v' (xs ++ news) ∧ Below base w w' ∧ Oth0 e w w' := by
  obtain ⟨g, cap, cur, fr, rfl, hb, hg, hf, hs, hn, hc, htk⟩ := hv
  by_cases hroom : xs.length + m ≤ cap
  · have hcell : ∀ j, j < news.length → (w.cell? ⟨g, 0 + xs.length * i.size + j, none⟩).isSome = true := by
      intro j hj
      rw [cell_of_heap hg, hsize, Array.getElem?_eq_getElem (by omega)]
      rfl
    have hfr : ∀ j, j < news.length → w.frozen? ⟨g, 0 + xs.length * i.size + j, none⟩ = false := by
      intro j hj
      rw [hsize]
      exact hf _ (by omega)
    have hrun := run_append_room_cells (P := P) w t ty e i ht hi g 0 xs.length cap a m c news (by rw [hsize]; omega) hnews h1 hroom hcell hfr
    have hpl : (cur.toList.take xs.length).length = xs.length := by rw [htk]
    have e2 : (cur.toList.take xs.length ++ (cur.toList.drop xs.length).take m ++ cur.toList.drop (xs.length + m)).toArray = cur := by
      rw [List.append_assoc, ← List.drop_drop, List.take_append_drop, List.take_append_drop, Array.toArray_toList]
    have e1 := setMany_part (cur.toList.take xs.length) ((cur.toList.drop xs.length).take m) (cur.toList.drop (xs.length + m)) news (by rw [List.length_take, List.length_drop, Array.length_toList]; omega)
    rw [e2, hpl, htk] at e1
    have ep : 0 + xs.length * i.size = xs.length := by rw [hsize]; omega
    rw [ep] at hrun
    refine ⟨_, _, hrun, ⟨g, cap, setMany cur xs.length news, fr, by rw [List.length_append, hl], hb, heap_setCells_fr g e fr news _ cur w hg, ?_, ?_, by rw [List.length_append]; omega, hc, ?_⟩, ?_⟩
    · intro j hj
      rw [World.frozen?_setCells]
      exact hf j hj
    · rw [e1]
      simp only [List.size_toArray, List.length_append, List.length_drop, Array.length_toList]
      omega
    · rw [e1]
      exact List.take_left
    · refine ⟨Below.setCells (Below.refl _ _) hb _ _, fun k o ho h0 => (heap_setCells_other g k (fun e1 => ?_) _ _ _).trans h0⟩
      subst e1
      rw [hg] at h0
      exact ho _ _ (Option.some.inj h0).symm
  · have hm : 0 < m := by omega
    obtain ⟨v', w', hrun, ho, hgr⟩ := run_append_arg_grows (P := P) w t ty e i z 1 bytes ht hi hz hsize hby hzs (by omega) ⟨g, 0, none⟩ xs.length cap xs (by omega)
      (fun j u hj => by
        have hj' := (List.getElem?_eq_some_iff.1 hj).1
        rw [Addr.add_lit, Nat.zero_add, cell_of_heap hg]
        have : (cur.toList.take xs.length)[j]? = some u := by rw [htk]; exact hj
        rw [List.getElem?_take, if_pos hj'] at this
        simpa using this)
      a m c news (by omega) hnews (by omega) h63 hbytes
    refine ⟨v', w', hrun, ?_, Below.grown (Below.refl _ _) hgr hbase (by simp), fun k o _ h0 => (hgr.block k (Array.getElem?_eq_some_iff.1 h0).1 (by simp)).trans h0⟩
    have hll : (xs ++ news).length = xs.length + m := by rw [List.length_append, hl]
    have ho' : w'.ownsRow w.heap.size e 1 v' (xs ++ news).length (xs ++ news) := by rw [hll]; exact ho
    obtain ⟨g', cap', cur', fr', r1, r2, r3, r4, r5, r6, r7, r8⟩ := RowF.of_owns ho' (by omega)
    exact ⟨g', cap', cur', fr', r1, by omega, r3, r4, r5, r6, r7, r8⟩

/-- 'append' of a text to such a row -/
theorem run_append_rowF_string {P : Program} (w : World) (base : Nat) (t u ty e : TypeId) (i : TypeInfo) (ht : P.underlying t = some (.slice e)) (hu : P.underlying u = some .string) (hi : P.info? e = some i) (hz : i.zero = some (.int .u8 0))
    (hsize : i.size = 1) (hby : i.bytes = 1) (v : Value) (xs : List Value) (hv : RowF w base e v xs) (s : ByteArray)
    (h63 : xs.length + s.size ≤ maxLen) (hbytes : xs.length + s.size ≤ 140737488355328) (hbase : base ≤ w.heap.size) :
    ∃ v' w', (Builtin.append_ #[t, u] ty #[v, .string s]).run P w = .ok v' w' ∧ RowF w' base e v' (xs ++ strCells s) ∧ Below base w w' ∧ Oth0 e w w' := by
  have hv0 := hv
  obtain ⟨g, cap, cur, fr, rfl, hb, hg, hf, hs, hn, hc, htk⟩ := hv
  by_cases hroom : xs.length + s.size ≤ cap
  · have hfr : ∀ j, j < cur.size → ¬ (fr.1 ≤ j ∧ j < fr.2) := by
      intro j hj
      have h := hf j (by omega)
      obtain ⟨lo, hi'⟩ := fr
      simp only [World.frozen?, hg, Bool.and_eq_false_iff, decide_eq_false_iff_not] at h
      simp only
      omega
    have hf1 := run_firstCells_string (P := P) w 1 s
    have hst := run_storeCells_rowM P g xs.length e fr (strCells s) 0 cur w hg hfr (by simp [strCells_length]; omega) (strCells_oneCell s)
    simp only [Nat.add_zero, strCells_length] at hst
    have hr : (Builtin.append_ #[t, u] ty #[.slice (some ⟨g, 0, none⟩) xs.length cap, .string s]).run P w = .ok (.slice (some ⟨g, 0, none⟩) (xs.length + s.size) cap) (w.setRow g (cur.toList.take xs.length ++ strCells s ++ cur.toList.drop (xs.length + s.size)).toArray) := by
      simp [Builtin.append_, run_underlying ht, run_underlying hu, sizeOf, typeInfo, hi, hsize, Builtin.lenOf, hroom, hf1, Addr.add_lit, hst]
    refine ⟨_, _, hr, ⟨g, cap, _, fr, by rw [List.length_append, strCells_length], hb, setRow_heap w g cur _ e _ hg, ?_, ?_, by rw [List.length_append, strCells_length]; omega, hc, ?_⟩, ?_⟩
    · intro j hj
      have h := hfr j (by omega)
      obtain ⟨lo, hi'⟩ := fr
      simp only [World.frozen?, setRow_heap w g cur _ e _ hg, Bool.and_eq_false_iff, decide_eq_false_iff_not]
      simp only at h
      omega
    · simp only [List.size_toArray, List.length_append, List.length_take, List.length_drop, Array.length_toList, strCells_length]
      omega
    · rw [htk]
      have hl : (xs ++ strCells s).length = xs.length + s.size := by rw [List.length_append, strCells_length]
      simp only [← hl]
      exact List.take_left
    · refine ⟨⟨rfl, rfl, rfl, by simp, fun k hk => setRow_other w g k _ (fun e => by omega)⟩, fun k o ho h0 => (setRow_other w g k _ (fun e1 => ?_)).trans h0⟩
      subst e1
      rw [hg] at h0
      exact ho _ _ (Option.some.inj h0).symm
  · have hr := run_append_grow_string (P := P) w t u ty e i (.int .u8 0) ht hu hi hz ⟨g, 0, none⟩ xs.length cap xs (by rw [hsize]; omega) (fun j v hj => by
      have hj' := (List.getElem?_eq_some_iff.1 hj).1
      rw [Addr.add_lit, Nat.zero_add, Lib.cell_of_heap hg]
      have : (cur.toList.take xs.length)[j]? = some v := by rw [htk]; exact hj
      rw [List.getElem?_take, if_pos hj'] at this
      simpa using this) s (by omega) (by omega) (by rw [hby]; exact growslice_fits (by omega) (by omega))
    have hge := grownCap_ge w (xs.length + s.size) cap e
    have hcm2 : grownCap w (xs.length + s.size) cap e ≤ maxLen := grownCap_le_maxLen w (xs.length + s.size) cap e h63
    have hz1 : (Value.int IntKind.u8 0).cells.size = 1 := rfl
    refine ⟨_, _, hr, ⟨w.heap.size, _, _, (0, 0), by rw [List.length_append, strCells_length], hbase, heap_alloc_new w.drew _, fun j _ => Lib.frozen_of_heap (heap_alloc_new w.drew _) j, ?_, by rw [List.length_append, strCells_length]; exact hge, hcm2, ?_⟩, (Below.drew (Below.refl _ _)).alloc hbase _, fun k o _ h0 => (Lib.alloc_old w.drew _ k (Array.getElem?_eq_some_iff.1 h0).1).trans h0⟩
    · simp only [Array.size_append, List.size_toArray, size_zeroCells, hz1, strCells_length]
      omega
    · simp only [Array.toList_append, List.append_assoc]
      rw [← List.append_assoc]
      exact List.take_left

theorem wpList_append_rowF_string {P : Program} {ops : Array Oper} {rest : List Oper} {o : Oper} {a : Act} {w : World} {Q : Exit → Act → World → Prop} (hgd : o.guard = none) (sl x : Operand) (t u : TypeId)
    (ho : o.op = .call { callee := .builtin .append, args := #[sl, x], argTypes := #[t, u] })
    (base : Nat) (e : TypeId) (i : TypeInfo) (ht : P.underlying t = some (.slice e)) (hu : P.underlying u = some .string) (hi : P.info? e = some i) (hz : i.zero = some (.int .u8 0))
    (hsize : i.size = 1) (hby : i.bytes = 1) (v : Value) (xs : List Value) (hs : a.eval sl = v) (hv : RowF w base e v xs) (s : ByteArray) (hx : a.eval x = .string s)
    (h63 : xs.length + s.size ≤ maxLen) (hbytes : xs.length + s.size ≤ 140737488355328) (hbase : base ≤ w.heap.size)
    (h : ∀ v' w', RowF w' base e v' (xs ++ strCells s) → Below base w w' → Oth0 e w w' → wpList P ops Q rest (a.put o.dst v') w') : wpList P ops Q (o :: rest) a w := by
  refine wpList_plain hgd fun K hK => ?_
  obtain ⟨v', w', hr, h2, h3, h4⟩ := run_append_rowF_string (P := P) w base t u o.type e i ht hu hi hz hsize hby v xs hv s h63 hbytes hbase
  unfold Oper.wp execOp
  simp only [ho, resolve, invoke, builtin, Sem.run_bind, Sem.run_pure, Result.andThen_ok, List.map_toArray, List.map_cons, List.map_nil, hs, hx, hr]
  exact hK _ _ (h v' w' h2 h3 h4)

theorem step_append_rowF_string {P : Program} {ops : Array Oper} {o : Oper} {a : Act} {w : World} {K : Act → World → Prop} {Q : Exit → Act → World → Prop} {E : Prop} (hgd : o.guard = none) (sl x : Operand) (t u : TypeId)
    (ho : o.op = .call { callee := .builtin .append, args := #[sl, x], argTypes := #[t, u] })
    (base : Nat) (e : TypeId) (i : TypeInfo) (ht : P.underlying t = some (.slice e)) (hu : P.underlying u = some .string) (hi : P.info? e = some i) (hz : i.zero = some (.int .u8 0))
    (hsize : i.size = 1) (hby : i.bytes = 1) (v : Value) (xs : List Value) (hs : a.eval sl = v) (hv : RowF w base e v xs) (s : ByteArray) (hx : a.eval x = .string s)
    (h63 : xs.length + s.size ≤ maxLen) (hbytes : xs.length + s.size ≤ 140737488355328) (hbase : base ≤ w.heap.size)
    (h : ∀ v' w', RowF w' base e v' (xs ++ strCells s) → Below base w w' → Oth0 e w w' → K (a.put o.dst v') w') : if Region.wanted o (yielded ops a.tmps) = true then Oper.wp P o a w K Q else E := by
  have hw : Region.wanted o (yielded ops a.tmps) = true := by simp [Region.wanted, hgd]
  rw [if_pos hw]
  obtain ⟨v', w', hr, h2, h3, h4⟩ := run_append_rowF_string (P := P) w base t u o.type e i ht hu hi hz hsize hby v xs hv s h63 hbytes hbase
  unfold Oper.wp execOp
  simp only [ho, resolve, invoke, builtin, Sem.run_bind, Sem.run_pure, Result.andThen_ok, List.map_toArray, List.map_cons, List.map_nil, hs, hx, hr]
  exact h v' w' h2 h3 h4

theorem wpList_append_rowF2 {P : Program} {ops : Array Oper} {rest : List Oper} {o : Oper} {a : Act} {w : World} {Q : Exit → Act → World → Prop} (hgd : o.guard = none) (s x : Operand) (t : TypeId)
    (ho : o.op = .call { callee := .builtin .append, args := #[s, x], argTypes := #[t, t] })
    (base : Nat) (e : TypeId) (i : TypeInfo) (z : Value) (bytes : Nat) (ht : P.underlying t = some (.slice e)) (hi : P.info? e = some i) (hz : i.zero = some z)
    (hsize : i.size = 1) (hby : i.bytes = bytes) (hzs : z.cells.size = 1) (v : Value) (xs : List Value) (hs : a.eval s = v) (hv : RowF w base e v xs)
    (ad : Addr) (m c : Nat) (news : List Value) (hx : a.eval x = .slice (some ad) m c) (hl : news.length = m) (hnews : ∀ j u, news[j]? = some u → w.cell? (ad.add j) = some u) (h1 : ∀ u ∈ news, u.oneCell' = true)
    (h63 : xs.length + m ≤ maxLen) (hbytes : (xs.length + m) * bytes ≤ 140737488355328) (hbase : base ≤ w.heap.size)
    (h : ∀ v' w', RowF w' base e v' (xs ++ news) → Below base w w' → Oth0 e w w' → wpList P ops Q rest (a.put o.dst v') w') : wpList P ops Q (o :: rest) a w := by
  obtain ⟨v', w', hr, h2, h3, h4⟩ := run_append_rowF2 (P := P) w base t o.type e i z bytes ht hi hz hsize hby hzs v xs hv ad m c news hl hnews h1 h63 hbytes hbase
  refine wpList_plain hgd fun K hK => ?_
  unfold Oper.wp execOp
  simp only [ho, resolve, invoke, builtin, Sem.run_bind, Sem.run_pure, Result.andThen_ok, List.map_toArray, List.map_cons, List.map_nil, hs, hx, hr]
  exact hK _ _ (h v' w' h2 h3 h4)


end Go.Proofs.YtcochbcaillldaaGreatDoor.Sc
