import Derived.Test.YtlmopjbfagijeaaGreatDoorSpG
import Derived.Test.YtlmopjbfagijeaaGreatDoorBaseM
import Derived.Lib.AppendStr
import Derived.Lib.SlBytesConst
import Derived.Lib.Builder
import Derived.Test.YtlmopjbfagijeaaGreatDoorYbM
import Derived.Deep.RegionLaw
namespace Go.Proofs.YtlmopjbfagijeaaGreatDoor.Sc
open Go.RowKit Go.Lib Go.Deep

theorem out_shape {o : OpR} {e : Ending} (h : OutW o e) : ∃ (x : ByteArray) (c : Int), e = .returned (.tuple #[.string x, .int .i64 c]) := by
  rcases h with ⟨_, rfl⟩ | ⟨f, _, _, rfl⟩
  · exact ⟨_, _, rfl⟩
  · unfold lineW
    split
    · exact ⟨_, _, rfl⟩
    · split
      · exact ⟨_, _, rfl⟩
      · exact ⟨_, _, rfl⟩

set_option maxRecDepth 20000 in
set_option maxHeartbeats 2000000 in
theorem printOp_any (o : OpR) (hok : o.Ok) (w : World) (ht : ITab w) :
    Calls Tryz.prog 17 #[o.val] w fun e w' => OutW o e ∧ Below w.heap.size w w' := by
  obtain ⟨W, hW⟩ : ∃ W, w.alloc (.cells o.cells 54) = W := ⟨_, rfl⟩
  have hbW : Below w.heap.size w W := by rw [← hW]; exact (Below.refl _ _).alloc (Nat.le_refl _) _
  have hvW : OpAt W w.heap.size o := by
    rw [← hW]
    exact heap_alloc_new _ _
  have hbd : Below W.heap.size W W.drew := bd1 W
  have hop := operations_any W.drew
  have hbO := hbd.trans ((Below.refl W.heap.size W.drew).alloc (Nat.le_refl _) (.cells (tabC opTab) 137))
  have hgO := heap_alloc_new W.drew (.cells (tabC opTab) 137)
  obtain ⟨V, hV⟩ : ∃ V, W.drew.alloc (.cells (tabC opTab) 137) = V := ⟨_, rfl⟩
  rw [hV] at hop hbO hgO
  clear hV
  have hgO : V.heap[W.heap.size]? = some (.cells (tabC opTab) 137 (0, 0)) := hgO
  have hop : Calls Tryz.prog 40 #[] W.drew fun e w' => e = .returned (.slice (some ⟨W.heap.size, 0, none⟩) 10 10) ∧ w' = V := hop
  have hvV := hvW.below hbO hvW.lt
  have hwr := written_op o hok w.heap.size W.heap.size V hvV hgO (ht.below (hbW.trans (hbO.mono hbW.size)) ht.lt)
  have HS : Hid (∀ U, Below W.heap.size W U → U.cell? ⟨w.heap.size, 0, none⟩ = some (.int .i64 o.kind) ∧ U.cell? ⟨w.heap.size, 1, none⟩ = some (.string o.path) ∧ U.cell? ⟨w.heap.size, 2, none⟩ = some (.string o.to) ∧ U.cell? ⟨w.heap.size, 3, none⟩ = some (.int .i64 o.at_) ∧ U.cell? ⟨w.heap.size, 4, none⟩ = some (.int .i64 o.n) ∧ U.cell? ⟨w.heap.size, 5, none⟩ = some (.string o.data)) := fun U hb => (hvW.below hb hvW.lt).six
  have hs0 := HS.out W (Below.refl _ _)
  unfold OpR.val OpR.cells at *
  clear hvW hgO hvV
  go_enter Tryz.func17, Tryz.ntmps17
  go_wp2_with fail
  go_region_held_law (fun U => U.cell? ⟨w.heap.size, 0, none⟩ = some (.int .i64 o.kind) ∧ U.cell? ⟨w.heap.size, 1, none⟩ = some (.string o.path) ∧ U.cell? ⟨w.heap.size, 2, none⟩ = some (.string o.to) ∧ U.cell? ⟨w.heap.size, 3, none⟩ = some (.int .i64 o.at_) ∧ U.cell? ⟨w.heap.size, 4, none⟩ = some (.int .i64 o.n) ∧ U.cell? ⟨w.heap.size, 5, none⟩ = some (.string o.data)) (first | exact HS.out _ hbd | exact HS.out _ hbO | exact HS.out _ hb2x | go_keep) (first | (go_at_call 39; refine hwr'.mono ?_; rintro e w2 ⟨hout, hb2⟩; obtain ⟨x, c, rfl⟩ := out_shape hout; have hb2x := hbO.trans (hb2.mono hbO.size); clear hwr') | (go_at_call 40; refine hop.mono ?_; rintro e w1 ⟨rfl, rfl⟩; clear hop; have hwr' := hwr))
  all_goals
    go_wp2
    go_ret2
    exact ⟨hout, hbW.trans (hb2x.mono hbW.size)⟩
end Go.Proofs.YtlmopjbfagijeaaGreatDoor.Sc

namespace Go.Proofs.YtlmopjbfagijeaaGreatDoor
open Go.RowKit Go.Lib Go.Deep

theorem frozen_before {w : World} {k j lo hi : Nat} {c : Array Value} {t : TypeId} (h : w.heap[k]? = some (.cells c t (lo, hi))) (hj : j < lo) : w.frozen? ⟨k, j, none⟩ = false := by
  simp [World.frozen?, h]
  omega

/-- what '[]byte(s)' lays -/
theorem rowF_bytes (w : World) (s : ByteArray) (hs : s.size ≤ maxLen) :
    RowF (w.drew.alloc (.cells (bytesRow s (grownCap w s.size 0 5)) 5 ((bytesRow s (grownCap w s.size 0 5)).size, (bytesRow s (grownCap w s.size 0 5)).size + 1))) w.heap.size 5 (.slice (some ⟨w.heap.size, 0, none⟩) s.size (grownCap w s.size 0 5)) (byteCells s.data.toList) := by
  have h1 := grownCap_ge w s.size 0 5
  have h2 := grownCap_le_maxLen w s.size 0 5 hs
  obtain ⟨C, hC⟩ : ∃ C, grownCap w s.size 0 5 = C := ⟨_, rfl⟩
  rw [hC] at h1 h2 ⊢
  have hz : (bytesRow s C).size = C := by
    simp only [bytesRow, Array.size_append, Array.size_map, Array.size_replicate]
    have : s.data.size = s.size := rfl
    omega
  have hl : (byteCells s.data.toList).length = s.size := by rw [byteCells_length, ← size_eq]
  refine ⟨w.heap.size, C, bytesRow s C, ((bytesRow s C).size, (bytesRow s C).size + 1), by rw [hl], Nat.le_refl _, heap_new w.drew _, fun j hj => frozen_before (heap_new w.drew _) (by omega), hz, by omega, h2, ?_⟩
  rw [hl]
  simp only [bytesRow, Array.toList_append, Array.toList_map]
  rw [List.take_append_of_le_length (by simp), List.take_of_length_le (by simp)]
  rfl

theorem bytes_any (s : ByteArray) (hs : s.size ≤ maxLen) (w : World) : ∃ v w', (convert 9 51 (.string s)).run Tryz.prog w = .ok v w' ∧ RowF w' w.heap.size 5 v (byteCells s.data.toList) ∧ Below w.heap.size w w' := by
  refine ⟨_, _, run_bytes_of_string (P := Tryz.prog) w 9 51 5 s Tryz.underlying9 Tryz.underlying51 Tryz.underlying5, rowF_bytes w s hs, ?_⟩
  exact (Below.drew (Below.refl _ _)).alloc (Nat.le_refl _) _

/-- 'string(b)' of such a row -/
theorem convert_rowF {P : Program} (w : World) (src dst e : TypeId) (base : Nat) (v : Value) (l : List UInt8) (hs : P.underlying src = some (.slice e)) (he : P.underlying e = some (.int .u8)) (hd : P.underlying dst = some .string)
    (h : RowF w base e v (byteCells l)) : (convert src dst v).run P w = .ok (.string ⟨l.toArray⟩) w := by
  obtain ⟨g, cap, cur, fr, rfl, r2, r3, r4, r5, r6, r7, r8⟩ := h
  rw [byteCells_length] at *
  refine run_convert_bytes_back w src dst e ⟨g, 0, none⟩ cap l hs he hd fun j hj => ?_
  rw [Addr.add_lit, Nat.zero_add, cell_of_heap r3]
  have e1 : (cur.toList.take l.length)[j]? = (byteCells l)[j]? := by rw [r8]
  rw [List.getElem?_take, if_pos hj] at e1
  rw [Array.getElem?_toList] at e1
  rw [e1]
  simp [byteCells, hj]

end Go.Proofs.YtlmopjbfagijeaaGreatDoor

namespace Go.Proofs.YtlmopjbfagijeaaGreatDoor
open Go.RowKit Go.Lib Go.Deep

theorem wpList_append_rowF {P : Program} {ops : Array Oper} {rest : List Oper} {o : Oper} {a : Act} {w : World} {Q : Exit → Act → World → Prop} (hgd : o.guard = none) (s x : Operand) (t : TypeId)
    (ho : o.op = .call { callee := .builtin .append, args := #[s, x], argTypes := #[t, t] })
    (base : Nat) (e : TypeId) (i : TypeInfo) (z : Value) (bytes : Nat) (ht : P.underlying t = some (.slice e)) (hi : P.info? e = some i) (hz : i.zero = some z)
    (hsize : i.size = 1) (hby : i.bytes = bytes) (hzs : z.cells.size = 1) (v : Value) (xs : List Value) (hs : a.eval s = v) (hv : RowF w base e v xs)
    (ad : Addr) (m c : Nat) (news : List Value) (hx : a.eval x = .slice (some ad) m c) (hl : news.length = m) (hnews : ∀ j u, news[j]? = some u → w.cell? (ad.add j) = some u) (h1 : ∀ u ∈ news, u.oneCell' = true)
    (h63 : xs.length + m ≤ maxLen) (hbytes : (xs.length + m) * bytes ≤ 140737488355328) (hbase : base ≤ w.heap.size)
    (h : ∀ v' w', RowF w' base e v' (xs ++ news) → Below base w w' → wpList P ops Q rest (a.put o.dst v') w') : wpList P ops Q (o :: rest) a w := by
  obtain ⟨v', w', hr, h2, h3⟩ := run_append_rowF (P := P) w base t o.type e i z bytes ht hi hz hsize hby hzs v xs hv ad m c news hl hnews h1 h63 hbytes hbase
  refine wpList_plain hgd fun K hK => ?_
  unfold Oper.wp execOp
  simp only [ho, resolve, invoke, builtin, Sem.run_bind, Sem.run_pure, Result.andThen_ok, List.map_toArray, List.map_cons, List.map_nil, hs, hx, hr]
  exact hK _ _ (h v' w' h2 h3)

theorem step_append_rowF {P : Program} {ops : Array Oper} {o : Oper} {a : Act} {w : World} {K : Act → World → Prop} {Q : Exit → Act → World → Prop} {E : Prop} (hgd : o.guard = none) (s x : Operand) (t : TypeId)
    (ho : o.op = .call { callee := .builtin .append, args := #[s, x], argTypes := #[t, t] })
    (base : Nat) (e : TypeId) (i : TypeInfo) (z : Value) (bytes : Nat) (ht : P.underlying t = some (.slice e)) (hi : P.info? e = some i) (hz : i.zero = some z)
    (hsize : i.size = 1) (hby : i.bytes = bytes) (hzs : z.cells.size = 1) (v : Value) (xs : List Value) (hs : a.eval s = v) (hv : RowF w base e v xs)
    (ad : Addr) (m c : Nat) (news : List Value) (hx : a.eval x = .slice (some ad) m c) (hl : news.length = m) (hnews : ∀ j u, news[j]? = some u → w.cell? (ad.add j) = some u) (h1 : ∀ u ∈ news, u.oneCell' = true)
    (h63 : xs.length + m ≤ maxLen) (hbytes : (xs.length + m) * bytes ≤ 140737488355328) (hbase : base ≤ w.heap.size)
    (h : ∀ v' w', RowF w' base e v' (xs ++ news) → Below base w w' → K (a.put o.dst v') w') : if Region.wanted o (yielded ops a.tmps) = true then Oper.wp P o a w K Q else E := by
  have hw : Region.wanted o (yielded ops a.tmps) = true := by simp [Region.wanted, hgd]
  rw [if_pos hw]
  obtain ⟨v', w', hr, h2, h3⟩ := run_append_rowF (P := P) w base t o.type e i z bytes ht hi hz hsize hby hzs v xs hv ad m c news hl hnews h1 h63 hbytes hbase
  unfold Oper.wp execOp
  simp only [ho, resolve, invoke, builtin, Sem.run_bind, Sem.run_pure, Result.andThen_ok, List.map_toArray, List.map_cons, List.map_nil, hs, hx, hr]
  exact h v' w' h2 h3

theorem RowF.alloc {w : World} {base : Nat} {e : TypeId} {v : Value} {xs : List Value} (h : RowF w base e v xs) (o : Obj) : RowF (w.alloc o) base e v xs := by
  obtain ⟨g, cap, cur, fr, r1, r2, r3, r4, r5, r6, r7, r8⟩ := h
  have hlt := heap_lt r3
  refine ⟨g, cap, cur, fr, r1, r2, ?_, fun j hj => ?_, r5, r6, r7, r8⟩
  · rw [Below.heap_alloc _ _ _ hlt]
    exact r3
  · rw [World.frozen?_of_block (Below.heap_alloc w o g hlt)]
    exact r4 j hj

end Go.Proofs.YtlmopjbfagijeaaGreatDoor

namespace Go.Proofs.YtlmopjbfagijeaaGreatDoor.Sc
open Go.RowKit Go.Lib Go.Deep

theorem run_storeCells_rowM (P : Program) (g o : Nat) (t : TypeId) (fz : Nat × Nat) : ∀ (vs : List Value) (i : Nat) (cur : Array Value) (w : World), w.heap[g]? = some (.cells cur t fz) → (∀ j, j < cur.size → ¬ (fz.1 ≤ j ∧ j < fz.2)) → o + i + vs.length ≤ cur.size → (∀ v ∈ vs, v.oneCell' = true) →
    (storeCells ⟨g, o, none⟩ vs i).run P w = .ok () (w.setRow g (cur.toList.take (o + i) ++ vs ++ cur.toList.drop (o + i + vs.length)).toArray)
  | [], i, cur, w, hg, _, _, _ => by
    simp only [storeCells, List.append_nil, List.length_nil, Nat.add_zero, List.take_append_drop, Array.toArray_toList]
    rw [setRow_self w g cur t fz hg]
    rfl
  | v :: rest, i, cur, w, hg, hfz, hl, h1 => by
    have hi : o + i < cur.size := by simp at hl; omega
    have hadd : (⟨g, o, none⟩ : Addr).add i = ⟨g, o + i, none⟩ := by unfold Addr.add; split <;> simp_all
    have hcell : w.cell? ⟨g, o + i, none⟩ = some cur[o + i] := by simp [World.cell?, hg, hi]
    have hfro : w.frozen? ⟨g, o + i, none⟩ = false := by
      have hq := hfz (o + i) hi
      obtain ⟨lo, hi'⟩ := fz
      simp only [World.frozen?, hg, Bool.and_eq_false_iff, decide_eq_false_iff_not]
      simp only at hq
      omega
    have hst : (store ((⟨g, o, none⟩ : Addr).add i) v).run P w = .ok () (w.setRow g (cur.setIfInBounds (o + i) v)) := by
      rw [hadd, run_store P w _ v _ (h1 v (by simp)), hcell]
      simp [hfro, setCell_eq_setRow w g (o + i) cur t fz v hg]
    have ih := run_storeCells_rowM P g o t fz rest (i + 1) (cur.setIfInBounds (o + i) v) (w.setRow g (cur.setIfInBounds (o + i) v)) (setRow_heap w g cur _ t _ hg) (by simpa using hfz) (by simp at hl ⊢; omega) (fun x hx => h1 x (by simp [hx]))
    simp only [storeCells, Sem.run_bind, hst, Result.andThen_ok, ih, setRow_setRow]
    congr 3
    have e := list_seg_step cur.toList (o + i) v rest (by simp at hl ⊢; omega)
    simpa [Array.toList_setIfInBounds, Nat.add_assoc] using e

/-- what an append to a row of this type leaves -/
def Oth0 (e : TypeId) (w w' : World) : Prop := ∀ (k : Nat) (o : Obj), (∀ cs fr, o ≠ .cells cs e fr) → w.heap[k]? = some o → w'.heap[k]? = some o
/-- 'append' to such a row -/
theorem run_append_rowF2 {P : Program} (w : World) (base : Nat) (t ty e : TypeId) (i : TypeInfo) (z : Value) (bytes : Nat) (ht : P.underlying t = some (.slice e)) (hi : P.info? e = some i) (hz : i.zero = some z)
    (hsize : i.size = 1) (hby : i.bytes = bytes) (hzs : z.cells.size = 1) (v : Value) (xs : List Value) (hv : RowF w base e v xs)
    (a : Addr) (m c : Nat) (news : List Value) (hl : news.length = m) (hnews : ∀ j u, news[j]? = some u → w.cell? (a.add j) = some u) (h1 : ∀ u ∈ news, u.oneCell' = true)
    (h63 : xs.length + m ≤ maxLen) (hbytes : (xs.length + m) * bytes ≤ 140737488355328) (hbase : base ≤ w.heap.size) :
    ∃ v' w', (Builtin.append_ #[t, t] ty #[v, .slice (some a) m c]).run P w = .ok v' w' ∧ RowF w' base e v' (xs ++ news) ∧ Below base w w' ∧ Oth0 e w w' := by
  obtain ⟨g, cap, cur, fr, rfl, hb, hg, hf, hs, hn, hc, htk⟩ := hv
  by_cases hroom : xs.length + m ≤ cap
  · have hcell : ∀ j, j < news.length → (w.cell? ⟨g, 0 + xs.length * i.size + j, none⟩).isSome = true := by
      intro j hj
      rw [cell_of_heap hg, hsize, Array.getElem?_eq_getElem (by omega)]
      rfl
    have hfr : ∀ j, j < news.length → w.frozen? ⟨g, 0 + xs.length * i.size + j, none⟩ = false := by
      intro j hj
      rw [hsize]
      exact hf _ (by omega)
    have hrun := run_append_room_cells (P := P) w t ty e i ht hi g 0 xs.length cap a m c news (by rw [hsize]; omega) hnews h1 hroom hcell hfr
    have hpl : (cur.toList.take xs.length).length = xs.length := by rw [htk]
    have e2 : (cur.toList.take xs.length ++ (cur.toList.drop xs.length).take m ++ cur.toList.drop (xs.length + m)).toArray = cur := by
      rw [List.append_assoc, ← List.drop_drop, List.take_append_drop, List.take_append_drop, Array.toArray_toList]
    have e1 := setMany_part (cur.toList.take xs.length) ((cur.toList.drop xs.length).take m) (cur.toList.drop (xs.length + m)) news (by rw [List.length_take, List.length_drop, Array.length_toList]; omega)
    rw [e2, hpl, htk] at e1
    have ep : 0 + xs.length * i.size = xs.length := by rw [hsize]; omega
    rw [ep] at hrun
    refine ⟨_, _, hrun, ⟨g, cap, setMany cur xs.length news, fr, by rw [List.length_append, hl], hb, heap_setCells_fr g e fr news _ cur w hg, ?_, ?_, by rw [List.length_append]; omega, hc, ?_⟩, ?_⟩
    · intro j hj
      rw [World.frozen?_setCells]
      exact hf j hj
    · rw [e1]
      simp only [List.size_toArray, List.length_append, List.length_drop, Array.length_toList]
      omega
    · rw [e1]
      exact List.take_left
    · refine ⟨Below.setCells (Below.refl _ _) hb _ _, fun k o ho h0 => (heap_setCells_other g k (fun e1 => ?_) _ _ _).trans h0⟩
      subst e1
      rw [hg] at h0
      exact ho _ _ (Option.some.inj h0).symm
  · have hm : 0 < m := by omega
    obtain ⟨v', w', hrun, ho, hgr⟩ := run_append_arg_grows (P := P) w t ty e i z 1 bytes ht hi hz hsize hby hzs (by omega) ⟨g, 0, none⟩ xs.length cap xs (by omega)
      (fun j u hj => by
        have hj' := (List.getElem?_eq_some_iff.1 hj).1
        rw [Addr.add_lit, Nat.zero_add, cell_of_heap hg]
        have : (cur.toList.take xs.length)[j]? = some u := by rw [htk]; exact hj
        rw [List.getElem?_take, if_pos hj'] at this
        simpa using this)
      a m c news (by omega) hnews (by omega) h63 hbytes
    refine ⟨v', w', hrun, ?_, Below.grown (Below.refl _ _) hgr hbase (by simp), fun k o _ h0 => (hgr.block k (Array.getElem?_eq_some_iff.1 h0).1 (by simp)).trans h0⟩
    have hll : (xs ++ news).length = xs.length + m := by rw [List.length_append, hl]
    have ho' : w'.ownsRow w.heap.size e 1 v' (xs ++ news).length (xs ++ news) := by rw [hll]; exact ho
    obtain ⟨g', cap', cur', fr', r1, r2, r3, r4, r5, r6, r7, r8⟩ := RowF.of_owns ho' (by omega)
    exact ⟨g', cap', cur', fr', r1, by omega, r3, r4, r5, r6, r7, r8⟩

/-- 'append' of a text to such a row -/
theorem run_append_rowF_string {P : Program} (w : World) (base : Nat) (t u ty e : TypeId) (i : TypeInfo) (ht : P.underlying t = some (.slice e)) (hu : P.underlying u = some .string) (hi : P.info? e = some i) (hz : i.zero = some (.int .u8 0))
    (hsize : i.size = 1) (hby : i.bytes = 1) (v : Value) (xs : List Value) (hv : RowF w base e v xs) (s : ByteArray)
    (h63 : xs.length + s.size ≤ maxLen) (hbytes : xs.length + s.size ≤ 140737488355328) (hbase : base ≤ w.heap.size) :
    ∃ v' w', (Builtin.append_ #[t, u] ty #[v, .string s]).run P w = .ok v' w' ∧ RowF w' base e v' (xs ++ strCells s) ∧ Below base w w' ∧ Oth0 e w w' := by
  have hv0 := hv
  obtain ⟨g, cap, cur, fr, rfl, hb, hg, hf, hs, hn, hc, htk⟩ := hv
  by_cases hroom : xs.length + s.size ≤ cap
  · have hfr : ∀ j, j < cur.size → ¬ (fr.1 ≤ j ∧ j < fr.2) := by
      intro j hj
      have h := hf j (by omega)
      obtain ⟨lo, hi'⟩ := fr
      simp only [World.frozen?, hg, Bool.and_eq_false_iff, decide_eq_false_iff_not] at h
      simp only
      omega
    have hf1 := run_firstCells_string (P := P) w 1 s
    have hst := run_storeCells_rowM P g xs.length e fr (strCells s) 0 cur w hg hfr (by simp [strCells_length]; omega) (strCells_oneCell s)
    simp only [Nat.add_zero, strCells_length] at hst
    have hr : (Builtin.append_ #[t, u] ty #[.slice (some ⟨g, 0, none⟩) xs.length cap, .string s]).run P w = .ok (.slice (some ⟨g, 0, none⟩) (xs.length + s.size) cap) (w.setRow g (cur.toList.take xs.length ++ strCells s ++ cur.toList.drop (xs.length + s.size)).toArray) := by
      simp [Builtin.append_, run_underlying ht, run_underlying hu, sizeOf, typeInfo, hi, hsize, Builtin.lenOf, hroom, hf1, Addr.add_lit, hst]
    refine ⟨_, _, hr, ⟨g, cap, _, fr, by rw [List.length_append, strCells_length], hb, setRow_heap w g cur _ e _ hg, ?_, ?_, by rw [List.length_append, strCells_length]; omega, hc, ?_⟩, ?_⟩
    · intro j hj
      have h := hfr j (by omega)
      obtain ⟨lo, hi'⟩ := fr
      simp only [World.frozen?, setRow_heap w g cur _ e _ hg, Bool.and_eq_false_iff, decide_eq_false_iff_not]
      simp only at h
      omega
    · simp only [List.size_toArray, List.length_append, List.length_take, List.length_drop, Array.length_toList, strCells_length]
      omega
    · rw [htk]
      have hl : (xs ++ strCells s).length = xs.length + s.size := by rw [List.length_append, strCells_length]
      simp only [← hl]
      exact List.take_left
    · refine ⟨⟨rfl, rfl, rfl, by simp, fun k hk => setRow_other w g k _ (fun e => by omega)⟩, fun k o ho h0 => (setRow_other w g k _ (fun e1 => ?_)).trans h0⟩
      subst e1
      rw [hg] at h0
      exact ho _ _ (Option.some.inj h0).symm
  · have hr := run_append_grow_string (P := P) w t u ty e i (.int .u8 0) ht hu hi hz ⟨g, 0, none⟩ xs.length cap xs (by rw [hsize]; omega) (fun j v hj => by
      have hj' := (List.getElem?_eq_some_iff.1 hj).1
      rw [Addr.add_lit, Nat.zero_add, Lib.cell_of_heap hg]
      have : (cur.toList.take xs.length)[j]? = some v := by rw [htk]; exact hj
      rw [List.getElem?_take, if_pos hj'] at this
      simpa using this) s (by omega) (by omega) (by rw [hby]; exact growslice_fits (by omega) (by omega))
    have hge := grownCap_ge w (xs.length + s.size) cap e
    have hcm2 : grownCap w (xs.length + s.size) cap e ≤ maxLen := grownCap_le_maxLen w (xs.length + s.size) cap e h63
    have hz1 : (Value.int IntKind.u8 0).cells.size = 1 := rfl
    refine ⟨_, _, hr, ⟨w.heap.size, _, _, (0, 0), by rw [List.length_append, strCells_length], hbase, heap_alloc_new w.drew _, fun j _ => Lib.frozen_of_heap (heap_alloc_new w.drew _) j, ?_, by rw [List.length_append, strCells_length]; exact hge, hcm2, ?_⟩, (Below.drew (Below.refl _ _)).alloc hbase _, fun k o _ h0 => (Lib.alloc_old w.drew _ k (Array.getElem?_eq_some_iff.1 h0).1).trans h0⟩
    · simp only [Array.size_append, List.size_toArray, size_zeroCells, hz1, strCells_length]
      omega
    · simp only [Array.toList_append, List.append_assoc]
      rw [← List.append_assoc]
      exact List.take_left

theorem wpList_append_rowF_string {P : Program} {ops : Array Oper} {rest : List Oper} {o : Oper} {a : Act} {w : World} {Q : Exit → Act → World → Prop} (hgd : o.guard = none) (sl x : Operand) (t u : TypeId)
    (ho : o.op = .call { callee := .builtin .append, args := #[sl, x], argTypes := #[t, u] })
    (base : Nat) (e : TypeId) (i : TypeInfo) (ht : P.underlying t = some (.slice e)) (hu : P.underlying u = some .string) (hi : P.info? e = some i) (hz : i.zero = some (.int .u8 0))
    (hsize : i.size = 1) (hby : i.bytes = 1) (v : Value) (xs : List Value) (hs : a.eval sl = v) (hv : RowF w base e v xs) (s : ByteArray) (hx : a.eval x = .string s)
    (h63 : xs.length + s.size ≤ maxLen) (hbytes : xs.length + s.size ≤ 140737488355328) (hbase : base ≤ w.heap.size)
    (h : ∀ v' w', RowF w' base e v' (xs ++ strCells s) → Below base w w' → Oth0 e w w' → wpList P ops Q rest (a.put o.dst v') w') : wpList P ops Q (o :: rest) a w := by
  refine wpList_plain hgd fun K hK => ?_
  obtain ⟨v', w', hr, h2, h3, h4⟩ := run_append_rowF_string (P := P) w base t u o.type e i ht hu hi hz hsize hby v xs hv s h63 hbytes hbase
  unfold Oper.wp execOp
  simp only [ho, resolve, invoke, builtin, Sem.run_bind, Sem.run_pure, Result.andThen_ok, List.map_toArray, List.map_cons, List.map_nil, hs, hx, hr]
  exact hK _ _ (h v' w' h2 h3 h4)

theorem step_append_rowF_string {P : Program} {ops : Array Oper} {o : Oper} {a : Act} {w : World} {K : Act → World → Prop} {Q : Exit → Act → World → Prop} {E : Prop} (hgd : o.guard = none) (sl x : Operand) (t u : TypeId)
    (ho : o.op = .call { callee := .builtin .append, args := #[sl, x], argTypes := #[t, u] })
    (base : Nat) (e : TypeId) (i : TypeInfo) (ht : P.underlying t = some (.slice e)) (hu : P.underlying u = some .string) (hi : P.info? e = some i) (hz : i.zero = some (.int .u8 0))
    (hsize : i.size = 1) (hby : i.bytes = 1) (v : Value) (xs : List Value) (hs : a.eval sl = v) (hv : RowF w base e v xs) (s : ByteArray) (hx : a.eval x = .string s)
    (h63 : xs.length + s.size ≤ maxLen) (hbytes : xs.length + s.size ≤ 140737488355328) (hbase : base ≤ w.heap.size)
    (h : ∀ v' w', RowF w' base e v' (xs ++ strCells s) → Below base w w' → Oth0 e w w' → K (a.put o.dst v') w') : if Region.wanted o (yielded ops a.tmps) = true then Oper.wp P o a w K Q else E := by
  have hw : Region.wanted o (yielded ops a.tmps) = true := by simp [Region.wanted, hgd]
  rw [if_pos hw]
  obtain ⟨v', w', hr, h2, h3, h4⟩ := run_append_rowF_string (P := P) w base t u o.type e i ht hu hi hz hsize hby v xs hv s h63 hbytes hbase
  unfold Oper.wp execOp
  simp only [ho, resolve, invoke, builtin, Sem.run_bind, Sem.run_pure, Result.andThen_ok, List.map_toArray, List.map_cons, List.map_nil, hs, hx, hr]
  exact h v' w' h2 h3 h4

theorem wpList_append_rowF2 {P : Program} {ops : Array Oper} {rest : List Oper} {o : Oper} {a : Act} {w : World} {Q : Exit → Act → World → Prop} (hgd : o.guard = none) (s x : Operand) (t : TypeId)
    (ho : o.op = .call { callee := .builtin .append, args := #[s, x], argTypes := #[t, t] })
    (base : Nat) (e : TypeId) (i : TypeInfo) (z : Value) (bytes : Nat) (ht : P.underlying t = some (.slice e)) (hi : P.info? e = some i) (hz : i.zero = some z)
    (hsize : i.size = 1) (hby : i.bytes = bytes) (hzs : z.cells.size = 1) (v : Value) (xs : List Value) (hs : a.eval s = v) (hv : RowF w base e v xs)
    (ad : Addr) (m c : Nat) (news : List Value) (hx : a.eval x = .slice (some ad) m c) (hl : news.length = m) (hnews : ∀ j u, news[j]? = some u → w.cell? (ad.add j) = some u) (h1 : ∀ u ∈ news, u.oneCell' = true)
    (h63 : xs.length + m ≤ maxLen) (hbytes : (xs.length + m) * bytes ≤ 140737488355328) (hbase : base ≤ w.heap.size)
    (h : ∀ v' w', RowF w' base e v' (xs ++ news) → Below base w w' → Oth0 e w w' → wpList P ops Q rest (a.put o.dst v') w') : wpList P ops Q (o :: rest) a w := by
  obtain ⟨v', w', hr, h2, h3, h4⟩ := run_append_rowF2 (P := P) w base t o.type e i z bytes ht hi hz hsize hby hzs v xs hv ad m c news hl hnews h1 h63 hbytes hbase
  refine wpList_plain hgd fun K hK => ?_
  unfold Oper.wp execOp
  simp only [ho, resolve, invoke, builtin, Sem.run_bind, Sem.run_pure, Result.andThen_ok, List.map_toArray, List.map_cons, List.map_nil, hs, hx, hr]
  exact hK _ _ (h v' w' h2 h3 h4)


end Go.Proofs.YtlmopjbfagijeaaGreatDoor.Sc

namespace Go.Proofs.YtlmopjbfagijeaaGreatDoor.Sc
open Go.RowKit Go.Lib Go.Deep

set_option maxRecDepth 20000 in
theorem rNumber_any (n : Int) (hn : I64 n) (w : World) (h : ITab w) :
    Calls Tryz.prog 42 #[.int .i64 n] w fun e w' => e = .returned (.string (str (itoa n))) ∧ Below w.heap.size w w' := by
  have h0 := itoa_any n hn w h
  go_enter Tryz.func42, Tryz.ntmps42
  go_wp2_with (go_at_call 87; refine h0.mono ?_; rintro e w1 ⟨rfl, hb1⟩)
  go_ret
  exact ⟨rfl, hb1⟩

set_option maxRecDepth 20000 in
theorem plain_any (c : UInt8) (w : World) : Calls Tryz.prog 105 #[.int .u8 (c.toNat : Int)] w fun e w' => e = .returned (.bool (plN c.toNat)) ∧ w' = w := by
  obtain ⟨R, hR⟩ : ∃ R, plN c.toNat = R := ⟨_, rfl⟩
  rw [hR]
  have HR : Hid (plN c.toNat = R) := hR
  clear hR
  generalize c.toNat = n at HR
  go_enter Tryz.func105, Tryz.ntmps105
  go_wp2
  all_goals
    go_ret
    refine ⟨?_, rfl⟩
    rw [← HR.out]
    refine congrArg (fun b => Ending.returned (.bool b)) (Bool.eq_iff_iff.2 ?_)
    simp [plN]
    omega

theorem three_cells (w : World) (x y z : Value) : ∀ j u, [x, y, z][j]? = some u → (w.alloc (.cells #[x, y, z] 5)).cell? ((⟨w.heap.size, 0, none⟩ : Addr).add j) = some u := by
  intro j u h
  exact cells_new w #[x, y, z] 5 j u (by simpa using h)

set_option maxRecDepth 20000 in
set_option maxHeartbeats 2000000 in
theorem written_any (s : ByteArray) (hs : s.size ≤ 8388608) (w : World) :
    Calls Tryz.prog 64 #[.string s] w fun e w' => e = .returned (.string (str (byL s))) ∧ Below w.heap.size w w' := by
  have hl : s.data.toList.length = s.size := (size_eq s).symm
  obtain ⟨n, hn⟩ : ∃ n, s.size = n := ⟨_, rfl⟩
  rw [hn] at hl hs
  have HS : Hid (s.size = n) := hn
  have hcv : ∀ W : World, (convert 51 51 (.slice (some ⟨W.heap.size, 0, none⟩) 1 1)).run Tryz.prog (W.alloc (.cells #[.int .u8 61] 5)) = .ok (.slice (some ⟨W.heap.size, 0, none⟩) 1 1) (W.alloc (.cells #[.int .u8 61] 5 (1, 2))) :=
    fun W => run_convert_bytes_const W 51 5 #[.int .u8 61] 1 1 Tryz.underlying51 Tryz.underlying5
  have hR0 : RowF (w.alloc (.cells #[.int .u8 61] 5 (1, 2))) w.heap.size 5 (.slice (some ⟨w.heap.size, 0, none⟩) 1 1) (byteCells (61 :: wrL (s.data.toList.take 0))) :=
    ⟨w.heap.size, 1, _, (1, 2), rfl, Nat.le_refl _, heap_alloc_new _ _, fun j hj => frozen_before (heap_alloc_new _ _) hj, rfl, Nat.le_refl _, by unfold maxLen; omega, rfl⟩
  obtain ⟨i0, hi, hz0, hz1, hz2⟩ := info_parts info5
  go_enter Tryz.func64, Tryz.ntmps64
  go_wp2
  go_loopg [3, 4] n (fun gk v i wr => ∃ k : Nat, k + gk = n ∧ i = .int .i64 (k : Int) ∧ RowF wr w.heap.size 5 v (byteCells (61 :: wrL (s.data.toList.take k))) ∧ Hid (Below w.heap.size w wr))
  case atStart => exact ⟨0, by omega, rfl, hR0, (Below.refl _ _).alloc (Nat.le_refl _) _⟩
  case round =>
    obtain ⟨k, hk, rfl, hown, HB⟩ := hrel
    have HK : Hid (k + gk = n) := hk
    have hk' : k ≤ n := by omega
    clear hk hR0
    by_cases hlt : k < n
    · have hltI : (k : Int) < (n : Int) := by omega
      obtain ⟨c, hc⟩ : ∃ c, s.data.toList[k]? = some c := ⟨_, List.getElem?_eq_getElem (by omega)⟩
      have hix := fun W => index_at (P := Tryz.prog) W 9 s .i64 k c Tryz.underlying9 hc
      have hst := wrL_take s.data.toList k c hc
      have hpl := plain_any c wr
      have hbs := HB.out.size
      have hll : (61 :: wrL (s.data.toList.take k)).length ≤ 1 + 3 * n := by
        have := wrL_len (s.data.toList.take k)
        rw [List.length_take] at this
        simp only [List.length_cons]
        omega
      have hlb : (byteCells (61 :: wrL (s.data.toList.take k))).length = (61 :: wrL (s.data.toList.take k)).length := byteCells_len _
      have hml : (byteCells (61 :: wrL (s.data.toList.take k))).length + 3 ≤ maxLen := by unfold maxLen; omega
      clear hc
      by_cases hp : plN c.toNat = true
      · rw [hp] at hpl
        rw [one, if_pos hp] at hst
        have hone : ∀ u ∈ [Value.int .u8 (c.toNat : Int)], u.oneCell' = true := by simp [Value.oneCell']
        go_wp2_with (go_at_call 105; refine hpl.mono ?_)
        rintro e w3 ⟨rfl, rfl⟩
        go_wp2_with (at_builtin; refine wpList_append_rowF rfl _ _ 51 rfl w.heap.size 5 i0 (.int .u8 0) 1 Tryz.underlying51 hi hz0 hz1 hz2 rfl _ _ rfl (hown.alloc _) ⟨w3.heap.size, 0, none⟩ 1 1 [.int .u8 (c.toNat : Int)] rfl rfl (one_cell w3 _) hone (by omega) (by omega) (by simp; omega) ?_)
        intro v' w4 hown' hb4
        have HB4 : Hid (Below w.heap.size w w4) := (HB.out.alloc hbs _).trans hb4
        have HR : Hid (RowF w4 w.heap.size 5 v' (byteCells (61 :: wrL (s.data.toList.take (k + 1))))) := by
          show RowF _ _ _ _ _
          rw [hst, ← List.cons_append, byteCells_append]
          exact hown'
        clear hown' hown hix hb4
        go_wp2
        go_roundg (gk - 1)
        case measure => have := HK.out; omega
        case rel => exact ⟨k + 1, by have := HK.out; omega, by go_num, HR.out, HB4⟩
      · have hp : plN c.toNat = false := by simpa using hp
        rw [hp] at hpl
        rw [one, if_neg (by rw [hp]; decide)] at hst
        have hn := c.toNat_lt
        have hx1 := fun w => index_at (P := Tryz.prog) w 9 digs .u8 (c.toNat / 16) (dig (c.toNat / 16)) Tryz.underlying9 (by have := digs_at (c.toNat / 16) (by omega); simpa using this)
        have hx2 := fun w => index_at (P := Tryz.prog) w 9 digs .u8 (c.toNat % 16) (dig (c.toNat % 16)) Tryz.underlying9 (by have := digs_at (c.toNat % 16) (by omega); simpa using this)
        unfold digs at hx1 hx2
        rw [show ((c.toNat / 16 : Nat) : Int) = (c.toNat : Int) / 16 by omega] at hx1
        rw [show ((c.toNat % 16 : Nat) : Int) = (c.toNat : Int) % 16 by omega] at hx2
        have hq : (c.toNat : Int).tdiv 16 = (c.toNat : Int) / 16 := Int.tdiv_eq_ediv_of_nonneg (by omega)
        have hr : (c.toNat : Int).tmod 16 = (c.toNat : Int) % 16 := Int.tmod_eq_emod_of_nonneg (by omega)
        have hw1 : IntKind.u8.wrap ((c.toNat : Int) / 16) = (c.toNat : Int) / 16 := by rw [IntKind.wrap_u8']; omega
        have hw2 : IntKind.u8.wrap ((c.toNat : Int) % 16) = (c.toNat : Int) % 16 := by rw [IntKind.wrap_u8']; omega
        have hone : ∀ u ∈ [Value.int .u8 37, Value.int .u8 ((dig (c.toNat / 16)).toNat : Int), Value.int .u8 ((dig (c.toNat % 16)).toNat : Int)], u.oneCell' = true := by
          intro u hu
          simp only [List.mem_cons, List.not_mem_nil, or_false] at hu
          rcases hu with rfl | rfl | rfl <;> rfl
        go_wp2_with (go_at_call 105; refine hpl.mono ?_)
        rintro e w3 ⟨rfl, rfl⟩
        go_wp2_with fail
        go_region_law (refine step_append_rowF rfl (.tmp 23) (.tmp 34) 51 rfl w.heap.size 5 i0 (.int .u8 0) 1 Tryz.underlying51 hi hz0 hz1 hz2 rfl _ _ (by simp [Act.eval]) (hown.alloc _) ⟨w3.heap.size, 0, none⟩ 3 3 [.int .u8 37, .int .u8 ((dig (c.toNat / 16)).toNat : Int), .int .u8 ((dig (c.toNat % 16)).toNat : Int)] (by simp [Act.eval]) rfl (three_cells w3 _ _ _) hone (by omega) (by omega) (by simp; omega) ?_; intro v' w4 hown' hb4)
        all_goals
          have HB4 : Hid (Below w.heap.size w w4) := (Below.drew (HB.out.alloc hbs _)).trans hb4
          have HR : Hid (RowF w4 w.heap.size 5 v' (byteCells (61 :: wrL (s.data.toList.take (k + 1))))) := by
            show RowF _ _ _ _ _
            rw [hst, ← List.cons_append, byteCells_append]
            exact hown'
          clear hown' hown hix hx1 hx2 hb4
          go_wp2
          go_roundg (gk - 1)
          case measure => have := HK.out; omega
          case rel => exact ⟨k + 1, by have := HK.out; omega, by go_num, HR.out, HB4⟩
    · obtain rfl : k = n := by omega
      have hltI : ¬ (k : Int) < (k : Int) := by omega
      rw [List.take_of_length_le (by omega)] at hown
      have hcv2 := convert_rowF (P := Tryz.prog) wr 51 9 5 w.heap.size _ (61 :: wrL s.data.toList) Tryz.underlying51 Tryz.underlying5 Tryz.underlying9 hown
      clear hcv
      go_wp2
      go_ret
      exact ⟨rfl, HB.out⟩
end Go.Proofs.YtlmopjbfagijeaaGreatDoor.Sc
