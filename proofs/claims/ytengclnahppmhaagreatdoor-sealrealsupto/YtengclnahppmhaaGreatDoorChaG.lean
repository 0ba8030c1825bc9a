import Derived.Test.YtengclnahppmhaaGreatDoorChZ1
namespace Go.Proofs.YtengclnahppmhaaGreatDoor.Cha
open Go.RowKit Go.Lib Go.Deep

/-- an array of arrays, indexed -/
theorem index_agg_row {P : Program} (w : World) (t e : TypeId) (n m : Nat) (cs : Array Value) (k : IntKind) (i : Nat) (c : Array Value) (h : P.underlying t = some (.array n e)) (d : TypeDesc) (he : P.underlying e = some d) (hd : d.isRow = true) (hs : (P.info? e).map (·.size) = some m)
    (hi : i < n) (hv : cs.extract (i * m) (i * m + m) = c) : (Instr.index t (.agg cs) (.int k (i : Int))).run P w = .ok (.agg c) w := by
  have hagg : (isAgg e).run P w = .ok true w := by
    unfold isAgg
    rw [Sem.run_bind, run_underlying he w]
    cases d <;> simp_all [TypeDesc.isRow]
  cases hq : P.info? e with
  | none => simp [hq] at hs
  | some q =>
    have hz : q.size = m := by simpa [hq] using hs
    simp [Instr.index, asIntOf, run_underlying h, hi, sizeOf, typeInfo, hq, hz, part, hagg, hv]

/-- what mixed holds in memory -/
structure Mz (w wr : World) (st : List Nat) : Prop where
  own : wr.heap[w.heap.size]? = some (.cells (u32s st) 181 (0, 0))
  res : ∃ z : Array Value, z.size = 16 ∧ wr.heap[w.heap.size + 1]? = some (.cells z 181 (0, 0))
  bel : Below w.heap.size w wr
  tabs : CTabs wr
  three : 8 ≤ w.heap.size

theorem Mz.start (w : World) (s : List Nat) (z : Array Value) (hz : z.size = 16) (hT : CTabs w) (h3 : 8 ≤ w.heap.size) : Mz w ((w.alloc (.cells (u32s s) 181)).alloc (.cells z 181)) s := by
  have hb : Below w.heap.size w ((w.alloc (.cells (u32s s) 181)).alloc (.cells z 181)) := ((Below.refl _ _).alloc (Nat.le_refl _) _).alloc (by simp) _
  refine ⟨?_, ⟨z, hz, ?_⟩, hb, hT.below hb h3, h3⟩
  · rw [Below.heap_alloc _ _ _ (by simp)]
    exact heap_new _ _
  · have h := heap_new (w.alloc (.cells (u32s s) 181)) (.cells z 181)
    simpa using h
theorem Mz.alloc {w wr : World} {st : List Nat} (h : Mz w wr st) (o : Obj) : Mz w (wr.alloc o) st := by
  have l0 := heap_lt h.own
  obtain ⟨z, hz, hr⟩ := h.res
  have l1 := heap_lt hr
  have hb := h.bel.size
  refine ⟨(Below.heap_alloc _ _ _ l0).trans h.own, ⟨z, hz, (Below.heap_alloc _ _ _ l1).trans hr⟩, h.bel.alloc hb _, h.tabs.kept fun k hk => Below.heap_alloc _ _ _ (by have := h.three; omega), h.three⟩
theorem Mz.put {w wr : World} {st : List Nat} (h : Mz w wr st) (i x : Nat) : Mz w (wr.setCell ⟨w.heap.size, i, none⟩ (.int .u32 (x : Int))) (st.set i x) := by
  obtain ⟨z, hz, hr⟩ := h.res
  refine ⟨?_, ⟨z, hz, ?_⟩, h.bel.setCell (Nat.le_refl _) _, h.tabs.kept fun k hk => Below.heap_setCell _ _ _ _ (by have := h.three; simp; omega), h.three⟩
  · rw [← u32s_set]
    exact heap_setCell_same _ _ _ _ _ _ h.own
  · rw [← hr]
    exact Below.heap_setCell _ _ _ _ (by simp)
theorem Mz.drew {w wr : World} {st : List Nat} (h : Mz w wr st) : Mz w wr.drew st := ⟨h.own, h.res, h.bel.drew, ⟨h.tabs.fw, h.tabs.dr⟩, h.three⟩
theorem Mz.cell {w wr : World} {st : List Nat} (h : Mz w wr st) (i : Nat) (hi : i < st.length) : wr.cell? ⟨w.heap.size, i, none⟩ = some (.int .u32 ((st.getD i 0 : Nat) : Int)) := by
  rw [cell_of_heap h.own, u32s_at _ _ hi]
theorem Mz.frozen {w wr : World} {st : List Nat} (h : Mz w wr st) (i : Nat) : wr.frozen? ⟨w.heap.size, i, none⟩ = false := frozen_of_heap h.own

theorem size8x4 : (Tryz.prog.info? 208).map (·.size) = some 32 := by kernel_rfl
theorem size4i : (Tryz.prog.info? 207).map (·.size) = some 4 := by kernel_rfl
theorem plc_rows : ∀ n, n < 8 → (i64s plc).extract (n * 4) (n * 4 + 4) = #[.int .i64 ((plc.getD (4 * n) 0 : Nat) : Int), .int .i64 ((plc.getD (4 * n + 1) 0 : Nat) : Int), .int .i64 ((plc.getD (4 * n + 2) 0 : Nat) : Int), .int .i64 ((plc.getD (4 * n + 3) 0 : Nat) : Int)] := by
  intro n hn
  have : n = 0 ∨ n = 1 ∨ n = 2 ∨ n = 3 ∨ n = 4 ∨ n = 5 ∨ n = 6 ∨ n = 7 := by omega
  rcases this with rfl | rfl | rfl | rfl | rfl | rfl | rfl | rfl <;> rfl
theorem plc_apart : ∀ n, n < 8 → plc.getD (4 * n) 0 ≠ plc.getD (4 * n + 1) 0 ∧ plc.getD (4 * n) 0 ≠ plc.getD (4 * n + 2) 0 ∧ plc.getD (4 * n) 0 ≠ plc.getD (4 * n + 3) 0 ∧ plc.getD (4 * n + 1) 0 ≠ plc.getD (4 * n + 2) 0 ∧ plc.getD (4 * n + 1) 0 ≠ plc.getD (4 * n + 3) 0 ∧ plc.getD (4 * n + 2) 0 ≠ plc.getD (4 * n + 3) 0 := by decide

theorem cell_set_ne (w : World) (B i j : Nat) (v : Value) (h : j ≠ i) : (w.setCell ⟨B, i, none⟩ v).cell? ⟨B, j, none⟩ = w.cell? ⟨B, j, none⟩ :=
  World.cell?_setCell_other w _ _ _ (fun e => h (by cases e; rfl))

end Go.Proofs.YtengclnahppmhaaGreatDoor.Cha
