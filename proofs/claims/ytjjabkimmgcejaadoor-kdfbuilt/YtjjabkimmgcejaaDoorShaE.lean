import Derived.Test.YtjjabkimmgcejaaDoorShaD
import Derived.BigQuiet
namespace Go.Proofs.YtjjabkimmgcejaaDoor
open Go.RowKit Go.Lib Go.Deep

/-- the two tables, as the program's text lays them -/
structure Tabs (w : World) : Prop where
  fw : w.rangeAt 0 0 (u32L first.list)
  sw : w.rangeAt 1 0 (u32L kk)

theorem u32L_at (l : List Nat) (i : Nat) (h : i < l.length) : (u32L l)[i]? = some (.int .u32 ((l.getD i 0 : Nat) : Int)) := by
  simp [u32L, List.getD_eq_getElem?_getD, h]
theorem Tabs.cell {w : World} (h : Tabs w) (i : Nat) (hi : i < 64) : w.cell? ⟨1, i, none⟩ = some (.int .u32 ((kk.getD i 0 : Nat) : Int)) := by
  have := h.sw i _ (u32L_at kk i (by rw [kk_length]; exact hi))
  simpa using this
theorem Tabs.size {w : World} (h : Tabs w) : 2 ≤ w.heap.size := by
  have h1 := block_lt_of_cell (h.cell 0 (by omega))
  have h2 := block_lt_of_cell (h.fw 0 _ (u32L_at first.list 0 (by decide)))
  simp only at h1 h2
  omega
theorem Tabs.kept {w w' : World} (h : Tabs w) (hb : ∀ k, k < 2 → w'.heap[k]? = w.heap[k]?) : Tabs w' := by
  constructor
  · intro j v hv
    rw [World.cell?_of_block (hb 0 (by omega))]
    exact h.fw j v hv
  · intro j v hv
    rw [World.cell?_of_block (hb 1 (by omega))]
    exact h.sw j v hv
theorem Tabs.below {w w' : World} {B : Nat} (h : Tabs w) (hb : Below B w w') (hB : 2 ≤ B) : Tabs w' := h.kept fun k hk => hb.block k (by omega)

theorem index_agg {P : Program} (w : World) (t e : TypeId) (n : Nat) (cs : Array Value) (k kd : IntKind) (i : Nat) (v : Value) (h : P.underlying t = some (.array n e)) (he : P.underlying e = some (.int kd)) (hs : (P.info? e).map (·.size) = some 1)
    (hi : i < n) (hv : cs[i]? = some v) : (Instr.index t (.agg cs) (.int k (i : Int))).run P w = .ok v w := by
  have hagg : (isAgg e).run P w = .ok false w := by
    unfold isAgg
    rw [Sem.run_bind, run_underlying he w]
    rfl
  cases hq : P.info? e with
  | none => simp [hq] at hs
  | some q =>
    have hz : q.size = 1 := by simpa [hq] using hs
    simp [Instr.index, asIntOf, run_underlying h, hi, sizeOf, typeInfo, hq, hz, part, hagg, hv]

theorem big1_quiet (x : Nat) (w : World) (hx : x < 4294967296) : Calls Tryd.prog 54 #[.int .u32 (x : Int)] w fun e w' => e = .returned (.int .u32 (big1 x : Int)) ∧ w' = w :=
  (big1_any x w hx).mono fun _ _ ⟨h1, h2⟩ => ⟨h1, h2.symm⟩

/-- what mixedWith holds in memory -/
structure Mx (w : World) (s : W8) (ws : List Nat) (n5 : Nat) (wr : World) : Prop where
  old : wr.heap[w.heap.size]? = some (.cells (u32s s.list) 64 (0, 0))
  res : ∃ z8 : Array Value, z8.size = 8 ∧ wr.heap[w.heap.size + 1 + 1]? = some (.cells z8 64 (0, 0))
  spread : wr.heap[n5]? = some (.cells (u32s ws) 87 (0, 0))
  bel : Below w.heap.size w wr
  tabs : Tabs wr

theorem Mx.drewN {w : World} {s : W8} {ws : List Nat} {n5 : Nat} {wr : World} (h : Mx w s ws n5 wr) (n : Nat) : Mx w s ws n5 (wr.drewN n) :=
  ⟨h.old, h.res, h.spread, ⟨h.bel.os, h.bel.tape, h.bel.output, h.bel.size, h.bel.block⟩, ⟨h.tabs.fw, h.tabs.sw⟩⟩

end Go.Proofs.YtjjabkimmgcejaaDoor
