import Derived.Test.YthmjjpaengackaaPcA
namespace Go.Proofs.Ythmjjpaengackaa.Po
open Go.RowKit Go.Lib Go.Deep

theorem put3R {w : World} {g : Nat} {a b c : Value} {ty : TypeId} (h : w.heap[g]? = some (.cells #[a, b, c] ty (0, 0))) {x y z : Value} : (((w.setCell ⟨g, 0, none⟩ x).setCell ⟨g, 1, none⟩ y).setCell ⟨g, 2, none⟩ z).heap[g]? = some (.cells #[x, y, z] ty (0, 0)) :=
  (heap_setCell_fr _ _ _ _ _ _ _ ((heap_setCell_fr _ _ _ _ _ _ _ ((heap_setCell_fr _ _ _ _ _ _ _ h).trans rfl)).trans rfl)).trans rfl
set_option maxRecDepth 20000 in
set_option maxHeartbeats 2000000 in
theorem rcopy_any (w : World) (q h : Nat) (mv : Value) (room Q : List Nat) (c4 : w.cell? ⟨q, 4, none⟩ = some mv) (c5 : w.cell? ⟨q, 5, none⟩ = some (.int .i64 (h : Int))) (c6 : w.cell? ⟨q, 6, none⟩ = some (.int .i64 (Q.length : Int)))
    (hm : w.ownsRow 0 3 1 mv room.length (nsC room)) (hr : Rng room h Q) (hl : room.length ≤ 200000) :
    Calls Try.prog 57 #[.pointer (some ⟨q, 4, none⟩)] w fun e w' => ∃ a c, e = .returned (.agg #[.slice a Q.length c, .int .i64 0, .int .i64 (Q.length : Int)]) ∧ w'.ownsRow w.heap.size 3 1 (.slice a Q.length c) Q.length (nsC Q) ∧ Below w.heap.size w w' := by
  obtain ⟨W, hW, hb, k0⟩ := one_new w #[.slice none 0 0, .int .i64 0, .int .i64 0] 72
  have hbd := hb.drew
  have d4 : W.drew.cell? ⟨q, 4, none⟩ = some mv := (hbd.cell (p := ⟨q, 4, none⟩) (World.block_lt_of_cell? w _ c4)).trans c4
  have d5 : W.drew.cell? ⟨q, 5, none⟩ = some (.int .i64 (h : Int)) := (hbd.cell (p := ⟨q, 5, none⟩) (World.block_lt_of_cell? w _ c5)).trans c5
  have d6 : W.drew.cell? ⟨q, 6, none⟩ = some (.int .i64 (Q.length : Int)) := (hbd.cell (p := ⟨q, 6, none⟩) (World.block_lt_of_cell? w _ c6)).trans c6
  have hls := list_any W.drew q h mv room Q d4 d5 d6 (owns_below hm hbd) hr hl
  have HX : Hid (∀ w2 v, w2.ownsRow W.drew.heap.size 3 1 v Q.length (nsC Q) → Below W.drew.heap.size W.drew w2 → ∃ a c, v = .slice a Q.length c ∧ w2.cell? ⟨q, 6, none⟩ = some (.int .i64 (Q.length : Int)) ∧ w2.cell? ⟨w.heap.size, 0, none⟩ = some (.slice none 0 0) ∧ w2.cell? ⟨w.heap.size, 1, none⟩ = some (.int .i64 0) ∧ w2.cell? ⟨w.heap.size, 2, none⟩ = some (.int .i64 0) ∧ w2.frozen? ⟨w.heap.size, 0, none⟩ = false ∧ w2.frozen? ⟨w.heap.size, 1, none⟩ = false ∧ w2.frozen? ⟨w.heap.size, 2, none⟩ = false ∧
      Hid (w2.heap[w.heap.size]? = some (.cells #[.slice none 0 0, .int .i64 0, .int .i64 0] 72 (0, 0))) ∧ Hid (∀ U : World, (∃ x y z, U.heap = (((w2.setCell ⟨w.heap.size, 0, none⟩ x).setCell ⟨w.heap.size, 1, none⟩ y).setCell ⟨w.heap.size, 2, none⟩ z).heap) → U.os = w2.os → U.tape = w2.tape → U.output = w2.output → U.ownsRow w.heap.size 3 1 v Q.length (nsC Q) ∧ Below w.heap.size w U)) := fun w2 v ho hb2 => by
    obtain ⟨a, c, rfl⟩ := owns_form ho
    have k2 := (hb2.block _ (heap_lt k0)).trans k0
    have lt := heap_lt k0
    have hbw : Below w.heap.size w w2 := hbd.trans (hb2.mono hbd.size)
    refine ⟨a, c, rfl, (hbw.cell (p := ⟨q, 6, none⟩) (World.block_lt_of_cell? w _ c6)).trans c6, (cell_of_heap k2).trans rfl, (cell_of_heap k2).trans rfl, (cell_of_heap k2).trans rfl, frozen_of_heap k2, frozen_of_heap k2, frozen_of_heap k2, k2, fun U ⟨x, y, z, e1⟩ e2 e3 e4 => ?_⟩
    have keep : ∀ k, k ≠ w.heap.size → U.heap[k]? = w2.heap[k]? := fun k hk => by
      rw [e1, heap_setCell_other _ _ _ _ hk, heap_setCell_other _ _ _ _ hk, heap_setCell_other _ _ _ _ hk]
    refine ⟨owns_keep (owns_base ho hbd.size) fun g hg => keep g (fun e => ?_), e2.trans hbw.os, e3.trans hbw.tape, e4.trans hbw.output, ?_, fun k hk => (keep k (by omega)).trans (hbw.block k hk)⟩
    · have := (ho.lt g hg).1
      have l2 : W.drew.heap.size = W.heap.size := rfl
      omega
    · rw [e1]
      simp
      exact hbw.size
  clear hm hr hl c4 c5 c6 hb hbd k0 d4 d5
  go_enter Try.func57, Try.ntmps57
  go_wp2_with fail
  go_region_with (go_at_call 51; refine hls.mono ?_; rintro e w2 ⟨v, rfl, ho, hb2⟩; obtain ⟨a, c, rfl, x6, y0, y1, y2, f0, f1, f2, HK, HU⟩ := HX.out w2 v ho hb2; clear ho hb2)
  all_goals
    go_wp2
    refine bodyPost_ret (Tr.results_cell1 rfl _ _ w.heap.size 72 _ (0, 0) _ rfl (put3R HK.out) Try.underlying72 rfl sizeRg) rfl ?_
    obtain ⟨h1, h2⟩ := HU.out _ ⟨_, _, _, rfl⟩ rfl rfl rfl
    exact ⟨_, _, rfl, h1, h2⟩
end Go.Proofs.Ythmjjpaengackaa.Po
