import Derived.Test.YtckbbbcjpklnmaaDoorIxV2
namespace Go.Proofs.YtckbbbcjpklnmaaDoor.Ix
open Go.RowKit Go.Lib Go.Deep

def zRoot : Array Value := #[.int .i64 0, .int .i64 0, .int .i64 0, .int .i64 0, .int .i64 0, .int .i64 0, .slice none 0 0]
theorem cells6 {W : World} {g : Nat} {t : TypeId} {x0 x1 x2 x3 x4 x5 : Value} (h : W.heap[g]? = some (.cells #[x0, x1, x2, x3, x4, x5] t (0, 0))) : W.cell? ⟨g, 0, none⟩ = some x0 ∧ W.cell? ⟨g, 1, none⟩ = some x1 ∧ W.cell? ⟨g, 2, none⟩ = some x2 ∧ W.cell? ⟨g, 3, none⟩ = some x3 ∧ W.cell? ⟨g, 4, none⟩ = some x4 ∧ W.cell? ⟨g, 5, none⟩ = some x5 :=
  ⟨(cell_of_heap h).trans rfl, (cell_of_heap h).trans rfl, (cell_of_heap h).trans rfl, (cell_of_heap h).trans rfl, (cell_of_heap h).trans rfl, (cell_of_heap h).trans rfl⟩
/-- the block of the answer, written over with nothing -/
theorem zero7 {w W : World} {g : Nat} (h : W.heap[g]? = some (.cells #[.int .i64 0, .int .i64 0, .int .i64 0, .int .i64 0, .int .i64 0, .int .i64 0, .slice none 0 0] 38 (0, 0))) (hb : Below w.heap.size w W) (hg : w.heap.size ≤ g) : W.cell? ⟨g, 0, none⟩ = some (.int .i64 0) ∧ W.cell? ⟨g, 1, none⟩ = some (.int .i64 0) ∧ W.cell? ⟨g, 2, none⟩ = some (.int .i64 0) ∧ W.cell? ⟨g, 3, none⟩ = some (.int .i64 0) ∧ W.cell? ⟨g, 4, none⟩ = some (.int .i64 0) ∧ W.cell? ⟨g, 5, none⟩ = some (.int .i64 0) ∧ W.cell? ⟨g, 6, none⟩ = some (.slice none 0 0) ∧ (∀ j, W.frozen? ⟨g, j, none⟩ = false) ∧
    Hid ((((((((W.setCell ⟨g, 0, none⟩ (.int .i64 0)).setCell ⟨g, 1, none⟩ (.int .i64 0)).setCell ⟨g, 2, none⟩ (.int .i64 0)).setCell ⟨g, 3, none⟩ (.int .i64 0)).setCell ⟨g, 4, none⟩ (.int .i64 0)).setCell ⟨g, 5, none⟩ (.int .i64 0)).setCell ⟨g, 6, none⟩ (.slice none 0 0)).heap[g]? = some (.cells #[.int .i64 0, .int .i64 0, .int .i64 0, .int .i64 0, .int .i64 0, .int .i64 0, .slice none 0 0] 38 (0, 0)) ∧ Below w.heap.size w (((((((W.setCell ⟨g, 0, none⟩ (.int .i64 0)).setCell ⟨g, 1, none⟩ (.int .i64 0)).setCell ⟨g, 2, none⟩ (.int .i64 0)).setCell ⟨g, 3, none⟩ (.int .i64 0)).setCell ⟨g, 4, none⟩ (.int .i64 0)).setCell ⟨g, 5, none⟩ (.int .i64 0)).setCell ⟨g, 6, none⟩ (.slice none 0 0))) := by
  obtain ⟨c0, c1, c2, c3, c4, c5, c6, fz⟩ := cells7 h
  exact ⟨c0, c1, c2, c3, c4, c5, c6, fz, put7_res h hb hg _ _ _ _ _ _ _⟩
set_option maxRecDepth 20000 in
set_option maxHeartbeats 1000000 in
theorem decRoot_may (c : Cf) (hm : ¬ c.May) (s : ByteArray) (w : World) (hT : RT w) : Calls Tryd.prog 17 #[cfV c, .string s] w fun e w' => e = .returned (.tuple #[.agg zRoot, .int .i64 140]) ∧ Below w.heap.size w w' := by
  have KM := fun X hX => mayBe_any c X hX
  rw [decide_eq_false hm] at KM
  clear hm
  obtain ⟨sl', fl', dr', mf', ls', pg'⟩ := c
  unfold zRoot
  unfold cfV cfA at *
  simp only at *
  obtain ⟨V, hV, hbV, g0, g1⟩ := two_new w #[.int .i64 sl', .int .i64 fl', .int .i64 dr', .int .i64 mf', .int .i64 ls', .int .i64 pg'] #[.int .i64 0, .int .i64 0, .int .i64 0, .int .i64 0, .int .i64 0, .int .i64 0, .slice none 0 0] 23 38
  have l1 := heap_lt g1
  have KM0 := KM V (hT.next hbV)
  obtain ⟨y0, y1, y2, y3, y4, y5⟩ := cells6 g0
  have HX : Hid (∀ X, Below V.heap.size V X → X.heap[w.heap.size + 1]? = some (.cells #[.int .i64 0, .int .i64 0, .int .i64 0, .int .i64 0, .int .i64 0, .int .i64 0, .slice none 0 0] 38 (0, 0)) ∧ Below w.heap.size w X) := fun X hX => ⟨(hX.block _ l1).trans g1, hbV.trans (hX.mono hbV.size)⟩
  clear g0 g1 hbV KM hT
  go_enter Tryd.func17, Tryd.ntmps17
  go_wp2_with fail
  refine KM0.mono ?_
  rintro e w1 ⟨rfl, hb1⟩
  obtain ⟨q1, q2⟩ := HX.out w1 hb1
  obtain ⟨c0, c1, c2, c3, c4, c5, c6, fz, HE⟩ := zero7 q1 q2 (by omega)
  clear y0 y1 y2 y3 y4 y5 q1 q2 HX KM0 hb1
  go_wp2
  refine bodyPost_ret (Tr.results_cellt rfl _ _ (w.heap.size + 1) 38 _ (0, 0) _ rfl HE.out.1 Tryd.underlying38 rfl size38) rfl ?_
  exact ⟨rfl, HE.out.2⟩
set_option maxRecDepth 20000 in
set_option maxHeartbeats 1000000 in
theorem decRoot_no (c : Cf) (hm : c.May) (s : ByteArray) (hs2 : s.size ≤ 140737488355328) (hno : ¬ Rok s.data.toList) (w : World) (hT : RT w) : Calls Tryd.prog 17 #[cfV c, .string s] w fun e w' => e = .returned (.tuple #[.agg zRoot, .int .i64 141]) ∧ Below w.heap.size w w' := by
  have KM := fun X hX => mayBe_any c X hX
  rw [decide_eq_true hm] at KM
  have KR : ∀ X, RT X → Calls Tryd.prog 43 #[.string s] X fun e w' => e = .returned (.tuple #[.agg #[.int .i64 0, .int .i64 0, .int .i64 0, .int .i64 0, .int .i64 0, .int .i64 0, .slice none 0 0], .bool false]) ∧ Below X.heap.size X w' := fun X hX => by
    by_cases h : s.size < 27
    · exact readRoot_short s h X
    · exact readRoot_no s (by omega) hs2 hno X hX
  clear hm hno
  obtain ⟨sl', fl', dr', mf', ls', pg'⟩ := c
  unfold zRoot
  unfold cfV cfA at *
  simp only at *
  obtain ⟨V, hV, hbV, g0, g1⟩ := two_new w #[.int .i64 sl', .int .i64 fl', .int .i64 dr', .int .i64 mf', .int .i64 ls', .int .i64 pg'] #[.int .i64 0, .int .i64 0, .int .i64 0, .int .i64 0, .int .i64 0, .int .i64 0, .slice none 0 0] 23 38
  have l1 := heap_lt g1
  have KM0 := KM V (hT.next hbV)
  obtain ⟨y0, y1, y2, y3, y4, y5⟩ := cells6 g0
  have HX : Hid (∀ X, Below V.heap.size V X → X.heap[w.heap.size + 1]? = some (.cells #[.int .i64 0, .int .i64 0, .int .i64 0, .int .i64 0, .int .i64 0, .int .i64 0, .slice none 0 0] 38 (0, 0)) ∧ Below w.heap.size w X ∧ RT X) := fun X hX => by
    have hb := hbV.trans (hX.mono hbV.size)
    exact ⟨(hX.block _ l1).trans g1, hb, hT.next hb⟩
  clear g0 g1 hbV KM hT
  go_enter Tryd.func17, Tryd.ntmps17
  go_wp2_with fail
  refine KM0.mono ?_
  rintro e w1 ⟨rfl, hb1⟩
  obtain ⟨-, -, q3⟩ := HX.out w1 hb1
  clear y0 y1 y2 y3 y4 y5 KM0
  go_wp2_with fail
  refine (KR _ q3).mono ?_
  rintro e w2 ⟨rfl, hb2'⟩
  have hb2 := hb1.trans (hb2'.mono hb1.size)
  have hb3 := hb2.alloc (o := .cells #[.int .i64 0, .int .i64 0, .int .i64 0, .int .i64 0, .int .i64 0, .int .i64 0, .slice none 0 0] 38) hb2.size
  obtain ⟨q1, q2, -⟩ := HX.out _ hb3
  obtain ⟨c0, c1, c2, c3, c4, c5, c6, fz, HE⟩ := zero7 q1 q2 (by omega)
  clear q1 q2 q3 HX KR hb1 hb2' hb2 hb3
  go_wp2
  refine bodyPost_ret (Tr.results_cellt rfl _ _ (w.heap.size + 1) 38 _ (0, 0) _ rfl HE.out.1 Tryd.underlying38 rfl size38) rfl ?_
  exact ⟨rfl, HE.out.2⟩
end Go.Proofs.YtckbbbcjpklnmaaDoor.Ix
