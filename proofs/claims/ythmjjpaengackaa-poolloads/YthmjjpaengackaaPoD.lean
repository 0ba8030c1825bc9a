import Derived.Test.YthmjjpaengackaaPoC
import Derived.Test.YthmjjpaengackaaShC
namespace Go.Proofs.Ythmjjpaengackaa.Po
open Go.RowKit Go.Lib Go.Deep Go.Shelf

set_option maxRecDepth 20000 in
theorem clone_any (s : ByteArray) (hs : s.size ≤ 281474976710656) (w : World) : Calls Try.prog 69 #[.string s] w fun e w' => e = .returned (.string s) ∧ Below w.heap.size w w' := by
  have h := Any.stringslite_Clone cloneLays s w hs
  have h' : Calls Try.prog 77 #[.string s] w fun e w' => e = .returned (.string s) ∧ Below w.heap.size w w' := h
  clear h
  go_enter Try.func69, Try.ntmps69
  go_wp2_with (go_at_call 77; refine h'.mono ?_; rintro e w1 ⟨rfl, hb1⟩)
  go_ret
  exact ⟨rfl, hb1⟩
theorem put4A {w : World} {g : Nat} {a b c d : Value} {ty : TypeId} (h : w.heap[g]? = some (.cells #[a, b, c, d] ty (0, 0))) {x y z u : Value} : ((((w.setCell ⟨g, 0, none⟩ x).setCell ⟨g, 1, none⟩ y).setCell ⟨g, 2, none⟩ z).setCell ⟨g, 3, none⟩ u).heap[g]? = some (.cells #[x, y, z, u] ty (0, 0)) :=
  (heap_setCell_fr _ _ _ _ _ _ _ ((heap_setCell_fr _ _ _ _ _ _ _ ((heap_setCell_fr _ _ _ _ _ _ _ ((heap_setCell_fr _ _ _ _ _ _ _ h).trans rfl)).trans rfl)).trans rfl)).trans rfl
theorem sizeOb : (Try.prog.info? 35).map (·.size) = some 4 := by kernel_rfl
/-- an object handed in, and the one that is answered -/
structure OwX (w : World) (o : Ob) (V : World) : Prop where
  bl : Below w.heap.size w V
  a : V.heap[w.heap.size]? = some (.cells #[.string o.nm, .string o.tg, .int .i64 o.bk, .int .i64 o.ow] 35 (0, 0))
  b : V.heap[w.heap.size + 1]? = some (.cells #[.string { data := #[] }, .string { data := #[] }, .int .i64 0, .int .i64 0] 35 (0, 0))
theorem OwX.below {w V V' : World} {o : Ob} (h : OwX w o V) (hb : Below V.heap.size V V') : OwX w o V' := ⟨h.bl.trans (hb.mono h.bl.size), (hb.block _ (heap_lt h.a)).trans h.a, (hb.block _ (heap_lt h.b)).trans h.b⟩
theorem OwX.s0 {w V : World} {o : Ob} (h : OwX w o V) : OwX w o (V.setCell ⟨w.heap.size, 0, none⟩ (.string o.nm)) := ⟨h.bl.setCell (Nat.le_refl _) _, (heap_setCell_fr _ _ _ _ _ _ _ h.a).trans rfl, (heap_setCell_other _ _ _ _ (by show w.heap.size + 1 ≠ w.heap.size; omega)).trans h.b⟩
theorem OwX.s1 {w V : World} {o : Ob} (h : OwX w o V) : OwX w o (V.setCell ⟨w.heap.size, 1, none⟩ (.string o.tg)) := ⟨h.bl.setCell (Nat.le_refl _) _, (heap_setCell_fr _ _ _ _ _ _ _ h.a).trans rfl, (heap_setCell_other _ _ _ _ (by show w.heap.size + 1 ≠ w.heap.size; omega)).trans h.b⟩
theorem OwX.cells {w V : World} {o : Ob} (h : OwX w o V) : V.cell? ⟨w.heap.size, 0, none⟩ = some (.string o.nm) ∧ V.cell? ⟨w.heap.size, 1, none⟩ = some (.string o.tg) ∧ V.frozen? ⟨w.heap.size, 0, none⟩ = false ∧ V.frozen? ⟨w.heap.size, 1, none⟩ = false := ⟨(cell_of_heap h.a).trans rfl, (cell_of_heap h.a).trans rfl, frozen_of_heap h.a, frozen_of_heap h.a⟩
theorem OwX.more {w V : World} {o : Ob} (h : OwX w o V) : V.cell? ⟨w.heap.size, 2, none⟩ = some (.int .i64 o.bk) ∧ V.cell? ⟨w.heap.size, 3, none⟩ = some (.int .i64 o.ow) := ⟨(cell_of_heap h.a).trans rfl, (cell_of_heap h.a).trans rfl⟩
theorem OwX.res {w V : World} {o : Ob} (h : OwX w o V) : V.cell? ⟨w.heap.size + 1, 0, none⟩ = some (.string { data := #[] }) ∧ V.cell? ⟨w.heap.size + 1, 1, none⟩ = some (.string { data := #[] }) ∧ V.cell? ⟨w.heap.size + 1, 2, none⟩ = some (.int .i64 0) ∧ V.cell? ⟨w.heap.size + 1, 3, none⟩ = some (.int .i64 0) ∧ V.frozen? ⟨w.heap.size + 1, 0, none⟩ = false ∧ V.frozen? ⟨w.heap.size + 1, 1, none⟩ = false ∧ V.frozen? ⟨w.heap.size + 1, 2, none⟩ = false ∧ V.frozen? ⟨w.heap.size + 1, 3, none⟩ = false := ⟨(cell_of_heap h.b).trans rfl, (cell_of_heap h.b).trans rfl, (cell_of_heap h.b).trans rfl, (cell_of_heap h.b).trans rfl, frozen_of_heap h.b, frozen_of_heap h.b, frozen_of_heap h.b, frozen_of_heap h.b⟩
set_option maxRecDepth 20000 in
theorem owned_any (o : Ob) (hn : o.nm.size ≤ 16) (ht : o.tg.size ≤ 16) (w : World) : Calls Try.prog 50 #[obV o] w fun e w' => e = .returned (obV o) ∧ Below w.heap.size w w' := by
  obtain ⟨W, hW, hb, k0, k1⟩ := two_new w #[.string o.nm, .string o.tg, .int .i64 o.bk, .int .i64 o.ow] #[.string { data := #[] }, .string { data := #[] }, .int .i64 0, .int .i64 0] 35 35
  have X0 : OwX w o W := ⟨hb, k0, k1⟩
  have XD : OwX w o W.drew := ⟨hb.drew, k0, k1⟩
  have CN : Hid (∀ V, OwX w o V → Calls Try.prog 69 #[.string o.nm] V fun e w' => e = .returned (.string o.nm) ∧ OwX w o w') := fun V hV => (clone_any o.nm (by omega) V).mono (by rintro e w' ⟨rfl, h⟩; exact ⟨rfl, hV.below h⟩)
  have CT : Hid (∀ V, OwX w o V → Calls Try.prog 69 #[.string o.tg] V fun e w' => e = .returned (.string o.tg) ∧ OwX w o w') := fun V hV => (clone_any o.tg (by omega) V).mono (by rintro e w' ⟨rfl, h⟩; exact ⟨rfl, hV.below h⟩)
  obtain ⟨x0, x1, f0, f1⟩ := X0.cells
  clear hb k0 k1 hn ht
  unfold obV
  go_enter Try.func50, Try.ntmps50
  go_wp2_with fail
  go_region_held_law (fun V => OwX w o V ∧ V.cell? ⟨w.heap.size, 0, none⟩ = some (.string o.nm) ∧ V.cell? ⟨w.heap.size, 1, none⟩ = some (.string o.tg) ∧ V.frozen? ⟨w.heap.size, 0, none⟩ = false ∧ V.frozen? ⟨w.heap.size, 1, none⟩ = false) (first | exact ⟨by assumption, OwX.cells (by assumption)⟩ | exact ⟨OwX.s0 (by assumption), OwX.cells (OwX.s0 (by assumption))⟩ | exact ⟨OwX.s1 (by assumption), OwX.cells (OwX.s1 (by assumption))⟩ | exact ⟨OwX.s1 (OwX.s0 (by assumption)), OwX.cells (OwX.s1 (OwX.s0 (by assumption)))⟩ | exact ⟨OwX.s0 (OwX.s1 (by assumption)), OwX.cells (OwX.s0 (OwX.s1 (by assumption)))⟩ | go_keep) (first | (go_at_call 69; refine (CT.out _ (by assumption)).mono ?_; rintro e w6 ⟨rfl, hb6⟩) | (go_at_call 69; refine (CN.out _ (by assumption)).mono ?_; rintro e w5 ⟨rfl, hb5⟩))
  all_goals
    refine with_world (Q := fun V => OwX w o V) _ (by first | exact OwX.s1 (OwX.s0 (by assumption)) | exact OwX.s0 (OwX.s1 (by assumption))) ?_
    intro V hV
    obtain ⟨y0, y1, -, -⟩ := hV.cells
    obtain ⟨y2, y3⟩ := hV.more
    obtain ⟨z0, z1, z2, z3, z4, z5, z6, z7⟩ := hV.res
    have HV : Hid _ := hV
    clear hV
    go_wp2
    refine bodyPost_ret (Tr.results_cell1 rfl _ _ (w.heap.size + 1) 35 _ (0, 0) _ rfl (put4A HV.out.b) Try.underlying35 rfl sizeOb) rfl ?_
    exact ⟨rfl, (((HV.out.bl.setCell (by simp) _).setCell (by simp) _).setCell (by simp) _).setCell (by simp) _⟩
end Go.Proofs.Ythmjjpaengackaa.Po
