import Derived.Test.YtbdgbefjmfcgcaaDoorIxH0
import Derived.Deep.RegionWith
namespace Go.Proofs.YtbdgbefjmfcgcaaDoor.Ix
open Go.RowKit Go.Lib Go.Deep

set_option maxRecDepth 20000 in
set_option maxHeartbeats 2000000 in
theorem made_any (c : Cf) (w : World) : Calls Tryd.prog 5 #[cfV c] w fun e w' => ∃ d : Cn, Mde d ∧ e = .returned (cfV d.cf) ∧ Below w.heap.size w w' := by
  obtain ⟨sl', fl', dr', mf', ls', pg'⟩ := c
  obtain ⟨a0, h0, K0⟩ := modN_any sl' 64 (by omega) (by omega)
  obtain ⟨r0, e0⟩ : ∃ r0 : Int, (a0 : Int) = r0 := ⟨_, rfl⟩
  have L0 : Hid (∀ w, Calls Tryd.prog 16 #[.int .i64 sl', .int .i64 64] w fun e w' => e = .returned (.int .i64 r0) ∧ w' = w) := fun w => by rw [← e0]; exact K0 w
  have b0 : 0 ≤ r0 := by omega
  have d0 : r0 < 64 := by omega
  obtain ⟨a1, h1, K1⟩ := modN_any fl' 64 (by omega) (by omega)
  obtain ⟨r1, e1⟩ : ∃ r1 : Int, (a1 : Int) = r1 := ⟨_, rfl⟩
  have L1 : Hid (∀ w, Calls Tryd.prog 16 #[.int .i64 fl', .int .i64 64] w fun e w' => e = .returned (.int .i64 r1) ∧ w' = w) := fun w => by rw [← e1]; exact K1 w
  have b1 : 0 ≤ r1 := by omega
  have d1 : r1 < 64 := by omega
  obtain ⟨a2, h2, K2⟩ := modN_any dr' 64 (by omega) (by omega)
  obtain ⟨r2, e2⟩ : ∃ r2 : Int, (a2 : Int) = r2 := ⟨_, rfl⟩
  have L2 : Hid (∀ w, Calls Tryd.prog 16 #[.int .i64 dr', .int .i64 64] w fun e w' => e = .returned (.int .i64 r2) ∧ w' = w) := fun w => by rw [← e2]; exact K2 w
  have b2 : 0 ≤ r2 := by omega
  have d2 : r2 < 64 := by omega
  obtain ⟨a3, h3, K3⟩ := modN_any mf' 65537 (by omega) (by omega)
  obtain ⟨r3, e3⟩ : ∃ r3 : Int, (a3 : Int) = r3 := ⟨_, rfl⟩
  have L3 : Hid (∀ w, Calls Tryd.prog 16 #[.int .i64 mf', .int .i64 65537] w fun e w' => e = .returned (.int .i64 r3) ∧ w' = w) := fun w => by rw [← e3]; exact K3 w
  have b3 : 0 ≤ r3 := by omega
  have d3 : r3 < 65537 := by omega
  obtain ⟨a4, h4, K4⟩ := modN_any ls' 65521 (by omega) (by omega)
  obtain ⟨r4, e4⟩ : ∃ r4 : Int, (a4 : Int) = r4 := ⟨_, rfl⟩
  have L4 : Hid (∀ w, Calls Tryd.prog 16 #[.int .i64 ls', .int .i64 65521] w fun e w' => e = .returned (.int .i64 r4) ∧ w' = w) := fun w => by rw [← e4]; exact K4 w
  have b4 : 0 ≤ r4 := by omega
  have d4 : r4 < 65521 := by omega
  obtain ⟨a5, h5, K5⟩ := modN_any pg' 1024 (by omega) (by omega)
  obtain ⟨r5, e5⟩ : ∃ r5 : Int, (a5 : Int) = r5 := ⟨_, rfl⟩
  have L5 : Hid (∀ w, Calls Tryd.prog 16 #[.int .i64 pg', .int .i64 1024] w fun e w' => e = .returned (.int .i64 r5) ∧ w' = w) := fun w => by rw [← e5]; exact K5 w
  have b5 : 0 ≤ r5 := by omega
  have d5 : r5 < 1024 := by omega
  have HQ : Hid (∃ d : Cn, Mde d ∧ (Value.agg #[.int .i64 (1 + r0), .int .i64 (1 + r1), .int .i64 (r2), .int .i64 (r3), .int .i64 (16 + r4), .int .i64 (64 + r5)]) = cfV d.cf) := by
    refine ⟨_, mde_of a0 a1 a2 a3 a4 a5 h0 h1 h2 h3 h4 h5, ?_⟩
    rw [← e0, ← e1, ← e2, ← e3, ← e4, ← e5]
    rfl
  clear K0 K1 K2 K3 K4 K5 h0 h1 h2 h3 h4 h5 e0 e1 e2 e3 e4 e5
  show Calls Tryd.prog 5 #[.agg #[.int .i64 sl', .int .i64 fl', .int .i64 dr', .int .i64 mf', .int .i64 ls', .int .i64 pg']] w _
  obtain ⟨V0, hV, hbV, g0, g1⟩ := two_new w #[.int .i64 sl', .int .i64 fl', .int .i64 dr', .int .i64 mf', .int .i64 ls', .int .i64 pg'] #[.int .i64 0, .int .i64 0, .int .i64 0, .int .i64 0, .int .i64 0, .int .i64 0] 23 23
  have HALL : Hid (∀ V, V = V0.drew → (V.cell? ⟨w.heap.size, 0, none⟩ = some (.int .i64 sl') ∧ V.cell? ⟨w.heap.size, 1, none⟩ = some (.int .i64 fl') ∧ V.cell? ⟨w.heap.size, 2, none⟩ = some (.int .i64 dr') ∧ V.cell? ⟨w.heap.size, 3, none⟩ = some (.int .i64 mf') ∧ V.cell? ⟨w.heap.size, 4, none⟩ = some (.int .i64 ls') ∧ V.cell? ⟨w.heap.size, 5, none⟩ = some (.int .i64 pg')) ∧ (V.cell? ⟨w.heap.size + 1, 0, none⟩ = some (.int .i64 0) ∧ V.cell? ⟨w.heap.size + 1, 1, none⟩ = some (.int .i64 0) ∧ V.cell? ⟨w.heap.size + 1, 2, none⟩ = some (.int .i64 0) ∧ V.cell? ⟨w.heap.size + 1, 3, none⟩ = some (.int .i64 0) ∧ V.cell? ⟨w.heap.size + 1, 4, none⟩ = some (.int .i64 0) ∧ V.cell? ⟨w.heap.size + 1, 5, none⟩ = some (.int .i64 0)) ∧ (∀ j, V.frozen? ⟨w.heap.size + 1, j, none⟩ = false) ∧ Hid (((((((V.setCell ⟨w.heap.size + 1, 0, none⟩ (.int .i64 (1 + r0))).setCell ⟨w.heap.size + 1, 1, none⟩ (.int .i64 (1 + r1))).setCell ⟨w.heap.size + 1, 2, none⟩ (.int .i64 (r2))).setCell ⟨w.heap.size + 1, 3, none⟩ (.int .i64 (r3))).setCell ⟨w.heap.size + 1, 4, none⟩ (.int .i64 (16 + r4))).setCell ⟨w.heap.size + 1, 5, none⟩ (.int .i64 (64 + r5))).heap[w.heap.size + 1]? = some (.cells #[.int .i64 (1 + r0), .int .i64 (1 + r1), .int .i64 (r2), .int .i64 (r3), .int .i64 (16 + r4), .int .i64 (64 + r5)] 23 (0, 0))) ∧ Hid (Below w.heap.size w ((((((V.setCell ⟨w.heap.size + 1, 0, none⟩ (.int .i64 (1 + r0))).setCell ⟨w.heap.size + 1, 1, none⟩ (.int .i64 (1 + r1))).setCell ⟨w.heap.size + 1, 2, none⟩ (.int .i64 (r2))).setCell ⟨w.heap.size + 1, 3, none⟩ (.int .i64 (r3))).setCell ⟨w.heap.size + 1, 4, none⟩ (.int .i64 (16 + r4))).setCell ⟨w.heap.size + 1, 5, none⟩ (.int .i64 (64 + r5)))) ∧ Hid (((((((V.setCell ⟨w.heap.size + 1, 0, none⟩ (.int .i64 (1 + r0))).setCell ⟨w.heap.size + 1, 1, none⟩ (.int .i64 (1 + r1))).setCell ⟨w.heap.size + 1, 2, none⟩ (.int .i64 (r2))).setCell ⟨w.heap.size + 1, 3, none⟩ (.int .i64 (r3))).setCell ⟨w.heap.size + 1, 4, none⟩ (.int .i64 (16 + r4))).setCell ⟨w.heap.size + 1, 5, none⟩ (.int .i64 (64 + r5))).cell? ⟨w.heap.size, 0, none⟩ = some (.int .i64 sl') ∧ ((((((V.setCell ⟨w.heap.size + 1, 0, none⟩ (.int .i64 (1 + r0))).setCell ⟨w.heap.size + 1, 1, none⟩ (.int .i64 (1 + r1))).setCell ⟨w.heap.size + 1, 2, none⟩ (.int .i64 (r2))).setCell ⟨w.heap.size + 1, 3, none⟩ (.int .i64 (r3))).setCell ⟨w.heap.size + 1, 4, none⟩ (.int .i64 (16 + r4))).setCell ⟨w.heap.size + 1, 5, none⟩ (.int .i64 (64 + r5))).cell? ⟨w.heap.size, 1, none⟩ = some (.int .i64 fl') ∧ ((((((V.setCell ⟨w.heap.size + 1, 0, none⟩ (.int .i64 (1 + r0))).setCell ⟨w.heap.size + 1, 1, none⟩ (.int .i64 (1 + r1))).setCell ⟨w.heap.size + 1, 2, none⟩ (.int .i64 (r2))).setCell ⟨w.heap.size + 1, 3, none⟩ (.int .i64 (r3))).setCell ⟨w.heap.size + 1, 4, none⟩ (.int .i64 (16 + r4))).setCell ⟨w.heap.size + 1, 5, none⟩ (.int .i64 (64 + r5))).cell? ⟨w.heap.size, 2, none⟩ = some (.int .i64 dr') ∧ ((((((V.setCell ⟨w.heap.size + 1, 0, none⟩ (.int .i64 (1 + r0))).setCell ⟨w.heap.size + 1, 1, none⟩ (.int .i64 (1 + r1))).setCell ⟨w.heap.size + 1, 2, none⟩ (.int .i64 (r2))).setCell ⟨w.heap.size + 1, 3, none⟩ (.int .i64 (r3))).setCell ⟨w.heap.size + 1, 4, none⟩ (.int .i64 (16 + r4))).setCell ⟨w.heap.size + 1, 5, none⟩ (.int .i64 (64 + r5))).cell? ⟨w.heap.size, 3, none⟩ = some (.int .i64 mf') ∧ ((((((V.setCell ⟨w.heap.size + 1, 0, none⟩ (.int .i64 (1 + r0))).setCell ⟨w.heap.size + 1, 1, none⟩ (.int .i64 (1 + r1))).setCell ⟨w.heap.size + 1, 2, none⟩ (.int .i64 (r2))).setCell ⟨w.heap.size + 1, 3, none⟩ (.int .i64 (r3))).setCell ⟨w.heap.size + 1, 4, none⟩ (.int .i64 (16 + r4))).setCell ⟨w.heap.size + 1, 5, none⟩ (.int .i64 (64 + r5))).cell? ⟨w.heap.size, 4, none⟩ = some (.int .i64 ls') ∧ ((((((V.setCell ⟨w.heap.size + 1, 0, none⟩ (.int .i64 (1 + r0))).setCell ⟨w.heap.size + 1, 1, none⟩ (.int .i64 (1 + r1))).setCell ⟨w.heap.size + 1, 2, none⟩ (.int .i64 (r2))).setCell ⟨w.heap.size + 1, 3, none⟩ (.int .i64 (r3))).setCell ⟨w.heap.size + 1, 4, none⟩ (.int .i64 (16 + r4))).setCell ⟨w.heap.size + 1, 5, none⟩ (.int .i64 (64 + r5))).cell? ⟨w.heap.size, 5, none⟩ = some (.int .i64 pg'))) := fun V hVe => by
    subst hVe
    have k0 : V0.drew.heap[w.heap.size]? = some (.cells #[.int .i64 sl', .int .i64 fl', .int .i64 dr', .int .i64 mf', .int .i64 ls', .int .i64 pg'] 23 (0, 0)) := g0
    have k1 : V0.drew.heap[w.heap.size + 1]? = some (.cells #[.int .i64 0, .int .i64 0, .int .i64 0, .int .i64 0, .int .i64 0, .int .i64 0] 23 (0, 0)) := g1
    have hbd : Below w.heap.size w V0.drew := hbV.drew
    have c := fun (x : Value) => x
    refine ⟨⟨(cell_of_heap k0).trans rfl, (cell_of_heap k0).trans rfl, (cell_of_heap k0).trans rfl, (cell_of_heap k0).trans rfl, (cell_of_heap k0).trans rfl, (cell_of_heap k0).trans rfl⟩, ⟨(cell_of_heap k1).trans rfl, (cell_of_heap k1).trans rfl, (cell_of_heap k1).trans rfl, (cell_of_heap k1).trans rfl, (cell_of_heap k1).trans rfl, (cell_of_heap k1).trans rfl⟩, fun j => frozen_of_heap k1, Tr.put6A k1, (((((hbd.setCell (by simp) _).setCell (by simp) _).setCell (by simp) _).setCell (by simp) _).setCell (by simp) _).setCell (by simp) _, ?_⟩
    have hne : w.heap.size ≠ w.heap.size + 1 := by omega
    have k8 : ((((((V0.drew.setCell ⟨w.heap.size + 1, 0, none⟩ (.int .i64 (1 + r0))).setCell ⟨w.heap.size + 1, 1, none⟩ (.int .i64 (1 + r1))).setCell ⟨w.heap.size + 1, 2, none⟩ (.int .i64 (r2))).setCell ⟨w.heap.size + 1, 3, none⟩ (.int .i64 (r3))).setCell ⟨w.heap.size + 1, 4, none⟩ (.int .i64 (16 + r4))).setCell ⟨w.heap.size + 1, 5, none⟩ (.int .i64 (64 + r5))).heap[w.heap.size]? = some (.cells #[.int .i64 sl', .int .i64 fl', .int .i64 dr', .int .i64 mf', .int .i64 ls', .int .i64 pg'] 23 (0, 0)) := by
      rw [heap_setCell_other _ _ _ _ hne, heap_setCell_other _ _ _ _ hne, heap_setCell_other _ _ _ _ hne, heap_setCell_other _ _ _ _ hne, heap_setCell_other _ _ _ _ hne, heap_setCell_other _ _ _ _ hne]
      exact k0
    exact ⟨(cell_of_heap k8).trans rfl, (cell_of_heap k8).trans rfl, (cell_of_heap k8).trans rfl, (cell_of_heap k8).trans rfl, (cell_of_heap k8).trans rfl, (cell_of_heap k8).trans rfl⟩
  have hS0 := (HALL.out V0.drew rfl).1
  clear g0 g1 hbV
  go_enter Tryd.func5, Tryd.ntmps5
  go_wp2_with fail
  refine wp_region_held_drew (S := fun W => W.cell? ⟨w.heap.size, 0, none⟩ = some (.int .i64 sl') ∧ W.cell? ⟨w.heap.size, 1, none⟩ = some (.int .i64 fl') ∧ W.cell? ⟨w.heap.size, 2, none⟩ = some (.int .i64 dr') ∧ W.cell? ⟨w.heap.size, 3, none⟩ = some (.int .i64 mf') ∧ W.cell? ⟨w.heap.size, 4, none⟩ = some (.int .i64 ls') ∧ W.cell? ⟨w.heap.size, 5, none⟩ = some (.int .i64 pg')) (by kernel_rfl) hS0 ?_
  intro hS
  clear hS0
  obtain ⟨-, ⟨z0, z1, z2, z3, z4, z5⟩, fz, HE1, HB, HKS0⟩ := HALL.out V0.drew rfl
  revert hS z0 z1 z2 z3 z4 z5 fz HE1 HB HKS0
  generalize V0.drew = V
  intro hS z0 z1 z2 z3 z4 z5 fz HE1 HB HKS0
  clear HALL hV
  refine wpAnyH_take (i := 0) (oi := { dst := some 3, op := .fieldAddr 23 (.tmp 1) 0, type := _, pos := _, after := _, guard := none }) (v := .pointer (some ⟨w.heap.size, 0, none⟩)) rfl (by kernel_rfl) (by kernel_rfl) (by kernel_rfl) (fun _ _ _ h => h) (Or.inl ⟨by rfl, by intro x _; go_simp⟩) hS ?_
  (try simp only [Act.put, List.setIfInBounds_toArray, List.set_cons_zero, List.set_cons_succ])
  refine wpAnyH_take (i := 1) (oi := { dst := some 4, op := .load 3 (.tmp 3), type := _, pos := _, after := _, guard := none }) (v := .int .i64 sl') rfl (by kernel_rfl) (by kernel_rfl) (by kernel_rfl) (fun _ _ _ h => h) (Or.inl ⟨by rfl, by intro x hx; have h1 := hx.1; go_simp⟩) hS ?_
  (try simp only [Act.put, List.setIfInBounds_toArray, List.set_cons_zero, List.set_cons_succ])
  refine wpAnyH_take (i := 4) (oi := { dst := some 7, op := .fieldAddr 23 (.tmp 1) 1, type := _, pos := _, after := _, guard := none }) (v := .pointer (some ⟨w.heap.size, 1, none⟩)) rfl (by kernel_rfl) (by kernel_rfl) (by kernel_rfl) (fun _ _ _ h => h) (Or.inl ⟨by rfl, by intro x _; go_simp⟩) hS ?_
  (try simp only [Act.put, List.setIfInBounds_toArray, List.set_cons_zero, List.set_cons_succ])
  refine wpAnyH_take (i := 5) (oi := { dst := some 8, op := .load 3 (.tmp 7), type := _, pos := _, after := _, guard := none }) (v := .int .i64 fl') rfl (by kernel_rfl) (by kernel_rfl) (by kernel_rfl) (fun _ _ _ h => h) (Or.inl ⟨by rfl, by intro x hx; have h1 := hx.2.1; go_simp⟩) hS ?_
  (try simp only [Act.put, List.setIfInBounds_toArray, List.set_cons_zero, List.set_cons_succ])
  refine wpAnyH_take (i := 8) (oi := { dst := some 11, op := .fieldAddr 23 (.tmp 1) 2, type := _, pos := _, after := _, guard := none }) (v := .pointer (some ⟨w.heap.size, 2, none⟩)) rfl (by kernel_rfl) (by kernel_rfl) (by kernel_rfl) (fun _ _ _ h => h) (Or.inl ⟨by rfl, by intro x _; go_simp⟩) hS ?_
  (try simp only [Act.put, List.setIfInBounds_toArray, List.set_cons_zero, List.set_cons_succ])
  refine wpAnyH_take (i := 9) (oi := { dst := some 12, op := .load 3 (.tmp 11), type := _, pos := _, after := _, guard := none }) (v := .int .i64 dr') rfl (by kernel_rfl) (by kernel_rfl) (by kernel_rfl) (fun _ _ _ h => h) (Or.inl ⟨by rfl, by intro x hx; have h1 := hx.2.2.1; go_simp⟩) hS ?_
  (try simp only [Act.put, List.setIfInBounds_toArray, List.set_cons_zero, List.set_cons_succ])
  refine wpAnyH_take (i := 11) (oi := { dst := some 14, op := .fieldAddr 23 (.tmp 1) 3, type := _, pos := _, after := _, guard := none }) (v := .pointer (some ⟨w.heap.size, 3, none⟩)) rfl (by kernel_rfl) (by kernel_rfl) (by kernel_rfl) (fun _ _ _ h => h) (Or.inl ⟨by rfl, by intro x _; go_simp⟩) hS ?_
  (try simp only [Act.put, List.setIfInBounds_toArray, List.set_cons_zero, List.set_cons_succ])
  refine wpAnyH_take (i := 12) (oi := { dst := some 15, op := .load 3 (.tmp 14), type := _, pos := _, after := _, guard := none }) (v := .int .i64 mf') rfl (by kernel_rfl) (by kernel_rfl) (by kernel_rfl) (fun _ _ _ h => h) (Or.inl ⟨by rfl, by intro x hx; have h1 := hx.2.2.2.1; go_simp⟩) hS ?_
  (try simp only [Act.put, List.setIfInBounds_toArray, List.set_cons_zero, List.set_cons_succ])
  refine wpAnyH_take (i := 14) (oi := { dst := some 17, op := .fieldAddr 23 (.tmp 1) 4, type := _, pos := _, after := _, guard := none }) (v := .pointer (some ⟨w.heap.size, 4, none⟩)) rfl (by kernel_rfl) (by kernel_rfl) (by kernel_rfl) (fun _ _ _ h => h) (Or.inl ⟨by rfl, by intro x _; go_simp⟩) hS ?_
  (try simp only [Act.put, List.setIfInBounds_toArray, List.set_cons_zero, List.set_cons_succ])
  refine wpAnyH_take (i := 15) (oi := { dst := some 18, op := .load 3 (.tmp 17), type := _, pos := _, after := _, guard := none }) (v := .int .i64 ls') rfl (by kernel_rfl) (by kernel_rfl) (by kernel_rfl) (fun _ _ _ h => h) (Or.inl ⟨by rfl, by intro x hx; have h1 := hx.2.2.2.2.1; go_simp⟩) hS ?_
  (try simp only [Act.put, List.setIfInBounds_toArray, List.set_cons_zero, List.set_cons_succ])
  refine wpAnyH_take (i := 18) (oi := { dst := some 21, op := .fieldAddr 23 (.tmp 1) 5, type := _, pos := _, after := _, guard := none }) (v := .pointer (some ⟨w.heap.size, 5, none⟩)) rfl (by kernel_rfl) (by kernel_rfl) (by kernel_rfl) (fun _ _ _ h => h) (Or.inl ⟨by rfl, by intro x _; go_simp⟩) hS ?_
  (try simp only [Act.put, List.setIfInBounds_toArray, List.set_cons_zero, List.set_cons_succ])
  refine wpAnyH_take (i := 19) (oi := { dst := some 22, op := .load 3 (.tmp 21), type := _, pos := _, after := _, guard := none }) (v := .int .i64 pg') rfl (by kernel_rfl) (by kernel_rfl) (by kernel_rfl) (fun _ _ _ h => h) (Or.inl ⟨by rfl, by intro x hx; have h1 := hx.2.2.2.2.2; go_simp⟩) hS ?_
  (try simp only [Act.put, List.setIfInBounds_toArray, List.set_cons_zero, List.set_cons_succ])
  refine wpAnyH_ready (rs := [2]) (by kernel_rfl) (by simp) ?_
  refine AllReadyH.cons (o := { dst := some 5, op := .call { callee := .value (.func 16), args := #[.tmp 4, .const (.int .i64 64)], argTypes := #[3, 3] }, type := _, pos := _, after := _, guard := none }) rfl (fun K hK => ?_) AllReadyH.nil
  go_simp
  refine (L0.out _).mono ?_
  rintro e W2 ⟨rfl, hw2⟩
  subst hw2
  refine hK.out _ _ hS (fun _ => ?_)
  clear hK K
  (try simp only [Act.put, List.setIfInBounds_toArray, List.set_cons_zero, List.set_cons_succ])
  refine wpAnyH_take (i := 3) (oi := { dst := some 6, op := .binOp .add 3 (.const (.int .i64 1)) (.tmp 5) 3, type := _, pos := _, after := _, guard := none }) (v := .int .i64 (1 + r0)) rfl (by kernel_rfl) (by kernel_rfl) (by kernel_rfl) (fun _ _ _ h => h) (Or.inl ⟨by rfl, by intro x _; go_simp; rw [IntKind.wrap_i64]; omega⟩) hS ?_
  (try simp only [Act.put, List.setIfInBounds_toArray, List.set_cons_zero, List.set_cons_succ])
  refine wpAnyH_ready (rs := [6]) (by kernel_rfl) (by simp) ?_
  refine AllReadyH.cons (o := { dst := some 9, op := .call { callee := .value (.func 16), args := #[.tmp 8, .const (.int .i64 64)], argTypes := #[3, 3] }, type := _, pos := _, after := _, guard := none }) rfl (fun K hK => ?_) AllReadyH.nil
  go_simp
  refine (L1.out _).mono ?_
  rintro e W2 ⟨rfl, hw2⟩
  subst hw2
  refine hK.out _ _ hS (fun _ => ?_)
  clear hK K
  (try simp only [Act.put, List.setIfInBounds_toArray, List.set_cons_zero, List.set_cons_succ])
  refine wpAnyH_take (i := 7) (oi := { dst := some 10, op := .binOp .add 3 (.const (.int .i64 1)) (.tmp 9) 3, type := _, pos := _, after := _, guard := none }) (v := .int .i64 (1 + r1)) rfl (by kernel_rfl) (by kernel_rfl) (by kernel_rfl) (fun _ _ _ h => h) (Or.inl ⟨by rfl, by intro x _; go_simp; rw [IntKind.wrap_i64]; omega⟩) hS ?_
  (try simp only [Act.put, List.setIfInBounds_toArray, List.set_cons_zero, List.set_cons_succ])
  refine wpAnyH_ready (rs := [10]) (by kernel_rfl) (by simp) ?_
  refine AllReadyH.cons (o := { dst := some 13, op := .call { callee := .value (.func 16), args := #[.tmp 12, .const (.int .i64 64)], argTypes := #[3, 3] }, type := _, pos := _, after := _, guard := none }) rfl (fun K hK => ?_) AllReadyH.nil
  go_simp
  refine (L2.out _).mono ?_
  rintro e W2 ⟨rfl, hw2⟩
  subst hw2
  refine hK.out _ _ hS (fun _ => ?_)
  clear hK K
  (try simp only [Act.put, List.setIfInBounds_toArray, List.set_cons_zero, List.set_cons_succ])
  refine wpAnyH_ready (rs := [13]) (by kernel_rfl) (by simp) ?_
  refine AllReadyH.cons (o := { dst := some 16, op := .call { callee := .value (.func 16), args := #[.tmp 15, .const (.int .i64 65537)], argTypes := #[3, 3] }, type := _, pos := _, after := _, guard := none }) rfl (fun K hK => ?_) AllReadyH.nil
  go_simp
  refine (L3.out _).mono ?_
  rintro e W2 ⟨rfl, hw2⟩
  subst hw2
  refine hK.out _ _ hS (fun _ => ?_)
  clear hK K
  (try simp only [Act.put, List.setIfInBounds_toArray, List.set_cons_zero, List.set_cons_succ])
  refine wpAnyH_ready (rs := [16]) (by kernel_rfl) (by simp) ?_
  refine AllReadyH.cons (o := { dst := some 19, op := .call { callee := .value (.func 16), args := #[.tmp 18, .const (.int .i64 65521)], argTypes := #[3, 3] }, type := _, pos := _, after := _, guard := none }) rfl (fun K hK => ?_) AllReadyH.nil
  go_simp
  refine (L4.out _).mono ?_
  rintro e W2 ⟨rfl, hw2⟩
  subst hw2
  refine hK.out _ _ hS (fun _ => ?_)
  clear hK K
  (try simp only [Act.put, List.setIfInBounds_toArray, List.set_cons_zero, List.set_cons_succ])
  refine wpAnyH_take (i := 17) (oi := { dst := some 20, op := .binOp .add 3 (.const (.int .i64 16)) (.tmp 19) 3, type := _, pos := _, after := _, guard := none }) (v := .int .i64 (16 + r4)) rfl (by kernel_rfl) (by kernel_rfl) (by kernel_rfl) (fun _ _ _ h => h) (Or.inl ⟨by rfl, by intro x _; go_simp; rw [IntKind.wrap_i64]; omega⟩) hS ?_
  (try simp only [Act.put, List.setIfInBounds_toArray, List.set_cons_zero, List.set_cons_succ])
  refine wpAnyH_ready (rs := [20]) (by kernel_rfl) (by simp) ?_
  refine AllReadyH.cons (o := { dst := some 23, op := .call { callee := .value (.func 16), args := #[.tmp 22, .const (.int .i64 1024)], argTypes := #[3, 3] }, type := _, pos := _, after := _, guard := none }) rfl (fun K hK => ?_) AllReadyH.nil
  go_simp
  refine (L5.out _).mono ?_
  rintro e W2 ⟨rfl, hw2⟩
  subst hw2
  refine hK.out _ _ hS (fun _ => ?_)
  clear hK K
  (try simp only [Act.put, List.setIfInBounds_toArray, List.set_cons_zero, List.set_cons_succ])
  refine wpAnyH_take (i := 21) (oi := { dst := some 24, op := .binOp .add 3 (.const (.int .i64 64)) (.tmp 23) 3, type := _, pos := _, after := _, guard := none }) (v := .int .i64 (64 + r5)) rfl (by kernel_rfl) (by kernel_rfl) (by kernel_rfl) (fun _ _ _ h => h) (Or.inl ⟨by rfl, by intro x _; go_simp; rw [IntKind.wrap_i64]; omega⟩) hS ?_
  (try simp only [Act.put, List.setIfInBounds_toArray, List.set_cons_zero, List.set_cons_succ])
  refine wpAnyH_take (i := 22) (oi := { dst := some 25, op := .build 23 #[(0, .tmp 6), (1, .tmp 10), (2, .tmp 13), (3, .tmp 16), (4, .tmp 20), (5, .tmp 24)], type := _, pos := _, after := _, guard := none }) (v := .agg #[.int .i64 (1 + r0), .int .i64 (1 + r1), .int .i64 (r2), .int .i64 (r3), .int .i64 (16 + r4), .int .i64 (64 + r5)]) rfl (by kernel_rfl) (by kernel_rfl) (by kernel_rfl) (fun _ _ _ h => h) (Or.inl ⟨by rfl, by intro x _; go_simp⟩) hS ?_
  (try simp only [Act.put, List.setIfInBounds_toArray, List.set_cons_zero, List.set_cons_succ])
  refine wpAnyH_ready (rs := [23]) (by kernel_rfl) (by simp) ?_
  refine AllReadyH.cons (o := { dst := none, op := .store 23 (.tmp 2) (.tmp 25), type := _, pos := _, after := _, guard := none }) rfl (fun K hK => ?_) AllReadyH.nil
  go_simp
  have hS8 := HKS0.out
  refine hK.out _ _ hS8 (fun _ => ?_)
  clear hK K
  (try simp only [Act.put])
  refine wpAnyH_done (by kernel_rfl) ?_ _
  go_wp2
  refine bodyPost_ret (Tr.results_cell1 rfl _ _ (w.heap.size + 1) 23 _ (0, 0) _ rfl HE1.out Tryd.underlying23 rfl (by kernel_rfl)) rfl ?_
  obtain ⟨d, hd1, hd2⟩ := HQ.out
  exact ⟨d, hd1, by rw [← hd2], HB.out⟩
end Go.Proofs.YtbdgbefjmfcgcaaDoor.Ix
