import Derived.Test.YtcochbcaillldaaGreatDoorSpG
namespace Go.Proofs.YtcochbcaillldaaGreatDoor.Sc
open Go.RowKit Go.Lib Go.Deep

theorem out_shape {o : OpR} {e : Ending} (h : OutW o e) : ∃ (x : ByteArray) (c : Int), e = .returned (.tuple #[.string x, .int .i64 c]) := by
  rcases h with ⟨_, rfl⟩ | ⟨f, _, _, rfl⟩
  · exact ⟨_, _, rfl⟩
  · unfold lineW
    split
    · exact ⟨_, _, rfl⟩
    · split
      · exact ⟨_, _, rfl⟩
      · exact ⟨_, _, rfl⟩

set_option maxRecDepth 20000 in
set_option maxHeartbeats 2000000 in
theorem printOp_any (o : OpR) (hok : o.Ok) (w : World) (ht : ITab w) :
    Calls Tryz.prog 17 #[o.val] w fun e w' => OutW o e ∧ Below w.heap.size w w' := by
  obtain ⟨W, hW⟩ : ∃ W, w.alloc (.cells o.cells 54) = W := ⟨_, rfl⟩
  have hbW : Below w.heap.size w W := by rw [← hW]; exact (Below.refl _ _).alloc (Nat.le_refl _) _
  have hvW : OpAt W w.heap.size o := by
    rw [← hW]
    exact heap_alloc_new _ _
  have hbd : Below W.heap.size W W.drew := bd1 W
  have hop := operations_any W.drew
  have hbO := hbd.trans ((Below.refl W.heap.size W.drew).alloc (Nat.le_refl _) (.cells (tabC opTab) 137))
  have hgO := heap_alloc_new W.drew (.cells (tabC opTab) 137)
  obtain ⟨V, hV⟩ : ∃ V, W.drew.alloc (.cells (tabC opTab) 137) = V := ⟨_, rfl⟩
  rw [hV] at hop hbO hgO
  clear hV
  have hgO : V.heap[W.heap.size]? = some (.cells (tabC opTab) 137 (0, 0)) := hgO
  have hop : Calls Tryz.prog 40 #[] W.drew fun e w' => e = .returned (.slice (some ⟨W.heap.size, 0, none⟩) 10 10) ∧ w' = V := hop
  have hvV := hvW.below hbO hvW.lt
  have hwr := written_op o hok w.heap.size W.heap.size V hvV hgO (ht.below (hbW.trans (hbO.mono hbW.size)) ht.lt)
  have HS : Hid (∀ U, Below W.heap.size W U → U.cell? ⟨w.heap.size, 0, none⟩ = some (.int .i64 o.kind) ∧ U.cell? ⟨w.heap.size, 1, none⟩ = some (.string o.path) ∧ U.cell? ⟨w.heap.size, 2, none⟩ = some (.string o.to) ∧ U.cell? ⟨w.heap.size, 3, none⟩ = some (.int .i64 o.at_) ∧ U.cell? ⟨w.heap.size, 4, none⟩ = some (.int .i64 o.n) ∧ U.cell? ⟨w.heap.size, 5, none⟩ = some (.string o.data)) := fun U hb => (hvW.below hb hvW.lt).six
  have hs0 := HS.out W (Below.refl _ _)
  unfold OpR.val OpR.cells at *
  clear hvW hgO hvV
  go_enter Tryz.func17, Tryz.ntmps17
  go_wp2_with fail
  go_region_held_law (fun U => U.cell? ⟨w.heap.size, 0, none⟩ = some (.int .i64 o.kind) ∧ U.cell? ⟨w.heap.size, 1, none⟩ = some (.string o.path) ∧ U.cell? ⟨w.heap.size, 2, none⟩ = some (.string o.to) ∧ U.cell? ⟨w.heap.size, 3, none⟩ = some (.int .i64 o.at_) ∧ U.cell? ⟨w.heap.size, 4, none⟩ = some (.int .i64 o.n) ∧ U.cell? ⟨w.heap.size, 5, none⟩ = some (.string o.data)) (first | exact HS.out _ hbd | exact HS.out _ hbO | exact HS.out _ hb2x | go_keep) (first | (go_at_call 39; refine hwr'.mono ?_; rintro e w2 ⟨hout, hb2⟩; obtain ⟨x, c, rfl⟩ := out_shape hout; have hb2x := hbO.trans (hb2.mono hbO.size); clear hwr') | (go_at_call 40; refine hop.mono ?_; rintro e w1 ⟨rfl, rfl⟩; clear hop; have hwr' := hwr))
  all_goals
    go_wp2
    go_ret2
    exact ⟨hout, hbW.trans (hb2x.mono hbW.size)⟩
end Go.Proofs.YtcochbcaillldaaGreatDoor.Sc
