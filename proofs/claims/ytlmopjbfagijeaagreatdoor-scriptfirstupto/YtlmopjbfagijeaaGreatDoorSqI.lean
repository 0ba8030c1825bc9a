import Derived.Test.YtlmopjbfagijeaaGreatDoorYjM
namespace Go.Proofs.YtlmopjbfagijeaaGreatDoor.Sc
open Go.RowKit Go.Lib Go.Deep

theorem outA_shape {o : ActR} {e : Ending} (h : OutA o e) : ∃ (x : ByteArray) (c : Int), e = .returned (.tuple #[.string x, .int .i64 c]) := by
  rcases h with ⟨_, rfl⟩ | ⟨f, _, _, rfl⟩
  · exact ⟨_, _, rfl⟩
  · unfold lineA
    split
    · exact ⟨_, _, rfl⟩
    · split
      · exact ⟨_, _, rfl⟩
      · exact ⟨_, _, rfl⟩
/-- what PrintAct answers, by its form -/
noncomputable def actV (o : ActR) (L : List OpR) (f : Fm) : Value := if f.kind = 3 ∧ bareA (shRA f.wr o) = true then batchV L else lineA o f
def OutB (o : ActR) (L : List OpR) (e : Ending) : Prop := ((∀ f ∈ actTab, f.kind ≠ o.kind) ∧ e = .returned (.tuple #[.string { data := #[] }, .int .i64 222])) ∨ ∃ f ∈ actTab, f.kind = o.kind ∧ e = .returned (actV o L f)
theorem outB_line {o : ActR} {L : List OpR} {x : ByteArray} {c : Int} (h : OutA o (.returned (.tuple #[.string x, .int .i64 c]))) (hc : ¬ (c = 0 ∧ o.kind = 3)) : OutB o L (.returned (.tuple #[.string x, .int .i64 c])) := by
  rcases h with h | ⟨f, hf, hk, he⟩
  · exact .inl h
  · refine .inr ⟨f, hf, hk, ?_⟩
    rw [he]
    unfold actV
    by_cases h3 : f.kind = 3
    · rw [if_neg]
      rintro ⟨-, hb⟩
      apply hc
      refine ⟨?_, hk.symm.trans h3⟩
      unfold actTab at hf
      simp only [List.mem_cons, List.not_mem_nil, or_false] at hf
      rcases hf with rfl | rfl | rfl | rfl | rfl | rfl
      all_goals first | (exfalso; revert h3; decide) | skip
      unfold lineA at he
      rw [if_neg (by rw [hb]; decide)] at he
      have hs : shGA 56 o (false, [98, 97, 116, 99, 104]) = (false, [98, 97, 116, 99, 104]) := by simp [shGA]
      rw [if_neg (by show ¬ ((shGA 56 o (false, [98, 97, 116, 99, 104])).1 = true ∨ 262144 < (shGA 56 o (false, [98, 97, 116, 99, 104])).2.length); rw [hs]; simp)] at he
      simp only [Ending.returned.injEq, Value.tuple.injEq, Array.mk.injEq, List.cons.injEq, Value.int.injEq] at he
      exact he.2.1.2
    · rw [if_neg (fun h => h3 h.1)]
theorem outB_batch {o : ActR} {x : ByteArray} (h : OutA o (.returned (.tuple #[.string x, .int .i64 0]))) (hk : o.kind = 3) : x = { data := #[98, 97, 116, 99, 104] } ∧ ∀ L, OutB o L (.returned (batchV L)) := by
  rcases h with ⟨h, he⟩ | ⟨f, hf, hkf, he⟩
  · simp at he
  · have hf0 := hf
    unfold actTab at hf
    simp only [List.mem_cons, List.not_mem_nil, or_false] at hf
    rw [hk] at hkf
    rcases hf with rfl | rfl | rfl | rfl | rfl | rfl
    all_goals first | (exfalso; revert hkf; decide) | skip
    unfold lineA at he
    have hs : shGA 56 o (false, [98, 97, 116, 99, 104]) = (false, [98, 97, 116, 99, 104]) := by simp [shGA]
    by_cases hb : bareA (shRA 56 o) = true
    · rw [if_neg (by show ¬ (bareA (shRA 56 o) = false); rw [hb]; decide)] at he
      rw [if_neg (by show ¬ ((shGA 56 o (false, [98, 97, 116, 99, 104])).1 = true ∨ 262144 < (shGA 56 o (false, [98, 97, 116, 99, 104])).2.length); rw [hs]; simp)] at he
      have he : Ending.returned (.tuple #[.string x, .int .i64 0]) = .returned (.tuple #[.string (str (shGA 56 o (false, [98, 97, 116, 99, 104])).2), .int .i64 0]) := he
      rw [hs] at he
      simp only [Ending.returned.injEq, Value.tuple.injEq, Array.mk.injEq, List.cons.injEq, Value.string.injEq] at he
      refine ⟨he.1.trans rfl, fun L => .inr ⟨_, hf0, hk.symm, ?_⟩⟩
      unfold actV
      rw [if_pos ⟨rfl, hb⟩]
    · have hb : bareA (shRA 56 o) = false := by simpa using hb
      rw [if_pos hb] at he
      simp at he

set_option maxRecDepth 20000 in
set_option maxHeartbeats 2000000 in
theorem printAct_any (o : ActR) (hok : o.Ok) (L : List OpR) (hL : ∀ x ∈ L, x.Ok) (hn : L.length = o.nops) (hll : L.length ≤ 1048576) (w : World) (hs : SeeO w o.ops L) (ht : ITab w) :
    Calls Tryz.prog 10 #[o.val] w fun e w' => OutB o L e ∧ Below w.heap.size w w' := by
  obtain ⟨W, hW⟩ : ∃ W, w.alloc (.cells o.cells 36) = W := ⟨_, rfl⟩
  have hbW : Below w.heap.size w W := by rw [← hW]; exact (Below.refl _ _).alloc (Nat.le_refl _) _
  have hvW : ActAt W w.heap.size o := by
    rw [← hW]
    exact heap_alloc_new _ _
  have hbd : Below W.heap.size W W.drew := bd1 W
  have hop := acts_any W.drew
  have hbO := hbd.trans ((Below.refl W.heap.size W.drew).alloc (Nat.le_refl _) (.cells (tabC actTab) 110))
  have hgO := heap_alloc_new W.drew (.cells (tabC actTab) 110)
  obtain ⟨V, hV⟩ : ∃ V, W.drew.alloc (.cells (tabC actTab) 110) = V := ⟨_, rfl⟩
  rw [hV] at hop hbO hgO
  clear hV
  have hgO : V.heap[W.heap.size]? = some (.cells (tabC actTab) 110 (0, 0)) := hgO
  have hop : Calls Tryz.prog 25 #[] W.drew fun e w' => e = .returned (.slice (some ⟨W.heap.size, 0, none⟩) 6 6) ∧ w' = V := hop
  have hwr := written_act o hok W.heap.size V hgO (ht.below (hbW.trans (hbO.mono hbW.size)) ht.lt)
  have HS : Hid (∀ U, Below W.heap.size W U → U.cell? ⟨w.heap.size, 0, none⟩ = some (.int .i64 o.kind) ∧ U.cell? ⟨w.heap.size, 1, none⟩ = some (.slice o.ops o.nops o.cops) ∧ U.cell? ⟨w.heap.size, 2, none⟩ = some (.int .i64 o.i) ∧ U.cell? ⟨w.heap.size, 3, none⟩ = some (.int .i64 o.before) ∧ U.cell? ⟨w.heap.size, 4, none⟩ = some (.int .i64 o.ek) ∧ U.cell? ⟨w.heap.size, 5, none⟩ = some (.int .i64 o.put) ∧ U.cell? ⟨w.heap.size, 6, none⟩ = some (.int .i64 o.frm) ∧ U.cell? ⟨w.heap.size, 7, none⟩ = some (.string o.name) ∧ U.cell? ⟨w.heap.size, 8, none⟩ = some (.string o.blob)) := fun U hb => (hvW.below hb hvW.lt).nine
  have hs0 := HS.out W (Below.refl _ _)
  have HO : Hid (∀ U, Below W.heap.size W U → Calls Tryz.prog 27 #[.string { data := #[98, 97, 116, 99, 104] }, .slice o.ops o.nops o.cops] U fun e w' => e = .returned (batchV L) ∧ Below U.heap.size U w') := fun U hb => by
    have h := withOps_any o.ops o.cops L hL hll U ((hs.below hbW).below hb) (ht.below (hbW.trans (hb.mono hbW.size)) ht.lt)
    rw [hn] at h
    exact h
  unfold ActR.val ActR.cells at *
  clear hvW hgO hn hs ht
  have HWW : Hid (Unit → _ = W) := fun _ => hW
  clear hW
  go_enter Tryz.func10, Tryz.ntmps10
  go_wp2_with fail
  rw [HWW.out ()]
  clear HWW
  have HBW : Hid (Below w.heap.size w W) := hbW
  clear hbW
  go_region_held_law (fun U => U.cell? ⟨w.heap.size, 0, none⟩ = some (.int .i64 o.kind) ∧ U.cell? ⟨w.heap.size, 1, none⟩ = some (.slice o.ops o.nops o.cops) ∧ U.cell? ⟨w.heap.size, 2, none⟩ = some (.int .i64 o.i) ∧ U.cell? ⟨w.heap.size, 3, none⟩ = some (.int .i64 o.before) ∧ U.cell? ⟨w.heap.size, 4, none⟩ = some (.int .i64 o.ek) ∧ U.cell? ⟨w.heap.size, 5, none⟩ = some (.int .i64 o.put) ∧ U.cell? ⟨w.heap.size, 6, none⟩ = some (.int .i64 o.frm) ∧ U.cell? ⟨w.heap.size, 7, none⟩ = some (.string o.name) ∧ U.cell? ⟨w.heap.size, 8, none⟩ = some (.string o.blob)) (first | exact HS.out _ hbd | exact HS.out _ hbO | exact HS.out _ hb2x | go_keep) (first | (go_at_call 24; refine hwr'.mono ?_; rintro e w2 ⟨hout, hb2⟩; obtain ⟨x, c, rfl⟩ := outA_shape hout; have hb2x := hbO.trans (hb2.mono hbO.size); have HOUT : Hid (OutA o (.returned (.tuple #[.string x, .int .i64 c]))) := hout; clear hwr' hout) | (go_at_call 25; refine hop.mono ?_; rintro e w1 ⟨rfl, rfl⟩; clear hop; have hwr' := hwr; clear hwr))
  all_goals
    have HS2 : Hid (Below W.heap.size W w2) := hb2x
    have HS3 : Hid (Below w.heap.size w w2) := HBW.out.trans (hb2x.mono HBW.out.size)
    obtain ⟨c0, c1, -⟩ := HS.out w2 hb2x
    have hO := HO.out w2 hb2x
    clear hb2x hb2 hs0 hbd hbO
    by_cases hc : c = 0
    · subst hc
      by_cases hk : o.kind = 3
      · obtain ⟨rfl, hB⟩ := outB_batch HOUT.out hk
        have HB : Hid (OutB o L (.returned (batchV L))) := hB L
        have hsh : ∃ (x : ByteArray) (c : Int), batchV L = .tuple #[.string x, .int .i64 c] := by
          unfold batchV
          split
          · exact ⟨_, _, rfl⟩
          · exact ⟨_, _, rfl⟩
        obtain ⟨bx, bc, hbx⟩ := hsh
        rw [hbx] at HB hO
        clear hB hbx
        go_wp2_with (go_at_call 27; refine hO.mono ?_; rintro e w3 ⟨rfl, hb3⟩; clear hO)
        go_ret2
        exact ⟨HB.out, HS3.out.trans (hb3.mono HS3.out.size)⟩
      · have HB : Hid (OutB o L (.returned (.tuple #[.string x, .int .i64 0]))) := outB_line HOUT.out (fun h => hk h.2)
        clear hO
        go_wp2
        go_ret2
        exact ⟨HB.out, HS3.out⟩
    · have HB : Hid (OutB o L (.returned (.tuple #[.string x, .int .i64 c]))) := outB_line HOUT.out (fun h => hc h.1)
      clear hO
      go_wp2
      go_ret2
      exact ⟨HB.out, HS3.out⟩
end Go.Proofs.YtlmopjbfagijeaaGreatDoor.Sc
