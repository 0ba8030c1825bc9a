import Derived.Test.YtckbbbcjpklnmaaDoorIxE
namespace Go.Proofs.YtckbbbcjpklnmaaDoor.Ix
open Go.RowKit Go.Lib Go.Deep

theorem cfi_new (w : World) (sl fl dr mf ls pg : Int) : ∃ V, w.alloc (.cells #[.int .i64 sl, .int .i64 fl, .int .i64 dr, .int .i64 mf, .int .i64 ls, .int .i64 pg] 23) = V ∧ Below w.heap.size w V ∧ V.heap.size = w.heap.size + 1 ∧ ∀ X, Below V.heap.size V X → X.cell? ⟨w.heap.size, 0, none⟩ = some (.int .i64 sl) ∧ X.cell? ⟨w.heap.size, 1, none⟩ = some (.int .i64 fl) ∧ X.cell? ⟨w.heap.size, 2, none⟩ = some (.int .i64 dr) ∧ X.cell? ⟨w.heap.size, 3, none⟩ = some (.int .i64 mf) ∧ X.cell? ⟨w.heap.size, 4, none⟩ = some (.int .i64 ls) ∧ X.cell? ⟨w.heap.size, 5, none⟩ = some (.int .i64 pg) := by
  refine ⟨_, rfl, (Below.refl _ _).alloc (Nat.le_refl _) _, by simp, fun X hX => ?_⟩
  have h : X.heap[w.heap.size]? = some (.cells #[.int .i64 sl, .int .i64 fl, .int .i64 dr, .int .i64 mf, .int .i64 ls, .int .i64 pg] 23 (0, 0)) := (hX.block _ (by simp)).trans (heap_new w _)
  exact ⟨(cell_of_heap h).trans rfl, (cell_of_heap h).trans rfl, (cell_of_heap h).trans rfl, (cell_of_heap h).trans rfl, (cell_of_heap h).trans rfl, (cell_of_heap h).trans rfl⟩
theorem num_any (z : Int) (w : World) : Calls Tryd.prog 11 #[.int .i64 z] w fun e w' => e = .returned (.int .i64 z) ∧ w' = w := by
  go_enter Tryd.func11, Tryd.ntmps11
  go_wp2
  go_ret
  exact ⟨rfl, rfl⟩
theorem rpages_any (c : Cf) (w : World) : Calls Tryd.prog 10 #[cfV c] w fun e w' => e = .returned (.tuple #[.int .i64 (pgsY c), .int .i64 (chkE c)]) ∧ Below w.heap.size w w' := by
  have KM := rcheck_any c
  by_cases h : c.May
  · rw [show chkE c = 0 from if_pos h] at KM ⊢
    rw [show pgsY c = (c.n.pgs : Int) from if_pos h]
    obtain ⟨n, hn, rfl⟩ := h.cn
    rw [Cn.cf_n]
    have KP := fun X => rpgs_any n.sl n.fl n.dr n.mf n.ls n.pg hn.1 X
    obtain ⟨sl, fl, dr, mf, ls, pg⟩ := n
    obtain ⟨V, hV, hbV, hVs, HC⟩ := cf_new w sl fl dr mf ls pg
    obtain ⟨-, y0, y1, y2, y3, y4, y5⟩ := HC V (Below.refl _ _)
    unfold cfV cfA Cn.cf at *
    simp only at *
    clear h hn
    go_enter Tryd.func10, Tryd.ntmps10
    go_wp2_with fail
    refine (KM _).mono ?_
    rintro e w6 ⟨rfl, hb6⟩
    obtain ⟨-, z0, z1, z2, z3, z4, z5⟩ := HC w6 hb6
    clear HC
    go_wp2_with fail
    refine (KP _).mono ?_
    rintro e w7 ⟨rfl, hb7⟩
    go_wp2
    go_ret2
    exact ⟨rfl, (hbV.trans (hb6.mono hbV.size)).trans (hb7.mono (Nat.le_trans hbV.size hb6.size))⟩
  · rw [show chkE c = 140 from if_neg h] at KM ⊢
    rw [show pgsY c = 0 from if_neg h]
    have hal : Below w.heap.size w (w.alloc (.cells (cfA c) 23)) := (Below.refl _ _).alloc (Nat.le_refl _) _
    unfold cfV cfA at *
    clear h
    go_enter Tryd.func10, Tryd.ntmps10
    go_wp2_with fail
    refine (KM _).mono ?_
    rintro e w6 ⟨rfl, hb6⟩
    go_wp2
    go_ret2
    exact ⟨rfl, hal.trans (hb6.mono hal.size)⟩
set_option maxRecDepth 20000 in
set_option maxHeartbeats 1000000 in
theorem checks_walk (c : Cf) (w : World) (hT : RT w) : Calls Tryd.prog 3 #[cfV c] w fun e w' => e = .returned (.bool true) ∧ Below w.heap.size w w' := by
  have K1 := fun X hX => pages_any c X hX
  have K2 := fun X => rpages_any c X
  have K3 := fun X hX => check_any c X hX
  have K4 := fun X => rcheck_any c X
  obtain ⟨E, hE⟩ : ∃ E, chkE c = E := ⟨_, rfl⟩
  obtain ⟨P, hP⟩ : ∃ P, pgsY c = P := ⟨_, rfl⟩
  rw [hE] at K1 K2 K3 K4
  rw [hP] at K1 K2
  clear hE hP
  obtain ⟨sl, fl, dr, mf, ls, pg⟩ := c
  unfold cfV cfA at *
  simp only at *
  obtain ⟨V, hV, hbV, hVs, HC0⟩ := cfi_new w sl fl dr mf ls pg
  have HC : Hid (∀ X, Below V.heap.size V X → X.cell? ⟨w.heap.size, 0, none⟩ = some (.int .i64 sl) ∧ X.cell? ⟨w.heap.size, 1, none⟩ = some (.int .i64 fl) ∧ X.cell? ⟨w.heap.size, 2, none⟩ = some (.int .i64 dr) ∧ X.cell? ⟨w.heap.size, 3, none⟩ = some (.int .i64 mf) ∧ X.cell? ⟨w.heap.size, 4, none⟩ = some (.int .i64 ls) ∧ X.cell? ⟨w.heap.size, 5, none⟩ = some (.int .i64 pg)) := HC0
  have HT : Hid (∀ X, Below V.heap.size V X → RT X) := fun X hX => (hT.next hbV).next hX
  have HB : Hid (∀ X, Below V.heap.size V X → Below w.heap.size w X) := fun X hX => hbV.trans (hX.mono hbV.size)
  have K3' : Hid (∀ X, Below V.heap.size V X → Calls Tryd.prog 12 #[.agg #[.int .i64 sl, .int .i64 fl, .int .i64 dr, .int .i64 mf, .int .i64 ls, .int .i64 pg]] X fun e w' => e = .returned (.int .i64 E) ∧ Below V.heap.size V w') := fun X hX => by
    refine (K3 X (HT.out X hX)).mono ?_
    rintro e w' ⟨rfl, hb⟩
    exact ⟨rfl, hX.trans (hb.mono hX.size)⟩
  have K4' : Hid (∀ X, Below V.heap.size V X → Calls Tryd.prog 13 #[.agg #[.int .i64 sl, .int .i64 fl, .int .i64 dr, .int .i64 mf, .int .i64 ls, .int .i64 pg]] X fun e w' => e = .returned (.int .i64 E) ∧ Below V.heap.size V w') := fun X hX => by
    refine (K4 X).mono ?_
    rintro e w' ⟨rfl, hb⟩
    exact ⟨rfl, hX.trans (hb.mono hX.size)⟩
  have XD : ∀ W, Hid (Below V.heap.size V W → Below V.heap.size V W.drew) := fun W h => h.drew
  obtain ⟨y0, y1, y2, y3, y4, y5⟩ := HC0 V (Below.refl _ _)
  clear K3 K4 HC0 hT hbV hVs
  go_enter Tryd.func3, Tryd.ntmps3
  go_wp2_with fail
  refine (K1 _ (HT.out _ (Below.refl _ _))).mono ?_
  rintro e w1 ⟨rfl, hb1⟩
  obtain ⟨z0, z1, z2, z3, z4, z5⟩ := HC.out w1 hb1
  go_wp2_with fail
  refine (K2 _).mono ?_
  rintro e w2 ⟨rfl, hb2'⟩
  have hb2 := hb1.trans (hb2'.mono hb1.size)
  clear z0 z1 z2 z3 z4 z5 hb2' hb1 K1 K2
  have hb2d := (XD w2).out hb2
  go_wp2_with fail
  go_region_held_law (fun X => X.cell? ⟨w.heap.size, 0, none⟩ = some (.int .i64 sl) ∧ X.cell? ⟨w.heap.size, 1, none⟩ = some (.int .i64 fl) ∧ X.cell? ⟨w.heap.size, 2, none⟩ = some (.int .i64 dr) ∧ X.cell? ⟨w.heap.size, 3, none⟩ = some (.int .i64 mf) ∧ X.cell? ⟨w.heap.size, 4, none⟩ = some (.int .i64 ls) ∧ X.cell? ⟨w.heap.size, 5, none⟩ = some (.int .i64 pg)) (first | exact HC.out _ (by assumption) | go_keep) (first | (go_at_call 12; refine (K3'.out _ (by assumption)).mono ?_; rintro e w5 ⟨rfl, hb5⟩) | (go_at_call 13; refine (K4'.out _ (by assumption)).mono ?_; rintro e w5 ⟨rfl, hb5⟩) | (go_at_call 11; refine (num_any _ _).mono ?_; rintro e w6 ⟨rfl, rfl⟩))
  all_goals
    go_wp2
    go_ret
    exact ⟨by simp, HB.out _ (by assumption)⟩
end Go.Proofs.YtckbbbcjpklnmaaDoor.Ix
