import Derived.Test.YtckbbbcjpklnmaaDoorIxJ
import Derived.Deep.DeepCutAuto
import Derived.Test.YtckbbbcjpklnmaaDoorIxLr
import Derived.Test.YtckbbbcjpklnmaaDoorIxH
namespace Go.Proofs.YtckbbbcjpklnmaaDoor.Ix
open Go.RowKit Go.Lib Go.Deep

/-- what stands while the law goes on -/
structure Kp (w : World) (cb rb ob : Nat) (c : Cn) (oc : Cf) (a : Option Addr) (k : Nat) (R : List Rf) (X : World) : Prop where
  be : Below w.heap.size w X
  rt : RT X
  hc : X.heap[cb]? = some (.cells (cfA c.cf) 23 (0, 0))
  hr : X.heap[rb]? = some (.cells (cfA c.cf ++ #[.slice a c.pgs k]) 38 (0, 0))
  ho : X.heap[ob]? = some (.cells (cfA oc) 23 (0, 0))
  hs : See X 2 (.slice a c.pgs k) c.pgs (rfsC R)
theorem Kp.next {w : World} {cb rb ob : Nat} {c : Cn} {oc : Cf} {a : Option Addr} {k : Nat} {R : List Rf} {X Y : World} (h : Kp w cb rb ob c oc a k R X) (hb : Below X.heap.size X Y) : Kp w cb rb ob c oc a k R Y :=
  ⟨h.be.trans (hb.mono h.be.size), h.rt.next hb, (hb.block _ (heap_lt h.hc)).trans h.hc, (hb.block _ (heap_lt h.hr)).trans h.hr, (hb.block _ (heap_lt h.ho)).trans h.ho, h.hs.below hb⟩
theorem Kp.cells {w : World} {cb rb ob sl fl dr mf ls pg : Nat} {x0 x1 x2 x3 x4 x5 : Int} {a : Option Addr} {k : Nat} {R : List Rf} {X : World} (h : Kp w cb rb ob ⟨sl, fl, dr, mf, ls, pg⟩ ⟨x0, x1, x2, x3, x4, x5⟩ a k R X) : (X.cell? ⟨cb, 0, none⟩ = some (.int .i64 (sl : Int)) ∧ X.cell? ⟨cb, 1, none⟩ = some (.int .i64 (fl : Int)) ∧ X.cell? ⟨cb, 2, none⟩ = some (.int .i64 (dr : Int)) ∧ X.cell? ⟨cb, 3, none⟩ = some (.int .i64 (mf : Int)) ∧ X.cell? ⟨cb, 4, none⟩ = some (.int .i64 (ls : Int)) ∧ X.cell? ⟨cb, 5, none⟩ = some (.int .i64 (pg : Int))) ∧ (X.cell? ⟨rb, 0, none⟩ = some (.int .i64 (sl : Int)) ∧ X.cell? ⟨rb, 1, none⟩ = some (.int .i64 (fl : Int)) ∧ X.cell? ⟨rb, 2, none⟩ = some (.int .i64 (dr : Int)) ∧ X.cell? ⟨rb, 3, none⟩ = some (.int .i64 (mf : Int)) ∧ X.cell? ⟨rb, 4, none⟩ = some (.int .i64 (ls : Int)) ∧ X.cell? ⟨rb, 5, none⟩ = some (.int .i64 (pg : Int))) ∧ X.cell? ⟨rb, 6, none⟩ = some (.slice a (Cn.pgs ⟨sl, fl, dr, mf, ls, pg⟩) k) ∧ X.cell? ⟨ob, 0, none⟩ = some (.int .i64 x0) ∧ X.cell? ⟨ob, 1, none⟩ = some (.int .i64 x1) ∧ X.cell? ⟨ob, 2, none⟩ = some (.int .i64 x2) ∧ X.cell? ⟨ob, 3, none⟩ = some (.int .i64 x3) ∧ X.cell? ⟨ob, 4, none⟩ = some (.int .i64 x4) ∧ X.cell? ⟨ob, 5, none⟩ = some (.int .i64 x5) := by
  have h1 := h.hc
  have h2 := h.hr
  have h3 := h.ho
  exact ⟨⟨(cell_of_heap h1).trans rfl, (cell_of_heap h1).trans rfl, (cell_of_heap h1).trans rfl, (cell_of_heap h1).trans rfl, (cell_of_heap h1).trans rfl, (cell_of_heap h1).trans rfl⟩, ⟨(cell_of_heap h2).trans rfl, (cell_of_heap h2).trans rfl, (cell_of_heap h2).trans rfl, (cell_of_heap h2).trans rfl, (cell_of_heap h2).trans rfl, (cell_of_heap h2).trans rfl⟩, (cell_of_heap h2).trans rfl, (cell_of_heap h3).trans rfl, (cell_of_heap h3).trans rfl, (cell_of_heap h3).trans rfl, (cell_of_heap h3).trans rfl, (cell_of_heap h3).trans rfl, (cell_of_heap h3).trans rfl⟩
theorem put_zero {wc w8 : World} (h : Below (wc.alloc (.cells #[.int .i64 0, .int .i64 0, .int .i64 0, .int .i64 0, .int .i64 0, .int .i64 0, .slice none 0 0] 38)).drew.heap.size (wc.alloc (.cells #[.int .i64 0, .int .i64 0, .int .i64 0, .int .i64 0, .int .i64 0, .int .i64 0, .slice none 0 0] 38)).drew w8) : w8.heap[wc.heap.size]? = some (.cells #[.int .i64 0, .int .i64 0, .int .i64 0, .int .i64 0, .int .i64 0, .int .i64 0, .slice none 0 0] 38 (0, 0)) ∧ Below wc.heap.size wc (put7 w8 wc.heap.size (.int .i64 0) (.int .i64 0) (.int .i64 0) (.int .i64 0) (.int .i64 0) (.int .i64 0) (.slice none 0 0)) := by
  have hal : Below wc.heap.size wc (wc.alloc (.cells #[.int .i64 0, .int .i64 0, .int .i64 0, .int .i64 0, .int .i64 0, .int .i64 0, .slice none 0 0] 38)).drew := ((Below.refl wc.heap.size wc).alloc (Nat.le_refl _) _).drew
  have gz : w8.heap[wc.heap.size]? = some (.cells #[.int .i64 0, .int .i64 0, .int .i64 0, .int .i64 0, .int .i64 0, .int .i64 0, .slice none 0 0] 38 (0, 0)) := (h.block _ (show wc.heap.size < (wc.alloc (.cells #[.int .i64 0, .int .i64 0, .int .i64 0, .int .i64 0, .int .i64 0, .int .i64 0, .slice none 0 0] 38)).heap.size by simp)).trans (heap_new wc _)
  exact ⟨gz, (put7_res (w := wc) gz (hal.trans (h.mono hal.size)) (Nat.le_refl _) _ _ _ _ _ _ _).2⟩
theorem Rst.be {c : Cn} {R : List Rf} {kk : Nat} {wc wx : World} {g : Nat} {z : Int} (h : Rst c R kk wc wx g z) : Below wc.heap.size wc wx := h.1
theorem putg_then {P : Prop} {c : Cn} {R : List Rf} {kk : Nat} {wc X w8 : World} {g : Nat} {i0 i1 i2 i3 i4 i5 : Int} {a : Option Addr} {n k : Nat} {z : Int} (h8 : Below X.heap.size X w8) (hX : Below wc.heap.size wc X) (hg : wc.heap.size ≤ g) (hz : X.heap[g]? = some (.cells #[.int .i64 0, .int .i64 0, .int .i64 0, .int .i64 0, .int .i64 0, .int .i64 0, .slice none 0 0] 38 (0, 0))) (HG : Gv c R kk X.heap.size w8 i0 i1 i2 i3 i4 i5 a n k z)
    (h : w8.heap[g]? = some (.cells #[.int .i64 0, .int .i64 0, .int .i64 0, .int .i64 0, .int .i64 0, .int .i64 0, .slice none 0 0] 38 (0, 0)) → Rst c R kk wc (put7 w8 g (.int .i64 i0) (.int .i64 i1) (.int .i64 i2) (.int .i64 i3) (.int .i64 i4) (.int .i64 i5) (.slice a n k)) g z → P) : P :=
  h (putg h8 hX hg hz HG).1 (putg h8 hX hg hz HG).2
set_option maxRecDepth 20000 in
set_option maxHeartbeats 8000000 in
theorem rootBack_walk (raw oth : Cf) (Z : List Int) (pl by_ : Int) (w : World) (hT : RT w) (av : Option Addr) (n k0 : Nat) (hS : See w 1 (.slice av n k0) n (zsC Z)) (hn : Z.length = n) (hn2 : n ≤ 1099511627776000) :
    Calls Tryd.prog 4 #[cfV raw, .slice av n k0, .int .i64 pl, .int .i64 by_, cfV oth] w fun e w' => e = .returned (.bool true) ∧ Below w.heap.size w w' := by
  obtain ⟨u0, u1, u2, u3, u4, u5⟩ := raw
  obtain ⟨x0, x1, x2, x3, x4, x5⟩ := oth
  have KMd : ∀ (c : Cf) (X : World), Calls Tryd.prog 14 #[cfV c] X fun e w' => ∃ sl fl dr mf ls pg : Nat, Mde ⟨sl, fl, dr, mf, ls, pg⟩ ∧ e = .returned (.agg #[.int .i64 (sl : Int), .int .i64 (fl : Int), .int .i64 (dr : Int), .int .i64 (mf : Int), .int .i64 (ls : Int), .int .i64 (pg : Int)]) ∧ Below X.heap.size X w' := fun c X => by
    refine (made_any c X).mono ?_
    rintro e w' ⟨⟨sl, fl, dr, mf, ls, pg⟩, h1, rfl, h3⟩
    exact ⟨sl, fl, dr, mf, ls, pg, h1, rfl, h3⟩
  have KMr := KMd ⟨u0, u1, u2, u3, u4, u5⟩
  have KMo := KMd ⟨x0, x1, x2, x3, x4, x5⟩
  show Calls Tryd.prog 4 #[.agg #[.int .i64 u0, .int .i64 u1, .int .i64 u2, .int .i64 u3, .int .i64 u4, .int .i64 u5], .slice av n k0, .int .i64 pl, .int .i64 by_, .agg #[.int .i64 x0, .int .i64 x1, .int .i64 x2, .int .i64 x3, .int .i64 x4, .int .i64 x5]] w _
  have e1 : cfV ⟨u0, u1, u2, u3, u4, u5⟩ = .agg #[.int .i64 u0, .int .i64 u1, .int .i64 u2, .int .i64 u3, .int .i64 u4, .int .i64 u5] := rfl
  have e2 : cfV ⟨x0, x1, x2, x3, x4, x5⟩ = .agg #[.int .i64 x0, .int .i64 x1, .int .i64 x2, .int .i64 x3, .int .i64 x4, .int .i64 x5] := rfl
  rw [e1] at KMr
  rw [e2] at KMo
  clear KMd e1 e2
  obtain ⟨V, hV, hbV, g0, g1⟩ := two_new w #[.int .i64 u0, .int .i64 u1, .int .i64 u2, .int .i64 u3, .int .i64 u4, .int .i64 u5] #[.int .i64 x0, .int .i64 x1, .int .i64 x2, .int .i64 x3, .int .i64 x4, .int .i64 x5] 23 23
  obtain ⟨y0, y1, y2, y3, y4, y5⟩ := cells6 g0
  have HG1 : Hid (V.heap[w.heap.size + 1]? = some (.cells #[.int .i64 x0, .int .i64 x1, .int .i64 x2, .int .i64 x3, .int .i64 x4, .int .i64 x5] 23 (0, 0))) := g1
  have HBV : Hid (Below w.heap.size w V) := hbV
  have HT : Hid (RT w) := hT
  have HSw : Hid (See w 1 (.slice av n k0) n (zsC Z)) := hS
  clear hbV g0 g1 hT hS
  go_enter Tryd.func4, Tryd.ntmps4
  go_wp2_with fail
  refine (KMr _).mono ?_
  rintro e w1 ⟨sl, fl, dr, mf, ls, pg, hmd, rfl, hb1⟩
  have hVb := HBV.out
  have hb1w : Below w.heap.size w w1 := hVb.trans (hb1.mono hVb.size)
  have g1 : w1.heap[w.heap.size + 1]? = some (.cells #[.int .i64 x0, .int .i64 x1, .int .i64 x2, .int .i64 x3, .int .i64 x4, .int .i64 x5] 23 (0, 0)) := (hb1.block _ (heap_lt HG1.out)).trans HG1.out
  obtain ⟨W1, hW1, hbW1, gc⟩ := one_new w1 #[.int .i64 (sl : Int), .int .i64 (fl : Int), .int .i64 (dr : Int), .int .i64 (mf : Int), .int .i64 (ls : Int), .int .i64 (pg : Int)] 23
  have hb2w : Below w.heap.size w W1 := hb1w.trans (hbW1.mono hb1w.size)
  have KRf := fun X (hX : Below W1.heap.size W1 X) => refs_any ⟨sl, fl, dr, mf, ls, pg⟩ hmd.may Z X ((HT.out.next hb2w).next hX) av n k0 ((HSw.out.below hb2w).below hX) hn hn2
  have HKp : Hid (∀ w2 R a k, Below W1.heap.size W1 w2 → (∀ r ∈ R, RfF r) → w2.ownsRow W1.heap.size 48 2 (.slice a (Cn.pgs ⟨sl, fl, dr, mf, ls, pg⟩) k) (Cn.pgs ⟨sl, fl, dr, mf, ls, pg⟩) (rfsC R) → Kp w w1.heap.size w2.heap.size (w.heap.size + 1) ⟨sl, fl, dr, mf, ls, pg⟩ ⟨x0, x1, x2, x3, x4, x5⟩ a k R (w2.alloc (.cells #[.int .i64 (sl : Int), .int .i64 (fl : Int), .int .i64 (dr : Int), .int .i64 (mf : Int), .int .i64 (ls : Int), .int .i64 (pg : Int), .slice a (Cn.pgs ⟨sl, fl, dr, mf, ls, pg⟩) k] 38))) := fun w2 R a k h2 _ ho => by
    have hal : Below w2.heap.size w2 (w2.alloc (.cells #[.int .i64 (sl : Int), .int .i64 (fl : Int), .int .i64 (dr : Int), .int .i64 (mf : Int), .int .i64 (ls : Int), .int .i64 (pg : Int), .slice a (Cn.pgs ⟨sl, fl, dr, mf, ls, pg⟩) k] 38)) := (Below.refl _ _).alloc (Nat.le_refl _) _
    have h3 : Below W1.heap.size W1 (w2.alloc (.cells #[.int .i64 (sl : Int), .int .i64 (fl : Int), .int .i64 (dr : Int), .int .i64 (mf : Int), .int .i64 (ls : Int), .int .i64 (pg : Int), .slice a (Cn.pgs ⟨sl, fl, dr, mf, ls, pg⟩) k] 38)) := h2.trans (hal.mono h2.size)
    have hbw := hb2w.trans (h3.mono hb2w.size)
    have gc1 : W1.heap[w.heap.size + 1]? = some (.cells #[.int .i64 x0, .int .i64 x1, .int .i64 x2, .int .i64 x3, .int .i64 x4, .int .i64 x5] 23 (0, 0)) := (hbW1.block _ (heap_lt g1)).trans g1
    exact ⟨hbw, HT.out.next hbw, (h3.block _ (heap_lt gc)).trans gc, heap_new _ _, (h3.block _ (heap_lt gc1)).trans gc1, see_own (owns_below ho hal) (rfs_one _)⟩
  have HMD : Hid (Mde ⟨sl, fl, dr, mf, ls, pg⟩) := hmd
  have HLT : Hid (w1.heap.size < W1.heap.size) := heap_lt gc
  obtain ⟨c0, c1, c2, c3, c4, c5⟩ := cells6 gc
  have HCD : Hid (∀ X, Below W1.heap.size W1 X → X.cell? ⟨w1.heap.size, 0, none⟩ = some (.int .i64 (sl : Int)) ∧ X.cell? ⟨w1.heap.size, 1, none⟩ = some (.int .i64 (fl : Int)) ∧ X.cell? ⟨w1.heap.size, 2, none⟩ = some (.int .i64 (dr : Int)) ∧ X.cell? ⟨w1.heap.size, 3, none⟩ = some (.int .i64 (mf : Int)) ∧ X.cell? ⟨w1.heap.size, 4, none⟩ = some (.int .i64 (ls : Int)) ∧ X.cell? ⟨w1.heap.size, 5, none⟩ = some (.int .i64 (pg : Int))) := fun X hX => cells6 ((hX.block _ (heap_lt gc)).trans gc)
  have XD : Below W1.heap.size W1 W1.drew := (Below.refl _ _).drew
  have KRf' : Hid (∀ X, Below W1.heap.size W1 X → Calls Tryd.prog 15 #[.agg #[.int .i64 (sl : Int), .int .i64 (fl : Int), .int .i64 (dr : Int), .int .i64 (mf : Int), .int .i64 (ls : Int), .int .i64 (pg : Int)], .slice av n k0] X fun e w' => ∃ R a k', R.length = Cn.pgs ⟨sl, fl, dr, mf, ls, pg⟩ ∧ (∀ r ∈ R, RfF r) ∧ e = .returned (.slice a (Cn.pgs ⟨sl, fl, dr, mf, ls, pg⟩) k') ∧ w'.ownsRow X.heap.size 48 2 (.slice a (Cn.pgs ⟨sl, fl, dr, mf, ls, pg⟩) k') (Cn.pgs ⟨sl, fl, dr, mf, ls, pg⟩) (rfsC R) ∧ Below X.heap.size X w') := fun X hX => by
    refine (KRf X hX).mono ?_
    rintro e w' ⟨R, a, k', q1, q2, q3, q4, q5⟩
    exact ⟨R, a, k', q1, q2, q3, q4, q5⟩
  have HKpB : Hid (∀ w2 R a k, Below (W1.alloc (.cells #[.int .i64 0, .int .i64 0, .int .i64 0, .int .i64 0, .int .i64 0, .int .i64 0, .slice none 0 0] 38)).drew.heap.size (W1.alloc (.cells #[.int .i64 0, .int .i64 0, .int .i64 0, .int .i64 0, .int .i64 0, .int .i64 0, .slice none 0 0] 38)).drew w2 → w2.ownsRow (W1.alloc (.cells #[.int .i64 0, .int .i64 0, .int .i64 0, .int .i64 0, .int .i64 0, .int .i64 0, .slice none 0 0] 38)).drew.heap.size 48 2 (.slice a (Cn.pgs ⟨sl, fl, dr, mf, ls, pg⟩) k) (Cn.pgs ⟨sl, fl, dr, mf, ls, pg⟩) (rfsC R) → w2.heap[W1.heap.size]? = some (.cells #[.int .i64 0, .int .i64 0, .int .i64 0, .int .i64 0, .int .i64 0, .int .i64 0, .slice none 0 0] 38 (0, 0)) ∧ Kp w w1.heap.size W1.heap.size (w.heap.size + 1) ⟨sl, fl, dr, mf, ls, pg⟩ ⟨x0, x1, x2, x3, x4, x5⟩ a k R (put7 w2 W1.heap.size (.int .i64 (sl : Int)) (.int .i64 (fl : Int)) (.int .i64 (dr : Int)) (.int .i64 (mf : Int)) (.int .i64 (ls : Int)) (.int .i64 (pg : Int)) (.slice a (Cn.pgs ⟨sl, fl, dr, mf, ls, pg⟩) k))) := fun w2 R a k h2 ho => by
    have hal : Below W1.heap.size W1 (W1.alloc (.cells #[.int .i64 0, .int .i64 0, .int .i64 0, .int .i64 0, .int .i64 0, .int .i64 0, .slice none 0 0] 38)).drew := ((Below.refl W1.heap.size W1).alloc (Nat.le_refl _) _).drew
    have gz : w2.heap[W1.heap.size]? = some (.cells #[.int .i64 0, .int .i64 0, .int .i64 0, .int .i64 0, .int .i64 0, .int .i64 0, .slice none 0 0] 38 (0, 0)) := (h2.block _ (show W1.heap.size < (W1.alloc (.cells #[.int .i64 0, .int .i64 0, .int .i64 0, .int .i64 0, .int .i64 0, .int .i64 0, .slice none 0 0] 38)).heap.size by simp)).trans (heap_new W1 _)
    have h3 : Below W1.heap.size W1 w2 := hal.trans (h2.mono hal.size)
    obtain ⟨e1, e2⟩ := put7_res (w := W1) gz h3 (Nat.le_refl _) (.int .i64 (sl : Int)) (.int .i64 (fl : Int)) (.int .i64 (dr : Int)) (.int .i64 (mf : Int)) (.int .i64 (ls : Int)) (.int .i64 (pg : Int)) (.slice a (Cn.pgs ⟨sl, fl, dr, mf, ls, pg⟩) k)
    have hbw := hb2w.trans (e2.mono hb2w.size)
    have gc1 : W1.heap[w.heap.size + 1]? = some (.cells #[.int .i64 x0, .int .i64 x1, .int .i64 x2, .int .i64 x3, .int .i64 x4, .int .i64 x5] 23 (0, 0)) := (hbW1.block _ (heap_lt g1)).trans g1
    refine ⟨gz, hbw, HT.out.next hbw, (e2.block _ (heap_lt gc)).trans gc, e1, (e2.block _ (heap_lt gc1)).trans gc1, see_own (owns_keep ho fun g hg => ?_) (rfs_one _)⟩
    have hne : g ≠ W1.heap.size := by
      have h9 : (W1.alloc (.cells #[.int .i64 0, .int .i64 0, .int .i64 0, .int .i64 0, .int .i64 0, .int .i64 0, .slice none 0 0] 38)).heap.size ≤ g := (ho.lt g hg).1
      simp at h9
      omega
    unfold put7
    rw [heap_setCell_other _ _ _ _ hne, heap_setCell_other _ _ _ _ hne, heap_setCell_other _ _ _ _ hne, heap_setCell_other _ _ _ _ hne, heap_setCell_other _ _ _ _ hne, heap_setCell_other _ _ _ _ hne, heap_setCell_other _ _ _ _ hne]
  have XDB : Below W1.heap.size W1 (W1.alloc (.cells #[.int .i64 0, .int .i64 0, .int .i64 0, .int .i64 0, .int .i64 0, .int .i64 0, .slice none 0 0] 38)).drew := ((Below.refl W1.heap.size W1).alloc (Nat.le_refl _) _).drew
  clear KMr hmd hVb hb1w g1 hbW1 hb2w KRf gc y0 y1 y2 y3 y4 y5 hb1 HG1 HBV HT HSw
  generalize hM : Cn.pgs ⟨sl, fl, dr, mf, ls, pg⟩ = M at *
  have hneB : ¬ w1.heap.size = W1.heap.size := by
    have := HLT.out
    omega
  go_wp2_with fail
  go_cut [12] (fun s wx => ∃ (rb : Nat) (R : List Rf) (a : Option Addr) (k : Nat), s = .pointer (some ⟨rb, 0, none⟩) ∧ Hid (R.length = M ∧ (∀ r ∈ R, RfF r) ∧ Kp w w1.heap.size rb (w.heap.size + 1) ⟨sl, fl, dr, mf, ls, pg⟩ ⟨x0, x1, x2, x3, x4, x5⟩ a k R wx))
  case first =>
    go_region_held_law (fun X => X.cell? ⟨w1.heap.size, 0, none⟩ = some (.int .i64 (sl : Int)) ∧ X.cell? ⟨w1.heap.size, 1, none⟩ = some (.int .i64 (fl : Int)) ∧ X.cell? ⟨w1.heap.size, 2, none⟩ = some (.int .i64 (dr : Int)) ∧ X.cell? ⟨w1.heap.size, 3, none⟩ = some (.int .i64 (mf : Int)) ∧ X.cell? ⟨w1.heap.size, 4, none⟩ = some (.int .i64 (ls : Int)) ∧ X.cell? ⟨w1.heap.size, 5, none⟩ = some (.int .i64 (pg : Int))) (first | with_reducible exact HCD.out _ hb5 | with_reducible exact HCD.out _ XD | with_reducible exact HCD.out _ XDB | with_reducible exact HCD.out _ (Below.alloc hb5 (Below.size hb5) _) | with_reducible exact HK5.cells.1 | go_keep) (first | (go_at_call 15; refine (KRf'.out _ (by first | with_reducible exact XD | with_reducible exact XDB)).mono ?_; rintro e w5 ⟨R, a, k, hR1, hR2, rfl, hO5, hb5'⟩; (first | (have hb5 := XD.trans hb5') | (have hb5 := XDB.trans (Below.mono hb5' (Below.size XDB)); obtain ⟨gz5, HK5⟩ := HKpB.out w5 R a k hb5' hO5; obtain ⟨q0, q1, q2, q3, q4, q5, q6, fz5⟩ := cells7 gz5; unfold put7 at HK5; clear gz5))))
    all_goals
      go_wp2_with fail
      go_meet
      first | exact ⟨W1.heap.size, R, a, k, rfl, hR1, hR2, HK5⟩ | exact ⟨w5.heap.size, R, a, k, rfl, hR1, hR2, HKp.out w5 R a k hb5 hR2 hO5⟩
  case rest =>
  obtain ⟨rb, R, a, k, rfl, HCUT⟩ := hcut
  have hR1 := HCUT.out.1
  have hR2 := HCUT.out.2.1
  have K0 := HCUT.out.2.2
  clear HKp HKpB KRf' HCD XD XDB hneB HLT c0 c1 c2 c3 c4 c5 hW1 hV
  have HMy : Hid (Cn.May ⟨sl, fl, dr, mf, ls, pg⟩) := HMD.out.may
  have HR1 : Hid (R.length = M) := hR1
  have HMQ : Hid (Cn.pgs ⟨sl, fl, dr, mf, ls, pg⟩ = M) := hM
  have HRF : Hid (∀ r ∈ R, RfF r) := hR2
  have hMs : M ≤ 1024 := by rw [← hM]; exact HMy.out.2
  have hMp : 1 ≤ M := by rw [← hM]; exact HMy.out.1.fit.2.2
  obtain ⟨St, hSt⟩ : ∃ St, str (rootL ⟨sl, fl, dr, mf, ls, pg⟩ R) = St := ⟨_, rfl⟩
  have HSt : Hid (str (rootL ⟨sl, fl, dr, mf, ls, pg⟩ R) = St) := hSt
  have hSz : St.size = 27 + 32 * M := by rw [← hSt, str_size, rootL_len hR2, hR1]
  have HStd : Hid (St.data.toList = rootL ⟨sl, fl, dr, mf, ls, pg⟩ R) := by show _ = _; rw [← hSt, str_data]
  have hSI : (St.size : Int) = 27 + 32 * (M : Int) := by omega
  have hne0 : ((St.size : Int) != 27 + 32 * (M : Int)) = false := by rw [bne_eq_false_iff_eq]; exact hSI
  have KE : Hid (∀ X, RT X → See X 2 (.slice a M k) M (rfsC R) → Calls Tryd.prog 16 #[.agg #[.int .i64 (sl : Int), .int .i64 (fl : Int), .int .i64 (dr : Int), .int .i64 (mf : Int), .int .i64 (ls : Int), .int .i64 (pg : Int)], .agg #[.int .i64 (sl : Int), .int .i64 (fl : Int), .int .i64 (dr : Int), .int .i64 (mf : Int), .int .i64 (ls : Int), .int .i64 (pg : Int), .slice a M k]] X fun e w' => e = .returned (.tuple #[.string St, .int .i64 0]) ∧ Below X.heap.size X w') := fun X hX hSe => by
    have h := encRoot_any (Cn.cf ⟨sl, fl, dr, mf, ls, pg⟩) (Cn.cf ⟨sl, fl, dr, mf, ls, pg⟩) R (by rw [hR1]; omega) X hX a M k hSe hR1
    have e1 : ecrE (Cn.cf ⟨sl, fl, dr, mf, ls, pg⟩) (Cn.cf ⟨sl, fl, dr, mf, ls, pg⟩) R = 0 := by
      unfold ecrE
      rw [if_pos ⟨HMy.out.cf, rfl, rfl, rfl, rfl, rfl, rfl⟩, Cn.cf_n, if_pos]
      rw [Bool.and_eq_true, List.all_eq_true, decide_eq_true_eq, hM]
      exact ⟨fun r hr => decide_eq_true (hR2 r hr), hR1⟩
    have e2 : ecrY (Cn.cf ⟨sl, fl, dr, mf, ls, pg⟩) (Cn.cf ⟨sl, fl, dr, mf, ls, pg⟩) R = St := by
      unfold ecrY
      rw [if_pos e1, Cn.cf_n, hSt]
    rw [e1, e2] at h
    exact h
  have KG : Hid (∀ (T : ByteArray) (Q : List Rf), derE (Cn.cf ⟨sl, fl, dr, mf, ls, pg⟩) T.data.toList = 0 → rdRs T.data.toList M = Q → ∀ X, RT X → Calls Tryd.prog 17 #[.agg #[.int .i64 (sl : Int), .int .i64 (fl : Int), .int .i64 (dr : Int), .int .i64 (mf : Int), .int .i64 (ls : Int), .int .i64 (pg : Int)], .string T] X fun e w' => ∃ a' k', e = .returned (.tuple #[.agg #[.int .i64 (sl : Int), .int .i64 (fl : Int), .int .i64 (dr : Int), .int .i64 (mf : Int), .int .i64 (ls : Int), .int .i64 (pg : Int), .slice a' M k'], .int .i64 0]) ∧ See w' 2 (.slice a' M k') M (rfsC Q) ∧ Below X.heap.size X w') := fun T Q h0 hq X hX => by
    have h := decRoot_good ⟨sl, fl, dr, mf, ls, pg⟩ T h0 X hX
    rw [hM, hq] at h
    refine h.mono ?_
    rintro e w' ⟨a', k', rfl, ho, hb⟩
    exact ⟨a', k', rfl, see_own ho (rfs_one _), hb⟩
  have KBd : Hid (∀ (c : Cf) (T : ByteArray) (z : Int), T.size ≤ 1000000 → derE c T.data.toList = z → z ≠ 0 → ∀ X, RT X → Calls Tryd.prog 17 #[cfV c, .string T] X fun e w' => e = .returned (.tuple #[.agg #[.int .i64 0, .int .i64 0, .int .i64 0, .int .i64 0, .int .i64 0, .int .i64 0, .slice none 0 0], .int .i64 z]) ∧ Below X.heap.size X w') := fun c T z hT hz hne X hX => by
    have h := decRoot_bad c T (by omega) (by rw [hz]; exact hne) X hX
    rw [hz] at h
    exact h
  have KD1 : Hid (∀ X, RT X → Calls Tryd.prog 17 #[.agg #[.int .i64 (sl : Int), .int .i64 (fl : Int), .int .i64 (dr : Int), .int .i64 (mf : Int), .int .i64 (ls : Int), .int .i64 (pg : Int)], .string St] X fun e w' => ∃ a' k', e = .returned (.tuple #[.agg #[.int .i64 (sl : Int), .int .i64 (fl : Int), .int .i64 (dr : Int), .int .i64 (mf : Int), .int .i64 (ls : Int), .int .i64 (pg : Int), .slice a' M k'], .int .i64 0]) ∧ See w' 2 (.slice a' M k') M (rfsC R) ∧ Below X.heap.size X w') := KG.out St R (by rw [HStd.out]; exact der_back HMy.out (by rw [hR1, hM]) hR2) (by
    have := (root_back HMy.out (by rw [hR1, hM]) hR2).2.2
    rw [hM] at this
    rw [HStd.out]
    exact this)
  clear hSt hR1 hR2 hSI hM
  have HK0 : Hid _ := K0
  have KE0 := KE.out _ K0.rt (by have := K0.hs; rw [HMQ.out] at this; exact this)
  obtain ⟨⟨p0, p1, p2, p3, p4, p5⟩, ⟨r0, r1, r2, r3, r4, r5⟩, r6, o0, o1, o2, o3, o4, o5⟩ := (K0).cells
  rw [HMQ.out] at r6
  clear K0 KE
  go_wp2_with fail
  refine KE0.mono ?_
  rintro e w2 ⟨rfl, hb2⟩
  have HK2 : Hid _ := HK0.out.next hb2
  clear KE0 hb2 HK0
  clear p0 p1 p2 p3 p4 p5 r0 r1 r2 r3 r4 r5 r6 o0 o1 o2 o3 o4 o5
  obtain ⟨⟨p0, p1, p2, p3, p4, p5⟩, ⟨r0, r1, r2, r3, r4, r5⟩, r6, o0, o1, o2, o3, o4, o5⟩ := (HK2.out).cells
  rw [HMQ.out] at r6
  go_wp2_with fail
  refine (num_any _ _).mono ?_
  rintro e w3 ⟨rfl, rfl⟩
  have KD1' := KD1.out _ HK2.out.rt
  go_wp2_with fail
  refine KD1'.mono ?_
  rintro e w4 ⟨a', k', rfl, hS4, hb4⟩
  have HK4 : Hid _ := HK2.out.next hb4
  obtain ⟨W4, hW4, hbW4, g4⟩ := one_new w4 #[.int .i64 (sl : Int), .int .i64 (fl : Int), .int .i64 (dr : Int), .int .i64 (mf : Int), .int .i64 (ls : Int), .int .i64 (pg : Int), .slice a' M k'] 38
  have HK5 : Hid _ := HK4.out.next hbW4
  have hS5 := hS4.below hbW4
  have HSR := sameRoot_any (sl : Int) (fl : Int) (dr : Int) (mf : Int) (ls : Int) (pg : Int) R R W4 a' a M k' M k hS5 HR1.out (by have := HK5.out.hs; rw [HMQ.out] at this; exact this) HR1.out (by omega)
  rw [eqB_self] at HSR
  obtain ⟨z0, z1, z2, z3, z4, z5, z6, -⟩ := cells7 g4
  clear p0 p1 p2 p3 p4 p5 r0 r1 r2 r3 r4 r5 r6 o0 o1 o2 o3 o4 o5
  clear KD1' hb4 hS4 hS5 g4 hbW4 HK4
  obtain ⟨⟨p0, p1, p2, p3, p4, p5⟩, ⟨r0, r1, r2, r3, r4, r5⟩, r6, o0, o1, o2, o3, o4, o5⟩ := (HK5.out).cells
  rw [HMQ.out] at r6
  go_wp2_with fail
  refine (num_any _ _).mono ?_
  rintro e w5 ⟨rfl, rfl⟩
  go_wp2_with fail
  refine HSR.mono ?_
  rintro e w6 ⟨rfl, hb6⟩
  have HK6 : Hid _ := HK5.out.next hb6
  clear p0 p1 p2 p3 p4 p5 r0 r1 r2 r3 r4 r5 r6 o0 o1 o2 o3 o4 o5
  clear z0 z1 z2 z3 z4 z5 z6 HSR hb6 hW4 HK5 HK2
  obtain ⟨⟨p0, p1, p2, p3, p4, p5⟩, ⟨r0, r1, r2, r3, r4, r5⟩, r6, o0, o1, o2, o3, o4, o5⟩ := (HK6.out).cells
  rw [HMQ.out] at r6
  go_wp2_with fail
  refine (KMo _).mono ?_
  rintro e w7 ⟨sl2, fl2, dr2, mf2, ls2, pg2, hmd2, rfl, hb7⟩
  have HK7 : Hid _ := HK6.out.next hb7
  obtain ⟨W7, hW7, hbW7, g7⟩ := one_new w7 #[.int .i64 (sl2 : Int), .int .i64 (fl2 : Int), .int .i64 (dr2 : Int), .int .i64 (mf2 : Int), .int .i64 (ls2 : Int), .int .i64 (pg2 : Int)] 23
  have HK8 : Hid _ := HK7.out.next hbW7
  have HG7 : Hid (∀ X, Below W7.heap.size W7 X → X.cell? ⟨w7.heap.size, 0, none⟩ = some (.int .i64 (sl2 : Int)) ∧ X.cell? ⟨w7.heap.size, 1, none⟩ = some (.int .i64 (fl2 : Int)) ∧ X.cell? ⟨w7.heap.size, 2, none⟩ = some (.int .i64 (dr2 : Int)) ∧ X.cell? ⟨w7.heap.size, 3, none⟩ = some (.int .i64 (mf2 : Int)) ∧ X.cell? ⟨w7.heap.size, 4, none⟩ = some (.int .i64 (ls2 : Int)) ∧ X.cell? ⟨w7.heap.size, 5, none⟩ = some (.int .i64 (pg2 : Int))) := fun X hX => cells6 ((hX.block _ (heap_lt g7)).trans g7)
  obtain ⟨t0, t1, t2, t3, t4, t5⟩ := HG7.out W7 (Below.refl _ _)
  have HMD2 : Hid (Mde ⟨sl2, fl2, dr2, mf2, ls2, pg2⟩) := hmd2
  clear p0 p1 p2 p3 p4 p5 r0 r1 r2 r3 r4 r5 r6 o0 o1 o2 o3 o4 o5
  clear KMo hmd2 hb7 g7 hbW7 HK7 HK6
  obtain ⟨⟨p0, p1, p2, p3, p4, p5⟩, ⟨r0, r1, r2, r3, r4, r5⟩, r6, o0, o1, o2, o3, o4, o5⟩ := (HK8.out).cells
  rw [HMQ.out] at r6
  go_upto_region 10 with fail
  have HEQ : Hid ((sl2 = sl ∧ fl2 = fl ∧ dr2 = dr ∧ mf2 = mf ∧ ls2 = ls ∧ pg2 = pg) ∨ ∀ X, RT X → Calls Tryd.prog 17 #[.agg #[.int .i64 (sl2 : Int), .int .i64 (fl2 : Int), .int .i64 (dr2 : Int), .int .i64 (mf2 : Int), .int .i64 (ls2 : Int), .int .i64 (pg2 : Int)], .string St] X fun e w' => e = .returned (.tuple #[.agg #[.int .i64 0, .int .i64 0, .int .i64 0, .int .i64 0, .int .i64 0, .int .i64 0, .slice none 0 0], .int .i64 140]) ∧ Below X.heap.size X w') := by
    by_cases h : sl2 = sl ∧ fl2 = fl ∧ dr2 = dr ∧ mf2 = mf ∧ ls2 = ls ∧ pg2 = pg
    · exact .inl h
    · refine .inr fun X hX => ?_
      have hd : Cn.cf ⟨sl2, fl2, dr2, mf2, ls2, pg2⟩ ≠ Cn.cf ⟨sl, fl, dr, mf, ls, pg⟩ := fun e => h (by simp only [Cn.cf, Cf.mk.injEq] at e; omega)
      exact KBd.out (Cn.cf ⟨sl2, fl2, dr2, mf2, ls2, pg2⟩) St 140 (by omega) (by rw [HStd.out]; exact der_other HMy.out (by rw [HR1.out, HMQ.out]) HRF.out HMD2.out.may.cf hd) (by decide) X hX
  go_cut [19] (fun s wx => ∃ gv : Int, s = .int .i64 gv ∧ Hid ((sl2 = sl ∧ fl2 = fl ∧ dr2 = dr ∧ mf2 = mf ∧ ls2 = ls ∧ pg2 = pg) ∨ gv = 140) ∧ Hid (Below W7.heap.size W7 wx))
  case first =>
    rcases HEQ.out with h | KX
    · have HB0 : Hid (sl2 = sl ∧ fl2 = fl ∧ dr2 = dr ∧ mf2 = mf ∧ ls2 = ls ∧ pg2 = pg) := h
      have KX := KD1.out W7 HK8.out.rt
      obtain ⟨e1, e2, e3, e4, e5, e6⟩ := h
      have e1 := e1.symm
      have e2 := e2.symm
      have e3 := e3.symm
      have e4 := e4.symm
      have e5 := e5.symm
      have e6 := e6.symm
      subst e1 e2 e3 e4 e5 e6
      go_wp2_with fail
      refine KX.mono ?_
      rintro e w8 ⟨a8, k8, rfl, -, hb8⟩
      have HB8 : Hid _ := hb8.alloc (o := .cells #[.int .i64 (sl : Int), .int .i64 (fl : Int), .int .i64 (dr : Int), .int .i64 (mf : Int), .int .i64 (ls : Int), .int .i64 (pg : Int), .slice a8 M k8] 38) hb8.size
      clear hb8 KX
      go_wp2_with fail
      go_meet
      exact ⟨0, rfl, .inl ⟨by trivial, by trivial, by trivial, by trivial, by trivial, by trivial⟩, HB8.out⟩
    · have KX := KX W7 HK8.out.rt
      go_wp2_with fail
      refine KX.mono ?_
      rintro e w8 ⟨rfl, hb8⟩
      have HB8 : Hid _ := hb8.alloc (o := .cells #[.int .i64 0, .int .i64 0, .int .i64 0, .int .i64 0, .int .i64 0, .int .i64 0, .slice none 0 0] 38) hb8.size
      clear hb8 KX
      go_wp2_with fail
      go_meet
      exact ⟨140, rfl, .inr rfl, HB8.out⟩
  case rest =>
  obtain ⟨gv, rfl, HGV, HB9⟩ := hcut
  have HK9 : Hid _ := HK8.out.next HB9.out
  obtain ⟨t0', t1', t2', t3', t4', t5'⟩ := HG7.out wc HB9.out
  clear p0 p1 p2 p3 p4 p5 r0 r1 r2 r3 r4 r5 r6 o0 o1 o2 o3 o4 o5
  clear t0 t1 t2 t3 t4 t5 hW7 HEQ HK8 HG7 HB9
  obtain ⟨⟨p0, p1, p2, p3, p4, p5⟩, ⟨r0, r1, r2, r3, r4, r5⟩, r6, o0, o1, o2, o3, o4, o5⟩ := (HK9.out).cells
  rw [HMQ.out] at r6
  go_upto_region 11 with fail
  have HNE : Hid ((sl2 = sl ∧ fl2 = fl ∧ dr2 = dr ∧ mf2 = mf ∧ ls2 = ls ∧ pg2 = pg) ∨ (gv = 140 ∧ (¬ (sl2 : Int) = (sl : Int) ∨ (sl2 = sl ∧ ¬ (fl2 : Int) = (fl : Int)) ∨ (sl2 = sl ∧ fl2 = fl ∧ ¬ (dr2 : Int) = (dr : Int)) ∨ (sl2 = sl ∧ fl2 = fl ∧ dr2 = dr ∧ ¬ (mf2 : Int) = (mf : Int)) ∨ (sl2 = sl ∧ fl2 = fl ∧ dr2 = dr ∧ mf2 = mf ∧ ¬ (ls2 : Int) = (ls : Int)) ∨ (sl2 = sl ∧ fl2 = fl ∧ dr2 = dr ∧ mf2 = mf ∧ ls2 = ls ∧ ¬ (pg2 : Int) = (pg : Int))))) := by
    show _ ∨ _
    have := HGV.out
    omega
  go_cut [83] (fun s wx => s = .bool false ∧ wx = wc)
  case first =>
    rcases HNE.out with h | ⟨hgv, h⟩
    · obtain ⟨e1, e2, e3, e4, e5, e6⟩ := h
      have e1 := e1.symm
      have e2 := e2.symm
      have e3 := e3.symm
      have e4 := e4.symm
      have e5 := e5.symm
      have e6 := e6.symm
      subst e1 e2 e3 e4 e5 e6
      go_wp2_with fail
      go_meet
      exact ⟨rfl, rfl⟩
    · subst hgv
      rcases h with h | ⟨rfl, h⟩ | ⟨rfl, rfl, h⟩ | ⟨rfl, rfl, rfl, h⟩ | ⟨rfl, rfl, rfl, rfl, h⟩ | ⟨rfl, rfl, rfl, rfl, rfl, h⟩
      all_goals
        go_wp2_with fail
        refine (num_any _ _).mono ?_
        rintro e w10 ⟨rfl, rfl⟩
        go_wp2_with fail
        go_meet
        exact ⟨rfl, rfl⟩
  case rest =>
  obtain ⟨rfl, rfl⟩ := hcut
  clear t0' t1' t2' t3' t4' t5' HNE HGV HMD2
  obtain ⟨L, hL0⟩ : ∃ L, 26 + 32 * M = L := ⟨_, rfl⟩
  have hL : St.size = L + 1 := by omega
  have HL0 : Hid (26 + 32 * M = L) := hL0
  have hL1 : 26 ≤ L := by omega
  have hL2 : L ≤ 40000 := by omega
  have KS : ∀ T : ByteArray, (∃ t, T.data.toList = hedL ⟨sl, fl, dr, mf, ls, pg⟩ R.length ++ t ∧ t.length ≠ 32 * M) → T.size ≤ 1000000 → ∀ X, RT X → Calls Tryd.prog 17 #[.agg #[.int .i64 (sl : Int), .int .i64 (fl : Int), .int .i64 (dr : Int), .int .i64 (mf : Int), .int .i64 (ls : Int), .int .i64 (pg : Int)], .string T] X fun e w' => e = .returned (.tuple #[.agg #[.int .i64 0, .int .i64 0, .int .i64 0, .int .i64 0, .int .i64 0, .int .i64 0, .slice none 0 0], .int .i64 141]) ∧ Below X.heap.size X w' := fun T ⟨t, h1, h2⟩ h3 X hX =>
    KBd.out (Cn.cf ⟨sl, fl, dr, mf, ls, pg⟩) T 141 h3 (by rw [h1]; exact der_long HMy.out (by rw [HMQ.out]; exact h2)) (by decide) X hX
  have hRL : (R.flatMap refL).length = 32 * M := by rw [flat_length refL 32 R (fun r hr => refL_len (HRF.out r hr)), HR1.out]
  obtain ⟨S1, hS1⟩ : ∃ S1, St.extract 0 L = S1 := ⟨_, rfl⟩
  obtain ⟨S2, hS2⟩ : ∃ S2, St ++ ⟨#[0]⟩ = S2 := ⟨_, rfl⟩
  have KS1 : Hid _ := KS S1 ⟨(R.flatMap refL).take (32 * M - 1), by
    rw [← hS1, ByteArray.data_extract, Array.toList_extract, HStd.out]
    show ((rootL ⟨sl, fl, dr, mf, ls, pg⟩ R).drop 0).take (L - 0) = _
    unfold rootL
    rw [List.drop_zero, List.take_append, List.take_of_length_le (by rw [hedL_len]; omega), hedL_len, show L - 0 - 27 = 32 * M - 1 by omega], by rw [List.length_take, hRL]; omega⟩ (by rw [← hS1, ByteArray.size_extract]; omega)
  have KS2 : Hid _ := KS S2 ⟨R.flatMap refL ++ [0], by
    rw [← hS2, ByteArray.data_append, Array.toList_append, HStd.out]
    unfold rootL
    rw [List.append_assoc], by rw [List.length_append, hRL, List.length_singleton]; omega⟩ (by rw [← hS2, ByteArray.size_append, hSz]; show 27 + 32 * M + 1 ≤ _; omega)
  clear KS hRL hL0 hSz hne0
  go_upto_region 13 with fail
  go_cut [21] (fun s wx => s = .int .i64 141 ∧ Hid (Below wc.heap.size wc wx))
  case first =>
    have HCD : Hid (∀ X, Below wc.heap.size wc X → X.cell? ⟨w1.heap.size, 0, none⟩ = some (.int .i64 (sl : Int)) ∧ X.cell? ⟨w1.heap.size, 1, none⟩ = some (.int .i64 (fl : Int)) ∧ X.cell? ⟨w1.heap.size, 2, none⟩ = some (.int .i64 (dr : Int)) ∧ X.cell? ⟨w1.heap.size, 3, none⟩ = some (.int .i64 (mf : Int)) ∧ X.cell? ⟨w1.heap.size, 4, none⟩ = some (.int .i64 (ls : Int)) ∧ X.cell? ⟨w1.heap.size, 5, none⟩ = some (.int .i64 (pg : Int))) := fun X hX => (HK9.out.next hX).cells.1
    have XD : Below wc.heap.size wc wc.drew := (Below.refl _ _).drew
    have XDB : Below wc.heap.size wc (wc.alloc (.cells #[.int .i64 0, .int .i64 0, .int .i64 0, .int .i64 0, .int .i64 0, .int .i64 0, .slice none 0 0] 38)).drew := ((Below.refl wc.heap.size wc).alloc (Nat.le_refl _) _).drew
    have HPB : Hid (∀ w8, Below (wc.alloc (.cells #[.int .i64 0, .int .i64 0, .int .i64 0, .int .i64 0, .int .i64 0, .int .i64 0, .slice none 0 0] 38)).drew.heap.size (wc.alloc (.cells #[.int .i64 0, .int .i64 0, .int .i64 0, .int .i64 0, .int .i64 0, .int .i64 0, .slice none 0 0] 38)).drew w8 → _) := fun w8 h8 => put_zero h8
    have hneB : ¬ w1.heap.size = wc.heap.size := Nat.ne_of_lt (heap_lt HK9.out.hc)
    have hsl1 : ∀ W, (Instr.slice 9 (.string St) none (some (.int .i64 (L : Int))) none).run Tryd.prog W = .ok (.string S1) W := fun W => by rw [← hS1]; exact sl_to W 9 St _ L Tryd.underlying9 rfl (by omega)
    have hwL : IntKind.i64.wrap (L : Int) = (L : Int) := by rw [IntKind.wrap_i64]; omega
    go_region_held_law (fun X => X.cell? ⟨w1.heap.size, 0, none⟩ = some (.int .i64 (sl : Int)) ∧ X.cell? ⟨w1.heap.size, 1, none⟩ = some (.int .i64 (fl : Int)) ∧ X.cell? ⟨w1.heap.size, 2, none⟩ = some (.int .i64 (dr : Int)) ∧ X.cell? ⟨w1.heap.size, 3, none⟩ = some (.int .i64 (mf : Int)) ∧ X.cell? ⟨w1.heap.size, 4, none⟩ = some (.int .i64 (ls : Int)) ∧ X.cell? ⟨w1.heap.size, 5, none⟩ = some (.int .i64 (pg : Int))) (first | with_reducible exact HCD.out _ hb8 | with_reducible exact HCD.out _ XD | with_reducible exact HCD.out _ XDB | with_reducible exact HCD.out _ (Below.alloc hb8 (Below.size hb8) _) | with_reducible exact HCD.out _ HK8 | go_keep) (first | (go_at_call 17; refine (KS1.out _ (by first | with_reducible exact (HK9.out.next XD).rt | with_reducible exact (HK9.out.next XDB).rt)).mono ?_; rintro e w8 ⟨rfl, hb8'⟩; (first | (have hb8 := XD.trans hb8') | (have hb8 := XDB.trans (Below.mono hb8' (Below.size XDB)); obtain ⟨gz8, HK8⟩ := HPB.out w8 hb8'; obtain ⟨q0, q1, q2, q3, q4, q5, q6, fz8⟩ := cells7 gz8; unfold put7 at HK8; clear gz8))))
    all_goals
      go_wp2_with fail
      go_meet
      first | exact ⟨rfl, HK8⟩ | exact ⟨rfl, hb8.alloc hb8.size _⟩
  case rest =>
  obtain ⟨rfl, HB13⟩ := hcut
  have HK13 : Hid _ := HK9.out.next HB13.out
  clear p0 p1 p2 p3 p4 p5 r0 r1 r2 r3 r4 r5 r6 o0 o1 o2 o3 o4 o5
  clear HK9 HB13
  obtain ⟨⟨p0, p1, p2, p3, p4, p5⟩, ⟨r0, r1, r2, r3, r4, r5⟩, r6, o0, o1, o2, o3, o4, o5⟩ := (HK13.out).cells
  rw [HMQ.out] at r6
  go_upto_region 14 with fail
  go_cut [23] (fun s wx => s = .int .i64 141 ∧ Hid (Below wc.heap.size wc wx))
  case first =>
    have KX2 := KS2.out wc HK13.out.rt
    go_wp2_with fail
    refine KX2.mono ?_
    rintro e w14 ⟨rfl, hb14⟩
    have HB14 : Hid _ := hb14.alloc (o := .cells #[.int .i64 0, .int .i64 0, .int .i64 0, .int .i64 0, .int .i64 0, .int .i64 0, .slice none 0 0] 38) hb14.size
    clear hb14 KX2
    go_wp2_with fail
    go_meet
    exact ⟨rfl, HB14.out⟩
  case rest =>
  obtain ⟨rfl, HB14⟩ := hcut
  have HK14 : Hid _ := HK13.out.next HB14.out
  clear p0 p1 p2 p3 p4 p5 r0 r1 r2 r3 r4 r5 r6 o0 o1 o2 o3 o4 o5
  clear HK13 HB14
  obtain ⟨⟨p0, p1, p2, p3, p4, p5⟩, ⟨r0, r1, r2, r3, r4, r5⟩, r6, o0, o1, o2, o3, o4, o5⟩ := (HK14.out).cells
  rw [HMQ.out] at r6
  go_wp2_with fail
  refine (num_any _ _).mono ?_
  rintro e w15 ⟨rfl, rfl⟩
  go_wp2_with fail
  refine (num_any _ _).mono ?_
  rintro e w15 ⟨rfl, rfl⟩
  obtain ⟨kk, hkk, hkL⟩ : ∃ kk : Nat, pl % ((L + 1 : Nat) : Int) = kk ∧ kk < L + 1 := ⟨(pl % ((L + 1 : Nat) : Int)).toNat, (Int.toNat_of_nonneg (Int.emod_nonneg _ (by omega))).symm, by
    have := Int.emod_lt_of_pos pl (show (0 : Int) < ((L + 1 : Nat) : Int) by omega)
    omega⟩
  have KMd1 : ∀ X, Calls Tryd.prog 19 #[.int .i64 pl, .int .i64 ((L : Int) + 1)] X fun e w' => e = .returned (.int .i64 (kk : Int)) ∧ w' = X := fun X => by
    have h := mod_any pl (L + 1) (by omega) (by omega) X
    rw [hkk] at h
    exact h
  obtain ⟨b1, hb1k, hb1L⟩ : ∃ b1 : Nat, by_ % ((255 : Nat) : Int) = b1 ∧ b1 < 255 := ⟨(by_ % ((255 : Nat) : Int)).toNat, (Int.toNat_of_nonneg (Int.emod_nonneg _ (by omega))).symm, by
    have := Int.emod_lt_of_pos by_ (show (0 : Int) < ((255 : Nat) : Int) by omega)
    omega⟩
  have KMd2 : Hid (∀ X, Calls Tryd.prog 19 #[.int .i64 by_, .int .i64 255] X fun e w' => e = .returned (.int .i64 (b1 : Int)) ∧ w' = X) := fun X => by
    have h := mod_any by_ 255 (by omega) (by omega) X
    rw [hb1k] at h
    exact h
  clear hkk hb1k
  go_wp2_with fail
  refine (KMd1 _).mono ?_
  rintro e w17 ⟨rfl, rfl⟩
  clear KMd1
  have hlen : (rootL ⟨sl, fl, dr, mf, ls, pg⟩ R).length = L + 1 := by rw [← HStd.out, ← size_eq]; exact hL
  obtain ⟨cc, hcc⟩ : ∃ cc, (rootL ⟨sl, fl, dr, mf, ls, pg⟩ R)[kk]? = some cc := ⟨_, List.getElem?_eq_getElem (by omega)⟩
  have hix : ∀ W, (Instr.index 9 (.string St) (.int .i64 (kk : Int))).run Tryd.prog W = .ok (.int .u8 (cc.toNat : Int)) W := fun W => rindex_at W 9 St .i64 (kk : Int) kk cc Tryd.underlying9 rfl (by rw [HStd.out]; exact hcc)
  obtain ⟨q, hq⟩ : ∃ q, 1 + b1 = q := ⟨_, rfl⟩
  obtain ⟨hxor, hxne⟩ := turn_byte cc q (by omega) (by omega)
  obtain ⟨z, hz⟩ : ∃ z, cc ^^^ UInt8.ofNat q = z := ⟨_, rfl⟩
  rw [hz] at hxor hxne
  obtain ⟨Sy, hSy⟩ : ∃ Sy, str ((rootL ⟨sl, fl, dr, mf, ls, pg⟩ R).set kk z) = Sy := ⟨_, rfl⟩
  have hcat := turn_cat St _ HStd.out kk (by omega) z
  rw [hSy] at hcat
  have KT : Hid (∀ X, RT X → Calls Tryd.prog 17 #[.agg #[.int .i64 (sl : Int), .int .i64 (fl : Int), .int .i64 (dr : Int), .int .i64 (mf : Int), .int .i64 (ls : Int), .int .i64 (pg : Int)], .string Sy] X fun e w' => ∃ i0 i1 i2 i3 i4 i5 a n kp z, e = .returned (.tuple #[.agg #[.int .i64 i0, .int .i64 i1, .int .i64 i2, .int .i64 i3, .int .i64 i4, .int .i64 i5, .slice a n kp], .int .i64 z]) ∧ Gv ⟨sl, fl, dr, mf, ls, pg⟩ R kk X.heap.size w' i0 i1 i2 i3 i4 i5 a n kp z ∧ Below X.heap.size X w') := fun X hX => by
    have h := turn_any (k := kk) (x := z) HMy.out (by rw [HR1.out, HMQ.out]) HRF.out (by omega) (by rw [hcc]; exact fun e => hxne (Option.some.inj e).symm) X hX
    rw [hSy] at h
    exact h
  have hsla : ∀ W, (Instr.slice 9 (.string St) none (some (.int .i64 (kk : Int))) none).run Tryd.prog W = .ok (.string (St.extract 0 kk)) W := fun W => sl_to W 9 St _ kk Tryd.underlying9 rfl (by omega)
  have hslb : ∀ W, (Instr.slice 9 (.string St) (some (.int .i64 ((kk : Int) + 1))) none none).run Tryd.prog W = .ok (.string (St.extract (kk + 1) St.size)) W := fun W => sl_of W 9 St _ (kk + 1) Tryd.underlying9 (by omega) (by omega)
  have hcv : ∀ (X : World) (g : Nat), X.cell? ⟨g, 0, none⟩ = some (.int .u8 (z.toNat : Int)) → (convert 45 9 (.slice (some ⟨g, 0, none⟩) 1 1)).run Tryd.prog X = .ok (.string (str [z])) X := fun X g h => byte_str h
  have hza : (St.extract 0 kk).size = kk := by rw [ByteArray.size_extract]; omega
  have hzz : (str [z]).size = 1 := str_size _
  have hzb : (St.extract (kk + 1) St.size).size = L - kk := by rw [ByteArray.size_extract]; omega
  generalize St.extract 0 kk = ya at *
  generalize St.extract (kk + 1) St.size = yb at *
  generalize str [z] = yz at *
  have hcn8 := cc.toNat_lt
  have hzn8 := z.toNat_lt
  generalize cc.toNat = cn at *
  generalize z.toNat = zn at *
  have hw1 : (1 : Int) + (b1 : Int) = (q : Int) := by omega
  have hw2 : IntKind.i64.wrap (q : Int) = (q : Int) := by rw [IntKind.wrap_i64]; omega
  have hw3 : IntKind.u8.wrap (q : Int) = (q : Int) := by rw [IntKind.wrap_u8]; omega
  have hw4 : IntKind.i64.wrap ((kk : Int) + 1) = (kk : Int) + 1 := by rw [IntKind.wrap_i64]; omega
  have hk63 : kk + 1 ≤ 9223372036854775807 := by omega
  have hk64 : kk + 1 + (L - kk) ≤ 9223372036854775807 := by omega
  clear hlen hcc hq hz hxne hSy
  go_upto_region 18 with fail
  go_cut [25, 26] (fun s t wx => ∃ g z, s = .pointer (some ⟨g, 0, none⟩) ∧ t = .int .i64 z ∧ Hid (Rst ⟨sl, fl, dr, mf, ls, pg⟩ R kk w17 wx g z))
  case first =>
    refine r18 sl fl dr mf ls pg R kk L b1 q cn zn by_ St Sy ya yb yz w1 w17 (fun X hX => (HK14.out.next hX).cells.1) (heap_lt HK14.out.hc) (fun X hX => (HK14.out.next hX).rt) KMd2.out KT.out hix hxor hcat hsla hslb hcv hza hzz hzb hw1 hw2 hw3 hw4 hk63 hk64 ?_
    intro v113 v114 v115 v116 v117 v118 v119 v120 v121 v122 v123 v124 v125 v126 v127 v128 v129 v130 v131 v132 v133 v134 v135 v136 g z' wx HR8
    go_step
    go_meet
    exact ⟨g, z', rfl, rfl, HR8⟩
  case rest =>
  obtain ⟨g, z9, rfl, rfl, HRS⟩ := hcut
  have HK18 : Hid _ := HK14.out.next HRS.out.1
  clear p0 p1 p2 p3 p4 p5 r0 r1 r2 r3 r4 r5 r6 o0 o1 o2 o3 o4 o5
  obtain ⟨⟨p0, p1, p2, p3, p4, p5⟩, ⟨r0, r1, r2, r3, r4, r5⟩, r6, o0, o1, o2, o3, o4, o5⟩ := (HK18.out).cells
  rw [HMQ.out] at r6
  clear KMd2 KT KS1 KS2 KD1 KG KBd HK14 hix hxor hcat hsla hslb hcv hza hzz hzb hw1 hw2 hw3 hw4 hk63 hk64 hS1 hS2 hcn8 hzn8
  obtain ⟨-, i0, i1, i2, i3, i4, i5, a8, n8, k8, hg8, B8, HG8⟩ := HRS.out
  clear HRS
  rcases HG8 with ⟨h27, hz9, hcf, hn8, Q, hoQ, hQR, hQl⟩ | ⟨h27, hz9, hn8⟩
  · subst hz9
    rw [HMQ.out] at hn8 hoQ hQl
    subst hn8
    have HSR := sameRoot_any (sl : Int) (fl : Int) (dr : Int) (mf : Int) (ls : Int) (pg : Int) Q R wc a8 a n8 k8 n8 k (see_own hoQ (rfs_one _)) hQl (by have := HK18.out.hs; rw [HMQ.out] at this; exact this) HR1.out (by omega)
    rw [eqB_false hQR] at HSR
    obtain ⟨f0, f1, f2, f3, f4, f5⟩ : i0 = (sl : Int) ∧ i1 = (fl : Int) ∧ i2 = (dr : Int) ∧ i3 = (mf : Int) ∧ i4 = (ls : Int) ∧ i5 = (pg : Int) := by
      simp only [Cn.cf, Cf.mk.injEq] at hcf
      exact hcf
    subst f0 f1 f2 f3 f4 f5
    obtain ⟨s0, s1, s2, s3, s4, s5, s6, -⟩ := cells7 hg8
    have h27I : (27 : Int) ≤ (kk : Int) := by omega
    clear hcf hoQ hQR hQl hg8
    go_wp2_with fail
    refine (num_any _ _).mono ?_
    rintro e w19 ⟨rfl, rfl⟩
    go_wp2_with fail
    refine HSR.mono ?_
    rintro e w20 ⟨rfl, hb20⟩
    have HB : Hid _ := (HK18.out.next hb20).be
    clear hb20
    go_wp2
    go_ret
    exact ⟨rfl, HB.out⟩
  · subst hn8
    obtain ⟨s0, s1, s2, s3, s4, s5, s6, -⟩ := cells7 hg8
    have h27I : (kk : Int) < 27 := by omega
    have HB : Hid _ := HK18.out.be
    clear hg8
    rcases hz9 with hz9 | hz9
    · subst hz9
      go_wp2_with fail
      refine (num_any _ _).mono ?_
      rintro e w19 ⟨rfl, rfl⟩
      go_wp2_with fail
      refine (num_any _ _).mono ?_
      rintro e w20 ⟨rfl, rfl⟩
      go_wp2_with fail
      refine (num_any _ _).mono ?_
      rintro e w21 ⟨rfl, rfl⟩
      go_wp2
      go_ret
      exact ⟨rfl, HB.out⟩
    · subst hz9
      go_wp2_with fail
      refine (num_any _ _).mono ?_
      rintro e w19 ⟨rfl, rfl⟩
      go_wp2_with fail
      refine (num_any _ _).mono ?_
      rintro e w20 ⟨rfl, rfl⟩
      go_wp2
      go_ret
      exact ⟨rfl, HB.out⟩
end Go.Proofs.YtckbbbcjpklnmaaDoor.Ix
