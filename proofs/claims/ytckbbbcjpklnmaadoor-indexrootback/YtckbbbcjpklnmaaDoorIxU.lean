import Derived.Test.YtckbbbcjpklnmaaDoorIxT
namespace Go.Proofs.YtckbbbcjpklnmaaDoor.Ix
open Go.RowKit Go.Lib Go.Deep

def ecrE (c d : Cf) (R : List Rf) : Int := if c.May ∧ (d.sl = c.sl ∧ d.fl = c.fl ∧ d.dr = c.dr ∧ d.mf = c.mf ∧ d.ls = c.ls ∧ d.pg = c.pg) then (if (R.all (fun r => decide (r.nm.size = 16 ∧ r.tg.size = 16)) && decide (R.length = c.n.pgs)) = true then 0 else 141) else 140
def ecrY (c d : Cf) (R : List Rf) : ByteArray := if ecrE c d R = 0 then str (rootL c.n R) else { data := #[] }
set_option maxRecDepth 20000 in
set_option maxHeartbeats 2000000 in
theorem encRoot_any (c d : Cf) (R : List Rf) (hR : R.length ≤ 1099511000000) (w : World) (hT : RT w) (av : Option Addr) (n k : Nat) (hS : See w 2 (.slice av n k) n (rfsC R)) (hn : R.length = n) :
    Calls Tryd.prog 16 #[cfV c, .agg (cfA d ++ #[.slice av n k])] w fun e w' => e = .returned (.tuple #[.string (ecrY c d R), .int .i64 (ecrE c d R)]) ∧ Below w.heap.size w w' := by
  have KM := fun X hX => mayBe_any c X hX
  by_cases hm : c.May
  · by_cases hd : d = c
    · subst hd
      obtain ⟨c0, hc0, rfl⟩ := hm.cn
      have KA := fun X hX h => areRefs_any c0 hc0.1 R hR X hX av n k h hn
      have e1 : ecrE c0.cf c0.cf R = if (R.all (fun r => decide (r.nm.size = 16 ∧ r.tg.size = 16)) && decide (R.length = c0.pgs)) = true then 0 else 141 := by
        unfold ecrE
        rw [if_pos ⟨hm, rfl, rfl, rfl, rfl, rfl, rfl⟩, Cn.cf_n]
      have e2 : ecrY c0.cf c0.cf R = if (R.all (fun r => decide (r.nm.size = 16 ∧ r.tg.size = 16)) && decide (R.length = c0.pgs)) = true then str (rootL c0 R) else { data := #[] } := by
        unfold ecrY
        rw [e1, Cn.cf_n]
        by_cases hq : (R.all (fun r => decide (r.nm.size = 16 ∧ r.tg.size = 16)) && decide (R.length = c0.pgs)) = true
        · rw [if_pos hq, if_pos rfl, if_pos hq]
        · rw [if_neg hq, if_neg hq]
          rfl
      rw [e1, e2]
      clear e1 e2
      have KR : (R.all (fun r => decide (r.nm.size = 16 ∧ r.tg.size = 16)) && decide (R.length = c0.pgs)) = true → ∀ X, See X 2 (.slice av n k) n (rfsC R) → Calls Tryd.prog 42 #[.agg (cfA c0.cf ++ #[.slice av n k])] X fun e w' => e = .returned (.string (str (rootL c0 R))) ∧ Below X.heap.size X w' := fun hq X hX => by
        rw [Bool.and_eq_true, List.all_eq_true, decide_eq_true_eq] at hq
        have := hc0.2
        have := hc0.1.fit.2.2
        exact rootOf_any c0 hc0.1 R (by omega) (fun r hr => (of_decide_eq_true (hq.1 r hr) : r.nm.size = 16 ∧ r.tg.size = 16)) X av n k hX hn (by omega)
      rw [decide_eq_true hm] at KM
      clear hm hc0
      obtain ⟨sl, fl, dr, mf, ls, pg⟩ := c0
      have e0 : (Value.agg (cfA (Cn.cf ⟨sl, fl, dr, mf, ls, pg⟩) ++ #[.slice av n k])) = .agg #[.int .i64 (sl : Int), .int .i64 (fl : Int), .int .i64 (dr : Int), .int .i64 (mf : Int), .int .i64 (ls : Int), .int .i64 (pg : Int), .slice av n k] := rfl
      rw [e0] at KR ⊢
      clear e0
      generalize str (rootL ⟨sl, fl, dr, mf, ls, pg⟩ R) = RS at *
      obtain ⟨V, hV, hbV, g0, g1⟩ := two_new w #[.int .i64 (sl : Int), .int .i64 (fl : Int), .int .i64 (dr : Int), .int .i64 (mf : Int), .int .i64 (ls : Int), .int .i64 (pg : Int)] #[.int .i64 (sl : Int), .int .i64 (fl : Int), .int .i64 (dr : Int), .int .i64 (mf : Int), .int .i64 (ls : Int), .int .i64 (pg : Int), .slice av n k] 23 38
      have l0 := heap_lt g0
      have l1 := heap_lt g1
      have HC : Hid (∀ X, Below V.heap.size V X → Below w.heap.size w X ∧ RT X ∧ See X 2 (.slice av n k) n (rfsC R) ∧ X.cell? ⟨w.heap.size, 0, none⟩ = some (.int .i64 (sl : Int)) ∧ X.cell? ⟨w.heap.size, 1, none⟩ = some (.int .i64 (fl : Int)) ∧ X.cell? ⟨w.heap.size, 2, none⟩ = some (.int .i64 (dr : Int)) ∧ X.cell? ⟨w.heap.size, 3, none⟩ = some (.int .i64 (mf : Int)) ∧ X.cell? ⟨w.heap.size, 4, none⟩ = some (.int .i64 (ls : Int)) ∧ X.cell? ⟨w.heap.size, 5, none⟩ = some (.int .i64 (pg : Int)) ∧ X.cell? ⟨(w.heap.size + 1), 0, none⟩ = some (.int .i64 (sl : Int)) ∧ X.cell? ⟨(w.heap.size + 1), 1, none⟩ = some (.int .i64 (fl : Int)) ∧ X.cell? ⟨(w.heap.size + 1), 2, none⟩ = some (.int .i64 (dr : Int)) ∧ X.cell? ⟨(w.heap.size + 1), 3, none⟩ = some (.int .i64 (mf : Int)) ∧ X.cell? ⟨(w.heap.size + 1), 4, none⟩ = some (.int .i64 (ls : Int)) ∧ X.cell? ⟨(w.heap.size + 1), 5, none⟩ = some (.int .i64 (pg : Int)) ∧ X.cell? ⟨w.heap.size + 1, 6, none⟩ = some (.slice av n k)) := fun X hX => by
        have k0 := (hX.block _ l0).trans g0
        have k1 := (hX.block _ l1).trans g1
        have hbw := hbV.trans (hX.mono hbV.size)
        exact ⟨hbw, hT.next hbw, hS.below hbw, (cell_of_heap k0).trans rfl, (cell_of_heap k0).trans rfl, (cell_of_heap k0).trans rfl, (cell_of_heap k0).trans rfl, (cell_of_heap k0).trans rfl, (cell_of_heap k0).trans rfl, (cell_of_heap k1).trans rfl, (cell_of_heap k1).trans rfl, (cell_of_heap k1).trans rfl, (cell_of_heap k1).trans rfl, (cell_of_heap k1).trans rfl, (cell_of_heap k1).trans rfl, (cell_of_heap k1).trans rfl⟩
      obtain ⟨-, hTV, -, y0, y1, y2, y3, y4, y5, x0, x1, x2, x3, x4, x5, x6⟩ := HC.out V (Below.refl _ _)
      have KM0 := KM V hTV
      unfold cfV cfA Cn.cf at *
      simp only at *
      clear hT hS g0 g1 hbV hTV KM
      by_cases hq : (R.all (fun r => decide (r.nm.size = 16 ∧ r.tg.size = 16)) && decide (R.length = Cn.pgs ⟨sl, fl, dr, mf, ls, pg⟩)) = true
      · rw [if_pos hq, if_pos hq]
        rw [hq] at KA
        have KR' := KR hq
        clear hq KR
        go_enter Tryd.func16, Tryd.ntmps16
        go_wp2_with fail
        refine KM0.mono ?_
        rintro e w1 ⟨rfl, hb1⟩
        clear y0 y1 y2 y3 y4 y5 x0 x1 x2 x3 x4 x5 x6 KM0
        obtain ⟨-, hT1, hS1, y0, y1, y2, y3, y4, y5, x0, x1, x2, x3, x4, x5, x6⟩ := HC.out w1 hb1
        go_wp2_with fail
        refine (KA w1 hT1 hS1).mono ?_
        rintro e w2 ⟨rfl, hb2'⟩
        have hb2 := hb1.trans (hb2'.mono hb1.size)
        clear y0 y1 y2 y3 y4 y5 x0 x1 x2 x3 x4 x5 x6 KA hb2' hT1 hS1
        obtain ⟨-, hT1, hS1, y0, y1, y2, y3, y4, y5, x0, x1, x2, x3, x4, x5, x6⟩ := HC.out w2 hb2
        go_wp2_with fail
        refine (KR' w2 hS1).mono ?_
        rintro e w3 ⟨rfl, hb3'⟩
        have HB : Hid _ := (HC.out w3 (hb2.trans (hb3'.mono hb2.size))).1
        clear hb3'
        go_wp2
        go_ret2
        exact ⟨rfl, HB.out⟩
      · rw [if_neg hq, if_neg hq]
        rw [Bool.eq_false_iff.2 hq] at KA
        clear hq KR
        go_enter Tryd.func16, Tryd.ntmps16
        go_wp2_with fail
        refine KM0.mono ?_
        rintro e w1 ⟨rfl, hb1⟩
        clear y0 y1 y2 y3 y4 y5 x0 x1 x2 x3 x4 x5 x6 KM0
        obtain ⟨-, hT1, hS1, y0, y1, y2, y3, y4, y5, x0, x1, x2, x3, x4, x5, x6⟩ := HC.out w1 hb1
        go_wp2_with fail
        refine (KA w1 hT1 hS1).mono ?_
        rintro e w2 ⟨rfl, hb2'⟩
        have HB : Hid _ := (HC.out w2 (hb1.trans (hb2'.mono hb1.size))).1
        clear hb2'
        go_wp2
        go_ret2
        exact ⟨rfl, HB.out⟩
    · have e1 : ecrE c d R = 140 := if_neg (fun x => hd (cf_ext.1 x.2))
      have e2 : ecrY c d R = { data := #[] } := if_neg (by rw [e1]; decide)
      rw [e1, e2]
      rw [decide_eq_true hm] at KM
      have HD : Hid (d ≠ c) := hd
      clear hm e1 e2 hd
      obtain ⟨sl, fl, dr, mf, ls, pg⟩ := c
      obtain ⟨sl', fl', dr', mf', ls', pg'⟩ := d
      have e0 : (Value.agg (cfA (Cf.mk sl' fl' dr' mf' ls' pg') ++ #[.slice av n k])) = .agg #[.int .i64 sl', .int .i64 fl', .int .i64 dr', .int .i64 mf', .int .i64 ls', .int .i64 pg', .slice av n k] := rfl
      rw [e0]
      clear e0
      obtain ⟨V, hV, hbV, g0, g1⟩ := two_new w #[.int .i64 sl, .int .i64 fl, .int .i64 dr, .int .i64 mf, .int .i64 ls, .int .i64 pg] #[.int .i64 sl', .int .i64 fl', .int .i64 dr', .int .i64 mf', .int .i64 ls', .int .i64 pg', .slice av n k] 23 38
      have l0 := heap_lt g0
      have l1 := heap_lt g1
      have KM0 := KM V (hT.next hbV)
      unfold cfV cfA at *
      simp only at *
      have HC : Hid (∀ X, Below V.heap.size V X → Below w.heap.size w X ∧ X.cell? ⟨w.heap.size, 0, none⟩ = some (.int .i64 sl) ∧ X.cell? ⟨w.heap.size, 1, none⟩ = some (.int .i64 fl) ∧ X.cell? ⟨w.heap.size, 2, none⟩ = some (.int .i64 dr) ∧ X.cell? ⟨w.heap.size, 3, none⟩ = some (.int .i64 mf) ∧ X.cell? ⟨w.heap.size, 4, none⟩ = some (.int .i64 ls) ∧ X.cell? ⟨w.heap.size, 5, none⟩ = some (.int .i64 pg) ∧ X.cell? ⟨w.heap.size + 1, 0, none⟩ = some (.int .i64 sl') ∧ X.cell? ⟨w.heap.size + 1, 1, none⟩ = some (.int .i64 fl') ∧ X.cell? ⟨w.heap.size + 1, 2, none⟩ = some (.int .i64 dr') ∧ X.cell? ⟨w.heap.size + 1, 3, none⟩ = some (.int .i64 mf') ∧ X.cell? ⟨w.heap.size + 1, 4, none⟩ = some (.int .i64 ls') ∧ X.cell? ⟨w.heap.size + 1, 5, none⟩ = some (.int .i64 pg')) := fun X hX => by
        have k0 := (hX.block _ l0).trans g0
        have k1 := (hX.block _ l1).trans g1
        exact ⟨hbV.trans (hX.mono hbV.size), (cell_of_heap k0).trans rfl, (cell_of_heap k0).trans rfl, (cell_of_heap k0).trans rfl, (cell_of_heap k0).trans rfl, (cell_of_heap k0).trans rfl, (cell_of_heap k0).trans rfl, (cell_of_heap k1).trans rfl, (cell_of_heap k1).trans rfl, (cell_of_heap k1).trans rfl, (cell_of_heap k1).trans rfl, (cell_of_heap k1).trans rfl, (cell_of_heap k1).trans rfl⟩
      obtain ⟨-, y0, y1, y2, y3, y4, y5, x0, x1, x2, x3, x4, x5⟩ := HC.out V (Below.refl _ _)
      clear hT hS g0 g1 hbV KM
      go_enter Tryd.func16, Tryd.ntmps16
      go_wp2_with fail
      refine KM0.mono ?_
      rintro e w1 ⟨rfl, hb1⟩
      clear y0 y1 y2 y3 y4 y5 x0 x1 x2 x3 x4 x5 KM0
      obtain ⟨hbw, y0, y1, y2, y3, y4, y5, x0, x1, x2, x3, x4, x5⟩ := HC.out w1 hb1
      have HB : Hid _ := hbw
      have hne : ¬ sl' = sl ∨ (sl' = sl ∧ ¬ fl' = fl) ∨ (sl' = sl ∧ fl' = fl ∧ ¬ dr' = dr) ∨ (sl' = sl ∧ fl' = fl ∧ dr' = dr ∧ ¬ mf' = mf) ∨ (sl' = sl ∧ fl' = fl ∧ dr' = dr ∧ mf' = mf ∧ ¬ ls' = ls) ∨ (sl' = sl ∧ fl' = fl ∧ dr' = dr ∧ mf' = mf ∧ ls' = ls ∧ ¬ pg' = pg) := by
        have h := HD.out
        simp only [ne_eq, Cf.mk.injEq] at h
        omega
      clear hbw HC HD
      rcases hne with h | ⟨rfl, h⟩ | ⟨rfl, rfl, h⟩ | ⟨rfl, rfl, rfl, h⟩ | ⟨rfl, rfl, rfl, rfl, h⟩ | ⟨rfl, rfl, rfl, rfl, rfl, h⟩
      all_goals
        go_wp2
        go_ret2
        exact ⟨rfl, HB.out⟩
  · have e1 : ecrE c d R = 140 := if_neg (fun x => hm x.1)
    have e2 : ecrY c d R = { data := #[] } := if_neg (by rw [e1]; decide)
    rw [e1, e2]
    rw [decide_eq_false hm] at KM
    clear hm e1 e2
    obtain ⟨sl, fl, dr, mf, ls, pg⟩ := c
    obtain ⟨sl', fl', dr', mf', ls', pg'⟩ := d
    have e0 : (Value.agg (cfA (Cf.mk sl' fl' dr' mf' ls' pg') ++ #[.slice av n k])) = .agg #[.int .i64 sl', .int .i64 fl', .int .i64 dr', .int .i64 mf', .int .i64 ls', .int .i64 pg', .slice av n k] := rfl
    rw [e0]
    clear e0
    obtain ⟨V, hV, hbV, g0, g1⟩ := two_new w #[.int .i64 sl, .int .i64 fl, .int .i64 dr, .int .i64 mf, .int .i64 ls, .int .i64 pg] #[.int .i64 sl', .int .i64 fl', .int .i64 dr', .int .i64 mf', .int .i64 ls', .int .i64 pg', .slice av n k] 23 38
    have KM0 := KM V (hT.next hbV)
    unfold cfV cfA at *
    simp only at *
    have y0 : V.cell? ⟨w.heap.size, 0, none⟩ = some (.int .i64 sl) := (cell_of_heap g0).trans rfl
    have y1 : V.cell? ⟨w.heap.size, 1, none⟩ = some (.int .i64 fl) := (cell_of_heap g0).trans rfl
    have y2 : V.cell? ⟨w.heap.size, 2, none⟩ = some (.int .i64 dr) := (cell_of_heap g0).trans rfl
    have y3 : V.cell? ⟨w.heap.size, 3, none⟩ = some (.int .i64 mf) := (cell_of_heap g0).trans rfl
    have y4 : V.cell? ⟨w.heap.size, 4, none⟩ = some (.int .i64 ls) := (cell_of_heap g0).trans rfl
    have y5 : V.cell? ⟨w.heap.size, 5, none⟩ = some (.int .i64 pg) := (cell_of_heap g0).trans rfl
    have HB : Hid (Below w.heap.size w V) := hbV
    clear hT hS g0 g1 hbV KM
    go_enter Tryd.func16, Tryd.ntmps16
    go_wp2_with fail
    refine KM0.mono ?_
    rintro e w1 ⟨rfl, hb1⟩
    have HB1 : Hid _ := HB.out.trans (hb1.mono HB.out.size)
    clear hb1 KM0
    go_wp2
    go_ret2
    exact ⟨rfl, HB1.out⟩
end Go.Proofs.YtckbbbcjpklnmaaDoor.Ix
