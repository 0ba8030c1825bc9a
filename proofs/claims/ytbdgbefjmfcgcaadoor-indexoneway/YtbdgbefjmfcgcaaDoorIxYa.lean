import Derived.Test.YtbdgbefjmfcgcaaDoorXeM
import Derived.Test.YtbdgbefjmfcgcaaDoorIxNb
namespace Go.Proofs.YtbdgbefjmfcgcaaDoor.Ix
open Go.RowKit Go.Lib Go.Deep
set_option maxRecDepth 20000 in
set_option maxHeartbeats 1000000 in
/-- a queue of its rows, whatever its head says -/
theorem uncounted_all (q r : Nat) (hr : r ≤ 100000) (hr1 : 1 ≤ r) (L : List Int) (B : Nat) (w : World) (g cap : Nat) (hS : w.ownsRow B 3 1 (.slice (some ⟨g, 0, none⟩) (1 + r) cap) (1 + r) (zsC ((q : Int) :: L))) :
    Calls Tryd.prog 57 #[.slice (some ⟨g, 0, none⟩) (1 + r) cap] w fun e w' => e = .returned (.slice (some ⟨g, 1, none⟩) (min q r) (cap - 1)) ∧ Below w.heap.size w w' := by
  by_cases hqr : q ≤ r
  · rw [Nat.min_eq_left hqr]
    exact uncounted_any q r hqr hr hr1 L B w g cap hS
  · rw [Nat.min_eq_right (by omega)]
    obtain ⟨b0, off0, e, -, c0⟩ := (see_own hS (zs_one _)).z (i := 0) (z := (q : Int)) rfl
    injection e with e
    injection e with e1 e2 _
    subst e1 e2
    have hc := own_cap hS
    obtain ⟨d, hd⟩ : ∃ d, cap - 1 = d := ⟨_, rfl⟩
    obtain ⟨n, hn⟩ : ∃ n, 1 + r = n := ⟨_, rfl⟩
    have h1 : ∀ W, (Instr.slice 24 (.slice (some ⟨g, 0, none⟩) n cap) (some (.int .i64 1)) none none).run Tryd.prog W = .ok (.slice (some ⟨g, 1, none⟩) r d) W := fun W => by
      have h := ints_fromC W g n cap 1 (by omega) (by omega) 1 rfl
      rw [hd, show n - 1 = r by omega] at h
      exact h
    have KI := fun X => isFrom_any (q : Int) 0 (r : Int) X
    rw [decide_eq_false (show ¬ ((0 : Int) ≤ (q : Int) ∧ (q : Int) ≤ (r : Int)) by omega)] at KI
    have hn0 : 0 < n := by omega
    have HB : Hid (Below w.heap.size w w.drew) := (Below.refl _ _).drew
    rw [hd, hn]
    rw [Nat.zero_add] at c0
    clear hS hd hn hc
    go_enter Tryd.func57, Tryd.ntmps57
    go_wp2_with fail
    go_region_held_law (fun X => X.cell? ⟨g, 0, none⟩ = some (.int .i64 (q : Int))) (first | go_keep) (first | fail)
    all_goals
      go_wp2_with fail
      refine (KI _).mono ?_
      rintro e w5 ⟨rfl, hw5⟩
      subst hw5
      go_wp2
      go_ret
      exact ⟨rfl, HB.out⟩
set_option maxRecDepth 20000 in
set_option maxHeartbeats 1000000 in
/-- Encode of what does not fit -/
theorem encode_no (sl fl dr mf ls pg : Nat) (hc : Cn.May ⟨sl, fl, dr, mf, ls, pg⟩) (T : List Nd) (O : List Ob) (Q : List Int) (hno : ¬ (risB ⟨sl, fl, dr, mf, ls, pg⟩ 0 T = true ∧ poolB ⟨sl, fl, dr, mf, ls, pg⟩ O Q = true))
    (w : World) (hR : RT w) (a : Option Addr) (n k : Nat) (hS : See w 5 (.slice a n k) n (ndsC T)) (hn : T.length = n) (hnb : n ≤ 1099511000000) (ao : Option Addr) (no ko : Nat) (hSo : See w 4 (.slice ao no ko) no (obsC O)) (hno' : O.length = no) (aq : Option Addr) (nq kq : Nat) (hSq : See w 1 (.slice aq nq kq) nq (zsC Q)) (hnq : Q.length = nq) (h1 : no = fl + sl) (h2 : nq ≤ no) :
    Calls Tryd.prog 8 #[.agg #[.int .i64 (sl : Int), .int .i64 (fl : Int), .int .i64 (dr : Int), .int .i64 (mf : Int), .int .i64 (ls : Int), .int .i64 (pg : Int)], .agg #[.int .i64 (fl : Int), .int .i64 (dr : Int), .slice a n k], .agg #[.slice ao no ko, .slice aq nq kq]] w fun e w' => ∃ z : Int, z ≠ 0 ∧ e = .returned (.tuple #[.slice none 0 0, .int .i64 z]) ∧ Below w.heap.size w w' := by
  have hlim : fl ≤ 65536 ∧ sl ≤ 64 := ⟨hc.1.2.2.2.1, hc.1.2.1⟩
  obtain ⟨V, hV, hbV, g0, g1, g2⟩ := three_new w #[.int .i64 (sl : Int), .int .i64 (fl : Int), .int .i64 (dr : Int), .int .i64 (mf : Int), .int .i64 (ls : Int), .int .i64 (pg : Int)] #[.int .i64 (fl : Int), .int .i64 (dr : Int), .slice a n k] #[.slice ao no ko, .slice aq nq kq] 23 28 32
  have HX : Hid (∀ X, Below V.heap.size V X → (X.cell? ⟨w.heap.size, 0, none⟩ = some (.int .i64 (sl : Int)) ∧ X.cell? ⟨w.heap.size, 1, none⟩ = some (.int .i64 (fl : Int)) ∧ X.cell? ⟨w.heap.size, 2, none⟩ = some (.int .i64 (dr : Int)) ∧ X.cell? ⟨w.heap.size, 3, none⟩ = some (.int .i64 (mf : Int)) ∧ X.cell? ⟨w.heap.size, 4, none⟩ = some (.int .i64 (ls : Int)) ∧ X.cell? ⟨w.heap.size, 5, none⟩ = some (.int .i64 (pg : Int))) ∧ (X.cell? ⟨w.heap.size + 1, 0, none⟩ = some (.int .i64 (fl : Int)) ∧ X.cell? ⟨w.heap.size + 1, 1, none⟩ = some (.int .i64 (dr : Int)) ∧ X.cell? ⟨w.heap.size + 1, 2, none⟩ = some (.slice a n k) ∧ X.cell? ⟨w.heap.size + 2, 0, none⟩ = some (.slice ao no ko) ∧ X.cell? ⟨w.heap.size + 2, 1, none⟩ = some (.slice aq nq kq))) := fun X hX => by
    exact ⟨cells6 ((hX.block _ (heap_lt g0)).trans g0), (cell_of_heap ((hX.block _ (heap_lt g1)).trans g1)).trans rfl, (cell_of_heap ((hX.block _ (heap_lt g1)).trans g1)).trans rfl, (cell_of_heap ((hX.block _ (heap_lt g1)).trans g1)).trans rfl, (cell_of_heap ((hX.block _ (heap_lt g2)).trans g2)).trans rfl, (cell_of_heap ((hX.block _ (heap_lt g2)).trans g2)).trans rfl⟩
  have HW : Hid (∀ X, Below V.heap.size V X → Below w.heap.size w X) := fun X hX => below_on hX hbV
  have K1 := mayBe_any (Cn.cf ⟨sl, fl, dr, mf, ls, pg⟩) V (hR.next hbV)
  rw [decide_eq_true hc.cf] at K1
  have K2 : Hid (∀ X, Below V.heap.size V X → _) := fun X hX => treeFits_any sl fl dr mf ls pg hc.1 (fl : Int) (dr : Int) T X a n k (hS.below (HW.out X hX)) hn hnb
  rw [show treeB ⟨sl, fl, dr, mf, ls, pg⟩ (fl : Int) (dr : Int) T = risB ⟨sl, fl, dr, mf, ls, pg⟩ 0 T by unfold treeB; simp] at K2
  have K3 : Hid (∀ X, Below V.heap.size V X → _) := fun X hX => poolFits_any sl fl dr mf ls pg hc.1 O Q X ao aq no ko nq kq (hSo.below (HW.out X hX)) hno' (by omega) (hSq.below (HW.out X hX)) hnq h1 h2
  obtain ⟨⟨y0, y1, y2, y3, y4, y5⟩, t0, t1, t2, p0, p1⟩ := HX.out V (Below.refl _ _)
  have hcase : risB ⟨sl, fl, dr, mf, ls, pg⟩ 0 T = false ∨ (risB ⟨sl, fl, dr, mf, ls, pg⟩ 0 T = true ∧ poolB ⟨sl, fl, dr, mf, ls, pg⟩ O Q = false) := by
    cases hr : risB ⟨sl, fl, dr, mf, ls, pg⟩ 0 T
    · exact .inl rfl
    · cases hp : poolB ⟨sl, fl, dr, mf, ls, pg⟩ O Q
      · exact .inr ⟨rfl, rfl⟩
      · exact absurd ⟨hr, hp⟩ hno
  clear hno hc hS hSo hSq hn hno' hnq hlim hR h1 h2
  rcases hcase with hr | ⟨hr, hp⟩
  · rw [hr] at K2
    clear hr
    go_enter Tryd.func8, Tryd.ntmps8
    go_wp2_with fail
    refine K1.mono ?_
    rintro e w1 ⟨rfl, hb1⟩
    have HB1 : Hid (Below V.heap.size V w1) := hb1
    clear K1 hb1 y0 y1 y2 y3 y4 y5 t0 t1 t2 p0 p1
    obtain ⟨⟨y0, y1, y2, y3, y4, y5⟩, t0, t1, t2, p0, p1⟩ := HX.out w1 HB1.out
    go_wp2_with fail
    refine (K2.out w1 HB1.out).mono ?_
    rintro e w2 ⟨rfl, hb2⟩
    have HB2 : Hid _ := HW.out _ (below_on hb2 HB1.out)
    clear K2 hb2 y0 y1 y2 y3 y4 y5 t0 t1 t2 p0 p1
    go_wp2
    go_ret2
    exact ⟨128, by decide, rfl, HB2.out⟩
  · rw [hr] at K2
    rw [hp] at K3
    clear hr hp
    go_enter Tryd.func8, Tryd.ntmps8
    go_wp2_with fail
    refine K1.mono ?_
    rintro e w1 ⟨rfl, hb1⟩
    have HB1 : Hid (Below V.heap.size V w1) := hb1
    clear K1 hb1 y0 y1 y2 y3 y4 y5 t0 t1 t2 p0 p1
    obtain ⟨⟨y0, y1, y2, y3, y4, y5⟩, t0, t1, t2, p0, p1⟩ := HX.out w1 HB1.out
    go_wp2_with fail
    refine (K2.out w1 HB1.out).mono ?_
    rintro e w2 ⟨rfl, hb2⟩
    have HB2 : Hid (Below V.heap.size V w2) := below_on hb2 HB1.out
    clear K2 hb2 y0 y1 y2 y3 y4 y5 t0 t1 t2 p0 p1
    obtain ⟨⟨y0, y1, y2, y3, y4, y5⟩, t0, t1, t2, p0, p1⟩ := HX.out w2 HB2.out
    go_wp2_with fail
    refine (K3.out w2 HB2.out).mono ?_
    rintro e w3 ⟨rfl, hb3⟩
    have HB3 : Hid _ := HW.out _ (below_on hb3 HB2.out)
    clear K3 hb3 y0 y1 y2 y3 y4 y5 t0 t1 t2 p0 p1
    go_wp2
    go_ret2
    exact ⟨130, by decide, rfl, HB3.out⟩
end Go.Proofs.YtbdgbefjmfcgcaaDoor.Ix
