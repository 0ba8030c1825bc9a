import Derived.Test.YtbdgbefjmfcgcaaDoorIxNa
import Derived.Test.YtbdgbefjmfcgcaaDoorIxO
import Derived.Test.YtbdgbefjmfcgcaaDoorIxP
namespace Go.Proofs.YtbdgbefjmfcgcaaDoor.Ix
open Go.RowKit Go.Lib Go.Deep
set_option maxRecDepth 20000 in
set_option maxHeartbeats 2000000 in
/-- Encode of what fits -/
theorem encode_any (sl fl dr mf ls pg : Nat) (hc : Cn.May ⟨sl, fl, dr, mf, ls, pg⟩) (T : List Nd) (O : List Ob) (Q : List Int) (hT : risB ⟨sl, fl, dr, mf, ls, pg⟩ 0 T = true) (hP : poolB ⟨sl, fl, dr, mf, ls, pg⟩ O Q = true)
    (w : World) (hR : RT w) (a : Option Addr) (n k : Nat) (hS : See w 5 (.slice a n k) n (ndsC T)) (hn : T.length = n) (hnb : n ≤ 1099511000000) (ao : Option Addr) (no ko : Nat) (hSo : See w 4 (.slice ao no ko) no (obsC O)) (hno : O.length = no) (aq : Option Addr) (nq kq : Nat) (hSq : See w 1 (.slice aq nq kq) nq (zsC Q)) (hnq : Q.length = nq) :
    Calls Tryd.prog 8 #[.agg #[.int .i64 (sl : Int), .int .i64 (fl : Int), .int .i64 (dr : Int), .int .i64 (mf : Int), .int .i64 (ls : Int), .int .i64 (pg : Int)], .agg #[.int .i64 (fl : Int), .int .i64 (dr : Int), .slice a n k], .agg #[.slice ao no ko, .slice aq nq kq]] w fun e w' => ∃ a' k', e = .returned (.tuple #[.slice a' (Cn.pgs ⟨sl, fl, dr, mf, ls, pg⟩) k', .int .i64 0]) ∧ w'.ownsRow w.heap.size 9 1 (.slice a' (Cn.pgs ⟨sl, fl, dr, mf, ls, pg⟩) k') (Cn.pgs ⟨sl, fl, dr, mf, ls, pg⟩) (scC (cutL (pg - 5) (Cn.pgs ⟨sl, fl, dr, mf, ls, pg⟩) (whoL ⟨sl, fl, dr, mf, ls, pg⟩ T O Q))) ∧ Below w.heap.size w w' := by
  obtain ⟨⟨h1o, h1q⟩, h2o, h2q⟩ := pool_iff.1 hP
  have hrw : Cn.rows ⟨sl, fl, dr, mf, ls, pg⟩ = fl + sl := rfl
  have hlim : fl ≤ 65536 ∧ sl ≤ 64 := ⟨hc.1.2.2.2.1, hc.1.2.1⟩
  obtain ⟨V, hV, hbV, g0, g1, g2⟩ := three_new w #[.int .i64 (sl : Int), .int .i64 (fl : Int), .int .i64 (dr : Int), .int .i64 (mf : Int), .int .i64 (ls : Int), .int .i64 (pg : Int)] #[.int .i64 (fl : Int), .int .i64 (dr : Int), .slice a n k] #[.slice ao no ko, .slice aq nq kq] 23 28 32
  have HX : Hid (∀ X, Below V.heap.size V X → (X.cell? ⟨w.heap.size, 0, none⟩ = some (.int .i64 (sl : Int)) ∧ X.cell? ⟨w.heap.size, 1, none⟩ = some (.int .i64 (fl : Int)) ∧ X.cell? ⟨w.heap.size, 2, none⟩ = some (.int .i64 (dr : Int)) ∧ X.cell? ⟨w.heap.size, 3, none⟩ = some (.int .i64 (mf : Int)) ∧ X.cell? ⟨w.heap.size, 4, none⟩ = some (.int .i64 (ls : Int)) ∧ X.cell? ⟨w.heap.size, 5, none⟩ = some (.int .i64 (pg : Int))) ∧ (X.cell? ⟨w.heap.size + 1, 0, none⟩ = some (.int .i64 (fl : Int)) ∧ X.cell? ⟨w.heap.size + 1, 1, none⟩ = some (.int .i64 (dr : Int)) ∧ X.cell? ⟨w.heap.size + 1, 2, none⟩ = some (.slice a n k) ∧ X.cell? ⟨w.heap.size + 2, 0, none⟩ = some (.slice ao no ko) ∧ X.cell? ⟨w.heap.size + 2, 1, none⟩ = some (.slice aq nq kq))) := fun X hX => by
    exact ⟨cells6 ((hX.block _ (heap_lt g0)).trans g0), (cell_of_heap ((hX.block _ (heap_lt g1)).trans g1)).trans rfl, (cell_of_heap ((hX.block _ (heap_lt g1)).trans g1)).trans rfl, (cell_of_heap ((hX.block _ (heap_lt g1)).trans g1)).trans rfl, (cell_of_heap ((hX.block _ (heap_lt g2)).trans g2)).trans rfl, (cell_of_heap ((hX.block _ (heap_lt g2)).trans g2)).trans rfl⟩
  have HW : Hid (∀ X, Below V.heap.size V X → Below w.heap.size w X) := fun X hX => below_on hX hbV
  have K1 := mayBe_any (Cn.cf ⟨sl, fl, dr, mf, ls, pg⟩) V (hR.next hbV)
  rw [decide_eq_true hc.cf] at K1
  have K2 : Hid (∀ X, Below V.heap.size V X → _) := fun X hX => treeFits_any sl fl dr mf ls pg hc.1 (fl : Int) (dr : Int) T X a n k (hS.below (HW.out X hX)) hn hnb
  rw [show treeB ⟨sl, fl, dr, mf, ls, pg⟩ (fl : Int) (dr : Int) T = true by unfold treeB; rw [hT]; simp] at K2
  have K3 : Hid (∀ X, Below V.heap.size V X → _) := fun X hX => poolFits_any sl fl dr mf ls pg hc.1 O Q X ao aq no ko nq kq (hSo.below (HW.out X hX)) hno (by rw [← hno, h1o, hrw]; omega) (hSq.below (HW.out X hX)) hnq (by rw [← hno, h1o, hrw]) (by rw [← hno, ← hnq, h1o]; exact h1q)
  rw [hP] at K3
  have K4 : Hid (∀ X, Below V.heap.size V X → _) := fun X hX => imageOf_any sl fl dr mf ls pg hc T O Q hT h1o h2o h1q h2q (fl : Int) (dr : Int) X (hR.next (HW.out X hX)) a n k (hS.below (HW.out X hX)) hn hnb ao no ko (hSo.below (HW.out X hX)) hno aq nq kq (hSq.below (HW.out X hX)) hnq
  have hwl : (whoL ⟨sl, fl, dr, mf, ls, pg⟩ T O Q).length = Cn.pgs ⟨sl, fl, dr, mf, ls, pg⟩ * (pg - 5) := by
    obtain ⟨i1, i2, i3, i4, i5⟩ := imgL_len (ris_at hT).1 h2o h1o h1q
    have := hc.1.fit.1
    unfold whoL
    rw [List.length_append, i5]
    simp only [z0, List.length_replicate]
    have e : Cn.body ⟨sl, fl, dr, mf, ls, pg⟩ = pg - 5 := rfl
    rw [e] at this ⊢
    omega
  have K5 : Hid (∀ X, Below V.heap.size V X → _) := fun X hX => cutInto_any sl fl dr mf ls pg hc (whoL ⟨sl, fl, dr, mf, ls, pg⟩ T O Q) X (hR.next (HW.out X hX))
  obtain ⟨⟨y0, y1, y2, y3, y4, y5⟩, t0, t1, t2, p0, p1⟩ := HX.out V (Below.refl _ _)
  generalize Cn.pgs ⟨sl, fl, dr, mf, ls, pg⟩ = m at *
  generalize whoL ⟨sl, fl, dr, mf, ls, pg⟩ T O Q = I at *
  obtain ⟨b, hb⟩ : ∃ b, pg - 5 = b := ⟨_, rfl⟩
  rw [hb] at K4 K5 hwl ⊢
  obtain ⟨N, hN⟩ : ∃ N, m * b = N := ⟨_, rfl⟩
  rw [hN] at K4 K5 hwl
  have HWL : Hid (I.length = N) := hwl
  clear hT hP hc hS hSo hSq hn hno hnq h1o h1q h2o h2q hrw hlim hwl hR hb hN
  go_enter Tryd.func8, Tryd.ntmps8
  go_wp2_with fail
  refine K1.mono ?_
  rintro e w1 ⟨rfl, hb1⟩
  have HB1 : Hid (Below V.heap.size V w1) := hb1
  clear K1 hb1 y0 y1 y2 y3 y4 y5 t0 t1 t2 p0 p1
  obtain ⟨⟨y0, y1, y2, y3, y4, y5⟩, t0, t1, t2, p0, p1⟩ := HX.out w1 HB1.out
  go_wp2_with fail
  refine (K2.out w1 HB1.out).mono ?_
  rintro e w2 ⟨rfl, hb2⟩
  have HB2 : Hid (Below V.heap.size V w2) := below_on hb2 HB1.out
  clear K2 hb2 y0 y1 y2 y3 y4 y5 t0 t1 t2 p0 p1
  obtain ⟨⟨y0, y1, y2, y3, y4, y5⟩, t0, t1, t2, p0, p1⟩ := HX.out w2 HB2.out
  go_wp2_with fail
  refine (K3.out w2 HB2.out).mono ?_
  rintro e w3 ⟨rfl, hb3⟩
  have HB3 : Hid (Below V.heap.size V w3) := below_on hb3 HB2.out
  clear K3 hb3 y0 y1 y2 y3 y4 y5 t0 t1 t2 p0 p1 hV
  obtain ⟨⟨y0, y1, y2, y3, y4, y5⟩, t0, t1, t2, p0, p1⟩ := HX.out w3 HB3.out
  go_wp2_with fail
  go_region_held_law (fun X => (X.cell? ⟨w.heap.size, 0, none⟩ = some (.int .i64 (sl : Int)) ∧ X.cell? ⟨w.heap.size, 1, none⟩ = some (.int .i64 (fl : Int)) ∧ X.cell? ⟨w.heap.size, 2, none⟩ = some (.int .i64 (dr : Int)) ∧ X.cell? ⟨w.heap.size, 3, none⟩ = some (.int .i64 (mf : Int)) ∧ X.cell? ⟨w.heap.size, 4, none⟩ = some (.int .i64 (ls : Int)) ∧ X.cell? ⟨w.heap.size, 5, none⟩ = some (.int .i64 (pg : Int))) ∧ (X.cell? ⟨w.heap.size + 1, 0, none⟩ = some (.int .i64 (fl : Int)) ∧ X.cell? ⟨w.heap.size + 1, 1, none⟩ = some (.int .i64 (dr : Int)) ∧ X.cell? ⟨w.heap.size + 1, 2, none⟩ = some (.slice a n k) ∧ X.cell? ⟨w.heap.size + 2, 0, none⟩ = some (.slice ao no ko) ∧ X.cell? ⟨w.heap.size + 2, 1, none⟩ = some (.slice aq nq kq))) (first | with_reducible exact HX.out _ hbw9 | with_reducible exact HX.out _ hbw | with_reducible exact HX.out _ hbw.drew | with_reducible exact HX.out _ (below_on (by (repeat (first | with_reducible exact Below.refl _ _ | with_reducible refine Below.drew ?_ | with_reducible refine below_alloc ?_ _)); (first | done | fail)) HB3.out) | go_keep) (first | (go_at_call 23; refine (K4.out _ (below_on (by (repeat (first | with_reducible exact Below.refl _ _ | with_reducible refine Below.drew ?_ | with_reducible refine below_alloc ?_ _)); (first | done | fail)) HB3.out)).mono ?_; rintro e w8 ⟨a8, k8, rfl, hS8, hb8⟩; have hbw : Below V.heap.size V w8 := below_on hb8 (below_on (by (repeat (first | with_reducible exact Below.refl _ _ | with_reducible refine Below.drew ?_ | with_reducible refine below_alloc ?_ _)); (first | done | fail)) HB3.out)) | (go_at_call 22; refine (K5.out _ hbw _ N _ hS8 HWL.out rfl).mono ?_; rintro e w9 ⟨a9, k9, rfl, ho9, hb9⟩; have hbw9 : Below V.heap.size V w9 := below_on hb9 hbw; have HO9 : Hid _ := owns_base ho9 (Below.size (HW.out _ hbw))))
  all_goals
    have HB9 : Hid _ := HW.out _ hbw9
    clear hbw9 hbw hb8 hb9 hS8 ho9
    go_wp2
    go_ret2
    exact ⟨a9, k9, rfl, HO9.out, HB9.out⟩
end Go.Proofs.YtbdgbefjmfcgcaaDoor.Ix
