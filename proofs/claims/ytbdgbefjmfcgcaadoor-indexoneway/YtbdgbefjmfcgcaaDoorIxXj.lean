import Derived.Test.YtbdgbefjmfcgcaaDoorXgM
import Derived.Deep.RegionWith
namespace Go.Proofs.YtbdgbefjmfcgcaaDoor.Ix
open Go.RowKit Go.Lib Go.Deep
theorem who_lenD {sl fl dr mf ls pg : Nat} (hc : Cn.May ⟨sl, fl, dr, mf, ls, pg⟩) {T : List Nd} {O : List Ob} {Q : List Int} (hT : risB ⟨sl, fl, dr, mf, ls, pg⟩ 0 T = true) (hP : poolB ⟨sl, fl, dr, mf, ls, pg⟩ O Q = true) : (whoL ⟨sl, fl, dr, mf, ls, pg⟩ T O Q).length = Cn.pgs ⟨sl, fl, dr, mf, ls, pg⟩ * (pg - 5) ∧ Cn.len ⟨sl, fl, dr, mf, ls, pg⟩ ≤ (whoL ⟨sl, fl, dr, mf, ls, pg⟩ T O Q).length := by
  obtain ⟨⟨h1o, h1q⟩, h2o, h2q⟩ := pool_iff.1 hP
  obtain ⟨i1, i2, i3, i4, i5⟩ := imgL_len (ris_at hT).1 h2o h1o h1q
  have := hc.1.fit.1
  unfold whoL
  rw [List.length_append, i5]
  simp only [z0, List.length_replicate]
  have e : Cn.body ⟨sl, fl, dr, mf, ls, pg⟩ = pg - 5 := rfl
  rw [e] at this ⊢
  omega
theorem owns_put5 {W : World} {B e sz n g : Nat} {v x0 x1 x2 x3 x4 : Value} {xs : List Value} (hT : W.heap[g]? = some (.cells #[x0, x1, x2] 28 (0, 0))) (hP : W.heap[g + 1]? = some (.cells #[x3, x4] 32 (0, 0))) (h1 : e ≠ 28) (h2 : e ≠ 32) (ho : W.ownsRow B e sz v n xs) (y0 y1 y2 y3 y4 : Value) : (((((W.setCell ⟨g, 0, none⟩ y0).setCell ⟨g, 1, none⟩ y1).setCell ⟨g, 2, none⟩ y2).setCell ⟨g + 1, 0, none⟩ y3).setCell ⟨g + 1, 1, none⟩ y4).ownsRow B e sz v n xs := by
  refine owns_put2 (x0 := x3) (x1 := x4) ?_ h2 (owns_put3 hT h1 ho _ _ _) _ _
  have n2 : g + 1 ≠ g := by omega
  rw [heap_setCell_other _ _ _ _ n2, heap_setCell_other _ _ _ _ n2, heap_setCell_other _ _ _ _ n2]
  exact hP
set_option maxRecDepth 20000 in
set_option maxHeartbeats 4000000 in
/-- what Encode wrote is read -/
theorem decode_good (sl fl dr mf ls pg : Nat) (hc : Cn.May ⟨sl, fl, dr, mf, ls, pg⟩) (T : List Nd) (O : List Ob) (Q : List Int) (hT : risB ⟨sl, fl, dr, mf, ls, pg⟩ 0 T = true) (hP : poolB ⟨sl, fl, dr, mf, ls, pg⟩ O Q = true) (w : World) (hR : RT w) (a : Option Addr) (k : Nat) (hS0 : See w 1 (.slice a (Cn.pgs ⟨sl, fl, dr, mf, ls, pg⟩) k) (Cn.pgs ⟨sl, fl, dr, mf, ls, pg⟩) (scC (cutL (pg - 5) (Cn.pgs ⟨sl, fl, dr, mf, ls, pg⟩) (whoL ⟨sl, fl, dr, mf, ls, pg⟩ T O Q)))) (hTl : T.length ≤ 1000000) :
    Calls Tryd.prog 9 #[.agg #[.int .i64 (sl : Int), .int .i64 (fl : Int), .int .i64 (dr : Int), .int .i64 (mf : Int), .int .i64 (ls : Int), .int .i64 (pg : Int)], .slice a (Cn.pgs ⟨sl, fl, dr, mf, ls, pg⟩) k] w fun e w' => ∃ at1 ct1 ao1 co1 g c, e = .returned (.tuple #[.agg #[.int .i64 (fl : Int), .int .i64 (dr : Int), .slice at1 T.length ct1], .agg #[.slice ao1 (fl + sl) co1, .slice (some ⟨g, 1, none⟩) Q.length c], .int .i64 0]) ∧ w'.ownsRow w.heap.size 44 5 (.slice at1 T.length ct1) T.length (ndsC T) ∧ w'.ownsRow w.heap.size 46 4 (.slice ao1 (fl + sl) co1) (fl + sl) (obsC O) ∧ See w' 1 (.slice (some ⟨g, 1, none⟩) Q.length c) Q.length (zsC Q) ∧ Below w.heap.size w w' := by
  obtain ⟨⟨h1o, h1q⟩, -, -⟩ := pool_iff.1 hP
  have hrw : Cn.rows ⟨sl, fl, dr, mf, ls, pg⟩ = fl + sl := rfl
  rw [hrw] at h1o h1q
  obtain ⟨hwl, hwn⟩ := who_lenD hc hT hP
  have hlim : fl ≤ 65536 ∧ sl ≤ 64 := ⟨hc.1.2.2.2.1, hc.1.2.1⟩
  have hm1 : 1 ≤ Cn.pgs ⟨sl, fl, dr, mf, ls, pg⟩ := hc.1.fit.2.2
  have hm2 : Cn.pgs ⟨sl, fl, dr, mf, ls, pg⟩ ≤ 1024 := hc.2
  have hpg : pg ≤ 65536 := hc.1.2.2.2.2.2.2.2.2.2
  have hN2 : Cn.pgs ⟨sl, fl, dr, mf, ls, pg⟩ * (pg - 5) ≤ 1024 * 65531 := Nat.mul_le_mul hm2 (by omega)
  obtain ⟨b1, b2, -⟩ := read_back (z0 (Cn.pgs ⟨sl, fl, dr, mf, ls, pg⟩ * Cn.body ⟨sl, fl, dr, mf, ls, pg⟩ - Cn.len ⟨sl, fl, dr, mf, ls, pg⟩)) hc.1 hT hP
  have b3 := rdL_back (z0 (Cn.pgs ⟨sl, fl, dr, mf, ls, pg⟩ * Cn.body ⟨sl, fl, dr, mf, ls, pg⟩ - Cn.len ⟨sl, fl, dr, mf, ls, pg⟩)) hc.1 hT hP
  have hwho : imgL ⟨sl, fl, dr, mf, ls, pg⟩ T O Q ++ z0 (Cn.pgs ⟨sl, fl, dr, mf, ls, pg⟩ * Cn.body ⟨sl, fl, dr, mf, ls, pg⟩ - Cn.len ⟨sl, fl, dr, mf, ls, pg⟩) = whoL ⟨sl, fl, dr, mf, ls, pg⟩ T O Q := rfl
  rw [hwho] at b1 b2 b3
  obtain ⟨P, hPe⟩ : ∃ P, cutL (pg - 5) (Cn.pgs ⟨sl, fl, dr, mf, ls, pg⟩) (whoL ⟨sl, fl, dr, mf, ls, pg⟩ T O Q) = P := ⟨_, rfl⟩
  have hPl : P.length = Cn.pgs ⟨sl, fl, dr, mf, ls, pg⟩ := by rw [← hPe]; exact cut_len _ _ _
  have hcat : catL P = whoL ⟨sl, fl, dr, mf, ls, pg⟩ T O Q := by rw [← hPe]; exact cat_cut _ _ _ hwl
  have hab : abB ⟨sl, fl, dr, mf, ls, pg⟩ P = true := ab_iff.2 ⟨hPl, by rw [← hPe]; exact cut_sizes hwl⟩
  rw [hPe] at hS0
  obtain ⟨img, himg⟩ : ∃ img, str (catL P) = img := ⟨_, rfl⟩
  have hid : img.data.toList = whoL ⟨sl, fl, dr, mf, ls, pg⟩ T O Q := by rw [← himg, str_data, hcat]
  have his : img.size = (whoL ⟨sl, fl, dr, mf, ls, pg⟩ T O Q).length := by rw [size_eq, hid]
  obtain ⟨V0, hV, hbV, g0, g1, g2⟩ := three_new w #[.int .i64 (sl : Int), .int .i64 (fl : Int), .int .i64 (dr : Int), .int .i64 (mf : Int), .int .i64 (ls : Int), .int .i64 (pg : Int)] #[.int .i64 0, .int .i64 0, .slice none 0 0] #[.slice none 0 0, .slice none 0 0] 23 28 32
  have HW : Hid (∀ X, Below V0.heap.size V0 X → Below w.heap.size w X) := fun X hX => below_on hX hbV
  have HCD : Hid (∀ X, Below V0.heap.size V0 X → X.cell? ⟨w.heap.size, 0, none⟩ = some (.int .i64 (sl : Int)) ∧ X.cell? ⟨w.heap.size, 1, none⟩ = some (.int .i64 (fl : Int)) ∧ X.cell? ⟨w.heap.size, 2, none⟩ = some (.int .i64 (dr : Int)) ∧ X.cell? ⟨w.heap.size, 3, none⟩ = some (.int .i64 (mf : Int)) ∧ X.cell? ⟨w.heap.size, 4, none⟩ = some (.int .i64 (ls : Int)) ∧ X.cell? ⟨w.heap.size, 5, none⟩ = some (.int .i64 (pg : Int))) := fun X hX => cells6 ((hX.block _ (heap_lt g0)).trans g0)
  have HZ : Hid (∀ X, Below V0.heap.size V0 X → X.heap[w.heap.size + 1]? = some (.cells #[.int .i64 0, .int .i64 0, .slice none 0 0] 28 (0, 0)) ∧ X.heap[w.heap.size + 2]? = some (.cells #[.slice none 0 0, .slice none 0 0] 32 (0, 0))) := fun X hX => ⟨(hX.block _ (heap_lt g1)).trans g1, (hX.block _ (heap_lt g2)).trans g2⟩
  have hV2 : w.heap.size + 2 < V0.heap.size := heap_lt g2
  have K1 := mayBe_any (Cn.cf ⟨sl, fl, dr, mf, ls, pg⟩) V0 (hR.next hbV)
  rw [decide_eq_true hc.cf] at K1
  have HSee : Hid (∀ X, Below V0.heap.size V0 X → See X 1 (.slice a (Cn.pgs ⟨sl, fl, dr, mf, ls, pg⟩) k) (Cn.pgs ⟨sl, fl, dr, mf, ls, pg⟩) (scC P)) := fun X hX => hS0.below (HW.out X hX)
  have K2 : Hid (∀ X, Below V0.heap.size V0 X → Calls Tryd.prog 24 #[.agg #[.int .i64 (sl : Int), .int .i64 (fl : Int), .int .i64 (dr : Int), .int .i64 (mf : Int), .int .i64 (ls : Int), .int .i64 (pg : Int)], .slice a (Cn.pgs ⟨sl, fl, dr, mf, ls, pg⟩) k] X fun e w' => e = .returned (.bool true) ∧ Below X.heap.size X w') := fun X hX => by
    have h := areBodies_any sl fl dr mf ls pg hc.1 P X (hR.next (HW.out X hX)) a _ k (HSee.out X hX) hPl (by omega)
    rw [hab] at h
    exact h
  have K3 : Hid (∀ X, Below V0.heap.size V0 X → Calls Tryd.prog 25 #[.slice a (Cn.pgs ⟨sl, fl, dr, mf, ls, pg⟩) k, .string { data := #[] }] X fun e w' => e = .returned (.string img) ∧ Below X.heap.size X w') := fun X hX => by
    rw [← himg]
    exact join_any X a _ k P (HSee.out X hX) hPl hm1 (by omega) (by rw [hcat, hwl]; omega)
  have KRT : Hid (∀ X, Below V0.heap.size V0 X → Calls Tryd.prog 26 #[.agg #[.int .i64 (sl : Int), .int .i64 (fl : Int), .int .i64 (dr : Int), .int .i64 (mf : Int), .int .i64 (ls : Int), .int .i64 (pg : Int)], .string img] X fun e w' => ∃ a c, e = .returned (.agg #[.int .i64 (fl : Int), .int .i64 (dr : Int), .slice a T.length c]) ∧ w'.ownsRow X.heap.size 44 5 (.slice a T.length c) T.length (ndsC T) ∧ Below X.heap.size X w') := fun X hX => by
    have h := readTree_any sl fl dr mf ls pg hc.1 img (by rw [his]; exact hwn) (by rw [his, hwl]; omega) X (hR.next (HW.out X hX))
    rw [hid, b1] at h
    exact h
  have KRP : Hid (∀ X, Below V0.heap.size V0 X → Calls Tryd.prog 27 #[.agg #[.int .i64 (sl : Int), .int .i64 (fl : Int), .int .i64 (dr : Int), .int .i64 (mf : Int), .int .i64 (ls : Int), .int .i64 (pg : Int)], .string img] X fun e w' => ∃ ao co g cap c, cap - 1 = c ∧ e = .returned (.agg #[.slice ao (fl + sl) co, .slice (some ⟨g, 1, none⟩) Q.length c]) ∧ w'.ownsRow X.heap.size 46 4 (.slice ao (fl + sl) co) (fl + sl) (obsC O) ∧ w'.ownsRow X.heap.size 3 1 (.slice (some ⟨g, 0, none⟩) (1 + (fl + sl)) cap) (1 + (fl + sl)) (zsC (cntL ⟨sl, fl, dr, mf, ls, pg⟩ Q)) ∧ Below X.heap.size X w') := fun X hX => by
    have h := readPool_any sl fl dr mf ls pg hc.1 img (by rw [his]; exact hwn) (by rw [his, hwl]; omega) Q.length (Q ++ List.replicate (Cn.rows ⟨sl, fl, dr, mf, ls, pg⟩ - Q.length) 0) h1q (by rw [hid, b3]; rfl) X (hR.next (HW.out X hX))
    rw [hid, b2] at h
    exact h
  have HQS : Hid (∀ (X : World) (g cap c : Nat), cap - 1 = c → X.ownsRow w.heap.size 3 1 (.slice (some ⟨g, 0, none⟩) (1 + (fl + sl)) cap) (1 + (fl + sl)) (zsC (cntL ⟨sl, fl, dr, mf, ls, pg⟩ Q)) → See X 1 (.slice (some ⟨g, 1, none⟩) Q.length c) Q.length (zsC Q)) := fun X g cap c hcap r3 => by
    subst hcap
    have h := see_tail (L := Q ++ List.replicate (Cn.rows ⟨sl, fl, dr, mf, ls, pg⟩ - Q.length) 0) r3 (by rw [List.length_append, List.length_replicate, hrw]; omega) Q.length h1q
    rw [List.take_left] at h
    exact h
  have KE : Hid (∀ X, Below V0.heap.size V0 X → ∀ at1 ct1 ao1 co1 g cap c, cap - 1 = c → X.ownsRow w.heap.size 44 5 (.slice at1 T.length ct1) T.length (ndsC T) → X.ownsRow w.heap.size 46 4 (.slice ao1 (fl + sl) co1) (fl + sl) (obsC O) → X.ownsRow w.heap.size 3 1 (.slice (some ⟨g, 0, none⟩) (1 + (fl + sl)) cap) (1 + (fl + sl)) (zsC (cntL ⟨sl, fl, dr, mf, ls, pg⟩ Q)) → See X 1 (.slice (some ⟨g, 1, none⟩) Q.length c) Q.length (zsC Q) ∧ Calls Tryd.prog 8 #[.agg #[.int .i64 (sl : Int), .int .i64 (fl : Int), .int .i64 (dr : Int), .int .i64 (mf : Int), .int .i64 (ls : Int), .int .i64 (pg : Int)], .agg #[.int .i64 (fl : Int), .int .i64 (dr : Int), .slice at1 T.length ct1], .agg #[.slice ao1 (fl + sl) co1, .slice (some ⟨g, 1, none⟩) Q.length c]] X fun e w' => ∃ a' k', e = .returned (.tuple #[.slice a' (Cn.pgs ⟨sl, fl, dr, mf, ls, pg⟩) k', .int .i64 0]) ∧ w'.ownsRow X.heap.size 9 1 (.slice a' (Cn.pgs ⟨sl, fl, dr, mf, ls, pg⟩) k') (Cn.pgs ⟨sl, fl, dr, mf, ls, pg⟩) (scC P) ∧ Below X.heap.size X w') := fun X hX at1 ct1 ao1 co1 g cap c hcap r1 r2 r3 => by
    subst hcap
    have hsq : See X 1 (.slice (some ⟨g, 1, none⟩) Q.length (cap - 1)) Q.length (zsC Q) := by
      have h := see_tail (L := Q ++ List.replicate (Cn.rows ⟨sl, fl, dr, mf, ls, pg⟩ - Q.length) 0) r3 (by rw [List.length_append, List.length_replicate, hrw]; omega) Q.length h1q
      rw [List.take_left] at h
      exact h
    refine ⟨hsq, ?_⟩
    rw [← hPe]
    exact encode_any sl fl dr mf ls pg hc T O Q hT hP X (hR.next (HW.out X hX)) at1 _ ct1 (see_own r1 (nds_one _)) rfl (by omega) ao1 _ co1 (see_own r2 (obs_one _)) h1o _ _ _ hsq rfl
  have KQ : Hid (∀ X, Below V0.heap.size V0 X → ∀ a2 k2, See X 1 (.slice a2 (Cn.pgs ⟨sl, fl, dr, mf, ls, pg⟩) k2) (Cn.pgs ⟨sl, fl, dr, mf, ls, pg⟩) (scC P) → Calls Tryd.prog 28 #[.slice a2 (Cn.pgs ⟨sl, fl, dr, mf, ls, pg⟩) k2, .slice a (Cn.pgs ⟨sl, fl, dr, mf, ls, pg⟩) k] X fun e w' => e = .returned (.bool true) ∧ Below X.heap.size X w') := fun X hX a2 k2 h2 => equal_any X a2 a _ k2 k P h2 (HSee.out X hX) hPl hm1 (by omega)
  obtain ⟨y0, y1, y2, y3, y4, y5⟩ := HCD.out V0 (Below.refl _ _)
  obtain ⟨LQ, hLQ⟩ : ∃ LQ, cntL ⟨sl, fl, dr, mf, ls, pg⟩ Q = LQ := ⟨_, rfl⟩
  rw [hLQ] at KRP KE HQS
  generalize Cn.pgs ⟨sl, fl, dr, mf, ls, pg⟩ = m at *
  obtain ⟨r, hr⟩ : ∃ r, fl + sl = r := ⟨_, rfl⟩
  rw [hr] at KRP KE HQS ⊢
  obtain ⟨r1, hr1⟩ : ∃ r1, 1 + r = r1 := ⟨_, rfl⟩
  rw [hr1] at KRP KE HQS
  obtain ⟨nT, hnT⟩ : ∃ nT, T.length = nT := ⟨_, rfl⟩
  obtain ⟨nQ, hnQ⟩ : ∃ nQ, Q.length = nQ := ⟨_, rfl⟩
  rw [hnT] at KRT KE ⊢
  rw [hnQ] at KRP KE HQS ⊢
  clear hc hT hP h1o h1q hrw hwl hwn hN2 b1 b2 b3 hwho hPe hPl hcat hab hS0 himg hid his g0 g1 g2 hbV hR hLQ hr hr1 hnT hnQ hTl
  go_enter Tryd.func9, Tryd.ntmps9
  go_wp2_with fail
  refine K1.mono ?_
  rintro e w1 ⟨rfl, hb1⟩
  have HB1 : Hid (Below V0.heap.size V0 w1) := hb1
  clear K1 hb1 y0 y1 y2 y3 y4 y5 hV
  obtain ⟨y0, y1, y2, y3, y4, y5⟩ := HCD.out w1 HB1.out
  go_wp2_with fail
  refine (K2.out w1 HB1.out).mono ?_
  rintro e w2 ⟨rfl, hb2⟩
  have HB2 : Hid (Below V0.heap.size V0 w2) := below_on hb2 HB1.out
  clear K2 hb2 y0 y1 y2 y3 y4 y5
  go_wp2_with fail
  refine (K3.out w2 HB2.out).mono ?_
  rintro e w3 ⟨rfl, hb3⟩
  have HB3 : Hid (Below V0.heap.size V0 w3) := below_on hb3 HB2.out
  clear K3 hb3
  obtain ⟨y0, y1, y2, y3, y4, y5⟩ := HCD.out w3 HB3.out
  go_upto_region 6 with fail
  go_cut [8, 9] (fun u v wx => ∃ g8 g9 at1 ct1 ao1 co1 gq capq cq, u = .pointer (some ⟨g8, 0, none⟩) ∧ v = .pointer (some ⟨g9, 0, none⟩) ∧ Hid (capq - 1 = cq) ∧ Hid (wx.heap[g8]? = some (.cells #[.int .i64 (fl : Int), .int .i64 (dr : Int), .slice at1 nT ct1] 28 (0, 0)) ∧ wx.heap[g9]? = some (.cells #[.slice ao1 r co1, .slice (some ⟨gq, 1, none⟩) nQ cq] 32 (0, 0)) ∧ V0.heap.size ≤ g8 ∧ V0.heap.size ≤ g9) ∧ Hid (wx.ownsRow w.heap.size 44 5 (.slice at1 nT ct1) nT (ndsC T)) ∧ Hid (wx.ownsRow w.heap.size 46 4 (.slice ao1 r co1) r (obsC O) ∧ wx.ownsRow w.heap.size 3 1 (.slice (some ⟨gq, 0, none⟩) r1 capq) r1 (zsC LQ)) ∧ Hid (Below V0.heap.size V0 wx))
  case first =>
    have hSx : (w3.drew.cell? ⟨w.heap.size, 0, none⟩ = some (.int .i64 (sl : Int)) ∧ w3.drew.cell? ⟨w.heap.size, 1, none⟩ = some (.int .i64 (fl : Int)) ∧ w3.drew.cell? ⟨w.heap.size, 2, none⟩ = some (.int .i64 (dr : Int)) ∧ w3.drew.cell? ⟨w.heap.size, 3, none⟩ = some (.int .i64 (mf : Int)) ∧ w3.drew.cell? ⟨w.heap.size, 4, none⟩ = some (.int .i64 (ls : Int)) ∧ w3.drew.cell? ⟨w.heap.size, 5, none⟩ = some (.int .i64 (pg : Int))) := ⟨y0, y1, y2, y3, y4, y5⟩
    refine wp_region_held_drew (S := fun W => W.cell? ⟨w.heap.size, 0, none⟩ = some (.int .i64 (sl : Int)) ∧ W.cell? ⟨w.heap.size, 1, none⟩ = some (.int .i64 (fl : Int)) ∧ W.cell? ⟨w.heap.size, 2, none⟩ = some (.int .i64 (dr : Int)) ∧ W.cell? ⟨w.heap.size, 3, none⟩ = some (.int .i64 (mf : Int)) ∧ W.cell? ⟨w.heap.size, 4, none⟩ = some (.int .i64 (ls : Int)) ∧ W.cell? ⟨w.heap.size, 5, none⟩ = some (.int .i64 (pg : Int))) (by kernel_rfl) hSx ?_
    intro hS
    clear hSx y0 y1 y2 y3 y4 y5
    have HB : Hid (Below V0.heap.size V0 w3.drew) := HB3.out.drew
    revert hS HB
    generalize w3.drew = V
    intro hS HB
    refine wpAnyH_take (i := 0) (oi := { dst := some 25, op := .load 23 (.tmp 2), type := _, pos := _, after := _, guard := none }) (v := .agg #[.int .i64 (sl : Int), .int .i64 (fl : Int), .int .i64 (dr : Int), .int .i64 (mf : Int), .int .i64 (ls : Int), .int .i64 (pg : Int)]) rfl (by kernel_rfl) (by kernel_rfl) (by kernel_rfl) (fun _ _ _ h => h) (Or.inl ⟨by rfl, by intro x hx; obtain ⟨h0, h1, h2, h3, h4, h5⟩ := hx; go_simp⟩) hS ?_
    (try simp only [Act.put, List.setIfInBounds_toArray, List.set_cons_zero, List.set_cons_succ])
    refine wpAnyH_take (i := 1) (oi := { dst := some 26, op := .move (.tmp 7), type := _, pos := _, after := _, guard := none }) (v := .string img) rfl (by kernel_rfl) (by kernel_rfl) (by kernel_rfl) (fun _ _ _ h => h) (Or.inl ⟨by rfl, by intro x _; go_simp⟩) hS ?_
    (try simp only [Act.put, List.setIfInBounds_toArray, List.set_cons_zero, List.set_cons_succ])
    refine wpAnyH_take (i := 3) (oi := { dst := some 28, op := .load 23 (.tmp 2), type := _, pos := _, after := _, guard := none }) (v := .agg #[.int .i64 (sl : Int), .int .i64 (fl : Int), .int .i64 (dr : Int), .int .i64 (mf : Int), .int .i64 (ls : Int), .int .i64 (pg : Int)]) rfl (by kernel_rfl) (by kernel_rfl) (by kernel_rfl) (fun _ _ _ h => h) (Or.inl ⟨by rfl, by intro x hx; obtain ⟨h0, h1, h2, h3, h4, h5⟩ := hx; go_simp⟩) hS ?_
    (try simp only [Act.put, List.setIfInBounds_toArray, List.set_cons_zero, List.set_cons_succ])
    refine wpAnyH_take (i := 4) (oi := { dst := some 29, op := .move (.tmp 7), type := _, pos := _, after := _, guard := none }) (v := .string img) rfl (by kernel_rfl) (by kernel_rfl) (by kernel_rfl) (fun _ _ _ h => h) (Or.inl ⟨by rfl, by intro x _; go_simp⟩) hS ?_
    (try simp only [Act.put, List.setIfInBounds_toArray, List.set_cons_zero, List.set_cons_succ])
    refine wpAnyH_ready (rs := [2, 6, 7]) (by kernel_rfl) (by simp) ?_
    refine AllReadyH.cons (o := { dst := some 27, op := .call { callee := .value (.func 26), args := #[.tmp 25, .tmp 26], argTypes := #[23, 9] }, type := _, pos := _, after := _, guard := none }) rfl (fun K hK => ?_) (AllReadyH.cons (o := { dst := some 8, op := .alloc 28, type := _, pos := _, after := _, guard := none }) rfl (fun K hK => ?_) (AllReadyH.cons (o := { dst := some 9, op := .alloc 32, type := _, pos := _, after := _, guard := none }) rfl (fun K hK => ?_) AllReadyH.nil))
    · go_simp
      refine (KRT.out _ HB.out).mono ?_
      rintro e W2 ⟨at1, ct1, rfl, ho2, hbA⟩
      have HB2 : Hid (Below V0.heap.size V0 W2) := below_on hbA HB.out
      have hS2 := HCD.out _ HB2.out
      have HRT2 : Hid (W2.ownsRow w.heap.size 44 5 (.slice at1 nT ct1) nT (ndsC T)) := owns_base ho2 (HW.out _ HB.out).size
      refine hK.out _ _ hS2 (fun _ => ?_)
      clear hK K hS HB hbA ho2 
      (try simp only [Act.put, List.setIfInBounds_toArray, List.set_cons_zero, List.set_cons_succ])
      revert HB2 hS2 HRT2
      generalize W2 = V
      intro HB hS HRT
      refine wpAnyH_ready (rs := [5, 6, 7]) (by kernel_rfl) (by simp) ?_
      refine AllReadyH.cons (o := { dst := some 30, op := .call { callee := .value (.func 27), args := #[.tmp 28, .tmp 29], argTypes := #[23, 9] }, type := _, pos := _, after := _, guard := none }) rfl (fun K hK => ?_) (AllReadyH.cons (o := { dst := some 8, op := .alloc 28, type := _, pos := _, after := _, guard := none }) rfl (fun K hK => ?_) (AllReadyH.cons (o := { dst := some 9, op := .alloc 32, type := _, pos := _, after := _, guard := none }) rfl (fun K hK => ?_) AllReadyH.nil))
      · go_simp
        refine (KRP.out _ HB.out).mono ?_
        rintro e W2 ⟨ao1, co1, gq, capq, cq, hcq, rfl, ho2, hq2, hbA⟩
        have HCQ : Hid (capq - 1 = cq) := hcq
        clear hcq
        have HB2 : Hid (Below V0.heap.size V0 W2) := below_on hbA HB.out
        have hS2 := HCD.out _ HB2.out
        have HRT2 : Hid (W2.ownsRow w.heap.size 44 5 (.slice at1 nT ct1) nT (ndsC T)) := owns_below HRT.out hbA
        have HRP2 : Hid (W2.ownsRow w.heap.size 46 4 (.slice ao1 r co1) r (obsC O) ∧ W2.ownsRow w.heap.size 3 1 (.slice (some ⟨gq, 0, none⟩) r1 capq) r1 (zsC LQ)) := ⟨owns_base ho2 (HW.out _ HB.out).size, owns_base hq2 (HW.out _ HB.out).size⟩
        refine hK.out _ _ hS2 (fun _ => ?_)
        clear hK K hS HB hbA ho2 hq2 HRT
        (try simp only [Act.put, List.setIfInBounds_toArray, List.set_cons_zero, List.set_cons_succ])
        revert HB2 hS2 HRT2 HRP2
        generalize W2 = V
        intro HB hS HRT HRP
        refine wpAnyH_ready (rs := [6, 7]) (by kernel_rfl) (by simp) ?_
        refine AllReadyH.cons (o := { dst := some 8, op := .alloc 28, type := _, pos := _, after := _, guard := none }) rfl (fun K hK => ?_) (AllReadyH.cons (o := { dst := some 9, op := .alloc 32, type := _, pos := _, after := _, guard := none }) rfl (fun K hK => ?_) AllReadyH.nil)
        · go_simp
          have hbA : Below V.heap.size V (V.alloc (.cells #[.int .i64 0, .int .i64 0, .slice none 0 0] 28)) := (Below.refl _ _).alloc (Nat.le_refl _) _
          have HB2 : Hid (Below V0.heap.size V0 (V.alloc (.cells #[.int .i64 0, .int .i64 0, .slice none 0 0] 28))) := below_on hbA HB.out
          have hS2 := HCD.out _ HB2.out
          have HRT2 : Hid ((V.alloc (.cells #[.int .i64 0, .int .i64 0, .slice none 0 0] 28)).ownsRow w.heap.size 44 5 (.slice at1 nT ct1) nT (ndsC T)) := owns_below HRT.out hbA
          have HRP2 : Hid ((V.alloc (.cells #[.int .i64 0, .int .i64 0, .slice none 0 0] 28)).ownsRow w.heap.size 46 4 (.slice ao1 r co1) r (obsC O) ∧ (V.alloc (.cells #[.int .i64 0, .int .i64 0, .slice none 0 0] 28)).ownsRow w.heap.size 3 1 (.slice (some ⟨gq, 0, none⟩) r1 capq) r1 (zsC LQ)) := ⟨owns_below HRP.out.1 hbA, owns_below HRP.out.2 hbA⟩
          have HT2 : Hid ((V.alloc (.cells #[.int .i64 0, .int .i64 0, .slice none 0 0] 28)).heap[V.heap.size]? = some (.cells #[.int .i64 0, .int .i64 0, .slice none 0 0] 28 (0, 0)) ∧ V0.heap.size ≤ V.heap.size) := ⟨heap_new V _, HB.out.size⟩
          refine hK.out _ _ hS2 (fun _ => ?_)
          clear hK K hS HB hbA HRT HRP
          (try simp only [Act.put, List.setIfInBounds_toArray, List.set_cons_zero, List.set_cons_succ])
          revert HB2 hS2 HRT2 HRP2 HT2
          generalize (V.alloc (.cells #[.int .i64 0, .int .i64 0, .slice none 0 0] 28)) = V2
          generalize V.heap.size = g8
          intro HB hS HRT HRP HT
          revert HB hS HRT HRP HT
          generalize V2 = V
          intro HB hS HRT HRP HT
          refine wpAnyH_ready (rs := [7]) (by kernel_rfl) (by simp) ?_
          refine AllReadyH.cons (o := { dst := some 9, op := .alloc 32, type := _, pos := _, after := _, guard := none }) rfl (fun K hK => ?_) AllReadyH.nil
          go_simp
          have hbA : Below V.heap.size V (V.alloc (.cells #[.slice none 0 0, .slice none 0 0] 32)) := (Below.refl _ _).alloc (Nat.le_refl _) _
          have HB2 : Hid (Below V0.heap.size V0 (V.alloc (.cells #[.slice none 0 0, .slice none 0 0] 32))) := below_on hbA HB.out
          have hS2 := HCD.out _ HB2.out
          have HT2 : Hid ((V.alloc (.cells #[.slice none 0 0, .slice none 0 0] 32)).heap[g8]? = some (.cells #[.int .i64 0, .int .i64 0, .slice none 0 0] 28 (0, 0)) ∧ V0.heap.size ≤ g8) := ⟨(hbA.block _ (heap_lt HT.out.1)).trans HT.out.1, HT.out.2⟩
          have HRT2 : Hid ((V.alloc (.cells #[.slice none 0 0, .slice none 0 0] 32)).ownsRow w.heap.size 44 5 (.slice at1 nT ct1) nT (ndsC T)) := owns_below HRT.out hbA
          have HRP2 : Hid ((V.alloc (.cells #[.slice none 0 0, .slice none 0 0] 32)).ownsRow w.heap.size 46 4 (.slice ao1 r co1) r (obsC O) ∧ (V.alloc (.cells #[.slice none 0 0, .slice none 0 0] 32)).ownsRow w.heap.size 3 1 (.slice (some ⟨gq, 0, none⟩) r1 capq) r1 (zsC LQ)) := ⟨owns_below HRP.out.1 hbA, owns_below HRP.out.2 hbA⟩
          have HP2 : Hid ((V.alloc (.cells #[.slice none 0 0, .slice none 0 0] 32)).heap[V.heap.size]? = some (.cells #[.slice none 0 0, .slice none 0 0] 32 (0, 0)) ∧ V0.heap.size ≤ V.heap.size) := ⟨heap_new V _, HB.out.size⟩
          refine hK.out _ _ hS2 (fun _ => ?_)
          clear hK K hS HB hbA HT HRT HRP
          (try simp only [Act.put, List.setIfInBounds_toArray, List.set_cons_zero, List.set_cons_succ])
          revert HB2 hS2 HT2 HRT2 HRP2 HP2
          generalize (V.alloc (.cells #[.slice none 0 0, .slice none 0 0] 32)) = V2
          generalize V.heap.size = g9
          intro HB hS HT HRT HRP HP
          revert HB hS HT HRT HRP HP
          generalize V2 = V
          intro HB hS HT HRT HRP HP
          refine wpAnyH_ready (rs := [8]) (by kernel_rfl) (by simp) ?_
          refine AllReadyH.cons (o := { dst := none, op := .store 28 (.tmp 8) (.tmp 27), type := _, pos := _, after := _, guard := none }) rfl (fun K hK => ?_) AllReadyH.nil
          obtain ⟨q0, q1, q2⟩ := cells3 HT.out.1
          have f5 : ∀ j, V.frozen? ⟨g8, j, none⟩ = false := fun j => frozen_of_heap HT.out.1
          go_simp
          have HB2 : Hid (Below V0.heap.size V0 (((V.setCell ⟨g8, 0, none⟩ (.int .i64 (fl : Int))).setCell ⟨g8, 1, none⟩ (.int .i64 (dr : Int))).setCell ⟨g8, 2, none⟩ (.slice at1 nT ct1))) := ((HB.out.setCell HT.out.2 _).setCell HT.out.2 _).setCell HT.out.2 _
          have hS2 := HCD.out _ HB2.out
          have HT2 : Hid ((((V.setCell ⟨g8, 0, none⟩ (.int .i64 (fl : Int))).setCell ⟨g8, 1, none⟩ (.int .i64 (dr : Int))).setCell ⟨g8, 2, none⟩ (.slice at1 nT ct1)).heap[g8]? = some (.cells #[.int .i64 (fl : Int), .int .i64 (dr : Int), .slice at1 nT ct1] 28 (0, 0)) ∧ V0.heap.size ≤ g8) := ⟨Tr.put3A HT.out.1, HT.out.2⟩
          have hne : g9 ≠ g8 := ty_ne HP.out.1 HT.out.1 (by decide)
          have HP2 : Hid ((((V.setCell ⟨g8, 0, none⟩ (.int .i64 (fl : Int))).setCell ⟨g8, 1, none⟩ (.int .i64 (dr : Int))).setCell ⟨g8, 2, none⟩ (.slice at1 nT ct1)).heap[g9]? = some (.cells #[.slice none 0 0, .slice none 0 0] 32 (0, 0)) ∧ V0.heap.size ≤ g9) := ⟨by rw [heap_setCell_other _ _ _ _ hne, heap_setCell_other _ _ _ _ hne, heap_setCell_other _ _ _ _ hne]; exact HP.out.1, HP.out.2⟩
          have HRT2 : Hid ((((V.setCell ⟨g8, 0, none⟩ (.int .i64 (fl : Int))).setCell ⟨g8, 1, none⟩ (.int .i64 (dr : Int))).setCell ⟨g8, 2, none⟩ (.slice at1 nT ct1)).ownsRow w.heap.size 44 5 (.slice at1 nT ct1) nT (ndsC T)) := owns_put3 HT.out.1 (by decide) HRT.out _ _ _
          have HRP2 : Hid ((((V.setCell ⟨g8, 0, none⟩ (.int .i64 (fl : Int))).setCell ⟨g8, 1, none⟩ (.int .i64 (dr : Int))).setCell ⟨g8, 2, none⟩ (.slice at1 nT ct1)).ownsRow w.heap.size 46 4 (.slice ao1 r co1) r (obsC O) ∧ (((V.setCell ⟨g8, 0, none⟩ (.int .i64 (fl : Int))).setCell ⟨g8, 1, none⟩ (.int .i64 (dr : Int))).setCell ⟨g8, 2, none⟩ (.slice at1 nT ct1)).ownsRow w.heap.size 3 1 (.slice (some ⟨gq, 0, none⟩) r1 capq) r1 (zsC LQ)) := ⟨owns_put3 HT.out.1 (by decide) HRP.out.1 _ _ _, owns_put3 HT.out.1 (by decide) HRP.out.2 _ _ _⟩
          refine hK.out _ _ hS2 (fun _ => ?_)
          clear hK K hS q0 q1 q2 f5 hne HT HP HB HRT HRP
          (try simp only [Act.put])
          revert HB2 hS2 HT2 HP2 HRT2 HRP2
          generalize (((V.setCell ⟨g8, 0, none⟩ (.int .i64 (fl : Int))).setCell ⟨g8, 1, none⟩ (.int .i64 (dr : Int))).setCell ⟨g8, 2, none⟩ (.slice at1 nT ct1)) = V2
          intro HB hS HT HP HRT HRP
          revert HB hS HT HP HRT HRP
          generalize V2 = V
          intro HB hS HT HP HRT HRP
          refine wpAnyH_ready (rs := [9]) (by kernel_rfl) (by simp) ?_
          refine AllReadyH.cons (o := { dst := none, op := .store 32 (.tmp 9) (.tmp 30), type := _, pos := _, after := _, guard := none }) rfl (fun K hK => ?_) AllReadyH.nil
          obtain ⟨q0, q1⟩ := cells2 HP.out.1
          have f5 : ∀ j, V.frozen? ⟨g9, j, none⟩ = false := fun j => frozen_of_heap HP.out.1
          go_simp
          have HB2 : Hid (Below V0.heap.size V0 ((V.setCell ⟨g9, 0, none⟩ (.slice ao1 r co1)).setCell ⟨g9, 1, none⟩ (.slice (some ⟨gq, 1, none⟩) nQ cq))) := (HB.out.setCell HP.out.2 _).setCell HP.out.2 _
          have hS2 := HCD.out _ HB2.out
          have hne : g8 ≠ g9 := ty_ne HT.out.1 HP.out.1 (by decide)
          have HT2 : Hid (((V.setCell ⟨g9, 0, none⟩ (.slice ao1 r co1)).setCell ⟨g9, 1, none⟩ (.slice (some ⟨gq, 1, none⟩) nQ cq)).heap[g8]? = some (.cells #[.int .i64 (fl : Int), .int .i64 (dr : Int), .slice at1 nT ct1] 28 (0, 0)) ∧ V0.heap.size ≤ g8) := ⟨by rw [heap_setCell_other _ _ _ _ hne, heap_setCell_other _ _ _ _ hne]; exact HT.out.1, HT.out.2⟩
          have HP2 : Hid (((V.setCell ⟨g9, 0, none⟩ (.slice ao1 r co1)).setCell ⟨g9, 1, none⟩ (.slice (some ⟨gq, 1, none⟩) nQ cq)).heap[g9]? = some (.cells #[.slice ao1 r co1, .slice (some ⟨gq, 1, none⟩) nQ cq] 32 (0, 0)) ∧ V0.heap.size ≤ g9) := ⟨Tr.put2A HP.out.1, HP.out.2⟩
          have HRT2 : Hid (((V.setCell ⟨g9, 0, none⟩ (.slice ao1 r co1)).setCell ⟨g9, 1, none⟩ (.slice (some ⟨gq, 1, none⟩) nQ cq)).ownsRow w.heap.size 44 5 (.slice at1 nT ct1) nT (ndsC T)) := owns_put2 HP.out.1 (by decide) HRT.out _ _
          have HRP2 : Hid (((V.setCell ⟨g9, 0, none⟩ (.slice ao1 r co1)).setCell ⟨g9, 1, none⟩ (.slice (some ⟨gq, 1, none⟩) nQ cq)).ownsRow w.heap.size 46 4 (.slice ao1 r co1) r (obsC O) ∧ ((V.setCell ⟨g9, 0, none⟩ (.slice ao1 r co1)).setCell ⟨g9, 1, none⟩ (.slice (some ⟨gq, 1, none⟩) nQ cq)).ownsRow w.heap.size 3 1 (.slice (some ⟨gq, 0, none⟩) r1 capq) r1 (zsC LQ)) := ⟨owns_put2 HP.out.1 (by decide) HRP.out.1 _ _, owns_put2 HP.out.1 (by decide) HRP.out.2 _ _⟩
          refine hK.out _ _ hS2 (fun _ => ?_)
          clear hK K hS q0 q1 f5 hne HT HP HB HRT HRP
          (try simp only [Act.put])
          revert HB2 hS2 HT2 HP2 HRT2 HRP2
          generalize ((V.setCell ⟨g9, 0, none⟩ (.slice ao1 r co1)).setCell ⟨g9, 1, none⟩ (.slice (some ⟨gq, 1, none⟩) nQ cq)) = V2
          intro HB hS HT HP HRT HRP
          revert HB hS HT HP HRT HRP
          generalize V2 = V
          intro HB hS HT HP HRT HRP
          refine wpAnyH_done (by kernel_rfl) ?_ _
          go_wp2_with fail
          go_meet
          exact ⟨g8, g9, at1, ct1, ao1, co1, gq, capq, cq, rfl, rfl, HCQ.out, ⟨HT.out.1, HP.out.1, HT.out.2, HP.out.2⟩, HRT.out, HRP.out, HB.out⟩
        · go_simp
          have hbA : Below V.heap.size V (V.alloc (.cells #[.slice none 0 0, .slice none 0 0] 32)) := (Below.refl _ _).alloc (Nat.le_refl _) _
          have HB2 : Hid (Below V0.heap.size V0 (V.alloc (.cells #[.slice none 0 0, .slice none 0 0] 32))) := below_on hbA HB.out
          have hS2 := HCD.out _ HB2.out
          have HRT2 : Hid ((V.alloc (.cells #[.slice none 0 0, .slice none 0 0] 32)).ownsRow w.heap.size 44 5 (.slice at1 nT ct1) nT (ndsC T)) := owns_below HRT.out hbA
          have HRP2 : Hid ((V.alloc (.cells #[.slice none 0 0, .slice none 0 0] 32)).ownsRow w.heap.size 46 4 (.slice ao1 r co1) r (obsC O) ∧ (V.alloc (.cells #[.slice none 0 0, .slice none 0 0] 32)).ownsRow w.heap.size 3 1 (.slice (some ⟨gq, 0, none⟩) r1 capq) r1 (zsC LQ)) := ⟨owns_below HRP.out.1 hbA, owns_below HRP.out.2 hbA⟩
          have HP2 : Hid ((V.alloc (.cells #[.slice none 0 0, .slice none 0 0] 32)).heap[V.heap.size]? = some (.cells #[.slice none 0 0, .slice none 0 0] 32 (0, 0)) ∧ V0.heap.size ≤ V.heap.size) := ⟨heap_new V _, HB.out.size⟩
          refine hK.out _ _ hS2 (fun _ => ?_)
          clear hK K hS HB hbA HRT HRP
          (try simp only [Act.put, List.setIfInBounds_toArray, List.set_cons_zero, List.set_cons_succ])
          revert HB2 hS2 HRT2 HRP2 HP2
          generalize (V.alloc (.cells #[.slice none 0 0, .slice none 0 0] 32)) = V2
          generalize V.heap.size = g9
          intro HB hS HRT HRP HP
          revert HB hS HRT HRP HP
          generalize V2 = V
          intro HB hS HRT HRP HP
          refine wpAnyH_ready (rs := [6]) (by kernel_rfl) (by simp) ?_
          refine AllReadyH.cons (o := { dst := some 8, op := .alloc 28, type := _, pos := _, after := _, guard := none }) rfl (fun K hK => ?_) AllReadyH.nil
          go_simp
          have hbA : Below V.heap.size V (V.alloc (.cells #[.int .i64 0, .int .i64 0, .slice none 0 0] 28)) := (Below.refl _ _).alloc (Nat.le_refl _) _
          have HB2 : Hid (Below V0.heap.size V0 (V.alloc (.cells #[.int .i64 0, .int .i64 0, .slice none 0 0] 28))) := below_on hbA HB.out
          have hS2 := HCD.out _ HB2.out
          have HP2 : Hid ((V.alloc (.cells #[.int .i64 0, .int .i64 0, .slice none 0 0] 28)).heap[g9]? = some (.cells #[.slice none 0 0, .slice none 0 0] 32 (0, 0)) ∧ V0.heap.size ≤ g9) := ⟨(hbA.block _ (heap_lt HP.out.1)).trans HP.out.1, HP.out.2⟩
          have HRT2 : Hid ((V.alloc (.cells #[.int .i64 0, .int .i64 0, .slice none 0 0] 28)).ownsRow w.heap.size 44 5 (.slice at1 nT ct1) nT (ndsC T)) := owns_below HRT.out hbA
          have HRP2 : Hid ((V.alloc (.cells #[.int .i64 0, .int .i64 0, .slice none 0 0] 28)).ownsRow w.heap.size 46 4 (.slice ao1 r co1) r (obsC O) ∧ (V.alloc (.cells #[.int .i64 0, .int .i64 0, .slice none 0 0] 28)).ownsRow w.heap.size 3 1 (.slice (some ⟨gq, 0, none⟩) r1 capq) r1 (zsC LQ)) := ⟨owns_below HRP.out.1 hbA, owns_below HRP.out.2 hbA⟩
          have HT2 : Hid ((V.alloc (.cells #[.int .i64 0, .int .i64 0, .slice none 0 0] 28)).heap[V.heap.size]? = some (.cells #[.int .i64 0, .int .i64 0, .slice none 0 0] 28 (0, 0)) ∧ V0.heap.size ≤ V.heap.size) := ⟨heap_new V _, HB.out.size⟩
          refine hK.out _ _ hS2 (fun _ => ?_)
          clear hK K hS HB hbA HP HRT HRP
          (try simp only [Act.put, List.setIfInBounds_toArray, List.set_cons_zero, List.set_cons_succ])
          revert HB2 hS2 HP2 HRT2 HRP2 HT2
          generalize (V.alloc (.cells #[.int .i64 0, .int .i64 0, .slice none 0 0] 28)) = V2
          generalize V.heap.size = g8
          intro HB hS HP HRT HRP HT
          revert HB hS HP HRT HRP HT
          generalize V2 = V
          intro HB hS HP HRT HRP HT
          refine wpAnyH_ready (rs := [8]) (by kernel_rfl) (by simp) ?_
          refine AllReadyH.cons (o := { dst := none, op := .store 28 (.tmp 8) (.tmp 27), type := _, pos := _, after := _, guard := none }) rfl (fun K hK => ?_) AllReadyH.nil
          obtain ⟨q0, q1, q2⟩ := cells3 HT.out.1
          have f5 : ∀ j, V.frozen? ⟨g8, j, none⟩ = false := fun j => frozen_of_heap HT.out.1
          go_simp
          have HB2 : Hid (Below V0.heap.size V0 (((V.setCell ⟨g8, 0, none⟩ (.int .i64 (fl : Int))).setCell ⟨g8, 1, none⟩ (.int .i64 (dr : Int))).setCell ⟨g8, 2, none⟩ (.slice at1 nT ct1))) := ((HB.out.setCell HT.out.2 _).setCell HT.out.2 _).setCell HT.out.2 _
          have hS2 := HCD.out _ HB2.out
          have HT2 : Hid ((((V.setCell ⟨g8, 0, none⟩ (.int .i64 (fl : Int))).setCell ⟨g8, 1, none⟩ (.int .i64 (dr : Int))).setCell ⟨g8, 2, none⟩ (.slice at1 nT ct1)).heap[g8]? = some (.cells #[.int .i64 (fl : Int), .int .i64 (dr : Int), .slice at1 nT ct1] 28 (0, 0)) ∧ V0.heap.size ≤ g8) := ⟨Tr.put3A HT.out.1, HT.out.2⟩
          have hne : g9 ≠ g8 := ty_ne HP.out.1 HT.out.1 (by decide)
          have HP2 : Hid ((((V.setCell ⟨g8, 0, none⟩ (.int .i64 (fl : Int))).setCell ⟨g8, 1, none⟩ (.int .i64 (dr : Int))).setCell ⟨g8, 2, none⟩ (.slice at1 nT ct1)).heap[g9]? = some (.cells #[.slice none 0 0, .slice none 0 0] 32 (0, 0)) ∧ V0.heap.size ≤ g9) := ⟨by rw [heap_setCell_other _ _ _ _ hne, heap_setCell_other _ _ _ _ hne, heap_setCell_other _ _ _ _ hne]; exact HP.out.1, HP.out.2⟩
          have HRT2 : Hid ((((V.setCell ⟨g8, 0, none⟩ (.int .i64 (fl : Int))).setCell ⟨g8, 1, none⟩ (.int .i64 (dr : Int))).setCell ⟨g8, 2, none⟩ (.slice at1 nT ct1)).ownsRow w.heap.size 44 5 (.slice at1 nT ct1) nT (ndsC T)) := owns_put3 HT.out.1 (by decide) HRT.out _ _ _
          have HRP2 : Hid ((((V.setCell ⟨g8, 0, none⟩ (.int .i64 (fl : Int))).setCell ⟨g8, 1, none⟩ (.int .i64 (dr : Int))).setCell ⟨g8, 2, none⟩ (.slice at1 nT ct1)).ownsRow w.heap.size 46 4 (.slice ao1 r co1) r (obsC O) ∧ (((V.setCell ⟨g8, 0, none⟩ (.int .i64 (fl : Int))).setCell ⟨g8, 1, none⟩ (.int .i64 (dr : Int))).setCell ⟨g8, 2, none⟩ (.slice at1 nT ct1)).ownsRow w.heap.size 3 1 (.slice (some ⟨gq, 0, none⟩) r1 capq) r1 (zsC LQ)) := ⟨owns_put3 HT.out.1 (by decide) HRP.out.1 _ _ _, owns_put3 HT.out.1 (by decide) HRP.out.2 _ _ _⟩
          refine hK.out _ _ hS2 (fun _ => ?_)
          clear hK K hS q0 q1 q2 f5 hne HT HP HB HRT HRP
          (try simp only [Act.put])
          revert HB2 hS2 HT2 HP2 HRT2 HRP2
          generalize (((V.setCell ⟨g8, 0, none⟩ (.int .i64 (fl : Int))).setCell ⟨g8, 1, none⟩ (.int .i64 (dr : Int))).setCell ⟨g8, 2, none⟩ (.slice at1 nT ct1)) = V2
          intro HB hS HT HP HRT HRP
          revert HB hS HT HP HRT HRP
          generalize V2 = V
          intro HB hS HT HP HRT HRP
          refine wpAnyH_ready (rs := [9]) (by kernel_rfl) (by simp) ?_
          refine AllReadyH.cons (o := { dst := none, op := .store 32 (.tmp 9) (.tmp 30), type := _, pos := _, after := _, guard := none }) rfl (fun K hK => ?_) AllReadyH.nil
          obtain ⟨q0, q1⟩ := cells2 HP.out.1
          have f5 : ∀ j, V.frozen? ⟨g9, j, none⟩ = false := fun j => frozen_of_heap HP.out.1
          go_simp
          have HB2 : Hid (Below V0.heap.size V0 ((V.setCell ⟨g9, 0, none⟩ (.slice ao1 r co1)).setCell ⟨g9, 1, none⟩ (.slice (some ⟨gq, 1, none⟩) nQ cq))) := (HB.out.setCell HP.out.2 _).setCell HP.out.2 _
          have hS2 := HCD.out _ HB2.out
          have hne : g8 ≠ g9 := ty_ne HT.out.1 HP.out.1 (by decide)
          have HT2 : Hid (((V.setCell ⟨g9, 0, none⟩ (.slice ao1 r co1)).setCell ⟨g9, 1, none⟩ (.slice (some ⟨gq, 1, none⟩) nQ cq)).heap[g8]? = some (.cells #[.int .i64 (fl : Int), .int .i64 (dr : Int), .slice at1 nT ct1] 28 (0, 0)) ∧ V0.heap.size ≤ g8) := ⟨by rw [heap_setCell_other _ _ _ _ hne, heap_setCell_other _ _ _ _ hne]; exact HT.out.1, HT.out.2⟩
          have HP2 : Hid (((V.setCell ⟨g9, 0, none⟩ (.slice ao1 r co1)).setCell ⟨g9, 1, none⟩ (.slice (some ⟨gq, 1, none⟩) nQ cq)).heap[g9]? = some (.cells #[.slice ao1 r co1, .slice (some ⟨gq, 1, none⟩) nQ cq] 32 (0, 0)) ∧ V0.heap.size ≤ g9) := ⟨Tr.put2A HP.out.1, HP.out.2⟩
          have HRT2 : Hid (((V.setCell ⟨g9, 0, none⟩ (.slice ao1 r co1)).setCell ⟨g9, 1, none⟩ (.slice (some ⟨gq, 1, none⟩) nQ cq)).ownsRow w.heap.size 44 5 (.slice at1 nT ct1) nT (ndsC T)) := owns_put2 HP.out.1 (by decide) HRT.out _ _
          have HRP2 : Hid (((V.setCell ⟨g9, 0, none⟩ (.slice ao1 r co1)).setCell ⟨g9, 1, none⟩ (.slice (some ⟨gq, 1, none⟩) nQ cq)).ownsRow w.heap.size 46 4 (.slice ao1 r co1) r (obsC O) ∧ ((V.setCell ⟨g9, 0, none⟩ (.slice ao1 r co1)).setCell ⟨g9, 1, none⟩ (.slice (some ⟨gq, 1, none⟩) nQ cq)).ownsRow w.heap.size 3 1 (.slice (some ⟨gq, 0, none⟩) r1 capq) r1 (zsC LQ)) := ⟨owns_put2 HP.out.1 (by decide) HRP.out.1 _ _, owns_put2 HP.out.1 (by decide) HRP.out.2 _ _⟩
          refine hK.out _ _ hS2 (fun _ => ?_)
          clear hK K hS q0 q1 f5 hne HT HP HB HRT HRP
          (try simp only [Act.put])
          revert HB2 hS2 HT2 HP2 HRT2 HRP2
          generalize ((V.setCell ⟨g9, 0, none⟩ (.slice ao1 r co1)).setCell ⟨g9, 1, none⟩ (.slice (some ⟨gq, 1, none⟩) nQ cq)) = V2
          intro HB hS HT HP HRT HRP
          revert HB hS HT HP HRT HRP
          generalize V2 = V
          intro HB hS HT HP HRT HRP
          refine wpAnyH_done (by kernel_rfl) ?_ _
          go_wp2_with fail
          go_meet
          exact ⟨g8, g9, at1, ct1, ao1, co1, gq, capq, cq, rfl, rfl, HCQ.out, ⟨HT.out.1, HP.out.1, HT.out.2, HP.out.2⟩, HRT.out, HRP.out, HB.out⟩
      · go_simp
        have hbA : Below V.heap.size V (V.alloc (.cells #[.int .i64 0, .int .i64 0, .slice none 0 0] 28)) := (Below.refl _ _).alloc (Nat.le_refl _) _
        have HB2 : Hid (Below V0.heap.size V0 (V.alloc (.cells #[.int .i64 0, .int .i64 0, .slice none 0 0] 28))) := below_on hbA HB.out
        have hS2 := HCD.out _ HB2.out
        have HRT2 : Hid ((V.alloc (.cells #[.int .i64 0, .int .i64 0, .slice none 0 0] 28)).ownsRow w.heap.size 44 5 (.slice at1 nT ct1) nT (ndsC T)) := owns_below HRT.out hbA
        have HT2 : Hid ((V.alloc (.cells #[.int .i64 0, .int .i64 0, .slice none 0 0] 28)).heap[V.heap.size]? = some (.cells #[.int .i64 0, .int .i64 0, .slice none 0 0] 28 (0, 0)) ∧ V0.heap.size ≤ V.heap.size) := ⟨heap_new V _, HB.out.size⟩
        refine hK.out _ _ hS2 (fun _ => ?_)
        clear hK K hS HB hbA HRT
        (try simp only [Act.put, List.setIfInBounds_toArray, List.set_cons_zero, List.set_cons_succ])
        revert HB2 hS2 HRT2 HT2
        generalize (V.alloc (.cells #[.int .i64 0, .int .i64 0, .slice none 0 0] 28)) = V2
        generalize V.heap.size = g8
        intro HB hS HRT HT
        revert HB hS HRT HT
        generalize V2 = V
        intro HB hS HRT HT
        refine wpAnyH_ready (rs := [5, 7]) (by kernel_rfl) (by simp) ?_
        refine AllReadyH.cons (o := { dst := some 30, op := .call { callee := .value (.func 27), args := #[.tmp 28, .tmp 29], argTypes := #[23, 9] }, type := _, pos := _, after := _, guard := none }) rfl (fun K hK => ?_) (AllReadyH.cons (o := { dst := some 9, op := .alloc 32, type := _, pos := _, after := _, guard := none }) rfl (fun K hK => ?_) AllReadyH.nil)
        · go_simp
          refine (KRP.out _ HB.out).mono ?_
          rintro e W2 ⟨ao1, co1, gq, capq, cq, hcq, rfl, ho2, hq2, hbA⟩
          have HCQ : Hid (capq - 1 = cq) := hcq
          clear hcq
          have HB2 : Hid (Below V0.heap.size V0 W2) := below_on hbA HB.out
          have hS2 := HCD.out _ HB2.out
          have HT2 : Hid (W2.heap[g8]? = some (.cells #[.int .i64 0, .int .i64 0, .slice none 0 0] 28 (0, 0)) ∧ V0.heap.size ≤ g8) := ⟨(hbA.block _ (heap_lt HT.out.1)).trans HT.out.1, HT.out.2⟩
          have HRT2 : Hid (W2.ownsRow w.heap.size 44 5 (.slice at1 nT ct1) nT (ndsC T)) := owns_below HRT.out hbA
          have HRP2 : Hid (W2.ownsRow w.heap.size 46 4 (.slice ao1 r co1) r (obsC O) ∧ W2.ownsRow w.heap.size 3 1 (.slice (some ⟨gq, 0, none⟩) r1 capq) r1 (zsC LQ)) := ⟨owns_base ho2 (HW.out _ HB.out).size, owns_base hq2 (HW.out _ HB.out).size⟩
          refine hK.out _ _ hS2 (fun _ => ?_)
          clear hK K hS HB hbA ho2 hq2 HT HRT
          (try simp only [Act.put, List.setIfInBounds_toArray, List.set_cons_zero, List.set_cons_succ])
          revert HB2 hS2 HT2 HRT2 HRP2
          generalize W2 = V
          intro HB hS HT HRT HRP
          refine wpAnyH_ready (rs := [7]) (by kernel_rfl) (by simp) ?_
          refine AllReadyH.cons (o := { dst := some 9, op := .alloc 32, type := _, pos := _, after := _, guard := none }) rfl (fun K hK => ?_) AllReadyH.nil
          go_simp
          have hbA : Below V.heap.size V (V.alloc (.cells #[.slice none 0 0, .slice none 0 0] 32)) := (Below.refl _ _).alloc (Nat.le_refl _) _
          have HB2 : Hid (Below V0.heap.size V0 (V.alloc (.cells #[.slice none 0 0, .slice none 0 0] 32))) := below_on hbA HB.out
          have hS2 := HCD.out _ HB2.out
          have HT2 : Hid ((V.alloc (.cells #[.slice none 0 0, .slice none 0 0] 32)).heap[g8]? = some (.cells #[.int .i64 0, .int .i64 0, .slice none 0 0] 28 (0, 0)) ∧ V0.heap.size ≤ g8) := ⟨(hbA.block _ (heap_lt HT.out.1)).trans HT.out.1, HT.out.2⟩
          have HRT2 : Hid ((V.alloc (.cells #[.slice none 0 0, .slice none 0 0] 32)).ownsRow w.heap.size 44 5 (.slice at1 nT ct1) nT (ndsC T)) := owns_below HRT.out hbA
          have HRP2 : Hid ((V.alloc (.cells #[.slice none 0 0, .slice none 0 0] 32)).ownsRow w.heap.size 46 4 (.slice ao1 r co1) r (obsC O) ∧ (V.alloc (.cells #[.slice none 0 0, .slice none 0 0] 32)).ownsRow w.heap.size 3 1 (.slice (some ⟨gq, 0, none⟩) r1 capq) r1 (zsC LQ)) := ⟨owns_below HRP.out.1 hbA, owns_below HRP.out.2 hbA⟩
          have HP2 : Hid ((V.alloc (.cells #[.slice none 0 0, .slice none 0 0] 32)).heap[V.heap.size]? = some (.cells #[.slice none 0 0, .slice none 0 0] 32 (0, 0)) ∧ V0.heap.size ≤ V.heap.size) := ⟨heap_new V _, HB.out.size⟩
          refine hK.out _ _ hS2 (fun _ => ?_)
          clear hK K hS HB hbA HT HRT HRP
          (try simp only [Act.put, List.setIfInBounds_toArray, List.set_cons_zero, List.set_cons_succ])
          revert HB2 hS2 HT2 HRT2 HRP2 HP2
          generalize (V.alloc (.cells #[.slice none 0 0, .slice none 0 0] 32)) = V2
          generalize V.heap.size = g9
          intro HB hS HT HRT HRP HP
          revert HB hS HT HRT HRP HP
          generalize V2 = V
          intro HB hS HT HRT HRP HP
          refine wpAnyH_ready (rs := [8]) (by kernel_rfl) (by simp) ?_
          refine AllReadyH.cons (o := { dst := none, op := .store 28 (.tmp 8) (.tmp 27), type := _, pos := _, after := _, guard := none }) rfl (fun K hK => ?_) AllReadyH.nil
          obtain ⟨q0, q1, q2⟩ := cells3 HT.out.1
          have f5 : ∀ j, V.frozen? ⟨g8, j, none⟩ = false := fun j => frozen_of_heap HT.out.1
          go_simp
          have HB2 : Hid (Below V0.heap.size V0 (((V.setCell ⟨g8, 0, none⟩ (.int .i64 (fl : Int))).setCell ⟨g8, 1, none⟩ (.int .i64 (dr : Int))).setCell ⟨g8, 2, none⟩ (.slice at1 nT ct1))) := ((HB.out.setCell HT.out.2 _).setCell HT.out.2 _).setCell HT.out.2 _
          have hS2 := HCD.out _ HB2.out
          have HT2 : Hid ((((V.setCell ⟨g8, 0, none⟩ (.int .i64 (fl : Int))).setCell ⟨g8, 1, none⟩ (.int .i64 (dr : Int))).setCell ⟨g8, 2, none⟩ (.slice at1 nT ct1)).heap[g8]? = some (.cells #[.int .i64 (fl : Int), .int .i64 (dr : Int), .slice at1 nT ct1] 28 (0, 0)) ∧ V0.heap.size ≤ g8) := ⟨Tr.put3A HT.out.1, HT.out.2⟩
          have hne : g9 ≠ g8 := ty_ne HP.out.1 HT.out.1 (by decide)
          have HP2 : Hid ((((V.setCell ⟨g8, 0, none⟩ (.int .i64 (fl : Int))).setCell ⟨g8, 1, none⟩ (.int .i64 (dr : Int))).setCell ⟨g8, 2, none⟩ (.slice at1 nT ct1)).heap[g9]? = some (.cells #[.slice none 0 0, .slice none 0 0] 32 (0, 0)) ∧ V0.heap.size ≤ g9) := ⟨by rw [heap_setCell_other _ _ _ _ hne, heap_setCell_other _ _ _ _ hne, heap_setCell_other _ _ _ _ hne]; exact HP.out.1, HP.out.2⟩
          have HRT2 : Hid ((((V.setCell ⟨g8, 0, none⟩ (.int .i64 (fl : Int))).setCell ⟨g8, 1, none⟩ (.int .i64 (dr : Int))).setCell ⟨g8, 2, none⟩ (.slice at1 nT ct1)).ownsRow w.heap.size 44 5 (.slice at1 nT ct1) nT (ndsC T)) := owns_put3 HT.out.1 (by decide) HRT.out _ _ _
          have HRP2 : Hid ((((V.setCell ⟨g8, 0, none⟩ (.int .i64 (fl : Int))).setCell ⟨g8, 1, none⟩ (.int .i64 (dr : Int))).setCell ⟨g8, 2, none⟩ (.slice at1 nT ct1)).ownsRow w.heap.size 46 4 (.slice ao1 r co1) r (obsC O) ∧ (((V.setCell ⟨g8, 0, none⟩ (.int .i64 (fl : Int))).setCell ⟨g8, 1, none⟩ (.int .i64 (dr : Int))).setCell ⟨g8, 2, none⟩ (.slice at1 nT ct1)).ownsRow w.heap.size 3 1 (.slice (some ⟨gq, 0, none⟩) r1 capq) r1 (zsC LQ)) := ⟨owns_put3 HT.out.1 (by decide) HRP.out.1 _ _ _, owns_put3 HT.out.1 (by decide) HRP.out.2 _ _ _⟩
          refine hK.out _ _ hS2 (fun _ => ?_)
          clear hK K hS q0 q1 q2 f5 hne HT HP HB HRT HRP
          (try simp only [Act.put])
          revert HB2 hS2 HT2 HP2 HRT2 HRP2
          generalize (((V.setCell ⟨g8, 0, none⟩ (.int .i64 (fl : Int))).setCell ⟨g8, 1, none⟩ (.int .i64 (dr : Int))).setCell ⟨g8, 2, none⟩ (.slice at1 nT ct1)) = V2
          intro HB hS HT HP HRT HRP
          revert HB hS HT HP HRT HRP
          generalize V2 = V
          intro HB hS HT HP HRT HRP
          refine wpAnyH_ready (rs := [9]) (by kernel_rfl) (by simp) ?_
          refine AllReadyH.cons (o := { dst := none, op := .store 32 (.tmp 9) (.tmp 30), type := _, pos := _, after := _, guard := none }) rfl (fun K hK => ?_) AllReadyH.nil
          obtain ⟨q0, q1⟩ := cells2 HP.out.1
          have f5 : ∀ j, V.frozen? ⟨g9, j, none⟩ = false := fun j => frozen_of_heap HP.out.1
          go_simp
          have HB2 : Hid (Below V0.heap.size V0 ((V.setCell ⟨g9, 0, none⟩ (.slice ao1 r co1)).setCell ⟨g9, 1, none⟩ (.slice (some ⟨gq, 1, none⟩) nQ cq))) := (HB.out.setCell HP.out.2 _).setCell HP.out.2 _
          have hS2 := HCD.out _ HB2.out
          have hne : g8 ≠ g9 := ty_ne HT.out.1 HP.out.1 (by decide)
          have HT2 : Hid (((V.setCell ⟨g9, 0, none⟩ (.slice ao1 r co1)).setCell ⟨g9, 1, none⟩ (.slice (some ⟨gq, 1, none⟩) nQ cq)).heap[g8]? = some (.cells #[.int .i64 (fl : Int), .int .i64 (dr : Int), .slice at1 nT ct1] 28 (0, 0)) ∧ V0.heap.size ≤ g8) := ⟨by rw [heap_setCell_other _ _ _ _ hne, heap_setCell_other _ _ _ _ hne]; exact HT.out.1, HT.out.2⟩
          have HP2 : Hid (((V.setCell ⟨g9, 0, none⟩ (.slice ao1 r co1)).setCell ⟨g9, 1, none⟩ (.slice (some ⟨gq, 1, none⟩) nQ cq)).heap[g9]? = some (.cells #[.slice ao1 r co1, .slice (some ⟨gq, 1, none⟩) nQ cq] 32 (0, 0)) ∧ V0.heap.size ≤ g9) := ⟨Tr.put2A HP.out.1, HP.out.2⟩
          have HRT2 : Hid (((V.setCell ⟨g9, 0, none⟩ (.slice ao1 r co1)).setCell ⟨g9, 1, none⟩ (.slice (some ⟨gq, 1, none⟩) nQ cq)).ownsRow w.heap.size 44 5 (.slice at1 nT ct1) nT (ndsC T)) := owns_put2 HP.out.1 (by decide) HRT.out _ _
          have HRP2 : Hid (((V.setCell ⟨g9, 0, none⟩ (.slice ao1 r co1)).setCell ⟨g9, 1, none⟩ (.slice (some ⟨gq, 1, none⟩) nQ cq)).ownsRow w.heap.size 46 4 (.slice ao1 r co1) r (obsC O) ∧ ((V.setCell ⟨g9, 0, none⟩ (.slice ao1 r co1)).setCell ⟨g9, 1, none⟩ (.slice (some ⟨gq, 1, none⟩) nQ cq)).ownsRow w.heap.size 3 1 (.slice (some ⟨gq, 0, none⟩) r1 capq) r1 (zsC LQ)) := ⟨owns_put2 HP.out.1 (by decide) HRP.out.1 _ _, owns_put2 HP.out.1 (by decide) HRP.out.2 _ _⟩
          refine hK.out _ _ hS2 (fun _ => ?_)
          clear hK K hS q0 q1 f5 hne HT HP HB HRT HRP
          (try simp only [Act.put])
          revert HB2 hS2 HT2 HP2 HRT2 HRP2
          generalize ((V.setCell ⟨g9, 0, none⟩ (.slice ao1 r co1)).setCell ⟨g9, 1, none⟩ (.slice (some ⟨gq, 1, none⟩) nQ cq)) = V2
          intro HB hS HT HP HRT HRP
          revert HB hS HT HP HRT HRP
          generalize V2 = V
          intro HB hS HT HP HRT HRP
          refine wpAnyH_done (by kernel_rfl) ?_ _
          go_wp2_with fail
          go_meet
          exact ⟨g8, g9, at1, ct1, ao1, co1, gq, capq, cq, rfl, rfl, HCQ.out, ⟨HT.out.1, HP.out.1, HT.out.2, HP.out.2⟩, HRT.out, HRP.out, HB.out⟩
        · go_simp
          have hbA : Below V.heap.size V (V.alloc (.cells #[.slice none 0 0, .slice none 0 0] 32)) := (Below.refl _ _).alloc (Nat.le_refl _) _
          have HB2 : Hid (Below V0.heap.size V0 (V.alloc (.cells #[.slice none 0 0, .slice none 0 0] 32))) := below_on hbA HB.out
          have hS2 := HCD.out _ HB2.out
          have HT2 : Hid ((V.alloc (.cells #[.slice none 0 0, .slice none 0 0] 32)).heap[g8]? = some (.cells #[.int .i64 0, .int .i64 0, .slice none 0 0] 28 (0, 0)) ∧ V0.heap.size ≤ g8) := ⟨(hbA.block _ (heap_lt HT.out.1)).trans HT.out.1, HT.out.2⟩
          have HRT2 : Hid ((V.alloc (.cells #[.slice none 0 0, .slice none 0 0] 32)).ownsRow w.heap.size 44 5 (.slice at1 nT ct1) nT (ndsC T)) := owns_below HRT.out hbA
          have HP2 : Hid ((V.alloc (.cells #[.slice none 0 0, .slice none 0 0] 32)).heap[V.heap.size]? = some (.cells #[.slice none 0 0, .slice none 0 0] 32 (0, 0)) ∧ V0.heap.size ≤ V.heap.size) := ⟨heap_new V _, HB.out.size⟩
          refine hK.out _ _ hS2 (fun _ => ?_)
          clear hK K hS HB hbA HT HRT
          (try simp only [Act.put, List.setIfInBounds_toArray, List.set_cons_zero, List.set_cons_succ])
          revert HB2 hS2 HT2 HRT2 HP2
          generalize (V.alloc (.cells #[.slice none 0 0, .slice none 0 0] 32)) = V2
          generalize V.heap.size = g9
          intro HB hS HT HRT HP
          revert HB hS HT HRT HP
          generalize V2 = V
          intro HB hS HT HRT HP
          refine wpAnyH_ready (rs := [5]) (by kernel_rfl) (by simp) ?_
          refine AllReadyH.cons (o := { dst := some 30, op := .call { callee := .value (.func 27), args := #[.tmp 28, .tmp 29], argTypes := #[23, 9] }, type := _, pos := _, after := _, guard := none }) rfl (fun K hK => ?_) AllReadyH.nil
          go_simp
          refine (KRP.out _ HB.out).mono ?_
          rintro e W2 ⟨ao1, co1, gq, capq, cq, hcq, rfl, ho2, hq2, hbA⟩
          have HCQ : Hid (capq - 1 = cq) := hcq
          clear hcq
          have HB2 : Hid (Below V0.heap.size V0 W2) := below_on hbA HB.out
          have hS2 := HCD.out _ HB2.out
          have HT2 : Hid (W2.heap[g8]? = some (.cells #[.int .i64 0, .int .i64 0, .slice none 0 0] 28 (0, 0)) ∧ V0.heap.size ≤ g8) := ⟨(hbA.block _ (heap_lt HT.out.1)).trans HT.out.1, HT.out.2⟩
          have HP2 : Hid (W2.heap[g9]? = some (.cells #[.slice none 0 0, .slice none 0 0] 32 (0, 0)) ∧ V0.heap.size ≤ g9) := ⟨(hbA.block _ (heap_lt HP.out.1)).trans HP.out.1, HP.out.2⟩
          have HRT2 : Hid (W2.ownsRow w.heap.size 44 5 (.slice at1 nT ct1) nT (ndsC T)) := owns_below HRT.out hbA
          have HRP2 : Hid (W2.ownsRow w.heap.size 46 4 (.slice ao1 r co1) r (obsC O) ∧ W2.ownsRow w.heap.size 3 1 (.slice (some ⟨gq, 0, none⟩) r1 capq) r1 (zsC LQ)) := ⟨owns_base ho2 (HW.out _ HB.out).size, owns_base hq2 (HW.out _ HB.out).size⟩
          refine hK.out _ _ hS2 (fun _ => ?_)
          clear hK K hS HB hbA ho2 hq2 HT HP HRT
          (try simp only [Act.put, List.setIfInBounds_toArray, List.set_cons_zero, List.set_cons_succ])
          revert HB2 hS2 HT2 HP2 HRT2 HRP2
          generalize W2 = V
          intro HB hS HT HP HRT HRP
          refine wpAnyH_ready (rs := [8]) (by kernel_rfl) (by simp) ?_
          refine AllReadyH.cons (o := { dst := none, op := .store 28 (.tmp 8) (.tmp 27), type := _, pos := _, after := _, guard := none }) rfl (fun K hK => ?_) AllReadyH.nil
          obtain ⟨q0, q1, q2⟩ := cells3 HT.out.1
          have f5 : ∀ j, V.frozen? ⟨g8, j, none⟩ = false := fun j => frozen_of_heap HT.out.1
          go_simp
          have HB2 : Hid (Below V0.heap.size V0 (((V.setCell ⟨g8, 0, none⟩ (.int .i64 (fl : Int))).setCell ⟨g8, 1, none⟩ (.int .i64 (dr : Int))).setCell ⟨g8, 2, none⟩ (.slice at1 nT ct1))) := ((HB.out.setCell HT.out.2 _).setCell HT.out.2 _).setCell HT.out.2 _
          have hS2 := HCD.out _ HB2.out
          have HT2 : Hid ((((V.setCell ⟨g8, 0, none⟩ (.int .i64 (fl : Int))).setCell ⟨g8, 1, none⟩ (.int .i64 (dr : Int))).setCell ⟨g8, 2, none⟩ (.slice at1 nT ct1)).heap[g8]? = some (.cells #[.int .i64 (fl : Int), .int .i64 (dr : Int), .slice at1 nT ct1] 28 (0, 0)) ∧ V0.heap.size ≤ g8) := ⟨Tr.put3A HT.out.1, HT.out.2⟩
          have hne : g9 ≠ g8 := ty_ne HP.out.1 HT.out.1 (by decide)
          have HP2 : Hid ((((V.setCell ⟨g8, 0, none⟩ (.int .i64 (fl : Int))).setCell ⟨g8, 1, none⟩ (.int .i64 (dr : Int))).setCell ⟨g8, 2, none⟩ (.slice at1 nT ct1)).heap[g9]? = some (.cells #[.slice none 0 0, .slice none 0 0] 32 (0, 0)) ∧ V0.heap.size ≤ g9) := ⟨by rw [heap_setCell_other _ _ _ _ hne, heap_setCell_other _ _ _ _ hne, heap_setCell_other _ _ _ _ hne]; exact HP.out.1, HP.out.2⟩
          have HRT2 : Hid ((((V.setCell ⟨g8, 0, none⟩ (.int .i64 (fl : Int))).setCell ⟨g8, 1, none⟩ (.int .i64 (dr : Int))).setCell ⟨g8, 2, none⟩ (.slice at1 nT ct1)).ownsRow w.heap.size 44 5 (.slice at1 nT ct1) nT (ndsC T)) := owns_put3 HT.out.1 (by decide) HRT.out _ _ _
          have HRP2 : Hid ((((V.setCell ⟨g8, 0, none⟩ (.int .i64 (fl : Int))).setCell ⟨g8, 1, none⟩ (.int .i64 (dr : Int))).setCell ⟨g8, 2, none⟩ (.slice at1 nT ct1)).ownsRow w.heap.size 46 4 (.slice ao1 r co1) r (obsC O) ∧ (((V.setCell ⟨g8, 0, none⟩ (.int .i64 (fl : Int))).setCell ⟨g8, 1, none⟩ (.int .i64 (dr : Int))).setCell ⟨g8, 2, none⟩ (.slice at1 nT ct1)).ownsRow w.heap.size 3 1 (.slice (some ⟨gq, 0, none⟩) r1 capq) r1 (zsC LQ)) := ⟨owns_put3 HT.out.1 (by decide) HRP.out.1 _ _ _, owns_put3 HT.out.1 (by decide) HRP.out.2 _ _ _⟩
          refine hK.out _ _ hS2 (fun _ => ?_)
          clear hK K hS q0 q1 q2 f5 hne HT HP HB HRT HRP
          (try simp only [Act.put])
          revert HB2 hS2 HT2 HP2 HRT2 HRP2
          generalize (((V.setCell ⟨g8, 0, none⟩ (.int .i64 (fl : Int))).setCell ⟨g8, 1, none⟩ (.int .i64 (dr : Int))).setCell ⟨g8, 2, none⟩ (.slice at1 nT ct1)) = V2
          intro HB hS HT HP HRT HRP
          revert HB hS HT HP HRT HRP
          generalize V2 = V
          intro HB hS HT HP HRT HRP
          refine wpAnyH_ready (rs := [9]) (by kernel_rfl) (by simp) ?_
          refine AllReadyH.cons (o := { dst := none, op := .store 32 (.tmp 9) (.tmp 30), type := _, pos := _, after := _, guard := none }) rfl (fun K hK => ?_) AllReadyH.nil
          obtain ⟨q0, q1⟩ := cells2 HP.out.1
          have f5 : ∀ j, V.frozen? ⟨g9, j, none⟩ = false := fun j => frozen_of_heap HP.out.1
          go_simp
          have HB2 : Hid (Below V0.heap.size V0 ((V.setCell ⟨g9, 0, none⟩ (.slice ao1 r co1)).setCell ⟨g9, 1, none⟩ (.slice (some ⟨gq, 1, none⟩) nQ cq))) := (HB.out.setCell HP.out.2 _).setCell HP.out.2 _
          have hS2 := HCD.out _ HB2.out
          have hne : g8 ≠ g9 := ty_ne HT.out.1 HP.out.1 (by decide)
          have HT2 : Hid (((V.setCell ⟨g9, 0, none⟩ (.slice ao1 r co1)).setCell ⟨g9, 1, none⟩ (.slice (some ⟨gq, 1, none⟩) nQ cq)).heap[g8]? = some (.cells #[.int .i64 (fl : Int), .int .i64 (dr : Int), .slice at1 nT ct1] 28 (0, 0)) ∧ V0.heap.size ≤ g8) := ⟨by rw [heap_setCell_other _ _ _ _ hne, heap_setCell_other _ _ _ _ hne]; exact HT.out.1, HT.out.2⟩
          have HP2 : Hid (((V.setCell ⟨g9, 0, none⟩ (.slice ao1 r co1)).setCell ⟨g9, 1, none⟩ (.slice (some ⟨gq, 1, none⟩) nQ cq)).heap[g9]? = some (.cells #[.slice ao1 r co1, .slice (some ⟨gq, 1, none⟩) nQ cq] 32 (0, 0)) ∧ V0.heap.size ≤ g9) := ⟨Tr.put2A HP.out.1, HP.out.2⟩
          have HRT2 : Hid (((V.setCell ⟨g9, 0, none⟩ (.slice ao1 r co1)).setCell ⟨g9, 1, none⟩ (.slice (some ⟨gq, 1, none⟩) nQ cq)).ownsRow w.heap.size 44 5 (.slice at1 nT ct1) nT (ndsC T)) := owns_put2 HP.out.1 (by decide) HRT.out _ _
          have HRP2 : Hid (((V.setCell ⟨g9, 0, none⟩ (.slice ao1 r co1)).setCell ⟨g9, 1, none⟩ (.slice (some ⟨gq, 1, none⟩) nQ cq)).ownsRow w.heap.size 46 4 (.slice ao1 r co1) r (obsC O) ∧ ((V.setCell ⟨g9, 0, none⟩ (.slice ao1 r co1)).setCell ⟨g9, 1, none⟩ (.slice (some ⟨gq, 1, none⟩) nQ cq)).ownsRow w.heap.size 3 1 (.slice (some ⟨gq, 0, none⟩) r1 capq) r1 (zsC LQ)) := ⟨owns_put2 HP.out.1 (by decide) HRP.out.1 _ _, owns_put2 HP.out.1 (by decide) HRP.out.2 _ _⟩
          refine hK.out _ _ hS2 (fun _ => ?_)
          clear hK K hS q0 q1 f5 hne HT HP HB HRT HRP
          (try simp only [Act.put])
          revert HB2 hS2 HT2 HP2 HRT2 HRP2
          generalize ((V.setCell ⟨g9, 0, none⟩ (.slice ao1 r co1)).setCell ⟨g9, 1, none⟩ (.slice (some ⟨gq, 1, none⟩) nQ cq)) = V2
          intro HB hS HT HP HRT HRP
          revert HB hS HT HP HRT HRP
          generalize V2 = V
          intro HB hS HT HP HRT HRP
          refine wpAnyH_done (by kernel_rfl) ?_ _
          go_wp2_with fail
          go_meet
          exact ⟨g8, g9, at1, ct1, ao1, co1, gq, capq, cq, rfl, rfl, HCQ.out, ⟨HT.out.1, HP.out.1, HT.out.2, HP.out.2⟩, HRT.out, HRP.out, HB.out⟩
      · go_simp
        have hbA : Below V.heap.size V (V.alloc (.cells #[.slice none 0 0, .slice none 0 0] 32)) := (Below.refl _ _).alloc (Nat.le_refl _) _
        have HB2 : Hid (Below V0.heap.size V0 (V.alloc (.cells #[.slice none 0 0, .slice none 0 0] 32))) := below_on hbA HB.out
        have hS2 := HCD.out _ HB2.out
        have HRT2 : Hid ((V.alloc (.cells #[.slice none 0 0, .slice none 0 0] 32)).ownsRow w.heap.size 44 5 (.slice at1 nT ct1) nT (ndsC T)) := owns_below HRT.out hbA
        have HP2 : Hid ((V.alloc (.cells #[.slice none 0 0, .slice none 0 0] 32)).heap[V.heap.size]? = some (.cells #[.slice none 0 0, .slice none 0 0] 32 (0, 0)) ∧ V0.heap.size ≤ V.heap.size) := ⟨heap_new V _, HB.out.size⟩
        refine hK.out _ _ hS2 (fun _ => ?_)
        clear hK K hS HB hbA HRT
        (try simp only [Act.put, List.setIfInBounds_toArray, List.set_cons_zero, List.set_cons_succ])
        revert HB2 hS2 HRT2 HP2
        generalize (V.alloc (.cells #[.slice none 0 0, .slice none 0 0] 32)) = V2
        generalize V.heap.size = g9
        intro HB hS HRT HP
        revert HB hS HRT HP
        generalize V2 = V
        intro HB hS HRT HP
        refine wpAnyH_ready (rs := [5, 6]) (by kernel_rfl) (by simp) ?_
        refine AllReadyH.cons (o := { dst := some 30, op := .call { callee := .value (.func 27), args := #[.tmp 28, .tmp 29], argTypes := #[23, 9] }, type := _, pos := _, after := _, guard := none }) rfl (fun K hK => ?_) (AllReadyH.cons (o := { dst := some 8, op := .alloc 28, type := _, pos := _, after := _, guard := none }) rfl (fun K hK => ?_) AllReadyH.nil)
        · go_simp
          refine (KRP.out _ HB.out).mono ?_
          rintro e W2 ⟨ao1, co1, gq, capq, cq, hcq, rfl, ho2, hq2, hbA⟩
          have HCQ : Hid (capq - 1 = cq) := hcq
          clear hcq
          have HB2 : Hid (Below V0.heap.size V0 W2) := below_on hbA HB.out
          have hS2 := HCD.out _ HB2.out
          have HP2 : Hid (W2.heap[g9]? = some (.cells #[.slice none 0 0, .slice none 0 0] 32 (0, 0)) ∧ V0.heap.size ≤ g9) := ⟨(hbA.block _ (heap_lt HP.out.1)).trans HP.out.1, HP.out.2⟩
          have HRT2 : Hid (W2.ownsRow w.heap.size 44 5 (.slice at1 nT ct1) nT (ndsC T)) := owns_below HRT.out hbA
          have HRP2 : Hid (W2.ownsRow w.heap.size 46 4 (.slice ao1 r co1) r (obsC O) ∧ W2.ownsRow w.heap.size 3 1 (.slice (some ⟨gq, 0, none⟩) r1 capq) r1 (zsC LQ)) := ⟨owns_base ho2 (HW.out _ HB.out).size, owns_base hq2 (HW.out _ HB.out).size⟩
          refine hK.out _ _ hS2 (fun _ => ?_)
          clear hK K hS HB hbA ho2 hq2 HP HRT
          (try simp only [Act.put, List.setIfInBounds_toArray, List.set_cons_zero, List.set_cons_succ])
          revert HB2 hS2 HP2 HRT2 HRP2
          generalize W2 = V
          intro HB hS HP HRT HRP
          refine wpAnyH_ready (rs := [6]) (by kernel_rfl) (by simp) ?_
          refine AllReadyH.cons (o := { dst := some 8, op := .alloc 28, type := _, pos := _, after := _, guard := none }) rfl (fun K hK => ?_) AllReadyH.nil
          go_simp
          have hbA : Below V.heap.size V (V.alloc (.cells #[.int .i64 0, .int .i64 0, .slice none 0 0] 28)) := (Below.refl _ _).alloc (Nat.le_refl _) _
          have HB2 : Hid (Below V0.heap.size V0 (V.alloc (.cells #[.int .i64 0, .int .i64 0, .slice none 0 0] 28))) := below_on hbA HB.out
          have hS2 := HCD.out _ HB2.out
          have HP2 : Hid ((V.alloc (.cells #[.int .i64 0, .int .i64 0, .slice none 0 0] 28)).heap[g9]? = some (.cells #[.slice none 0 0, .slice none 0 0] 32 (0, 0)) ∧ V0.heap.size ≤ g9) := ⟨(hbA.block _ (heap_lt HP.out.1)).trans HP.out.1, HP.out.2⟩
          have HRT2 : Hid ((V.alloc (.cells #[.int .i64 0, .int .i64 0, .slice none 0 0] 28)).ownsRow w.heap.size 44 5 (.slice at1 nT ct1) nT (ndsC T)) := owns_below HRT.out hbA
          have HRP2 : Hid ((V.alloc (.cells #[.int .i64 0, .int .i64 0, .slice none 0 0] 28)).ownsRow w.heap.size 46 4 (.slice ao1 r co1) r (obsC O) ∧ (V.alloc (.cells #[.int .i64 0, .int .i64 0, .slice none 0 0] 28)).ownsRow w.heap.size 3 1 (.slice (some ⟨gq, 0, none⟩) r1 capq) r1 (zsC LQ)) := ⟨owns_below HRP.out.1 hbA, owns_below HRP.out.2 hbA⟩
          have HT2 : Hid ((V.alloc (.cells #[.int .i64 0, .int .i64 0, .slice none 0 0] 28)).heap[V.heap.size]? = some (.cells #[.int .i64 0, .int .i64 0, .slice none 0 0] 28 (0, 0)) ∧ V0.heap.size ≤ V.heap.size) := ⟨heap_new V _, HB.out.size⟩
          refine hK.out _ _ hS2 (fun _ => ?_)
          clear hK K hS HB hbA HP HRT HRP
          (try simp only [Act.put, List.setIfInBounds_toArray, List.set_cons_zero, List.set_cons_succ])
          revert HB2 hS2 HP2 HRT2 HRP2 HT2
          generalize (V.alloc (.cells #[.int .i64 0, .int .i64 0, .slice none 0 0] 28)) = V2
          generalize V.heap.size = g8
          intro HB hS HP HRT HRP HT
          revert HB hS HP HRT HRP HT
          generalize V2 = V
          intro HB hS HP HRT HRP HT
          refine wpAnyH_ready (rs := [8]) (by kernel_rfl) (by simp) ?_
          refine AllReadyH.cons (o := { dst := none, op := .store 28 (.tmp 8) (.tmp 27), type := _, pos := _, after := _, guard := none }) rfl (fun K hK => ?_) AllReadyH.nil
          obtain ⟨q0, q1, q2⟩ := cells3 HT.out.1
          have f5 : ∀ j, V.frozen? ⟨g8, j, none⟩ = false := fun j => frozen_of_heap HT.out.1
          go_simp
          have HB2 : Hid (Below V0.heap.size V0 (((V.setCell ⟨g8, 0, none⟩ (.int .i64 (fl : Int))).setCell ⟨g8, 1, none⟩ (.int .i64 (dr : Int))).setCell ⟨g8, 2, none⟩ (.slice at1 nT ct1))) := ((HB.out.setCell HT.out.2 _).setCell HT.out.2 _).setCell HT.out.2 _
          have hS2 := HCD.out _ HB2.out
          have HT2 : Hid ((((V.setCell ⟨g8, 0, none⟩ (.int .i64 (fl : Int))).setCell ⟨g8, 1, none⟩ (.int .i64 (dr : Int))).setCell ⟨g8, 2, none⟩ (.slice at1 nT ct1)).heap[g8]? = some (.cells #[.int .i64 (fl : Int), .int .i64 (dr : Int), .slice at1 nT ct1] 28 (0, 0)) ∧ V0.heap.size ≤ g8) := ⟨Tr.put3A HT.out.1, HT.out.2⟩
          have hne : g9 ≠ g8 := ty_ne HP.out.1 HT.out.1 (by decide)
          have HP2 : Hid ((((V.setCell ⟨g8, 0, none⟩ (.int .i64 (fl : Int))).setCell ⟨g8, 1, none⟩ (.int .i64 (dr : Int))).setCell ⟨g8, 2, none⟩ (.slice at1 nT ct1)).heap[g9]? = some (.cells #[.slice none 0 0, .slice none 0 0] 32 (0, 0)) ∧ V0.heap.size ≤ g9) := ⟨by rw [heap_setCell_other _ _ _ _ hne, heap_setCell_other _ _ _ _ hne, heap_setCell_other _ _ _ _ hne]; exact HP.out.1, HP.out.2⟩
          have HRT2 : Hid ((((V.setCell ⟨g8, 0, none⟩ (.int .i64 (fl : Int))).setCell ⟨g8, 1, none⟩ (.int .i64 (dr : Int))).setCell ⟨g8, 2, none⟩ (.slice at1 nT ct1)).ownsRow w.heap.size 44 5 (.slice at1 nT ct1) nT (ndsC T)) := owns_put3 HT.out.1 (by decide) HRT.out _ _ _
          have HRP2 : Hid ((((V.setCell ⟨g8, 0, none⟩ (.int .i64 (fl : Int))).setCell ⟨g8, 1, none⟩ (.int .i64 (dr : Int))).setCell ⟨g8, 2, none⟩ (.slice at1 nT ct1)).ownsRow w.heap.size 46 4 (.slice ao1 r co1) r (obsC O) ∧ (((V.setCell ⟨g8, 0, none⟩ (.int .i64 (fl : Int))).setCell ⟨g8, 1, none⟩ (.int .i64 (dr : Int))).setCell ⟨g8, 2, none⟩ (.slice at1 nT ct1)).ownsRow w.heap.size 3 1 (.slice (some ⟨gq, 0, none⟩) r1 capq) r1 (zsC LQ)) := ⟨owns_put3 HT.out.1 (by decide) HRP.out.1 _ _ _, owns_put3 HT.out.1 (by decide) HRP.out.2 _ _ _⟩
          refine hK.out _ _ hS2 (fun _ => ?_)
          clear hK K hS q0 q1 q2 f5 hne HT HP HB HRT HRP
          (try simp only [Act.put])
          revert HB2 hS2 HT2 HP2 HRT2 HRP2
          generalize (((V.setCell ⟨g8, 0, none⟩ (.int .i64 (fl : Int))).setCell ⟨g8, 1, none⟩ (.int .i64 (dr : Int))).setCell ⟨g8, 2, none⟩ (.slice at1 nT ct1)) = V2
          intro HB hS HT HP HRT HRP
          revert HB hS HT HP HRT HRP
          generalize V2 = V
          intro HB hS HT HP HRT HRP
          refine wpAnyH_ready (rs := [9]) (by kernel_rfl) (by simp) ?_
          refine AllReadyH.cons (o := { dst := none, op := .store 32 (.tmp 9) (.tmp 30), type := _, pos := _, after := _, guard := none }) rfl (fun K hK => ?_) AllReadyH.nil
          obtain ⟨q0, q1⟩ := cells2 HP.out.1
          have f5 : ∀ j, V.frozen? ⟨g9, j, none⟩ = false := fun j => frozen_of_heap HP.out.1
          go_simp
          have HB2 : Hid (Below V0.heap.size V0 ((V.setCell ⟨g9, 0, none⟩ (.slice ao1 r co1)).setCell ⟨g9, 1, none⟩ (.slice (some ⟨gq, 1, none⟩) nQ cq))) := (HB.out.setCell HP.out.2 _).setCell HP.out.2 _
          have hS2 := HCD.out _ HB2.out
          have hne : g8 ≠ g9 := ty_ne HT.out.1 HP.out.1 (by decide)
          have HT2 : Hid (((V.setCell ⟨g9, 0, none⟩ (.slice ao1 r co1)).setCell ⟨g9, 1, none⟩ (.slice (some ⟨gq, 1, none⟩) nQ cq)).heap[g8]? = some (.cells #[.int .i64 (fl : Int), .int .i64 (dr : Int), .slice at1 nT ct1] 28 (0, 0)) ∧ V0.heap.size ≤ g8) := ⟨by rw [heap_setCell_other _ _ _ _ hne, heap_setCell_other _ _ _ _ hne]; exact HT.out.1, HT.out.2⟩
          have HP2 : Hid (((V.setCell ⟨g9, 0, none⟩ (.slice ao1 r co1)).setCell ⟨g9, 1, none⟩ (.slice (some ⟨gq, 1, none⟩) nQ cq)).heap[g9]? = some (.cells #[.slice ao1 r co1, .slice (some ⟨gq, 1, none⟩) nQ cq] 32 (0, 0)) ∧ V0.heap.size ≤ g9) := ⟨Tr.put2A HP.out.1, HP.out.2⟩
          have HRT2 : Hid (((V.setCell ⟨g9, 0, none⟩ (.slice ao1 r co1)).setCell ⟨g9, 1, none⟩ (.slice (some ⟨gq, 1, none⟩) nQ cq)).ownsRow w.heap.size 44 5 (.slice at1 nT ct1) nT (ndsC T)) := owns_put2 HP.out.1 (by decide) HRT.out _ _
          have HRP2 : Hid (((V.setCell ⟨g9, 0, none⟩ (.slice ao1 r co1)).setCell ⟨g9, 1, none⟩ (.slice (some ⟨gq, 1, none⟩) nQ cq)).ownsRow w.heap.size 46 4 (.slice ao1 r co1) r (obsC O) ∧ ((V.setCell ⟨g9, 0, none⟩ (.slice ao1 r co1)).setCell ⟨g9, 1, none⟩ (.slice (some ⟨gq, 1, none⟩) nQ cq)).ownsRow w.heap.size 3 1 (.slice (some ⟨gq, 0, none⟩) r1 capq) r1 (zsC LQ)) := ⟨owns_put2 HP.out.1 (by decide) HRP.out.1 _ _, owns_put2 HP.out.1 (by decide) HRP.out.2 _ _⟩
          refine hK.out _ _ hS2 (fun _ => ?_)
          clear hK K hS q0 q1 f5 hne HT HP HB HRT HRP
          (try simp only [Act.put])
          revert HB2 hS2 HT2 HP2 HRT2 HRP2
          generalize ((V.setCell ⟨g9, 0, none⟩ (.slice ao1 r co1)).setCell ⟨g9, 1, none⟩ (.slice (some ⟨gq, 1, none⟩) nQ cq)) = V2
          intro HB hS HT HP HRT HRP
          revert HB hS HT HP HRT HRP
          generalize V2 = V
          intro HB hS HT HP HRT HRP
          refine wpAnyH_done (by kernel_rfl) ?_ _
          go_wp2_with fail
          go_meet
          exact ⟨g8, g9, at1, ct1, ao1, co1, gq, capq, cq, rfl, rfl, HCQ.out, ⟨HT.out.1, HP.out.1, HT.out.2, HP.out.2⟩, HRT.out, HRP.out, HB.out⟩
        · go_simp
          have hbA : Below V.heap.size V (V.alloc (.cells #[.int .i64 0, .int .i64 0, .slice none 0 0] 28)) := (Below.refl _ _).alloc (Nat.le_refl _) _
          have HB2 : Hid (Below V0.heap.size V0 (V.alloc (.cells #[.int .i64 0, .int .i64 0, .slice none 0 0] 28))) := below_on hbA HB.out
          have hS2 := HCD.out _ HB2.out
          have HP2 : Hid ((V.alloc (.cells #[.int .i64 0, .int .i64 0, .slice none 0 0] 28)).heap[g9]? = some (.cells #[.slice none 0 0, .slice none 0 0] 32 (0, 0)) ∧ V0.heap.size ≤ g9) := ⟨(hbA.block _ (heap_lt HP.out.1)).trans HP.out.1, HP.out.2⟩
          have HRT2 : Hid ((V.alloc (.cells #[.int .i64 0, .int .i64 0, .slice none 0 0] 28)).ownsRow w.heap.size 44 5 (.slice at1 nT ct1) nT (ndsC T)) := owns_below HRT.out hbA
          have HT2 : Hid ((V.alloc (.cells #[.int .i64 0, .int .i64 0, .slice none 0 0] 28)).heap[V.heap.size]? = some (.cells #[.int .i64 0, .int .i64 0, .slice none 0 0] 28 (0, 0)) ∧ V0.heap.size ≤ V.heap.size) := ⟨heap_new V _, HB.out.size⟩
          refine hK.out _ _ hS2 (fun _ => ?_)
          clear hK K hS HB hbA HP HRT
          (try simp only [Act.put, List.setIfInBounds_toArray, List.set_cons_zero, List.set_cons_succ])
          revert HB2 hS2 HP2 HRT2 HT2
          generalize (V.alloc (.cells #[.int .i64 0, .int .i64 0, .slice none 0 0] 28)) = V2
          generalize V.heap.size = g8
          intro HB hS HP HRT HT
          revert HB hS HP HRT HT
          generalize V2 = V
          intro HB hS HP HRT HT
          refine wpAnyH_ready (rs := [5]) (by kernel_rfl) (by simp) ?_
          refine AllReadyH.cons (o := { dst := some 30, op := .call { callee := .value (.func 27), args := #[.tmp 28, .tmp 29], argTypes := #[23, 9] }, type := _, pos := _, after := _, guard := none }) rfl (fun K hK => ?_) AllReadyH.nil
          go_simp
          refine (KRP.out _ HB.out).mono ?_
          rintro e W2 ⟨ao1, co1, gq, capq, cq, hcq, rfl, ho2, hq2, hbA⟩
          have HCQ : Hid (capq - 1 = cq) := hcq
          clear hcq
          have HB2 : Hid (Below V0.heap.size V0 W2) := below_on hbA HB.out
          have hS2 := HCD.out _ HB2.out
          have HT2 : Hid (W2.heap[g8]? = some (.cells #[.int .i64 0, .int .i64 0, .slice none 0 0] 28 (0, 0)) ∧ V0.heap.size ≤ g8) := ⟨(hbA.block _ (heap_lt HT.out.1)).trans HT.out.1, HT.out.2⟩
          have HP2 : Hid (W2.heap[g9]? = some (.cells #[.slice none 0 0, .slice none 0 0] 32 (0, 0)) ∧ V0.heap.size ≤ g9) := ⟨(hbA.block _ (heap_lt HP.out.1)).trans HP.out.1, HP.out.2⟩
          have HRT2 : Hid (W2.ownsRow w.heap.size 44 5 (.slice at1 nT ct1) nT (ndsC T)) := owns_below HRT.out hbA
          have HRP2 : Hid (W2.ownsRow w.heap.size 46 4 (.slice ao1 r co1) r (obsC O) ∧ W2.ownsRow w.heap.size 3 1 (.slice (some ⟨gq, 0, none⟩) r1 capq) r1 (zsC LQ)) := ⟨owns_base ho2 (HW.out _ HB.out).size, owns_base hq2 (HW.out _ HB.out).size⟩
          refine hK.out _ _ hS2 (fun _ => ?_)
          clear hK K hS HB hbA ho2 hq2 HT HP HRT
          (try simp only [Act.put, List.setIfInBounds_toArray, List.set_cons_zero, List.set_cons_succ])
          revert HB2 hS2 HT2 HP2 HRT2 HRP2
          generalize W2 = V
          intro HB hS HT HP HRT HRP
          refine wpAnyH_ready (rs := [8]) (by kernel_rfl) (by simp) ?_
          refine AllReadyH.cons (o := { dst := none, op := .store 28 (.tmp 8) (.tmp 27), type := _, pos := _, after := _, guard := none }) rfl (fun K hK => ?_) AllReadyH.nil
          obtain ⟨q0, q1, q2⟩ := cells3 HT.out.1
          have f5 : ∀ j, V.frozen? ⟨g8, j, none⟩ = false := fun j => frozen_of_heap HT.out.1
          go_simp
          have HB2 : Hid (Below V0.heap.size V0 (((V.setCell ⟨g8, 0, none⟩ (.int .i64 (fl : Int))).setCell ⟨g8, 1, none⟩ (.int .i64 (dr : Int))).setCell ⟨g8, 2, none⟩ (.slice at1 nT ct1))) := ((HB.out.setCell HT.out.2 _).setCell HT.out.2 _).setCell HT.out.2 _
          have hS2 := HCD.out _ HB2.out
          have HT2 : Hid ((((V.setCell ⟨g8, 0, none⟩ (.int .i64 (fl : Int))).setCell ⟨g8, 1, none⟩ (.int .i64 (dr : Int))).setCell ⟨g8, 2, none⟩ (.slice at1 nT ct1)).heap[g8]? = some (.cells #[.int .i64 (fl : Int), .int .i64 (dr : Int), .slice at1 nT ct1] 28 (0, 0)) ∧ V0.heap.size ≤ g8) := ⟨Tr.put3A HT.out.1, HT.out.2⟩
          have hne : g9 ≠ g8 := ty_ne HP.out.1 HT.out.1 (by decide)
          have HP2 : Hid ((((V.setCell ⟨g8, 0, none⟩ (.int .i64 (fl : Int))).setCell ⟨g8, 1, none⟩ (.int .i64 (dr : Int))).setCell ⟨g8, 2, none⟩ (.slice at1 nT ct1)).heap[g9]? = some (.cells #[.slice none 0 0, .slice none 0 0] 32 (0, 0)) ∧ V0.heap.size ≤ g9) := ⟨by rw [heap_setCell_other _ _ _ _ hne, heap_setCell_other _ _ _ _ hne, heap_setCell_other _ _ _ _ hne]; exact HP.out.1, HP.out.2⟩
          have HRT2 : Hid ((((V.setCell ⟨g8, 0, none⟩ (.int .i64 (fl : Int))).setCell ⟨g8, 1, none⟩ (.int .i64 (dr : Int))).setCell ⟨g8, 2, none⟩ (.slice at1 nT ct1)).ownsRow w.heap.size 44 5 (.slice at1 nT ct1) nT (ndsC T)) := owns_put3 HT.out.1 (by decide) HRT.out _ _ _
          have HRP2 : Hid ((((V.setCell ⟨g8, 0, none⟩ (.int .i64 (fl : Int))).setCell ⟨g8, 1, none⟩ (.int .i64 (dr : Int))).setCell ⟨g8, 2, none⟩ (.slice at1 nT ct1)).ownsRow w.heap.size 46 4 (.slice ao1 r co1) r (obsC O) ∧ (((V.setCell ⟨g8, 0, none⟩ (.int .i64 (fl : Int))).setCell ⟨g8, 1, none⟩ (.int .i64 (dr : Int))).setCell ⟨g8, 2, none⟩ (.slice at1 nT ct1)).ownsRow w.heap.size 3 1 (.slice (some ⟨gq, 0, none⟩) r1 capq) r1 (zsC LQ)) := ⟨owns_put3 HT.out.1 (by decide) HRP.out.1 _ _ _, owns_put3 HT.out.1 (by decide) HRP.out.2 _ _ _⟩
          refine hK.out _ _ hS2 (fun _ => ?_)
          clear hK K hS q0 q1 q2 f5 hne HT HP HB HRT HRP
          (try simp only [Act.put])
          revert HB2 hS2 HT2 HP2 HRT2 HRP2
          generalize (((V.setCell ⟨g8, 0, none⟩ (.int .i64 (fl : Int))).setCell ⟨g8, 1, none⟩ (.int .i64 (dr : Int))).setCell ⟨g8, 2, none⟩ (.slice at1 nT ct1)) = V2
          intro HB hS HT HP HRT HRP
          revert HB hS HT HP HRT HRP
          generalize V2 = V
          intro HB hS HT HP HRT HRP
          refine wpAnyH_ready (rs := [9]) (by kernel_rfl) (by simp) ?_
          refine AllReadyH.cons (o := { dst := none, op := .store 32 (.tmp 9) (.tmp 30), type := _, pos := _, after := _, guard := none }) rfl (fun K hK => ?_) AllReadyH.nil
          obtain ⟨q0, q1⟩ := cells2 HP.out.1
          have f5 : ∀ j, V.frozen? ⟨g9, j, none⟩ = false := fun j => frozen_of_heap HP.out.1
          go_simp
          have HB2 : Hid (Below V0.heap.size V0 ((V.setCell ⟨g9, 0, none⟩ (.slice ao1 r co1)).setCell ⟨g9, 1, none⟩ (.slice (some ⟨gq, 1, none⟩) nQ cq))) := (HB.out.setCell HP.out.2 _).setCell HP.out.2 _
          have hS2 := HCD.out _ HB2.out
          have hne : g8 ≠ g9 := ty_ne HT.out.1 HP.out.1 (by decide)
          have HT2 : Hid (((V.setCell ⟨g9, 0, none⟩ (.slice ao1 r co1)).setCell ⟨g9, 1, none⟩ (.slice (some ⟨gq, 1, none⟩) nQ cq)).heap[g8]? = some (.cells #[.int .i64 (fl : Int), .int .i64 (dr : Int), .slice at1 nT ct1] 28 (0, 0)) ∧ V0.heap.size ≤ g8) := ⟨by rw [heap_setCell_other _ _ _ _ hne, heap_setCell_other _ _ _ _ hne]; exact HT.out.1, HT.out.2⟩
          have HP2 : Hid (((V.setCell ⟨g9, 0, none⟩ (.slice ao1 r co1)).setCell ⟨g9, 1, none⟩ (.slice (some ⟨gq, 1, none⟩) nQ cq)).heap[g9]? = some (.cells #[.slice ao1 r co1, .slice (some ⟨gq, 1, none⟩) nQ cq] 32 (0, 0)) ∧ V0.heap.size ≤ g9) := ⟨Tr.put2A HP.out.1, HP.out.2⟩
          have HRT2 : Hid (((V.setCell ⟨g9, 0, none⟩ (.slice ao1 r co1)).setCell ⟨g9, 1, none⟩ (.slice (some ⟨gq, 1, none⟩) nQ cq)).ownsRow w.heap.size 44 5 (.slice at1 nT ct1) nT (ndsC T)) := owns_put2 HP.out.1 (by decide) HRT.out _ _
          have HRP2 : Hid (((V.setCell ⟨g9, 0, none⟩ (.slice ao1 r co1)).setCell ⟨g9, 1, none⟩ (.slice (some ⟨gq, 1, none⟩) nQ cq)).ownsRow w.heap.size 46 4 (.slice ao1 r co1) r (obsC O) ∧ ((V.setCell ⟨g9, 0, none⟩ (.slice ao1 r co1)).setCell ⟨g9, 1, none⟩ (.slice (some ⟨gq, 1, none⟩) nQ cq)).ownsRow w.heap.size 3 1 (.slice (some ⟨gq, 0, none⟩) r1 capq) r1 (zsC LQ)) := ⟨owns_put2 HP.out.1 (by decide) HRP.out.1 _ _, owns_put2 HP.out.1 (by decide) HRP.out.2 _ _⟩
          refine hK.out _ _ hS2 (fun _ => ?_)
          clear hK K hS q0 q1 f5 hne HT HP HB HRT HRP
          (try simp only [Act.put])
          revert HB2 hS2 HT2 HP2 HRT2 HRP2
          generalize ((V.setCell ⟨g9, 0, none⟩ (.slice ao1 r co1)).setCell ⟨g9, 1, none⟩ (.slice (some ⟨gq, 1, none⟩) nQ cq)) = V2
          intro HB hS HT HP HRT HRP
          revert HB hS HT HP HRT HRP
          generalize V2 = V
          intro HB hS HT HP HRT HRP
          refine wpAnyH_done (by kernel_rfl) ?_ _
          go_wp2_with fail
          go_meet
          exact ⟨g8, g9, at1, ct1, ao1, co1, gq, capq, cq, rfl, rfl, HCQ.out, ⟨HT.out.1, HP.out.1, HT.out.2, HP.out.2⟩, HRT.out, HRP.out, HB.out⟩
    · go_simp
      have hbA : Below V.heap.size V (V.alloc (.cells #[.int .i64 0, .int .i64 0, .slice none 0 0] 28)) := (Below.refl _ _).alloc (Nat.le_refl _) _
      have HB2 : Hid (Below V0.heap.size V0 (V.alloc (.cells #[.int .i64 0, .int .i64 0, .slice none 0 0] 28))) := below_on hbA HB.out
      have hS2 := HCD.out _ HB2.out
      have HT2 : Hid ((V.alloc (.cells #[.int .i64 0, .int .i64 0, .slice none 0 0] 28)).heap[V.heap.size]? = some (.cells #[.int .i64 0, .int .i64 0, .slice none 0 0] 28 (0, 0)) ∧ V0.heap.size ≤ V.heap.size) := ⟨heap_new V _, HB.out.size⟩
      refine hK.out _ _ hS2 (fun _ => ?_)
      clear hK K hS HB hbA 
      (try simp only [Act.put, List.setIfInBounds_toArray, List.set_cons_zero, List.set_cons_succ])
      revert HB2 hS2 HT2
      generalize (V.alloc (.cells #[.int .i64 0, .int .i64 0, .slice none 0 0] 28)) = V2
      generalize V.heap.size = g8
      intro HB hS HT
      revert HB hS HT
      generalize V2 = V
      intro HB hS HT
      refine wpAnyH_ready (rs := [2, 7]) (by kernel_rfl) (by simp) ?_
      refine AllReadyH.cons (o := { dst := some 27, op := .call { callee := .value (.func 26), args := #[.tmp 25, .tmp 26], argTypes := #[23, 9] }, type := _, pos := _, after := _, guard := none }) rfl (fun K hK => ?_) (AllReadyH.cons (o := { dst := some 9, op := .alloc 32, type := _, pos := _, after := _, guard := none }) rfl (fun K hK => ?_) AllReadyH.nil)
      · go_simp
        refine (KRT.out _ HB.out).mono ?_
        rintro e W2 ⟨at1, ct1, rfl, ho2, hbA⟩
        have HB2 : Hid (Below V0.heap.size V0 W2) := below_on hbA HB.out
        have hS2 := HCD.out _ HB2.out
        have HT2 : Hid (W2.heap[g8]? = some (.cells #[.int .i64 0, .int .i64 0, .slice none 0 0] 28 (0, 0)) ∧ V0.heap.size ≤ g8) := ⟨(hbA.block _ (heap_lt HT.out.1)).trans HT.out.1, HT.out.2⟩
        have HRT2 : Hid (W2.ownsRow w.heap.size 44 5 (.slice at1 nT ct1) nT (ndsC T)) := owns_base ho2 (HW.out _ HB.out).size
        refine hK.out _ _ hS2 (fun _ => ?_)
        clear hK K hS HB hbA ho2 HT
        (try simp only [Act.put, List.setIfInBounds_toArray, List.set_cons_zero, List.set_cons_succ])
        revert HB2 hS2 HT2 HRT2
        generalize W2 = V
        intro HB hS HT HRT
        refine wpAnyH_ready (rs := [5, 7]) (by kernel_rfl) (by simp) ?_
        refine AllReadyH.cons (o := { dst := some 30, op := .call { callee := .value (.func 27), args := #[.tmp 28, .tmp 29], argTypes := #[23, 9] }, type := _, pos := _, after := _, guard := none }) rfl (fun K hK => ?_) (AllReadyH.cons (o := { dst := some 9, op := .alloc 32, type := _, pos := _, after := _, guard := none }) rfl (fun K hK => ?_) AllReadyH.nil)
        · go_simp
          refine (KRP.out _ HB.out).mono ?_
          rintro e W2 ⟨ao1, co1, gq, capq, cq, hcq, rfl, ho2, hq2, hbA⟩
          have HCQ : Hid (capq - 1 = cq) := hcq
          clear hcq
          have HB2 : Hid (Below V0.heap.size V0 W2) := below_on hbA HB.out
          have hS2 := HCD.out _ HB2.out
          have HT2 : Hid (W2.heap[g8]? = some (.cells #[.int .i64 0, .int .i64 0, .slice none 0 0] 28 (0, 0)) ∧ V0.heap.size ≤ g8) := ⟨(hbA.block _ (heap_lt HT.out.1)).trans HT.out.1, HT.out.2⟩
          have HRT2 : Hid (W2.ownsRow w.heap.size 44 5 (.slice at1 nT ct1) nT (ndsC T)) := owns_below HRT.out hbA
          have HRP2 : Hid (W2.ownsRow w.heap.size 46 4 (.slice ao1 r co1) r (obsC O) ∧ W2.ownsRow w.heap.size 3 1 (.slice (some ⟨gq, 0, none⟩) r1 capq) r1 (zsC LQ)) := ⟨owns_base ho2 (HW.out _ HB.out).size, owns_base hq2 (HW.out _ HB.out).size⟩
          refine hK.out _ _ hS2 (fun _ => ?_)
          clear hK K hS HB hbA ho2 hq2 HT HRT
          (try simp only [Act.put, List.setIfInBounds_toArray, List.set_cons_zero, List.set_cons_succ])
          revert HB2 hS2 HT2 HRT2 HRP2
          generalize W2 = V
          intro HB hS HT HRT HRP
          refine wpAnyH_ready (rs := [7]) (by kernel_rfl) (by simp) ?_
          refine AllReadyH.cons (o := { dst := some 9, op := .alloc 32, type := _, pos := _, after := _, guard := none }) rfl (fun K hK => ?_) AllReadyH.nil
          go_simp
          have hbA : Below V.heap.size V (V.alloc (.cells #[.slice none 0 0, .slice none 0 0] 32)) := (Below.refl _ _).alloc (Nat.le_refl _) _
          have HB2 : Hid (Below V0.heap.size V0 (V.alloc (.cells #[.slice none 0 0, .slice none 0 0] 32))) := below_on hbA HB.out
          have hS2 := HCD.out _ HB2.out
          have HT2 : Hid ((V.alloc (.cells #[.slice none 0 0, .slice none 0 0] 32)).heap[g8]? = some (.cells #[.int .i64 0, .int .i64 0, .slice none 0 0] 28 (0, 0)) ∧ V0.heap.size ≤ g8) := ⟨(hbA.block _ (heap_lt HT.out.1)).trans HT.out.1, HT.out.2⟩
          have HRT2 : Hid ((V.alloc (.cells #[.slice none 0 0, .slice none 0 0] 32)).ownsRow w.heap.size 44 5 (.slice at1 nT ct1) nT (ndsC T)) := owns_below HRT.out hbA
          have HRP2 : Hid ((V.alloc (.cells #[.slice none 0 0, .slice none 0 0] 32)).ownsRow w.heap.size 46 4 (.slice ao1 r co1) r (obsC O) ∧ (V.alloc (.cells #[.slice none 0 0, .slice none 0 0] 32)).ownsRow w.heap.size 3 1 (.slice (some ⟨gq, 0, none⟩) r1 capq) r1 (zsC LQ)) := ⟨owns_below HRP.out.1 hbA, owns_below HRP.out.2 hbA⟩
          have HP2 : Hid ((V.alloc (.cells #[.slice none 0 0, .slice none 0 0] 32)).heap[V.heap.size]? = some (.cells #[.slice none 0 0, .slice none 0 0] 32 (0, 0)) ∧ V0.heap.size ≤ V.heap.size) := ⟨heap_new V _, HB.out.size⟩
          refine hK.out _ _ hS2 (fun _ => ?_)
          clear hK K hS HB hbA HT HRT HRP
          (try simp only [Act.put, List.setIfInBounds_toArray, List.set_cons_zero, List.set_cons_succ])
          revert HB2 hS2 HT2 HRT2 HRP2 HP2
          generalize (V.alloc (.cells #[.slice none 0 0, .slice none 0 0] 32)) = V2
          generalize V.heap.size = g9
          intro HB hS HT HRT HRP HP
          revert HB hS HT HRT HRP HP
          generalize V2 = V
          intro HB hS HT HRT HRP HP
          refine wpAnyH_ready (rs := [8]) (by kernel_rfl) (by simp) ?_
          refine AllReadyH.cons (o := { dst := none, op := .store 28 (.tmp 8) (.tmp 27), type := _, pos := _, after := _, guard := none }) rfl (fun K hK => ?_) AllReadyH.nil
          obtain ⟨q0, q1, q2⟩ := cells3 HT.out.1
          have f5 : ∀ j, V.frozen? ⟨g8, j, none⟩ = false := fun j => frozen_of_heap HT.out.1
          go_simp
          have HB2 : Hid (Below V0.heap.size V0 (((V.setCell ⟨g8, 0, none⟩ (.int .i64 (fl : Int))).setCell ⟨g8, 1, none⟩ (.int .i64 (dr : Int))).setCell ⟨g8, 2, none⟩ (.slice at1 nT ct1))) := ((HB.out.setCell HT.out.2 _).setCell HT.out.2 _).setCell HT.out.2 _
          have hS2 := HCD.out _ HB2.out
          have HT2 : Hid ((((V.setCell ⟨g8, 0, none⟩ (.int .i64 (fl : Int))).setCell ⟨g8, 1, none⟩ (.int .i64 (dr : Int))).setCell ⟨g8, 2, none⟩ (.slice at1 nT ct1)).heap[g8]? = some (.cells #[.int .i64 (fl : Int), .int .i64 (dr : Int), .slice at1 nT ct1] 28 (0, 0)) ∧ V0.heap.size ≤ g8) := ⟨Tr.put3A HT.out.1, HT.out.2⟩
          have hne : g9 ≠ g8 := ty_ne HP.out.1 HT.out.1 (by decide)
          have HP2 : Hid ((((V.setCell ⟨g8, 0, none⟩ (.int .i64 (fl : Int))).setCell ⟨g8, 1, none⟩ (.int .i64 (dr : Int))).setCell ⟨g8, 2, none⟩ (.slice at1 nT ct1)).heap[g9]? = some (.cells #[.slice none 0 0, .slice none 0 0] 32 (0, 0)) ∧ V0.heap.size ≤ g9) := ⟨by rw [heap_setCell_other _ _ _ _ hne, heap_setCell_other _ _ _ _ hne, heap_setCell_other _ _ _ _ hne]; exact HP.out.1, HP.out.2⟩
          have HRT2 : Hid ((((V.setCell ⟨g8, 0, none⟩ (.int .i64 (fl : Int))).setCell ⟨g8, 1, none⟩ (.int .i64 (dr : Int))).setCell ⟨g8, 2, none⟩ (.slice at1 nT ct1)).ownsRow w.heap.size 44 5 (.slice at1 nT ct1) nT (ndsC T)) := owns_put3 HT.out.1 (by decide) HRT.out _ _ _
          have HRP2 : Hid ((((V.setCell ⟨g8, 0, none⟩ (.int .i64 (fl : Int))).setCell ⟨g8, 1, none⟩ (.int .i64 (dr : Int))).setCell ⟨g8, 2, none⟩ (.slice at1 nT ct1)).ownsRow w.heap.size 46 4 (.slice ao1 r co1) r (obsC O) ∧ (((V.setCell ⟨g8, 0, none⟩ (.int .i64 (fl : Int))).setCell ⟨g8, 1, none⟩ (.int .i64 (dr : Int))).setCell ⟨g8, 2, none⟩ (.slice at1 nT ct1)).ownsRow w.heap.size 3 1 (.slice (some ⟨gq, 0, none⟩) r1 capq) r1 (zsC LQ)) := ⟨owns_put3 HT.out.1 (by decide) HRP.out.1 _ _ _, owns_put3 HT.out.1 (by decide) HRP.out.2 _ _ _⟩
          refine hK.out _ _ hS2 (fun _ => ?_)
          clear hK K hS q0 q1 q2 f5 hne HT HP HB HRT HRP
          (try simp only [Act.put])
          revert HB2 hS2 HT2 HP2 HRT2 HRP2
          generalize (((V.setCell ⟨g8, 0, none⟩ (.int .i64 (fl : Int))).setCell ⟨g8, 1, none⟩ (.int .i64 (dr : Int))).setCell ⟨g8, 2, none⟩ (.slice at1 nT ct1)) = V2
          intro HB hS HT HP HRT HRP
          revert HB hS HT HP HRT HRP
          generalize V2 = V
          intro HB hS HT HP HRT HRP
          refine wpAnyH_ready (rs := [9]) (by kernel_rfl) (by simp) ?_
          refine AllReadyH.cons (o := { dst := none, op := .store 32 (.tmp 9) (.tmp 30), type := _, pos := _, after := _, guard := none }) rfl (fun K hK => ?_) AllReadyH.nil
          obtain ⟨q0, q1⟩ := cells2 HP.out.1
          have f5 : ∀ j, V.frozen? ⟨g9, j, none⟩ = false := fun j => frozen_of_heap HP.out.1
          go_simp
          have HB2 : Hid (Below V0.heap.size V0 ((V.setCell ⟨g9, 0, none⟩ (.slice ao1 r co1)).setCell ⟨g9, 1, none⟩ (.slice (some ⟨gq, 1, none⟩) nQ cq))) := (HB.out.setCell HP.out.2 _).setCell HP.out.2 _
          have hS2 := HCD.out _ HB2.out
          have hne : g8 ≠ g9 := ty_ne HT.out.1 HP.out.1 (by decide)
          have HT2 : Hid (((V.setCell ⟨g9, 0, none⟩ (.slice ao1 r co1)).setCell ⟨g9, 1, none⟩ (.slice (some ⟨gq, 1, none⟩) nQ cq)).heap[g8]? = some (.cells #[.int .i64 (fl : Int), .int .i64 (dr : Int), .slice at1 nT ct1] 28 (0, 0)) ∧ V0.heap.size ≤ g8) := ⟨by rw [heap_setCell_other _ _ _ _ hne, heap_setCell_other _ _ _ _ hne]; exact HT.out.1, HT.out.2⟩
          have HP2 : Hid (((V.setCell ⟨g9, 0, none⟩ (.slice ao1 r co1)).setCell ⟨g9, 1, none⟩ (.slice (some ⟨gq, 1, none⟩) nQ cq)).heap[g9]? = some (.cells #[.slice ao1 r co1, .slice (some ⟨gq, 1, none⟩) nQ cq] 32 (0, 0)) ∧ V0.heap.size ≤ g9) := ⟨Tr.put2A HP.out.1, HP.out.2⟩
          have HRT2 : Hid (((V.setCell ⟨g9, 0, none⟩ (.slice ao1 r co1)).setCell ⟨g9, 1, none⟩ (.slice (some ⟨gq, 1, none⟩) nQ cq)).ownsRow w.heap.size 44 5 (.slice at1 nT ct1) nT (ndsC T)) := owns_put2 HP.out.1 (by decide) HRT.out _ _
          have HRP2 : Hid (((V.setCell ⟨g9, 0, none⟩ (.slice ao1 r co1)).setCell ⟨g9, 1, none⟩ (.slice (some ⟨gq, 1, none⟩) nQ cq)).ownsRow w.heap.size 46 4 (.slice ao1 r co1) r (obsC O) ∧ ((V.setCell ⟨g9, 0, none⟩ (.slice ao1 r co1)).setCell ⟨g9, 1, none⟩ (.slice (some ⟨gq, 1, none⟩) nQ cq)).ownsRow w.heap.size 3 1 (.slice (some ⟨gq, 0, none⟩) r1 capq) r1 (zsC LQ)) := ⟨owns_put2 HP.out.1 (by decide) HRP.out.1 _ _, owns_put2 HP.out.1 (by decide) HRP.out.2 _ _⟩
          refine hK.out _ _ hS2 (fun _ => ?_)
          clear hK K hS q0 q1 f5 hne HT HP HB HRT HRP
          (try simp only [Act.put])
          revert HB2 hS2 HT2 HP2 HRT2 HRP2
          generalize ((V.setCell ⟨g9, 0, none⟩ (.slice ao1 r co1)).setCell ⟨g9, 1, none⟩ (.slice (some ⟨gq, 1, none⟩) nQ cq)) = V2
          intro HB hS HT HP HRT HRP
          revert HB hS HT HP HRT HRP
          generalize V2 = V
          intro HB hS HT HP HRT HRP
          refine wpAnyH_done (by kernel_rfl) ?_ _
          go_wp2_with fail
          go_meet
          exact ⟨g8, g9, at1, ct1, ao1, co1, gq, capq, cq, rfl, rfl, HCQ.out, ⟨HT.out.1, HP.out.1, HT.out.2, HP.out.2⟩, HRT.out, HRP.out, HB.out⟩
        · go_simp
          have hbA : Below V.heap.size V (V.alloc (.cells #[.slice none 0 0, .slice none 0 0] 32)) := (Below.refl _ _).alloc (Nat.le_refl _) _
          have HB2 : Hid (Below V0.heap.size V0 (V.alloc (.cells #[.slice none 0 0, .slice none 0 0] 32))) := below_on hbA HB.out
          have hS2 := HCD.out _ HB2.out
          have HT2 : Hid ((V.alloc (.cells #[.slice none 0 0, .slice none 0 0] 32)).heap[g8]? = some (.cells #[.int .i64 0, .int .i64 0, .slice none 0 0] 28 (0, 0)) ∧ V0.heap.size ≤ g8) := ⟨(hbA.block _ (heap_lt HT.out.1)).trans HT.out.1, HT.out.2⟩
          have HRT2 : Hid ((V.alloc (.cells #[.slice none 0 0, .slice none 0 0] 32)).ownsRow w.heap.size 44 5 (.slice at1 nT ct1) nT (ndsC T)) := owns_below HRT.out hbA
          have HP2 : Hid ((V.alloc (.cells #[.slice none 0 0, .slice none 0 0] 32)).heap[V.heap.size]? = some (.cells #[.slice none 0 0, .slice none 0 0] 32 (0, 0)) ∧ V0.heap.size ≤ V.heap.size) := ⟨heap_new V _, HB.out.size⟩
          refine hK.out _ _ hS2 (fun _ => ?_)
          clear hK K hS HB hbA HT HRT
          (try simp only [Act.put, List.setIfInBounds_toArray, List.set_cons_zero, List.set_cons_succ])
          revert HB2 hS2 HT2 HRT2 HP2
          generalize (V.alloc (.cells #[.slice none 0 0, .slice none 0 0] 32)) = V2
          generalize V.heap.size = g9
          intro HB hS HT HRT HP
          revert HB hS HT HRT HP
          generalize V2 = V
          intro HB hS HT HRT HP
          refine wpAnyH_ready (rs := [5]) (by kernel_rfl) (by simp) ?_
          refine AllReadyH.cons (o := { dst := some 30, op := .call { callee := .value (.func 27), args := #[.tmp 28, .tmp 29], argTypes := #[23, 9] }, type := _, pos := _, after := _, guard := none }) rfl (fun K hK => ?_) AllReadyH.nil
          go_simp
          refine (KRP.out _ HB.out).mono ?_
          rintro e W2 ⟨ao1, co1, gq, capq, cq, hcq, rfl, ho2, hq2, hbA⟩
          have HCQ : Hid (capq - 1 = cq) := hcq
          clear hcq
          have HB2 : Hid (Below V0.heap.size V0 W2) := below_on hbA HB.out
          have hS2 := HCD.out _ HB2.out
          have HT2 : Hid (W2.heap[g8]? = some (.cells #[.int .i64 0, .int .i64 0, .slice none 0 0] 28 (0, 0)) ∧ V0.heap.size ≤ g8) := ⟨(hbA.block _ (heap_lt HT.out.1)).trans HT.out.1, HT.out.2⟩
          have HP2 : Hid (W2.heap[g9]? = some (.cells #[.slice none 0 0, .slice none 0 0] 32 (0, 0)) ∧ V0.heap.size ≤ g9) := ⟨(hbA.block _ (heap_lt HP.out.1)).trans HP.out.1, HP.out.2⟩
          have HRT2 : Hid (W2.ownsRow w.heap.size 44 5 (.slice at1 nT ct1) nT (ndsC T)) := owns_below HRT.out hbA
          have HRP2 : Hid (W2.ownsRow w.heap.size 46 4 (.slice ao1 r co1) r (obsC O) ∧ W2.ownsRow w.heap.size 3 1 (.slice (some ⟨gq, 0, none⟩) r1 capq) r1 (zsC LQ)) := ⟨owns_base ho2 (HW.out _ HB.out).size, owns_base hq2 (HW.out _ HB.out).size⟩
          refine hK.out _ _ hS2 (fun _ => ?_)
          clear hK K hS HB hbA ho2 hq2 HT HP HRT
          (try simp only [Act.put, List.setIfInBounds_toArray, List.set_cons_zero, List.set_cons_succ])
          revert HB2 hS2 HT2 HP2 HRT2 HRP2
          generalize W2 = V
          intro HB hS HT HP HRT HRP
          refine wpAnyH_ready (rs := [8]) (by kernel_rfl) (by simp) ?_
          refine AllReadyH.cons (o := { dst := none, op := .store 28 (.tmp 8) (.tmp 27), type := _, pos := _, after := _, guard := none }) rfl (fun K hK => ?_) AllReadyH.nil
          obtain ⟨q0, q1, q2⟩ := cells3 HT.out.1
          have f5 : ∀ j, V.frozen? ⟨g8, j, none⟩ = false := fun j => frozen_of_heap HT.out.1
          go_simp
          have HB2 : Hid (Below V0.heap.size V0 (((V.setCell ⟨g8, 0, none⟩ (.int .i64 (fl : Int))).setCell ⟨g8, 1, none⟩ (.int .i64 (dr : Int))).setCell ⟨g8, 2, none⟩ (.slice at1 nT ct1))) := ((HB.out.setCell HT.out.2 _).setCell HT.out.2 _).setCell HT.out.2 _
          have hS2 := HCD.out _ HB2.out
          have HT2 : Hid ((((V.setCell ⟨g8, 0, none⟩ (.int .i64 (fl : Int))).setCell ⟨g8, 1, none⟩ (.int .i64 (dr : Int))).setCell ⟨g8, 2, none⟩ (.slice at1 nT ct1)).heap[g8]? = some (.cells #[.int .i64 (fl : Int), .int .i64 (dr : Int), .slice at1 nT ct1] 28 (0, 0)) ∧ V0.heap.size ≤ g8) := ⟨Tr.put3A HT.out.1, HT.out.2⟩
          have hne : g9 ≠ g8 := ty_ne HP.out.1 HT.out.1 (by decide)
          have HP2 : Hid ((((V.setCell ⟨g8, 0, none⟩ (.int .i64 (fl : Int))).setCell ⟨g8, 1, none⟩ (.int .i64 (dr : Int))).setCell ⟨g8, 2, none⟩ (.slice at1 nT ct1)).heap[g9]? = some (.cells #[.slice none 0 0, .slice none 0 0] 32 (0, 0)) ∧ V0.heap.size ≤ g9) := ⟨by rw [heap_setCell_other _ _ _ _ hne, heap_setCell_other _ _ _ _ hne, heap_setCell_other _ _ _ _ hne]; exact HP.out.1, HP.out.2⟩
          have HRT2 : Hid ((((V.setCell ⟨g8, 0, none⟩ (.int .i64 (fl : Int))).setCell ⟨g8, 1, none⟩ (.int .i64 (dr : Int))).setCell ⟨g8, 2, none⟩ (.slice at1 nT ct1)).ownsRow w.heap.size 44 5 (.slice at1 nT ct1) nT (ndsC T)) := owns_put3 HT.out.1 (by decide) HRT.out _ _ _
          have HRP2 : Hid ((((V.setCell ⟨g8, 0, none⟩ (.int .i64 (fl : Int))).setCell ⟨g8, 1, none⟩ (.int .i64 (dr : Int))).setCell ⟨g8, 2, none⟩ (.slice at1 nT ct1)).ownsRow w.heap.size 46 4 (.slice ao1 r co1) r (obsC O) ∧ (((V.setCell ⟨g8, 0, none⟩ (.int .i64 (fl : Int))).setCell ⟨g8, 1, none⟩ (.int .i64 (dr : Int))).setCell ⟨g8, 2, none⟩ (.slice at1 nT ct1)).ownsRow w.heap.size 3 1 (.slice (some ⟨gq, 0, none⟩) r1 capq) r1 (zsC LQ)) := ⟨owns_put3 HT.out.1 (by decide) HRP.out.1 _ _ _, owns_put3 HT.out.1 (by decide) HRP.out.2 _ _ _⟩
          refine hK.out _ _ hS2 (fun _ => ?_)
          clear hK K hS q0 q1 q2 f5 hne HT HP HB HRT HRP
          (try simp only [Act.put])
          revert HB2 hS2 HT2 HP2 HRT2 HRP2
          generalize (((V.setCell ⟨g8, 0, none⟩ (.int .i64 (fl : Int))).setCell ⟨g8, 1, none⟩ (.int .i64 (dr : Int))).setCell ⟨g8, 2, none⟩ (.slice at1 nT ct1)) = V2
          intro HB hS HT HP HRT HRP
          revert HB hS HT HP HRT HRP
          generalize V2 = V
          intro HB hS HT HP HRT HRP
          refine wpAnyH_ready (rs := [9]) (by kernel_rfl) (by simp) ?_
          refine AllReadyH.cons (o := { dst := none, op := .store 32 (.tmp 9) (.tmp 30), type := _, pos := _, after := _, guard := none }) rfl (fun K hK => ?_) AllReadyH.nil
          obtain ⟨q0, q1⟩ := cells2 HP.out.1
          have f5 : ∀ j, V.frozen? ⟨g9, j, none⟩ = false := fun j => frozen_of_heap HP.out.1
          go_simp
          have HB2 : Hid (Below V0.heap.size V0 ((V.setCell ⟨g9, 0, none⟩ (.slice ao1 r co1)).setCell ⟨g9, 1, none⟩ (.slice (some ⟨gq, 1, none⟩) nQ cq))) := (HB.out.setCell HP.out.2 _).setCell HP.out.2 _
          have hS2 := HCD.out _ HB2.out
          have hne : g8 ≠ g9 := ty_ne HT.out.1 HP.out.1 (by decide)
          have HT2 : Hid (((V.setCell ⟨g9, 0, none⟩ (.slice ao1 r co1)).setCell ⟨g9, 1, none⟩ (.slice (some ⟨gq, 1, none⟩) nQ cq)).heap[g8]? = some (.cells #[.int .i64 (fl : Int), .int .i64 (dr : Int), .slice at1 nT ct1] 28 (0, 0)) ∧ V0.heap.size ≤ g8) := ⟨by rw [heap_setCell_other _ _ _ _ hne, heap_setCell_other _ _ _ _ hne]; exact HT.out.1, HT.out.2⟩
          have HP2 : Hid (((V.setCell ⟨g9, 0, none⟩ (.slice ao1 r co1)).setCell ⟨g9, 1, none⟩ (.slice (some ⟨gq, 1, none⟩) nQ cq)).heap[g9]? = some (.cells #[.slice ao1 r co1, .slice (some ⟨gq, 1, none⟩) nQ cq] 32 (0, 0)) ∧ V0.heap.size ≤ g9) := ⟨Tr.put2A HP.out.1, HP.out.2⟩
          have HRT2 : Hid (((V.setCell ⟨g9, 0, none⟩ (.slice ao1 r co1)).setCell ⟨g9, 1, none⟩ (.slice (some ⟨gq, 1, none⟩) nQ cq)).ownsRow w.heap.size 44 5 (.slice at1 nT ct1) nT (ndsC T)) := owns_put2 HP.out.1 (by decide) HRT.out _ _
          have HRP2 : Hid (((V.setCell ⟨g9, 0, none⟩ (.slice ao1 r co1)).setCell ⟨g9, 1, none⟩ (.slice (some ⟨gq, 1, none⟩) nQ cq)).ownsRow w.heap.size 46 4 (.slice ao1 r co1) r (obsC O) ∧ ((V.setCell ⟨g9, 0, none⟩ (.slice ao1 r co1)).setCell ⟨g9, 1, none⟩ (.slice (some ⟨gq, 1, none⟩) nQ cq)).ownsRow w.heap.size 3 1 (.slice (some ⟨gq, 0, none⟩) r1 capq) r1 (zsC LQ)) := ⟨owns_put2 HP.out.1 (by decide) HRP.out.1 _ _, owns_put2 HP.out.1 (by decide) HRP.out.2 _ _⟩
          refine hK.out _ _ hS2 (fun _ => ?_)
          clear hK K hS q0 q1 f5 hne HT HP HB HRT HRP
          (try simp only [Act.put])
          revert HB2 hS2 HT2 HP2 HRT2 HRP2
          generalize ((V.setCell ⟨g9, 0, none⟩ (.slice ao1 r co1)).setCell ⟨g9, 1, none⟩ (.slice (some ⟨gq, 1, none⟩) nQ cq)) = V2
          intro HB hS HT HP HRT HRP
          revert HB hS HT HP HRT HRP
          generalize V2 = V
          intro HB hS HT HP HRT HRP
          refine wpAnyH_done (by kernel_rfl) ?_ _
          go_wp2_with fail
          go_meet
          exact ⟨g8, g9, at1, ct1, ao1, co1, gq, capq, cq, rfl, rfl, HCQ.out, ⟨HT.out.1, HP.out.1, HT.out.2, HP.out.2⟩, HRT.out, HRP.out, HB.out⟩
      · go_simp
        have hbA : Below V.heap.size V (V.alloc (.cells #[.slice none 0 0, .slice none 0 0] 32)) := (Below.refl _ _).alloc (Nat.le_refl _) _
        have HB2 : Hid (Below V0.heap.size V0 (V.alloc (.cells #[.slice none 0 0, .slice none 0 0] 32))) := below_on hbA HB.out
        have hS2 := HCD.out _ HB2.out
        have HT2 : Hid ((V.alloc (.cells #[.slice none 0 0, .slice none 0 0] 32)).heap[g8]? = some (.cells #[.int .i64 0, .int .i64 0, .slice none 0 0] 28 (0, 0)) ∧ V0.heap.size ≤ g8) := ⟨(hbA.block _ (heap_lt HT.out.1)).trans HT.out.1, HT.out.2⟩
        have HP2 : Hid ((V.alloc (.cells #[.slice none 0 0, .slice none 0 0] 32)).heap[V.heap.size]? = some (.cells #[.slice none 0 0, .slice none 0 0] 32 (0, 0)) ∧ V0.heap.size ≤ V.heap.size) := ⟨heap_new V _, HB.out.size⟩
        refine hK.out _ _ hS2 (fun _ => ?_)
        clear hK K hS HB hbA HT
        (try simp only [Act.put, List.setIfInBounds_toArray, List.set_cons_zero, List.set_cons_succ])
        revert HB2 hS2 HT2 HP2
        generalize (V.alloc (.cells #[.slice none 0 0, .slice none 0 0] 32)) = V2
        generalize V.heap.size = g9
        intro HB hS HT HP
        revert HB hS HT HP
        generalize V2 = V
        intro HB hS HT HP
        refine wpAnyH_ready (rs := [2]) (by kernel_rfl) (by simp) ?_
        refine AllReadyH.cons (o := { dst := some 27, op := .call { callee := .value (.func 26), args := #[.tmp 25, .tmp 26], argTypes := #[23, 9] }, type := _, pos := _, after := _, guard := none }) rfl (fun K hK => ?_) AllReadyH.nil
        go_simp
        refine (KRT.out _ HB.out).mono ?_
        rintro e W2 ⟨at1, ct1, rfl, ho2, hbA⟩
        have HB2 : Hid (Below V0.heap.size V0 W2) := below_on hbA HB.out
        have hS2 := HCD.out _ HB2.out
        have HT2 : Hid (W2.heap[g8]? = some (.cells #[.int .i64 0, .int .i64 0, .slice none 0 0] 28 (0, 0)) ∧ V0.heap.size ≤ g8) := ⟨(hbA.block _ (heap_lt HT.out.1)).trans HT.out.1, HT.out.2⟩
        have HP2 : Hid (W2.heap[g9]? = some (.cells #[.slice none 0 0, .slice none 0 0] 32 (0, 0)) ∧ V0.heap.size ≤ g9) := ⟨(hbA.block _ (heap_lt HP.out.1)).trans HP.out.1, HP.out.2⟩
        have HRT2 : Hid (W2.ownsRow w.heap.size 44 5 (.slice at1 nT ct1) nT (ndsC T)) := owns_base ho2 (HW.out _ HB.out).size
        refine hK.out _ _ hS2 (fun _ => ?_)
        clear hK K hS HB hbA ho2 HT HP
        (try simp only [Act.put, List.setIfInBounds_toArray, List.set_cons_zero, List.set_cons_succ])
        revert HB2 hS2 HT2 HP2 HRT2
        generalize W2 = V
        intro HB hS HT HP HRT
        refine wpAnyH_ready (rs := [5]) (by kernel_rfl) (by simp) ?_
        refine AllReadyH.cons (o := { dst := some 30, op := .call { callee := .value (.func 27), args := #[.tmp 28, .tmp 29], argTypes := #[23, 9] }, type := _, pos := _, after := _, guard := none }) rfl (fun K hK => ?_) AllReadyH.nil
        go_simp
        refine (KRP.out _ HB.out).mono ?_
        rintro e W2 ⟨ao1, co1, gq, capq, cq, hcq, rfl, ho2, hq2, hbA⟩
        have HCQ : Hid (capq - 1 = cq) := hcq
        clear hcq
        have HB2 : Hid (Below V0.heap.size V0 W2) := below_on hbA HB.out
        have hS2 := HCD.out _ HB2.out
        have HT2 : Hid (W2.heap[g8]? = some (.cells #[.int .i64 0, .int .i64 0, .slice none 0 0] 28 (0, 0)) ∧ V0.heap.size ≤ g8) := ⟨(hbA.block _ (heap_lt HT.out.1)).trans HT.out.1, HT.out.2⟩
        have HP2 : Hid (W2.heap[g9]? = some (.cells #[.slice none 0 0, .slice none 0 0] 32 (0, 0)) ∧ V0.heap.size ≤ g9) := ⟨(hbA.block _ (heap_lt HP.out.1)).trans HP.out.1, HP.out.2⟩
        have HRT2 : Hid (W2.ownsRow w.heap.size 44 5 (.slice at1 nT ct1) nT (ndsC T)) := owns_below HRT.out hbA
        have HRP2 : Hid (W2.ownsRow w.heap.size 46 4 (.slice ao1 r co1) r (obsC O) ∧ W2.ownsRow w.heap.size 3 1 (.slice (some ⟨gq, 0, none⟩) r1 capq) r1 (zsC LQ)) := ⟨owns_base ho2 (HW.out _ HB.out).size, owns_base hq2 (HW.out _ HB.out).size⟩
        refine hK.out _ _ hS2 (fun _ => ?_)
        clear hK K hS HB hbA ho2 hq2 HT HP HRT
        (try simp only [Act.put, List.setIfInBounds_toArray, List.set_cons_zero, List.set_cons_succ])
        revert HB2 hS2 HT2 HP2 HRT2 HRP2
        generalize W2 = V
        intro HB hS HT HP HRT HRP
        refine wpAnyH_ready (rs := [8]) (by kernel_rfl) (by simp) ?_
        refine AllReadyH.cons (o := { dst := none, op := .store 28 (.tmp 8) (.tmp 27), type := _, pos := _, after := _, guard := none }) rfl (fun K hK => ?_) AllReadyH.nil
        obtain ⟨q0, q1, q2⟩ := cells3 HT.out.1
        have f5 : ∀ j, V.frozen? ⟨g8, j, none⟩ = false := fun j => frozen_of_heap HT.out.1
        go_simp
        have HB2 : Hid (Below V0.heap.size V0 (((V.setCell ⟨g8, 0, none⟩ (.int .i64 (fl : Int))).setCell ⟨g8, 1, none⟩ (.int .i64 (dr : Int))).setCell ⟨g8, 2, none⟩ (.slice at1 nT ct1))) := ((HB.out.setCell HT.out.2 _).setCell HT.out.2 _).setCell HT.out.2 _
        have hS2 := HCD.out _ HB2.out
        have HT2 : Hid ((((V.setCell ⟨g8, 0, none⟩ (.int .i64 (fl : Int))).setCell ⟨g8, 1, none⟩ (.int .i64 (dr : Int))).setCell ⟨g8, 2, none⟩ (.slice at1 nT ct1)).heap[g8]? = some (.cells #[.int .i64 (fl : Int), .int .i64 (dr : Int), .slice at1 nT ct1] 28 (0, 0)) ∧ V0.heap.size ≤ g8) := ⟨Tr.put3A HT.out.1, HT.out.2⟩
        have hne : g9 ≠ g8 := ty_ne HP.out.1 HT.out.1 (by decide)
        have HP2 : Hid ((((V.setCell ⟨g8, 0, none⟩ (.int .i64 (fl : Int))).setCell ⟨g8, 1, none⟩ (.int .i64 (dr : Int))).setCell ⟨g8, 2, none⟩ (.slice at1 nT ct1)).heap[g9]? = some (.cells #[.slice none 0 0, .slice none 0 0] 32 (0, 0)) ∧ V0.heap.size ≤ g9) := ⟨by rw [heap_setCell_other _ _ _ _ hne, heap_setCell_other _ _ _ _ hne, heap_setCell_other _ _ _ _ hne]; exact HP.out.1, HP.out.2⟩
        have HRT2 : Hid ((((V.setCell ⟨g8, 0, none⟩ (.int .i64 (fl : Int))).setCell ⟨g8, 1, none⟩ (.int .i64 (dr : Int))).setCell ⟨g8, 2, none⟩ (.slice at1 nT ct1)).ownsRow w.heap.size 44 5 (.slice at1 nT ct1) nT (ndsC T)) := owns_put3 HT.out.1 (by decide) HRT.out _ _ _
        have HRP2 : Hid ((((V.setCell ⟨g8, 0, none⟩ (.int .i64 (fl : Int))).setCell ⟨g8, 1, none⟩ (.int .i64 (dr : Int))).setCell ⟨g8, 2, none⟩ (.slice at1 nT ct1)).ownsRow w.heap.size 46 4 (.slice ao1 r co1) r (obsC O) ∧ (((V.setCell ⟨g8, 0, none⟩ (.int .i64 (fl : Int))).setCell ⟨g8, 1, none⟩ (.int .i64 (dr : Int))).setCell ⟨g8, 2, none⟩ (.slice at1 nT ct1)).ownsRow w.heap.size 3 1 (.slice (some ⟨gq, 0, none⟩) r1 capq) r1 (zsC LQ)) := ⟨owns_put3 HT.out.1 (by decide) HRP.out.1 _ _ _, owns_put3 HT.out.1 (by decide) HRP.out.2 _ _ _⟩
        refine hK.out _ _ hS2 (fun _ => ?_)
        clear hK K hS q0 q1 q2 f5 hne HT HP HB HRT HRP
        (try simp only [Act.put])
        revert HB2 hS2 HT2 HP2 HRT2 HRP2
        generalize (((V.setCell ⟨g8, 0, none⟩ (.int .i64 (fl : Int))).setCell ⟨g8, 1, none⟩ (.int .i64 (dr : Int))).setCell ⟨g8, 2, none⟩ (.slice at1 nT ct1)) = V2
        intro HB hS HT HP HRT HRP
        revert HB hS HT HP HRT HRP
        generalize V2 = V
        intro HB hS HT HP HRT HRP
        refine wpAnyH_ready (rs := [9]) (by kernel_rfl) (by simp) ?_
        refine AllReadyH.cons (o := { dst := none, op := .store 32 (.tmp 9) (.tmp 30), type := _, pos := _, after := _, guard := none }) rfl (fun K hK => ?_) AllReadyH.nil
        obtain ⟨q0, q1⟩ := cells2 HP.out.1
        have f5 : ∀ j, V.frozen? ⟨g9, j, none⟩ = false := fun j => frozen_of_heap HP.out.1
        go_simp
        have HB2 : Hid (Below V0.heap.size V0 ((V.setCell ⟨g9, 0, none⟩ (.slice ao1 r co1)).setCell ⟨g9, 1, none⟩ (.slice (some ⟨gq, 1, none⟩) nQ cq))) := (HB.out.setCell HP.out.2 _).setCell HP.out.2 _
        have hS2 := HCD.out _ HB2.out
        have hne : g8 ≠ g9 := ty_ne HT.out.1 HP.out.1 (by decide)
        have HT2 : Hid (((V.setCell ⟨g9, 0, none⟩ (.slice ao1 r co1)).setCell ⟨g9, 1, none⟩ (.slice (some ⟨gq, 1, none⟩) nQ cq)).heap[g8]? = some (.cells #[.int .i64 (fl : Int), .int .i64 (dr : Int), .slice at1 nT ct1] 28 (0, 0)) ∧ V0.heap.size ≤ g8) := ⟨by rw [heap_setCell_other _ _ _ _ hne, heap_setCell_other _ _ _ _ hne]; exact HT.out.1, HT.out.2⟩
        have HP2 : Hid (((V.setCell ⟨g9, 0, none⟩ (.slice ao1 r co1)).setCell ⟨g9, 1, none⟩ (.slice (some ⟨gq, 1, none⟩) nQ cq)).heap[g9]? = some (.cells #[.slice ao1 r co1, .slice (some ⟨gq, 1, none⟩) nQ cq] 32 (0, 0)) ∧ V0.heap.size ≤ g9) := ⟨Tr.put2A HP.out.1, HP.out.2⟩
        have HRT2 : Hid (((V.setCell ⟨g9, 0, none⟩ (.slice ao1 r co1)).setCell ⟨g9, 1, none⟩ (.slice (some ⟨gq, 1, none⟩) nQ cq)).ownsRow w.heap.size 44 5 (.slice at1 nT ct1) nT (ndsC T)) := owns_put2 HP.out.1 (by decide) HRT.out _ _
        have HRP2 : Hid (((V.setCell ⟨g9, 0, none⟩ (.slice ao1 r co1)).setCell ⟨g9, 1, none⟩ (.slice (some ⟨gq, 1, none⟩) nQ cq)).ownsRow w.heap.size 46 4 (.slice ao1 r co1) r (obsC O) ∧ ((V.setCell ⟨g9, 0, none⟩ (.slice ao1 r co1)).setCell ⟨g9, 1, none⟩ (.slice (some ⟨gq, 1, none⟩) nQ cq)).ownsRow w.heap.size 3 1 (.slice (some ⟨gq, 0, none⟩) r1 capq) r1 (zsC LQ)) := ⟨owns_put2 HP.out.1 (by decide) HRP.out.1 _ _, owns_put2 HP.out.1 (by decide) HRP.out.2 _ _⟩
        refine hK.out _ _ hS2 (fun _ => ?_)
        clear hK K hS q0 q1 f5 hne HT HP HB HRT HRP
        (try simp only [Act.put])
        revert HB2 hS2 HT2 HP2 HRT2 HRP2
        generalize ((V.setCell ⟨g9, 0, none⟩ (.slice ao1 r co1)).setCell ⟨g9, 1, none⟩ (.slice (some ⟨gq, 1, none⟩) nQ cq)) = V2
        intro HB hS HT HP HRT HRP
        revert HB hS HT HP HRT HRP
        generalize V2 = V
        intro HB hS HT HP HRT HRP
        refine wpAnyH_done (by kernel_rfl) ?_ _
        go_wp2_with fail
        go_meet
        exact ⟨g8, g9, at1, ct1, ao1, co1, gq, capq, cq, rfl, rfl, HCQ.out, ⟨HT.out.1, HP.out.1, HT.out.2, HP.out.2⟩, HRT.out, HRP.out, HB.out⟩
    · go_simp
      have hbA : Below V.heap.size V (V.alloc (.cells #[.slice none 0 0, .slice none 0 0] 32)) := (Below.refl _ _).alloc (Nat.le_refl _) _
      have HB2 : Hid (Below V0.heap.size V0 (V.alloc (.cells #[.slice none 0 0, .slice none 0 0] 32))) := below_on hbA HB.out
      have hS2 := HCD.out _ HB2.out
      have HP2 : Hid ((V.alloc (.cells #[.slice none 0 0, .slice none 0 0] 32)).heap[V.heap.size]? = some (.cells #[.slice none 0 0, .slice none 0 0] 32 (0, 0)) ∧ V0.heap.size ≤ V.heap.size) := ⟨heap_new V _, HB.out.size⟩
      refine hK.out _ _ hS2 (fun _ => ?_)
      clear hK K hS HB hbA 
      (try simp only [Act.put, List.setIfInBounds_toArray, List.set_cons_zero, List.set_cons_succ])
      revert HB2 hS2 HP2
      generalize (V.alloc (.cells #[.slice none 0 0, .slice none 0 0] 32)) = V2
      generalize V.heap.size = g9
      intro HB hS HP
      revert HB hS HP
      generalize V2 = V
      intro HB hS HP
      refine wpAnyH_ready (rs := [2, 6]) (by kernel_rfl) (by simp) ?_
      refine AllReadyH.cons (o := { dst := some 27, op := .call { callee := .value (.func 26), args := #[.tmp 25, .tmp 26], argTypes := #[23, 9] }, type := _, pos := _, after := _, guard := none }) rfl (fun K hK => ?_) (AllReadyH.cons (o := { dst := some 8, op := .alloc 28, type := _, pos := _, after := _, guard := none }) rfl (fun K hK => ?_) AllReadyH.nil)
      · go_simp
        refine (KRT.out _ HB.out).mono ?_
        rintro e W2 ⟨at1, ct1, rfl, ho2, hbA⟩
        have HB2 : Hid (Below V0.heap.size V0 W2) := below_on hbA HB.out
        have hS2 := HCD.out _ HB2.out
        have HP2 : Hid (W2.heap[g9]? = some (.cells #[.slice none 0 0, .slice none 0 0] 32 (0, 0)) ∧ V0.heap.size ≤ g9) := ⟨(hbA.block _ (heap_lt HP.out.1)).trans HP.out.1, HP.out.2⟩
        have HRT2 : Hid (W2.ownsRow w.heap.size 44 5 (.slice at1 nT ct1) nT (ndsC T)) := owns_base ho2 (HW.out _ HB.out).size
        refine hK.out _ _ hS2 (fun _ => ?_)
        clear hK K hS HB hbA ho2 HP
        (try simp only [Act.put, List.setIfInBounds_toArray, List.set_cons_zero, List.set_cons_succ])
        revert HB2 hS2 HP2 HRT2
        generalize W2 = V
        intro HB hS HP HRT
        refine wpAnyH_ready (rs := [5, 6]) (by kernel_rfl) (by simp) ?_
        refine AllReadyH.cons (o := { dst := some 30, op := .call { callee := .value (.func 27), args := #[.tmp 28, .tmp 29], argTypes := #[23, 9] }, type := _, pos := _, after := _, guard := none }) rfl (fun K hK => ?_) (AllReadyH.cons (o := { dst := some 8, op := .alloc 28, type := _, pos := _, after := _, guard := none }) rfl (fun K hK => ?_) AllReadyH.nil)
        · go_simp
          refine (KRP.out _ HB.out).mono ?_
          rintro e W2 ⟨ao1, co1, gq, capq, cq, hcq, rfl, ho2, hq2, hbA⟩
          have HCQ : Hid (capq - 1 = cq) := hcq
          clear hcq
          have HB2 : Hid (Below V0.heap.size V0 W2) := below_on hbA HB.out
          have hS2 := HCD.out _ HB2.out
          have HP2 : Hid (W2.heap[g9]? = some (.cells #[.slice none 0 0, .slice none 0 0] 32 (0, 0)) ∧ V0.heap.size ≤ g9) := ⟨(hbA.block _ (heap_lt HP.out.1)).trans HP.out.1, HP.out.2⟩
          have HRT2 : Hid (W2.ownsRow w.heap.size 44 5 (.slice at1 nT ct1) nT (ndsC T)) := owns_below HRT.out hbA
          have HRP2 : Hid (W2.ownsRow w.heap.size 46 4 (.slice ao1 r co1) r (obsC O) ∧ W2.ownsRow w.heap.size 3 1 (.slice (some ⟨gq, 0, none⟩) r1 capq) r1 (zsC LQ)) := ⟨owns_base ho2 (HW.out _ HB.out).size, owns_base hq2 (HW.out _ HB.out).size⟩
          refine hK.out _ _ hS2 (fun _ => ?_)
          clear hK K hS HB hbA ho2 hq2 HP HRT
          (try simp only [Act.put, List.setIfInBounds_toArray, List.set_cons_zero, List.set_cons_succ])
          revert HB2 hS2 HP2 HRT2 HRP2
          generalize W2 = V
          intro HB hS HP HRT HRP
          refine wpAnyH_ready (rs := [6]) (by kernel_rfl) (by simp) ?_
          refine AllReadyH.cons (o := { dst := some 8, op := .alloc 28, type := _, pos := _, after := _, guard := none }) rfl (fun K hK => ?_) AllReadyH.nil
          go_simp
          have hbA : Below V.heap.size V (V.alloc (.cells #[.int .i64 0, .int .i64 0, .slice none 0 0] 28)) := (Below.refl _ _).alloc (Nat.le_refl _) _
          have HB2 : Hid (Below V0.heap.size V0 (V.alloc (.cells #[.int .i64 0, .int .i64 0, .slice none 0 0] 28))) := below_on hbA HB.out
          have hS2 := HCD.out _ HB2.out
          have HP2 : Hid ((V.alloc (.cells #[.int .i64 0, .int .i64 0, .slice none 0 0] 28)).heap[g9]? = some (.cells #[.slice none 0 0, .slice none 0 0] 32 (0, 0)) ∧ V0.heap.size ≤ g9) := ⟨(hbA.block _ (heap_lt HP.out.1)).trans HP.out.1, HP.out.2⟩
          have HRT2 : Hid ((V.alloc (.cells #[.int .i64 0, .int .i64 0, .slice none 0 0] 28)).ownsRow w.heap.size 44 5 (.slice at1 nT ct1) nT (ndsC T)) := owns_below HRT.out hbA
          have HRP2 : Hid ((V.alloc (.cells #[.int .i64 0, .int .i64 0, .slice none 0 0] 28)).ownsRow w.heap.size 46 4 (.slice ao1 r co1) r (obsC O) ∧ (V.alloc (.cells #[.int .i64 0, .int .i64 0, .slice none 0 0] 28)).ownsRow w.heap.size 3 1 (.slice (some ⟨gq, 0, none⟩) r1 capq) r1 (zsC LQ)) := ⟨owns_below HRP.out.1 hbA, owns_below HRP.out.2 hbA⟩
          have HT2 : Hid ((V.alloc (.cells #[.int .i64 0, .int .i64 0, .slice none 0 0] 28)).heap[V.heap.size]? = some (.cells #[.int .i64 0, .int .i64 0, .slice none 0 0] 28 (0, 0)) ∧ V0.heap.size ≤ V.heap.size) := ⟨heap_new V _, HB.out.size⟩
          refine hK.out _ _ hS2 (fun _ => ?_)
          clear hK K hS HB hbA HP HRT HRP
          (try simp only [Act.put, List.setIfInBounds_toArray, List.set_cons_zero, List.set_cons_succ])
          revert HB2 hS2 HP2 HRT2 HRP2 HT2
          generalize (V.alloc (.cells #[.int .i64 0, .int .i64 0, .slice none 0 0] 28)) = V2
          generalize V.heap.size = g8
          intro HB hS HP HRT HRP HT
          revert HB hS HP HRT HRP HT
          generalize V2 = V
          intro HB hS HP HRT HRP HT
          refine wpAnyH_ready (rs := [8]) (by kernel_rfl) (by simp) ?_
          refine AllReadyH.cons (o := { dst := none, op := .store 28 (.tmp 8) (.tmp 27), type := _, pos := _, after := _, guard := none }) rfl (fun K hK => ?_) AllReadyH.nil
          obtain ⟨q0, q1, q2⟩ := cells3 HT.out.1
          have f5 : ∀ j, V.frozen? ⟨g8, j, none⟩ = false := fun j => frozen_of_heap HT.out.1
          go_simp
          have HB2 : Hid (Below V0.heap.size V0 (((V.setCell ⟨g8, 0, none⟩ (.int .i64 (fl : Int))).setCell ⟨g8, 1, none⟩ (.int .i64 (dr : Int))).setCell ⟨g8, 2, none⟩ (.slice at1 nT ct1))) := ((HB.out.setCell HT.out.2 _).setCell HT.out.2 _).setCell HT.out.2 _
          have hS2 := HCD.out _ HB2.out
          have HT2 : Hid ((((V.setCell ⟨g8, 0, none⟩ (.int .i64 (fl : Int))).setCell ⟨g8, 1, none⟩ (.int .i64 (dr : Int))).setCell ⟨g8, 2, none⟩ (.slice at1 nT ct1)).heap[g8]? = some (.cells #[.int .i64 (fl : Int), .int .i64 (dr : Int), .slice at1 nT ct1] 28 (0, 0)) ∧ V0.heap.size ≤ g8) := ⟨Tr.put3A HT.out.1, HT.out.2⟩
          have hne : g9 ≠ g8 := ty_ne HP.out.1 HT.out.1 (by decide)
          have HP2 : Hid ((((V.setCell ⟨g8, 0, none⟩ (.int .i64 (fl : Int))).setCell ⟨g8, 1, none⟩ (.int .i64 (dr : Int))).setCell ⟨g8, 2, none⟩ (.slice at1 nT ct1)).heap[g9]? = some (.cells #[.slice none 0 0, .slice none 0 0] 32 (0, 0)) ∧ V0.heap.size ≤ g9) := ⟨by rw [heap_setCell_other _ _ _ _ hne, heap_setCell_other _ _ _ _ hne, heap_setCell_other _ _ _ _ hne]; exact HP.out.1, HP.out.2⟩
          have HRT2 : Hid ((((V.setCell ⟨g8, 0, none⟩ (.int .i64 (fl : Int))).setCell ⟨g8, 1, none⟩ (.int .i64 (dr : Int))).setCell ⟨g8, 2, none⟩ (.slice at1 nT ct1)).ownsRow w.heap.size 44 5 (.slice at1 nT ct1) nT (ndsC T)) := owns_put3 HT.out.1 (by decide) HRT.out _ _ _
          have HRP2 : Hid ((((V.setCell ⟨g8, 0, none⟩ (.int .i64 (fl : Int))).setCell ⟨g8, 1, none⟩ (.int .i64 (dr : Int))).setCell ⟨g8, 2, none⟩ (.slice at1 nT ct1)).ownsRow w.heap.size 46 4 (.slice ao1 r co1) r (obsC O) ∧ (((V.setCell ⟨g8, 0, none⟩ (.int .i64 (fl : Int))).setCell ⟨g8, 1, none⟩ (.int .i64 (dr : Int))).setCell ⟨g8, 2, none⟩ (.slice at1 nT ct1)).ownsRow w.heap.size 3 1 (.slice (some ⟨gq, 0, none⟩) r1 capq) r1 (zsC LQ)) := ⟨owns_put3 HT.out.1 (by decide) HRP.out.1 _ _ _, owns_put3 HT.out.1 (by decide) HRP.out.2 _ _ _⟩
          refine hK.out _ _ hS2 (fun _ => ?_)
          clear hK K hS q0 q1 q2 f5 hne HT HP HB HRT HRP
          (try simp only [Act.put])
          revert HB2 hS2 HT2 HP2 HRT2 HRP2
          generalize (((V.setCell ⟨g8, 0, none⟩ (.int .i64 (fl : Int))).setCell ⟨g8, 1, none⟩ (.int .i64 (dr : Int))).setCell ⟨g8, 2, none⟩ (.slice at1 nT ct1)) = V2
          intro HB hS HT HP HRT HRP
          revert HB hS HT HP HRT HRP
          generalize V2 = V
          intro HB hS HT HP HRT HRP
          refine wpAnyH_ready (rs := [9]) (by kernel_rfl) (by simp) ?_
          refine AllReadyH.cons (o := { dst := none, op := .store 32 (.tmp 9) (.tmp 30), type := _, pos := _, after := _, guard := none }) rfl (fun K hK => ?_) AllReadyH.nil
          obtain ⟨q0, q1⟩ := cells2 HP.out.1
          have f5 : ∀ j, V.frozen? ⟨g9, j, none⟩ = false := fun j => frozen_of_heap HP.out.1
          go_simp
          have HB2 : Hid (Below V0.heap.size V0 ((V.setCell ⟨g9, 0, none⟩ (.slice ao1 r co1)).setCell ⟨g9, 1, none⟩ (.slice (some ⟨gq, 1, none⟩) nQ cq))) := (HB.out.setCell HP.out.2 _).setCell HP.out.2 _
          have hS2 := HCD.out _ HB2.out
          have hne : g8 ≠ g9 := ty_ne HT.out.1 HP.out.1 (by decide)
          have HT2 : Hid (((V.setCell ⟨g9, 0, none⟩ (.slice ao1 r co1)).setCell ⟨g9, 1, none⟩ (.slice (some ⟨gq, 1, none⟩) nQ cq)).heap[g8]? = some (.cells #[.int .i64 (fl : Int), .int .i64 (dr : Int), .slice at1 nT ct1] 28 (0, 0)) ∧ V0.heap.size ≤ g8) := ⟨by rw [heap_setCell_other _ _ _ _ hne, heap_setCell_other _ _ _ _ hne]; exact HT.out.1, HT.out.2⟩
          have HP2 : Hid (((V.setCell ⟨g9, 0, none⟩ (.slice ao1 r co1)).setCell ⟨g9, 1, none⟩ (.slice (some ⟨gq, 1, none⟩) nQ cq)).heap[g9]? = some (.cells #[.slice ao1 r co1, .slice (some ⟨gq, 1, none⟩) nQ cq] 32 (0, 0)) ∧ V0.heap.size ≤ g9) := ⟨Tr.put2A HP.out.1, HP.out.2⟩
          have HRT2 : Hid (((V.setCell ⟨g9, 0, none⟩ (.slice ao1 r co1)).setCell ⟨g9, 1, none⟩ (.slice (some ⟨gq, 1, none⟩) nQ cq)).ownsRow w.heap.size 44 5 (.slice at1 nT ct1) nT (ndsC T)) := owns_put2 HP.out.1 (by decide) HRT.out _ _
          have HRP2 : Hid (((V.setCell ⟨g9, 0, none⟩ (.slice ao1 r co1)).setCell ⟨g9, 1, none⟩ (.slice (some ⟨gq, 1, none⟩) nQ cq)).ownsRow w.heap.size 46 4 (.slice ao1 r co1) r (obsC O) ∧ ((V.setCell ⟨g9, 0, none⟩ (.slice ao1 r co1)).setCell ⟨g9, 1, none⟩ (.slice (some ⟨gq, 1, none⟩) nQ cq)).ownsRow w.heap.size 3 1 (.slice (some ⟨gq, 0, none⟩) r1 capq) r1 (zsC LQ)) := ⟨owns_put2 HP.out.1 (by decide) HRP.out.1 _ _, owns_put2 HP.out.1 (by decide) HRP.out.2 _ _⟩
          refine hK.out _ _ hS2 (fun _ => ?_)
          clear hK K hS q0 q1 f5 hne HT HP HB HRT HRP
          (try simp only [Act.put])
          revert HB2 hS2 HT2 HP2 HRT2 HRP2
          generalize ((V.setCell ⟨g9, 0, none⟩ (.slice ao1 r co1)).setCell ⟨g9, 1, none⟩ (.slice (some ⟨gq, 1, none⟩) nQ cq)) = V2
          intro HB hS HT HP HRT HRP
          revert HB hS HT HP HRT HRP
          generalize V2 = V
          intro HB hS HT HP HRT HRP
          refine wpAnyH_done (by kernel_rfl) ?_ _
          go_wp2_with fail
          go_meet
          exact ⟨g8, g9, at1, ct1, ao1, co1, gq, capq, cq, rfl, rfl, HCQ.out, ⟨HT.out.1, HP.out.1, HT.out.2, HP.out.2⟩, HRT.out, HRP.out, HB.out⟩
        · go_simp
          have hbA : Below V.heap.size V (V.alloc (.cells #[.int .i64 0, .int .i64 0, .slice none 0 0] 28)) := (Below.refl _ _).alloc (Nat.le_refl _) _
          have HB2 : Hid (Below V0.heap.size V0 (V.alloc (.cells #[.int .i64 0, .int .i64 0, .slice none 0 0] 28))) := below_on hbA HB.out
          have hS2 := HCD.out _ HB2.out
          have HP2 : Hid ((V.alloc (.cells #[.int .i64 0, .int .i64 0, .slice none 0 0] 28)).heap[g9]? = some (.cells #[.slice none 0 0, .slice none 0 0] 32 (0, 0)) ∧ V0.heap.size ≤ g9) := ⟨(hbA.block _ (heap_lt HP.out.1)).trans HP.out.1, HP.out.2⟩
          have HRT2 : Hid ((V.alloc (.cells #[.int .i64 0, .int .i64 0, .slice none 0 0] 28)).ownsRow w.heap.size 44 5 (.slice at1 nT ct1) nT (ndsC T)) := owns_below HRT.out hbA
          have HT2 : Hid ((V.alloc (.cells #[.int .i64 0, .int .i64 0, .slice none 0 0] 28)).heap[V.heap.size]? = some (.cells #[.int .i64 0, .int .i64 0, .slice none 0 0] 28 (0, 0)) ∧ V0.heap.size ≤ V.heap.size) := ⟨heap_new V _, HB.out.size⟩
          refine hK.out _ _ hS2 (fun _ => ?_)
          clear hK K hS HB hbA HP HRT
          (try simp only [Act.put, List.setIfInBounds_toArray, List.set_cons_zero, List.set_cons_succ])
          revert HB2 hS2 HP2 HRT2 HT2
          generalize (V.alloc (.cells #[.int .i64 0, .int .i64 0, .slice none 0 0] 28)) = V2
          generalize V.heap.size = g8
          intro HB hS HP HRT HT
          revert HB hS HP HRT HT
          generalize V2 = V
          intro HB hS HP HRT HT
          refine wpAnyH_ready (rs := [5]) (by kernel_rfl) (by simp) ?_
          refine AllReadyH.cons (o := { dst := some 30, op := .call { callee := .value (.func 27), args := #[.tmp 28, .tmp 29], argTypes := #[23, 9] }, type := _, pos := _, after := _, guard := none }) rfl (fun K hK => ?_) AllReadyH.nil
          go_simp
          refine (KRP.out _ HB.out).mono ?_
          rintro e W2 ⟨ao1, co1, gq, capq, cq, hcq, rfl, ho2, hq2, hbA⟩
          have HCQ : Hid (capq - 1 = cq) := hcq
          clear hcq
          have HB2 : Hid (Below V0.heap.size V0 W2) := below_on hbA HB.out
          have hS2 := HCD.out _ HB2.out
          have HT2 : Hid (W2.heap[g8]? = some (.cells #[.int .i64 0, .int .i64 0, .slice none 0 0] 28 (0, 0)) ∧ V0.heap.size ≤ g8) := ⟨(hbA.block _ (heap_lt HT.out.1)).trans HT.out.1, HT.out.2⟩
          have HP2 : Hid (W2.heap[g9]? = some (.cells #[.slice none 0 0, .slice none 0 0] 32 (0, 0)) ∧ V0.heap.size ≤ g9) := ⟨(hbA.block _ (heap_lt HP.out.1)).trans HP.out.1, HP.out.2⟩
          have HRT2 : Hid (W2.ownsRow w.heap.size 44 5 (.slice at1 nT ct1) nT (ndsC T)) := owns_below HRT.out hbA
          have HRP2 : Hid (W2.ownsRow w.heap.size 46 4 (.slice ao1 r co1) r (obsC O) ∧ W2.ownsRow w.heap.size 3 1 (.slice (some ⟨gq, 0, none⟩) r1 capq) r1 (zsC LQ)) := ⟨owns_base ho2 (HW.out _ HB.out).size, owns_base hq2 (HW.out _ HB.out).size⟩
          refine hK.out _ _ hS2 (fun _ => ?_)
          clear hK K hS HB hbA ho2 hq2 HT HP HRT
          (try simp only [Act.put, List.setIfInBounds_toArray, List.set_cons_zero, List.set_cons_succ])
          revert HB2 hS2 HT2 HP2 HRT2 HRP2
          generalize W2 = V
          intro HB hS HT HP HRT HRP
          refine wpAnyH_ready (rs := [8]) (by kernel_rfl) (by simp) ?_
          refine AllReadyH.cons (o := { dst := none, op := .store 28 (.tmp 8) (.tmp 27), type := _, pos := _, after := _, guard := none }) rfl (fun K hK => ?_) AllReadyH.nil
          obtain ⟨q0, q1, q2⟩ := cells3 HT.out.1
          have f5 : ∀ j, V.frozen? ⟨g8, j, none⟩ = false := fun j => frozen_of_heap HT.out.1
          go_simp
          have HB2 : Hid (Below V0.heap.size V0 (((V.setCell ⟨g8, 0, none⟩ (.int .i64 (fl : Int))).setCell ⟨g8, 1, none⟩ (.int .i64 (dr : Int))).setCell ⟨g8, 2, none⟩ (.slice at1 nT ct1))) := ((HB.out.setCell HT.out.2 _).setCell HT.out.2 _).setCell HT.out.2 _
          have hS2 := HCD.out _ HB2.out
          have HT2 : Hid ((((V.setCell ⟨g8, 0, none⟩ (.int .i64 (fl : Int))).setCell ⟨g8, 1, none⟩ (.int .i64 (dr : Int))).setCell ⟨g8, 2, none⟩ (.slice at1 nT ct1)).heap[g8]? = some (.cells #[.int .i64 (fl : Int), .int .i64 (dr : Int), .slice at1 nT ct1] 28 (0, 0)) ∧ V0.heap.size ≤ g8) := ⟨Tr.put3A HT.out.1, HT.out.2⟩
          have hne : g9 ≠ g8 := ty_ne HP.out.1 HT.out.1 (by decide)
          have HP2 : Hid ((((V.setCell ⟨g8, 0, none⟩ (.int .i64 (fl : Int))).setCell ⟨g8, 1, none⟩ (.int .i64 (dr : Int))).setCell ⟨g8, 2, none⟩ (.slice at1 nT ct1)).heap[g9]? = some (.cells #[.slice none 0 0, .slice none 0 0] 32 (0, 0)) ∧ V0.heap.size ≤ g9) := ⟨by rw [heap_setCell_other _ _ _ _ hne, heap_setCell_other _ _ _ _ hne, heap_setCell_other _ _ _ _ hne]; exact HP.out.1, HP.out.2⟩
          have HRT2 : Hid ((((V.setCell ⟨g8, 0, none⟩ (.int .i64 (fl : Int))).setCell ⟨g8, 1, none⟩ (.int .i64 (dr : Int))).setCell ⟨g8, 2, none⟩ (.slice at1 nT ct1)).ownsRow w.heap.size 44 5 (.slice at1 nT ct1) nT (ndsC T)) := owns_put3 HT.out.1 (by decide) HRT.out _ _ _
          have HRP2 : Hid ((((V.setCell ⟨g8, 0, none⟩ (.int .i64 (fl : Int))).setCell ⟨g8, 1, none⟩ (.int .i64 (dr : Int))).setCell ⟨g8, 2, none⟩ (.slice at1 nT ct1)).ownsRow w.heap.size 46 4 (.slice ao1 r co1) r (obsC O) ∧ (((V.setCell ⟨g8, 0, none⟩ (.int .i64 (fl : Int))).setCell ⟨g8, 1, none⟩ (.int .i64 (dr : Int))).setCell ⟨g8, 2, none⟩ (.slice at1 nT ct1)).ownsRow w.heap.size 3 1 (.slice (some ⟨gq, 0, none⟩) r1 capq) r1 (zsC LQ)) := ⟨owns_put3 HT.out.1 (by decide) HRP.out.1 _ _ _, owns_put3 HT.out.1 (by decide) HRP.out.2 _ _ _⟩
          refine hK.out _ _ hS2 (fun _ => ?_)
          clear hK K hS q0 q1 q2 f5 hne HT HP HB HRT HRP
          (try simp only [Act.put])
          revert HB2 hS2 HT2 HP2 HRT2 HRP2
          generalize (((V.setCell ⟨g8, 0, none⟩ (.int .i64 (fl : Int))).setCell ⟨g8, 1, none⟩ (.int .i64 (dr : Int))).setCell ⟨g8, 2, none⟩ (.slice at1 nT ct1)) = V2
          intro HB hS HT HP HRT HRP
          revert HB hS HT HP HRT HRP
          generalize V2 = V
          intro HB hS HT HP HRT HRP
          refine wpAnyH_ready (rs := [9]) (by kernel_rfl) (by simp) ?_
          refine AllReadyH.cons (o := { dst := none, op := .store 32 (.tmp 9) (.tmp 30), type := _, pos := _, after := _, guard := none }) rfl (fun K hK => ?_) AllReadyH.nil
          obtain ⟨q0, q1⟩ := cells2 HP.out.1
          have f5 : ∀ j, V.frozen? ⟨g9, j, none⟩ = false := fun j => frozen_of_heap HP.out.1
          go_simp
          have HB2 : Hid (Below V0.heap.size V0 ((V.setCell ⟨g9, 0, none⟩ (.slice ao1 r co1)).setCell ⟨g9, 1, none⟩ (.slice (some ⟨gq, 1, none⟩) nQ cq))) := (HB.out.setCell HP.out.2 _).setCell HP.out.2 _
          have hS2 := HCD.out _ HB2.out
          have hne : g8 ≠ g9 := ty_ne HT.out.1 HP.out.1 (by decide)
          have HT2 : Hid (((V.setCell ⟨g9, 0, none⟩ (.slice ao1 r co1)).setCell ⟨g9, 1, none⟩ (.slice (some ⟨gq, 1, none⟩) nQ cq)).heap[g8]? = some (.cells #[.int .i64 (fl : Int), .int .i64 (dr : Int), .slice at1 nT ct1] 28 (0, 0)) ∧ V0.heap.size ≤ g8) := ⟨by rw [heap_setCell_other _ _ _ _ hne, heap_setCell_other _ _ _ _ hne]; exact HT.out.1, HT.out.2⟩
          have HP2 : Hid (((V.setCell ⟨g9, 0, none⟩ (.slice ao1 r co1)).setCell ⟨g9, 1, none⟩ (.slice (some ⟨gq, 1, none⟩) nQ cq)).heap[g9]? = some (.cells #[.slice ao1 r co1, .slice (some ⟨gq, 1, none⟩) nQ cq] 32 (0, 0)) ∧ V0.heap.size ≤ g9) := ⟨Tr.put2A HP.out.1, HP.out.2⟩
          have HRT2 : Hid (((V.setCell ⟨g9, 0, none⟩ (.slice ao1 r co1)).setCell ⟨g9, 1, none⟩ (.slice (some ⟨gq, 1, none⟩) nQ cq)).ownsRow w.heap.size 44 5 (.slice at1 nT ct1) nT (ndsC T)) := owns_put2 HP.out.1 (by decide) HRT.out _ _
          have HRP2 : Hid (((V.setCell ⟨g9, 0, none⟩ (.slice ao1 r co1)).setCell ⟨g9, 1, none⟩ (.slice (some ⟨gq, 1, none⟩) nQ cq)).ownsRow w.heap.size 46 4 (.slice ao1 r co1) r (obsC O) ∧ ((V.setCell ⟨g9, 0, none⟩ (.slice ao1 r co1)).setCell ⟨g9, 1, none⟩ (.slice (some ⟨gq, 1, none⟩) nQ cq)).ownsRow w.heap.size 3 1 (.slice (some ⟨gq, 0, none⟩) r1 capq) r1 (zsC LQ)) := ⟨owns_put2 HP.out.1 (by decide) HRP.out.1 _ _, owns_put2 HP.out.1 (by decide) HRP.out.2 _ _⟩
          refine hK.out _ _ hS2 (fun _ => ?_)
          clear hK K hS q0 q1 f5 hne HT HP HB HRT HRP
          (try simp only [Act.put])
          revert HB2 hS2 HT2 HP2 HRT2 HRP2
          generalize ((V.setCell ⟨g9, 0, none⟩ (.slice ao1 r co1)).setCell ⟨g9, 1, none⟩ (.slice (some ⟨gq, 1, none⟩) nQ cq)) = V2
          intro HB hS HT HP HRT HRP
          revert HB hS HT HP HRT HRP
          generalize V2 = V
          intro HB hS HT HP HRT HRP
          refine wpAnyH_done (by kernel_rfl) ?_ _
          go_wp2_with fail
          go_meet
          exact ⟨g8, g9, at1, ct1, ao1, co1, gq, capq, cq, rfl, rfl, HCQ.out, ⟨HT.out.1, HP.out.1, HT.out.2, HP.out.2⟩, HRT.out, HRP.out, HB.out⟩
      · go_simp
        have hbA : Below V.heap.size V (V.alloc (.cells #[.int .i64 0, .int .i64 0, .slice none 0 0] 28)) := (Below.refl _ _).alloc (Nat.le_refl _) _
        have HB2 : Hid (Below V0.heap.size V0 (V.alloc (.cells #[.int .i64 0, .int .i64 0, .slice none 0 0] 28))) := below_on hbA HB.out
        have hS2 := HCD.out _ HB2.out
        have HP2 : Hid ((V.alloc (.cells #[.int .i64 0, .int .i64 0, .slice none 0 0] 28)).heap[g9]? = some (.cells #[.slice none 0 0, .slice none 0 0] 32 (0, 0)) ∧ V0.heap.size ≤ g9) := ⟨(hbA.block _ (heap_lt HP.out.1)).trans HP.out.1, HP.out.2⟩
        have HT2 : Hid ((V.alloc (.cells #[.int .i64 0, .int .i64 0, .slice none 0 0] 28)).heap[V.heap.size]? = some (.cells #[.int .i64 0, .int .i64 0, .slice none 0 0] 28 (0, 0)) ∧ V0.heap.size ≤ V.heap.size) := ⟨heap_new V _, HB.out.size⟩
        refine hK.out _ _ hS2 (fun _ => ?_)
        clear hK K hS HB hbA HP
        (try simp only [Act.put, List.setIfInBounds_toArray, List.set_cons_zero, List.set_cons_succ])
        revert HB2 hS2 HP2 HT2
        generalize (V.alloc (.cells #[.int .i64 0, .int .i64 0, .slice none 0 0] 28)) = V2
        generalize V.heap.size = g8
        intro HB hS HP HT
        revert HB hS HP HT
        generalize V2 = V
        intro HB hS HP HT
        refine wpAnyH_ready (rs := [2]) (by kernel_rfl) (by simp) ?_
        refine AllReadyH.cons (o := { dst := some 27, op := .call { callee := .value (.func 26), args := #[.tmp 25, .tmp 26], argTypes := #[23, 9] }, type := _, pos := _, after := _, guard := none }) rfl (fun K hK => ?_) AllReadyH.nil
        go_simp
        refine (KRT.out _ HB.out).mono ?_
        rintro e W2 ⟨at1, ct1, rfl, ho2, hbA⟩
        have HB2 : Hid (Below V0.heap.size V0 W2) := below_on hbA HB.out
        have hS2 := HCD.out _ HB2.out
        have HT2 : Hid (W2.heap[g8]? = some (.cells #[.int .i64 0, .int .i64 0, .slice none 0 0] 28 (0, 0)) ∧ V0.heap.size ≤ g8) := ⟨(hbA.block _ (heap_lt HT.out.1)).trans HT.out.1, HT.out.2⟩
        have HP2 : Hid (W2.heap[g9]? = some (.cells #[.slice none 0 0, .slice none 0 0] 32 (0, 0)) ∧ V0.heap.size ≤ g9) := ⟨(hbA.block _ (heap_lt HP.out.1)).trans HP.out.1, HP.out.2⟩
        have HRT2 : Hid (W2.ownsRow w.heap.size 44 5 (.slice at1 nT ct1) nT (ndsC T)) := owns_base ho2 (HW.out _ HB.out).size
        refine hK.out _ _ hS2 (fun _ => ?_)
        clear hK K hS HB hbA ho2 HT HP
        (try simp only [Act.put, List.setIfInBounds_toArray, List.set_cons_zero, List.set_cons_succ])
        revert HB2 hS2 HT2 HP2 HRT2
        generalize W2 = V
        intro HB hS HT HP HRT
        refine wpAnyH_ready (rs := [5]) (by kernel_rfl) (by simp) ?_
        refine AllReadyH.cons (o := { dst := some 30, op := .call { callee := .value (.func 27), args := #[.tmp 28, .tmp 29], argTypes := #[23, 9] }, type := _, pos := _, after := _, guard := none }) rfl (fun K hK => ?_) AllReadyH.nil
        go_simp
        refine (KRP.out _ HB.out).mono ?_
        rintro e W2 ⟨ao1, co1, gq, capq, cq, hcq, rfl, ho2, hq2, hbA⟩
        have HCQ : Hid (capq - 1 = cq) := hcq
        clear hcq
        have HB2 : Hid (Below V0.heap.size V0 W2) := below_on hbA HB.out
        have hS2 := HCD.out _ HB2.out
        have HT2 : Hid (W2.heap[g8]? = some (.cells #[.int .i64 0, .int .i64 0, .slice none 0 0] 28 (0, 0)) ∧ V0.heap.size ≤ g8) := ⟨(hbA.block _ (heap_lt HT.out.1)).trans HT.out.1, HT.out.2⟩
        have HP2 : Hid (W2.heap[g9]? = some (.cells #[.slice none 0 0, .slice none 0 0] 32 (0, 0)) ∧ V0.heap.size ≤ g9) := ⟨(hbA.block _ (heap_lt HP.out.1)).trans HP.out.1, HP.out.2⟩
        have HRT2 : Hid (W2.ownsRow w.heap.size 44 5 (.slice at1 nT ct1) nT (ndsC T)) := owns_below HRT.out hbA
        have HRP2 : Hid (W2.ownsRow w.heap.size 46 4 (.slice ao1 r co1) r (obsC O) ∧ W2.ownsRow w.heap.size 3 1 (.slice (some ⟨gq, 0, none⟩) r1 capq) r1 (zsC LQ)) := ⟨owns_base ho2 (HW.out _ HB.out).size, owns_base hq2 (HW.out _ HB.out).size⟩
        refine hK.out _ _ hS2 (fun _ => ?_)
        clear hK K hS HB hbA ho2 hq2 HT HP HRT
        (try simp only [Act.put, List.setIfInBounds_toArray, List.set_cons_zero, List.set_cons_succ])
        revert HB2 hS2 HT2 HP2 HRT2 HRP2
        generalize W2 = V
        intro HB hS HT HP HRT HRP
        refine wpAnyH_ready (rs := [8]) (by kernel_rfl) (by simp) ?_
        refine AllReadyH.cons (o := { dst := none, op := .store 28 (.tmp 8) (.tmp 27), type := _, pos := _, after := _, guard := none }) rfl (fun K hK => ?_) AllReadyH.nil
        obtain ⟨q0, q1, q2⟩ := cells3 HT.out.1
        have f5 : ∀ j, V.frozen? ⟨g8, j, none⟩ = false := fun j => frozen_of_heap HT.out.1
        go_simp
        have HB2 : Hid (Below V0.heap.size V0 (((V.setCell ⟨g8, 0, none⟩ (.int .i64 (fl : Int))).setCell ⟨g8, 1, none⟩ (.int .i64 (dr : Int))).setCell ⟨g8, 2, none⟩ (.slice at1 nT ct1))) := ((HB.out.setCell HT.out.2 _).setCell HT.out.2 _).setCell HT.out.2 _
        have hS2 := HCD.out _ HB2.out
        have HT2 : Hid ((((V.setCell ⟨g8, 0, none⟩ (.int .i64 (fl : Int))).setCell ⟨g8, 1, none⟩ (.int .i64 (dr : Int))).setCell ⟨g8, 2, none⟩ (.slice at1 nT ct1)).heap[g8]? = some (.cells #[.int .i64 (fl : Int), .int .i64 (dr : Int), .slice at1 nT ct1] 28 (0, 0)) ∧ V0.heap.size ≤ g8) := ⟨Tr.put3A HT.out.1, HT.out.2⟩
        have hne : g9 ≠ g8 := ty_ne HP.out.1 HT.out.1 (by decide)
        have HP2 : Hid ((((V.setCell ⟨g8, 0, none⟩ (.int .i64 (fl : Int))).setCell ⟨g8, 1, none⟩ (.int .i64 (dr : Int))).setCell ⟨g8, 2, none⟩ (.slice at1 nT ct1)).heap[g9]? = some (.cells #[.slice none 0 0, .slice none 0 0] 32 (0, 0)) ∧ V0.heap.size ≤ g9) := ⟨by rw [heap_setCell_other _ _ _ _ hne, heap_setCell_other _ _ _ _ hne, heap_setCell_other _ _ _ _ hne]; exact HP.out.1, HP.out.2⟩
        have HRT2 : Hid ((((V.setCell ⟨g8, 0, none⟩ (.int .i64 (fl : Int))).setCell ⟨g8, 1, none⟩ (.int .i64 (dr : Int))).setCell ⟨g8, 2, none⟩ (.slice at1 nT ct1)).ownsRow w.heap.size 44 5 (.slice at1 nT ct1) nT (ndsC T)) := owns_put3 HT.out.1 (by decide) HRT.out _ _ _
        have HRP2 : Hid ((((V.setCell ⟨g8, 0, none⟩ (.int .i64 (fl : Int))).setCell ⟨g8, 1, none⟩ (.int .i64 (dr : Int))).setCell ⟨g8, 2, none⟩ (.slice at1 nT ct1)).ownsRow w.heap.size 46 4 (.slice ao1 r co1) r (obsC O) ∧ (((V.setCell ⟨g8, 0, none⟩ (.int .i64 (fl : Int))).setCell ⟨g8, 1, none⟩ (.int .i64 (dr : Int))).setCell ⟨g8, 2, none⟩ (.slice at1 nT ct1)).ownsRow w.heap.size 3 1 (.slice (some ⟨gq, 0, none⟩) r1 capq) r1 (zsC LQ)) := ⟨owns_put3 HT.out.1 (by decide) HRP.out.1 _ _ _, owns_put3 HT.out.1 (by decide) HRP.out.2 _ _ _⟩
        refine hK.out _ _ hS2 (fun _ => ?_)
        clear hK K hS q0 q1 q2 f5 hne HT HP HB HRT HRP
        (try simp only [Act.put])
        revert HB2 hS2 HT2 HP2 HRT2 HRP2
        generalize (((V.setCell ⟨g8, 0, none⟩ (.int .i64 (fl : Int))).setCell ⟨g8, 1, none⟩ (.int .i64 (dr : Int))).setCell ⟨g8, 2, none⟩ (.slice at1 nT ct1)) = V2
        intro HB hS HT HP HRT HRP
        revert HB hS HT HP HRT HRP
        generalize V2 = V
        intro HB hS HT HP HRT HRP
        refine wpAnyH_ready (rs := [9]) (by kernel_rfl) (by simp) ?_
        refine AllReadyH.cons (o := { dst := none, op := .store 32 (.tmp 9) (.tmp 30), type := _, pos := _, after := _, guard := none }) rfl (fun K hK => ?_) AllReadyH.nil
        obtain ⟨q0, q1⟩ := cells2 HP.out.1
        have f5 : ∀ j, V.frozen? ⟨g9, j, none⟩ = false := fun j => frozen_of_heap HP.out.1
        go_simp
        have HB2 : Hid (Below V0.heap.size V0 ((V.setCell ⟨g9, 0, none⟩ (.slice ao1 r co1)).setCell ⟨g9, 1, none⟩ (.slice (some ⟨gq, 1, none⟩) nQ cq))) := (HB.out.setCell HP.out.2 _).setCell HP.out.2 _
        have hS2 := HCD.out _ HB2.out
        have hne : g8 ≠ g9 := ty_ne HT.out.1 HP.out.1 (by decide)
        have HT2 : Hid (((V.setCell ⟨g9, 0, none⟩ (.slice ao1 r co1)).setCell ⟨g9, 1, none⟩ (.slice (some ⟨gq, 1, none⟩) nQ cq)).heap[g8]? = some (.cells #[.int .i64 (fl : Int), .int .i64 (dr : Int), .slice at1 nT ct1] 28 (0, 0)) ∧ V0.heap.size ≤ g8) := ⟨by rw [heap_setCell_other _ _ _ _ hne, heap_setCell_other _ _ _ _ hne]; exact HT.out.1, HT.out.2⟩
        have HP2 : Hid (((V.setCell ⟨g9, 0, none⟩ (.slice ao1 r co1)).setCell ⟨g9, 1, none⟩ (.slice (some ⟨gq, 1, none⟩) nQ cq)).heap[g9]? = some (.cells #[.slice ao1 r co1, .slice (some ⟨gq, 1, none⟩) nQ cq] 32 (0, 0)) ∧ V0.heap.size ≤ g9) := ⟨Tr.put2A HP.out.1, HP.out.2⟩
        have HRT2 : Hid (((V.setCell ⟨g9, 0, none⟩ (.slice ao1 r co1)).setCell ⟨g9, 1, none⟩ (.slice (some ⟨gq, 1, none⟩) nQ cq)).ownsRow w.heap.size 44 5 (.slice at1 nT ct1) nT (ndsC T)) := owns_put2 HP.out.1 (by decide) HRT.out _ _
        have HRP2 : Hid (((V.setCell ⟨g9, 0, none⟩ (.slice ao1 r co1)).setCell ⟨g9, 1, none⟩ (.slice (some ⟨gq, 1, none⟩) nQ cq)).ownsRow w.heap.size 46 4 (.slice ao1 r co1) r (obsC O) ∧ ((V.setCell ⟨g9, 0, none⟩ (.slice ao1 r co1)).setCell ⟨g9, 1, none⟩ (.slice (some ⟨gq, 1, none⟩) nQ cq)).ownsRow w.heap.size 3 1 (.slice (some ⟨gq, 0, none⟩) r1 capq) r1 (zsC LQ)) := ⟨owns_put2 HP.out.1 (by decide) HRP.out.1 _ _, owns_put2 HP.out.1 (by decide) HRP.out.2 _ _⟩
        refine hK.out _ _ hS2 (fun _ => ?_)
        clear hK K hS q0 q1 f5 hne HT HP HB HRT HRP
        (try simp only [Act.put])
        revert HB2 hS2 HT2 HP2 HRT2 HRP2
        generalize ((V.setCell ⟨g9, 0, none⟩ (.slice ao1 r co1)).setCell ⟨g9, 1, none⟩ (.slice (some ⟨gq, 1, none⟩) nQ cq)) = V2
        intro HB hS HT HP HRT HRP
        revert HB hS HT HP HRT HRP
        generalize V2 = V
        intro HB hS HT HP HRT HRP
        refine wpAnyH_done (by kernel_rfl) ?_ _
        go_wp2_with fail
        go_meet
        exact ⟨g8, g9, at1, ct1, ao1, co1, gq, capq, cq, rfl, rfl, HCQ.out, ⟨HT.out.1, HP.out.1, HT.out.2, HP.out.2⟩, HRT.out, HRP.out, HB.out⟩
  case rest =>
  obtain ⟨g8, g9, at1, ct1, ao1, co1, gq, capq, cq, rfl, rfl, HCQ, HG, HRT, HRP, HBc⟩ := hcut
  clear y0 y1 y2 y3 y4 y5 KRT KRP
  obtain ⟨y0, y1, y2, y3, y4, y5⟩ := HCD.out wc HBc.out
  obtain ⟨t0, t1, t2⟩ := cells3 HG.out.1
  obtain ⟨p0, p1⟩ := cells2 HG.out.2.1
  have hg8 : V0.heap.size ≤ g8 := HG.out.2.2.1
  have hg9 : V0.heap.size ≤ g9 := HG.out.2.2.2
  have KE1 := (KE.out wc HBc.out at1 ct1 ao1 co1 gq capq cq HCQ.out HRT.out HRP.out.1 HRP.out.2).2
  go_wp2_with fail
  refine KE1.mono ?_
  rintro e w5 ⟨a5, k5, rfl, ho5, hb5⟩
  have HB5 : Hid (Below V0.heap.size V0 w5) := below_on hb5 HBc.out
  have HG5 : Hid (w5.heap[g8]? = some (.cells #[.int .i64 (fl : Int), .int .i64 (dr : Int), .slice at1 nT ct1] 28 (0, 0)) ∧ w5.heap[g9]? = some (.cells #[.slice ao1 r co1, .slice (some ⟨gq, 1, none⟩) nQ cq] 32 (0, 0)) ∧ w5.ownsRow w.heap.size 44 5 (.slice at1 nT ct1) nT (ndsC T) ∧ w5.ownsRow w.heap.size 46 4 (.slice ao1 r co1) r (obsC O) ∧ w5.ownsRow w.heap.size 3 1 (.slice (some ⟨gq, 0, none⟩) r1 capq) r1 (zsC LQ)) := ⟨(hb5.block _ (heap_lt HG.out.1)).trans HG.out.1, (hb5.block _ (heap_lt HG.out.2.1)).trans HG.out.2.1, owns_below HRT.out hb5, owns_below HRP.out.1 hb5, owns_below HRP.out.2 hb5⟩
  have KQ1 := KQ.out w5 HB5.out a5 k5 (see_own ho5 (sc_one _))
  clear KE1 HG HRT HRP ho5 hb5 KQ y0 y1 y2 y3 y4 y5 t0 t1 t2 p0 p1
  go_wp2_with fail
  refine KQ1.mono ?_
  rintro e w6 ⟨rfl, hb6⟩
  have HB6 : Hid (Below V0.heap.size V0 w6) := below_on hb6 HB5.out
  have HG6 : Hid (w6.heap[g8]? = some (.cells #[.int .i64 (fl : Int), .int .i64 (dr : Int), .slice at1 nT ct1] 28 (0, 0)) ∧ w6.heap[g9]? = some (.cells #[.slice ao1 r co1, .slice (some ⟨gq, 1, none⟩) nQ cq] 32 (0, 0)) ∧ w6.ownsRow w.heap.size 44 5 (.slice at1 nT ct1) nT (ndsC T) ∧ w6.ownsRow w.heap.size 46 4 (.slice ao1 r co1) r (obsC O) ∧ w6.ownsRow w.heap.size 3 1 (.slice (some ⟨gq, 0, none⟩) r1 capq) r1 (zsC LQ)) := ⟨(hb6.block _ (heap_lt HG5.out.1)).trans HG5.out.1, (hb6.block _ (heap_lt HG5.out.2.1)).trans HG5.out.2.1, owns_below HG5.out.2.2.1 hb6, owns_below HG5.out.2.2.2.1 hb6, owns_below HG5.out.2.2.2.2 hb6⟩
  clear KQ1 HG5 hb6
  go_upto_region 10 with fail
  have HBV6 : Hid (Below V0.heap.size V0 w6.drew) := HB6.out.drew
  have HGV : Hid (w6.drew.heap[g8]? = some (.cells #[.int .i64 (fl : Int), .int .i64 (dr : Int), .slice at1 nT ct1] 28 (0, 0)) ∧ w6.drew.heap[g9]? = some (.cells #[.slice ao1 r co1, .slice (some ⟨gq, 1, none⟩) nQ cq] 32 (0, 0)) ∧ w6.drew.ownsRow w.heap.size 44 5 (.slice at1 nT ct1) nT (ndsC T) ∧ w6.drew.ownsRow w.heap.size 46 4 (.slice ao1 r co1) r (obsC O) ∧ w6.drew.ownsRow w.heap.size 3 1 (.slice (some ⟨gq, 0, none⟩) r1 capq) r1 (zsC LQ)) := by
    have hd : Below w6.heap.size w6 w6.drew := (Below.refl _ _).drew
    exact ⟨HG6.out.1, HG6.out.2.1, owns_below HG6.out.2.2.1 hd, owns_below HG6.out.2.2.2.1 hd, owns_below HG6.out.2.2.2.2 hd⟩
  have hS0 : ∀ W, W = w6.drew → (W.cell? ⟨g8, 0, none⟩ = some (.int .i64 (fl : Int)) ∧ W.cell? ⟨g8, 1, none⟩ = some (.int .i64 (dr : Int)) ∧ W.cell? ⟨g8, 2, none⟩ = some (.slice at1 nT ct1)) ∧ W.cell? ⟨g9, 0, none⟩ = some (.slice ao1 r co1) ∧ W.cell? ⟨g9, 1, none⟩ = some (.slice (some ⟨gq, 1, none⟩) nQ cq) := fun W hW => by subst hW; exact ⟨cells3 HGV.out.1, cells2 HGV.out.2.1⟩
  refine wp_region_held_drew (S := fun W => (W.cell? ⟨g8, 0, none⟩ = some (.int .i64 (fl : Int)) ∧ W.cell? ⟨g8, 1, none⟩ = some (.int .i64 (dr : Int)) ∧ W.cell? ⟨g8, 2, none⟩ = some (.slice at1 nT ct1)) ∧ W.cell? ⟨g9, 0, none⟩ = some (.slice ao1 r co1) ∧ W.cell? ⟨g9, 1, none⟩ = some (.slice (some ⟨gq, 1, none⟩) nQ cq)) (by kernel_rfl) (hS0 _ rfl) ?_
  intro hS
  clear hS0 HG6 HB6
  revert hS HBV6 HGV
  generalize w6.drew = V
  intro HBV6 HGV hS
  obtain ⟨z1, z2⟩ := HZ.out V HBV6.out
  obtain ⟨-, -, -, -, -, -, -, HE0⟩ := zero5 (w := w) z1 z2 (HW.out _ HBV6.out) (by omega) (.int .i64 (fl : Int)) (.int .i64 (dr : Int)) (.slice at1 nT ct1) (.slice ao1 r co1) (.slice (some ⟨gq, 1, none⟩) nQ cq)
  have HE : Hid ((((((V.setCell ⟨w.heap.size + 1, 0, none⟩ (.int .i64 (fl : Int))).setCell ⟨w.heap.size + 1, 1, none⟩ (.int .i64 (dr : Int))).setCell ⟨w.heap.size + 1, 2, none⟩ (.slice at1 nT ct1)).setCell ⟨w.heap.size + 2, 0, none⟩ (.slice ao1 r co1)).setCell ⟨w.heap.size + 2, 1, none⟩ (.slice (some ⟨gq, 1, none⟩) nQ cq)).heap[w.heap.size + 1]? = some (.cells #[.int .i64 (fl : Int), .int .i64 (dr : Int), .slice at1 nT ct1] 28 (0, 0)) ∧ (((((V.setCell ⟨w.heap.size + 1, 0, none⟩ (.int .i64 (fl : Int))).setCell ⟨w.heap.size + 1, 1, none⟩ (.int .i64 (dr : Int))).setCell ⟨w.heap.size + 1, 2, none⟩ (.slice at1 nT ct1)).setCell ⟨w.heap.size + 2, 0, none⟩ (.slice ao1 r co1)).setCell ⟨w.heap.size + 2, 1, none⟩ (.slice (some ⟨gq, 1, none⟩) nQ cq)).heap[w.heap.size + 2]? = some (.cells #[.slice ao1 r co1, .slice (some ⟨gq, 1, none⟩) nQ cq] 32 (0, 0)) ∧ Below w.heap.size w (((((V.setCell ⟨w.heap.size + 1, 0, none⟩ (.int .i64 (fl : Int))).setCell ⟨w.heap.size + 1, 1, none⟩ (.int .i64 (dr : Int))).setCell ⟨w.heap.size + 1, 2, none⟩ (.slice at1 nT ct1)).setCell ⟨w.heap.size + 2, 0, none⟩ (.slice ao1 r co1)).setCell ⟨w.heap.size + 2, 1, none⟩ (.slice (some ⟨gq, 1, none⟩) nQ cq))) := HE0.out
  have HZ1 : Hid (V.heap[w.heap.size + 1]? = some (.cells #[.int .i64 0, .int .i64 0, .slice none 0 0] 28 (0, 0))) := z1
  have HZ2 : Hid ((((V.setCell ⟨w.heap.size + 1, 0, none⟩ (.int .i64 (fl : Int))).setCell ⟨w.heap.size + 1, 1, none⟩ (.int .i64 (dr : Int))).setCell ⟨w.heap.size + 1, 2, none⟩ (.slice at1 nT ct1)).heap[w.heap.size + 2]? = some (.cells #[.slice none 0 0, .slice none 0 0] 32 (0, 0))) := by
    have n2 : w.heap.size + 2 ≠ w.heap.size + 1 := by omega
    show (((V.setCell ⟨w.heap.size + 1, 0, none⟩ (.int .i64 (fl : Int))).setCell ⟨w.heap.size + 1, 1, none⟩ (.int .i64 (dr : Int))).setCell ⟨w.heap.size + 1, 2, none⟩ (.slice at1 nT ct1)).heap[w.heap.size + 2]? = _
    rw [heap_setCell_other _ _ _ _ n2, heap_setCell_other _ _ _ _ n2, heap_setCell_other _ _ _ _ n2]
    exact z2
  have n8 : g8 ≠ w.heap.size + 1 ∧ g8 ≠ w.heap.size + 2 ∧ g9 ≠ w.heap.size + 1 ∧ g9 ≠ w.heap.size + 2 := by omega
  have HKA : Hid (∀ Y, Y = (((V.setCell ⟨w.heap.size + 1, 0, none⟩ (.int .i64 (fl : Int))).setCell ⟨w.heap.size + 1, 1, none⟩ (.int .i64 (dr : Int))).setCell ⟨w.heap.size + 1, 2, none⟩ (.slice at1 nT ct1)) → (Y.cell? ⟨g8, 0, none⟩ = some (.int .i64 (fl : Int)) ∧ Y.cell? ⟨g8, 1, none⟩ = some (.int .i64 (dr : Int)) ∧ Y.cell? ⟨g8, 2, none⟩ = some (.slice at1 nT ct1)) ∧ Y.cell? ⟨g9, 0, none⟩ = some (.slice ao1 r co1) ∧ Y.cell? ⟨g9, 1, none⟩ = some (.slice (some ⟨gq, 1, none⟩) nQ cq)) := fun Y hY => by
    subst hY
    refine ⟨cells3 (t := 28) ?_, cells2 (t := 32) ?_⟩
    · rw [heap_setCell_other _ _ _ _ n8.1, heap_setCell_other _ _ _ _ n8.1, heap_setCell_other _ _ _ _ n8.1]
      exact HGV.out.1
    · rw [heap_setCell_other _ _ _ _ n8.2.2.1, heap_setCell_other _ _ _ _ n8.2.2.1, heap_setCell_other _ _ _ _ n8.2.2.1]
      exact HGV.out.2.1
  have HKB : Hid (∀ Y, Y = (((((V.setCell ⟨w.heap.size + 1, 0, none⟩ (.int .i64 (fl : Int))).setCell ⟨w.heap.size + 1, 1, none⟩ (.int .i64 (dr : Int))).setCell ⟨w.heap.size + 1, 2, none⟩ (.slice at1 nT ct1)).setCell ⟨w.heap.size + 2, 0, none⟩ (.slice ao1 r co1)).setCell ⟨w.heap.size + 2, 1, none⟩ (.slice (some ⟨gq, 1, none⟩) nQ cq)) → (Y.cell? ⟨g8, 0, none⟩ = some (.int .i64 (fl : Int)) ∧ Y.cell? ⟨g8, 1, none⟩ = some (.int .i64 (dr : Int)) ∧ Y.cell? ⟨g8, 2, none⟩ = some (.slice at1 nT ct1)) ∧ Y.cell? ⟨g9, 0, none⟩ = some (.slice ao1 r co1) ∧ Y.cell? ⟨g9, 1, none⟩ = some (.slice (some ⟨gq, 1, none⟩) nQ cq)) := fun Y hY => by
    subst hY
    refine ⟨cells3 (t := 28) ?_, cells2 (t := 32) ?_⟩
    · rw [heap_setCell_other _ _ _ _ n8.2.1, heap_setCell_other _ _ _ _ n8.2.1, heap_setCell_other _ _ _ _ n8.1, heap_setCell_other _ _ _ _ n8.1, heap_setCell_other _ _ _ _ n8.1]
      exact HGV.out.1
    · rw [heap_setCell_other _ _ _ _ n8.2.2.2, heap_setCell_other _ _ _ _ n8.2.2.2, heap_setCell_other _ _ _ _ n8.2.2.1, heap_setCell_other _ _ _ _ n8.2.2.1, heap_setCell_other _ _ _ _ n8.2.2.1]
      exact HGV.out.2.1
  have HFIN : Hid ((((((V.setCell ⟨w.heap.size + 1, 0, none⟩ (.int .i64 (fl : Int))).setCell ⟨w.heap.size + 1, 1, none⟩ (.int .i64 (dr : Int))).setCell ⟨w.heap.size + 1, 2, none⟩ (.slice at1 nT ct1)).setCell ⟨w.heap.size + 2, 0, none⟩ (.slice ao1 r co1)).setCell ⟨w.heap.size + 2, 1, none⟩ (.slice (some ⟨gq, 1, none⟩) nQ cq)).ownsRow w.heap.size 44 5 (.slice at1 nT ct1) nT (ndsC T) ∧ (((((V.setCell ⟨w.heap.size + 1, 0, none⟩ (.int .i64 (fl : Int))).setCell ⟨w.heap.size + 1, 1, none⟩ (.int .i64 (dr : Int))).setCell ⟨w.heap.size + 1, 2, none⟩ (.slice at1 nT ct1)).setCell ⟨w.heap.size + 2, 0, none⟩ (.slice ao1 r co1)).setCell ⟨w.heap.size + 2, 1, none⟩ (.slice (some ⟨gq, 1, none⟩) nQ cq)).ownsRow w.heap.size 46 4 (.slice ao1 r co1) r (obsC O) ∧ See (((((V.setCell ⟨w.heap.size + 1, 0, none⟩ (.int .i64 (fl : Int))).setCell ⟨w.heap.size + 1, 1, none⟩ (.int .i64 (dr : Int))).setCell ⟨w.heap.size + 1, 2, none⟩ (.slice at1 nT ct1)).setCell ⟨w.heap.size + 2, 0, none⟩ (.slice ao1 r co1)).setCell ⟨w.heap.size + 2, 1, none⟩ (.slice (some ⟨gq, 1, none⟩) nQ cq)) 1 (.slice (some ⟨gq, 1, none⟩) nQ cq) nQ (zsC Q)) := ⟨owns_put5 z1 z2 (by decide) (by decide) HGV.out.2.2.1 _ _ _ _ _, owns_put5 z1 z2 (by decide) (by decide) HGV.out.2.2.2.1 _ _ _ _ _, HQS.out _ gq capq cq HCQ.out (owns_put5 z1 z2 (by decide) (by decide) HGV.out.2.2.2.2 _ _ _ _ _)⟩
  clear n8 z1 z2 HE0 HGV
  refine wpAnyH_take (i := 0) (oi := { dst := some 48, op := .load 28 (.tmp 8), type := _, pos := _, after := _, guard := none }) (v := .agg #[.int .i64 (fl : Int), .int .i64 (dr : Int), .slice at1 nT ct1]) rfl (by kernel_rfl) (by kernel_rfl) (by kernel_rfl) (fun _ _ _ h => h) (Or.inl ⟨by rfl, by intro x hx; obtain ⟨⟨h0, h1, h2⟩, h3, h4⟩ := hx; go_simp⟩) hS ?_
  (try simp only [Act.put, List.setIfInBounds_toArray, List.set_cons_zero, List.set_cons_succ])
  refine wpAnyH_take (i := 1) (oi := { dst := some 49, op := .load 32 (.tmp 9), type := _, pos := _, after := _, guard := none }) (v := .agg #[.slice ao1 r co1, .slice (some ⟨gq, 1, none⟩) nQ cq]) rfl (by kernel_rfl) (by kernel_rfl) (by kernel_rfl) (fun _ _ _ h => h) (Or.inl ⟨by rfl, by intro x hx; obtain ⟨⟨h0, h1, h2⟩, h3, h4⟩ := hx; go_simp⟩) hS ?_
  (try simp only [Act.put, List.setIfInBounds_toArray, List.set_cons_zero, List.set_cons_succ])
  refine wpAnyH_ready (rs := [2]) (by kernel_rfl) (by simp) ?_
  refine AllReadyH.cons (o := { dst := none, op := .store 28 (.tmp 4) (.tmp 48), type := _, pos := _, after := _, guard := none }) rfl (fun K hK => ?_) AllReadyH.nil
  obtain ⟨q0, q1, q2⟩ := cells3 HZ1.out
  have f5 : ∀ j, V.frozen? ⟨w.heap.size + 1, j, none⟩ = false := fun j => frozen_of_heap HZ1.out
  go_simp
  clear q0 q1 q2 f5
  have hS2 := HKA.out _ rfl
  with_reducible refine hK.out _ _ hS2 (fun _ => ?_)
  clear hK K hS
  (try simp only [Act.put])
  have hS := hS2
  clear hS2
  refine wpAnyH_ready (rs := [3]) (by kernel_rfl) (by simp) ?_
  refine AllReadyH.cons (o := { dst := none, op := .store 32 (.tmp 5) (.tmp 49), type := _, pos := _, after := _, guard := none }) rfl (fun K hK => ?_) AllReadyH.nil
  obtain ⟨q0, q1⟩ := cells2 HZ2.out
  have f5 : ∀ j, (((V.setCell ⟨w.heap.size + 1, 0, none⟩ (.int .i64 (fl : Int))).setCell ⟨w.heap.size + 1, 1, none⟩ (.int .i64 (dr : Int))).setCell ⟨w.heap.size + 1, 2, none⟩ (.slice at1 nT ct1)).frozen? ⟨w.heap.size + 2, j, none⟩ = false := fun j => frozen_of_heap HZ2.out
  go_simp
  clear q0 q1 f5
  have hS2 := HKB.out _ rfl
  with_reducible refine hK.out _ _ hS2 (fun _ => ?_)
  clear hK K hS
  (try simp only [Act.put])
  have hS := hS2
  clear hS2
  refine wpAnyH_take (i := 4) (oi := { dst := some 6, op := .assign (.const (.int .i64 0)), type := _, pos := _, after := _, guard := none }) (v := .int .i64 0) rfl (by kernel_rfl) (by kernel_rfl) (by kernel_rfl) (fun _ _ _ h => h) (Or.inl ⟨by rfl, by intro x _; go_simp⟩) hS ?_
  (try simp only [Act.put, List.setIfInBounds_toArray, List.set_cons_zero, List.set_cons_succ])
  refine wpAnyH_done (by kernel_rfl) ?_ _
  clear hS
  go_wp2
  refine bodyPost_ret (Tr.results_cell2t rfl _ _ (w.heap.size + 1) 28 _ (0, 0) _ (w.heap.size + 2) 32 _ (0, 0) _ rfl HE.out.1 Tryd.underlying28 rfl size56 rfl HE.out.2.1 Tryd.underlying32 rfl size59) rfl ?_
  exact ⟨_, _, _, _, _, _, rfl, HFIN.out.1, HFIN.out.2.1, HFIN.out.2.2, HE.out.2.2⟩
end Go.Proofs.YtbdgbefjmfcgcaaDoor.Ix
