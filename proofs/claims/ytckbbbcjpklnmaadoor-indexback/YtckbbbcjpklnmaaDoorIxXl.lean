import Derived.Test.YtckbbbcjpklnmaaDoorIxXj
import Derived.Test.YtckbbbcjpklnmaaDoorIxXk
import Derived.Test.YtckbbbcjpklnmaaDoorIxZh
namespace Go.Proofs.YtckbbbcjpklnmaaDoor.Ix
open Go.RowKit Go.Lib Go.Deep
set_option maxRecDepth 20000 in
set_option maxHeartbeats 8000000 in
theorem back_walk (raw : Cf) (Y Z : List Int) (w : World) (hT : RT w) (a1 : Option Addr) (n1 k1 : Nat) (hS1 : See w 1 (.slice a1 n1 k1) n1 (zsC Y)) (hn1 : Y.length = n1) (a2 : Option Addr) (n2 k2 : Nat) (hS2 : See w 1 (.slice a2 n2 k2) n2 (zsC Z)) (hn2 : Z.length = n2) (hb2' : n2 ≤ 1099511627776000) :
    Calls Tryd.prog 8 #[cfV raw, .slice a1 n1 k1, .slice a2 n2 k2] w fun e w' => e = .returned (.bool true) ∧ Below w.heap.size w w' := by
  obtain ⟨u0, u1, u2, u3, u4, u5⟩ := raw
  have KMr : ∀ (X : World), Calls Tryd.prog 14 #[.agg #[.int .i64 u0, .int .i64 u1, .int .i64 u2, .int .i64 u3, .int .i64 u4, .int .i64 u5]] X fun e w' => ∃ sl fl dr mf ls pg : Nat, Mde ⟨sl, fl, dr, mf, ls, pg⟩ ∧ e = .returned (.agg #[.int .i64 (sl : Int), .int .i64 (fl : Int), .int .i64 (dr : Int), .int .i64 (mf : Int), .int .i64 (ls : Int), .int .i64 (pg : Int)]) ∧ Below X.heap.size X w' := fun X => by
    refine (made_any ⟨u0, u1, u2, u3, u4, u5⟩ X).mono ?_
    rintro e w' ⟨⟨sl, fl, dr, mf, ls, pg⟩, h1, rfl, h3⟩
    exact ⟨sl, fl, dr, mf, ls, pg, h1, rfl, h3⟩
  show Calls Tryd.prog 8 #[.agg #[.int .i64 u0, .int .i64 u1, .int .i64 u2, .int .i64 u3, .int .i64 u4, .int .i64 u5], .slice a1 n1 k1, .slice a2 n2 k2] w _
  obtain ⟨V, hV, hbV, g0⟩ := one_new w #[.int .i64 u0, .int .i64 u1, .int .i64 u2, .int .i64 u3, .int .i64 u4, .int .i64 u5] 23
  obtain ⟨y0, y1, y2, y3, y4, y5⟩ := cells6 g0
  have HBV : Hid (Below w.heap.size w V) := hbV
  have HT : Hid (RT w) := hT
  have HS1 : Hid (See w 1 (.slice a1 n1 k1) n1 (zsC Y)) := hS1
  have HS2 : Hid (See w 1 (.slice a2 n2 k2) n2 (zsC Z)) := hS2
  clear hbV g0 hT hS1 hS2
  go_enter Tryd.func8, Tryd.ntmps8
  go_wp2_with fail
  refine (KMr _).mono ?_
  rintro e w1 ⟨sl, fl, dr, mf, ls, pg, hmd, rfl, hb1⟩
  have hb1w : Below w.heap.size w w1 := below_on hb1 HBV.out
  obtain ⟨W1, hW1, hbW1, gc⟩ := one_new w1 #[.int .i64 (sl : Int), .int .i64 (fl : Int), .int .i64 (dr : Int), .int .i64 (mf : Int), .int .i64 (ls : Int), .int .i64 (pg : Int)] 23
  have HBW : Hid (Below w.heap.size w W1) := below_on hbW1 hb1w
  have HCD : Hid (∀ X, Below W1.heap.size W1 X → X.cell? ⟨w1.heap.size, 0, none⟩ = some (.int .i64 (sl : Int)) ∧ X.cell? ⟨w1.heap.size, 1, none⟩ = some (.int .i64 (fl : Int)) ∧ X.cell? ⟨w1.heap.size, 2, none⟩ = some (.int .i64 (dr : Int)) ∧ X.cell? ⟨w1.heap.size, 3, none⟩ = some (.int .i64 (mf : Int)) ∧ X.cell? ⟨w1.heap.size, 4, none⟩ = some (.int .i64 (ls : Int)) ∧ X.cell? ⟨w1.heap.size, 5, none⟩ = some (.int .i64 (pg : Int))) := fun X hX => cells6 ((hX.block _ (heap_lt gc)).trans gc)
  have HW : Hid (∀ X, Below W1.heap.size W1 X → Below w.heap.size w X) := fun X hX => below_on hX HBW.out
  have hmay := hmd.may
  obtain ⟨c0, c1, c2, c3, c4, c5⟩ := cells6 gc
  have KMT := madeTree_any sl fl dr mf ls pg hmd Y W1 a1 n1 k1 (HS1.out.below HBW.out) hn1
  have HMD : Hid (Mde ⟨sl, fl, dr, mf, ls, pg⟩) := hmd
  have hm2 : Cn.pgs ⟨sl, fl, dr, mf, ls, pg⟩ ≤ 1024 := hmay.2
  have HMY : Hid (Cn.May ⟨sl, fl, dr, mf, ls, pg⟩) := hmay
  clear KMr hb1 gc y0 y1 y2 y3 y4 y5 hV hb1w hbW1 hmd hmay HBV
  go_wp2_with fail
  refine KMT.mono ?_
  rintro e w2 ⟨T, a3, c3', hris, hTl, rfl, ho2, hb2⟩
  generalize hnT : T.length = nT at *
  have HNT : Hid (T.length = nT) := hnT
  have HRS : Hid (risB ⟨sl, fl, dr, mf, ls, pg⟩ 0 T = true) := hris
  obtain ⟨W2, hW2, hbW2, gT⟩ := one_new w2 #[.int .i64 (fl : Int), .int .i64 (dr : Int), .slice a3 nT c3'] 56
  have HB2 : Hid (Below W1.heap.size W1 W2) := below_on hbW2 hb2
  have HT2 : Hid (W2.heap[w2.heap.size]? = some (.cells #[.int .i64 (fl : Int), .int .i64 (dr : Int), .slice a3 nT c3'] 56 (0, 0)) ∧ W2.ownsRow W1.heap.size 91 5 (.slice a3 nT c3') nT (ndsC T)) := ⟨gT, owns_below ho2 hbW2⟩
  have KMP := madePool_any sl fl dr mf ls pg HMD.out Z W2 a2 n2 k2 (HS2.out.below (HW.out _ HB2.out)) hn2 hb2'
  clear KMT hb2 ho2 hbW2 gT hnT hris c0 c1 c2 c3 c4 c5 hW1
  obtain ⟨c0, c1, c2, c3, c4, c5⟩ := HCD.out W2 HB2.out
  go_wp2_with fail
  refine KMP.mono ?_
  rintro e w3 ⟨O, Q, ao, co, aq, cq, hpl, rfl, ho3, hq3, hb3⟩
  have hOl : O.length = fl + sl := (pool_iff.1 hpl).1.1
  have HPL : Hid (poolB ⟨sl, fl, dr, mf, ls, pg⟩ O Q = true) := hpl
  have hQl : Q.length ≤ 1000000 := by
    have h1 : Q.length ≤ fl + sl := (pool_iff.1 hpl).1.2
    have h2 : fl ≤ 64 := HMD.out.fl
    have h3 : sl ≤ 64 := HMD.out.sl
    omega
  have hrl : fl + sl ≤ 1000000 := by
    have h2 : fl ≤ 64 := HMD.out.fl
    have h3 : sl ≤ 64 := HMD.out.sl
    omega
  rw [hOl] at ho3 ⊢
  obtain ⟨r, hr⟩ : ∃ r, fl + sl = r := ⟨_, rfl⟩
  rw [hr] at ho3 hOl hrl ⊢
  have HR : Hid (fl + sl = r) := hr
  have HOL : Hid (O.length = r) := hOl
  generalize hnQ : Q.length = nQ at *
  have HNQ : Hid (Q.length = nQ) := hnQ
  obtain ⟨W3, hW3, hbW3, gP⟩ := one_new w3 #[.slice ao r co, .slice aq nQ cq] 59
  have hb23 : Below W2.heap.size W2 W3 := below_on hbW3 hb3
  have HB3 : Hid (Below W1.heap.size W1 W3) := below_on hb23 HB2.out
  have HT3 : Hid (W3.heap[w2.heap.size]? = some (.cells #[.int .i64 (fl : Int), .int .i64 (dr : Int), .slice a3 nT c3'] 56 (0, 0)) ∧ W3.heap[w3.heap.size]? = some (.cells #[.slice ao r co, .slice aq nQ cq] 59 (0, 0)) ∧ W3.ownsRow W1.heap.size 91 5 (.slice a3 nT c3') nT (ndsC T) ∧ W3.ownsRow W2.heap.size 93 4 (.slice ao r co) r (obsC O) ∧ W3.ownsRow W2.heap.size 3 1 (.slice aq nQ cq) nQ (zsC Q)) := ⟨(hb23.block _ (heap_lt HT2.out.1)).trans HT2.out.1, gP, owns_below HT2.out.2 hb23, owns_below ho3 hbW3, owns_below hq3 hbW3⟩
  have KEn := encode_any sl fl dr mf ls pg HMY.out T O Q HRS.out HPL.out W3 (HT.out.next (HW.out _ HB3.out)) a3 nT c3' (see_own HT3.out.2.2.1 (nds_one _)) HNT.out (by omega) ao r co (see_own HT3.out.2.2.2.1 (obs_one _)) HOL.out aq nQ cq (see_own HT3.out.2.2.2.2 (zs_one _)) HNQ.out
  have KDe : Hid (∀ X a k, Below W1.heap.size W1 X → See X 1 (.slice a (Cn.pgs ⟨sl, fl, dr, mf, ls, pg⟩) k) (Cn.pgs ⟨sl, fl, dr, mf, ls, pg⟩) (scC (cutL (pg - 5) (Cn.pgs ⟨sl, fl, dr, mf, ls, pg⟩) (whoL ⟨sl, fl, dr, mf, ls, pg⟩ T O Q))) → _) := fun X a k hX hs => decode_good sl fl dr mf ls pg HMY.out T O Q HRS.out HPL.out X (HT.out.next (HW.out X hX)) a k hs (by have := HNT.out; omega)
  have KCk : Hid (∀ X, Below W1.heap.size W1 X → _) := fun X hX => check_any (Cn.cf ⟨sl, fl, dr, mf, ls, pg⟩) X (HT.out.next (HW.out X hX))
  rw [show chkE (Cn.cf ⟨sl, fl, dr, mf, ls, pg⟩) = 0 from if_pos HMY.out.cf] at KCk
  have hab := who_ab HMY.out HRS.out HPL.out
  have KSh : Hid (∀ X a k, Below W1.heap.size W1 X → See X 1 (.slice a (Cn.pgs ⟨sl, fl, dr, mf, ls, pg⟩) k) (Cn.pgs ⟨sl, fl, dr, mf, ls, pg⟩) (scC (cutL (pg - 5) (Cn.pgs ⟨sl, fl, dr, mf, ls, pg⟩) (whoL ⟨sl, fl, dr, mf, ls, pg⟩ T O Q))) → _) := fun X a k hX hs => shaped_any sl fl dr mf ls pg HMY.out _ hab X (HT.out.next (HW.out X hX)) a _ k hs (cut_len _ _ _)
  rw [HNT.out, HR.out, HNQ.out] at KDe
  obtain ⟨P, hP⟩ : ∃ P, cutL (pg - 5) (Cn.pgs ⟨sl, fl, dr, mf, ls, pg⟩) (whoL ⟨sl, fl, dr, mf, ls, pg⟩ T O Q) = P := ⟨_, rfl⟩
  rw [hP] at KEn KDe KSh
  generalize Cn.pgs ⟨sl, fl, dr, mf, ls, pg⟩ = m at *
  clear KMP hb3 ho3 hq3 hb23 hbW3 gP hr hOl hnQ hpl hab hP HT2 c0 c1 c2 c3 c4 c5 hW2
  obtain ⟨c0, c1, c2, c3, c4, c5⟩ := HCD.out W3 HB3.out
  obtain ⟨t0, t1, t2⟩ := cells3 HT3.out.1
  obtain ⟨p0, p1⟩ := cells2 HT3.out.2.1
  go_wp2_with fail
  refine KEn.mono ?_
  rintro e w4 ⟨a4, k4, rfl, ho4, hb4⟩
  have HB4 : Hid (Below W1.heap.size W1 w4) := below_on hb4 HB3.out
  have HB34 : Hid (Below W3.heap.size W3 w4) := hb4
  have HO4 : Hid (w4.ownsRow W3.heap.size 9 1 (.slice a4 m k4) m (scC P)) := ho4
  clear KEn hb4 ho4 c0 c1 c2 c3 c4 c5 t0 t1 t2 p0 p1 hW3
  obtain ⟨c0, c1, c2, c3, c4, c5⟩ := HCD.out w4 HB4.out
  go_wp2_with fail
  refine (num_any _ _).mono ?_
  rintro e x4 ⟨rfl, hx4⟩
  subst hx4
  go_wp2_with fail
  refine (KCk.out _ HB4.out).mono ?_
  rintro e w5 ⟨rfl, hb5⟩
  have HB5 : Hid (Below W1.heap.size W1 w5) := below_on hb5 HB4.out
  have HB45 : Hid (Below W3.heap.size W3 w5) := below_on hb5 HB34.out
  have HO5 : Hid (w5.ownsRow W3.heap.size 9 1 (.slice a4 m k4) m (scC P)) := owns_below HO4.out hb5
  clear hb5 c0 c1 c2 c3 c4 c5 HO4 HB34 KCk
  obtain ⟨c0, c1, c2, c3, c4, c5⟩ := HCD.out w5 HB5.out
  go_wp2_with fail
  refine (num_any _ _).mono ?_
  rintro e x5 ⟨rfl, hx5⟩
  subst hx5
  go_wp2_with fail
  refine (KSh.out _ a4 k4 HB5.out (see_own HO5.out (sc_one _))).mono ?_
  rintro e w6 ⟨rfl, hb6⟩
  have HB6 : Hid (Below W1.heap.size W1 w6) := below_on hb6 HB5.out
  have HB36 : Hid (Below W3.heap.size W3 w6) := below_on hb6 HB45.out
  have KD6 := KDe.out w6 a4 k4 HB6.out (see_own (owns_below HO5.out hb6) (sc_one _))
  clear hb6 c0 c1 c2 c3 c4 c5 HO5 HB45 KSh KDe
  obtain ⟨c0, c1, c2, c3, c4, c5⟩ := HCD.out w6 HB6.out
  go_wp2_with fail
  refine KD6.mono ?_
  rintro e w7 ⟨at7, ct7, ao7, co7, g7, cq7, rfl, ho7, hob7, hsq7, hb7⟩
  obtain ⟨V7, hV7, hbV7, gA, gB⟩ := two_new w7 #[.int .i64 0, .int .i64 0, .slice none 0 0] #[.slice none 0 0, .slice none 0 0] 56 59
  obtain ⟨q0, q1, q2, q3, q4, f1, f2, HE⟩ := zero5 gA gB hbV7 (Nat.le_refl _) (.int .i64 (fl : Int)) (.int .i64 (dr : Int)) (.slice at7 nT ct7) (.slice ao7 r co7) (.slice (some ⟨g7, 1, none⟩) nQ cq7)
  obtain ⟨W8, hW8⟩ : ∃ W8, (((((V7.setCell ⟨w7.heap.size, 0, none⟩ (.int .i64 (fl : Int))).setCell ⟨w7.heap.size, 1, none⟩ (.int .i64 (dr : Int))).setCell ⟨w7.heap.size, 2, none⟩ (.slice at7 nT ct7)).setCell ⟨w7.heap.size + 1, 0, none⟩ (.slice ao7 r co7)).setCell ⟨w7.heap.size + 1, 1, none⟩ (.slice (some ⟨g7, 1, none⟩) nQ cq7)) = W8 := ⟨_, rfl⟩
  rw [hW8] at HE
  have hb8 : Below w7.heap.size w7 W8 := HE.out.2.2
  have HB38 : Hid (Below W3.heap.size W3 W8) := below_on hb8 (below_on hb7 HB36.out)
  have HX : Hid (∀ X, Below W8.heap.size W8 X → (X.cell? ⟨w2.heap.size, 0, none⟩ = some (.int .i64 (fl : Int)) ∧ X.cell? ⟨w2.heap.size, 1, none⟩ = some (.int .i64 (dr : Int)) ∧ X.cell? ⟨w2.heap.size, 2, none⟩ = some (.slice a3 nT c3')) ∧ (X.cell? ⟨w3.heap.size, 0, none⟩ = some (.slice ao r co) ∧ X.cell? ⟨w3.heap.size, 1, none⟩ = some (.slice aq nQ cq)) ∧ (X.cell? ⟨w7.heap.size, 0, none⟩ = some (.int .i64 (fl : Int)) ∧ X.cell? ⟨w7.heap.size, 1, none⟩ = some (.int .i64 (dr : Int)) ∧ X.cell? ⟨w7.heap.size, 2, none⟩ = some (.slice at7 nT ct7)) ∧ (X.cell? ⟨w7.heap.size + 1, 0, none⟩ = some (.slice ao7 r co7) ∧ X.cell? ⟨w7.heap.size + 1, 1, none⟩ = some (.slice (some ⟨g7, 1, none⟩) nQ cq7)) ∧ See X 5 (.slice a3 nT c3') nT (ndsC T) ∧ See X 5 (.slice at7 nT ct7) nT (ndsC T) ∧ See X 4 (.slice ao r co) r (obsC O) ∧ See X 4 (.slice ao7 r co7) r (obsC O) ∧ See X 1 (.slice aq nQ cq) nQ (zsC Q) ∧ See X 1 (.slice (some ⟨g7, 1, none⟩) nQ cq7) nQ (zsC Q) ∧ Below w.heap.size w X) := fun X hX => by
    have h3 := below_on hX HB38.out
    have h7 := below_on hX hb8
    exact ⟨cells3 ((h3.block _ (heap_lt HT3.out.1)).trans HT3.out.1), cells2 ((h3.block _ (heap_lt HT3.out.2.1)).trans HT3.out.2.1), cells3 ((hX.block _ (heap_lt HE.out.1)).trans HE.out.1), cells2 ((hX.block _ (heap_lt HE.out.2.1)).trans HE.out.2.1), see_own (owns_below HT3.out.2.2.1 h3) (nds_one _), see_own (owns_below ho7 h7) (nds_one _), see_own (owns_below HT3.out.2.2.2.1 h3) (obs_one _), see_own (owns_below hob7 h7) (obs_one _), see_own (owns_below HT3.out.2.2.2.2 h3) (zs_one _), hsq7.below h7, HW.out _ (below_on h3 HB3.out)⟩
  clear KD6 ho7 hob7 hsq7 hb7 hb8 gA gB hbV7 HE c0 c1 c2 c3 c4 c5
  obtain ⟨⟨t0, t1, t2⟩, ⟨p0, p1⟩, ⟨v0, v1, v2⟩, ⟨r0, r1⟩, hs1, hs2, -, -, -, -, -⟩ := HX.out W8 (Below.refl _ _)
  have KST := sameTree_any (fl : Int) (dr : Int) T W8 a3 at7 nT c3' ct7 hs1 hs2 HNT.out (by omega)
  go_wp2_with fail
  refine (num_any _ _).mono ?_
  rintro e x8 ⟨rfl, hx8⟩
  subst hx8
  go_wp2_with fail
  refine KST.mono ?_
  rintro e w9 ⟨rfl, hb9⟩
  have HB9 : Hid _ := hb9
  clear t0 t1 t2 p0 p1 v0 v1 v2 r0 r1 hs1 hs2 KST hb9
  obtain ⟨⟨t0, t1, t2⟩, ⟨p0, p1⟩, ⟨v0, v1, v2⟩, ⟨r0, r1⟩, -, -, hs3, hs4, hs5, hs6, -⟩ := HX.out w9 HB9.out
  have KSP := samePool_any O Q w9 ao ao7 aq (some ⟨g7, 1, none⟩) r nQ co co7 cq cq7 hs3 hs4 hs5 hs6 HOL.out HNQ.out hrl hQl
  go_wp2_with fail
  refine KSP.mono ?_
  rintro e w10 ⟨rfl, hb10⟩
  have HBE : Hid (Below w.heap.size w w10) := (HX.out w10 (below_on hb10 HB9.out)).2.2.2.2.2.2.2.2.2.2
  clear KSP hb10 hs3 hs4 hs5 hs6
  go_wp2
  go_ret
  exact ⟨rfl, HBE.out⟩
end Go.Proofs.YtckbbbcjpklnmaaDoor.Ix
