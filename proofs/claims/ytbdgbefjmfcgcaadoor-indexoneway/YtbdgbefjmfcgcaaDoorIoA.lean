import Derived.Test.YtbdgbefjmfcgcaaDoorIxXj
import Derived.Test.YtbdgbefjmfcgcaaDoorIxXk
import Derived.Test.YtbdgbefjmfcgcaaDoorIxZh
import Derived.Test.YtbdgbefjmfcgcaaDoorIxYa
import Derived.Test.YtbdgbefjmfcgcaaDoorIxYc
import Derived.Test.YtbdgbefjmfcgcaaDoorIxYd
import Derived.Test.YtbdgbefjmfcgcaaDoorIxYe
import Derived.Test.YtbdgbefjmfcgcaaDoorIxYf
namespace Go.Proofs.YtbdgbefjmfcgcaaDoor.Ix
open Go.RowKit Go.Lib Go.Deep
theorem rd_len {sl fl dr mf ls pg : Nat} (h : Cn.May ⟨sl, fl, dr, mf, ls, pg⟩) {I : List UInt8} : (rdT ⟨sl, fl, dr, mf, ls, pg⟩ I).length ≤ 1000000 := by
  have h1 : fl ≤ 65536 := h.1.2.2.2.1
  have h2 : dr ≤ 4096 := h.1.2.2.2.2.1
  unfold rdT
  rw [List.length_append]
  have e1 := numd_len 1 ((rowsA I 0 36 dr).map rdD)
  have e2 := numd_len 0 ((rowsA I (36 * dr) 40 fl).map rdF)
  simp only [List.length_map, rowsA, List.length_range] at e1 e2
  have e3 : (Cn.dr ⟨sl, fl, dr, mf, ls, pg⟩) = dr := rfl
  have e4 : (Cn.fl ⟨sl, fl, dr, mf, ls, pg⟩) = fl := rfl
  rw [e3, e4]
  unfold rowsA
  omega
set_option maxRecDepth 20000 in
set_option maxHeartbeats 8000000 in
theorem oneWay_walk (raw : Cf) (Y Z : List Int) (pl by_ : Int) (w : World) (hT : RT w) (a1 : Option Addr) (n1 k1 : Nat) (hS1 : See w 1 (.slice a1 n1 k1) n1 (zsC Y)) (hn1 : Y.length = n1) (a2 : Option Addr) (n2 k2 : Nat) (hS2 : See w 1 (.slice a2 n2 k2) n2 (zsC Z)) (hn2 : Z.length = n2) (hb2' : n2 ≤ 1099511627776000) :
    Calls Tryd.prog 4 #[cfV raw, .slice a1 n1 k1, .slice a2 n2 k2, .int .i64 pl, .int .i64 by_] w fun e w' => e = .returned (.bool true) ∧ Below w.heap.size w w' := by
  obtain ⟨u0, u1, u2, u3, u4, u5⟩ := raw
  have KMr : ∀ (X : World), Calls Tryd.prog 5 #[.agg #[.int .i64 u0, .int .i64 u1, .int .i64 u2, .int .i64 u3, .int .i64 u4, .int .i64 u5]] X fun e w' => ∃ sl fl dr mf ls pg : Nat, Mde ⟨sl, fl, dr, mf, ls, pg⟩ ∧ e = .returned (.agg #[.int .i64 (sl : Int), .int .i64 (fl : Int), .int .i64 (dr : Int), .int .i64 (mf : Int), .int .i64 (ls : Int), .int .i64 (pg : Int)]) ∧ Below X.heap.size X w' := fun X => by
    refine (made_any ⟨u0, u1, u2, u3, u4, u5⟩ X).mono ?_
    rintro e w' ⟨⟨sl, fl, dr, mf, ls, pg⟩, h1, rfl, h3⟩
    exact ⟨sl, fl, dr, mf, ls, pg, h1, rfl, h3⟩
  show Calls Tryd.prog 4 #[.agg #[.int .i64 u0, .int .i64 u1, .int .i64 u2, .int .i64 u3, .int .i64 u4, .int .i64 u5], .slice a1 n1 k1, .slice a2 n2 k2, .int .i64 pl, .int .i64 by_] w _
  obtain ⟨V, hV, hbV, g0⟩ := one_new w #[.int .i64 u0, .int .i64 u1, .int .i64 u2, .int .i64 u3, .int .i64 u4, .int .i64 u5] 23
  obtain ⟨y0, y1, y2, y3, y4, y5⟩ := cells6 g0
  have HBV : Hid (Below w.heap.size w V) := hbV
  have HT : Hid (RT w) := hT
  have HS1 : Hid (See w 1 (.slice a1 n1 k1) n1 (zsC Y)) := hS1
  have HS2 : Hid (See w 1 (.slice a2 n2 k2) n2 (zsC Z)) := hS2
  clear hbV g0 hT hS1 hS2
  go_enter Tryd.func4, Tryd.ntmps4
  go_wp2_with fail
  refine (KMr _).mono ?_
  rintro e w1 ⟨sl, fl, dr, mf, ls, pg, hmd, rfl, hb1⟩
  have hb1w : Below w.heap.size w w1 := below_on hb1 HBV.out
  obtain ⟨W1, hW1, hbW1, gc⟩ := one_new w1 #[.int .i64 (sl : Int), .int .i64 (fl : Int), .int .i64 (dr : Int), .int .i64 (mf : Int), .int .i64 (ls : Int), .int .i64 (pg : Int)] 23
  have HBW : Hid (Below w.heap.size w W1) := below_on hbW1 hb1w
  have HCD : Hid (∀ X, Below W1.heap.size W1 X → X.cell? ⟨w1.heap.size, 0, none⟩ = some (.int .i64 (sl : Int)) ∧ X.cell? ⟨w1.heap.size, 1, none⟩ = some (.int .i64 (fl : Int)) ∧ X.cell? ⟨w1.heap.size, 2, none⟩ = some (.int .i64 (dr : Int)) ∧ X.cell? ⟨w1.heap.size, 3, none⟩ = some (.int .i64 (mf : Int)) ∧ X.cell? ⟨w1.heap.size, 4, none⟩ = some (.int .i64 (ls : Int)) ∧ X.cell? ⟨w1.heap.size, 5, none⟩ = some (.int .i64 (pg : Int))) := fun X hX => cells6 ((hX.block _ (heap_lt gc)).trans gc)
  have HW : Hid (∀ X, Below W1.heap.size W1 X → Below w.heap.size w X) := fun X hX => below_on hX HBW.out
  have hmay := hmd.may
  obtain ⟨c0, c1, c2, c3, c4, c5⟩ := cells6 gc
  have KMT := madeTree_any sl fl dr mf ls pg hmd Y W1 a1 n1 k1 (HS1.out.below HBW.out) hn1
  have HMD : Hid (Mde ⟨sl, fl, dr, mf, ls, pg⟩) := hmd
  have hm2 : Cn.pgs ⟨sl, fl, dr, mf, ls, pg⟩ ≤ 1024 := hmay.2
  have HMY : Hid (Cn.May ⟨sl, fl, dr, mf, ls, pg⟩) := hmay
  clear KMr hb1 gc y0 y1 y2 y3 y4 y5 hV hb1w hbW1 hmd hmay HBV
  go_wp2_with fail
  refine KMT.mono ?_
  rintro e w2 ⟨T, a3, c3', hris, hTl, rfl, ho2, hb2⟩
  generalize hnT : T.length = nT at *
  have HNT : Hid (T.length = nT) := hnT
  have HRS : Hid (risB ⟨sl, fl, dr, mf, ls, pg⟩ 0 T = true) := hris
  obtain ⟨W2, hW2, hbW2, gT⟩ := one_new w2 #[.int .i64 (fl : Int), .int .i64 (dr : Int), .slice a3 nT c3'] 28
  have HB2 : Hid (Below W1.heap.size W1 W2) := below_on hbW2 hb2
  have HT2 : Hid (W2.heap[w2.heap.size]? = some (.cells #[.int .i64 (fl : Int), .int .i64 (dr : Int), .slice a3 nT c3'] 28 (0, 0)) ∧ W2.ownsRow W1.heap.size 44 5 (.slice a3 nT c3') nT (ndsC T)) := ⟨gT, owns_below ho2 hbW2⟩
  have KMP := madePool_any sl fl dr mf ls pg HMD.out Z W2 a2 n2 k2 (HS2.out.below (HW.out _ HB2.out)) hn2 hb2'
  clear KMT hb2 ho2 hbW2 gT hnT hris c0 c1 c2 c3 c4 c5 hW1
  obtain ⟨c0, c1, c2, c3, c4, c5⟩ := HCD.out W2 HB2.out
  go_wp2_with fail
  refine KMP.mono ?_
  rintro e w3 ⟨O, Q, ao, co, aq, cq, hpl, rfl, ho3, hq3, hb3⟩
  have hOl : O.length = fl + sl := (pool_iff.1 hpl).1.1
  have HPL : Hid (poolB ⟨sl, fl, dr, mf, ls, pg⟩ O Q = true) := hpl
  have hQl : Q.length ≤ 1000000 := by
    have h1 : Q.length ≤ fl + sl := (pool_iff.1 hpl).1.2
    have h2 : fl ≤ 64 := HMD.out.fl
    have h3 : sl ≤ 64 := HMD.out.sl
    omega
  have hrl : fl + sl ≤ 1000000 := by
    have h2 : fl ≤ 64 := HMD.out.fl
    have h3 : sl ≤ 64 := HMD.out.sl
    omega
  rw [hOl] at ho3 ⊢
  obtain ⟨r, hr⟩ : ∃ r, fl + sl = r := ⟨_, rfl⟩
  rw [hr] at ho3 hOl hrl ⊢
  have HR : Hid (fl + sl = r) := hr
  have HOL : Hid (O.length = r) := hOl
  generalize hnQ : Q.length = nQ at *
  have HNQ : Hid (Q.length = nQ) := hnQ
  obtain ⟨W3, hW3, hbW3, gP⟩ := one_new w3 #[.slice ao r co, .slice aq nQ cq] 32
  have hb23 : Below W2.heap.size W2 W3 := below_on hbW3 hb3
  have HB3 : Hid (Below W1.heap.size W1 W3) := below_on hb23 HB2.out
  have HT3 : Hid (W3.heap[w2.heap.size]? = some (.cells #[.int .i64 (fl : Int), .int .i64 (dr : Int), .slice a3 nT c3'] 28 (0, 0)) ∧ W3.heap[w3.heap.size]? = some (.cells #[.slice ao r co, .slice aq nQ cq] 32 (0, 0)) ∧ W3.ownsRow W1.heap.size 44 5 (.slice a3 nT c3') nT (ndsC T) ∧ W3.ownsRow W2.heap.size 46 4 (.slice ao r co) r (obsC O) ∧ W3.ownsRow W2.heap.size 3 1 (.slice aq nQ cq) nQ (zsC Q)) := ⟨(hb23.block _ (heap_lt HT2.out.1)).trans HT2.out.1, gP, owns_below HT2.out.2 hb23, owns_below ho3 hbW3, owns_below hq3 hbW3⟩
  have KEn := encode_any sl fl dr mf ls pg HMY.out T O Q HRS.out HPL.out W3 (HT.out.next (HW.out _ HB3.out)) a3 nT c3' (see_own HT3.out.2.2.1 (nds_one _)) HNT.out (by omega) ao r co (see_own HT3.out.2.2.2.1 (obs_one _)) HOL.out aq nQ cq (see_own HT3.out.2.2.2.2 (zs_one _)) HNQ.out
  have hab := who_ab HMY.out HRS.out HPL.out
  have KSh : Hid (∀ X a k, Below W1.heap.size W1 X → See X 1 (.slice a (Cn.pgs ⟨sl, fl, dr, mf, ls, pg⟩) k) (Cn.pgs ⟨sl, fl, dr, mf, ls, pg⟩) (scC (cutL (pg - 5) (Cn.pgs ⟨sl, fl, dr, mf, ls, pg⟩) (whoL ⟨sl, fl, dr, mf, ls, pg⟩ T O Q))) → _) := fun X a k hX hs => shaped_any sl fl dr mf ls pg HMY.out _ hab X (HT.out.next (HW.out X hX)) a _ k hs (cut_len _ _ _)
  obtain ⟨P, hP⟩ : ∃ P, cutL (pg - 5) (Cn.pgs ⟨sl, fl, dr, mf, ls, pg⟩) (whoL ⟨sl, fl, dr, mf, ls, pg⟩ T O Q) = P := ⟨_, rfl⟩
  rw [hP] at KEn KSh hab
  have HPW : Hid (cutL (pg - 5) (Cn.pgs ⟨sl, fl, dr, mf, ls, pg⟩) (whoL ⟨sl, fl, dr, mf, ls, pg⟩ T O Q) = P) := hP
  have HAB : Hid (∀ L, abB ⟨sl, fl, dr, mf, ls, pg⟩ L = true ↔ L.length = Cn.pgs ⟨sl, fl, dr, mf, ls, pg⟩ ∧ ∀ s ∈ L, s.size = pg - 5) := fun L => ab_iff
  have HAb : Hid (abB ⟨sl, fl, dr, mf, ls, pg⟩ P = true) := hab
  have hm1 : 1 ≤ Cn.pgs ⟨sl, fl, dr, mf, ls, pg⟩ := HMY.out.1.fit.2.2
  have hpg : 64 ≤ pg ∧ pg ≤ 1087 := ⟨HMY.out.1.2.2.2.2.2.2.2.2.1, HMD.out.pg⟩
  obtain ⟨m, hmE⟩ : ∃ m, Cn.pgs ⟨sl, fl, dr, mf, ls, pg⟩ = m := ⟨_, rfl⟩
  have HME : Hid (Cn.pgs ⟨sl, fl, dr, mf, ls, pg⟩ = m) := hmE
  rw [hmE] at KEn KSh HPW HAB hm1 hm2
  clear KMP hb3 ho3 hq3 hb23 hbW3 gP hr hOl hnQ hpl hab hP hmE HT2 c0 c1 c2 c3 c4 c5 hW2
  obtain ⟨c0, c1, c2, c3, c4, c5⟩ := HCD.out W3 HB3.out
  obtain ⟨t0, t1, t2⟩ := cells3 HT3.out.1
  obtain ⟨p0, p1⟩ := cells2 HT3.out.2.1
  go_wp2_with fail
  refine KEn.mono ?_
  rintro e w4 ⟨a4, k4, rfl, ho4, hb4⟩
  have HB4 : Hid (Below W1.heap.size W1 w4) := below_on hb4 HB3.out
  have HB34 : Hid (Below W3.heap.size W3 w4) := hb4
  have HO4 : Hid (w4.ownsRow W3.heap.size 9 1 (.slice a4 m k4) m (scC P)) := ho4
  clear KEn hb4 ho4 c0 c1 c2 c3 c4 c5 t0 t1 t2 p0 p1 hW3
  obtain ⟨c0, c1, c2, c3, c4, c5⟩ := HCD.out w4 HB4.out
  go_wp2_with fail
  refine (num_any _ _).mono ?_
  rintro e x4 ⟨rfl, hx4⟩
  subst hx4
  go_wp2_with fail
  refine (KSh.out _ a4 k4 HB4.out (see_own HO4.out (sc_one _))).mono ?_
  rintro e w5 ⟨rfl, hb5⟩
  obtain ⟨gl, kl, hv⟩ := owns_form2 HO4.out (by omega)
  injection hv with e1 e2 e3
  subst e1 e3
  clear e2
  have HL : Hid (w5.ownsRow W3.heap.size 9 1 (.slice (some ⟨gl, 0, none⟩) m k4) m (scC P)) := owns_below HO4.out hb5
  have HB5 : Hid (Below W1.heap.size W1 w5) := below_on hb5 HB4.out
  have HB35 : Hid (Below W3.heap.size W3 w5) := below_on hb5 HB34.out
  clear KSh hb5 HO4 HB4 HB34 c0 c1 c2 c3 c4 c5
  obtain ⟨c0, c1, c2, c3, c4, c5⟩ := HCD.out w5 HB5.out
  obtain ⟨b, hbE⟩ : ∃ b, pg - 5 = b := ⟨_, rfl⟩
  have HBE : Hid (pg - 5 = b) := hbE
  have hb0 : 59 ≤ b ∧ b ≤ 65531 := by omega
  have hz5 : (pg : Int) - 5 = (b : Int) := by omega
  have hwb : IntKind.i64.wrap (b : Int) = (b : Int) := by rw [IntKind.wrap_i64]; omega
  have hmb : m * b ≤ 1024 * 65531 := Nat.mul_le_mul hm2 hb0.2
  have hmb1 : 1 ≤ m * b := Nat.mul_pos (by omega) (by omega)
  obtain ⟨N, hN⟩ : ∃ N, m * b = N := ⟨_, rfl⟩
  have HN : Hid (m * b = N) := hN
  have hNI : (m : Int) * (b : Int) = (N : Int) := by rw [← hN]; exact (Int.natCast_mul m b).symm
  rw [hN] at hmb hmb1
  have hwN : IntKind.i64.wrap (N : Int) = (N : Int) := by rw [IntKind.wrap_i64]; omega
  obtain ⟨kk, hkk, KMod⟩ := modN_any pl N (by omega) (by omega)
  have HMod : Hid _ := KMod
  obtain ⟨b1, hb1', KMod2⟩ := modN_any by_ 255 (by omega) (by omega)
  have HMod2 : Hid _ := KMod2
  clear KMod KMod2 hN hbE
  go_wp2_with fail
  refine (HMod.out _).mono ?_
  rintro e w6 ⟨rfl, hw6⟩
  subst hw6
  clear HMod
  go_upto_region 10 with fail
  obtain ⟨i0, hi0⟩ : ∃ i0, kk / b = i0 := ⟨_, rfl⟩
  obtain ⟨at0, hat0⟩ : ∃ at0, kk % b = at0 := ⟨_, rfl⟩
  have hik : i0 ≤ kk := hi0 ▸ Nat.div_le_self kk b
  have him : i0 < m := by rw [← hi0]; exact Nat.div_lt_of_lt_mul (by rw [Nat.mul_comm]; rw [HN.out]; exact hkk)
  have hatb : at0 < b := hat0 ▸ Nat.mod_lt _ (by omega)
  have h17 : wrap64 ((kk : Int) / (b : Int)) = (i0 : Int) := by rw [← Int.natCast_ediv, hi0]; unfold wrap64; omega
  have h18 : (kk : Int) % (b : Int) = (at0 : Int) := by rw [← hat0]; exact (Int.natCast_emod kk b).symm
  rw [h17, h18]
  clear h17 h18 hi0 hat0 hik hwN hNI hz5 hwb hmb hmb1 c0 c1 c2 c3 c4 c5
  obtain ⟨q, hq⟩ : ∃ q, 1 + b1 = q := ⟨_, rfl⟩
  have hqI : (1 : Int) + (b1 : Int) = (q : Int) := by omega
  have hq0 : 0 < q ∧ q < 256 := by omega
  have hw2 : IntKind.i64.wrap (q : Int) = (q : Int) := by rw [IntKind.wrap_i64]; omega
  have hw3 : IntKind.u8.wrap (q : Int) = (q : Int) := by rw [IntKind.wrap_u8]; omega
  clear hq
  go_wp2_with fail
  refine (HMod2.out _).mono ?_
  rintro e w7 ⟨rfl, hw7⟩
  subst hw7
  clear HMod2
  obtain ⟨hPl, hPs⟩ := (HAB.out P).1 HAb.out
  rw [HBE.out] at hPs
  obtain ⟨s, hs⟩ : ∃ s, P[i0]? = some s := ⟨_, List.getElem?_eq_getElem (by omega)⟩
  have hsz : s.size = b := hPs s (List.mem_of_getElem? hs)
  have hgl : gl < w7.heap.size := (HL.out.lt gl rfl).2
  have hkl : m ≤ k4 := own_cap HL.out
  have HX : Hid (∀ X, Below w7.heap.size w7 X → (X.cell? ⟨w1.heap.size, 0, none⟩ = some (.int .i64 (sl : Int)) ∧ X.cell? ⟨w1.heap.size, 1, none⟩ = some (.int .i64 (fl : Int)) ∧ X.cell? ⟨w1.heap.size, 2, none⟩ = some (.int .i64 (dr : Int)) ∧ X.cell? ⟨w1.heap.size, 3, none⟩ = some (.int .i64 (mf : Int)) ∧ X.cell? ⟨w1.heap.size, 4, none⟩ = some (.int .i64 (ls : Int)) ∧ X.cell? ⟨w1.heap.size, 5, none⟩ = some (.int .i64 (pg : Int))) ∧ See X 1 (.slice (some ⟨gl, 0, none⟩) m k4) m (scC P) ∧ X.cell? ⟨gl, i0, none⟩ = some (.string s) ∧ Below W1.heap.size W1 X ∧ Below W3.heap.size W3 X) := fun X hX => by
    have hL := owns_below HL.out hX
    obtain ⟨b', off', e, -, hcs⟩ := (see_own hL (sc_one _)).s hs
    injection e with e
    injection e with e1 e2 _
    subst e1 e2
    rw [Nat.zero_add] at hcs
    exact ⟨HCD.out X (below_on hX HB5.out), see_own hL (sc_one _), hcs, below_on hX HB5.out, below_on hX HB35.out⟩
  have HAPP : Hid (∀ (X w9 : World) v9, Below w7.heap.size w7 X → w9.ownsRow X.heap.size 9 1 v9 (0 + m) ([] ++ scC P) → X.grownBy w9 (Value.slice none 0 0).ownBlock → ∃ g c, v9 = .slice (some ⟨g, 0, none⟩) m c ∧ X.heap.size ≤ g ∧ w9.ownsRow X.heap.size 9 1 (.slice (some ⟨g, 0, none⟩) m c) m (scC P) ∧ Below X.heap.size X w9) := fun X w9 v9 hX ho hg => by
    rw [Nat.zero_add, List.nil_append] at ho
    obtain ⟨g, c, rfl⟩ := owns_form2 ho (by omega)
    exact ⟨g, c, rfl, (ho.lt g rfl).1, ho, grown_below hg (Nat.le_refl _) (World.ownsRow_nil X X.heap.size 9 1)⟩
  have HPUT : Hid (∀ (X Y : World) g c (y : ByteArray), Y.ownsRow X.heap.size 9 1 (.slice (some ⟨g, 0, none⟩) m c) m (scC P) → Below X.heap.size X Y → (Y.cell? ⟨g, i0, none⟩ = some (.string s) ∧ Y.frozen? ⟨g, i0, none⟩ = false) ∧ (Y.setCell ⟨g, i0, none⟩ (.string y)).ownsRow X.heap.size 9 1 (.slice (some ⟨g, 0, none⟩) m c) m (scC (P.set i0 y)) ∧ Below X.heap.size X (Y.setCell ⟨g, i0, none⟩ (.string y))) := fun X Y g c y ho hb => by
    obtain ⟨b', off', e, -, hcs⟩ := (see_own ho (sc_one _)).s hs
    injection e with e
    injection e with e1 e2 _
    subst e1 e2
    rw [Nat.zero_add] at hcs
    obtain ⟨cur, hcur⟩ := owns_block ho rfl
    refine ⟨⟨hcs, frozen_of_heap hcur⟩, ?_, hb.setCell (by exact (ho.lt _ rfl).1) _⟩
    have := owns_set (j := i0) (.string y) ho
    rw [show scC (P.set i0 y) = (scC P).set i0 (.string y) by simp [scC, List.map_set]]
    exact this
  obtain ⟨l, hl⟩ : ∃ l, s.data.toList = l := ⟨_, rfl⟩
  have hll : l.length = b := by rw [← hl, ← size_eq, hsz]
  obtain ⟨y, hy⟩ : ∃ y, l[at0]? = some y := ⟨_, List.getElem?_eq_getElem (by omega)⟩
  obtain ⟨hxor0, hzne⟩ := turn_byte y q hq0.1 hq0.2
  obtain ⟨z, hz⟩ : ∃ z, y ^^^ UInt8.ofNat q = z := ⟨_, rfl⟩
  rw [hz] at hxor0 hzne
  have hcat0 := turn_cat s l hl at0 (by omega) z
  obtain ⟨sy, hsy⟩ : ∃ sy, str (l.set at0 z) = sy := ⟨_, rfl⟩
  rw [hsy] at hcat0
  obtain ⟨ya, hya⟩ : ∃ ya, s.extract 0 at0 = ya := ⟨_, rfl⟩
  obtain ⟨yb, hyb⟩ : ∃ yb, s.extract (at0 + 1) s.size = yb := ⟨_, rfl⟩
  obtain ⟨yz, hyz⟩ : ∃ yz, str [z] = yz := ⟨_, rfl⟩
  rw [hya, hyb, hyz] at hcat0
  have hza : ya.size = at0 := by rw [← hya, ByteArray.size_extract]; omega
  have hzb : yb.size = b - (at0 + 1) := by rw [← hyb, ByteArray.size_extract]; omega
  have hzz : yz.size = 1 := by rw [← hyz]; rfl
  have hsla : ∀ W, (Instr.slice 9 (.string s) none (some (.int .i64 (at0 : Int))) none).run Tryd.prog W = .ok (.string ya) W := fun W => by rw [← hya]; exact sl_to W 9 s _ at0 Tryd.underlying9 rfl (by omega)
  have hslb : ∀ W, (Instr.slice 9 (.string s) (some (.int .i64 ((at0 : Int) + 1))) none none).run Tryd.prog W = .ok (.string yb) W := fun W => by rw [← hyb]; exact sl_of W 9 s _ (at0 + 1) Tryd.underlying9 (by omega) (by omega)
  have hix : ∀ W, (Instr.index 9 (.string s) (.int .i64 (at0 : Int))).run Tryd.prog W = .ok (.int .u8 (y.toNat : Int)) W := fun W => index_at W 9 s .i64 at0 y Tryd.underlying9 (by rw [hl]; exact hy)
  have hcv : ∀ (X : World) (g : Nat), X.cell? ⟨g, 0, none⟩ = some (.int .u8 (z.toNat : Int)) → (convert 52 9 (.slice (some ⟨g, 0, none⟩) 1 1)).run Tryd.prog X = .ok (.string yz) X := fun X g h => by rw [← hyz]; exact byte_str h
  have hzl : z.toNat < 256 := z.toNat_lt
  have HPS : Hid (abB ⟨sl, fl, dr, mf, ls, pg⟩ (P.set i0 sy) = true ∧ P.set i0 sy ≠ P) := by
    constructor
    · refine (HAB.out _).2 ⟨by rw [List.length_set]; exact hPl, fun x hx => ?_⟩
      rw [HBE.out]
      rcases List.mem_or_eq_of_mem_set hx with h | h
      · exact hPs x h
      · rw [h, ← hsy, str_size, List.length_set]; exact hll
    · intro e
      have h1 : (P.set i0 sy)[i0]? = some sy := by rw [List.getElem?_set_self (by omega)]
      rw [e, hs] at h1
      injection h1 with h1
      have h2 : l = l.set at0 z := hl.symm.trans (by rw [h1, ← hsy, str_data])
      have h3 := congrArg (fun x => x[at0]?) h2
      simp only [hy] at h3
      rw [List.getElem?_set_self (by omega)] at h3
      injection h3 with h3
      exact hzne h3.symm
  obtain ⟨zn, hzn⟩ : ∃ zn, z.toNat = zn := ⟨_, rfl⟩
  obtain ⟨yn, hyn⟩ : ∃ yn, y.toNat = yn := ⟨_, rfl⟩
  rw [hzn] at hxor0 hcv hzl
  rw [hyn] at hxor0 hix
  have HCT : Hid (ya ++ yz ++ yb = sy) := hcat0
  have hsee := (HX.out w7 (Below.refl _ _)).2.1
  clear hy hz hcat0 hzne hl hll hsy hya hyb hyz hzn hyn hs hPl hPs
  go_upto_region 12 with (first | (at_builtin; refine wpList_app rfl _ _ 34 9 rfl (.string { data := #[] }) 1 16 Tryd.underlying34 info9 rfl (by decide) w7.heap.size (.slice none 0 0) _ 0 m [] (scC P) rfl (World.ownsRow_nil _ _ _ _) rfl hsee (by unfold maxLen; omega) (by omega) (Nat.le_refl _) ?_; intro v8 w8 ho8 hg8; obtain ⟨g8, c8, rfl, hg8', HO8, hb8⟩ := HAPP.out w7 w8 v8 (Below.refl _ _) ho8 hg8; clear ho8 hg8))
  obtain ⟨X8, hX8⟩ : ∃ X8, (w8.drew).alloc (.cells #[.int .u8 (zn : Int)] 5) = X8 := ⟨_, rfl⟩
  have hb8d : Below w7.heap.size w7 w8.drew := hb8.drew
  have hbX8 : Below w7.heap.size w7 X8 := by rw [← hX8]; exact below_alloc hb8d _
  have kz8 : X8.cell? ⟨w8.heap.size, 0, none⟩ = some (.int .u8 (zn : Int)) := by rw [← hX8]; exact (cell_of_heap (heap_new w8.drew _)).trans rfl
  have hcv8 := hcv X8 w8.heap.size kz8
  obtain ⟨⟨e8, f8⟩, HR8⟩ := HPUT.out w7 X8 g8 c8 sy (by rw [← hX8]; exact (owns_below HO8 (Below.refl _ _).drew).alloc _) hbX8
  have HRR : Hid _ := HR8
  have hl8 := (HX.out w8.drew hb8d).2.2.1
  have hl9 := (HX.out X8 hbX8).2.2.1
  have him' : (i0 : Int) < (m : Int) := by omega
  have hct := HCT.out
  have hwa : IntKind.i64.wrap ((at0 : Int) + 1) = (at0 : Int) + 1 := by rw [IntKind.wrap_i64]; omega
  have hg1 : ¬ 9223372036854775807 < ya.size + yz.size := by omega
  have hg2 : ¬ 9223372036854775807 < (ya ++ yz).size + yb.size := by rw [ByteArray.size_append]; omega
  clear HR8 HO8 hb8 hsee hb8d kz8 HPUT HAPP
  go_cut [20] (fun s wx => s = .slice (some ⟨g8, 0, none⟩) m c8 ∧ Hid (wx.ownsRow w7.heap.size 9 1 (.slice (some ⟨g8, 0, none⟩) m c8) m (scC (P.set i0 sy))) ∧ Hid (Below w7.heap.size w7 wx))
  case first =>
    go_region
    go_wp2_with fail
    go_meet
    exact ⟨rfl, HRR.out.1, HRR.out.2⟩
  case rest =>
  obtain ⟨rfl, HO8, HB8⟩ := hcut
  clear hct hwa hg1 hg2 hsla hslb hix hcv hcv8 e8 f8 hl8 hl9 HRR hbX8 hX8 hza hzb hzz hxor0 hzl hw2 hw3 hqI hq0 him'
  obtain ⟨P2, hP2⟩ : ∃ P2, P.set i0 sy = P2 := ⟨_, rfl⟩
  rw [hP2] at HPS HO8
  have HPL2 : Hid (P2.length = m) := ((HAB.out _).1 HPS.out.1).1
  have HRT : Hid (∀ X, Below w7.heap.size w7 X → RT X) := fun X hX => HT.out.next (HW.out X (HX.out X hX).2.2.2.1)
  have hTl : (rdT ⟨sl, fl, dr, mf, ls, pg⟩ (catL P2)).length ≤ 1000000 := rd_len HMY.out
  obtain ⟨T', hT'⟩ : ∃ T', rdT ⟨sl, fl, dr, mf, ls, pg⟩ (catL P2) = T' := ⟨_, rfl⟩
  obtain ⟨O', hO'⟩ : ∃ O', rdP ⟨sl, fl, dr, mf, ls, pg⟩ (catL P2) = O' := ⟨_, rfl⟩
  obtain ⟨Q', hQ'⟩ : ∃ Q', rdQ ⟨sl, fl, dr, mf, ls, pg⟩ (catL P2) = Q' := ⟨_, rfl⟩
  rw [hT'] at hTl
  obtain ⟨c0, c1, c2, c3, c4, c5⟩ := (HX.out wc HB8.out).1
  by_cases hgood : risB ⟨sl, fl, dr, mf, ls, pg⟩ 0 T' = true ∧ poolB ⟨sl, fl, dr, mf, ls, pg⟩ O' Q' = true ∧ cutL (pg - 5) (Cn.pgs ⟨sl, fl, dr, mf, ls, pg⟩) (whoL ⟨sl, fl, dr, mf, ls, pg⟩ T' O' Q') = P2
  case neg =>
    have KD := decode_bad sl fl dr mf ls pg HMY.out P2 HPS.out.1 T' hT' O' hO' Q' hQ' hgood wc (HRT.out wc HB8.out) (some ⟨g8, 0, none⟩) c8 (by rw [HME.out]; exact see_own HO8.out (sc_one _))
    rw [HME.out] at KD
    have HB8w : Hid (Below w.heap.size w wc) := HW.out _ (HX.out wc HB8.out).2.2.2.1
    clear hgood hT' hO' hQ' hTl HX HO8 hP2 HPS
    go_wp2_with fail
    refine KD.mono ?_
    rintro e w9 ⟨rfl, hb9⟩
    obtain ⟨W10, hW10, hb10, gA, gB⟩ := two_new w9 #[.int .i64 0, .int .i64 0, .slice none 0 0] #[.slice none 0 0, .slice none 0 0] 28 32
    have HBE' : Hid (Below w.heap.size w W10) := below_on hb10 (below_on hb9 HB8w.out)
    have HW10 : Hid _ := hW10
    obtain ⟨t0, t1, t2⟩ := cells3 gA
    obtain ⟨p0, p1⟩ := cells2 gB
    clear hb9 hb10 gA gB hW10 c0 c1 c2 c3 c4 c5 KD
    go_upto_region 14 with fail
    rw [HW10.out]
    clear HW10
    go_wp2_with fail
    refine (num_any _ _).mono ?_
    rintro e x10 ⟨rfl, hx10⟩
    subst hx10
    go_wp2_with fail
    refine (num_any _ _).mono ?_
    rintro e x11 ⟨rfl, hx11⟩
    subst hx11
    go_wp2
    go_ret
    exact ⟨rfl, HBE'.out⟩
  case pos =>
    obtain ⟨hr2, hp2, hc2⟩ := hgood
    have hOl2 : O'.length = fl + sl := (pool_iff.1 hp2).1.1
    have hQl2 : Q'.length ≤ fl + sl := (pool_iff.1 hp2).1.2
    have HNE : Hid (¬ (T = T' ∧ (O, Q) = (O', Q'))) := fun ⟨e1, e2⟩ => HPS.out.2 (by
      injection e2 with e3 e4
      rw [← hc2, ← HPW.out, e1, e3, e4, HME.out])
    have KD := decode_good sl fl dr mf ls pg HMY.out T' O' Q' hr2 hp2 wc (HRT.out wc HB8.out) (some ⟨g8, 0, none⟩) c8 (by rw [hc2, HME.out]; exact see_own HO8.out (sc_one _)) hTl
    have KE : Hid (∀ X, Below w7.heap.size w7 X → ∀ a n k, See X 5 (.slice a n k) n (ndsC T') → T'.length = n → ∀ ao ko, See X 4 (.slice ao r ko) r (obsC O') → ∀ aq nq kq, See X 1 (.slice aq nq kq) nq (zsC Q') → Q'.length = nq → Calls Tryd.prog 8 #[.agg #[.int .i64 (sl : Int), .int .i64 (fl : Int), .int .i64 (dr : Int), .int .i64 (mf : Int), .int .i64 (ls : Int), .int .i64 (pg : Int)], .agg #[.int .i64 (fl : Int), .int .i64 (dr : Int), .slice a n k], .agg #[.slice ao r ko, .slice aq nq kq]] X fun e w' => ∃ a' k', e = .returned (.tuple #[.slice a' m k', .int .i64 0]) ∧ w'.ownsRow X.heap.size 9 1 (.slice a' m k') m (scC P2) ∧ Below X.heap.size X w') := fun X hX a n k h1 h2 ao ko h3 aq nq kq h4 h5 => by
      have h := encode_any sl fl dr mf ls pg HMY.out T' O' Q' hr2 hp2 X (HRT.out X hX) a n k h1 h2 (by omega) ao r ko h3 (hOl2.trans HR.out) aq nq kq h4 h5
      rw [hc2, HME.out] at h
      exact h
    have hQl3 : Q'.length ≤ 1000000 := by have := HR.out; omega
    rw [HR.out] at KD hOl2
    rw [HME.out] at KD
    have HOL2 : Hid (O'.length = r) := hOl2
    obtain ⟨nU, hnU⟩ : ∃ nU, T'.length = nU := ⟨_, rfl⟩
    obtain ⟨nW, hnW⟩ : ∃ nW, Q'.length = nW := ⟨_, rfl⟩
    rw [hnU] at KD hTl
    rw [hnW] at KD hQl3
    have HNU : Hid (T'.length = nU) := hnU
    have HNW : Hid (Q'.length = nW) := hnW
    clear hr2 hp2 hc2 hOl2 hQl2 hnU hnW hT' hO' hQ' hP2 HPW
    go_wp2_with fail
    refine KD.mono ?_
    rintro e w9 ⟨at7, ct7, ao7, co7, g7, cq7, rfl, ho7, hob7, hsq7, hb7⟩
    obtain ⟨W10, hW10, hb10, gA, gB⟩ := two_new w9 #[.int .i64 (fl : Int), .int .i64 (dr : Int), .slice at7 nU ct7] #[.slice ao7 r co7, .slice (some ⟨g7, 1, none⟩) nW cq7] 28 32
    have HW10 : Hid _ := hW10
    have hb9 : Below w7.heap.size w7 w9 := below_on hb7 HB8.out
    have HB10 : Hid (Below w7.heap.size w7 W10) := below_on hb10 hb9
    have HXX : Hid (∀ X, Below W10.heap.size W10 X → (X.cell? ⟨w1.heap.size, 0, none⟩ = some (.int .i64 (sl : Int)) ∧ X.cell? ⟨w1.heap.size, 1, none⟩ = some (.int .i64 (fl : Int)) ∧ X.cell? ⟨w1.heap.size, 2, none⟩ = some (.int .i64 (dr : Int)) ∧ X.cell? ⟨w1.heap.size, 3, none⟩ = some (.int .i64 (mf : Int)) ∧ X.cell? ⟨w1.heap.size, 4, none⟩ = some (.int .i64 (ls : Int)) ∧ X.cell? ⟨w1.heap.size, 5, none⟩ = some (.int .i64 (pg : Int))) ∧ (X.cell? ⟨w2.heap.size, 0, none⟩ = some (.int .i64 (fl : Int)) ∧ X.cell? ⟨w2.heap.size, 1, none⟩ = some (.int .i64 (dr : Int)) ∧ X.cell? ⟨w2.heap.size, 2, none⟩ = some (.slice a3 nT c3')) ∧ (X.cell? ⟨w3.heap.size, 0, none⟩ = some (.slice ao r co) ∧ X.cell? ⟨w3.heap.size, 1, none⟩ = some (.slice aq nQ cq)) ∧ (X.cell? ⟨w9.heap.size, 0, none⟩ = some (.int .i64 (fl : Int)) ∧ X.cell? ⟨w9.heap.size, 1, none⟩ = some (.int .i64 (dr : Int)) ∧ X.cell? ⟨w9.heap.size, 2, none⟩ = some (.slice at7 nU ct7)) ∧ (X.cell? ⟨w9.heap.size + 1, 0, none⟩ = some (.slice ao7 r co7) ∧ X.cell? ⟨w9.heap.size + 1, 1, none⟩ = some (.slice (some ⟨g7, 1, none⟩) nW cq7)) ∧ See X 5 (.slice a3 nT c3') nT (ndsC T) ∧ See X 5 (.slice at7 nU ct7) nU (ndsC T') ∧ See X 4 (.slice ao r co) r (obsC O) ∧ See X 4 (.slice ao7 r co7) r (obsC O') ∧ See X 1 (.slice aq nQ cq) nQ (zsC Q) ∧ See X 1 (.slice (some ⟨g7, 1, none⟩) nW cq7) nW (zsC Q') ∧ See X 1 (.slice (some ⟨g8, 0, none⟩) m c8) m (scC P2) ∧ Below w.heap.size w X ∧ Below w7.heap.size w7 X) := fun X hX => by
      have h7 : Below w7.heap.size w7 X := below_on hX HB10.out
      have h9 := below_on hX hb10
      have hw := HX.out X h7
      have h3 := hw.2.2.2.2
      exact ⟨hw.1, cells3 ((h3.block _ (heap_lt HT3.out.1)).trans HT3.out.1), cells2 ((h3.block _ (heap_lt HT3.out.2.1)).trans HT3.out.2.1), cells3 ((hX.block _ (heap_lt gA)).trans gA), cells2 ((hX.block _ (heap_lt gB)).trans gB), see_own (owns_below HT3.out.2.2.1 h3) (nds_one _), see_own (owns_below ho7 h9) (nds_one _), see_own (owns_below HT3.out.2.2.2.1 h3) (obs_one _), see_own (owns_below hob7 h9) (obs_one _), see_own (owns_below HT3.out.2.2.2.2 h3) (zs_one _), hsq7.below h9, see_own (owns_below HO8.out (below_on h9 hb7)) (sc_one _), HW.out _ hw.2.2.2.1, h7⟩
    clear ho7 hob7 hsq7 hb7 hb9 hb10 gA gB hW10 c0 c1 c2 c3 c4 c5 KD HX
    go_upto_region 14 with fail
    rw [HW10.out]
    clear HW10
    obtain ⟨⟨c0, c1, c2, c3, c4, c5⟩, -, -, ⟨v0, v1, v2⟩, ⟨r0, r1⟩, -, hs2, -, hs4, -, hs6, -, -, -⟩ := HXX.out W10 (Below.refl _ _)
    have KE1 := KE.out W10 HB10.out at7 nU ct7 hs2 HNU.out ao7 co7 hs4 (some ⟨g7, 1, none⟩) nW cq7 hs6 HNW.out
    clear hs2 hs4 hs6 KE
    go_wp2_with fail
    refine (num_any _ _).mono ?_
    rintro e x10 ⟨rfl, hx10⟩
    subst hx10
    go_wp2_with fail
    refine KE1.mono ?_
    rintro e w11 ⟨a11, k11, rfl, ho11, hb11⟩
    have HB11 : Hid _ := hb11
    have HO11 : Hid _ := ho11
    clear KE1 hb11 ho11 c0 c1 c2 c3 c4 c5 v0 v1 v2 r0 r1
    go_wp2_with fail
    refine (num_any _ _).mono ?_
    rintro e x11 ⟨rfl, hx11⟩
    subst hx11
    have KST := sameTexts_all P2 P2 x11 a11 (some ⟨g8, 0, none⟩) m m k11 c8 (see_own HO11.out (sc_one _)) (HXX.out x11 HB11.out).2.2.2.2.2.2.2.2.2.2.2.1 HPL2.out HPL2.out (by omega)
    go_wp2_with fail
    refine KST.mono ?_
    rintro e w12 ⟨⟨bb, hbb, rfl⟩, hb12⟩
    obtain rfl : bb = true := hbb.2 rfl
    have HB12 : Hid _ := below_on hb12 HB11.out
    clear hbb hb12 KST
    obtain ⟨-, ⟨t0, t1, t2⟩, ⟨p0, p1⟩, ⟨v0, v1, v2⟩, ⟨r0, r1⟩, hs1, hs2, -, -, -, -, -, -, -⟩ := HXX.out w12 HB12.out
    have KSR := sameTree_all (fl : Int) (dr : Int) T T' w12 a3 at7 nT nU c3' ct7 hs1 hs2 HNT.out HNU.out (by omega)
    clear hs1 hs2
    go_wp2_with fail
    refine KSR.mono ?_
    rintro e w13 ⟨⟨bt, hbt, rfl⟩, hb13⟩
    have HB13 : Hid _ := below_on hb13 HB12.out
    have HE13 : Hid (Below w.heap.size w w13) := (HXX.out w13 HB13.out).2.2.2.2.2.2.2.2.2.2.2.2.1
    clear hb13 KSR t0 t1 t2 p0 p1 v0 v1 v2 r0 r1
    cases bt with
    | false =>
      clear hbt
      go_wp2
      go_ret
      exact ⟨rfl, HE13.out⟩
    | true =>
      have HTT : Hid (T = T') := hbt.1 rfl
      clear hbt
      obtain ⟨-, ⟨t0, t1, t2⟩, ⟨p0, p1⟩, ⟨v0, v1, v2⟩, ⟨r0, r1⟩, -, -, hs3, hs4, hs5, hs6, -, -, -⟩ := HXX.out w13 HB13.out
      have KSP := samePool_all O O' Q Q' w13 ao ao7 aq (some ⟨g7, 1, none⟩) r nQ co co7 cq cq7 hs3 hs4 hs5 nW hs6 HOL.out HOL2.out HNQ.out HNW.out hrl hQl
      clear hs3 hs4 hs5 hs6
      go_wp2_with fail
      refine KSP.mono ?_
      rintro e w14 ⟨⟨bp, hbp, rfl⟩, hb14⟩
      obtain rfl : bp = false := by
        cases bp with
        | false => rfl
        | true => exact absurd ⟨HTT.out, hbp.1 rfl⟩ HNE.out
      have HE14 : Hid (Below w.heap.size w w14) := (HXX.out w14 (below_on hb14 HB13.out)).2.2.2.2.2.2.2.2.2.2.2.2.1
      clear hbp hb14 KSP
      go_wp2
      go_ret
      exact ⟨rfl, HE14.out⟩
end Go.Proofs.YtbdgbefjmfcgcaaDoor.Ix
