import Derived.Test.YtbdgbefjmfcgcaaDoorWrM
import Derived.Test.YtbdgbefjmfcgcaaDoorNfM
import Derived.Test.YtbdgbefjmfcgcaaDoorIxN4
import Derived.Test.YtbdgbefjmfcgcaaDoorIxZd
import Derived.Deep.DeepCutAuto
namespace Go.Proofs.YtbdgbefjmfcgcaaDoor.Ix
open Go.RowKit Go.Lib Go.Deep
theorem see_lt {w : World} {sz n k b off : Nat} {av : Option Addr} {xs : List Value} (h : See w sz (.slice av n k) n xs) (hp : 0 < n) (e : av = some ⟨b, off, none⟩) : b < w.heap.size := by
  obtain ⟨_, _, a', c', h1, h2, h3, h4⟩ := h
  injection h1 with e1 _ _
  subst e1
  obtain ⟨b', off', e', hlt, _⟩ := h4 hp
  rw [e] at e'
  injection e' with e'
  injection e' with e'
  omega
set_option maxRecDepth 20000 in
set_option maxHeartbeats 2000000 in
theorem imageOf_any (sl fl dr mf ls pg : Nat) (hc : Cn.May ⟨sl, fl, dr, mf, ls, pg⟩) (T : List Nd) (O : List Ob) (Q : List Int) (hT : risB ⟨sl, fl, dr, mf, ls, pg⟩ 0 T = true) (h1o : O.length = Cn.rows ⟨sl, fl, dr, mf, ls, pg⟩) (h2o : ∀ o ∈ O, ObF ⟨sl, fl, dr, mf, ls, pg⟩ o) (h1q : Q.length ≤ Cn.rows ⟨sl, fl, dr, mf, ls, pg⟩) (h2q : ∀ q ∈ Q, 0 ≤ q ∧ q < Cn.rows ⟨sl, fl, dr, mf, ls, pg⟩)
    (f d : Int) (w : World) (hR : RT w) (a : Option Addr) (n k : Nat) (hS : See w 5 (.slice a n k) n (ndsC T)) (hn : T.length = n) (hnb : n ≤ 1099511000000) (ao : Option Addr) (no ko : Nat) (hSo : See w 4 (.slice ao no ko) no (obsC O)) (hno : O.length = no) (aq : Option Addr) (nq kq : Nat) (hSq : See w 1 (.slice aq nq kq) nq (zsC Q)) (hnq : Q.length = nq) :
    Calls Tryd.prog 23 #[.agg #[.int .i64 (sl : Int), .int .i64 (fl : Int), .int .i64 (dr : Int), .int .i64 (mf : Int), .int .i64 (ls : Int), .int .i64 (pg : Int)], .agg #[.int .i64 f, .int .i64 d, .slice a n k], .agg #[.slice ao no ko, .slice aq nq kq]] w fun e w' => ∃ a' k', e = .returned (.slice a' (Cn.pgs ⟨sl, fl, dr, mf, ls, pg⟩ * (pg - 5)) k') ∧ See w' 1 (.slice a' (Cn.pgs ⟨sl, fl, dr, mf, ls, pg⟩ * (pg - 5)) k') (Cn.pgs ⟨sl, fl, dr, mf, ls, pg⟩ * (pg - 5)) (Lib.byteCells (whoL ⟨sl, fl, dr, mf, ls, pg⟩ T O Q)) ∧ Below w.heap.size w w' := by
  obtain ⟨hNd, hFs⟩ := ris_at hT
  obtain ⟨i1, i2, i3, i4, i5⟩ := imgL_len hNd h2o h1o h1q
  obtain ⟨b1, b2, b3, b4, b5⟩ := hc.1.len
  obtain ⟨b6, -, b7⟩ := hc.1.fit
  have b8 := hc.2
  obtain ⟨V, hV, hbV, g0, g1, g2⟩ := three_new w #[.int .i64 (sl : Int), .int .i64 (fl : Int), .int .i64 (dr : Int), .int .i64 (mf : Int), .int .i64 (ls : Int), .int .i64 (pg : Int)] #[.int .i64 f, .int .i64 d, .slice a n k] #[.slice ao no ko, .slice aq nq kq] 23 28 32
  have HX : Hid (∀ X, Below V.heap.size V X → (X.cell? ⟨w.heap.size, 0, none⟩ = some (.int .i64 (sl : Int)) ∧ X.cell? ⟨w.heap.size, 1, none⟩ = some (.int .i64 (fl : Int)) ∧ X.cell? ⟨w.heap.size, 2, none⟩ = some (.int .i64 (dr : Int)) ∧ X.cell? ⟨w.heap.size, 3, none⟩ = some (.int .i64 (mf : Int)) ∧ X.cell? ⟨w.heap.size, 4, none⟩ = some (.int .i64 (ls : Int)) ∧ X.cell? ⟨w.heap.size, 5, none⟩ = some (.int .i64 (pg : Int))) ∧ X.cell? ⟨w.heap.size + 1, 2, none⟩ = some (.slice a n k) ∧ X.cell? ⟨w.heap.size + 2, 0, none⟩ = some (.slice ao no ko) ∧ X.cell? ⟨w.heap.size + 2, 1, none⟩ = some (.slice aq nq kq) ∧ RT X ∧ Below w.heap.size w X) := fun X hX => by
    have hb := below_on hX hbV
    exact ⟨cells6 ((hX.block _ (heap_lt g0)).trans g0), (cell_of_heap ((hX.block _ (heap_lt g1)).trans g1)).trans rfl, (cell_of_heap ((hX.block _ (heap_lt g2)).trans g2)).trans rfl, (cell_of_heap ((hX.block _ (heap_lt g2)).trans g2)).trans rfl, hR.next hb, hb⟩
  have KP : Hid (∀ X, RT X → _) := fun X hX => pageCount_any sl fl dr mf ls pg hc.1 X hX
  have KB : Hid (∀ X, _) := fun X => bodySize_any sl fl dr mf ls pg hc.1 X
  obtain ⟨⟨y0, y1, y2, y3, y4, y5⟩, t2, p0, p1, -, -⟩ := HX.out V (Below.refl _ _)
  obtain ⟨m, hm⟩ : ∃ m, Cn.pgs ⟨sl, fl, dr, mf, ls, pg⟩ = m := ⟨_, rfl⟩
  obtain ⟨b, hb⟩ : ∃ b, pg - 5 = b := ⟨_, rfl⟩
  have hbb : Cn.body ⟨sl, fl, dr, mf, ls, pg⟩ = b := hb
  obtain ⟨N, hN⟩ : ∃ N, m * b = N := ⟨_, rfl⟩
  rw [hm] at KP b6 b7 b8 ⊢
  rw [hb] at KB ⊢
  rw [hbb] at b3 b4 b6
  rw [hN] at b6 ⊢
  have hNI : (m : Int) * (b : Int) = (N : Int) := by rw [← hN, Int.natCast_mul]
  have hN2 : N ≤ 1024 * 65531 := by rw [← hN]; exact Nat.mul_le_mul b8 b4
  have hNw : IntKind.i64.wrap (N : Int) = (N : Int) := by rw [IntKind.wrap_i64]; omega
  go_enter Tryd.func23, Tryd.ntmps23
  go_upto_region 1 with fail
  go_cut [7] (fun s wx => s = .int .i64 (N : Int) ∧ Hid (Below V.heap.size V wx))
  case first =>
    go_region_held_law (fun X => X.cell? ⟨w.heap.size, 0, none⟩ = some (.int .i64 (sl : Int)) ∧ X.cell? ⟨w.heap.size, 1, none⟩ = some (.int .i64 (fl : Int)) ∧ X.cell? ⟨w.heap.size, 2, none⟩ = some (.int .i64 (dr : Int)) ∧ X.cell? ⟨w.heap.size, 3, none⟩ = some (.int .i64 (mf : Int)) ∧ X.cell? ⟨w.heap.size, 4, none⟩ = some (.int .i64 (ls : Int)) ∧ X.cell? ⟨w.heap.size, 5, none⟩ = some (.int .i64 (pg : Int))) (first | with_reducible exact (HX.out _ hbw).1 | with_reducible exact (HX.out _ hbw.drew).1 | with_reducible exact (HX.out _ (by (repeat (first | with_reducible exact Below.refl _ _ | with_reducible refine Below.drew ?_ | with_reducible refine below_alloc ?_ _)); (first | done | fail))).1 | go_keep) (first | (go_at_call 31; refine (KP.out _ (HX.out _ (by (repeat (first | with_reducible exact Below.refl _ _ | with_reducible refine Below.drew ?_ | with_reducible refine below_alloc ?_ _)); (first | done | fail))).2.2.2.2.1).mono ?_; rintro e w8 ⟨rfl, hb8⟩; (first | (have hbw : Below V.heap.size V w8 := below_on hb8 (by (repeat (first | with_reducible exact Below.refl _ _ | with_reducible refine Below.drew ?_ | with_reducible refine below_alloc ?_ _)); (first | done | fail))) | (have hbw := below_on hb8 hbw.drew) | (have hbw := below_on hb8 hbw))) | (go_at_call 36; refine (KB.out _).mono ?_; rintro e w8 ⟨rfl, hb8⟩; (first | (have hbw : Below V.heap.size V w8 := below_on hb8 (by (repeat (first | with_reducible exact Below.refl _ _ | with_reducible refine Below.drew ?_ | with_reducible refine below_alloc ?_ _)); (first | done | fail))) | (have hbw := below_on hb8 hbw.drew) | (have hbw := below_on hb8 hbw))))
    all_goals
      go_wp2_with fail
      go_meet
      exact ⟨rfl, hbw⟩
  case rest =>
  obtain ⟨rfl, HBc⟩ := hcut
  obtain ⟨⟨z0', z1, z2, z3, z4, z5⟩, t2', p0', p1', hRc, hbc⟩ := HX.out wc HBc.out
  have KBN := byNumber_any sl fl dr mf ls pg hc.1 T hFs wc a n k (hS.below hbc) hn hnb
  clear y0 y1 y2 y3 y4 y5 t2 p0 p1 hV KP KB hNI hNw
  go_wp2_with fail
  refine KBN.mono ?_
  rintro e w2 ⟨gd, gf, rfl, hBn⟩
  have hbV2 : Below V.heap.size V w2 := below_on hBn.be HBc.out
  have hmk := make_bytes N (by omega) w2
  obtain ⟨P3, P4, hP3, hP4, hb4, hW0, hs4⟩ := wr_new w2 N (by omega)
  rw [hP3] at hmk
  have hBp := hW0.hB
  have HF : Hid (∀ X, Fr w2.heap.size P3.heap.size P4 X → Below w2.heap.size w2 X ∧ Below V.heap.size V X ∧ w2.heap.size ≤ X.heap.size ∧ ∀ g, g < w2.heap.size → Far X w2.heap.size P3.heap.size g) := fun X hX => by
    have hb0 : Below w2.heap.size w2 X := hb4.trans (hX.below hBp hs4)
    exact ⟨hb0, below_on hb0 hbV2, hb0.size, fun g hg => ⟨Nat.lt_of_lt_of_le hg hb0.size, by omega, .inl hg⟩⟩
  have hgd : gd < w2.heap.size := (hBn.hd.lt gd rfl).2
  have hgf : gf < w2.heap.size := (hBn.hf.lt gf rfl).2
  have hbw2 : Below w.heap.size w w2 := below_on hbV2 hbV
  have hfar : ∀ X, Fr w2.heap.size P3.heap.size P4 X → ∀ (g0 : Nat), g0 < w2.heap.size → ∀ (b off : Nat), (some ⟨g0, 0, none⟩ : Option Addr) = some ⟨b, off, none⟩ → Far X w2.heap.size P3.heap.size b := fun X hX g0 hg b off e => by
    injection e with e
    injection e with e _ _
    subst e
    exact (HF.out X hX).2.2.2 _ hg
  have hdl : (dirsL ⟨sl, fl, dr, mf, ls, pg⟩ T).length = dr := by simp [dirsL]
  have hfl' : (filsL ⟨sl, fl, dr, mf, ls, pg⟩ T).length = fl := by simp [filsL]
  have K1 := wrows_dir (dirsL ⟨sl, fl, dr, mf, ls, pg⟩ T) (dirs_ok hc.1 hNd) w2.heap.size P3.heap.size _ [] (by rw [i1]; have := hc.1.2.2.2.2.1; simp only at this ⊢; simp; omega) P4 (some ⟨gd, 0, none⟩) dr dr (see_own (owns_below hBn.hd hb4) (nds_one _)) hdl (by have := hc.1.2.2.2.2.1; simp only at this; omega) (hfar P4 (Fr.refl _ _ _) gd hgd) hW0 hs4
  obtain ⟨⟨y0, y1, y2, y3, y4, y5⟩, t2, p0, p1, -, -⟩ := HX.out w2 hbV2
  clear z0' z1 z2 z3 z4 z5 t2' p0' p1' KBN
  go_wp2_with fail
  refine K1.mono ?_
  rintro e w3 ⟨rfl, hF3, v3, hW3⟩
  have hrw : Cn.rows ⟨sl, fl, dr, mf, ls, pg⟩ = fl + sl := rfl
  have hlim : dr ≤ 4096 ∧ fl ≤ 65536 ∧ sl ≤ 64 ∧ 1 ≤ sl := ⟨hc.1.2.2.2.2.1, hc.1.2.2.2.1, hc.1.2.1, hc.1.1⟩
  rw [hrw] at i3 i4
  change _ = 36 * dr at i1
  change _ = 40 * fl at i2
  have K2 := wrows_file (filsL ⟨sl, fl, dr, mf, ls, pg⟩ T) (fils_ok hc.1 hNd) w2.heap.size P3.heap.size v3 _ (by rw [List.nil_append, i1, i2]; omega) w3 (some ⟨gf, 0, none⟩) fl fl (see_own (owns_below hBn.hf (HF.out w3 hF3).1) (nds_one _)) hfl' (by omega) (hfar w3 hF3 gf hgf) hW3 (HF.out w3 hF3).2.2.1
  clear K1 y0 y1 y2 y3 y4 y5 t2 p0 p1 hmk hP3 hP4
  obtain ⟨⟨y0, y1, y2, y3, y4, y5⟩, t2, p0, p1, -, -⟩ := HX.out w3 (HF.out w3 hF3).2.1
  go_wp2_with fail
  refine K2.mono ?_
  rintro e w4 ⟨rfl, hF4', v4, hW4⟩
  have hF4 := hF3.trans hF4'
  have hbw4 : Below w.heap.size w w4 := below_on (HF.out w4 hF4).1 hbw2
  have hno0 : 0 < no := by rw [← hno, h1o, hrw]; omega
  have hnor : no = fl + sl := by rw [← hno, h1o, hrw]
  have K3 := wrows_obj O (obs_ok hc.1 h2o) w2.heap.size P3.heap.size v4 _ (by rw [List.nil_append, List.length_append, i1, i2, i3]; omega) w4 ao no ko (hSo.below hbw4) hno (by omega) (fun b off e => (HF.out w4 hF4).2.2.2 b (Nat.lt_of_lt_of_le (see_lt hSo hno0 e) hbw2.size)) hW4 (HF.out w4 hF4).2.2.1
  clear K2 y0 y1 y2 y3 y4 y5 t2 p0 p1 hnor hno0
  obtain ⟨⟨y0, y1, y2, y3, y4, y5⟩, t2, p0, p1, -, -⟩ := HX.out w4 (HF.out w4 hF4).2.1
  go_wp2_with fail
  refine K3.mono ?_
  rintro e w5 ⟨rfl, hF5', v5, hW5⟩
  have hF5 := hF4.trans hF5'
  have hbw5 : Below w.heap.size w w5 := below_on (HF.out w5 hF5).1 hbw2
  have K4 := counted_any sl fl dr mf ls pg hc.1 Q w5 aq nq kq (hSq.below hbw5) hnq (by rw [← hnq, ← hrw]; exact h1q)
  clear K3 y0 y1 y2 y3 y4 y5 t2 p0 p1
  obtain ⟨⟨y0, y1, y2, y3, y4, y5⟩, t2, p0, p1, -, -⟩ := HX.out w5 (HF.out w5 hF5).2.1
  go_wp2_with fail
  refine K4.mono ?_
  rintro e w6 ⟨a6, k6, rfl, ho6, hb6⟩
  have hF6 := hF5.trans (Fr.of hb6)
  have hW6 := hW5.below hb6
  have hcl : (cntL ⟨sl, fl, dr, mf, ls, pg⟩ Q).length = 1 + (fl + sl) := by
    unfold cntL
    rw [List.length_cons, List.length_append, List.length_replicate, hrw]
    rw [hrw] at h1q
    omega
  have K5 := wrows_int (cntL ⟨sl, fl, dr, mf, ls, pg⟩ Q) (cnt_ok hc.1 h1q h2q) w2.heap.size P3.heap.size v5 _ (by rw [List.nil_append, List.length_append, List.length_append, i1, i2, i3, i4]; omega) w6 a6 (1 + (fl + sl)) k6 (see_own ho6 (zs_one _)) hcl (by omega) (fun b off e => by
    subst e
    obtain ⟨cur, hcur⟩ := owns_block ho6 rfl
    have hl6 := ho6.lt b rfl
    have hlp := hW5.lt
    refine ⟨hl6.2, by omega, .inr fun cs hcs => ?_⟩
    rw [hcur] at hcs
    injection hcs with hcs
    injection hcs with _ hcs _
    cases hcs) hW6 (HF.out w6 hF6).2.2.1
  clear K4 y0 y1 y2 y3 y4 y5 t2 p0 p1
  go_wp2_with fail
  refine K5.mono ?_
  rintro e w7 ⟨rfl, hF7', v7, hW7⟩
  have hF7 := hF6.trans hF7'
  obtain ⟨L, hLE⟩ : ∃ L, ((([] ++ (dirsL ⟨sl, fl, dr, mf, ls, pg⟩ T).flatMap dirL) ++ (filsL ⟨sl, fl, dr, mf, ls, pg⟩ T).flatMap filL) ++ O.flatMap objL) ++ (cntL ⟨sl, fl, dr, mf, ls, pg⟩ Q).flatMap queL = L := ⟨_, rfl⟩
  have hLi : Hid (L = imgL ⟨sl, fl, dr, mf, ls, pg⟩ T O Q) := by
    show L = _
    rw [← hLE]
    unfold imgL
    simp only [List.nil_append, List.append_assoc]
  rw [hLE] at hW7
  have hLl : L.length = Cn.len ⟨sl, fl, dr, mf, ls, pg⟩ := by rw [hLi.out, i5]
  obtain ⟨l, hl⟩ : ∃ l, L.length = l := ⟨_, rfl⟩
  rw [← hLl, hl] at b6
  obtain ⟨a7, k7, rfl⟩ := (see_own hW7.ho (byteCells_one L)).form
  obtain ⟨v0', -⟩ := hW7.cell
  rw [hl] at v0'
  have K6 := zeros_any (N - l) w2.heap.size P3.heap.size _ L (by omega) (by omega) w7 hW7 (HF.out w7 hF7).2.2.1
  have hNl : (N : Int) - (l : Int) = ((N - l : Nat) : Int) := by omega
  have hNw : IntKind.i64.wrap ((N - l : Nat) : Int) = ((N - l : Nat) : Int) := by rw [IntKind.wrap_i64]; omega
  clear K5 hLE
  generalize hq : N - l = q at *
  go_wp2_with fail
  refine K6.mono ?_
  rintro e w8 ⟨rfl, hF8', v8, hW8⟩
  have hF8 := hF7.trans hF8'
  have hall : L ++ z0 q = whoL ⟨sl, fl, dr, mf, ls, pg⟩ T O Q := by
    unfold whoL
    rw [← hLi.out, ← hLl, hl, hm, hbb, hN, hq]
  have hlN : (L ++ z0 q).length = N := by
    rw [List.length_append, hl]
    simp [z0]
    omega
  obtain ⟨a8, k8, rfl⟩ := (see_own hW8.ho (byteCells_one _)).form
  have hS8 := see_own hW8.ho (byteCells_one _)
  obtain ⟨v1', -⟩ := hW8.cell
  rw [hlN] at v1' hS8
  rw [hall] at hS8
  have HS8 : Hid _ := hS8
  have HB8 : Hid (Below w.heap.size w w8) := below_on (HF.out w8 hF8).1 hbw2
  clear K6 v0' hS8
  go_wp2
  go_ret
  exact ⟨_, _, rfl, HS8.out, HB8.out⟩
end Go.Proofs.YtbdgbefjmfcgcaaDoor.Ix
