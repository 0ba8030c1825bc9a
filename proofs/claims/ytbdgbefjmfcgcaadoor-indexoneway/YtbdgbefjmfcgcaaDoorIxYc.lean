import Derived.Test.YtbdgbefjmfcgcaaDoorIxXj
import Derived.Test.YtbdgbefjmfcgcaaDoorIxYb
import Derived.Deep.RegionWith
namespace Go.Proofs.YtbdgbefjmfcgcaaDoor.Ix
open Go.RowKit Go.Lib Go.Deep Go.Shelf
theorem equal_no (w : World) (a a2 : Option Addr) (n k k2 : Nat) (P Q : List ByteArray) (h1 : See w 1 (.slice a n k) n (scC P)) (h2 : See w 1 (.slice a2 n k2) n (scC Q)) (hn : P.length = n) (hm : Q.length = n) (hn1 : 1 ≤ n) (hn2 : n ≤ 100000) (hne : P ≠ Q) :
    Calls Tryd.prog 28 #[.slice a n k, .slice a2 n k2] w fun e w' => e = .returned (.bool false) ∧ Below w.heap.size w w' := by
  subst hn
  obtain ⟨x, hx⟩ : ∃ x, P[0]? = some x := ⟨_, List.getElem?_eq_getElem (by omega)⟩
  obtain ⟨y, hy⟩ : ∃ y, Q[0]? = some y := ⟨_, List.getElem?_eq_getElem (by omega)⟩
  obtain ⟨b, off, rfl, -, -⟩ := h1.s hx
  obtain ⟨b2, off2, rfl, -, -⟩ := h2.s hy
  have cells : ∀ (L : List ByteArray) (b off k : Nat), L.length = P.length → See w 1 (.slice (some ⟨b, off, none⟩) P.length k) P.length (scC L) → ∀ j, j < L.length → w.cell? ⟨b, off + j, none⟩ = some (.string (L.getD j ByteArray.empty)) := fun L b off k _ h j hj => by
    have e : L[j]? = some L[j] := List.getElem?_eq_getElem hj
    obtain ⟨b', off', e', -, hc⟩ := h.s e
    injection e' with e'
    injection e' with e1 e2 _
    subst e1 e2
    rw [hc, List.getD_eq_getElem?_getD, e]
    rfl
  have h := Any.slices_Equal_string Pa.equLays b off P.length k b2 off2 Q.length k2 P Q w (Nat.le_refl _) (Nat.le_refl _) (by omega) (by omega) (cells P b off k rfl h1) (cells Q b2 off2 k2 hm h2)
  rw [List.take_length, List.take_length, hm, decide_eq_false hne] at h
  exact h.mono fun e w' ⟨he, q, hw⟩ => ⟨he, hw ▸ bdN w q⟩
set_option maxRecDepth 20000 in
set_option maxHeartbeats 4000000 in
/-- what Encode did not write is refused -/
theorem decode_bad (sl fl dr mf ls pg : Nat) (hc : Cn.May ⟨sl, fl, dr, mf, ls, pg⟩) (P : List ByteArray) (hab : abB ⟨sl, fl, dr, mf, ls, pg⟩ P = true) (T : List Nd) (hT : rdT ⟨sl, fl, dr, mf, ls, pg⟩ (catL P) = T) (O : List Ob) (hO : rdP ⟨sl, fl, dr, mf, ls, pg⟩ (catL P) = O) (Q : List Int) (hQ : rdQ ⟨sl, fl, dr, mf, ls, pg⟩ (catL P) = Q) (hno : ¬ (risB ⟨sl, fl, dr, mf, ls, pg⟩ 0 T = true ∧ poolB ⟨sl, fl, dr, mf, ls, pg⟩ O Q = true ∧ cutL (pg - 5) (Cn.pgs ⟨sl, fl, dr, mf, ls, pg⟩) (whoL ⟨sl, fl, dr, mf, ls, pg⟩ T O Q) = P)) (w : World) (hR : RT w) (a : Option Addr) (k : Nat) (hS0 : See w 1 (.slice a (Cn.pgs ⟨sl, fl, dr, mf, ls, pg⟩) k) (Cn.pgs ⟨sl, fl, dr, mf, ls, pg⟩) (scC P)) :
    Calls Tryd.prog 9 #[.agg #[.int .i64 (sl : Int), .int .i64 (fl : Int), .int .i64 (dr : Int), .int .i64 (mf : Int), .int .i64 (ls : Int), .int .i64 (pg : Int)], .slice a (Cn.pgs ⟨sl, fl, dr, mf, ls, pg⟩) k] w fun e w' => e = .returned (.tuple #[.agg #[.int .i64 0, .int .i64 0, .slice none 0 0], .agg #[.slice none 0 0, .slice none 0 0], .int .i64 141]) ∧ Below w.heap.size w w' := by
  obtain ⟨hPl, hPs⟩ := ab_iff.1 hab
  have hlim : fl ≤ 65536 ∧ sl ≤ 64 ∧ dr ≤ 4096 ∧ 1 ≤ sl := ⟨hc.1.2.2.2.1, hc.1.2.1, hc.1.2.2.2.2.1, hc.1.1⟩
  have hm1 : 1 ≤ Cn.pgs ⟨sl, fl, dr, mf, ls, pg⟩ := hc.1.fit.2.2
  have hm2 : Cn.pgs ⟨sl, fl, dr, mf, ls, pg⟩ ≤ 1024 := hc.2
  have hpg : pg ≤ 65536 := hc.1.2.2.2.2.2.2.2.2.2
  have hN2 : Cn.pgs ⟨sl, fl, dr, mf, ls, pg⟩ * (pg - 5) ≤ 1024 * 65531 := Nat.mul_le_mul hm2 (by omega)
  have hcl : (catL P).length = Cn.pgs ⟨sl, fl, dr, mf, ls, pg⟩ * (pg - 5) := by rw [cat_length (pg - 5) P hPs, hPl]
  have hwn : Cn.len ⟨sl, fl, dr, mf, ls, pg⟩ ≤ (catL P).length := by rw [hcl]; exact hc.1.fit.1
  obtain ⟨img, himg⟩ : ∃ img, str (catL P) = img := ⟨_, rfl⟩
  have hid : img.data.toList = catL P := by rw [← himg, str_data]
  have his : img.size = (catL P).length := by rw [size_eq, hid]
  -- the rows of the queue
  have hLl : (rdL ⟨sl, fl, dr, mf, ls, pg⟩ (catL P)).length = 1 + (fl + sl) := by simp [rdL, rowsA, Cn.rows]
  obtain ⟨q, L, hLq⟩ : ∃ (q : Nat) (L : List Int), rdL ⟨sl, fl, dr, mf, ls, pg⟩ (catL P) = (q : Int) :: L := by
    have h0 : rdL ⟨sl, fl, dr, mf, ls, pg⟩ (catL P) = (List.range (1 + (fl + sl))).map fun i => ((nuL (seg (catL P) ((36 * dr + 40 * fl + 40 * (fl + sl)) + i * 4) 4) : Nat) : Int) := by
      unfold rdL rowsA
      rw [List.map_map]
      rfl
    rw [h0, Nat.add_comm 1, List.range_succ_eq_map, List.map_cons]
    exact ⟨_, _, rfl⟩
  have hLL : L.length = fl + sl := by rw [hLq, List.length_cons] at hLl; omega
  have hQe : L.take (min q (fl + sl)) = Q := by
    rw [← hQ]
    unfold rdQ
    rw [hLq]
    show _ = List.take (Int.toNat (q : Int)) L
    rw [Int.toNat_natCast]
    by_cases h : q ≤ fl + sl
    · rw [Nat.min_eq_left h]
    · rw [Nat.min_eq_right (by omega), List.take_of_length_le (by omega), List.take_of_length_le (by omega)]
  have hQl : Q.length = min q (fl + sl) := by rw [← hQe, List.length_take, hLL]; omega
  have hOl : O.length = fl + sl := by rw [← hO]; simp [rdP, rowsA, Cn.rows]
  have hTl : T.length ≤ 1000000 := by
    rw [← hT]
    unfold rdT
    have h1 := numd_len 1 ((rowsA (catL P) 0 36 dr).map rdD)
    have h2 := numd_len 0 ((rowsA (catL P) (36 * dr) 40 fl).map rdF)
    rw [List.length_map] at h1 h2
    have h3 : (rowsA (catL P) 0 36 dr).length = dr := by simp [rowsA]
    have h4 : (rowsA (catL P) (36 * dr) 40 fl).length = fl := by simp [rowsA]
    rw [List.length_append]
    simp only
    omega
  obtain ⟨V0, hV, hbV, g0, g1, g2⟩ := three_new w #[.int .i64 (sl : Int), .int .i64 (fl : Int), .int .i64 (dr : Int), .int .i64 (mf : Int), .int .i64 (ls : Int), .int .i64 (pg : Int)] #[.int .i64 0, .int .i64 0, .slice none 0 0] #[.slice none 0 0, .slice none 0 0] 23 28 32
  have HW : Hid (∀ X, Below V0.heap.size V0 X → Below w.heap.size w X) := fun X hX => below_on hX hbV
  have HCD : Hid (∀ X, Below V0.heap.size V0 X → X.cell? ⟨w.heap.size, 0, none⟩ = some (.int .i64 (sl : Int)) ∧ X.cell? ⟨w.heap.size, 1, none⟩ = some (.int .i64 (fl : Int)) ∧ X.cell? ⟨w.heap.size, 2, none⟩ = some (.int .i64 (dr : Int)) ∧ X.cell? ⟨w.heap.size, 3, none⟩ = some (.int .i64 (mf : Int)) ∧ X.cell? ⟨w.heap.size, 4, none⟩ = some (.int .i64 (ls : Int)) ∧ X.cell? ⟨w.heap.size, 5, none⟩ = some (.int .i64 (pg : Int))) := fun X hX => cells6 ((hX.block _ (heap_lt g0)).trans g0)
  have HZ : Hid (∀ X, Below V0.heap.size V0 X → X.heap[w.heap.size + 1]? = some (.cells #[.int .i64 0, .int .i64 0, .slice none 0 0] 28 (0, 0)) ∧ X.heap[w.heap.size + 2]? = some (.cells #[.slice none 0 0, .slice none 0 0] 32 (0, 0))) := fun X hX => ⟨(hX.block _ (heap_lt g1)).trans g1, (hX.block _ (heap_lt g2)).trans g2⟩
  have hV2 : w.heap.size + 2 < V0.heap.size := heap_lt g2
  have K1 := mayBe_any (Cn.cf ⟨sl, fl, dr, mf, ls, pg⟩) V0 (hR.next hbV)
  rw [decide_eq_true hc.cf] at K1
  have HSee : Hid (∀ X, Below V0.heap.size V0 X → See X 1 (.slice a (Cn.pgs ⟨sl, fl, dr, mf, ls, pg⟩) k) (Cn.pgs ⟨sl, fl, dr, mf, ls, pg⟩) (scC P)) := fun X hX => hS0.below (HW.out X hX)
  have K2 : Hid (∀ X, Below V0.heap.size V0 X → Calls Tryd.prog 24 #[.agg #[.int .i64 (sl : Int), .int .i64 (fl : Int), .int .i64 (dr : Int), .int .i64 (mf : Int), .int .i64 (ls : Int), .int .i64 (pg : Int)], .slice a (Cn.pgs ⟨sl, fl, dr, mf, ls, pg⟩) k] X fun e w' => e = .returned (.bool true) ∧ Below X.heap.size X w') := fun X hX => by
    have h := areBodies_any sl fl dr mf ls pg hc.1 P X (hR.next (HW.out X hX)) a _ k (HSee.out X hX) hPl (by omega)
    rw [hab] at h
    exact h
  have K3 : Hid (∀ X, Below V0.heap.size V0 X → Calls Tryd.prog 25 #[.slice a (Cn.pgs ⟨sl, fl, dr, mf, ls, pg⟩) k, .string { data := #[] }] X fun e w' => e = .returned (.string img) ∧ Below X.heap.size X w') := fun X hX => by
    rw [← himg]
    exact join_any X a _ k P (HSee.out X hX) hPl hm1 (by omega) (by rw [hcl]; omega)
  have KRT : Hid (∀ X, Below V0.heap.size V0 X → Calls Tryd.prog 26 #[.agg #[.int .i64 (sl : Int), .int .i64 (fl : Int), .int .i64 (dr : Int), .int .i64 (mf : Int), .int .i64 (ls : Int), .int .i64 (pg : Int)], .string img] X fun e w' => ∃ a c, e = .returned (.agg #[.int .i64 (fl : Int), .int .i64 (dr : Int), .slice a T.length c]) ∧ w'.ownsRow X.heap.size 44 5 (.slice a T.length c) T.length (ndsC T) ∧ Below X.heap.size X w') := fun X hX => by
    have h := readTree_any sl fl dr mf ls pg hc.1 img (by rw [his]; exact hwn) (by rw [his, hcl]; omega) X (hR.next (HW.out X hX))
    rw [hid, hT] at h
    exact h
  have KRP : Hid (∀ X, Below V0.heap.size V0 X → Calls Tryd.prog 27 #[.agg #[.int .i64 (sl : Int), .int .i64 (fl : Int), .int .i64 (dr : Int), .int .i64 (mf : Int), .int .i64 (ls : Int), .int .i64 (pg : Int)], .string img] X fun e w' => ∃ ao co g cap c, cap - 1 = c ∧ e = .returned (.agg #[.slice ao (fl + sl) co, .slice (some ⟨g, 1, none⟩) Q.length c]) ∧ w'.ownsRow X.heap.size 46 4 (.slice ao (fl + sl) co) (fl + sl) (obsC O) ∧ w'.ownsRow X.heap.size 3 1 (.slice (some ⟨g, 0, none⟩) (1 + (fl + sl)) cap) (1 + (fl + sl)) (zsC (rdL ⟨sl, fl, dr, mf, ls, pg⟩ (catL P))) ∧ Below X.heap.size X w') := fun X hX => by
    have h := readPool_all sl fl dr mf ls pg hc.1 img (by rw [his]; exact hwn) (by rw [his, hcl]; omega) q (min q (fl + sl)) L rfl (by rw [hid, hLq]) X (hR.next (HW.out X hX))
    rw [hid, hO, ← hQl, ← hLq] at h
    exact h
  have HQS : Hid (∀ (X : World) (g cap c : Nat), cap - 1 = c → X.ownsRow w.heap.size 3 1 (.slice (some ⟨g, 0, none⟩) (1 + (fl + sl)) cap) (1 + (fl + sl)) (zsC (rdL ⟨sl, fl, dr, mf, ls, pg⟩ (catL P))) → See X 1 (.slice (some ⟨g, 1, none⟩) Q.length c) Q.length (zsC Q)) := fun X g cap c hcap r3 => by
    subst hcap
    rw [hLq] at r3
    have h := see_tail r3 hLL (min q (fl + sl)) (Nat.min_le_right _ _)
    rw [hQe, ← hQl] at h
    exact h
  have KE : Hid (∀ X, Below V0.heap.size V0 X → ∀ at1 ct1 ao1 co1 g cap c, cap - 1 = c → X.ownsRow w.heap.size 44 5 (.slice at1 T.length ct1) T.length (ndsC T) → X.ownsRow w.heap.size 46 4 (.slice ao1 (fl + sl) co1) (fl + sl) (obsC O) → X.ownsRow w.heap.size 3 1 (.slice (some ⟨g, 0, none⟩) (1 + (fl + sl)) cap) (1 + (fl + sl)) (zsC (rdL ⟨sl, fl, dr, mf, ls, pg⟩ (catL P))) → (Calls Tryd.prog 8 #[.agg #[.int .i64 (sl : Int), .int .i64 (fl : Int), .int .i64 (dr : Int), .int .i64 (mf : Int), .int .i64 (ls : Int), .int .i64 (pg : Int)], .agg #[.int .i64 (fl : Int), .int .i64 (dr : Int), .slice at1 T.length ct1], .agg #[.slice ao1 (fl + sl) co1, .slice (some ⟨g, 1, none⟩) Q.length c]] X fun e w' => ∃ z : Int, z ≠ 0 ∧ e = .returned (.tuple #[.slice none 0 0, .int .i64 z]) ∧ Below X.heap.size X w') ∨ (Calls Tryd.prog 8 #[.agg #[.int .i64 (sl : Int), .int .i64 (fl : Int), .int .i64 (dr : Int), .int .i64 (mf : Int), .int .i64 (ls : Int), .int .i64 (pg : Int)], .agg #[.int .i64 (fl : Int), .int .i64 (dr : Int), .slice at1 T.length ct1], .agg #[.slice ao1 (fl + sl) co1, .slice (some ⟨g, 1, none⟩) Q.length c]] X fun e w' => ∃ a' k' P2, P2 ≠ P ∧ P2.length = Cn.pgs ⟨sl, fl, dr, mf, ls, pg⟩ ∧ e = .returned (.tuple #[.slice a' (Cn.pgs ⟨sl, fl, dr, mf, ls, pg⟩) k', .int .i64 0]) ∧ w'.ownsRow X.heap.size 9 1 (.slice a' (Cn.pgs ⟨sl, fl, dr, mf, ls, pg⟩) k') (Cn.pgs ⟨sl, fl, dr, mf, ls, pg⟩) (scC P2) ∧ Below X.heap.size X w')) := fun X hX at1 ct1 ao1 co1 g cap c hcap r1 r2 r3 => by
    have hsq := HQS.out X g cap c hcap r3
    by_cases hf : risB ⟨sl, fl, dr, mf, ls, pg⟩ 0 T = true ∧ poolB ⟨sl, fl, dr, mf, ls, pg⟩ O Q = true
    · refine .inr ((encode_any sl fl dr mf ls pg hc T O Q hf.1 hf.2 X (hR.next (HW.out X hX)) at1 _ ct1 (see_own r1 (nds_one _)) rfl (by omega) ao1 _ co1 (see_own r2 (obs_one _)) hOl _ _ _ hsq rfl).mono ?_)
      rintro e w' ⟨a', k', rfl, ho, hb⟩
      exact ⟨a', k', _, fun e => hno ⟨hf.1, hf.2, e⟩, cut_len _ _ _, rfl, ho, hb⟩
    · exact .inl (encode_no sl fl dr mf ls pg hc T O Q hf X (hR.next (HW.out X hX)) at1 _ ct1 (see_own r1 (nds_one _)) rfl (by omega) ao1 _ co1 (see_own r2 (obs_one _)) hOl _ _ _ hsq rfl rfl (by rw [hQl]; exact Nat.min_le_right _ _))
  have KQ : Hid (∀ X, Below V0.heap.size V0 X → ∀ a2 k2 P2, P2 ≠ P → P2.length = Cn.pgs ⟨sl, fl, dr, mf, ls, pg⟩ → See X 1 (.slice a2 (Cn.pgs ⟨sl, fl, dr, mf, ls, pg⟩) k2) (Cn.pgs ⟨sl, fl, dr, mf, ls, pg⟩) (scC P2) → Calls Tryd.prog 28 #[.slice a2 (Cn.pgs ⟨sl, fl, dr, mf, ls, pg⟩) k2, .slice a (Cn.pgs ⟨sl, fl, dr, mf, ls, pg⟩) k] X fun e w' => e = .returned (.bool false) ∧ Below X.heap.size X w') := fun X hX a2 k2 P2 hne hl2 h2 => equal_no X a2 a _ k2 k P2 P h2 (HSee.out X hX) hl2 hPl hm1 (by omega) hne
  obtain ⟨y0, y1, y2, y3, y4, y5⟩ := HCD.out V0 (Below.refl _ _)
  obtain ⟨LQ, hLQ⟩ : ∃ LQ, rdL ⟨sl, fl, dr, mf, ls, pg⟩ (catL P) = LQ := ⟨_, rfl⟩
  rw [hLQ] at KRP KE HQS
  generalize Cn.pgs ⟨sl, fl, dr, mf, ls, pg⟩ = m at *
  obtain ⟨r, hr⟩ : ∃ r, fl + sl = r := ⟨_, rfl⟩
  rw [hr] at KRP KE HQS
  obtain ⟨r1, hr1⟩ : ∃ r1, 1 + r = r1 := ⟨_, rfl⟩
  rw [hr1] at KRP KE HQS
  obtain ⟨nT, hnT⟩ : ∃ nT, T.length = nT := ⟨_, rfl⟩
  obtain ⟨nQ, hnQ⟩ : ∃ nQ, Q.length = nQ := ⟨_, rfl⟩
  rw [hnT] at KRT KE
  rw [hnQ] at KRP KE HQS
  clear hc hT hO hQ hno hPs hcl hwn hN2 hPl hab hS0 himg hid his g0 g1 g2 hbV hR hLQ hr hr1 hnT hnQ hTl hLl hLq hLL hQe hQl hOl
  go_enter Tryd.func9, Tryd.ntmps9
  go_wp2_with fail
  refine K1.mono ?_
  rintro e w1 ⟨rfl, hb1⟩
  have HB1 : Hid (Below V0.heap.size V0 w1) := hb1
  clear K1 hb1 y0 y1 y2 y3 y4 y5 hV
  obtain ⟨y0, y1, y2, y3, y4, y5⟩ := HCD.out w1 HB1.out
  go_wp2_with fail
  refine (K2.out w1 HB1.out).mono ?_
  rintro e w2 ⟨rfl, hb2⟩
  have HB2 : Hid (Below V0.heap.size V0 w2) := below_on hb2 HB1.out
  clear K2 hb2 y0 y1 y2 y3 y4 y5
  go_wp2_with fail
  refine (K3.out w2 HB2.out).mono ?_
  rintro e w3 ⟨rfl, hb3⟩
  have HB3 : Hid (Below V0.heap.size V0 w3) := below_on hb3 HB2.out
  clear K3 hb3
  obtain ⟨y0, y1, y2, y3, y4, y5⟩ := HCD.out w3 HB3.out
  go_upto_region 6 with fail
  go_cut [8, 9] (fun u v wx => ∃ g8 g9 at1 ct1 ao1 co1 gq capq cq, u = .pointer (some ⟨g8, 0, none⟩) ∧ v = .pointer (some ⟨g9, 0, none⟩) ∧ Hid (capq - 1 = cq) ∧ Hid (wx.heap[g8]? = some (.cells #[.int .i64 (fl : Int), .int .i64 (dr : Int), .slice at1 nT ct1] 28 (0, 0)) ∧ wx.heap[g9]? = some (.cells #[.slice ao1 r co1, .slice (some ⟨gq, 1, none⟩) nQ cq] 32 (0, 0)) ∧ V0.heap.size ≤ g8 ∧ V0.heap.size ≤ g9) ∧ Hid (wx.ownsRow w.heap.size 44 5 (.slice at1 nT ct1) nT (ndsC T)) ∧ Hid (wx.ownsRow w.heap.size 46 4 (.slice ao1 r co1) r (obsC O) ∧ wx.ownsRow w.heap.size 3 1 (.slice (some ⟨gq, 0, none⟩) r1 capq) r1 (zsC LQ)) ∧ Hid (Below V0.heap.size V0 wx))
  case first =>
    have hSx : (w3.drew.cell? ⟨w.heap.size, 0, none⟩ = some (.int .i64 (sl : Int)) ∧ w3.drew.cell? ⟨w.heap.size, 1, none⟩ = some (.int .i64 (fl : Int)) ∧ w3.drew.cell? ⟨w.heap.size, 2, none⟩ = some (.int .i64 (dr : Int)) ∧ w3.drew.cell? ⟨w.heap.size, 3, none⟩ = some (.int .i64 (mf : Int)) ∧ w3.drew.cell? ⟨w.heap.size, 4, none⟩ = some (.int .i64 (ls : Int)) ∧ w3.drew.cell? ⟨w.heap.size, 5, none⟩ = some (.int .i64 (pg : Int))) := ⟨y0, y1, y2, y3, y4, y5⟩
    refine wp_region_held_drew (S := fun W => W.cell? ⟨w.heap.size, 0, none⟩ = some (.int .i64 (sl : Int)) ∧ W.cell? ⟨w.heap.size, 1, none⟩ = some (.int .i64 (fl : Int)) ∧ W.cell? ⟨w.heap.size, 2, none⟩ = some (.int .i64 (dr : Int)) ∧ W.cell? ⟨w.heap.size, 3, none⟩ = some (.int .i64 (mf : Int)) ∧ W.cell? ⟨w.heap.size, 4, none⟩ = some (.int .i64 (ls : Int)) ∧ W.cell? ⟨w.heap.size, 5, none⟩ = some (.int .i64 (pg : Int))) (by kernel_rfl) hSx ?_
    intro hS
    clear hSx y0 y1 y2 y3 y4 y5
    have HB : Hid (Below V0.heap.size V0 w3.drew) := HB3.out.drew
    revert hS HB
    generalize w3.drew = V
    intro hS HB
    refine wpAnyH_take (i := 0) (oi := { dst := some 25, op := .load 23 (.tmp 2), type := _, pos := _, after := _, guard := none }) (v := .agg #[.int .i64 (sl : Int), .int .i64 (fl : Int), .int .i64 (dr : Int), .int .i64 (mf : Int), .int .i64 (ls : Int), .int .i64 (pg : Int)]) rfl (by kernel_rfl) (by kernel_rfl) (by kernel_rfl) (fun _ _ _ h => h) (Or.inl ⟨by rfl, by intro x hx; obtain ⟨h0, h1, h2, h3, h4, h5⟩ := hx; go_simp⟩) hS ?_
    (try simp only [Act.put, List.setIfInBounds_toArray, List.set_cons_zero, List.set_cons_succ])
    refine wpAnyH_take (i := 1) (oi := { dst := some 26, op := .move (.tmp 7), type := _, pos := _, after := _, guard := none }) (v := .string img) rfl (by kernel_rfl) (by kernel_rfl) (by kernel_rfl) (fun _ _ _ h => h) (Or.inl ⟨by rfl, by intro x _; go_simp⟩) hS ?_
    (try simp only [Act.put, List.setIfInBounds_toArray, List.set_cons_zero, List.set_cons_succ])
    refine wpAnyH_take (i := 3) (oi := { dst := some 28, op := .load 23 (.tmp 2), type := _, pos := _, after := _, guard := none }) (v := .agg #[.int .i64 (sl : Int), .int .i64 (fl : Int), .int .i64 (dr : Int), .int .i64 (mf : Int), .int .i64 (ls : Int), .int .i64 (pg : Int)]) rfl (by kernel_rfl) (by kernel_rfl) (by kernel_rfl) (fun _ _ _ h => h) (Or.inl ⟨by rfl, by intro x hx; obtain ⟨h0, h1, h2, h3, h4, h5⟩ := hx; go_simp⟩) hS ?_
    (try simp only [Act.put, List.setIfInBounds_toArray, List.set_cons_zero, List.set_cons_succ])
    refine wpAnyH_take (i := 4) (oi := { dst := some 29, op := .move (.tmp 7), type := _, pos := _, after := _, guard := none }) (v := .string img) rfl (by kernel_rfl) (by kernel_rfl) (by kernel_rfl) (fun _ _ _ h => h) (Or.inl ⟨by rfl, by intro x _; go_simp⟩) hS ?_
    (try simp only [Act.put, List.setIfInBounds_toArray, List.set_cons_zero, List.set_cons_succ])
    refine wpAnyH_ready (rs := [2, 6, 7]) (by kernel_rfl) (by simp) ?_
    refine AllReadyH.cons (o := { dst := some 27, op := .call { callee := .value (.func 26), args := #[.tmp 25, .tmp 26], argTypes := #[23, 9] }, type := _, pos := _, after := _, guard := none }) rfl (fun K hK => ?_) (AllReadyH.cons (o := { dst := some 8, op := .alloc 28, type := _, pos := _, after := _, guard := none }) rfl (fun K hK => ?_) (AllReadyH.cons (o := { dst := some 9, op := .alloc 32, type := _, pos := _, after := _, guard := none }) rfl (fun K hK => ?_) AllReadyH.nil))
    · go_simp
      refine (KRT.out _ HB.out).mono ?_
      rintro e W2 ⟨at1, ct1, rfl, ho2, hbA⟩
      have HB2 : Hid (Below V0.heap.size V0 W2) := below_on hbA HB.out
      have hS2 := HCD.out _ HB2.out
      have HRT2 : Hid (W2.ownsRow w.heap.size 44 5 (.slice at1 nT ct1) nT (ndsC T)) := owns_base ho2 (HW.out _ HB.out).size
      refine hK.out _ _ hS2 (fun _ => ?_)
      clear hK K hS HB hbA ho2 
      (try simp only [Act.put, List.setIfInBounds_toArray, List.set_cons_zero, List.set_cons_succ])
      revert HB2 hS2 HRT2
      generalize W2 = V
      intro HB hS HRT
      refine wpAnyH_ready (rs := [5, 6, 7]) (by kernel_rfl) (by simp) ?_
      refine AllReadyH.cons (o := { dst := some 30, op := .call { callee := .value (.func 27), args := #[.tmp 28, .tmp 29], argTypes := #[23, 9] }, type := _, pos := _, after := _, guard := none }) rfl (fun K hK => ?_) (AllReadyH.cons (o := { dst := some 8, op := .alloc 28, type := _, pos := _, after := _, guard := none }) rfl (fun K hK => ?_) (AllReadyH.cons (o := { dst := some 9, op := .alloc 32, type := _, pos := _, after := _, guard := none }) rfl (fun K hK => ?_) AllReadyH.nil))
      · go_simp
        refine (KRP.out _ HB.out).mono ?_
        rintro e W2 ⟨ao1, co1, gq, capq, cq, hcq, rfl, ho2, hq2, hbA⟩
        have HCQ : Hid (capq - 1 = cq) := hcq
        clear hcq
        have HB2 : Hid (Below V0.heap.size V0 W2) := below_on hbA HB.out
        have hS2 := HCD.out _ HB2.out
        have HRT2 : Hid (W2.ownsRow w.heap.size 44 5 (.slice at1 nT ct1) nT (ndsC T)) := owns_below HRT.out hbA
        have HRP2 : Hid (W2.ownsRow w.heap.size 46 4 (.slice ao1 r co1) r (obsC O) ∧ W2.ownsRow w.heap.size 3 1 (.slice (some ⟨gq, 0, none⟩) r1 capq) r1 (zsC LQ)) := ⟨owns_base ho2 (HW.out _ HB.out).size, owns_base hq2 (HW.out _ HB.out).size⟩
        refine hK.out _ _ hS2 (fun _ => ?_)
        clear hK K hS HB hbA ho2 hq2 HRT
        (try simp only [Act.put, List.setIfInBounds_toArray, List.set_cons_zero, List.set_cons_succ])
        revert HB2 hS2 HRT2 HRP2
        generalize W2 = V
        intro HB hS HRT HRP
        refine wpAnyH_ready (rs := [6, 7]) (by kernel_rfl) (by simp) ?_
        refine AllReadyH.cons (o := { dst := some 8, op := .alloc 28, type := _, pos := _, after := _, guard := none }) rfl (fun K hK => ?_) (AllReadyH.cons (o := { dst := some 9, op := .alloc 32, type := _, pos := _, after := _, guard := none }) rfl (fun K hK => ?_) AllReadyH.nil)
        · go_simp
          have hbA : Below V.heap.size V (V.alloc (.cells #[.int .i64 0, .int .i64 0, .slice none 0 0] 28)) := (Below.refl _ _).alloc (Nat.le_refl _) _
          have HB2 : Hid (Below V0.heap.size V0 (V.alloc (.cells #[.int .i64 0, .int .i64 0, .slice none 0 0] 28))) := below_on hbA HB.out
          have hS2 := HCD.out _ HB2.out
          have HRT2 : Hid ((V.alloc (.cells #[.int .i64 0, .int .i64 0, .slice none 0 0] 28)).ownsRow w.heap.size 44 5 (.slice at1 nT ct1) nT (ndsC T)) := owns_below HRT.out hbA
          have HRP2 : Hid ((V.alloc (.cells #[.int .i64 0, .int .i64 0, .slice none 0 0] 28)).ownsRow w.heap.size 46 4 (.slice ao1 r co1) r (obsC O) ∧ (V.alloc (.cells #[.int .i64 0, .int .i64 0, .slice none 0 0] 28)).ownsRow w.heap.size 3 1 (.slice (some ⟨gq, 0, none⟩) r1 capq) r1 (zsC LQ)) := ⟨owns_below HRP.out.1 hbA, owns_below HRP.out.2 hbA⟩
          have HT2 : Hid ((V.alloc (.cells #[.int .i64 0, .int .i64 0, .slice none 0 0] 28)).heap[V.heap.size]? = some (.cells #[.int .i64 0, .int .i64 0, .slice none 0 0] 28 (0, 0)) ∧ V0.heap.size ≤ V.heap.size) := ⟨heap_new V _, HB.out.size⟩
          refine hK.out _ _ hS2 (fun _ => ?_)
          clear hK K hS HB hbA HRT HRP
          (try simp only [Act.put, List.setIfInBounds_toArray, List.set_cons_zero, List.set_cons_succ])
          revert HB2 hS2 HRT2 HRP2 HT2
          generalize (V.alloc (.cells #[.int .i64 0, .int .i64 0, .slice none 0 0] 28)) = V2
          generalize V.heap.size = g8
          intro HB hS HRT HRP HT
          revert HB hS HRT HRP HT
          generalize V2 = V
          intro HB hS HRT HRP HT
          refine wpAnyH_ready (rs := [7]) (by kernel_rfl) (by simp) ?_
          refine AllReadyH.cons (o := { dst := some 9, op := .alloc 32, type := _, pos := _, after := _, guard := none }) rfl (fun K hK => ?_) AllReadyH.nil
          go_simp
          have hbA : Below V.heap.size V (V.alloc (.cells #[.slice none 0 0, .slice none 0 0] 32)) := (Below.refl _ _).alloc (Nat.le_refl _) _
          have HB2 : Hid (Below V0.heap.size V0 (V.alloc (.cells #[.slice none 0 0, .slice none 0 0] 32))) := below_on hbA HB.out
          have hS2 := HCD.out _ HB2.out
          have HT2 : Hid ((V.alloc (.cells #[.slice none 0 0, .slice none 0 0] 32)).heap[g8]? = some (.cells #[.int .i64 0, .int .i64 0, .slice none 0 0] 28 (0, 0)) ∧ V0.heap.size ≤ g8) := ⟨(hbA.block _ (heap_lt HT.out.1)).trans HT.out.1, HT.out.2⟩
          have HRT2 : Hid ((V.alloc (.cells #[.slice none 0 0, .slice none 0 0] 32)).ownsRow w.heap.size 44 5 (.slice at1 nT ct1) nT (ndsC T)) := owns_below HRT.out hbA
          have HRP2 : Hid ((V.alloc (.cells #[.slice none 0 0, .slice none 0 0] 32)).ownsRow w.heap.size 46 4 (.slice ao1 r co1) r (obsC O) ∧ (V.alloc (.cells #[.slice none 0 0, .slice none 0 0] 32)).ownsRow w.heap.size 3 1 (.slice (some ⟨gq, 0, none⟩) r1 capq) r1 (zsC LQ)) := ⟨owns_below HRP.out.1 hbA, owns_below HRP.out.2 hbA⟩
          have HP2 : Hid ((V.alloc (.cells #[.slice none 0 0, .slice none 0 0] 32)).heap[V.heap.size]? = some (.cells #[.slice none 0 0, .slice none 0 0] 32 (0, 0)) ∧ V0.heap.size ≤ V.heap.size) := ⟨heap_new V _, HB.out.size⟩
          refine hK.out _ _ hS2 (fun _ => ?_)
          clear hK K hS HB hbA HT HRT HRP
          (try simp only [Act.put, List.setIfInBounds_toArray, List.set_cons_zero, List.set_cons_succ])
          revert HB2 hS2 HT2 HRT2 HRP2 HP2
          generalize (V.alloc (.cells #[.slice none 0 0, .slice none 0 0] 32)) = V2
          generalize V.heap.size = g9
          intro HB hS HT HRT HRP HP
          revert HB hS HT HRT HRP HP
          generalize V2 = V
          intro HB hS HT HRT HRP HP
          refine wpAnyH_ready (rs := [8]) (by kernel_rfl) (by simp) ?_
          refine AllReadyH.cons (o := { dst := none, op := .store 28 (.tmp 8) (.tmp 27), type := _, pos := _, after := _, guard := none }) rfl (fun K hK => ?_) AllReadyH.nil
          obtain ⟨q0, q1, q2⟩ := cells3 HT.out.1
          have f5 : ∀ j, V.frozen? ⟨g8, j, none⟩ = false := fun j => frozen_of_heap HT.out.1
          go_simp
          have HB2 : Hid (Below V0.heap.size V0 (((V.setCell ⟨g8, 0, none⟩ (.int .i64 (fl : Int))).setCell ⟨g8, 1, none⟩ (.int .i64 (dr : Int))).setCell ⟨g8, 2, none⟩ (.slice at1 nT ct1))) := ((HB.out.setCell HT.out.2 _).setCell HT.out.2 _).setCell HT.out.2 _
          have hS2 := HCD.out _ HB2.out
          have HT2 : Hid ((((V.setCell ⟨g8, 0, none⟩ (.int .i64 (fl : Int))).setCell ⟨g8, 1, none⟩ (.int .i64 (dr : Int))).setCell ⟨g8, 2, none⟩ (.slice at1 nT ct1)).heap[g8]? = some (.cells #[.int .i64 (fl : Int), .int .i64 (dr : Int), .slice at1 nT ct1] 28 (0, 0)) ∧ V0.heap.size ≤ g8) := ⟨Tr.put3A HT.out.1, HT.out.2⟩
          have hne : g9 ≠ g8 := ty_ne HP.out.1 HT.out.1 (by decide)
          have HP2 : Hid ((((V.setCell ⟨g8, 0, none⟩ (.int .i64 (fl : Int))).setCell ⟨g8, 1, none⟩ (.int .i64 (dr : Int))).setCell ⟨g8, 2, none⟩ (.slice at1 nT ct1)).heap[g9]? = some (.cells #[.slice none 0 0, .slice none 0 0] 32 (0, 0)) ∧ V0.heap.size ≤ g9) := ⟨by rw [heap_setCell_other _ _ _ _ hne, heap_setCell_other _ _ _ _ hne, heap_setCell_other _ _ _ _ hne]; exact HP.out.1, HP.out.2⟩
          have HRT2 : Hid ((((V.setCell ⟨g8, 0, none⟩ (.int .i64 (fl : Int))).setCell ⟨g8, 1, none⟩ (.int .i64 (dr : Int))).setCell ⟨g8, 2, none⟩ (.slice at1 nT ct1)).ownsRow w.heap.size 44 5 (.slice at1 nT ct1) nT (ndsC T)) := owns_put3 HT.out.1 (by decide) HRT.out _ _ _
          have HRP2 : Hid ((((V.setCell ⟨g8, 0, none⟩ (.int .i64 (fl : Int))).setCell ⟨g8, 1, none⟩ (.int .i64 (dr : Int))).setCell ⟨g8, 2, none⟩ (.slice at1 nT ct1)).ownsRow w.heap.size 46 4 (.slice ao1 r co1) r (obsC O) ∧ (((V.setCell ⟨g8, 0, none⟩ (.int .i64 (fl : Int))).setCell ⟨g8, 1, none⟩ (.int .i64 (dr : Int))).setCell ⟨g8, 2, none⟩ (.slice at1 nT ct1)).ownsRow w.heap.size 3 1 (.slice (some ⟨gq, 0, none⟩) r1 capq) r1 (zsC LQ)) := ⟨owns_put3 HT.out.1 (by decide) HRP.out.1 _ _ _, owns_put3 HT.out.1 (by decide) HRP.out.2 _ _ _⟩
          refine hK.out _ _ hS2 (fun _ => ?_)
          clear hK K hS q0 q1 q2 f5 hne HT HP HB HRT HRP
          (try simp only [Act.put])
          revert HB2 hS2 HT2 HP2 HRT2 HRP2
          generalize (((V.setCell ⟨g8, 0, none⟩ (.int .i64 (fl : Int))).setCell ⟨g8, 1, none⟩ (.int .i64 (dr : Int))).setCell ⟨g8, 2, none⟩ (.slice at1 nT ct1)) = V2
          intro HB hS HT HP HRT HRP
          revert HB hS HT HP HRT HRP
          generalize V2 = V
          intro HB hS HT HP HRT HRP
          refine wpAnyH_ready (rs := [9]) (by kernel_rfl) (by simp) ?_
          refine AllReadyH.cons (o := { dst := none, op := .store 32 (.tmp 9) (.tmp 30), type := _, pos := _, after := _, guard := none }) rfl (fun K hK => ?_) AllReadyH.nil
          obtain ⟨q0, q1⟩ := cells2 HP.out.1
          have f5 : ∀ j, V.frozen? ⟨g9, j, none⟩ = false := fun j => frozen_of_heap HP.out.1
          go_simp
          have HB2 : Hid (Below V0.heap.size V0 ((V.setCell ⟨g9, 0, none⟩ (.slice ao1 r co1)).setCell ⟨g9, 1, none⟩ (.slice (some ⟨gq, 1, none⟩) nQ cq))) := (HB.out.setCell HP.out.2 _).setCell HP.out.2 _
          have hS2 := HCD.out _ HB2.out
          have hne : g8 ≠ g9 := ty_ne HT.out.1 HP.out.1 (by decide)
          have HT2 : Hid (((V.setCell ⟨g9, 0, none⟩ (.slice ao1 r co1)).setCell ⟨g9, 1, none⟩ (.slice (some ⟨gq, 1, none⟩) nQ cq)).heap[g8]? = some (.cells #[.int .i64 (fl : Int), .int .i64 (dr : Int), .slice at1 nT ct1] 28 (0, 0)) ∧ V0.heap.size ≤ g8) := ⟨by rw [heap_setCell_other _ _ _ _ hne, heap_setCell_other _ _ _ _ hne]; exact HT.out.1, HT.out.2⟩
          have HP2 : Hid (((V.setCell ⟨g9, 0, none⟩ (.slice ao1 r co1)).setCell ⟨g9, 1, none⟩ (.slice (some ⟨gq, 1, none⟩) nQ cq)).heap[g9]? = some (.cells #[.slice ao1 r co1, .slice (some ⟨gq, 1, none⟩) nQ cq] 32 (0, 0)) ∧ V0.heap.size ≤ g9) := ⟨Tr.put2A HP.out.1, HP.out.2⟩
          have HRT2 : Hid (((V.setCell ⟨g9, 0, none⟩ (.slice ao1 r co1)).setCell ⟨g9, 1, none⟩ (.slice (some ⟨gq, 1, none⟩) nQ cq)).ownsRow w.heap.size 44 5 (.slice at1 nT ct1) nT (ndsC T)) := owns_put2 HP.out.1 (by decide) HRT.out _ _
          have HRP2 : Hid (((V.setCell ⟨g9, 0, none⟩ (.slice ao1 r co1)).setCell ⟨g9, 1, none⟩ (.slice (some ⟨gq, 1, none⟩) nQ cq)).ownsRow w.heap.size 46 4 (.slice ao1 r co1) r (obsC O) ∧ ((V.setCell ⟨g9, 0, none⟩ (.slice ao1 r co1)).setCell ⟨g9, 1, none⟩ (.slice (some ⟨gq, 1, none⟩) nQ cq)).ownsRow w.heap.size 3 1 (.slice (some ⟨gq, 0, none⟩) r1 capq) r1 (zsC LQ)) := ⟨owns_put2 HP.out.1 (by decide) HRP.out.1 _ _, owns_put2 HP.out.1 (by decide) HRP.out.2 _ _⟩
          refine hK.out _ _ hS2 (fun _ => ?_)
          clear hK K hS q0 q1 f5 hne HT HP HB HRT HRP
          (try simp only [Act.put])
          revert HB2 hS2 HT2 HP2 HRT2 HRP2
          generalize ((V.setCell ⟨g9, 0, none⟩ (.slice ao1 r co1)).setCell ⟨g9, 1, none⟩ (.slice (some ⟨gq, 1, none⟩) nQ cq)) = V2
          intro HB hS HT HP HRT HRP
          revert HB hS HT HP HRT HRP
          generalize V2 = V
          intro HB hS HT HP HRT HRP
          refine wpAnyH_done (by kernel_rfl) ?_ _
          go_wp2_with fail
          go_meet
          exact ⟨g8, g9, at1, ct1, ao1, co1, gq, capq, cq, rfl, rfl, HCQ.out, ⟨HT.out.1, HP.out.1, HT.out.2, HP.out.2⟩, HRT.out, HRP.out, HB.out⟩
        · go_simp
          have hbA : Below V.heap.size V (V.alloc (.cells #[.slice none 0 0, .slice none 0 0] 32)) := (Below.refl _ _).alloc (Nat.le_refl _) _
          have HB2 : Hid (Below V0.heap.size V0 (V.alloc (.cells #[.slice none 0 0, .slice none 0 0] 32))) := below_on hbA HB.out
          have hS2 := HCD.out _ HB2.out
          have HRT2 : Hid ((V.alloc (.cells #[.slice none 0 0, .slice none 0 0] 32)).ownsRow w.heap.size 44 5 (.slice at1 nT ct1) nT (ndsC T)) := owns_below HRT.out hbA
          have HRP2 : Hid ((V.alloc (.cells #[.slice none 0 0, .slice none 0 0] 32)).ownsRow w.heap.size 46 4 (.slice ao1 r co1) r (obsC O) ∧ (V.alloc (.cells #[.slice none 0 0, .slice none 0 0] 32)).ownsRow w.heap.size 3 1 (.slice (some ⟨gq, 0, none⟩) r1 capq) r1 (zsC LQ)) := ⟨owns_below HRP.out.1 hbA, owns_below HRP.out.2 hbA⟩
          have HP2 : Hid ((V.alloc (.cells #[.slice none 0 0, .slice none 0 0] 32)).heap[V.heap.size]? = some (.cells #[.slice none 0 0, .slice none 0 0] 32 (0, 0)) ∧ V0.heap.size ≤ V.heap.size) := ⟨heap_new V _, HB.out.size⟩
          refine hK.out _ _ hS2 (fun _ => ?_)
          clear hK K hS HB hbA HRT HRP
          (try simp only [Act.put, List.setIfInBounds_toArray, List.set_cons_zero, List.set_cons_succ])
          revert HB2 hS2 HRT2 HRP2 HP2
          generalize (V.alloc (.cells #[.slice none 0 0, .slice none 0 0] 32)) = V2
          generalize V.heap.size = g9
          intro HB hS HRT HRP HP
          revert HB hS HRT HRP HP
          generalize V2 = V
          intro HB hS HRT HRP HP
          refine wpAnyH_ready (rs := [6]) (by kernel_rfl) (by simp) ?_
          refine AllReadyH.cons (o := { dst := some 8, op := .alloc 28, type := _, pos := _, after := _, guard := none }) rfl (fun K hK => ?_) AllReadyH.nil
          go_simp
          have hbA : Below V.heap.size V (V.alloc (.cells #[.int .i64 0, .int .i64 0, .slice none 0 0] 28)) := (Below.refl _ _).alloc (Nat.le_refl _) _
          have HB2 : Hid (Below V0.heap.size V0 (V.alloc (.cells #[.int .i64 0, .int .i64 0, .slice none 0 0] 28))) := below_on hbA HB.out
          have hS2 := HCD.out _ HB2.out
          have HP2 : Hid ((V.alloc (.cells #[.int .i64 0, .int .i64 0, .slice none 0 0] 28)).heap[g9]? = some (.cells #[.slice none 0 0, .slice none 0 0] 32 (0, 0)) ∧ V0.heap.size ≤ g9) := ⟨(hbA.block _ (heap_lt HP.out.1)).trans HP.out.1, HP.out.2⟩
          have HRT2 : Hid ((V.alloc (.cells #[.int .i64 0, .int .i64 0, .slice none 0 0] 28)).ownsRow w.heap.size 44 5 (.slice at1 nT ct1) nT (ndsC T)) := owns_below HRT.out hbA
          have HRP2 : Hid ((V.alloc (.cells #[.int .i64 0, .int .i64 0, .slice none 0 0] 28)).ownsRow w.heap.size 46 4 (.slice ao1 r co1) r (obsC O) ∧ (V.alloc (.cells #[.int .i64 0, .int .i64 0, .slice none 0 0] 28)).ownsRow w.heap.size 3 1 (.slice (some ⟨gq, 0, none⟩) r1 capq) r1 (zsC LQ)) := ⟨owns_below HRP.out.1 hbA, owns_below HRP.out.2 hbA⟩
          have HT2 : Hid ((V.alloc (.cells #[.int .i64 0, .int .i64 0, .slice none 0 0] 28)).heap[V.heap.size]? = some (.cells #[.int .i64 0, .int .i64 0, .slice none 0 0] 28 (0, 0)) ∧ V0.heap.size ≤ V.heap.size) := ⟨heap_new V _, HB.out.size⟩
          refine hK.out _ _ hS2 (fun _ => ?_)
          clear hK K hS HB hbA HP HRT HRP
          (try simp only [Act.put, List.setIfInBounds_toArray, List.set_cons_zero, List.set_cons_succ])
          revert HB2 hS2 HP2 HRT2 HRP2 HT2
          generalize (V.alloc (.cells #[.int .i64 0, .int .i64 0, .slice none 0 0] 28)) = V2
          generalize V.heap.size = g8
          intro HB hS HP HRT HRP HT
          revert HB hS HP HRT HRP HT
          generalize V2 = V
          intro HB hS HP HRT HRP HT
          refine wpAnyH_ready (rs := [8]) (by kernel_rfl) (by simp) ?_
          refine AllReadyH.cons (o := { dst := none, op := .store 28 (.tmp 8) (.tmp 27), type := _, pos := _, after := _, guard := none }) rfl (fun K hK => ?_) AllReadyH.nil
          obtain ⟨q0, q1, q2⟩ := cells3 HT.out.1
          have f5 : ∀ j, V.frozen? ⟨g8, j, none⟩ = false := fun j => frozen_of_heap HT.out.1
          go_simp
          have HB2 : Hid (Below V0.heap.size V0 (((V.setCell ⟨g8, 0, none⟩ (.int .i64 (fl : Int))).setCell ⟨g8, 1, none⟩ (.int .i64 (dr : Int))).setCell ⟨g8, 2, none⟩ (.slice at1 nT ct1))) := ((HB.out.setCell HT.out.2 _).setCell HT.out.2 _).setCell HT.out.2 _
          have hS2 := HCD.out _ HB2.out
          have HT2 : Hid ((((V.setCell ⟨g8, 0, none⟩ (.int .i64 (fl : Int))).setCell ⟨g8, 1, none⟩ (.int .i64 (dr : Int))).setCell ⟨g8, 2, none⟩ (.slice at1 nT ct1)).heap[g8]? = some (.cells #[.int .i64 (fl : Int), .int .i64 (dr : Int), .slice at1 nT ct1] 28 (0, 0)) ∧ V0.heap.size ≤ g8) := ⟨Tr.put3A HT.out.1, HT.out.2⟩
          have hne : g9 ≠ g8 := ty_ne HP.out.1 HT.out.1 (by decide)
          have HP2 : Hid ((((V.setCell ⟨g8, 0, none⟩ (.int .i64 (fl : Int))).setCell ⟨g8, 1, none⟩ (.int .i64 (dr : Int))).setCell ⟨g8, 2, none⟩ (.slice at1 nT ct1)).heap[g9]? = some (.cells #[.slice none 0 0, .slice none 0 0] 32 (0, 0)) ∧ V0.heap.size ≤ g9) := ⟨by rw [heap_setCell_other _ _ _ _ hne, heap_setCell_other _ _ _ _ hne, heap_setCell_other _ _ _ _ hne]; exact HP.out.1, HP.out.2⟩
          have HRT2 : Hid ((((V.setCell ⟨g8, 0, none⟩ (.int .i64 (fl : Int))).setCell ⟨g8, 1, none⟩ (.int .i64 (dr : Int))).setCell ⟨g8, 2, none⟩ (.slice at1 nT ct1)).ownsRow w.heap.size 44 5 (.slice at1 nT ct1) nT (ndsC T)) := owns_put3 HT.out.1 (by decide) HRT.out _ _ _
          have HRP2 : Hid ((((V.setCell ⟨g8, 0, none⟩ (.int .i64 (fl : Int))).setCell ⟨g8, 1, none⟩ (.int .i64 (dr : Int))).setCell ⟨g8, 2, none⟩ (.slice at1 nT ct1)).ownsRow w.heap.size 46 4 (.slice ao1 r co1) r (obsC O) ∧ (((V.setCell ⟨g8, 0, none⟩ (.int .i64 (fl : Int))).setCell ⟨g8, 1, none⟩ (.int .i64 (dr : Int))).setCell ⟨g8, 2, none⟩ (.slice at1 nT ct1)).ownsRow w.heap.size 3 1 (.slice (some ⟨gq, 0, none⟩) r1 capq) r1 (zsC LQ)) := ⟨owns_put3 HT.out.1 (by decide) HRP.out.1 _ _ _, owns_put3 HT.out.1 (by decide) HRP.out.2 _ _ _⟩
          refine hK.out _ _ hS2 (fun _ => ?_)
          clear hK K hS q0 q1 q2 f5 hne HT HP HB HRT HRP
          (try simp only [Act.put])
          revert HB2 hS2 HT2 HP2 HRT2 HRP2
          generalize (((V.setCell ⟨g8, 0, none⟩ (.int .i64 (fl : Int))).setCell ⟨g8, 1, none⟩ (.int .i64 (dr : Int))).setCell ⟨g8, 2, none⟩ (.slice at1 nT ct1)) = V2
          intro HB hS HT HP HRT HRP
          revert HB hS HT HP HRT HRP
          generalize V2 = V
          intro HB hS HT HP HRT HRP
          refine wpAnyH_ready (rs := [9]) (by kernel_rfl) (by simp) ?_
          refine AllReadyH.cons (o := { dst := none, op := .store 32 (.tmp 9) (.tmp 30), type := _, pos := _, after := _, guard := none }) rfl (fun K hK => ?_) AllReadyH.nil
          obtain ⟨q0, q1⟩ := cells2 HP.out.1
          have f5 : ∀ j, V.frozen? ⟨g9, j, none⟩ = false := fun j => frozen_of_heap HP.out.1
          go_simp
          have HB2 : Hid (Below V0.heap.size V0 ((V.setCell ⟨g9, 0, none⟩ (.slice ao1 r co1)).setCell ⟨g9, 1, none⟩ (.slice (some ⟨gq, 1, none⟩) nQ cq))) := (HB.out.setCell HP.out.2 _).setCell HP.out.2 _
          have hS2 := HCD.out _ HB2.out
          have hne : g8 ≠ g9 := ty_ne HT.out.1 HP.out.1 (by decide)
          have HT2 : Hid (((V.setCell ⟨g9, 0, none⟩ (.slice ao1 r co1)).setCell ⟨g9, 1, none⟩ (.slice (some ⟨gq, 1, none⟩) nQ cq)).heap[g8]? = some (.cells #[.int .i64 (fl : Int), .int .i64 (dr : Int), .slice at1 nT ct1] 28 (0, 0)) ∧ V0.heap.size ≤ g8) := ⟨by rw [heap_setCell_other _ _ _ _ hne, heap_setCell_other _ _ _ _ hne]; exact HT.out.1, HT.out.2⟩
          have HP2 : Hid (((V.setCell ⟨g9, 0, none⟩ (.slice ao1 r co1)).setCell ⟨g9, 1, none⟩ (.slice (some ⟨gq, 1, none⟩) nQ cq)).heap[g9]? = some (.cells #[.slice ao1 r co1, .slice (some ⟨gq, 1, none⟩) nQ cq] 32 (0, 0)) ∧ V0.heap.size ≤ g9) := ⟨Tr.put2A HP.out.1, HP.out.2⟩
          have HRT2 : Hid (((V.setCell ⟨g9, 0, none⟩ (.slice ao1 r co1)).setCell ⟨g9, 1, none⟩ (.slice (some ⟨gq, 1, none⟩) nQ cq)).ownsRow w.heap.size 44 5 (.slice at1 nT ct1) nT (ndsC T)) := owns_put2 HP.out.1 (by decide) HRT.out _ _
          have HRP2 : Hid (((V.setCell ⟨g9, 0, none⟩ (.slice ao1 r co1)).setCell ⟨g9, 1, none⟩ (.slice (some ⟨gq, 1, none⟩) nQ cq)).ownsRow w.heap.size 46 4 (.slice ao1 r co1) r (obsC O) ∧ ((V.setCell ⟨g9, 0, none⟩ (.slice ao1 r co1)).setCell ⟨g9, 1, none⟩ (.slice (some ⟨gq, 1, none⟩) nQ cq)).ownsRow w.heap.size 3 1 (.slice (some ⟨gq, 0, none⟩) r1 capq) r1 (zsC LQ)) := ⟨owns_put2 HP.out.1 (by decide) HRP.out.1 _ _, owns_put2 HP.out.1 (by decide) HRP.out.2 _ _⟩
          refine hK.out _ _ hS2 (fun _ => ?_)
          clear hK K hS q0 q1 f5 hne HT HP HB HRT HRP
          (try simp only [Act.put])
          revert HB2 hS2 HT2 HP2 HRT2 HRP2
          generalize ((V.setCell ⟨g9, 0, none⟩ (.slice ao1 r co1)).setCell ⟨g9, 1, none⟩ (.slice (some ⟨gq, 1, none⟩) nQ cq)) = V2
          intro HB hS HT HP HRT HRP
          revert HB hS HT HP HRT HRP
          generalize V2 = V
          intro HB hS HT HP HRT HRP
          refine wpAnyH_done (by kernel_rfl) ?_ _
          go_wp2_with fail
          go_meet
          exact ⟨g8, g9, at1, ct1, ao1, co1, gq, capq, cq, rfl, rfl, HCQ.out, ⟨HT.out.1, HP.out.1, HT.out.2, HP.out.2⟩, HRT.out, HRP.out, HB.out⟩
      · go_simp
        have hbA : Below V.heap.size V (V.alloc (.cells #[.int .i64 0, .int .i64 0, .slice none 0 0] 28)) := (Below.refl _ _).alloc (Nat.le_refl _) _
        have HB2 : Hid (Below V0.heap.size V0 (V.alloc (.cells #[.int .i64 0, .int .i64 0, .slice none 0 0] 28))) := below_on hbA HB.out
        have hS2 := HCD.out _ HB2.out
        have HRT2 : Hid ((V.alloc (.cells #[.int .i64 0, .int .i64 0, .slice none 0 0] 28)).ownsRow w.heap.size 44 5 (.slice at1 nT ct1) nT (ndsC T)) := owns_below HRT.out hbA
        have HT2 : Hid ((V.alloc (.cells #[.int .i64 0, .int .i64 0, .slice none 0 0] 28)).heap[V.heap.size]? = some (.cells #[.int .i64 0, .int .i64 0, .slice none 0 0] 28 (0, 0)) ∧ V0.heap.size ≤ V.heap.size) := ⟨heap_new V _, HB.out.size⟩
        refine hK.out _ _ hS2 (fun _ => ?_)
        clear hK K hS HB hbA HRT
        (try simp only [Act.put, List.setIfInBounds_toArray, List.set_cons_zero, List.set_cons_succ])
        revert HB2 hS2 HRT2 HT2
        generalize (V.alloc (.cells #[.int .i64 0, .int .i64 0, .slice none 0 0] 28)) = V2
        generalize V.heap.size = g8
        intro HB hS HRT HT
        revert HB hS HRT HT
        generalize V2 = V
        intro HB hS HRT HT
        refine wpAnyH_ready (rs := [5, 7]) (by kernel_rfl) (by simp) ?_
        refine AllReadyH.cons (o := { dst := some 30, op := .call { callee := .value (.func 27), args := #[.tmp 28, .tmp 29], argTypes := #[23, 9] }, type := _, pos := _, after := _, guard := none }) rfl (fun K hK => ?_) (AllReadyH.cons (o := { dst := some 9, op := .alloc 32, type := _, pos := _, after := _, guard := none }) rfl (fun K hK => ?_) AllReadyH.nil)
        · go_simp
          refine (KRP.out _ HB.out).mono ?_
          rintro e W2 ⟨ao1, co1, gq, capq, cq, hcq, rfl, ho2, hq2, hbA⟩
          have HCQ : Hid (capq - 1 = cq) := hcq
          clear hcq
          have HB2 : Hid (Below V0.heap.size V0 W2) := below_on hbA HB.out
          have hS2 := HCD.out _ HB2.out
          have HT2 : Hid (W2.heap[g8]? = some (.cells #[.int .i64 0, .int .i64 0, .slice none 0 0] 28 (0, 0)) ∧ V0.heap.size ≤ g8) := ⟨(hbA.block _ (heap_lt HT.out.1)).trans HT.out.1, HT.out.2⟩
          have HRT2 : Hid (W2.ownsRow w.heap.size 44 5 (.slice at1 nT ct1) nT (ndsC T)) := owns_below HRT.out hbA
          have HRP2 : Hid (W2.ownsRow w.heap.size 46 4 (.slice ao1 r co1) r (obsC O) ∧ W2.ownsRow w.heap.size 3 1 (.slice (some ⟨gq, 0, none⟩) r1 capq) r1 (zsC LQ)) := ⟨owns_base ho2 (HW.out _ HB.out).size, owns_base hq2 (HW.out _ HB.out).size⟩
          refine hK.out _ _ hS2 (fun _ => ?_)
          clear hK K hS HB hbA ho2 hq2 HT HRT
          (try simp only [Act.put, List.setIfInBounds_toArray, List.set_cons_zero, List.set_cons_succ])
          revert HB2 hS2 HT2 HRT2 HRP2
          generalize W2 = V
          intro HB hS HT HRT HRP
          refine wpAnyH_ready (rs := [7]) (by kernel_rfl) (by simp) ?_
          refine AllReadyH.cons (o := { dst := some 9, op := .alloc 32, type := _, pos := _, after := _, guard := none }) rfl (fun K hK => ?_) AllReadyH.nil
          go_simp
          have hbA : Below V.heap.size V (V.alloc (.cells #[.slice none 0 0, .slice none 0 0] 32)) := (Below.refl _ _).alloc (Nat.le_refl _) _
          have HB2 : Hid (Below V0.heap.size V0 (V.alloc (.cells #[.slice none 0 0, .slice none 0 0] 32))) := below_on hbA HB.out
          have hS2 := HCD.out _ HB2.out
          have HT2 : Hid ((V.alloc (.cells #[.slice none 0 0, .slice none 0 0] 32)).heap[g8]? = some (.cells #[.int .i64 0, .int .i64 0, .slice none 0 0] 28 (0, 0)) ∧ V0.heap.size ≤ g8) := ⟨(hbA.block _ (heap_lt HT.out.1)).trans HT.out.1, HT.out.2⟩
          have HRT2 : Hid ((V.alloc (.cells #[.slice none 0 0, .slice none 0 0] 32)).ownsRow w.heap.size 44 5 (.slice at1 nT ct1) nT (ndsC T)) := owns_below HRT.out hbA
          have HRP2 : Hid ((V.alloc (.cells #[.slice none 0 0, .slice none 0 0] 32)).ownsRow w.heap.size 46 4 (.slice ao1 r co1) r (obsC O) ∧ (V.alloc (.cells #[.slice none 0 0, .slice none 0 0] 32)).ownsRow w.heap.size 3 1 (.slice (some ⟨gq, 0, none⟩) r1 capq) r1 (zsC LQ)) := ⟨owns_below HRP.out.1 hbA, owns_below HRP.out.2 hbA⟩
          have HP2 : Hid ((V.alloc (.cells #[.slice none 0 0, .slice none 0 0] 32)).heap[V.heap.size]? = some (.cells #[.slice none 0 0, .slice none 0 0] 32 (0, 0)) ∧ V0.heap.size ≤ V.heap.size) := ⟨heap_new V _, HB.out.size⟩
          refine hK.out _ _ hS2 (fun _ => ?_)
          clear hK K hS HB hbA HT HRT HRP
          (try simp only [Act.put, List.setIfInBounds_toArray, List.set_cons_zero, List.set_cons_succ])
          revert HB2 hS2 HT2 HRT2 HRP2 HP2
          generalize (V.alloc (.cells #[.slice none 0 0, .slice none 0 0] 32)) = V2
          generalize V.heap.size = g9
          intro HB hS HT HRT HRP HP
          revert HB hS HT HRT HRP HP
          generalize V2 = V
          intro HB hS HT HRT HRP HP
          refine wpAnyH_ready (rs := [8]) (by kernel_rfl) (by simp) ?_
          refine AllReadyH.cons (o := { dst := none, op := .store 28 (.tmp 8) (.tmp 27), type := _, pos := _, after := _, guard := none }) rfl (fun K hK => ?_) AllReadyH.nil
          obtain ⟨q0, q1, q2⟩ := cells3 HT.out.1
          have f5 : ∀ j, V.frozen? ⟨g8, j, none⟩ = false := fun j => frozen_of_heap HT.out.1
          go_simp
          have HB2 : Hid (Below V0.heap.size V0 (((V.setCell ⟨g8, 0, none⟩ (.int .i64 (fl : Int))).setCell ⟨g8, 1, none⟩ (.int .i64 (dr : Int))).setCell ⟨g8, 2, none⟩ (.slice at1 nT ct1))) := ((HB.out.setCell HT.out.2 _).setCell HT.out.2 _).setCell HT.out.2 _
          have hS2 := HCD.out _ HB2.out
          have HT2 : Hid ((((V.setCell ⟨g8, 0, none⟩ (.int .i64 (fl : Int))).setCell ⟨g8, 1, none⟩ (.int .i64 (dr : Int))).setCell ⟨g8, 2, none⟩ (.slice at1 nT ct1)).heap[g8]? = some (.cells #[.int .i64 (fl : Int), .int .i64 (dr : Int), .slice at1 nT ct1] 28 (0, 0)) ∧ V0.heap.size ≤ g8) := ⟨Tr.put3A HT.out.1, HT.out.2⟩
          have hne : g9 ≠ g8 := ty_ne HP.out.1 HT.out.1 (by decide)
          have HP2 : Hid ((((V.setCell ⟨g8, 0, none⟩ (.int .i64 (fl : Int))).setCell ⟨g8, 1, none⟩ (.int .i64 (dr : Int))).setCell ⟨g8, 2, none⟩ (.slice at1 nT ct1)).heap[g9]? = some (.cells #[.slice none 0 0, .slice none 0 0] 32 (0, 0)) ∧ V0.heap.size ≤ g9) := ⟨by rw [heap_setCell_other _ _ _ _ hne, heap_setCell_other _ _ _ _ hne, heap_setCell_other _ _ _ _ hne]; exact HP.out.1, HP.out.2⟩
          have HRT2 : Hid ((((V.setCell ⟨g8, 0, none⟩ (.int .i64 (fl : Int))).setCell ⟨g8, 1, none⟩ (.int .i64 (dr : Int))).setCell ⟨g8, 2, none⟩ (.slice at1 nT ct1)).ownsRow w.heap.size 44 5 (.slice at1 nT ct1) nT (ndsC T)) := owns_put3 HT.out.1 (by decide) HRT.out _ _ _
          have HRP2 : Hid ((((V.setCell ⟨g8, 0, none⟩ (.int .i64 (fl : Int))).setCell ⟨g8, 1, none⟩ (.int .i64 (dr : Int))).setCell ⟨g8, 2, none⟩ (.slice at1 nT ct1)).ownsRow w.heap.size 46 4 (.slice ao1 r co1) r (obsC O) ∧ (((V.setCell ⟨g8, 0, none⟩ (.int .i64 (fl : Int))).setCell ⟨g8, 1, none⟩ (.int .i64 (dr : Int))).setCell ⟨g8, 2, none⟩ (.slice at1 nT ct1)).ownsRow w.heap.size 3 1 (.slice (some ⟨gq, 0, none⟩) r1 capq) r1 (zsC LQ)) := ⟨owns_put3 HT.out.1 (by decide) HRP.out.1 _ _ _, owns_put3 HT.out.1 (by decide) HRP.out.2 _ _ _⟩
          refine hK.out _ _ hS2 (fun _ => ?_)
          clear hK K hS q0 q1 q2 f5 hne HT HP HB HRT HRP
          (try simp only [Act.put])
          revert HB2 hS2 HT2 HP2 HRT2 HRP2
          generalize (((V.setCell ⟨g8, 0, none⟩ (.int .i64 (fl : Int))).setCell ⟨g8, 1, none⟩ (.int .i64 (dr : Int))).setCell ⟨g8, 2, none⟩ (.slice at1 nT ct1)) = V2
          intro HB hS HT HP HRT HRP
          revert HB hS HT HP HRT HRP
          generalize V2 = V
          intro HB hS HT HP HRT HRP
          refine wpAnyH_ready (rs := [9]) (by kernel_rfl) (by simp) ?_
          refine AllReadyH.cons (o := { dst := none, op := .store 32 (.tmp 9) (.tmp 30), type := _, pos := _, after := _, guard := none }) rfl (fun K hK => ?_) AllReadyH.nil
          obtain ⟨q0, q1⟩ := cells2 HP.out.1
          have f5 : ∀ j, V.frozen? ⟨g9, j, none⟩ = false := fun j => frozen_of_heap HP.out.1
          go_simp
          have HB2 : Hid (Below V0.heap.size V0 ((V.setCell ⟨g9, 0, none⟩ (.slice ao1 r co1)).setCell ⟨g9, 1, none⟩ (.slice (some ⟨gq, 1, none⟩) nQ cq))) := (HB.out.setCell HP.out.2 _).setCell HP.out.2 _
          have hS2 := HCD.out _ HB2.out
          have hne : g8 ≠ g9 := ty_ne HT.out.1 HP.out.1 (by decide)
          have HT2 : Hid (((V.setCell ⟨g9, 0, none⟩ (.slice ao1 r co1)).setCell ⟨g9, 1, none⟩ (.slice (some ⟨gq, 1, none⟩) nQ cq)).heap[g8]? = some (.cells #[.int .i64 (fl : Int), .int .i64 (dr : Int), .slice at1 nT ct1] 28 (0, 0)) ∧ V0.heap.size ≤ g8) := ⟨by rw [heap_setCell_other _ _ _ _ hne, heap_setCell_other _ _ _ _ hne]; exact HT.out.1, HT.out.2⟩
          have HP2 : Hid (((V.setCell ⟨g9, 0, none⟩ (.slice ao1 r co1)).setCell ⟨g9, 1, none⟩ (.slice (some ⟨gq, 1, none⟩) nQ cq)).heap[g9]? = some (.cells #[.slice ao1 r co1, .slice (some ⟨gq, 1, none⟩) nQ cq] 32 (0, 0)) ∧ V0.heap.size ≤ g9) := ⟨Tr.put2A HP.out.1, HP.out.2⟩
          have HRT2 : Hid (((V.setCell ⟨g9, 0, none⟩ (.slice ao1 r co1)).setCell ⟨g9, 1, none⟩ (.slice (some ⟨gq, 1, none⟩) nQ cq)).ownsRow w.heap.size 44 5 (.slice at1 nT ct1) nT (ndsC T)) := owns_put2 HP.out.1 (by decide) HRT.out _ _
          have HRP2 : Hid (((V.setCell ⟨g9, 0, none⟩ (.slice ao1 r co1)).setCell ⟨g9, 1, none⟩ (.slice (some ⟨gq, 1, none⟩) nQ cq)).ownsRow w.heap.size 46 4 (.slice ao1 r co1) r (obsC O) ∧ ((V.setCell ⟨g9, 0, none⟩ (.slice ao1 r co1)).setCell ⟨g9, 1, none⟩ (.slice (some ⟨gq, 1, none⟩) nQ cq)).ownsRow w.heap.size 3 1 (.slice (some ⟨gq, 0, none⟩) r1 capq) r1 (zsC LQ)) := ⟨owns_put2 HP.out.1 (by decide) HRP.out.1 _ _, owns_put2 HP.out.1 (by decide) HRP.out.2 _ _⟩
          refine hK.out _ _ hS2 (fun _ => ?_)
          clear hK K hS q0 q1 f5 hne HT HP HB HRT HRP
          (try simp only [Act.put])
          revert HB2 hS2 HT2 HP2 HRT2 HRP2
          generalize ((V.setCell ⟨g9, 0, none⟩ (.slice ao1 r co1)).setCell ⟨g9, 1, none⟩ (.slice (some ⟨gq, 1, none⟩) nQ cq)) = V2
          intro HB hS HT HP HRT HRP
          revert HB hS HT HP HRT HRP
          generalize V2 = V
          intro HB hS HT HP HRT HRP
          refine wpAnyH_done (by kernel_rfl) ?_ _
          go_wp2_with fail
          go_meet
          exact ⟨g8, g9, at1, ct1, ao1, co1, gq, capq, cq, rfl, rfl, HCQ.out, ⟨HT.out.1, HP.out.1, HT.out.2, HP.out.2⟩, HRT.out, HRP.out, HB.out⟩
        · go_simp
          have hbA : Below V.heap.size V (V.alloc (.cells #[.slice none 0 0, .slice none 0 0] 32)) := (Below.refl _ _).alloc (Nat.le_refl _) _
          have HB2 : Hid (Below V0.heap.size V0 (V.alloc (.cells #[.slice none 0 0, .slice none 0 0] 32))) := below_on hbA HB.out
          have hS2 := HCD.out _ HB2.out
          have HT2 : Hid ((V.alloc (.cells #[.slice none 0 0, .slice none 0 0] 32)).heap[g8]? = some (.cells #[.int .i64 0, .int .i64 0, .slice none 0 0] 28 (0, 0)) ∧ V0.heap.size ≤ g8) := ⟨(hbA.block _ (heap_lt HT.out.1)).trans HT.out.1, HT.out.2⟩
          have HRT2 : Hid ((V.alloc (.cells #[.slice none 0 0, .slice none 0 0] 32)).ownsRow w.heap.size 44 5 (.slice at1 nT ct1) nT (ndsC T)) := owns_below HRT.out hbA
          have HP2 : Hid ((V.alloc (.cells #[.slice none 0 0, .slice none 0 0] 32)).heap[V.heap.size]? = some (.cells #[.slice none 0 0, .slice none 0 0] 32 (0, 0)) ∧ V0.heap.size ≤ V.heap.size) := ⟨heap_new V _, HB.out.size⟩
          refine hK.out _ _ hS2 (fun _ => ?_)
          clear hK K hS HB hbA HT HRT
          (try simp only [Act.put, List.setIfInBounds_toArray, List.set_cons_zero, List.set_cons_succ])
          revert HB2 hS2 HT2 HRT2 HP2
          generalize (V.alloc (.cells #[.slice none 0 0, .slice none 0 0] 32)) = V2
          generalize V.heap.size = g9
          intro HB hS HT HRT HP
          revert HB hS HT HRT HP
          generalize V2 = V
          intro HB hS HT HRT HP
          refine wpAnyH_ready (rs := [5]) (by kernel_rfl) (by simp) ?_
          refine AllReadyH.cons (o := { dst := some 30, op := .call { callee := .value (.func 27), args := #[.tmp 28, .tmp 29], argTypes := #[23, 9] }, type := _, pos := _, after := _, guard := none }) rfl (fun K hK => ?_) AllReadyH.nil
          go_simp
          refine (KRP.out _ HB.out).mono ?_
          rintro e W2 ⟨ao1, co1, gq, capq, cq, hcq, rfl, ho2, hq2, hbA⟩
          have HCQ : Hid (capq - 1 = cq) := hcq
          clear hcq
          have HB2 : Hid (Below V0.heap.size V0 W2) := below_on hbA HB.out
          have hS2 := HCD.out _ HB2.out
          have HT2 : Hid (W2.heap[g8]? = some (.cells #[.int .i64 0, .int .i64 0, .slice none 0 0] 28 (0, 0)) ∧ V0.heap.size ≤ g8) := ⟨(hbA.block _ (heap_lt HT.out.1)).trans HT.out.1, HT.out.2⟩
          have HP2 : Hid (W2.heap[g9]? = some (.cells #[.slice none 0 0, .slice none 0 0] 32 (0, 0)) ∧ V0.heap.size ≤ g9) := ⟨(hbA.block _ (heap_lt HP.out.1)).trans HP.out.1, HP.out.2⟩
          have HRT2 : Hid (W2.ownsRow w.heap.size 44 5 (.slice at1 nT ct1) nT (ndsC T)) := owns_below HRT.out hbA
          have HRP2 : Hid (W2.ownsRow w.heap.size 46 4 (.slice ao1 r co1) r (obsC O) ∧ W2.ownsRow w.heap.size 3 1 (.slice (some ⟨gq, 0, none⟩) r1 capq) r1 (zsC LQ)) := ⟨owns_base ho2 (HW.out _ HB.out).size, owns_base hq2 (HW.out _ HB.out).size⟩
          refine hK.out _ _ hS2 (fun _ => ?_)
          clear hK K hS HB hbA ho2 hq2 HT HP HRT
          (try simp only [Act.put, List.setIfInBounds_toArray, List.set_cons_zero, List.set_cons_succ])
          revert HB2 hS2 HT2 HP2 HRT2 HRP2
          generalize W2 = V
          intro HB hS HT HP HRT HRP
          refine wpAnyH_ready (rs := [8]) (by kernel_rfl) (by simp) ?_
          refine AllReadyH.cons (o := { dst := none, op := .store 28 (.tmp 8) (.tmp 27), type := _, pos := _, after := _, guard := none }) rfl (fun K hK => ?_) AllReadyH.nil
          obtain ⟨q0, q1, q2⟩ := cells3 HT.out.1
          have f5 : ∀ j, V.frozen? ⟨g8, j, none⟩ = false := fun j => frozen_of_heap HT.out.1
          go_simp
          have HB2 : Hid (Below V0.heap.size V0 (((V.setCell ⟨g8, 0, none⟩ (.int .i64 (fl : Int))).setCell ⟨g8, 1, none⟩ (.int .i64 (dr : Int))).setCell ⟨g8, 2, none⟩ (.slice at1 nT ct1))) := ((HB.out.setCell HT.out.2 _).setCell HT.out.2 _).setCell HT.out.2 _
          have hS2 := HCD.out _ HB2.out
          have HT2 : Hid ((((V.setCell ⟨g8, 0, none⟩ (.int .i64 (fl : Int))).setCell ⟨g8, 1, none⟩ (.int .i64 (dr : Int))).setCell ⟨g8, 2, none⟩ (.slice at1 nT ct1)).heap[g8]? = some (.cells #[.int .i64 (fl : Int), .int .i64 (dr : Int), .slice at1 nT ct1] 28 (0, 0)) ∧ V0.heap.size ≤ g8) := ⟨Tr.put3A HT.out.1, HT.out.2⟩
          have hne : g9 ≠ g8 := ty_ne HP.out.1 HT.out.1 (by decide)
          have HP2 : Hid ((((V.setCell ⟨g8, 0, none⟩ (.int .i64 (fl : Int))).setCell ⟨g8, 1, none⟩ (.int .i64 (dr : Int))).setCell ⟨g8, 2, none⟩ (.slice at1 nT ct1)).heap[g9]? = some (.cells #[.slice none 0 0, .slice none 0 0] 32 (0, 0)) ∧ V0.heap.size ≤ g9) := ⟨by rw [heap_setCell_other _ _ _ _ hne, heap_setCell_other _ _ _ _ hne, heap_setCell_other _ _ _ _ hne]; exact HP.out.1, HP.out.2⟩
          have HRT2 : Hid ((((V.setCell ⟨g8, 0, none⟩ (.int .i64 (fl : Int))).setCell ⟨g8, 1, none⟩ (.int .i64 (dr : Int))).setCell ⟨g8, 2, none⟩ (.slice at1 nT ct1)).ownsRow w.heap.size 44 5 (.slice at1 nT ct1) nT (ndsC T)) := owns_put3 HT.out.1 (by decide) HRT.out _ _ _
          have HRP2 : Hid ((((V.setCell ⟨g8, 0, none⟩ (.int .i64 (fl : Int))).setCell ⟨g8, 1, none⟩ (.int .i64 (dr : Int))).setCell ⟨g8, 2, none⟩ (.slice at1 nT ct1)).ownsRow w.heap.size 46 4 (.slice ao1 r co1) r (obsC O) ∧ (((V.setCell ⟨g8, 0, none⟩ (.int .i64 (fl : Int))).setCell ⟨g8, 1, none⟩ (.int .i64 (dr : Int))).setCell ⟨g8, 2, none⟩ (.slice at1 nT ct1)).ownsRow w.heap.size 3 1 (.slice (some ⟨gq, 0, none⟩) r1 capq) r1 (zsC LQ)) := ⟨owns_put3 HT.out.1 (by decide) HRP.out.1 _ _ _, owns_put3 HT.out.1 (by decide) HRP.out.2 _ _ _⟩
          refine hK.out _ _ hS2 (fun _ => ?_)
          clear hK K hS q0 q1 q2 f5 hne HT HP HB HRT HRP
          (try simp only [Act.put])
          revert HB2 hS2 HT2 HP2 HRT2 HRP2
          generalize (((V.setCell ⟨g8, 0, none⟩ (.int .i64 (fl : Int))).setCell ⟨g8, 1, none⟩ (.int .i64 (dr : Int))).setCell ⟨g8, 2, none⟩ (.slice at1 nT ct1)) = V2
          intro HB hS HT HP HRT HRP
          revert HB hS HT HP HRT HRP
          generalize V2 = V
          intro HB hS HT HP HRT HRP
          refine wpAnyH_ready (rs := [9]) (by kernel_rfl) (by simp) ?_
          refine AllReadyH.cons (o := { dst := none, op := .store 32 (.tmp 9) (.tmp 30), type := _, pos := _, after := _, guard := none }) rfl (fun K hK => ?_) AllReadyH.nil
          obtain ⟨q0, q1⟩ := cells2 HP.out.1
          have f5 : ∀ j, V.frozen? ⟨g9, j, none⟩ = false := fun j => frozen_of_heap HP.out.1
          go_simp
          have HB2 : Hid (Below V0.heap.size V0 ((V.setCell ⟨g9, 0, none⟩ (.slice ao1 r co1)).setCell ⟨g9, 1, none⟩ (.slice (some ⟨gq, 1, none⟩) nQ cq))) := (HB.out.setCell HP.out.2 _).setCell HP.out.2 _
          have hS2 := HCD.out _ HB2.out
          have hne : g8 ≠ g9 := ty_ne HT.out.1 HP.out.1 (by decide)
          have HT2 : Hid (((V.setCell ⟨g9, 0, none⟩ (.slice ao1 r co1)).setCell ⟨g9, 1, none⟩ (.slice (some ⟨gq, 1, none⟩) nQ cq)).heap[g8]? = some (.cells #[.int .i64 (fl : Int), .int .i64 (dr : Int), .slice at1 nT ct1] 28 (0, 0)) ∧ V0.heap.size ≤ g8) := ⟨by rw [heap_setCell_other _ _ _ _ hne, heap_setCell_other _ _ _ _ hne]; exact HT.out.1, HT.out.2⟩
          have HP2 : Hid (((V.setCell ⟨g9, 0, none⟩ (.slice ao1 r co1)).setCell ⟨g9, 1, none⟩ (.slice (some ⟨gq, 1, none⟩) nQ cq)).heap[g9]? = some (.cells #[.slice ao1 r co1, .slice (some ⟨gq, 1, none⟩) nQ cq] 32 (0, 0)) ∧ V0.heap.size ≤ g9) := ⟨Tr.put2A HP.out.1, HP.out.2⟩
          have HRT2 : Hid (((V.setCell ⟨g9, 0, none⟩ (.slice ao1 r co1)).setCell ⟨g9, 1, none⟩ (.slice (some ⟨gq, 1, none⟩) nQ cq)).ownsRow w.heap.size 44 5 (.slice at1 nT ct1) nT (ndsC T)) := owns_put2 HP.out.1 (by decide) HRT.out _ _
          have HRP2 : Hid (((V.setCell ⟨g9, 0, none⟩ (.slice ao1 r co1)).setCell ⟨g9, 1, none⟩ (.slice (some ⟨gq, 1, none⟩) nQ cq)).ownsRow w.heap.size 46 4 (.slice ao1 r co1) r (obsC O) ∧ ((V.setCell ⟨g9, 0, none⟩ (.slice ao1 r co1)).setCell ⟨g9, 1, none⟩ (.slice (some ⟨gq, 1, none⟩) nQ cq)).ownsRow w.heap.size 3 1 (.slice (some ⟨gq, 0, none⟩) r1 capq) r1 (zsC LQ)) := ⟨owns_put2 HP.out.1 (by decide) HRP.out.1 _ _, owns_put2 HP.out.1 (by decide) HRP.out.2 _ _⟩
          refine hK.out _ _ hS2 (fun _ => ?_)
          clear hK K hS q0 q1 f5 hne HT HP HB HRT HRP
          (try simp only [Act.put])
          revert HB2 hS2 HT2 HP2 HRT2 HRP2
          generalize ((V.setCell ⟨g9, 0, none⟩ (.slice ao1 r co1)).setCell ⟨g9, 1, none⟩ (.slice (some ⟨gq, 1, none⟩) nQ cq)) = V2
          intro HB hS HT HP HRT HRP
          revert HB hS HT HP HRT HRP
          generalize V2 = V
          intro HB hS HT HP HRT HRP
          refine wpAnyH_done (by kernel_rfl) ?_ _
          go_wp2_with fail
          go_meet
          exact ⟨g8, g9, at1, ct1, ao1, co1, gq, capq, cq, rfl, rfl, HCQ.out, ⟨HT.out.1, HP.out.1, HT.out.2, HP.out.2⟩, HRT.out, HRP.out, HB.out⟩
      · go_simp
        have hbA : Below V.heap.size V (V.alloc (.cells #[.slice none 0 0, .slice none 0 0] 32)) := (Below.refl _ _).alloc (Nat.le_refl _) _
        have HB2 : Hid (Below V0.heap.size V0 (V.alloc (.cells #[.slice none 0 0, .slice none 0 0] 32))) := below_on hbA HB.out
        have hS2 := HCD.out _ HB2.out
        have HRT2 : Hid ((V.alloc (.cells #[.slice none 0 0, .slice none 0 0] 32)).ownsRow w.heap.size 44 5 (.slice at1 nT ct1) nT (ndsC T)) := owns_below HRT.out hbA
        have HP2 : Hid ((V.alloc (.cells #[.slice none 0 0, .slice none 0 0] 32)).heap[V.heap.size]? = some (.cells #[.slice none 0 0, .slice none 0 0] 32 (0, 0)) ∧ V0.heap.size ≤ V.heap.size) := ⟨heap_new V _, HB.out.size⟩
        refine hK.out _ _ hS2 (fun _ => ?_)
        clear hK K hS HB hbA HRT
        (try simp only [Act.put, List.setIfInBounds_toArray, List.set_cons_zero, List.set_cons_succ])
        revert HB2 hS2 HRT2 HP2
        generalize (V.alloc (.cells #[.slice none 0 0, .slice none 0 0] 32)) = V2
        generalize V.heap.size = g9
        intro HB hS HRT HP
        revert HB hS HRT HP
        generalize V2 = V
        intro HB hS HRT HP
        refine wpAnyH_ready (rs := [5, 6]) (by kernel_rfl) (by simp) ?_
        refine AllReadyH.cons (o := { dst := some 30, op := .call { callee := .value (.func 27), args := #[.tmp 28, .tmp 29], argTypes := #[23, 9] }, type := _, pos := _, after := _, guard := none }) rfl (fun K hK => ?_) (AllReadyH.cons (o := { dst := some 8, op := .alloc 28, type := _, pos := _, after := _, guard := none }) rfl (fun K hK => ?_) AllReadyH.nil)
        · go_simp
          refine (KRP.out _ HB.out).mono ?_
          rintro e W2 ⟨ao1, co1, gq, capq, cq, hcq, rfl, ho2, hq2, hbA⟩
          have HCQ : Hid (capq - 1 = cq) := hcq
          clear hcq
          have HB2 : Hid (Below V0.heap.size V0 W2) := below_on hbA HB.out
          have hS2 := HCD.out _ HB2.out
          have HP2 : Hid (W2.heap[g9]? = some (.cells #[.slice none 0 0, .slice none 0 0] 32 (0, 0)) ∧ V0.heap.size ≤ g9) := ⟨(hbA.block _ (heap_lt HP.out.1)).trans HP.out.1, HP.out.2⟩
          have HRT2 : Hid (W2.ownsRow w.heap.size 44 5 (.slice at1 nT ct1) nT (ndsC T)) := owns_below HRT.out hbA
          have HRP2 : Hid (W2.ownsRow w.heap.size 46 4 (.slice ao1 r co1) r (obsC O) ∧ W2.ownsRow w.heap.size 3 1 (.slice (some ⟨gq, 0, none⟩) r1 capq) r1 (zsC LQ)) := ⟨owns_base ho2 (HW.out _ HB.out).size, owns_base hq2 (HW.out _ HB.out).size⟩
          refine hK.out _ _ hS2 (fun _ => ?_)
          clear hK K hS HB hbA ho2 hq2 HP HRT
          (try simp only [Act.put, List.setIfInBounds_toArray, List.set_cons_zero, List.set_cons_succ])
          revert HB2 hS2 HP2 HRT2 HRP2
          generalize W2 = V
          intro HB hS HP HRT HRP
          refine wpAnyH_ready (rs := [6]) (by kernel_rfl) (by simp) ?_
          refine AllReadyH.cons (o := { dst := some 8, op := .alloc 28, type := _, pos := _, after := _, guard := none }) rfl (fun K hK => ?_) AllReadyH.nil
          go_simp
          have hbA : Below V.heap.size V (V.alloc (.cells #[.int .i64 0, .int .i64 0, .slice none 0 0] 28)) := (Below.refl _ _).alloc (Nat.le_refl _) _
          have HB2 : Hid (Below V0.heap.size V0 (V.alloc (.cells #[.int .i64 0, .int .i64 0, .slice none 0 0] 28))) := below_on hbA HB.out
          have hS2 := HCD.out _ HB2.out
          have HP2 : Hid ((V.alloc (.cells #[.int .i64 0, .int .i64 0, .slice none 0 0] 28)).heap[g9]? = some (.cells #[.slice none 0 0, .slice none 0 0] 32 (0, 0)) ∧ V0.heap.size ≤ g9) := ⟨(hbA.block _ (heap_lt HP.out.1)).trans HP.out.1, HP.out.2⟩
          have HRT2 : Hid ((V.alloc (.cells #[.int .i64 0, .int .i64 0, .slice none 0 0] 28)).ownsRow w.heap.size 44 5 (.slice at1 nT ct1) nT (ndsC T)) := owns_below HRT.out hbA
          have HRP2 : Hid ((V.alloc (.cells #[.int .i64 0, .int .i64 0, .slice none 0 0] 28)).ownsRow w.heap.size 46 4 (.slice ao1 r co1) r (obsC O) ∧ (V.alloc (.cells #[.int .i64 0, .int .i64 0, .slice none 0 0] 28)).ownsRow w.heap.size 3 1 (.slice (some ⟨gq, 0, none⟩) r1 capq) r1 (zsC LQ)) := ⟨owns_below HRP.out.1 hbA, owns_below HRP.out.2 hbA⟩
          have HT2 : Hid ((V.alloc (.cells #[.int .i64 0, .int .i64 0, .slice none 0 0] 28)).heap[V.heap.size]? = some (.cells #[.int .i64 0, .int .i64 0, .slice none 0 0] 28 (0, 0)) ∧ V0.heap.size ≤ V.heap.size) := ⟨heap_new V _, HB.out.size⟩
          refine hK.out _ _ hS2 (fun _ => ?_)
          clear hK K hS HB hbA HP HRT HRP
          (try simp only [Act.put, List.setIfInBounds_toArray, List.set_cons_zero, List.set_cons_succ])
          revert HB2 hS2 HP2 HRT2 HRP2 HT2
          generalize (V.alloc (.cells #[.int .i64 0, .int .i64 0, .slice none 0 0] 28)) = V2
          generalize V.heap.size = g8
          intro HB hS HP HRT HRP HT
          revert HB hS HP HRT HRP HT
          generalize V2 = V
          intro HB hS HP HRT HRP HT
          refine wpAnyH_ready (rs := [8]) (by kernel_rfl) (by simp) ?_
          refine AllReadyH.cons (o := { dst := none, op := .store 28 (.tmp 8) (.tmp 27), type := _, pos := _, after := _, guard := none }) rfl (fun K hK => ?_) AllReadyH.nil
          obtain ⟨q0, q1, q2⟩ := cells3 HT.out.1
          have f5 : ∀ j, V.frozen? ⟨g8, j, none⟩ = false := fun j => frozen_of_heap HT.out.1
          go_simp
          have HB2 : Hid (Below V0.heap.size V0 (((V.setCell ⟨g8, 0, none⟩ (.int .i64 (fl : Int))).setCell ⟨g8, 1, none⟩ (.int .i64 (dr : Int))).setCell ⟨g8, 2, none⟩ (.slice at1 nT ct1))) := ((HB.out.setCell HT.out.2 _).setCell HT.out.2 _).setCell HT.out.2 _
          have hS2 := HCD.out _ HB2.out
          have HT2 : Hid ((((V.setCell ⟨g8, 0, none⟩ (.int .i64 (fl : Int))).setCell ⟨g8, 1, none⟩ (.int .i64 (dr : Int))).setCell ⟨g8, 2, none⟩ (.slice at1 nT ct1)).heap[g8]? = some (.cells #[.int .i64 (fl : Int), .int .i64 (dr : Int), .slice at1 nT ct1] 28 (0, 0)) ∧ V0.heap.size ≤ g8) := ⟨Tr.put3A HT.out.1, HT.out.2⟩
          have hne : g9 ≠ g8 := ty_ne HP.out.1 HT.out.1 (by decide)
          have HP2 : Hid ((((V.setCell ⟨g8, 0, none⟩ (.int .i64 (fl : Int))).setCell ⟨g8, 1, none⟩ (.int .i64 (dr : Int))).setCell ⟨g8, 2, none⟩ (.slice at1 nT ct1)).heap[g9]? = some (.cells #[.slice none 0 0, .slice none 0 0] 32 (0, 0)) ∧ V0.heap.size ≤ g9) := ⟨by rw [heap_setCell_other _ _ _ _ hne, heap_setCell_other _ _ _ _ hne, heap_setCell_other _ _ _ _ hne]; exact HP.out.1, HP.out.2⟩
          have HRT2 : Hid ((((V.setCell ⟨g8, 0, none⟩ (.int .i64 (fl : Int))).setCell ⟨g8, 1, none⟩ (.int .i64 (dr : Int))).setCell ⟨g8, 2, none⟩ (.slice at1 nT ct1)).ownsRow w.heap.size 44 5 (.slice at1 nT ct1) nT (ndsC T)) := owns_put3 HT.out.1 (by decide) HRT.out _ _ _
          have HRP2 : Hid ((((V.setCell ⟨g8, 0, none⟩ (.int .i64 (fl : Int))).setCell ⟨g8, 1, none⟩ (.int .i64 (dr : Int))).setCell ⟨g8, 2, none⟩ (.slice at1 nT ct1)).ownsRow w.heap.size 46 4 (.slice ao1 r co1) r (obsC O) ∧ (((V.setCell ⟨g8, 0, none⟩ (.int .i64 (fl : Int))).setCell ⟨g8, 1, none⟩ (.int .i64 (dr : Int))).setCell ⟨g8, 2, none⟩ (.slice at1 nT ct1)).ownsRow w.heap.size 3 1 (.slice (some ⟨gq, 0, none⟩) r1 capq) r1 (zsC LQ)) := ⟨owns_put3 HT.out.1 (by decide) HRP.out.1 _ _ _, owns_put3 HT.out.1 (by decide) HRP.out.2 _ _ _⟩
          refine hK.out _ _ hS2 (fun _ => ?_)
          clear hK K hS q0 q1 q2 f5 hne HT HP HB HRT HRP
          (try simp only [Act.put])
          revert HB2 hS2 HT2 HP2 HRT2 HRP2
          generalize (((V.setCell ⟨g8, 0, none⟩ (.int .i64 (fl : Int))).setCell ⟨g8, 1, none⟩ (.int .i64 (dr : Int))).setCell ⟨g8, 2, none⟩ (.slice at1 nT ct1)) = V2
          intro HB hS HT HP HRT HRP
          revert HB hS HT HP HRT HRP
          generalize V2 = V
          intro HB hS HT HP HRT HRP
          refine wpAnyH_ready (rs := [9]) (by kernel_rfl) (by simp) ?_
          refine AllReadyH.cons (o := { dst := none, op := .store 32 (.tmp 9) (.tmp 30), type := _, pos := _, after := _, guard := none }) rfl (fun K hK => ?_) AllReadyH.nil
          obtain ⟨q0, q1⟩ := cells2 HP.out.1
          have f5 : ∀ j, V.frozen? ⟨g9, j, none⟩ = false := fun j => frozen_of_heap HP.out.1
          go_simp
          have HB2 : Hid (Below V0.heap.size V0 ((V.setCell ⟨g9, 0, none⟩ (.slice ao1 r co1)).setCell ⟨g9, 1, none⟩ (.slice (some ⟨gq, 1, none⟩) nQ cq))) := (HB.out.setCell HP.out.2 _).setCell HP.out.2 _
          have hS2 := HCD.out _ HB2.out
          have hne : g8 ≠ g9 := ty_ne HT.out.1 HP.out.1 (by decide)
          have HT2 : Hid (((V.setCell ⟨g9, 0, none⟩ (.slice ao1 r co1)).setCell ⟨g9, 1, none⟩ (.slice (some ⟨gq, 1, none⟩) nQ cq)).heap[g8]? = some (.cells #[.int .i64 (fl : Int), .int .i64 (dr : Int), .slice at1 nT ct1] 28 (0, 0)) ∧ V0.heap.size ≤ g8) := ⟨by rw [heap_setCell_other _ _ _ _ hne, heap_setCell_other _ _ _ _ hne]; exact HT.out.1, HT.out.2⟩
          have HP2 : Hid (((V.setCell ⟨g9, 0, none⟩ (.slice ao1 r co1)).setCell ⟨g9, 1, none⟩ (.slice (some ⟨gq, 1, none⟩) nQ cq)).heap[g9]? = some (.cells #[.slice ao1 r co1, .slice (some ⟨gq, 1, none⟩) nQ cq] 32 (0, 0)) ∧ V0.heap.size ≤ g9) := ⟨Tr.put2A HP.out.1, HP.out.2⟩
          have HRT2 : Hid (((V.setCell ⟨g9, 0, none⟩ (.slice ao1 r co1)).setCell ⟨g9, 1, none⟩ (.slice (some ⟨gq, 1, none⟩) nQ cq)).ownsRow w.heap.size 44 5 (.slice at1 nT ct1) nT (ndsC T)) := owns_put2 HP.out.1 (by decide) HRT.out _ _
          have HRP2 : Hid (((V.setCell ⟨g9, 0, none⟩ (.slice ao1 r co1)).setCell ⟨g9, 1, none⟩ (.slice (some ⟨gq, 1, none⟩) nQ cq)).ownsRow w.heap.size 46 4 (.slice ao1 r co1) r (obsC O) ∧ ((V.setCell ⟨g9, 0, none⟩ (.slice ao1 r co1)).setCell ⟨g9, 1, none⟩ (.slice (some ⟨gq, 1, none⟩) nQ cq)).ownsRow w.heap.size 3 1 (.slice (some ⟨gq, 0, none⟩) r1 capq) r1 (zsC LQ)) := ⟨owns_put2 HP.out.1 (by decide) HRP.out.1 _ _, owns_put2 HP.out.1 (by decide) HRP.out.2 _ _⟩
          refine hK.out _ _ hS2 (fun _ => ?_)
          clear hK K hS q0 q1 f5 hne HT HP HB HRT HRP
          (try simp only [Act.put])
          revert HB2 hS2 HT2 HP2 HRT2 HRP2
          generalize ((V.setCell ⟨g9, 0, none⟩ (.slice ao1 r co1)).setCell ⟨g9, 1, none⟩ (.slice (some ⟨gq, 1, none⟩) nQ cq)) = V2
          intro HB hS HT HP HRT HRP
          revert HB hS HT HP HRT HRP
          generalize V2 = V
          intro HB hS HT HP HRT HRP
          refine wpAnyH_done (by kernel_rfl) ?_ _
          go_wp2_with fail
          go_meet
          exact ⟨g8, g9, at1, ct1, ao1, co1, gq, capq, cq, rfl, rfl, HCQ.out, ⟨HT.out.1, HP.out.1, HT.out.2, HP.out.2⟩, HRT.out, HRP.out, HB.out⟩
        · go_simp
          have hbA : Below V.heap.size V (V.alloc (.cells #[.int .i64 0, .int .i64 0, .slice none 0 0] 28)) := (Below.refl _ _).alloc (Nat.le_refl _) _
          have HB2 : Hid (Below V0.heap.size V0 (V.alloc (.cells #[.int .i64 0, .int .i64 0, .slice none 0 0] 28))) := below_on hbA HB.out
          have hS2 := HCD.out _ HB2.out
          have HP2 : Hid ((V.alloc (.cells #[.int .i64 0, .int .i64 0, .slice none 0 0] 28)).heap[g9]? = some (.cells #[.slice none 0 0, .slice none 0 0] 32 (0, 0)) ∧ V0.heap.size ≤ g9) := ⟨(hbA.block _ (heap_lt HP.out.1)).trans HP.out.1, HP.out.2⟩
          have HRT2 : Hid ((V.alloc (.cells #[.int .i64 0, .int .i64 0, .slice none 0 0] 28)).ownsRow w.heap.size 44 5 (.slice at1 nT ct1) nT (ndsC T)) := owns_below HRT.out hbA
          have HT2 : Hid ((V.alloc (.cells #[.int .i64 0, .int .i64 0, .slice none 0 0] 28)).heap[V.heap.size]? = some (.cells #[.int .i64 0, .int .i64 0, .slice none 0 0] 28 (0, 0)) ∧ V0.heap.size ≤ V.heap.size) := ⟨heap_new V _, HB.out.size⟩
          refine hK.out _ _ hS2 (fun _ => ?_)
          clear hK K hS HB hbA HP HRT
          (try simp only [Act.put, List.setIfInBounds_toArray, List.set_cons_zero, List.set_cons_succ])
          revert HB2 hS2 HP2 HRT2 HT2
          generalize (V.alloc (.cells #[.int .i64 0, .int .i64 0, .slice none 0 0] 28)) = V2
          generalize V.heap.size = g8
          intro HB hS HP HRT HT
          revert HB hS HP HRT HT
          generalize V2 = V
          intro HB hS HP HRT HT
          refine wpAnyH_ready (rs := [5]) (by kernel_rfl) (by simp) ?_
          refine AllReadyH.cons (o := { dst := some 30, op := .call { callee := .value (.func 27), args := #[.tmp 28, .tmp 29], argTypes := #[23, 9] }, type := _, pos := _, after := _, guard := none }) rfl (fun K hK => ?_) AllReadyH.nil
          go_simp
          refine (KRP.out _ HB.out).mono ?_
          rintro e W2 ⟨ao1, co1, gq, capq, cq, hcq, rfl, ho2, hq2, hbA⟩
          have HCQ : Hid (capq - 1 = cq) := hcq
          clear hcq
          have HB2 : Hid (Below V0.heap.size V0 W2) := below_on hbA HB.out
          have hS2 := HCD.out _ HB2.out
          have HT2 : Hid (W2.heap[g8]? = some (.cells #[.int .i64 0, .int .i64 0, .slice none 0 0] 28 (0, 0)) ∧ V0.heap.size ≤ g8) := ⟨(hbA.block _ (heap_lt HT.out.1)).trans HT.out.1, HT.out.2⟩
          have HP2 : Hid (W2.heap[g9]? = some (.cells #[.slice none 0 0, .slice none 0 0] 32 (0, 0)) ∧ V0.heap.size ≤ g9) := ⟨(hbA.block _ (heap_lt HP.out.1)).trans HP.out.1, HP.out.2⟩
          have HRT2 : Hid (W2.ownsRow w.heap.size 44 5 (.slice at1 nT ct1) nT (ndsC T)) := owns_below HRT.out hbA
          have HRP2 : Hid (W2.ownsRow w.heap.size 46 4 (.slice ao1 r co1) r (obsC O) ∧ W2.ownsRow w.heap.size 3 1 (.slice (some ⟨gq, 0, none⟩) r1 capq) r1 (zsC LQ)) := ⟨owns_base ho2 (HW.out _ HB.out).size, owns_base hq2 (HW.out _ HB.out).size⟩
          refine hK.out _ _ hS2 (fun _ => ?_)
          clear hK K hS HB hbA ho2 hq2 HT HP HRT
          (try simp only [Act.put, List.setIfInBounds_toArray, List.set_cons_zero, List.set_cons_succ])
          revert HB2 hS2 HT2 HP2 HRT2 HRP2
          generalize W2 = V
          intro HB hS HT HP HRT HRP
          refine wpAnyH_ready (rs := [8]) (by kernel_rfl) (by simp) ?_
          refine AllReadyH.cons (o := { dst := none, op := .store 28 (.tmp 8) (.tmp 27), type := _, pos := _, after := _, guard := none }) rfl (fun K hK => ?_) AllReadyH.nil
          obtain ⟨q0, q1, q2⟩ := cells3 HT.out.1
          have f5 : ∀ j, V.frozen? ⟨g8, j, none⟩ = false := fun j => frozen_of_heap HT.out.1
          go_simp
          have HB2 : Hid (Below V0.heap.size V0 (((V.setCell ⟨g8, 0, none⟩ (.int .i64 (fl : Int))).setCell ⟨g8, 1, none⟩ (.int .i64 (dr : Int))).setCell ⟨g8, 2, none⟩ (.slice at1 nT ct1))) := ((HB.out.setCell HT.out.2 _).setCell HT.out.2 _).setCell HT.out.2 _
          have hS2 := HCD.out _ HB2.out
          have HT2 : Hid ((((V.setCell ⟨g8, 0, none⟩ (.int .i64 (fl : Int))).setCell ⟨g8, 1, none⟩ (.int .i64 (dr : Int))).setCell ⟨g8, 2, none⟩ (.slice at1 nT ct1)).heap[g8]? = some (.cells #[.int .i64 (fl : Int), .int .i64 (dr : Int), .slice at1 nT ct1] 28 (0, 0)) ∧ V0.heap.size ≤ g8) := ⟨Tr.put3A HT.out.1, HT.out.2⟩
          have hne : g9 ≠ g8 := ty_ne HP.out.1 HT.out.1 (by decide)
          have HP2 : Hid ((((V.setCell ⟨g8, 0, none⟩ (.int .i64 (fl : Int))).setCell ⟨g8, 1, none⟩ (.int .i64 (dr : Int))).setCell ⟨g8, 2, none⟩ (.slice at1 nT ct1)).heap[g9]? = some (.cells #[.slice none 0 0, .slice none 0 0] 32 (0, 0)) ∧ V0.heap.size ≤ g9) := ⟨by rw [heap_setCell_other _ _ _ _ hne, heap_setCell_other _ _ _ _ hne, heap_setCell_other _ _ _ _ hne]; exact HP.out.1, HP.out.2⟩
          have HRT2 : Hid ((((V.setCell ⟨g8, 0, none⟩ (.int .i64 (fl : Int))).setCell ⟨g8, 1, none⟩ (.int .i64 (dr : Int))).setCell ⟨g8, 2, none⟩ (.slice at1 nT ct1)).ownsRow w.heap.size 44 5 (.slice at1 nT ct1) nT (ndsC T)) := owns_put3 HT.out.1 (by decide) HRT.out _ _ _
          have HRP2 : Hid ((((V.setCell ⟨g8, 0, none⟩ (.int .i64 (fl : Int))).setCell ⟨g8, 1, none⟩ (.int .i64 (dr : Int))).setCell ⟨g8, 2, none⟩ (.slice at1 nT ct1)).ownsRow w.heap.size 46 4 (.slice ao1 r co1) r (obsC O) ∧ (((V.setCell ⟨g8, 0, none⟩ (.int .i64 (fl : Int))).setCell ⟨g8, 1, none⟩ (.int .i64 (dr : Int))).setCell ⟨g8, 2, none⟩ (.slice at1 nT ct1)).ownsRow w.heap.size 3 1 (.slice (some ⟨gq, 0, none⟩) r1 capq) r1 (zsC LQ)) := ⟨owns_put3 HT.out.1 (by decide) HRP.out.1 _ _ _, owns_put3 HT.out.1 (by decide) HRP.out.2 _ _ _⟩
          refine hK.out _ _ hS2 (fun _ => ?_)
          clear hK K hS q0 q1 q2 f5 hne HT HP HB HRT HRP
          (try simp only [Act.put])
          revert HB2 hS2 HT2 HP2 HRT2 HRP2
          generalize (((V.setCell ⟨g8, 0, none⟩ (.int .i64 (fl : Int))).setCell ⟨g8, 1, none⟩ (.int .i64 (dr : Int))).setCell ⟨g8, 2, none⟩ (.slice at1 nT ct1)) = V2
          intro HB hS HT HP HRT HRP
          revert HB hS HT HP HRT HRP
          generalize V2 = V
          intro HB hS HT HP HRT HRP
          refine wpAnyH_ready (rs := [9]) (by kernel_rfl) (by simp) ?_
          refine AllReadyH.cons (o := { dst := none, op := .store 32 (.tmp 9) (.tmp 30), type := _, pos := _, after := _, guard := none }) rfl (fun K hK => ?_) AllReadyH.nil
          obtain ⟨q0, q1⟩ := cells2 HP.out.1
          have f5 : ∀ j, V.frozen? ⟨g9, j, none⟩ = false := fun j => frozen_of_heap HP.out.1
          go_simp
          have HB2 : Hid (Below V0.heap.size V0 ((V.setCell ⟨g9, 0, none⟩ (.slice ao1 r co1)).setCell ⟨g9, 1, none⟩ (.slice (some ⟨gq, 1, none⟩) nQ cq))) := (HB.out.setCell HP.out.2 _).setCell HP.out.2 _
          have hS2 := HCD.out _ HB2.out
          have hne : g8 ≠ g9 := ty_ne HT.out.1 HP.out.1 (by decide)
          have HT2 : Hid (((V.setCell ⟨g9, 0, none⟩ (.slice ao1 r co1)).setCell ⟨g9, 1, none⟩ (.slice (some ⟨gq, 1, none⟩) nQ cq)).heap[g8]? = some (.cells #[.int .i64 (fl : Int), .int .i64 (dr : Int), .slice at1 nT ct1] 28 (0, 0)) ∧ V0.heap.size ≤ g8) := ⟨by rw [heap_setCell_other _ _ _ _ hne, heap_setCell_other _ _ _ _ hne]; exact HT.out.1, HT.out.2⟩
          have HP2 : Hid (((V.setCell ⟨g9, 0, none⟩ (.slice ao1 r co1)).setCell ⟨g9, 1, none⟩ (.slice (some ⟨gq, 1, none⟩) nQ cq)).heap[g9]? = some (.cells #[.slice ao1 r co1, .slice (some ⟨gq, 1, none⟩) nQ cq] 32 (0, 0)) ∧ V0.heap.size ≤ g9) := ⟨Tr.put2A HP.out.1, HP.out.2⟩
          have HRT2 : Hid (((V.setCell ⟨g9, 0, none⟩ (.slice ao1 r co1)).setCell ⟨g9, 1, none⟩ (.slice (some ⟨gq, 1, none⟩) nQ cq)).ownsRow w.heap.size 44 5 (.slice at1 nT ct1) nT (ndsC T)) := owns_put2 HP.out.1 (by decide) HRT.out _ _
          have HRP2 : Hid (((V.setCell ⟨g9, 0, none⟩ (.slice ao1 r co1)).setCell ⟨g9, 1, none⟩ (.slice (some ⟨gq, 1, none⟩) nQ cq)).ownsRow w.heap.size 46 4 (.slice ao1 r co1) r (obsC O) ∧ ((V.setCell ⟨g9, 0, none⟩ (.slice ao1 r co1)).setCell ⟨g9, 1, none⟩ (.slice (some ⟨gq, 1, none⟩) nQ cq)).ownsRow w.heap.size 3 1 (.slice (some ⟨gq, 0, none⟩) r1 capq) r1 (zsC LQ)) := ⟨owns_put2 HP.out.1 (by decide) HRP.out.1 _ _, owns_put2 HP.out.1 (by decide) HRP.out.2 _ _⟩
          refine hK.out _ _ hS2 (fun _ => ?_)
          clear hK K hS q0 q1 f5 hne HT HP HB HRT HRP
          (try simp only [Act.put])
          revert HB2 hS2 HT2 HP2 HRT2 HRP2
          generalize ((V.setCell ⟨g9, 0, none⟩ (.slice ao1 r co1)).setCell ⟨g9, 1, none⟩ (.slice (some ⟨gq, 1, none⟩) nQ cq)) = V2
          intro HB hS HT HP HRT HRP
          revert HB hS HT HP HRT HRP
          generalize V2 = V
          intro HB hS HT HP HRT HRP
          refine wpAnyH_done (by kernel_rfl) ?_ _
          go_wp2_with fail
          go_meet
          exact ⟨g8, g9, at1, ct1, ao1, co1, gq, capq, cq, rfl, rfl, HCQ.out, ⟨HT.out.1, HP.out.1, HT.out.2, HP.out.2⟩, HRT.out, HRP.out, HB.out⟩
    · go_simp
      have hbA : Below V.heap.size V (V.alloc (.cells #[.int .i64 0, .int .i64 0, .slice none 0 0] 28)) := (Below.refl _ _).alloc (Nat.le_refl _) _
      have HB2 : Hid (Below V0.heap.size V0 (V.alloc (.cells #[.int .i64 0, .int .i64 0, .slice none 0 0] 28))) := below_on hbA HB.out
      have hS2 := HCD.out _ HB2.out
      have HT2 : Hid ((V.alloc (.cells #[.int .i64 0, .int .i64 0, .slice none 0 0] 28)).heap[V.heap.size]? = some (.cells #[.int .i64 0, .int .i64 0, .slice none 0 0] 28 (0, 0)) ∧ V0.heap.size ≤ V.heap.size) := ⟨heap_new V _, HB.out.size⟩
      refine hK.out _ _ hS2 (fun _ => ?_)
      clear hK K hS HB hbA 
      (try simp only [Act.put, List.setIfInBounds_toArray, List.set_cons_zero, List.set_cons_succ])
      revert HB2 hS2 HT2
      generalize (V.alloc (.cells #[.int .i64 0, .int .i64 0, .slice none 0 0] 28)) = V2
      generalize V.heap.size = g8
      intro HB hS HT
      revert HB hS HT
      generalize V2 = V
      intro HB hS HT
      refine wpAnyH_ready (rs := [2, 7]) (by kernel_rfl) (by simp) ?_
      refine AllReadyH.cons (o := { dst := some 27, op := .call { callee := .value (.func 26), args := #[.tmp 25, .tmp 26], argTypes := #[23, 9] }, type := _, pos := _, after := _, guard := none }) rfl (fun K hK => ?_) (AllReadyH.cons (o := { dst := some 9, op := .alloc 32, type := _, pos := _, after := _, guard := none }) rfl (fun K hK => ?_) AllReadyH.nil)
      · go_simp
        refine (KRT.out _ HB.out).mono ?_
        rintro e W2 ⟨at1, ct1, rfl, ho2, hbA⟩
        have HB2 : Hid (Below V0.heap.size V0 W2) := below_on hbA HB.out
        have hS2 := HCD.out _ HB2.out
        have HT2 : Hid (W2.heap[g8]? = some (.cells #[.int .i64 0, .int .i64 0, .slice none 0 0] 28 (0, 0)) ∧ V0.heap.size ≤ g8) := ⟨(hbA.block _ (heap_lt HT.out.1)).trans HT.out.1, HT.out.2⟩
        have HRT2 : Hid (W2.ownsRow w.heap.size 44 5 (.slice at1 nT ct1) nT (ndsC T)) := owns_base ho2 (HW.out _ HB.out).size
        refine hK.out _ _ hS2 (fun _ => ?_)
        clear hK K hS HB hbA ho2 HT
        (try simp only [Act.put, List.setIfInBounds_toArray, List.set_cons_zero, List.set_cons_succ])
        revert HB2 hS2 HT2 HRT2
        generalize W2 = V
        intro HB hS HT HRT
        refine wpAnyH_ready (rs := [5, 7]) (by kernel_rfl) (by simp) ?_
        refine AllReadyH.cons (o := { dst := some 30, op := .call { callee := .value (.func 27), args := #[.tmp 28, .tmp 29], argTypes := #[23, 9] }, type := _, pos := _, after := _, guard := none }) rfl (fun K hK => ?_) (AllReadyH.cons (o := { dst := some 9, op := .alloc 32, type := _, pos := _, after := _, guard := none }) rfl (fun K hK => ?_) AllReadyH.nil)
        · go_simp
          refine (KRP.out _ HB.out).mono ?_
          rintro e W2 ⟨ao1, co1, gq, capq, cq, hcq, rfl, ho2, hq2, hbA⟩
          have HCQ : Hid (capq - 1 = cq) := hcq
          clear hcq
          have HB2 : Hid (Below V0.heap.size V0 W2) := below_on hbA HB.out
          have hS2 := HCD.out _ HB2.out
          have HT2 : Hid (W2.heap[g8]? = some (.cells #[.int .i64 0, .int .i64 0, .slice none 0 0] 28 (0, 0)) ∧ V0.heap.size ≤ g8) := ⟨(hbA.block _ (heap_lt HT.out.1)).trans HT.out.1, HT.out.2⟩
          have HRT2 : Hid (W2.ownsRow w.heap.size 44 5 (.slice at1 nT ct1) nT (ndsC T)) := owns_below HRT.out hbA
          have HRP2 : Hid (W2.ownsRow w.heap.size 46 4 (.slice ao1 r co1) r (obsC O) ∧ W2.ownsRow w.heap.size 3 1 (.slice (some ⟨gq, 0, none⟩) r1 capq) r1 (zsC LQ)) := ⟨owns_base ho2 (HW.out _ HB.out).size, owns_base hq2 (HW.out _ HB.out).size⟩
          refine hK.out _ _ hS2 (fun _ => ?_)
          clear hK K hS HB hbA ho2 hq2 HT HRT
          (try simp only [Act.put, List.setIfInBounds_toArray, List.set_cons_zero, List.set_cons_succ])
          revert HB2 hS2 HT2 HRT2 HRP2
          generalize W2 = V
          intro HB hS HT HRT HRP
          refine wpAnyH_ready (rs := [7]) (by kernel_rfl) (by simp) ?_
          refine AllReadyH.cons (o := { dst := some 9, op := .alloc 32, type := _, pos := _, after := _, guard := none }) rfl (fun K hK => ?_) AllReadyH.nil
          go_simp
          have hbA : Below V.heap.size V (V.alloc (.cells #[.slice none 0 0, .slice none 0 0] 32)) := (Below.refl _ _).alloc (Nat.le_refl _) _
          have HB2 : Hid (Below V0.heap.size V0 (V.alloc (.cells #[.slice none 0 0, .slice none 0 0] 32))) := below_on hbA HB.out
          have hS2 := HCD.out _ HB2.out
          have HT2 : Hid ((V.alloc (.cells #[.slice none 0 0, .slice none 0 0] 32)).heap[g8]? = some (.cells #[.int .i64 0, .int .i64 0, .slice none 0 0] 28 (0, 0)) ∧ V0.heap.size ≤ g8) := ⟨(hbA.block _ (heap_lt HT.out.1)).trans HT.out.1, HT.out.2⟩
          have HRT2 : Hid ((V.alloc (.cells #[.slice none 0 0, .slice none 0 0] 32)).ownsRow w.heap.size 44 5 (.slice at1 nT ct1) nT (ndsC T)) := owns_below HRT.out hbA
          have HRP2 : Hid ((V.alloc (.cells #[.slice none 0 0, .slice none 0 0] 32)).ownsRow w.heap.size 46 4 (.slice ao1 r co1) r (obsC O) ∧ (V.alloc (.cells #[.slice none 0 0, .slice none 0 0] 32)).ownsRow w.heap.size 3 1 (.slice (some ⟨gq, 0, none⟩) r1 capq) r1 (zsC LQ)) := ⟨owns_below HRP.out.1 hbA, owns_below HRP.out.2 hbA⟩
          have HP2 : Hid ((V.alloc (.cells #[.slice none 0 0, .slice none 0 0] 32)).heap[V.heap.size]? = some (.cells #[.slice none 0 0, .slice none 0 0] 32 (0, 0)) ∧ V0.heap.size ≤ V.heap.size) := ⟨heap_new V _, HB.out.size⟩
          refine hK.out _ _ hS2 (fun _ => ?_)
          clear hK K hS HB hbA HT HRT HRP
          (try simp only [Act.put, List.setIfInBounds_toArray, List.set_cons_zero, List.set_cons_succ])
          revert HB2 hS2 HT2 HRT2 HRP2 HP2
          generalize (V.alloc (.cells #[.slice none 0 0, .slice none 0 0] 32)) = V2
          generalize V.heap.size = g9
          intro HB hS HT HRT HRP HP
          revert HB hS HT HRT HRP HP
          generalize V2 = V
          intro HB hS HT HRT HRP HP
          refine wpAnyH_ready (rs := [8]) (by kernel_rfl) (by simp) ?_
          refine AllReadyH.cons (o := { dst := none, op := .store 28 (.tmp 8) (.tmp 27), type := _, pos := _, after := _, guard := none }) rfl (fun K hK => ?_) AllReadyH.nil
          obtain ⟨q0, q1, q2⟩ := cells3 HT.out.1
          have f5 : ∀ j, V.frozen? ⟨g8, j, none⟩ = false := fun j => frozen_of_heap HT.out.1
          go_simp
          have HB2 : Hid (Below V0.heap.size V0 (((V.setCell ⟨g8, 0, none⟩ (.int .i64 (fl : Int))).setCell ⟨g8, 1, none⟩ (.int .i64 (dr : Int))).setCell ⟨g8, 2, none⟩ (.slice at1 nT ct1))) := ((HB.out.setCell HT.out.2 _).setCell HT.out.2 _).setCell HT.out.2 _
          have hS2 := HCD.out _ HB2.out
          have HT2 : Hid ((((V.setCell ⟨g8, 0, none⟩ (.int .i64 (fl : Int))).setCell ⟨g8, 1, none⟩ (.int .i64 (dr : Int))).setCell ⟨g8, 2, none⟩ (.slice at1 nT ct1)).heap[g8]? = some (.cells #[.int .i64 (fl : Int), .int .i64 (dr : Int), .slice at1 nT ct1] 28 (0, 0)) ∧ V0.heap.size ≤ g8) := ⟨Tr.put3A HT.out.1, HT.out.2⟩
          have hne : g9 ≠ g8 := ty_ne HP.out.1 HT.out.1 (by decide)
          have HP2 : Hid ((((V.setCell ⟨g8, 0, none⟩ (.int .i64 (fl : Int))).setCell ⟨g8, 1, none⟩ (.int .i64 (dr : Int))).setCell ⟨g8, 2, none⟩ (.slice at1 nT ct1)).heap[g9]? = some (.cells #[.slice none 0 0, .slice none 0 0] 32 (0, 0)) ∧ V0.heap.size ≤ g9) := ⟨by rw [heap_setCell_other _ _ _ _ hne, heap_setCell_other _ _ _ _ hne, heap_setCell_other _ _ _ _ hne]; exact HP.out.1, HP.out.2⟩
          have HRT2 : Hid ((((V.setCell ⟨g8, 0, none⟩ (.int .i64 (fl : Int))).setCell ⟨g8, 1, none⟩ (.int .i64 (dr : Int))).setCell ⟨g8, 2, none⟩ (.slice at1 nT ct1)).ownsRow w.heap.size 44 5 (.slice at1 nT ct1) nT (ndsC T)) := owns_put3 HT.out.1 (by decide) HRT.out _ _ _
          have HRP2 : Hid ((((V.setCell ⟨g8, 0, none⟩ (.int .i64 (fl : Int))).setCell ⟨g8, 1, none⟩ (.int .i64 (dr : Int))).setCell ⟨g8, 2, none⟩ (.slice at1 nT ct1)).ownsRow w.heap.size 46 4 (.slice ao1 r co1) r (obsC O) ∧ (((V.setCell ⟨g8, 0, none⟩ (.int .i64 (fl : Int))).setCell ⟨g8, 1, none⟩ (.int .i64 (dr : Int))).setCell ⟨g8, 2, none⟩ (.slice at1 nT ct1)).ownsRow w.heap.size 3 1 (.slice (some ⟨gq, 0, none⟩) r1 capq) r1 (zsC LQ)) := ⟨owns_put3 HT.out.1 (by decide) HRP.out.1 _ _ _, owns_put3 HT.out.1 (by decide) HRP.out.2 _ _ _⟩
          refine hK.out _ _ hS2 (fun _ => ?_)
          clear hK K hS q0 q1 q2 f5 hne HT HP HB HRT HRP
          (try simp only [Act.put])
          revert HB2 hS2 HT2 HP2 HRT2 HRP2
          generalize (((V.setCell ⟨g8, 0, none⟩ (.int .i64 (fl : Int))).setCell ⟨g8, 1, none⟩ (.int .i64 (dr : Int))).setCell ⟨g8, 2, none⟩ (.slice at1 nT ct1)) = V2
          intro HB hS HT HP HRT HRP
          revert HB hS HT HP HRT HRP
          generalize V2 = V
          intro HB hS HT HP HRT HRP
          refine wpAnyH_ready (rs := [9]) (by kernel_rfl) (by simp) ?_
          refine AllReadyH.cons (o := { dst := none, op := .store 32 (.tmp 9) (.tmp 30), type := _, pos := _, after := _, guard := none }) rfl (fun K hK => ?_) AllReadyH.nil
          obtain ⟨q0, q1⟩ := cells2 HP.out.1
          have f5 : ∀ j, V.frozen? ⟨g9, j, none⟩ = false := fun j => frozen_of_heap HP.out.1
          go_simp
          have HB2 : Hid (Below V0.heap.size V0 ((V.setCell ⟨g9, 0, none⟩ (.slice ao1 r co1)).setCell ⟨g9, 1, none⟩ (.slice (some ⟨gq, 1, none⟩) nQ cq))) := (HB.out.setCell HP.out.2 _).setCell HP.out.2 _
          have hS2 := HCD.out _ HB2.out
          have hne : g8 ≠ g9 := ty_ne HT.out.1 HP.out.1 (by decide)
          have HT2 : Hid (((V.setCell ⟨g9, 0, none⟩ (.slice ao1 r co1)).setCell ⟨g9, 1, none⟩ (.slice (some ⟨gq, 1, none⟩) nQ cq)).heap[g8]? = some (.cells #[.int .i64 (fl : Int), .int .i64 (dr : Int), .slice at1 nT ct1] 28 (0, 0)) ∧ V0.heap.size ≤ g8) := ⟨by rw [heap_setCell_other _ _ _ _ hne, heap_setCell_other _ _ _ _ hne]; exact HT.out.1, HT.out.2⟩
          have HP2 : Hid (((V.setCell ⟨g9, 0, none⟩ (.slice ao1 r co1)).setCell ⟨g9, 1, none⟩ (.slice (some ⟨gq, 1, none⟩) nQ cq)).heap[g9]? = some (.cells #[.slice ao1 r co1, .slice (some ⟨gq, 1, none⟩) nQ cq] 32 (0, 0)) ∧ V0.heap.size ≤ g9) := ⟨Tr.put2A HP.out.1, HP.out.2⟩
          have HRT2 : Hid (((V.setCell ⟨g9, 0, none⟩ (.slice ao1 r co1)).setCell ⟨g9, 1, none⟩ (.slice (some ⟨gq, 1, none⟩) nQ cq)).ownsRow w.heap.size 44 5 (.slice at1 nT ct1) nT (ndsC T)) := owns_put2 HP.out.1 (by decide) HRT.out _ _
          have HRP2 : Hid (((V.setCell ⟨g9, 0, none⟩ (.slice ao1 r co1)).setCell ⟨g9, 1, none⟩ (.slice (some ⟨gq, 1, none⟩) nQ cq)).ownsRow w.heap.size 46 4 (.slice ao1 r co1) r (obsC O) ∧ ((V.setCell ⟨g9, 0, none⟩ (.slice ao1 r co1)).setCell ⟨g9, 1, none⟩ (.slice (some ⟨gq, 1, none⟩) nQ cq)).ownsRow w.heap.size 3 1 (.slice (some ⟨gq, 0, none⟩) r1 capq) r1 (zsC LQ)) := ⟨owns_put2 HP.out.1 (by decide) HRP.out.1 _ _, owns_put2 HP.out.1 (by decide) HRP.out.2 _ _⟩
          refine hK.out _ _ hS2 (fun _ => ?_)
          clear hK K hS q0 q1 f5 hne HT HP HB HRT HRP
          (try simp only [Act.put])
          revert HB2 hS2 HT2 HP2 HRT2 HRP2
          generalize ((V.setCell ⟨g9, 0, none⟩ (.slice ao1 r co1)).setCell ⟨g9, 1, none⟩ (.slice (some ⟨gq, 1, none⟩) nQ cq)) = V2
          intro HB hS HT HP HRT HRP
          revert HB hS HT HP HRT HRP
          generalize V2 = V
          intro HB hS HT HP HRT HRP
          refine wpAnyH_done (by kernel_rfl) ?_ _
          go_wp2_with fail
          go_meet
          exact ⟨g8, g9, at1, ct1, ao1, co1, gq, capq, cq, rfl, rfl, HCQ.out, ⟨HT.out.1, HP.out.1, HT.out.2, HP.out.2⟩, HRT.out, HRP.out, HB.out⟩
        · go_simp
          have hbA : Below V.heap.size V (V.alloc (.cells #[.slice none 0 0, .slice none 0 0] 32)) := (Below.refl _ _).alloc (Nat.le_refl _) _
          have HB2 : Hid (Below V0.heap.size V0 (V.alloc (.cells #[.slice none 0 0, .slice none 0 0] 32))) := below_on hbA HB.out
          have hS2 := HCD.out _ HB2.out
          have HT2 : Hid ((V.alloc (.cells #[.slice none 0 0, .slice none 0 0] 32)).heap[g8]? = some (.cells #[.int .i64 0, .int .i64 0, .slice none 0 0] 28 (0, 0)) ∧ V0.heap.size ≤ g8) := ⟨(hbA.block _ (heap_lt HT.out.1)).trans HT.out.1, HT.out.2⟩
          have HRT2 : Hid ((V.alloc (.cells #[.slice none 0 0, .slice none 0 0] 32)).ownsRow w.heap.size 44 5 (.slice at1 nT ct1) nT (ndsC T)) := owns_below HRT.out hbA
          have HP2 : Hid ((V.alloc (.cells #[.slice none 0 0, .slice none 0 0] 32)).heap[V.heap.size]? = some (.cells #[.slice none 0 0, .slice none 0 0] 32 (0, 0)) ∧ V0.heap.size ≤ V.heap.size) := ⟨heap_new V _, HB.out.size⟩
          refine hK.out _ _ hS2 (fun _ => ?_)
          clear hK K hS HB hbA HT HRT
          (try simp only [Act.put, List.setIfInBounds_toArray, List.set_cons_zero, List.set_cons_succ])
          revert HB2 hS2 HT2 HRT2 HP2
          generalize (V.alloc (.cells #[.slice none 0 0, .slice none 0 0] 32)) = V2
          generalize V.heap.size = g9
          intro HB hS HT HRT HP
          revert HB hS HT HRT HP
          generalize V2 = V
          intro HB hS HT HRT HP
          refine wpAnyH_ready (rs := [5]) (by kernel_rfl) (by simp) ?_
          refine AllReadyH.cons (o := { dst := some 30, op := .call { callee := .value (.func 27), args := #[.tmp 28, .tmp 29], argTypes := #[23, 9] }, type := _, pos := _, after := _, guard := none }) rfl (fun K hK => ?_) AllReadyH.nil
          go_simp
          refine (KRP.out _ HB.out).mono ?_
          rintro e W2 ⟨ao1, co1, gq, capq, cq, hcq, rfl, ho2, hq2, hbA⟩
          have HCQ : Hid (capq - 1 = cq) := hcq
          clear hcq
          have HB2 : Hid (Below V0.heap.size V0 W2) := below_on hbA HB.out
          have hS2 := HCD.out _ HB2.out
          have HT2 : Hid (W2.heap[g8]? = some (.cells #[.int .i64 0, .int .i64 0, .slice none 0 0] 28 (0, 0)) ∧ V0.heap.size ≤ g8) := ⟨(hbA.block _ (heap_lt HT.out.1)).trans HT.out.1, HT.out.2⟩
          have HP2 : Hid (W2.heap[g9]? = some (.cells #[.slice none 0 0, .slice none 0 0] 32 (0, 0)) ∧ V0.heap.size ≤ g9) := ⟨(hbA.block _ (heap_lt HP.out.1)).trans HP.out.1, HP.out.2⟩
          have HRT2 : Hid (W2.ownsRow w.heap.size 44 5 (.slice at1 nT ct1) nT (ndsC T)) := owns_below HRT.out hbA
          have HRP2 : Hid (W2.ownsRow w.heap.size 46 4 (.slice ao1 r co1) r (obsC O) ∧ W2.ownsRow w.heap.size 3 1 (.slice (some ⟨gq, 0, none⟩) r1 capq) r1 (zsC LQ)) := ⟨owns_base ho2 (HW.out _ HB.out).size, owns_base hq2 (HW.out _ HB.out).size⟩
          refine hK.out _ _ hS2 (fun _ => ?_)
          clear hK K hS HB hbA ho2 hq2 HT HP HRT
          (try simp only [Act.put, List.setIfInBounds_toArray, List.set_cons_zero, List.set_cons_succ])
          revert HB2 hS2 HT2 HP2 HRT2 HRP2
          generalize W2 = V
          intro HB hS HT HP HRT HRP
          refine wpAnyH_ready (rs := [8]) (by kernel_rfl) (by simp) ?_
          refine AllReadyH.cons (o := { dst := none, op := .store 28 (.tmp 8) (.tmp 27), type := _, pos := _, after := _, guard := none }) rfl (fun K hK => ?_) AllReadyH.nil
          obtain ⟨q0, q1, q2⟩ := cells3 HT.out.1
          have f5 : ∀ j, V.frozen? ⟨g8, j, none⟩ = false := fun j => frozen_of_heap HT.out.1
          go_simp
          have HB2 : Hid (Below V0.heap.size V0 (((V.setCell ⟨g8, 0, none⟩ (.int .i64 (fl : Int))).setCell ⟨g8, 1, none⟩ (.int .i64 (dr : Int))).setCell ⟨g8, 2, none⟩ (.slice at1 nT ct1))) := ((HB.out.setCell HT.out.2 _).setCell HT.out.2 _).setCell HT.out.2 _
          have hS2 := HCD.out _ HB2.out
          have HT2 : Hid ((((V.setCell ⟨g8, 0, none⟩ (.int .i64 (fl : Int))).setCell ⟨g8, 1, none⟩ (.int .i64 (dr : Int))).setCell ⟨g8, 2, none⟩ (.slice at1 nT ct1)).heap[g8]? = some (.cells #[.int .i64 (fl : Int), .int .i64 (dr : Int), .slice at1 nT ct1] 28 (0, 0)) ∧ V0.heap.size ≤ g8) := ⟨Tr.put3A HT.out.1, HT.out.2⟩
          have hne : g9 ≠ g8 := ty_ne HP.out.1 HT.out.1 (by decide)
          have HP2 : Hid ((((V.setCell ⟨g8, 0, none⟩ (.int .i64 (fl : Int))).setCell ⟨g8, 1, none⟩ (.int .i64 (dr : Int))).setCell ⟨g8, 2, none⟩ (.slice at1 nT ct1)).heap[g9]? = some (.cells #[.slice none 0 0, .slice none 0 0] 32 (0, 0)) ∧ V0.heap.size ≤ g9) := ⟨by rw [heap_setCell_other _ _ _ _ hne, heap_setCell_other _ _ _ _ hne, heap_setCell_other _ _ _ _ hne]; exact HP.out.1, HP.out.2⟩
          have HRT2 : Hid ((((V.setCell ⟨g8, 0, none⟩ (.int .i64 (fl : Int))).setCell ⟨g8, 1, none⟩ (.int .i64 (dr : Int))).setCell ⟨g8, 2, none⟩ (.slice at1 nT ct1)).ownsRow w.heap.size 44 5 (.slice at1 nT ct1) nT (ndsC T)) := owns_put3 HT.out.1 (by decide) HRT.out _ _ _
          have HRP2 : Hid ((((V.setCell ⟨g8, 0, none⟩ (.int .i64 (fl : Int))).setCell ⟨g8, 1, none⟩ (.int .i64 (dr : Int))).setCell ⟨g8, 2, none⟩ (.slice at1 nT ct1)).ownsRow w.heap.size 46 4 (.slice ao1 r co1) r (obsC O) ∧ (((V.setCell ⟨g8, 0, none⟩ (.int .i64 (fl : Int))).setCell ⟨g8, 1, none⟩ (.int .i64 (dr : Int))).setCell ⟨g8, 2, none⟩ (.slice at1 nT ct1)).ownsRow w.heap.size 3 1 (.slice (some ⟨gq, 0, none⟩) r1 capq) r1 (zsC LQ)) := ⟨owns_put3 HT.out.1 (by decide) HRP.out.1 _ _ _, owns_put3 HT.out.1 (by decide) HRP.out.2 _ _ _⟩
          refine hK.out _ _ hS2 (fun _ => ?_)
          clear hK K hS q0 q1 q2 f5 hne HT HP HB HRT HRP
          (try simp only [Act.put])
          revert HB2 hS2 HT2 HP2 HRT2 HRP2
          generalize (((V.setCell ⟨g8, 0, none⟩ (.int .i64 (fl : Int))).setCell ⟨g8, 1, none⟩ (.int .i64 (dr : Int))).setCell ⟨g8, 2, none⟩ (.slice at1 nT ct1)) = V2
          intro HB hS HT HP HRT HRP
          revert HB hS HT HP HRT HRP
          generalize V2 = V
          intro HB hS HT HP HRT HRP
          refine wpAnyH_ready (rs := [9]) (by kernel_rfl) (by simp) ?_
          refine AllReadyH.cons (o := { dst := none, op := .store 32 (.tmp 9) (.tmp 30), type := _, pos := _, after := _, guard := none }) rfl (fun K hK => ?_) AllReadyH.nil
          obtain ⟨q0, q1⟩ := cells2 HP.out.1
          have f5 : ∀ j, V.frozen? ⟨g9, j, none⟩ = false := fun j => frozen_of_heap HP.out.1
          go_simp
          have HB2 : Hid (Below V0.heap.size V0 ((V.setCell ⟨g9, 0, none⟩ (.slice ao1 r co1)).setCell ⟨g9, 1, none⟩ (.slice (some ⟨gq, 1, none⟩) nQ cq))) := (HB.out.setCell HP.out.2 _).setCell HP.out.2 _
          have hS2 := HCD.out _ HB2.out
          have hne : g8 ≠ g9 := ty_ne HT.out.1 HP.out.1 (by decide)
          have HT2 : Hid (((V.setCell ⟨g9, 0, none⟩ (.slice ao1 r co1)).setCell ⟨g9, 1, none⟩ (.slice (some ⟨gq, 1, none⟩) nQ cq)).heap[g8]? = some (.cells #[.int .i64 (fl : Int), .int .i64 (dr : Int), .slice at1 nT ct1] 28 (0, 0)) ∧ V0.heap.size ≤ g8) := ⟨by rw [heap_setCell_other _ _ _ _ hne, heap_setCell_other _ _ _ _ hne]; exact HT.out.1, HT.out.2⟩
          have HP2 : Hid (((V.setCell ⟨g9, 0, none⟩ (.slice ao1 r co1)).setCell ⟨g9, 1, none⟩ (.slice (some ⟨gq, 1, none⟩) nQ cq)).heap[g9]? = some (.cells #[.slice ao1 r co1, .slice (some ⟨gq, 1, none⟩) nQ cq] 32 (0, 0)) ∧ V0.heap.size ≤ g9) := ⟨Tr.put2A HP.out.1, HP.out.2⟩
          have HRT2 : Hid (((V.setCell ⟨g9, 0, none⟩ (.slice ao1 r co1)).setCell ⟨g9, 1, none⟩ (.slice (some ⟨gq, 1, none⟩) nQ cq)).ownsRow w.heap.size 44 5 (.slice at1 nT ct1) nT (ndsC T)) := owns_put2 HP.out.1 (by decide) HRT.out _ _
          have HRP2 : Hid (((V.setCell ⟨g9, 0, none⟩ (.slice ao1 r co1)).setCell ⟨g9, 1, none⟩ (.slice (some ⟨gq, 1, none⟩) nQ cq)).ownsRow w.heap.size 46 4 (.slice ao1 r co1) r (obsC O) ∧ ((V.setCell ⟨g9, 0, none⟩ (.slice ao1 r co1)).setCell ⟨g9, 1, none⟩ (.slice (some ⟨gq, 1, none⟩) nQ cq)).ownsRow w.heap.size 3 1 (.slice (some ⟨gq, 0, none⟩) r1 capq) r1 (zsC LQ)) := ⟨owns_put2 HP.out.1 (by decide) HRP.out.1 _ _, owns_put2 HP.out.1 (by decide) HRP.out.2 _ _⟩
          refine hK.out _ _ hS2 (fun _ => ?_)
          clear hK K hS q0 q1 f5 hne HT HP HB HRT HRP
          (try simp only [Act.put])
          revert HB2 hS2 HT2 HP2 HRT2 HRP2
          generalize ((V.setCell ⟨g9, 0, none⟩ (.slice ao1 r co1)).setCell ⟨g9, 1, none⟩ (.slice (some ⟨gq, 1, none⟩) nQ cq)) = V2
          intro HB hS HT HP HRT HRP
          revert HB hS HT HP HRT HRP
          generalize V2 = V
          intro HB hS HT HP HRT HRP
          refine wpAnyH_done (by kernel_rfl) ?_ _
          go_wp2_with fail
          go_meet
          exact ⟨g8, g9, at1, ct1, ao1, co1, gq, capq, cq, rfl, rfl, HCQ.out, ⟨HT.out.1, HP.out.1, HT.out.2, HP.out.2⟩, HRT.out, HRP.out, HB.out⟩
      · go_simp
        have hbA : Below V.heap.size V (V.alloc (.cells #[.slice none 0 0, .slice none 0 0] 32)) := (Below.refl _ _).alloc (Nat.le_refl _) _
        have HB2 : Hid (Below V0.heap.size V0 (V.alloc (.cells #[.slice none 0 0, .slice none 0 0] 32))) := below_on hbA HB.out
        have hS2 := HCD.out _ HB2.out
        have HT2 : Hid ((V.alloc (.cells #[.slice none 0 0, .slice none 0 0] 32)).heap[g8]? = some (.cells #[.int .i64 0, .int .i64 0, .slice none 0 0] 28 (0, 0)) ∧ V0.heap.size ≤ g8) := ⟨(hbA.block _ (heap_lt HT.out.1)).trans HT.out.1, HT.out.2⟩
        have HP2 : Hid ((V.alloc (.cells #[.slice none 0 0, .slice none 0 0] 32)).heap[V.heap.size]? = some (.cells #[.slice none 0 0, .slice none 0 0] 32 (0, 0)) ∧ V0.heap.size ≤ V.heap.size) := ⟨heap_new V _, HB.out.size⟩
        refine hK.out _ _ hS2 (fun _ => ?_)
        clear hK K hS HB hbA HT
        (try simp only [Act.put, List.setIfInBounds_toArray, List.set_cons_zero, List.set_cons_succ])
        revert HB2 hS2 HT2 HP2
        generalize (V.alloc (.cells #[.slice none 0 0, .slice none 0 0] 32)) = V2
        generalize V.heap.size = g9
        intro HB hS HT HP
        revert HB hS HT HP
        generalize V2 = V
        intro HB hS HT HP
        refine wpAnyH_ready (rs := [2]) (by kernel_rfl) (by simp) ?_
        refine AllReadyH.cons (o := { dst := some 27, op := .call { callee := .value (.func 26), args := #[.tmp 25, .tmp 26], argTypes := #[23, 9] }, type := _, pos := _, after := _, guard := none }) rfl (fun K hK => ?_) AllReadyH.nil
        go_simp
        refine (KRT.out _ HB.out).mono ?_
        rintro e W2 ⟨at1, ct1, rfl, ho2, hbA⟩
        have HB2 : Hid (Below V0.heap.size V0 W2) := below_on hbA HB.out
        have hS2 := HCD.out _ HB2.out
        have HT2 : Hid (W2.heap[g8]? = some (.cells #[.int .i64 0, .int .i64 0, .slice none 0 0] 28 (0, 0)) ∧ V0.heap.size ≤ g8) := ⟨(hbA.block _ (heap_lt HT.out.1)).trans HT.out.1, HT.out.2⟩
        have HP2 : Hid (W2.heap[g9]? = some (.cells #[.slice none 0 0, .slice none 0 0] 32 (0, 0)) ∧ V0.heap.size ≤ g9) := ⟨(hbA.block _ (heap_lt HP.out.1)).trans HP.out.1, HP.out.2⟩
        have HRT2 : Hid (W2.ownsRow w.heap.size 44 5 (.slice at1 nT ct1) nT (ndsC T)) := owns_base ho2 (HW.out _ HB.out).size
        refine hK.out _ _ hS2 (fun _ => ?_)
        clear hK K hS HB hbA ho2 HT HP
        (try simp only [Act.put, List.setIfInBounds_toArray, List.set_cons_zero, List.set_cons_succ])
        revert HB2 hS2 HT2 HP2 HRT2
        generalize W2 = V
        intro HB hS HT HP HRT
        refine wpAnyH_ready (rs := [5]) (by kernel_rfl) (by simp) ?_
        refine AllReadyH.cons (o := { dst := some 30, op := .call { callee := .value (.func 27), args := #[.tmp 28, .tmp 29], argTypes := #[23, 9] }, type := _, pos := _, after := _, guard := none }) rfl (fun K hK => ?_) AllReadyH.nil
        go_simp
        refine (KRP.out _ HB.out).mono ?_
        rintro e W2 ⟨ao1, co1, gq, capq, cq, hcq, rfl, ho2, hq2, hbA⟩
        have HCQ : Hid (capq - 1 = cq) := hcq
        clear hcq
        have HB2 : Hid (Below V0.heap.size V0 W2) := below_on hbA HB.out
        have hS2 := HCD.out _ HB2.out
        have HT2 : Hid (W2.heap[g8]? = some (.cells #[.int .i64 0, .int .i64 0, .slice none 0 0] 28 (0, 0)) ∧ V0.heap.size ≤ g8) := ⟨(hbA.block _ (heap_lt HT.out.1)).trans HT.out.1, HT.out.2⟩
        have HP2 : Hid (W2.heap[g9]? = some (.cells #[.slice none 0 0, .slice none 0 0] 32 (0, 0)) ∧ V0.heap.size ≤ g9) := ⟨(hbA.block _ (heap_lt HP.out.1)).trans HP.out.1, HP.out.2⟩
        have HRT2 : Hid (W2.ownsRow w.heap.size 44 5 (.slice at1 nT ct1) nT (ndsC T)) := owns_below HRT.out hbA
        have HRP2 : Hid (W2.ownsRow w.heap.size 46 4 (.slice ao1 r co1) r (obsC O) ∧ W2.ownsRow w.heap.size 3 1 (.slice (some ⟨gq, 0, none⟩) r1 capq) r1 (zsC LQ)) := ⟨owns_base ho2 (HW.out _ HB.out).size, owns_base hq2 (HW.out _ HB.out).size⟩
        refine hK.out _ _ hS2 (fun _ => ?_)
        clear hK K hS HB hbA ho2 hq2 HT HP HRT
        (try simp only [Act.put, List.setIfInBounds_toArray, List.set_cons_zero, List.set_cons_succ])
        revert HB2 hS2 HT2 HP2 HRT2 HRP2
        generalize W2 = V
        intro HB hS HT HP HRT HRP
        refine wpAnyH_ready (rs := [8]) (by kernel_rfl) (by simp) ?_
        refine AllReadyH.cons (o := { dst := none, op := .store 28 (.tmp 8) (.tmp 27), type := _, pos := _, after := _, guard := none }) rfl (fun K hK => ?_) AllReadyH.nil
        obtain ⟨q0, q1, q2⟩ := cells3 HT.out.1
        have f5 : ∀ j, V.frozen? ⟨g8, j, none⟩ = false := fun j => frozen_of_heap HT.out.1
        go_simp
        have HB2 : Hid (Below V0.heap.size V0 (((V.setCell ⟨g8, 0, none⟩ (.int .i64 (fl : Int))).setCell ⟨g8, 1, none⟩ (.int .i64 (dr : Int))).setCell ⟨g8, 2, none⟩ (.slice at1 nT ct1))) := ((HB.out.setCell HT.out.2 _).setCell HT.out.2 _).setCell HT.out.2 _
        have hS2 := HCD.out _ HB2.out
        have HT2 : Hid ((((V.setCell ⟨g8, 0, none⟩ (.int .i64 (fl : Int))).setCell ⟨g8, 1, none⟩ (.int .i64 (dr : Int))).setCell ⟨g8, 2, none⟩ (.slice at1 nT ct1)).heap[g8]? = some (.cells #[.int .i64 (fl : Int), .int .i64 (dr : Int), .slice at1 nT ct1] 28 (0, 0)) ∧ V0.heap.size ≤ g8) := ⟨Tr.put3A HT.out.1, HT.out.2⟩
        have hne : g9 ≠ g8 := ty_ne HP.out.1 HT.out.1 (by decide)
        have HP2 : Hid ((((V.setCell ⟨g8, 0, none⟩ (.int .i64 (fl : Int))).setCell ⟨g8, 1, none⟩ (.int .i64 (dr : Int))).setCell ⟨g8, 2, none⟩ (.slice at1 nT ct1)).heap[g9]? = some (.cells #[.slice none 0 0, .slice none 0 0] 32 (0, 0)) ∧ V0.heap.size ≤ g9) := ⟨by rw [heap_setCell_other _ _ _ _ hne, heap_setCell_other _ _ _ _ hne, heap_setCell_other _ _ _ _ hne]; exact HP.out.1, HP.out.2⟩
        have HRT2 : Hid ((((V.setCell ⟨g8, 0, none⟩ (.int .i64 (fl : Int))).setCell ⟨g8, 1, none⟩ (.int .i64 (dr : Int))).setCell ⟨g8, 2, none⟩ (.slice at1 nT ct1)).ownsRow w.heap.size 44 5 (.slice at1 nT ct1) nT (ndsC T)) := owns_put3 HT.out.1 (by decide) HRT.out _ _ _
        have HRP2 : Hid ((((V.setCell ⟨g8, 0, none⟩ (.int .i64 (fl : Int))).setCell ⟨g8, 1, none⟩ (.int .i64 (dr : Int))).setCell ⟨g8, 2, none⟩ (.slice at1 nT ct1)).ownsRow w.heap.size 46 4 (.slice ao1 r co1) r (obsC O) ∧ (((V.setCell ⟨g8, 0, none⟩ (.int .i64 (fl : Int))).setCell ⟨g8, 1, none⟩ (.int .i64 (dr : Int))).setCell ⟨g8, 2, none⟩ (.slice at1 nT ct1)).ownsRow w.heap.size 3 1 (.slice (some ⟨gq, 0, none⟩) r1 capq) r1 (zsC LQ)) := ⟨owns_put3 HT.out.1 (by decide) HRP.out.1 _ _ _, owns_put3 HT.out.1 (by decide) HRP.out.2 _ _ _⟩
        refine hK.out _ _ hS2 (fun _ => ?_)
        clear hK K hS q0 q1 q2 f5 hne HT HP HB HRT HRP
        (try simp only [Act.put])
        revert HB2 hS2 HT2 HP2 HRT2 HRP2
        generalize (((V.setCell ⟨g8, 0, none⟩ (.int .i64 (fl : Int))).setCell ⟨g8, 1, none⟩ (.int .i64 (dr : Int))).setCell ⟨g8, 2, none⟩ (.slice at1 nT ct1)) = V2
        intro HB hS HT HP HRT HRP
        revert HB hS HT HP HRT HRP
        generalize V2 = V
        intro HB hS HT HP HRT HRP
        refine wpAnyH_ready (rs := [9]) (by kernel_rfl) (by simp) ?_
        refine AllReadyH.cons (o := { dst := none, op := .store 32 (.tmp 9) (.tmp 30), type := _, pos := _, after := _, guard := none }) rfl (fun K hK => ?_) AllReadyH.nil
        obtain ⟨q0, q1⟩ := cells2 HP.out.1
        have f5 : ∀ j, V.frozen? ⟨g9, j, none⟩ = false := fun j => frozen_of_heap HP.out.1
        go_simp
        have HB2 : Hid (Below V0.heap.size V0 ((V.setCell ⟨g9, 0, none⟩ (.slice ao1 r co1)).setCell ⟨g9, 1, none⟩ (.slice (some ⟨gq, 1, none⟩) nQ cq))) := (HB.out.setCell HP.out.2 _).setCell HP.out.2 _
        have hS2 := HCD.out _ HB2.out
        have hne : g8 ≠ g9 := ty_ne HT.out.1 HP.out.1 (by decide)
        have HT2 : Hid (((V.setCell ⟨g9, 0, none⟩ (.slice ao1 r co1)).setCell ⟨g9, 1, none⟩ (.slice (some ⟨gq, 1, none⟩) nQ cq)).heap[g8]? = some (.cells #[.int .i64 (fl : Int), .int .i64 (dr : Int), .slice at1 nT ct1] 28 (0, 0)) ∧ V0.heap.size ≤ g8) := ⟨by rw [heap_setCell_other _ _ _ _ hne, heap_setCell_other _ _ _ _ hne]; exact HT.out.1, HT.out.2⟩
        have HP2 : Hid (((V.setCell ⟨g9, 0, none⟩ (.slice ao1 r co1)).setCell ⟨g9, 1, none⟩ (.slice (some ⟨gq, 1, none⟩) nQ cq)).heap[g9]? = some (.cells #[.slice ao1 r co1, .slice (some ⟨gq, 1, none⟩) nQ cq] 32 (0, 0)) ∧ V0.heap.size ≤ g9) := ⟨Tr.put2A HP.out.1, HP.out.2⟩
        have HRT2 : Hid (((V.setCell ⟨g9, 0, none⟩ (.slice ao1 r co1)).setCell ⟨g9, 1, none⟩ (.slice (some ⟨gq, 1, none⟩) nQ cq)).ownsRow w.heap.size 44 5 (.slice at1 nT ct1) nT (ndsC T)) := owns_put2 HP.out.1 (by decide) HRT.out _ _
        have HRP2 : Hid (((V.setCell ⟨g9, 0, none⟩ (.slice ao1 r co1)).setCell ⟨g9, 1, none⟩ (.slice (some ⟨gq, 1, none⟩) nQ cq)).ownsRow w.heap.size 46 4 (.slice ao1 r co1) r (obsC O) ∧ ((V.setCell ⟨g9, 0, none⟩ (.slice ao1 r co1)).setCell ⟨g9, 1, none⟩ (.slice (some ⟨gq, 1, none⟩) nQ cq)).ownsRow w.heap.size 3 1 (.slice (some ⟨gq, 0, none⟩) r1 capq) r1 (zsC LQ)) := ⟨owns_put2 HP.out.1 (by decide) HRP.out.1 _ _, owns_put2 HP.out.1 (by decide) HRP.out.2 _ _⟩
        refine hK.out _ _ hS2 (fun _ => ?_)
        clear hK K hS q0 q1 f5 hne HT HP HB HRT HRP
        (try simp only [Act.put])
        revert HB2 hS2 HT2 HP2 HRT2 HRP2
        generalize ((V.setCell ⟨g9, 0, none⟩ (.slice ao1 r co1)).setCell ⟨g9, 1, none⟩ (.slice (some ⟨gq, 1, none⟩) nQ cq)) = V2
        intro HB hS HT HP HRT HRP
        revert HB hS HT HP HRT HRP
        generalize V2 = V
        intro HB hS HT HP HRT HRP
        refine wpAnyH_done (by kernel_rfl) ?_ _
        go_wp2_with fail
        go_meet
        exact ⟨g8, g9, at1, ct1, ao1, co1, gq, capq, cq, rfl, rfl, HCQ.out, ⟨HT.out.1, HP.out.1, HT.out.2, HP.out.2⟩, HRT.out, HRP.out, HB.out⟩
    · go_simp
      have hbA : Below V.heap.size V (V.alloc (.cells #[.slice none 0 0, .slice none 0 0] 32)) := (Below.refl _ _).alloc (Nat.le_refl _) _
      have HB2 : Hid (Below V0.heap.size V0 (V.alloc (.cells #[.slice none 0 0, .slice none 0 0] 32))) := below_on hbA HB.out
      have hS2 := HCD.out _ HB2.out
      have HP2 : Hid ((V.alloc (.cells #[.slice none 0 0, .slice none 0 0] 32)).heap[V.heap.size]? = some (.cells #[.slice none 0 0, .slice none 0 0] 32 (0, 0)) ∧ V0.heap.size ≤ V.heap.size) := ⟨heap_new V _, HB.out.size⟩
      refine hK.out _ _ hS2 (fun _ => ?_)
      clear hK K hS HB hbA 
      (try simp only [Act.put, List.setIfInBounds_toArray, List.set_cons_zero, List.set_cons_succ])
      revert HB2 hS2 HP2
      generalize (V.alloc (.cells #[.slice none 0 0, .slice none 0 0] 32)) = V2
      generalize V.heap.size = g9
      intro HB hS HP
      revert HB hS HP
      generalize V2 = V
      intro HB hS HP
      refine wpAnyH_ready (rs := [2, 6]) (by kernel_rfl) (by simp) ?_
      refine AllReadyH.cons (o := { dst := some 27, op := .call { callee := .value (.func 26), args := #[.tmp 25, .tmp 26], argTypes := #[23, 9] }, type := _, pos := _, after := _, guard := none }) rfl (fun K hK => ?_) (AllReadyH.cons (o := { dst := some 8, op := .alloc 28, type := _, pos := _, after := _, guard := none }) rfl (fun K hK => ?_) AllReadyH.nil)
      · go_simp
        refine (KRT.out _ HB.out).mono ?_
        rintro e W2 ⟨at1, ct1, rfl, ho2, hbA⟩
        have HB2 : Hid (Below V0.heap.size V0 W2) := below_on hbA HB.out
        have hS2 := HCD.out _ HB2.out
        have HP2 : Hid (W2.heap[g9]? = some (.cells #[.slice none 0 0, .slice none 0 0] 32 (0, 0)) ∧ V0.heap.size ≤ g9) := ⟨(hbA.block _ (heap_lt HP.out.1)).trans HP.out.1, HP.out.2⟩
        have HRT2 : Hid (W2.ownsRow w.heap.size 44 5 (.slice at1 nT ct1) nT (ndsC T)) := owns_base ho2 (HW.out _ HB.out).size
        refine hK.out _ _ hS2 (fun _ => ?_)
        clear hK K hS HB hbA ho2 HP
        (try simp only [Act.put, List.setIfInBounds_toArray, List.set_cons_zero, List.set_cons_succ])
        revert HB2 hS2 HP2 HRT2
        generalize W2 = V
        intro HB hS HP HRT
        refine wpAnyH_ready (rs := [5, 6]) (by kernel_rfl) (by simp) ?_
        refine AllReadyH.cons (o := { dst := some 30, op := .call { callee := .value (.func 27), args := #[.tmp 28, .tmp 29], argTypes := #[23, 9] }, type := _, pos := _, after := _, guard := none }) rfl (fun K hK => ?_) (AllReadyH.cons (o := { dst := some 8, op := .alloc 28, type := _, pos := _, after := _, guard := none }) rfl (fun K hK => ?_) AllReadyH.nil)
        · go_simp
          refine (KRP.out _ HB.out).mono ?_
          rintro e W2 ⟨ao1, co1, gq, capq, cq, hcq, rfl, ho2, hq2, hbA⟩
          have HCQ : Hid (capq - 1 = cq) := hcq
          clear hcq
          have HB2 : Hid (Below V0.heap.size V0 W2) := below_on hbA HB.out
          have hS2 := HCD.out _ HB2.out
          have HP2 : Hid (W2.heap[g9]? = some (.cells #[.slice none 0 0, .slice none 0 0] 32 (0, 0)) ∧ V0.heap.size ≤ g9) := ⟨(hbA.block _ (heap_lt HP.out.1)).trans HP.out.1, HP.out.2⟩
          have HRT2 : Hid (W2.ownsRow w.heap.size 44 5 (.slice at1 nT ct1) nT (ndsC T)) := owns_below HRT.out hbA
          have HRP2 : Hid (W2.ownsRow w.heap.size 46 4 (.slice ao1 r co1) r (obsC O) ∧ W2.ownsRow w.heap.size 3 1 (.slice (some ⟨gq, 0, none⟩) r1 capq) r1 (zsC LQ)) := ⟨owns_base ho2 (HW.out _ HB.out).size, owns_base hq2 (HW.out _ HB.out).size⟩
          refine hK.out _ _ hS2 (fun _ => ?_)
          clear hK K hS HB hbA ho2 hq2 HP HRT
          (try simp only [Act.put, List.setIfInBounds_toArray, List.set_cons_zero, List.set_cons_succ])
          revert HB2 hS2 HP2 HRT2 HRP2
          generalize W2 = V
          intro HB hS HP HRT HRP
          refine wpAnyH_ready (rs := [6]) (by kernel_rfl) (by simp) ?_
          refine AllReadyH.cons (o := { dst := some 8, op := .alloc 28, type := _, pos := _, after := _, guard := none }) rfl (fun K hK => ?_) AllReadyH.nil
          go_simp
          have hbA : Below V.heap.size V (V.alloc (.cells #[.int .i64 0, .int .i64 0, .slice none 0 0] 28)) := (Below.refl _ _).alloc (Nat.le_refl _) _
          have HB2 : Hid (Below V0.heap.size V0 (V.alloc (.cells #[.int .i64 0, .int .i64 0, .slice none 0 0] 28))) := below_on hbA HB.out
          have hS2 := HCD.out _ HB2.out
          have HP2 : Hid ((V.alloc (.cells #[.int .i64 0, .int .i64 0, .slice none 0 0] 28)).heap[g9]? = some (.cells #[.slice none 0 0, .slice none 0 0] 32 (0, 0)) ∧ V0.heap.size ≤ g9) := ⟨(hbA.block _ (heap_lt HP.out.1)).trans HP.out.1, HP.out.2⟩
          have HRT2 : Hid ((V.alloc (.cells #[.int .i64 0, .int .i64 0, .slice none 0 0] 28)).ownsRow w.heap.size 44 5 (.slice at1 nT ct1) nT (ndsC T)) := owns_below HRT.out hbA
          have HRP2 : Hid ((V.alloc (.cells #[.int .i64 0, .int .i64 0, .slice none 0 0] 28)).ownsRow w.heap.size 46 4 (.slice ao1 r co1) r (obsC O) ∧ (V.alloc (.cells #[.int .i64 0, .int .i64 0, .slice none 0 0] 28)).ownsRow w.heap.size 3 1 (.slice (some ⟨gq, 0, none⟩) r1 capq) r1 (zsC LQ)) := ⟨owns_below HRP.out.1 hbA, owns_below HRP.out.2 hbA⟩
          have HT2 : Hid ((V.alloc (.cells #[.int .i64 0, .int .i64 0, .slice none 0 0] 28)).heap[V.heap.size]? = some (.cells #[.int .i64 0, .int .i64 0, .slice none 0 0] 28 (0, 0)) ∧ V0.heap.size ≤ V.heap.size) := ⟨heap_new V _, HB.out.size⟩
          refine hK.out _ _ hS2 (fun _ => ?_)
          clear hK K hS HB hbA HP HRT HRP
          (try simp only [Act.put, List.setIfInBounds_toArray, List.set_cons_zero, List.set_cons_succ])
          revert HB2 hS2 HP2 HRT2 HRP2 HT2
          generalize (V.alloc (.cells #[.int .i64 0, .int .i64 0, .slice none 0 0] 28)) = V2
          generalize V.heap.size = g8
          intro HB hS HP HRT HRP HT
          revert HB hS HP HRT HRP HT
          generalize V2 = V
          intro HB hS HP HRT HRP HT
          refine wpAnyH_ready (rs := [8]) (by kernel_rfl) (by simp) ?_
          refine AllReadyH.cons (o := { dst := none, op := .store 28 (.tmp 8) (.tmp 27), type := _, pos := _, after := _, guard := none }) rfl (fun K hK => ?_) AllReadyH.nil
          obtain ⟨q0, q1, q2⟩ := cells3 HT.out.1
          have f5 : ∀ j, V.frozen? ⟨g8, j, none⟩ = false := fun j => frozen_of_heap HT.out.1
          go_simp
          have HB2 : Hid (Below V0.heap.size V0 (((V.setCell ⟨g8, 0, none⟩ (.int .i64 (fl : Int))).setCell ⟨g8, 1, none⟩ (.int .i64 (dr : Int))).setCell ⟨g8, 2, none⟩ (.slice at1 nT ct1))) := ((HB.out.setCell HT.out.2 _).setCell HT.out.2 _).setCell HT.out.2 _
          have hS2 := HCD.out _ HB2.out
          have HT2 : Hid ((((V.setCell ⟨g8, 0, none⟩ (.int .i64 (fl : Int))).setCell ⟨g8, 1, none⟩ (.int .i64 (dr : Int))).setCell ⟨g8, 2, none⟩ (.slice at1 nT ct1)).heap[g8]? = some (.cells #[.int .i64 (fl : Int), .int .i64 (dr : Int), .slice at1 nT ct1] 28 (0, 0)) ∧ V0.heap.size ≤ g8) := ⟨Tr.put3A HT.out.1, HT.out.2⟩
          have hne : g9 ≠ g8 := ty_ne HP.out.1 HT.out.1 (by decide)
          have HP2 : Hid ((((V.setCell ⟨g8, 0, none⟩ (.int .i64 (fl : Int))).setCell ⟨g8, 1, none⟩ (.int .i64 (dr : Int))).setCell ⟨g8, 2, none⟩ (.slice at1 nT ct1)).heap[g9]? = some (.cells #[.slice none 0 0, .slice none 0 0] 32 (0, 0)) ∧ V0.heap.size ≤ g9) := ⟨by rw [heap_setCell_other _ _ _ _ hne, heap_setCell_other _ _ _ _ hne, heap_setCell_other _ _ _ _ hne]; exact HP.out.1, HP.out.2⟩
          have HRT2 : Hid ((((V.setCell ⟨g8, 0, none⟩ (.int .i64 (fl : Int))).setCell ⟨g8, 1, none⟩ (.int .i64 (dr : Int))).setCell ⟨g8, 2, none⟩ (.slice at1 nT ct1)).ownsRow w.heap.size 44 5 (.slice at1 nT ct1) nT (ndsC T)) := owns_put3 HT.out.1 (by decide) HRT.out _ _ _
          have HRP2 : Hid ((((V.setCell ⟨g8, 0, none⟩ (.int .i64 (fl : Int))).setCell ⟨g8, 1, none⟩ (.int .i64 (dr : Int))).setCell ⟨g8, 2, none⟩ (.slice at1 nT ct1)).ownsRow w.heap.size 46 4 (.slice ao1 r co1) r (obsC O) ∧ (((V.setCell ⟨g8, 0, none⟩ (.int .i64 (fl : Int))).setCell ⟨g8, 1, none⟩ (.int .i64 (dr : Int))).setCell ⟨g8, 2, none⟩ (.slice at1 nT ct1)).ownsRow w.heap.size 3 1 (.slice (some ⟨gq, 0, none⟩) r1 capq) r1 (zsC LQ)) := ⟨owns_put3 HT.out.1 (by decide) HRP.out.1 _ _ _, owns_put3 HT.out.1 (by decide) HRP.out.2 _ _ _⟩
          refine hK.out _ _ hS2 (fun _ => ?_)
          clear hK K hS q0 q1 q2 f5 hne HT HP HB HRT HRP
          (try simp only [Act.put])
          revert HB2 hS2 HT2 HP2 HRT2 HRP2
          generalize (((V.setCell ⟨g8, 0, none⟩ (.int .i64 (fl : Int))).setCell ⟨g8, 1, none⟩ (.int .i64 (dr : Int))).setCell ⟨g8, 2, none⟩ (.slice at1 nT ct1)) = V2
          intro HB hS HT HP HRT HRP
          revert HB hS HT HP HRT HRP
          generalize V2 = V
          intro HB hS HT HP HRT HRP
          refine wpAnyH_ready (rs := [9]) (by kernel_rfl) (by simp) ?_
          refine AllReadyH.cons (o := { dst := none, op := .store 32 (.tmp 9) (.tmp 30), type := _, pos := _, after := _, guard := none }) rfl (fun K hK => ?_) AllReadyH.nil
          obtain ⟨q0, q1⟩ := cells2 HP.out.1
          have f5 : ∀ j, V.frozen? ⟨g9, j, none⟩ = false := fun j => frozen_of_heap HP.out.1
          go_simp
          have HB2 : Hid (Below V0.heap.size V0 ((V.setCell ⟨g9, 0, none⟩ (.slice ao1 r co1)).setCell ⟨g9, 1, none⟩ (.slice (some ⟨gq, 1, none⟩) nQ cq))) := (HB.out.setCell HP.out.2 _).setCell HP.out.2 _
          have hS2 := HCD.out _ HB2.out
          have hne : g8 ≠ g9 := ty_ne HT.out.1 HP.out.1 (by decide)
          have HT2 : Hid (((V.setCell ⟨g9, 0, none⟩ (.slice ao1 r co1)).setCell ⟨g9, 1, none⟩ (.slice (some ⟨gq, 1, none⟩) nQ cq)).heap[g8]? = some (.cells #[.int .i64 (fl : Int), .int .i64 (dr : Int), .slice at1 nT ct1] 28 (0, 0)) ∧ V0.heap.size ≤ g8) := ⟨by rw [heap_setCell_other _ _ _ _ hne, heap_setCell_other _ _ _ _ hne]; exact HT.out.1, HT.out.2⟩
          have HP2 : Hid (((V.setCell ⟨g9, 0, none⟩ (.slice ao1 r co1)).setCell ⟨g9, 1, none⟩ (.slice (some ⟨gq, 1, none⟩) nQ cq)).heap[g9]? = some (.cells #[.slice ao1 r co1, .slice (some ⟨gq, 1, none⟩) nQ cq] 32 (0, 0)) ∧ V0.heap.size ≤ g9) := ⟨Tr.put2A HP.out.1, HP.out.2⟩
          have HRT2 : Hid (((V.setCell ⟨g9, 0, none⟩ (.slice ao1 r co1)).setCell ⟨g9, 1, none⟩ (.slice (some ⟨gq, 1, none⟩) nQ cq)).ownsRow w.heap.size 44 5 (.slice at1 nT ct1) nT (ndsC T)) := owns_put2 HP.out.1 (by decide) HRT.out _ _
          have HRP2 : Hid (((V.setCell ⟨g9, 0, none⟩ (.slice ao1 r co1)).setCell ⟨g9, 1, none⟩ (.slice (some ⟨gq, 1, none⟩) nQ cq)).ownsRow w.heap.size 46 4 (.slice ao1 r co1) r (obsC O) ∧ ((V.setCell ⟨g9, 0, none⟩ (.slice ao1 r co1)).setCell ⟨g9, 1, none⟩ (.slice (some ⟨gq, 1, none⟩) nQ cq)).ownsRow w.heap.size 3 1 (.slice (some ⟨gq, 0, none⟩) r1 capq) r1 (zsC LQ)) := ⟨owns_put2 HP.out.1 (by decide) HRP.out.1 _ _, owns_put2 HP.out.1 (by decide) HRP.out.2 _ _⟩
          refine hK.out _ _ hS2 (fun _ => ?_)
          clear hK K hS q0 q1 f5 hne HT HP HB HRT HRP
          (try simp only [Act.put])
          revert HB2 hS2 HT2 HP2 HRT2 HRP2
          generalize ((V.setCell ⟨g9, 0, none⟩ (.slice ao1 r co1)).setCell ⟨g9, 1, none⟩ (.slice (some ⟨gq, 1, none⟩) nQ cq)) = V2
          intro HB hS HT HP HRT HRP
          revert HB hS HT HP HRT HRP
          generalize V2 = V
          intro HB hS HT HP HRT HRP
          refine wpAnyH_done (by kernel_rfl) ?_ _
          go_wp2_with fail
          go_meet
          exact ⟨g8, g9, at1, ct1, ao1, co1, gq, capq, cq, rfl, rfl, HCQ.out, ⟨HT.out.1, HP.out.1, HT.out.2, HP.out.2⟩, HRT.out, HRP.out, HB.out⟩
        · go_simp
          have hbA : Below V.heap.size V (V.alloc (.cells #[.int .i64 0, .int .i64 0, .slice none 0 0] 28)) := (Below.refl _ _).alloc (Nat.le_refl _) _
          have HB2 : Hid (Below V0.heap.size V0 (V.alloc (.cells #[.int .i64 0, .int .i64 0, .slice none 0 0] 28))) := below_on hbA HB.out
          have hS2 := HCD.out _ HB2.out
          have HP2 : Hid ((V.alloc (.cells #[.int .i64 0, .int .i64 0, .slice none 0 0] 28)).heap[g9]? = some (.cells #[.slice none 0 0, .slice none 0 0] 32 (0, 0)) ∧ V0.heap.size ≤ g9) := ⟨(hbA.block _ (heap_lt HP.out.1)).trans HP.out.1, HP.out.2⟩
          have HRT2 : Hid ((V.alloc (.cells #[.int .i64 0, .int .i64 0, .slice none 0 0] 28)).ownsRow w.heap.size 44 5 (.slice at1 nT ct1) nT (ndsC T)) := owns_below HRT.out hbA
          have HT2 : Hid ((V.alloc (.cells #[.int .i64 0, .int .i64 0, .slice none 0 0] 28)).heap[V.heap.size]? = some (.cells #[.int .i64 0, .int .i64 0, .slice none 0 0] 28 (0, 0)) ∧ V0.heap.size ≤ V.heap.size) := ⟨heap_new V _, HB.out.size⟩
          refine hK.out _ _ hS2 (fun _ => ?_)
          clear hK K hS HB hbA HP HRT
          (try simp only [Act.put, List.setIfInBounds_toArray, List.set_cons_zero, List.set_cons_succ])
          revert HB2 hS2 HP2 HRT2 HT2
          generalize (V.alloc (.cells #[.int .i64 0, .int .i64 0, .slice none 0 0] 28)) = V2
          generalize V.heap.size = g8
          intro HB hS HP HRT HT
          revert HB hS HP HRT HT
          generalize V2 = V
          intro HB hS HP HRT HT
          refine wpAnyH_ready (rs := [5]) (by kernel_rfl) (by simp) ?_
          refine AllReadyH.cons (o := { dst := some 30, op := .call { callee := .value (.func 27), args := #[.tmp 28, .tmp 29], argTypes := #[23, 9] }, type := _, pos := _, after := _, guard := none }) rfl (fun K hK => ?_) AllReadyH.nil
          go_simp
          refine (KRP.out _ HB.out).mono ?_
          rintro e W2 ⟨ao1, co1, gq, capq, cq, hcq, rfl, ho2, hq2, hbA⟩
          have HCQ : Hid (capq - 1 = cq) := hcq
          clear hcq
          have HB2 : Hid (Below V0.heap.size V0 W2) := below_on hbA HB.out
          have hS2 := HCD.out _ HB2.out
          have HT2 : Hid (W2.heap[g8]? = some (.cells #[.int .i64 0, .int .i64 0, .slice none 0 0] 28 (0, 0)) ∧ V0.heap.size ≤ g8) := ⟨(hbA.block _ (heap_lt HT.out.1)).trans HT.out.1, HT.out.2⟩
          have HP2 : Hid (W2.heap[g9]? = some (.cells #[.slice none 0 0, .slice none 0 0] 32 (0, 0)) ∧ V0.heap.size ≤ g9) := ⟨(hbA.block _ (heap_lt HP.out.1)).trans HP.out.1, HP.out.2⟩
          have HRT2 : Hid (W2.ownsRow w.heap.size 44 5 (.slice at1 nT ct1) nT (ndsC T)) := owns_below HRT.out hbA
          have HRP2 : Hid (W2.ownsRow w.heap.size 46 4 (.slice ao1 r co1) r (obsC O) ∧ W2.ownsRow w.heap.size 3 1 (.slice (some ⟨gq, 0, none⟩) r1 capq) r1 (zsC LQ)) := ⟨owns_base ho2 (HW.out _ HB.out).size, owns_base hq2 (HW.out _ HB.out).size⟩
          refine hK.out _ _ hS2 (fun _ => ?_)
          clear hK K hS HB hbA ho2 hq2 HT HP HRT
          (try simp only [Act.put, List.setIfInBounds_toArray, List.set_cons_zero, List.set_cons_succ])
          revert HB2 hS2 HT2 HP2 HRT2 HRP2
          generalize W2 = V
          intro HB hS HT HP HRT HRP
          refine wpAnyH_ready (rs := [8]) (by kernel_rfl) (by simp) ?_
          refine AllReadyH.cons (o := { dst := none, op := .store 28 (.tmp 8) (.tmp 27), type := _, pos := _, after := _, guard := none }) rfl (fun K hK => ?_) AllReadyH.nil
          obtain ⟨q0, q1, q2⟩ := cells3 HT.out.1
          have f5 : ∀ j, V.frozen? ⟨g8, j, none⟩ = false := fun j => frozen_of_heap HT.out.1
          go_simp
          have HB2 : Hid (Below V0.heap.size V0 (((V.setCell ⟨g8, 0, none⟩ (.int .i64 (fl : Int))).setCell ⟨g8, 1, none⟩ (.int .i64 (dr : Int))).setCell ⟨g8, 2, none⟩ (.slice at1 nT ct1))) := ((HB.out.setCell HT.out.2 _).setCell HT.out.2 _).setCell HT.out.2 _
          have hS2 := HCD.out _ HB2.out
          have HT2 : Hid ((((V.setCell ⟨g8, 0, none⟩ (.int .i64 (fl : Int))).setCell ⟨g8, 1, none⟩ (.int .i64 (dr : Int))).setCell ⟨g8, 2, none⟩ (.slice at1 nT ct1)).heap[g8]? = some (.cells #[.int .i64 (fl : Int), .int .i64 (dr : Int), .slice at1 nT ct1] 28 (0, 0)) ∧ V0.heap.size ≤ g8) := ⟨Tr.put3A HT.out.1, HT.out.2⟩
          have hne : g9 ≠ g8 := ty_ne HP.out.1 HT.out.1 (by decide)
          have HP2 : Hid ((((V.setCell ⟨g8, 0, none⟩ (.int .i64 (fl : Int))).setCell ⟨g8, 1, none⟩ (.int .i64 (dr : Int))).setCell ⟨g8, 2, none⟩ (.slice at1 nT ct1)).heap[g9]? = some (.cells #[.slice none 0 0, .slice none 0 0] 32 (0, 0)) ∧ V0.heap.size ≤ g9) := ⟨by rw [heap_setCell_other _ _ _ _ hne, heap_setCell_other _ _ _ _ hne, heap_setCell_other _ _ _ _ hne]; exact HP.out.1, HP.out.2⟩
          have HRT2 : Hid ((((V.setCell ⟨g8, 0, none⟩ (.int .i64 (fl : Int))).setCell ⟨g8, 1, none⟩ (.int .i64 (dr : Int))).setCell ⟨g8, 2, none⟩ (.slice at1 nT ct1)).ownsRow w.heap.size 44 5 (.slice at1 nT ct1) nT (ndsC T)) := owns_put3 HT.out.1 (by decide) HRT.out _ _ _
          have HRP2 : Hid ((((V.setCell ⟨g8, 0, none⟩ (.int .i64 (fl : Int))).setCell ⟨g8, 1, none⟩ (.int .i64 (dr : Int))).setCell ⟨g8, 2, none⟩ (.slice at1 nT ct1)).ownsRow w.heap.size 46 4 (.slice ao1 r co1) r (obsC O) ∧ (((V.setCell ⟨g8, 0, none⟩ (.int .i64 (fl : Int))).setCell ⟨g8, 1, none⟩ (.int .i64 (dr : Int))).setCell ⟨g8, 2, none⟩ (.slice at1 nT ct1)).ownsRow w.heap.size 3 1 (.slice (some ⟨gq, 0, none⟩) r1 capq) r1 (zsC LQ)) := ⟨owns_put3 HT.out.1 (by decide) HRP.out.1 _ _ _, owns_put3 HT.out.1 (by decide) HRP.out.2 _ _ _⟩
          refine hK.out _ _ hS2 (fun _ => ?_)
          clear hK K hS q0 q1 q2 f5 hne HT HP HB HRT HRP
          (try simp only [Act.put])
          revert HB2 hS2 HT2 HP2 HRT2 HRP2
          generalize (((V.setCell ⟨g8, 0, none⟩ (.int .i64 (fl : Int))).setCell ⟨g8, 1, none⟩ (.int .i64 (dr : Int))).setCell ⟨g8, 2, none⟩ (.slice at1 nT ct1)) = V2
          intro HB hS HT HP HRT HRP
          revert HB hS HT HP HRT HRP
          generalize V2 = V
          intro HB hS HT HP HRT HRP
          refine wpAnyH_ready (rs := [9]) (by kernel_rfl) (by simp) ?_
          refine AllReadyH.cons (o := { dst := none, op := .store 32 (.tmp 9) (.tmp 30), type := _, pos := _, after := _, guard := none }) rfl (fun K hK => ?_) AllReadyH.nil
          obtain ⟨q0, q1⟩ := cells2 HP.out.1
          have f5 : ∀ j, V.frozen? ⟨g9, j, none⟩ = false := fun j => frozen_of_heap HP.out.1
          go_simp
          have HB2 : Hid (Below V0.heap.size V0 ((V.setCell ⟨g9, 0, none⟩ (.slice ao1 r co1)).setCell ⟨g9, 1, none⟩ (.slice (some ⟨gq, 1, none⟩) nQ cq))) := (HB.out.setCell HP.out.2 _).setCell HP.out.2 _
          have hS2 := HCD.out _ HB2.out
          have hne : g8 ≠ g9 := ty_ne HT.out.1 HP.out.1 (by decide)
          have HT2 : Hid (((V.setCell ⟨g9, 0, none⟩ (.slice ao1 r co1)).setCell ⟨g9, 1, none⟩ (.slice (some ⟨gq, 1, none⟩) nQ cq)).heap[g8]? = some (.cells #[.int .i64 (fl : Int), .int .i64 (dr : Int), .slice at1 nT ct1] 28 (0, 0)) ∧ V0.heap.size ≤ g8) := ⟨by rw [heap_setCell_other _ _ _ _ hne, heap_setCell_other _ _ _ _ hne]; exact HT.out.1, HT.out.2⟩
          have HP2 : Hid (((V.setCell ⟨g9, 0, none⟩ (.slice ao1 r co1)).setCell ⟨g9, 1, none⟩ (.slice (some ⟨gq, 1, none⟩) nQ cq)).heap[g9]? = some (.cells #[.slice ao1 r co1, .slice (some ⟨gq, 1, none⟩) nQ cq] 32 (0, 0)) ∧ V0.heap.size ≤ g9) := ⟨Tr.put2A HP.out.1, HP.out.2⟩
          have HRT2 : Hid (((V.setCell ⟨g9, 0, none⟩ (.slice ao1 r co1)).setCell ⟨g9, 1, none⟩ (.slice (some ⟨gq, 1, none⟩) nQ cq)).ownsRow w.heap.size 44 5 (.slice at1 nT ct1) nT (ndsC T)) := owns_put2 HP.out.1 (by decide) HRT.out _ _
          have HRP2 : Hid (((V.setCell ⟨g9, 0, none⟩ (.slice ao1 r co1)).setCell ⟨g9, 1, none⟩ (.slice (some ⟨gq, 1, none⟩) nQ cq)).ownsRow w.heap.size 46 4 (.slice ao1 r co1) r (obsC O) ∧ ((V.setCell ⟨g9, 0, none⟩ (.slice ao1 r co1)).setCell ⟨g9, 1, none⟩ (.slice (some ⟨gq, 1, none⟩) nQ cq)).ownsRow w.heap.size 3 1 (.slice (some ⟨gq, 0, none⟩) r1 capq) r1 (zsC LQ)) := ⟨owns_put2 HP.out.1 (by decide) HRP.out.1 _ _, owns_put2 HP.out.1 (by decide) HRP.out.2 _ _⟩
          refine hK.out _ _ hS2 (fun _ => ?_)
          clear hK K hS q0 q1 f5 hne HT HP HB HRT HRP
          (try simp only [Act.put])
          revert HB2 hS2 HT2 HP2 HRT2 HRP2
          generalize ((V.setCell ⟨g9, 0, none⟩ (.slice ao1 r co1)).setCell ⟨g9, 1, none⟩ (.slice (some ⟨gq, 1, none⟩) nQ cq)) = V2
          intro HB hS HT HP HRT HRP
          revert HB hS HT HP HRT HRP
          generalize V2 = V
          intro HB hS HT HP HRT HRP
          refine wpAnyH_done (by kernel_rfl) ?_ _
          go_wp2_with fail
          go_meet
          exact ⟨g8, g9, at1, ct1, ao1, co1, gq, capq, cq, rfl, rfl, HCQ.out, ⟨HT.out.1, HP.out.1, HT.out.2, HP.out.2⟩, HRT.out, HRP.out, HB.out⟩
      · go_simp
        have hbA : Below V.heap.size V (V.alloc (.cells #[.int .i64 0, .int .i64 0, .slice none 0 0] 28)) := (Below.refl _ _).alloc (Nat.le_refl _) _
        have HB2 : Hid (Below V0.heap.size V0 (V.alloc (.cells #[.int .i64 0, .int .i64 0, .slice none 0 0] 28))) := below_on hbA HB.out
        have hS2 := HCD.out _ HB2.out
        have HP2 : Hid ((V.alloc (.cells #[.int .i64 0, .int .i64 0, .slice none 0 0] 28)).heap[g9]? = some (.cells #[.slice none 0 0, .slice none 0 0] 32 (0, 0)) ∧ V0.heap.size ≤ g9) := ⟨(hbA.block _ (heap_lt HP.out.1)).trans HP.out.1, HP.out.2⟩
        have HT2 : Hid ((V.alloc (.cells #[.int .i64 0, .int .i64 0, .slice none 0 0] 28)).heap[V.heap.size]? = some (.cells #[.int .i64 0, .int .i64 0, .slice none 0 0] 28 (0, 0)) ∧ V0.heap.size ≤ V.heap.size) := ⟨heap_new V _, HB.out.size⟩
        refine hK.out _ _ hS2 (fun _ => ?_)
        clear hK K hS HB hbA HP
        (try simp only [Act.put, List.setIfInBounds_toArray, List.set_cons_zero, List.set_cons_succ])
        revert HB2 hS2 HP2 HT2
        generalize (V.alloc (.cells #[.int .i64 0, .int .i64 0, .slice none 0 0] 28)) = V2
        generalize V.heap.size = g8
        intro HB hS HP HT
        revert HB hS HP HT
        generalize V2 = V
        intro HB hS HP HT
        refine wpAnyH_ready (rs := [2]) (by kernel_rfl) (by simp) ?_
        refine AllReadyH.cons (o := { dst := some 27, op := .call { callee := .value (.func 26), args := #[.tmp 25, .tmp 26], argTypes := #[23, 9] }, type := _, pos := _, after := _, guard := none }) rfl (fun K hK => ?_) AllReadyH.nil
        go_simp
        refine (KRT.out _ HB.out).mono ?_
        rintro e W2 ⟨at1, ct1, rfl, ho2, hbA⟩
        have HB2 : Hid (Below V0.heap.size V0 W2) := below_on hbA HB.out
        have hS2 := HCD.out _ HB2.out
        have HT2 : Hid (W2.heap[g8]? = some (.cells #[.int .i64 0, .int .i64 0, .slice none 0 0] 28 (0, 0)) ∧ V0.heap.size ≤ g8) := ⟨(hbA.block _ (heap_lt HT.out.1)).trans HT.out.1, HT.out.2⟩
        have HP2 : Hid (W2.heap[g9]? = some (.cells #[.slice none 0 0, .slice none 0 0] 32 (0, 0)) ∧ V0.heap.size ≤ g9) := ⟨(hbA.block _ (heap_lt HP.out.1)).trans HP.out.1, HP.out.2⟩
        have HRT2 : Hid (W2.ownsRow w.heap.size 44 5 (.slice at1 nT ct1) nT (ndsC T)) := owns_base ho2 (HW.out _ HB.out).size
        refine hK.out _ _ hS2 (fun _ => ?_)
        clear hK K hS HB hbA ho2 HT HP
        (try simp only [Act.put, List.setIfInBounds_toArray, List.set_cons_zero, List.set_cons_succ])
        revert HB2 hS2 HT2 HP2 HRT2
        generalize W2 = V
        intro HB hS HT HP HRT
        refine wpAnyH_ready (rs := [5]) (by kernel_rfl) (by simp) ?_
        refine AllReadyH.cons (o := { dst := some 30, op := .call { callee := .value (.func 27), args := #[.tmp 28, .tmp 29], argTypes := #[23, 9] }, type := _, pos := _, after := _, guard := none }) rfl (fun K hK => ?_) AllReadyH.nil
        go_simp
        refine (KRP.out _ HB.out).mono ?_
        rintro e W2 ⟨ao1, co1, gq, capq, cq, hcq, rfl, ho2, hq2, hbA⟩
        have HCQ : Hid (capq - 1 = cq) := hcq
        clear hcq
        have HB2 : Hid (Below V0.heap.size V0 W2) := below_on hbA HB.out
        have hS2 := HCD.out _ HB2.out
        have HT2 : Hid (W2.heap[g8]? = some (.cells #[.int .i64 0, .int .i64 0, .slice none 0 0] 28 (0, 0)) ∧ V0.heap.size ≤ g8) := ⟨(hbA.block _ (heap_lt HT.out.1)).trans HT.out.1, HT.out.2⟩
        have HP2 : Hid (W2.heap[g9]? = some (.cells #[.slice none 0 0, .slice none 0 0] 32 (0, 0)) ∧ V0.heap.size ≤ g9) := ⟨(hbA.block _ (heap_lt HP.out.1)).trans HP.out.1, HP.out.2⟩
        have HRT2 : Hid (W2.ownsRow w.heap.size 44 5 (.slice at1 nT ct1) nT (ndsC T)) := owns_below HRT.out hbA
        have HRP2 : Hid (W2.ownsRow w.heap.size 46 4 (.slice ao1 r co1) r (obsC O) ∧ W2.ownsRow w.heap.size 3 1 (.slice (some ⟨gq, 0, none⟩) r1 capq) r1 (zsC LQ)) := ⟨owns_base ho2 (HW.out _ HB.out).size, owns_base hq2 (HW.out _ HB.out).size⟩
        refine hK.out _ _ hS2 (fun _ => ?_)
        clear hK K hS HB hbA ho2 hq2 HT HP HRT
        (try simp only [Act.put, List.setIfInBounds_toArray, List.set_cons_zero, List.set_cons_succ])
        revert HB2 hS2 HT2 HP2 HRT2 HRP2
        generalize W2 = V
        intro HB hS HT HP HRT HRP
        refine wpAnyH_ready (rs := [8]) (by kernel_rfl) (by simp) ?_
        refine AllReadyH.cons (o := { dst := none, op := .store 28 (.tmp 8) (.tmp 27), type := _, pos := _, after := _, guard := none }) rfl (fun K hK => ?_) AllReadyH.nil
        obtain ⟨q0, q1, q2⟩ := cells3 HT.out.1
        have f5 : ∀ j, V.frozen? ⟨g8, j, none⟩ = false := fun j => frozen_of_heap HT.out.1
        go_simp
        have HB2 : Hid (Below V0.heap.size V0 (((V.setCell ⟨g8, 0, none⟩ (.int .i64 (fl : Int))).setCell ⟨g8, 1, none⟩ (.int .i64 (dr : Int))).setCell ⟨g8, 2, none⟩ (.slice at1 nT ct1))) := ((HB.out.setCell HT.out.2 _).setCell HT.out.2 _).setCell HT.out.2 _
        have hS2 := HCD.out _ HB2.out
        have HT2 : Hid ((((V.setCell ⟨g8, 0, none⟩ (.int .i64 (fl : Int))).setCell ⟨g8, 1, none⟩ (.int .i64 (dr : Int))).setCell ⟨g8, 2, none⟩ (.slice at1 nT ct1)).heap[g8]? = some (.cells #[.int .i64 (fl : Int), .int .i64 (dr : Int), .slice at1 nT ct1] 28 (0, 0)) ∧ V0.heap.size ≤ g8) := ⟨Tr.put3A HT.out.1, HT.out.2⟩
        have hne : g9 ≠ g8 := ty_ne HP.out.1 HT.out.1 (by decide)
        have HP2 : Hid ((((V.setCell ⟨g8, 0, none⟩ (.int .i64 (fl : Int))).setCell ⟨g8, 1, none⟩ (.int .i64 (dr : Int))).setCell ⟨g8, 2, none⟩ (.slice at1 nT ct1)).heap[g9]? = some (.cells #[.slice none 0 0, .slice none 0 0] 32 (0, 0)) ∧ V0.heap.size ≤ g9) := ⟨by rw [heap_setCell_other _ _ _ _ hne, heap_setCell_other _ _ _ _ hne, heap_setCell_other _ _ _ _ hne]; exact HP.out.1, HP.out.2⟩
        have HRT2 : Hid ((((V.setCell ⟨g8, 0, none⟩ (.int .i64 (fl : Int))).setCell ⟨g8, 1, none⟩ (.int .i64 (dr : Int))).setCell ⟨g8, 2, none⟩ (.slice at1 nT ct1)).ownsRow w.heap.size 44 5 (.slice at1 nT ct1) nT (ndsC T)) := owns_put3 HT.out.1 (by decide) HRT.out _ _ _
        have HRP2 : Hid ((((V.setCell ⟨g8, 0, none⟩ (.int .i64 (fl : Int))).setCell ⟨g8, 1, none⟩ (.int .i64 (dr : Int))).setCell ⟨g8, 2, none⟩ (.slice at1 nT ct1)).ownsRow w.heap.size 46 4 (.slice ao1 r co1) r (obsC O) ∧ (((V.setCell ⟨g8, 0, none⟩ (.int .i64 (fl : Int))).setCell ⟨g8, 1, none⟩ (.int .i64 (dr : Int))).setCell ⟨g8, 2, none⟩ (.slice at1 nT ct1)).ownsRow w.heap.size 3 1 (.slice (some ⟨gq, 0, none⟩) r1 capq) r1 (zsC LQ)) := ⟨owns_put3 HT.out.1 (by decide) HRP.out.1 _ _ _, owns_put3 HT.out.1 (by decide) HRP.out.2 _ _ _⟩
        refine hK.out _ _ hS2 (fun _ => ?_)
        clear hK K hS q0 q1 q2 f5 hne HT HP HB HRT HRP
        (try simp only [Act.put])
        revert HB2 hS2 HT2 HP2 HRT2 HRP2
        generalize (((V.setCell ⟨g8, 0, none⟩ (.int .i64 (fl : Int))).setCell ⟨g8, 1, none⟩ (.int .i64 (dr : Int))).setCell ⟨g8, 2, none⟩ (.slice at1 nT ct1)) = V2
        intro HB hS HT HP HRT HRP
        revert HB hS HT HP HRT HRP
        generalize V2 = V
        intro HB hS HT HP HRT HRP
        refine wpAnyH_ready (rs := [9]) (by kernel_rfl) (by simp) ?_
        refine AllReadyH.cons (o := { dst := none, op := .store 32 (.tmp 9) (.tmp 30), type := _, pos := _, after := _, guard := none }) rfl (fun K hK => ?_) AllReadyH.nil
        obtain ⟨q0, q1⟩ := cells2 HP.out.1
        have f5 : ∀ j, V.frozen? ⟨g9, j, none⟩ = false := fun j => frozen_of_heap HP.out.1
        go_simp
        have HB2 : Hid (Below V0.heap.size V0 ((V.setCell ⟨g9, 0, none⟩ (.slice ao1 r co1)).setCell ⟨g9, 1, none⟩ (.slice (some ⟨gq, 1, none⟩) nQ cq))) := (HB.out.setCell HP.out.2 _).setCell HP.out.2 _
        have hS2 := HCD.out _ HB2.out
        have hne : g8 ≠ g9 := ty_ne HT.out.1 HP.out.1 (by decide)
        have HT2 : Hid (((V.setCell ⟨g9, 0, none⟩ (.slice ao1 r co1)).setCell ⟨g9, 1, none⟩ (.slice (some ⟨gq, 1, none⟩) nQ cq)).heap[g8]? = some (.cells #[.int .i64 (fl : Int), .int .i64 (dr : Int), .slice at1 nT ct1] 28 (0, 0)) ∧ V0.heap.size ≤ g8) := ⟨by rw [heap_setCell_other _ _ _ _ hne, heap_setCell_other _ _ _ _ hne]; exact HT.out.1, HT.out.2⟩
        have HP2 : Hid (((V.setCell ⟨g9, 0, none⟩ (.slice ao1 r co1)).setCell ⟨g9, 1, none⟩ (.slice (some ⟨gq, 1, none⟩) nQ cq)).heap[g9]? = some (.cells #[.slice ao1 r co1, .slice (some ⟨gq, 1, none⟩) nQ cq] 32 (0, 0)) ∧ V0.heap.size ≤ g9) := ⟨Tr.put2A HP.out.1, HP.out.2⟩
        have HRT2 : Hid (((V.setCell ⟨g9, 0, none⟩ (.slice ao1 r co1)).setCell ⟨g9, 1, none⟩ (.slice (some ⟨gq, 1, none⟩) nQ cq)).ownsRow w.heap.size 44 5 (.slice at1 nT ct1) nT (ndsC T)) := owns_put2 HP.out.1 (by decide) HRT.out _ _
        have HRP2 : Hid (((V.setCell ⟨g9, 0, none⟩ (.slice ao1 r co1)).setCell ⟨g9, 1, none⟩ (.slice (some ⟨gq, 1, none⟩) nQ cq)).ownsRow w.heap.size 46 4 (.slice ao1 r co1) r (obsC O) ∧ ((V.setCell ⟨g9, 0, none⟩ (.slice ao1 r co1)).setCell ⟨g9, 1, none⟩ (.slice (some ⟨gq, 1, none⟩) nQ cq)).ownsRow w.heap.size 3 1 (.slice (some ⟨gq, 0, none⟩) r1 capq) r1 (zsC LQ)) := ⟨owns_put2 HP.out.1 (by decide) HRP.out.1 _ _, owns_put2 HP.out.1 (by decide) HRP.out.2 _ _⟩
        refine hK.out _ _ hS2 (fun _ => ?_)
        clear hK K hS q0 q1 f5 hne HT HP HB HRT HRP
        (try simp only [Act.put])
        revert HB2 hS2 HT2 HP2 HRT2 HRP2
        generalize ((V.setCell ⟨g9, 0, none⟩ (.slice ao1 r co1)).setCell ⟨g9, 1, none⟩ (.slice (some ⟨gq, 1, none⟩) nQ cq)) = V2
        intro HB hS HT HP HRT HRP
        revert HB hS HT HP HRT HRP
        generalize V2 = V
        intro HB hS HT HP HRT HRP
        refine wpAnyH_done (by kernel_rfl) ?_ _
        go_wp2_with fail
        go_meet
        exact ⟨g8, g9, at1, ct1, ao1, co1, gq, capq, cq, rfl, rfl, HCQ.out, ⟨HT.out.1, HP.out.1, HT.out.2, HP.out.2⟩, HRT.out, HRP.out, HB.out⟩
  case rest =>
  obtain ⟨g8, g9, at1, ct1, ao1, co1, gq, capq, cq, rfl, rfl, HCQ, HG, HRT, HRP, HBc⟩ := hcut
  clear y0 y1 y2 y3 y4 y5 KRT KRP
  obtain ⟨y0, y1, y2, y3, y4, y5⟩ := HCD.out wc HBc.out
  obtain ⟨t0, t1, t2⟩ := cells3 HG.out.1
  obtain ⟨p0, p1⟩ := cells2 HG.out.2.1
  have hg8 : V0.heap.size ≤ g8 := HG.out.2.2.1
  have hg9 : V0.heap.size ≤ g9 := HG.out.2.2.2
  have hend : ∀ X, Below V0.heap.size V0 X → (X.cell? ⟨w.heap.size + 1, 0, none⟩ = some (.int .i64 0) ∧ X.cell? ⟨w.heap.size + 1, 1, none⟩ = some (.int .i64 0) ∧ X.cell? ⟨w.heap.size + 1, 2, none⟩ = some (.slice none 0 0) ∧ X.cell? ⟨w.heap.size + 1 + 1, 0, none⟩ = some (.slice none 0 0) ∧ X.cell? ⟨w.heap.size + 1 + 1, 1, none⟩ = some (.slice none 0 0) ∧ (∀ j, X.frozen? ⟨w.heap.size + 1, j, none⟩ = false) ∧ (∀ j, X.frozen? ⟨w.heap.size + 1 + 1, j, none⟩ = false) ∧ _) := fun X hX => zero5 (w := w) (HZ.out X hX).1 (HZ.out X hX).2 (HW.out X hX) (by omega) (.int .i64 0) (.int .i64 0) (.slice none 0 0) (.slice none 0 0) (.slice none 0 0)
  have HEND : Hid _ := hend
  clear hend
  rcases KE.out wc HBc.out at1 ct1 ao1 co1 gq capq cq HCQ.out HRT.out HRP.out.1 HRP.out.2 with KE1 | KE1
  · clear KE KQ
    go_wp2_with fail
    refine KE1.mono ?_
    rintro e w5 ⟨z, hz0, rfl, hb5⟩
    obtain ⟨c0, c1, c2, c3, c4, f1, f2, HE⟩ := HEND.out w5 (below_on hb5 HBc.out)
    clear KE1 hb5 HG HRT HRP y0 y1 y2 y3 y4 y5 t0 t1 t2 p0 p1 HEND
    go_wp2
    refine bodyPost_ret (Tr.results_cell2t rfl _ _ (w.heap.size + 1) 28 _ (0, 0) _ (w.heap.size + 1 + 1) 32 _ (0, 0) _ rfl HE.out.1 Tryd.underlying28 rfl size56 rfl HE.out.2.1 Tryd.underlying32 rfl size59) rfl ?_
    exact ⟨rfl, HE.out.2.2⟩
  · clear KE
    go_wp2_with fail
    refine KE1.mono ?_
    rintro e w5 ⟨a5, k5, P2, hne2, hl2, rfl, ho5, hb5⟩
    have HB5 : Hid (Below V0.heap.size V0 w5) := below_on hb5 HBc.out
    have KQ1 := KQ.out w5 HB5.out a5 k5 P2 hne2 hl2 (see_own ho5 (sc_one _))
    clear KE1 hb5 ho5 hne2 hl2 HG HRT HRP y0 y1 y2 y3 y4 y5 t0 t1 t2 p0 p1 KQ
    go_wp2_with fail
    refine KQ1.mono ?_
    rintro e w6 ⟨rfl, hb6⟩
    obtain ⟨c0, c1, c2, c3, c4, f1, f2, HE⟩ := HEND.out w6 (below_on hb6 HB5.out)
    clear KQ1 hb6 HEND
    go_wp2
    refine bodyPost_ret (Tr.results_cell2t rfl _ _ (w.heap.size + 1) 28 _ (0, 0) _ (w.heap.size + 1 + 1) 32 _ (0, 0) _ rfl HE.out.1 Tryd.underlying28 rfl size56 rfl HE.out.2.1 Tryd.underlying32 rfl size59) rfl ?_
    exact ⟨rfl, HE.out.2.2⟩
end Go.Proofs.YtbdgbefjmfcgcaaDoor.Ix
