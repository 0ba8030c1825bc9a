import Derived.Test.YtbdgbefjmfcgcaaDoorXeM
import Derived.Test.YtbdgbefjmfcgcaaDoorIxNb
import Derived.Test.YtbdgbefjmfcgcaaDoorShP
namespace Go.Proofs.YtbdgbefjmfcgcaaDoor.Ix
open Go.RowKit Go.Lib Go.Deep
section
variable {X : World} {B e sz n p : Nat} {T : TypeId} {v x0 x1 x2 : Value} {xs : List Value}
theorem owns_put3 (hT : X.heap[p]? = some (.cells #[x0, x1, x2] T (0, 0))) (he : e ≠ T) (ho : X.ownsRow B e sz v n xs) (y0 y1 y2 : Value) : (((X.setCell ⟨p, 0, none⟩ y0).setCell ⟨p, 1, none⟩ y1).setCell ⟨p, 2, none⟩ y2).ownsRow B e sz v n xs := by
  refine owns_keep ho fun g hgo => ?_
  obtain ⟨cur, hcur⟩ := owns_block ho hgo
  have hne : g ≠ p := ty_ne hcur hT he
  rw [heap_setCell_other _ _ _ _ hne, heap_setCell_other _ _ _ _ hne, heap_setCell_other _ _ _ _ hne]
theorem owns_put2 (hT : X.heap[p]? = some (.cells #[x0, x1] T (0, 0))) (he : e ≠ T) (ho : X.ownsRow B e sz v n xs) (y0 y1 : Value) : ((X.setCell ⟨p, 0, none⟩ y0).setCell ⟨p, 1, none⟩ y1).ownsRow B e sz v n xs := by
  refine owns_keep ho fun g hgo => ?_
  obtain ⟨cur, hcur⟩ := owns_block ho hgo
  have hne : g ≠ p := ty_ne hcur hT he
  rw [heap_setCell_other _ _ _ _ hne, heap_setCell_other _ _ _ _ hne]
end
set_option maxRecDepth 20000 in
set_option maxHeartbeats 1500000 in
theorem readTree_any (sl fl dr mf ls pg : Nat) (hc : Cn.In ⟨sl, fl, dr, mf, ls, pg⟩) (s : ByteArray) (hs : Cn.len ⟨sl, fl, dr, mf, ls, pg⟩ ≤ s.size) (hsz : s.size ≤ 1099511000000) (w : World) (hT : RT w) :
    Calls Tryd.prog 26 #[.agg #[.int .i64 (sl : Int), .int .i64 (fl : Int), .int .i64 (dr : Int), .int .i64 (mf : Int), .int .i64 (ls : Int), .int .i64 (pg : Int)], .string s] w fun e w' => ∃ a c, e = .returned (.agg #[.int .i64 (fl : Int), .int .i64 (dr : Int), .slice a (rdT ⟨sl, fl, dr, mf, ls, pg⟩ s.data.toList).length c]) ∧ w'.ownsRow w.heap.size 44 5 (.slice a (rdT ⟨sl, fl, dr, mf, ls, pg⟩ s.data.toList).length c) (rdT ⟨sl, fl, dr, mf, ls, pg⟩ s.data.toList).length (ndsC (rdT ⟨sl, fl, dr, mf, ls, pg⟩ s.data.toList)) ∧ Below w.heap.size w w' := by
  have hlim : dr ≤ 4096 ∧ fl ≤ 65536 := ⟨hc.2.2.2.2.1, hc.2.2.2.1⟩
  obtain ⟨D, hD⟩ : ∃ D, (rowsA s.data.toList 0 36 dr).map rdD = D := ⟨_, rfl⟩
  obtain ⟨F, hF⟩ : ∃ F, (rowsA s.data.toList (36 * dr) 40 fl).map rdF = F := ⟨_, rfl⟩
  have hDl : D.length = dr := by rw [← hD]; simp [rowsA]
  have hFl : F.length = fl := by rw [← hF]; simp [rowsA]
  have hT' : rdT ⟨sl, fl, dr, mf, ls, pg⟩ s.data.toList = numd 1 D ++ numd 0 F := by unfold rdT; rw [← hD, ← hF]
  rw [hT']
  have K1 := fun X hX => rr_dir sl fl dr mf ls pg hc s hs hsz X hX
  have K2 := fun X hX => rr_file sl fl dr mf ls pg hc s hs hsz X hX
  rw [hD] at K1
  rw [hF] at K2
  have n1 := numd_len 1 D
  have n2 := numd_len 0 F
  obtain ⟨N1, hN1⟩ : ∃ N1, numd 1 D = N1 := ⟨_, rfl⟩
  obtain ⟨N2, hN2⟩ : ∃ N2, numd 0 F = N2 := ⟨_, rfl⟩
  have KN1 : Hid (∀ X a k, See X 5 (.slice a dr k) dr (ndsC D) → Calls Tryd.prog 54 #[.slice a dr k, .int .i64 1] X fun e w' => ∃ v, e = .returned v ∧ w'.ownsRow X.heap.size 44 5 v N1.length (ndsC N1) ∧ Below X.heap.size X w') := fun X a k h => by rw [← hN1]; exact numbered_any D 1 (by omega) X a dr k h hDl (by omega)
  have KN2 : Hid (∀ X a k, See X 5 (.slice a fl k) fl (ndsC F) → Calls Tryd.prog 54 #[.slice a fl k, .int .i64 0] X fun e w' => ∃ v, e = .returned v ∧ w'.ownsRow X.heap.size 44 5 v N2.length (ndsC N2) ∧ Below X.heap.size X w') := fun X a k h => by rw [← hN2]; exact numbered_any F 0 (by omega) X a fl k h hFl (by omega)
  rw [hN1] at n1 ⊢
  rw [hN2] at n2 ⊢
  obtain ⟨NT, hNT⟩ : ∃ NT, N1 ++ N2 = NT := ⟨_, rfl⟩
  rw [hNT]
  obtain ⟨V, hV, hbV, g0, g1⟩ := two_new w #[.int .i64 (sl : Int), .int .i64 (fl : Int), .int .i64 (dr : Int), .int .i64 (mf : Int), .int .i64 (ls : Int), .int .i64 (pg : Int)] #[.int .i64 0, .int .i64 0, .slice none 0 0] 23 28
  have HX : Hid (∀ X, Below V.heap.size V X → (X.cell? ⟨w.heap.size, 0, none⟩ = some (.int .i64 (sl : Int)) ∧ X.cell? ⟨w.heap.size, 1, none⟩ = some (.int .i64 (fl : Int)) ∧ X.cell? ⟨w.heap.size, 2, none⟩ = some (.int .i64 (dr : Int)) ∧ X.cell? ⟨w.heap.size, 3, none⟩ = some (.int .i64 (mf : Int)) ∧ X.cell? ⟨w.heap.size, 4, none⟩ = some (.int .i64 (ls : Int)) ∧ X.cell? ⟨w.heap.size, 5, none⟩ = some (.int .i64 (pg : Int))) ∧ X.heap[w.heap.size + 1]? = some (.cells #[.int .i64 0, .int .i64 0, .slice none 0 0] 28 (0, 0)) ∧ RT X ∧ Below w.heap.size w X) := fun X hX => ⟨cells6 ((hX.block _ (heap_lt g0)).trans g0), (hX.block _ (heap_lt g1)).trans g1, hT.next (below_on hX hbV), below_on hX hbV⟩
  obtain ⟨⟨y0, y1, y2, y3, y4, y5⟩, -, hRV, -⟩ := HX.out V (Below.refl _ _)
  have K1V := K1 V hRV
  have HCC : Hid (∀ (X : World) (v1 v2 : Value), X.ownsRow w.heap.size 44 5 v1 N1.length (ndsC N1) → X.ownsRow w.heap.size 44 5 v2 N2.length (ndsC N2) → Calls Tryd.prog 53 #[.slice (some ⟨X.heap.size, 0, none⟩) 2 2] (X.alloc (.cells #[v1, v2] 26)) fun e w' => ∃ v, e = .returned v ∧ w'.ownsRow X.heap.size 44 5 v (N1.length + N2.length) (ndsC N1 ++ ndsC N2) ∧ Below X.heap.size X w') := fun X v1 v2 h1 h2 => by
    have ha : Below X.heap.size X (X.alloc (.cells #[v1, v2] 26)) := (Below.refl _ _).alloc (Nat.le_refl _) _
    have gx : (X.alloc (.cells #[v1, v2] 26)).heap[X.heap.size]? = some (.cells #[v1, v2] 26 (0, 0)) := heap_new X _
    refine (concat_any _ X.heap.size v1 v2 N1.length N2.length (ndsC N1) (ndsC N2) ((cell_of_heap gx).trans rfl) ((cell_of_heap gx).trans rfl) (see_own (owns_below h1 ha) (nds_one _)) (see_own (owns_below h2 ha) (nds_one _)) (by omega)).mono ?_
    rintro e w' ⟨v, rfl, ho, hb⟩
    exact ⟨v, rfl, owns_base ho ha.size, below_on hb ha⟩
  have HNN : Hid (N1.length + N2.length = NT.length ∧ ndsC N1 ++ ndsC N2 = ndsC NT) := ⟨by rw [← hNT, List.length_append], by rw [← hNT]; simp [ndsC]⟩
  clear hNT hc hs hT hT' hD hF hN1 hN2 K1 g0 g1 hbV hRV
  go_enter Tryd.func26, Tryd.ntmps26
  go_wp2_with fail
  refine K1V.mono ?_
  rintro e w1 ⟨a1, c1, rfl, ho1, hb1⟩
  have HB1 : Hid (Below V.heap.size V w1) := hb1
  have HO1 : Hid _ := ho1
  clear K1V hb1 ho1 y0 y1 y2 y3 y4 y5 hV
  obtain ⟨⟨y0, y1, y2, y3, y4, y5⟩, -, hR1, -⟩ := HX.out w1 HB1.out
  have K2V := K2 w1 hR1
  clear K2 hR1
  go_wp2_with fail
  refine K2V.mono ?_
  rintro e w2 ⟨a2, c2, rfl, ho2, hb2⟩
  have HB2 : Hid (Below V.heap.size V w2) := below_on hb2 HB1.out
  have HS : Hid (∀ X, Below w2.heap.size w2 X → See X 5 (.slice a1 dr c1) dr (ndsC D) ∧ See X 5 (.slice a2 fl c2) fl (ndsC F)) := fun X hX => ⟨see_own (owns_below (owns_below HO1.out hb2) hX) (nds_one _), see_own (owns_below ho2 hX) (nds_one _)⟩
  have HC2 : Hid (∀ X, Below w2.heap.size w2 X → X.cell? ⟨w.heap.size, 0, none⟩ = some (.int .i64 (sl : Int)) ∧ X.cell? ⟨w.heap.size, 1, none⟩ = some (.int .i64 (fl : Int)) ∧ X.cell? ⟨w.heap.size, 2, none⟩ = some (.int .i64 (dr : Int)) ∧ X.cell? ⟨w.heap.size, 3, none⟩ = some (.int .i64 (mf : Int)) ∧ X.cell? ⟨w.heap.size, 4, none⟩ = some (.int .i64 (ls : Int)) ∧ X.cell? ⟨w.heap.size, 5, none⟩ = some (.int .i64 (pg : Int))) := fun X hX => (HX.out X (below_on hX HB2.out)).1
  have hw2 : w.heap.size ≤ w2.heap.size := (HX.out w2 HB2.out).2.2.2.size
  clear K2V hb2 ho2 HO1 y0 y1 y2 y3 y4 y5
  obtain ⟨y0, y1, y2, y3, y4, y5⟩ := HC2.out w2 (Below.refl _ _)
  have HEND : Hid (∀ X a c, Below w2.heap.size w2 X → X.ownsRow w.heap.size 44 5 (.slice a NT.length c) NT.length (ndsC NT) → (X.cell? ⟨w.heap.size + 1, 0, none⟩ = some (.int .i64 0) ∧ X.cell? ⟨w.heap.size + 1, 1, none⟩ = some (.int .i64 0) ∧ X.cell? ⟨w.heap.size + 1, 2, none⟩ = some (.slice none 0 0) ∧ ∀ j, X.frozen? ⟨w.heap.size + 1, j, none⟩ = false) ∧ Hid ((((X.setCell ⟨w.heap.size + 1, 0, none⟩ (.int .i64 (fl : Int))).setCell ⟨w.heap.size + 1, 1, none⟩ (.int .i64 (dr : Int))).setCell ⟨w.heap.size + 1, 2, none⟩ (.slice a NT.length c)).heap[w.heap.size + 1]? = some (.cells #[.int .i64 (fl : Int), .int .i64 (dr : Int), .slice a NT.length c] 28 (0, 0)) ∧ (((X.setCell ⟨w.heap.size + 1, 0, none⟩ (.int .i64 (fl : Int))).setCell ⟨w.heap.size + 1, 1, none⟩ (.int .i64 (dr : Int))).setCell ⟨w.heap.size + 1, 2, none⟩ (.slice a NT.length c)).ownsRow w.heap.size 44 5 (.slice a NT.length c) NT.length (ndsC NT) ∧ Below w.heap.size w (((X.setCell ⟨w.heap.size + 1, 0, none⟩ (.int .i64 (fl : Int))).setCell ⟨w.heap.size + 1, 1, none⟩ (.int .i64 (dr : Int))).setCell ⟨w.heap.size + 1, 2, none⟩ (.slice a NT.length c))) ∧ Hid (∀ Y, (((X.setCell ⟨w.heap.size + 1, 0, none⟩ (.int .i64 (fl : Int))).setCell ⟨w.heap.size + 1, 1, none⟩ (.int .i64 (dr : Int))).setCell ⟨w.heap.size + 1, 2, none⟩ (.slice a NT.length c)) = Y → Y.cell? ⟨w.heap.size, 0, none⟩ = some (.int .i64 (sl : Int)) ∧ Y.cell? ⟨w.heap.size, 1, none⟩ = some (.int .i64 (fl : Int)) ∧ Y.cell? ⟨w.heap.size, 2, none⟩ = some (.int .i64 (dr : Int)) ∧ Y.cell? ⟨w.heap.size, 3, none⟩ = some (.int .i64 (mf : Int)) ∧ Y.cell? ⟨w.heap.size, 4, none⟩ = some (.int .i64 (ls : Int)) ∧ Y.cell? ⟨w.heap.size, 5, none⟩ = some (.int .i64 (pg : Int)))) := fun X a c hX ho => by
    obtain ⟨hC, gt, -, hbX⟩ := HX.out X (below_on hX HB2.out)
    have l1 : w.heap.size ≤ w.heap.size + 1 := by omega
    have hne : w.heap.size ≠ w.heap.size + 1 := by omega
    refine ⟨⟨(cell_of_heap gt).trans rfl, (cell_of_heap gt).trans rfl, (cell_of_heap gt).trans rfl, fun j => frozen_of_heap gt⟩, ⟨Tr.put3A gt, owns_put3 gt (by decide) ho _ _ _, ((hbX.setCell l1 _).setCell l1 _).setCell l1 _⟩, ?_⟩
    have hce : ∀ j, (((X.setCell ⟨w.heap.size + 1, 0, none⟩ (.int .i64 (fl : Int))).setCell ⟨w.heap.size + 1, 1, none⟩ (.int .i64 (dr : Int))).setCell ⟨w.heap.size + 1, 2, none⟩ (.slice a NT.length c)).cell? ⟨w.heap.size, j, none⟩ = X.cell? ⟨w.heap.size, j, none⟩ := fun j => World.cell?_of_block (a := ⟨w.heap.size, j, none⟩) (by rw [heap_setCell_other _ _ _ _ hne, heap_setCell_other _ _ _ _ hne, heap_setCell_other _ _ _ _ hne])
    intro Y hY
    subst hY
    exact ⟨(hce 0).trans hC.1, (hce 1).trans hC.2.1, (hce 2).trans hC.2.2.1, (hce 3).trans hC.2.2.2.1, (hce 4).trans hC.2.2.2.2.1, (hce 5).trans hC.2.2.2.2.2⟩
  go_upto_region 3 with fail
  go_region_held_law (fun X => X.cell? ⟨w.heap.size, 0, none⟩ = some (.int .i64 (sl : Int)) ∧ X.cell? ⟨w.heap.size, 1, none⟩ = some (.int .i64 (fl : Int)) ∧ X.cell? ⟨w.heap.size, 2, none⟩ = some (.int .i64 (dr : Int)) ∧ X.cell? ⟨w.heap.size, 3, none⟩ = some (.int .i64 (mf : Int)) ∧ X.cell? ⟨w.heap.size, 4, none⟩ = some (.int .i64 (ls : Int)) ∧ X.cell? ⟨w.heap.size, 5, none⟩ = some (.int .i64 (pg : Int))) (first | with_reducible exact HEB.out _ rfl | with_reducible exact HC2.out _ hbw7 | with_reducible exact HC2.out _ (below_alloc hbw6 _) | with_reducible exact HC2.out _ hbw6 | with_reducible exact HC2.out _ hbw5 | with_reducible exact HC2.out _ (by (repeat (first | with_reducible exact Below.refl _ _ | with_reducible refine Below.drew ?_ | with_reducible refine below_alloc ?_ _)); (first | done | fail)) | go_keep) (first | (go_at_call 53; refine (HCC.out _ _ _ (owns_below (owns_base ho5 hw5) hb6) (owns_base ho6 hw6)).mono ?_; rintro e w7 ⟨v7, rfl, ho7, hb7⟩; rw [HNN.out.1, HNN.out.2] at ho7; obtain ⟨a7, c7, rfl⟩ := owns_form ho7; have hbw7 : Below w2.heap.size w2 w7 := below_on hb7 hbw6; obtain ⟨⟨t0, t1, t2, tf⟩, HEA, HEB⟩ := HEND.out w7 a7 c7 hbw7 (owns_base ho7 (Nat.le_trans hw2 (Below.size hbw6)))) | (go_at_call 54; refine (KN2.out _ _ _ (HS.out _ hbw5).2).mono ?_; rintro e w6 ⟨v6, rfl, ho6, hb6⟩; obtain ⟨a6, k6, rfl⟩ := owns_form ho6; have hbw6 : Below w2.heap.size w2 w6 := below_on hb6 hbw5; have hw6 : w.heap.size ≤ w5.heap.size := Nat.le_trans hw2 (Below.size hbw5)) | (go_at_call 54; refine (KN1.out _ _ _ (HS.out _ (by (repeat (first | with_reducible exact Below.refl _ _ | with_reducible refine Below.drew ?_ | with_reducible refine below_alloc ?_ _)); (first | done | fail))).1).mono ?_; rintro e w5 ⟨v5, rfl, ho5, hb5⟩; obtain ⟨a5, k5, rfl⟩ := owns_form ho5; have hbw5 : Below w2.heap.size w2 w5 := below_on hb5 (by (repeat (first | with_reducible exact Below.refl _ _ | with_reducible refine Below.drew ?_ | with_reducible refine below_alloc ?_ _)); (first | done | fail)); have hw5 : w.heap.size ≤ w2.heap.size := hw2))
  all_goals
    have HE8 : Hid _ := HEA.out
    clear HEA HEB
    go_wp2
    refine bodyPost_ret (Tr.results_cell1 rfl _ _ (w.heap.size + 1) 28 _ (0, 0) _ rfl HE8.out.1 Tryd.underlying28 rfl size56) rfl ?_
    exact ⟨_, _, rfl, HE8.out.2.1, HE8.out.2.2⟩
end Go.Proofs.YtbdgbefjmfcgcaaDoor.Ix

namespace Go.Proofs.YtbdgbefjmfcgcaaDoor.Ix
open Go.RowKit Go.Lib Go.Deep
set_option maxRecDepth 20000 in
set_option maxHeartbeats 1500000 in
theorem readPool_any (sl fl dr mf ls pg : Nat) (hc : Cn.In ⟨sl, fl, dr, mf, ls, pg⟩) (s : ByteArray) (hs : Cn.len ⟨sl, fl, dr, mf, ls, pg⟩ ≤ s.size) (hsz : s.size ≤ 1099511000000) (m : Nat) (L : List Int) (hm : m ≤ fl + sl) (hQ : rdL ⟨sl, fl, dr, mf, ls, pg⟩ s.data.toList = (m : Int) :: L) (w : World) (hT : RT w) :
    Calls Tryd.prog 27 #[.agg #[.int .i64 (sl : Int), .int .i64 (fl : Int), .int .i64 (dr : Int), .int .i64 (mf : Int), .int .i64 (ls : Int), .int .i64 (pg : Int)], .string s] w fun e w' => ∃ ao co g cap c, cap - 1 = c ∧ e = .returned (.agg #[.slice ao (fl + sl) co, .slice (some ⟨g, 1, none⟩) m c]) ∧ w'.ownsRow w.heap.size 46 4 (.slice ao (fl + sl) co) (fl + sl) (obsC (rdP ⟨sl, fl, dr, mf, ls, pg⟩ s.data.toList)) ∧ w'.ownsRow w.heap.size 3 1 (.slice (some ⟨g, 0, none⟩) (1 + (fl + sl)) cap) (1 + (fl + sl)) (zsC ((m : Int) :: L)) ∧ Below w.heap.size w w' := by
  have hlim : fl ≤ 65536 ∧ sl ≤ 64 ∧ 1 ≤ sl := ⟨hc.2.2.2.1, hc.2.1, hc.1⟩
  have K1 : Hid (∀ X, RT X → _) := fun X hX => rr_obj sl fl dr mf ls pg hc s hs hsz X hX
  have K2 : Hid (∀ X, RT X → _) := fun X hX => rr_int sl fl dr mf ls pg hc s hs hsz X hX
  have hP' : (rowsA s.data.toList (36 * dr + 40 * fl) 40 (fl + sl)).map rdO = rdP ⟨sl, fl, dr, mf, ls, pg⟩ s.data.toList := rfl
  have hQ' : (rowsA s.data.toList (36 * dr + 40 * fl + 40 * (fl + sl)) 4 (1 + (fl + sl))).map (fun r => (nuL r : Int)) = (m : Int) :: L := hQ
  rw [hP'] at K1
  rw [hQ'] at K2
  have hLl : L.length = fl + sl := by
    have := congrArg List.length hQ'
    simp [rowsA] at this
    omega
  obtain ⟨O, hO⟩ : ∃ O, rdP ⟨sl, fl, dr, mf, ls, pg⟩ s.data.toList = O := ⟨_, rfl⟩
  rw [hO] at K1 ⊢
  obtain ⟨r, hr⟩ : ∃ r, fl + sl = r := ⟨_, rfl⟩
  rw [hr] at K1 K2 hm hLl ⊢
  have hr1 : 1 ≤ r ∧ r ≤ 100000 := by omega
  obtain ⟨V, hV, hbV, g0, g1⟩ := two_new w #[.int .i64 (sl : Int), .int .i64 (fl : Int), .int .i64 (dr : Int), .int .i64 (mf : Int), .int .i64 (ls : Int), .int .i64 (pg : Int)] #[.slice none 0 0, .slice none 0 0] 23 32
  have HX : Hid (∀ X, Below V.heap.size V X → (X.cell? ⟨w.heap.size, 0, none⟩ = some (.int .i64 (sl : Int)) ∧ X.cell? ⟨w.heap.size, 1, none⟩ = some (.int .i64 (fl : Int)) ∧ X.cell? ⟨w.heap.size, 2, none⟩ = some (.int .i64 (dr : Int)) ∧ X.cell? ⟨w.heap.size, 3, none⟩ = some (.int .i64 (mf : Int)) ∧ X.cell? ⟨w.heap.size, 4, none⟩ = some (.int .i64 (ls : Int)) ∧ X.cell? ⟨w.heap.size, 5, none⟩ = some (.int .i64 (pg : Int))) ∧ X.heap[w.heap.size + 1]? = some (.cells #[.slice none 0 0, .slice none 0 0] 32 (0, 0)) ∧ RT X ∧ Below w.heap.size w X) := fun X hX => ⟨cells6 ((hX.block _ (heap_lt g0)).trans g0), (hX.block _ (heap_lt g1)).trans g1, hT.next (below_on hX hbV), below_on hX hbV⟩
  have HC : Hid (∀ X, Below V.heap.size V X → X.cell? ⟨w.heap.size, 0, none⟩ = some (.int .i64 (sl : Int)) ∧ X.cell? ⟨w.heap.size, 1, none⟩ = some (.int .i64 (fl : Int)) ∧ X.cell? ⟨w.heap.size, 2, none⟩ = some (.int .i64 (dr : Int)) ∧ X.cell? ⟨w.heap.size, 3, none⟩ = some (.int .i64 (mf : Int)) ∧ X.cell? ⟨w.heap.size, 4, none⟩ = some (.int .i64 (ls : Int)) ∧ X.cell? ⟨w.heap.size, 5, none⟩ = some (.int .i64 (pg : Int))) := fun X hX => (HX.out X hX).1
  obtain ⟨y0, y1, y2, y3, y4, y5⟩ := HC.out V (Below.refl _ _)
  have hwV : w.heap.size ≤ V.heap.size := hbV.size
  have HEND : Hid (∀ X ao co g cap c, cap - 1 = c → Below V.heap.size V X → X.ownsRow w.heap.size 46 4 (.slice ao r co) r (obsC O) → X.ownsRow w.heap.size 3 1 (.slice (some ⟨g, 0, none⟩) (1 + r) cap) (1 + r) (zsC ((m : Int) :: L)) → (X.cell? ⟨w.heap.size + 1, 0, none⟩ = some (.slice none 0 0) ∧ X.cell? ⟨w.heap.size + 1, 1, none⟩ = some (.slice none 0 0) ∧ ∀ j, X.frozen? ⟨w.heap.size + 1, j, none⟩ = false) ∧ Hid (((X.setCell ⟨w.heap.size + 1, 0, none⟩ (.slice ao r co)).setCell ⟨w.heap.size + 1, 1, none⟩ (.slice (some ⟨g, 1, none⟩) m c)).heap[w.heap.size + 1]? = some (.cells #[.slice ao r co, .slice (some ⟨g, 1, none⟩) m c] 32 (0, 0)) ∧ ((X.setCell ⟨w.heap.size + 1, 0, none⟩ (.slice ao r co)).setCell ⟨w.heap.size + 1, 1, none⟩ (.slice (some ⟨g, 1, none⟩) m c)).ownsRow w.heap.size 46 4 (.slice ao r co) r (obsC O) ∧ ((X.setCell ⟨w.heap.size + 1, 0, none⟩ (.slice ao r co)).setCell ⟨w.heap.size + 1, 1, none⟩ (.slice (some ⟨g, 1, none⟩) m c)).ownsRow w.heap.size 3 1 (.slice (some ⟨g, 0, none⟩) (1 + r) cap) (1 + r) (zsC ((m : Int) :: L)) ∧ Below w.heap.size w ((X.setCell ⟨w.heap.size + 1, 0, none⟩ (.slice ao r co)).setCell ⟨w.heap.size + 1, 1, none⟩ (.slice (some ⟨g, 1, none⟩) m c))) ∧ Hid (∀ Y, ((X.setCell ⟨w.heap.size + 1, 0, none⟩ (.slice ao r co)).setCell ⟨w.heap.size + 1, 1, none⟩ (.slice (some ⟨g, 1, none⟩) m c)) = Y → Y.cell? ⟨w.heap.size, 0, none⟩ = some (.int .i64 (sl : Int)) ∧ Y.cell? ⟨w.heap.size, 1, none⟩ = some (.int .i64 (fl : Int)) ∧ Y.cell? ⟨w.heap.size, 2, none⟩ = some (.int .i64 (dr : Int)) ∧ Y.cell? ⟨w.heap.size, 3, none⟩ = some (.int .i64 (mf : Int)) ∧ Y.cell? ⟨w.heap.size, 4, none⟩ = some (.int .i64 (ls : Int)) ∧ Y.cell? ⟨w.heap.size, 5, none⟩ = some (.int .i64 (pg : Int)))) := fun X ao co g cap c hcap hX ho hi => by
    subst hcap
    obtain ⟨hC, gt, -, hbX⟩ := HX.out X hX
    have l1 : w.heap.size ≤ w.heap.size + 1 := by omega
    have hne : w.heap.size ≠ w.heap.size + 1 := by omega
    refine ⟨⟨(cell_of_heap gt).trans rfl, (cell_of_heap gt).trans rfl, fun j => frozen_of_heap gt⟩, ⟨Tr.put2A gt, owns_put2 gt (by decide) ho _ _, owns_put2 gt (by decide) hi _ _, (hbX.setCell l1 _).setCell l1 _⟩, ?_⟩
    intro Y hY
    subst hY
    have hce : ∀ j, ((X.setCell ⟨w.heap.size + 1, 0, none⟩ (.slice ao r co)).setCell ⟨w.heap.size + 1, 1, none⟩ (.slice (some ⟨g, 1, none⟩) m (cap - 1))).cell? ⟨w.heap.size, j, none⟩ = X.cell? ⟨w.heap.size, j, none⟩ := fun j => World.cell?_of_block (a := ⟨w.heap.size, j, none⟩) (by rw [heap_setCell_other _ _ _ _ hne, heap_setCell_other _ _ _ _ hne])
    exact ⟨(hce 0).trans hC.1, (hce 1).trans hC.2.1, (hce 2).trans hC.2.2.1, (hce 3).trans hC.2.2.2.1, (hce 4).trans hC.2.2.2.2.1, (hce 5).trans hC.2.2.2.2.2⟩
  have KU : Hid (∀ (X : World) (B g cap c : Nat), cap - 1 = c → X.ownsRow B 3 1 (.slice (some ⟨g, 0, none⟩) (1 + r) cap) (1 + r) (zsC ((m : Int) :: L)) → Calls Tryd.prog 57 #[.slice (some ⟨g, 0, none⟩) (1 + r) cap] X fun e w' => e = .returned (.slice (some ⟨g, 1, none⟩) m c) ∧ Below X.heap.size X w') := fun X B g cap c hcap h => by
    subst hcap
    exact uncounted_any m r hm (by omega) (by omega) L B X g cap h
  have hrr : 0 < 1 + r := by omega
  obtain ⟨r1, hr1e⟩ : ∃ r1, 1 + r = r1 := ⟨_, rfl⟩
  rw [hr1e] at K2 HEND KU hrr ⊢
  clear hr1e hc hs hT hP' hQ hQ' hO hr g0 g1 hbV
  go_enter Tryd.func27, Tryd.ntmps27
  go_wp2_with fail
  go_region_held_law (fun X => X.cell? ⟨w.heap.size, 0, none⟩ = some (.int .i64 (sl : Int)) ∧ X.cell? ⟨w.heap.size, 1, none⟩ = some (.int .i64 (fl : Int)) ∧ X.cell? ⟨w.heap.size, 2, none⟩ = some (.int .i64 (dr : Int)) ∧ X.cell? ⟨w.heap.size, 3, none⟩ = some (.int .i64 (mf : Int)) ∧ X.cell? ⟨w.heap.size, 4, none⟩ = some (.int .i64 (ls : Int)) ∧ X.cell? ⟨w.heap.size, 5, none⟩ = some (.int .i64 (pg : Int))) (first | with_reducible exact HEB.out _ rfl | with_reducible exact HC.out _ hbw7 | with_reducible exact HC.out _ hbw6 | with_reducible exact HC.out _ hbw5 | with_reducible exact HC.out _ (by (repeat (first | with_reducible exact Below.refl _ _ | with_reducible refine Below.drew ?_ | with_reducible refine below_alloc ?_ _)); (first | done | fail)) | go_keep) (first | (go_at_call 57; refine (KU.out _ _ _ _ _ hd6 ho6).mono ?_; rintro e w7 ⟨rfl, hb7⟩; have hbw7 : Below V.heap.size V w7 := below_on hb7 hbw6; obtain ⟨⟨t0, t1, tf⟩, HEA, HEB⟩ := HEND.out w7 a5 c5 g6 k6 d6 hd6 hbw7 (owns_base (owns_below (owns_below ho5 hb6) hb7) hwV) (owns_base (owns_below ho6 hb7) (Nat.le_trans hwV (Below.size hbw5)))) | (go_at_call 58; refine (K2.out _ (HX.out _ hbw5).2.2.1).mono ?_; rintro e w6 ⟨a6, k6', rfl, ho6, hb6⟩; obtain ⟨g6, k6, hv6⟩ := owns_form2 ho6 hrr; rw [hv6] at ho6 ⊢; clear hv6; obtain ⟨d6, hd6⟩ : ∃ d, k6 - 1 = d := ⟨_, rfl⟩; have hbw6 : Below V.heap.size V w6 := below_on hb6 hbw5) | (go_at_call 55; refine (K1.out _ (HX.out _ (by (repeat (first | with_reducible exact Below.refl _ _ | with_reducible refine Below.drew ?_ | with_reducible refine below_alloc ?_ _)); (first | done | fail))).2.2.1).mono ?_; rintro e w5 ⟨a5, c5, rfl, ho5, hb5⟩; have hbw5 : Below V.heap.size V w5 := below_on hb5 (by (repeat (first | with_reducible exact Below.refl _ _ | with_reducible refine Below.drew ?_ | with_reducible refine below_alloc ?_ _)); (first | done | fail))))
  all_goals
    have HE8 : Hid _ := HEA.out
    clear HEA HEB
    go_wp2
    refine bodyPost_ret (Tr.results_cell1 rfl _ _ (w.heap.size + 1) 32 _ (0, 0) _ rfl HE8.out.1 Tryd.underlying32 rfl size59) rfl ?_
    exact ⟨_, _, _, _, _, hd6, rfl, HE8.out.2.1, HE8.out.2.2.1, HE8.out.2.2.2⟩
end Go.Proofs.YtbdgbefjmfcgcaaDoor.Ix

namespace Go.Proofs.YtbdgbefjmfcgcaaDoor.Ix
open Go.RowKit Go.Lib Go.Deep Go.Shelf
theorem rdL_back {c : Cn} {T : List Nd} {O : List Ob} {Q : List Int} (Z : List UInt8) (hc : c.In) (hT : risB c 0 T = true) (hP : poolB c O Q = true) : rdL c (imgL c T O Q ++ Z) = cntL c Q := by
  obtain ⟨⟨q1, q2⟩, q3, q4⟩ := pool_iff.1 hP
  obtain ⟨h1, _⟩ := (ris_iff c T 0).1 hT
  obtain ⟨a1, a2, a3, a4, _⟩ := imgL_len (fun m hm => (h1 m hm).1) q3 q1 q2
  have hr : c.rows ≤ 65600 := by
    unfold Cn.rows
    have := hc
    unfold Cn.In at this
    omega
  have r := rows_flat queL 4 Z (cntL c Q) ((dirsL c T).flatMap dirL ++ ((filsL c T).flatMap filL ++ O.flatMap objL)) (fun q _ => queL_len q)
  have hl : (cntL c Q).length = 1 + c.rows := by
    simp only [cntL, List.length_cons, List.length_append, List.length_replicate]
    omega
  rw [List.length_append, List.length_append, a1, a2, a3, hl, ← Nat.add_assoc] at r
  have e : (dirsL c T).flatMap dirL ++ ((filsL c T).flatMap filL ++ (O.flatMap objL ++ (cntL c Q).flatMap queL)) ++ Z = (dirsL c T).flatMap dirL ++ ((filsL c T).flatMap filL ++ O.flatMap objL) ++ ((cntL c Q).flatMap queL ++ Z) := by simp only [List.append_assoc]
  have hL : rdL c (imgL c T O Q ++ Z) = cntL c Q := by
    unfold rdL imgL
    rw [e, r, List.map_map]
    conv => rhs; rw [← List.map_id (cntL c Q)]
    apply List.map_congr_left
    intro q hq
    have hq2 : 0 ≤ q ∧ q ≤ 65600 := by
      rcases List.mem_cons.1 hq with rfl | hq
      · omega
      · rcases List.mem_append.1 hq with hq | hq
        · have := q4 q hq
          omega
        · rw [List.eq_of_mem_replicate hq]
          omega
    show ((nuL (queL q) : Nat) : Int) = q
    unfold queL
    rw [nuL_bgL 4 _ (by omega)]
    omega
  exact hL
theorem join_nil : ∀ (L : List (List UInt8)), Go.Lib.join L [] = L.flatten
  | [] => rfl
  | [x] => by simp [Go.Lib.join, List.intercalate]
  | x :: y :: L => by
    have := join_nil (y :: L)
    simp only [Go.Lib.join, List.intercalate, List.intersperse, List.flatten_cons] at this ⊢
    rw [this]
    rfl
/-- texts joined, with nothing between -/
theorem join_any (w : World) (a : Option Addr) (n k : Nat) (P : List ByteArray) (hS : See w 1 (.slice a n k) n (scC P)) (hn : P.length = n) (hn1 : 1 ≤ n) (hn2 : n ≤ 100000) (hc : (catL P).length ≤ 1099511000000) :
    Calls Tryd.prog 25 #[.slice a n k, .string { data := #[] }] w fun e w' => e = .returned (.string (str (catL P))) ∧ Below w.heap.size w w' := by
  subst hn
  obtain ⟨x, hx⟩ : ∃ x, P[0]? = some x := ⟨_, List.getElem?_eq_getElem (by omega)⟩
  obtain ⟨b, off, rfl, hlt, -⟩ := hS.s hx
  have hk : P.length ≤ k := by
    obtain ⟨_, _, a', c', h1, h2, h3, h4⟩ := hS
    injection h1 with _ _ e1
    omega
  have hj : Go.Lib.join (P.map (·.data.toList)) ({ data := #[] } : ByteArray).data.toList = catL P := by
    show Go.Lib.join (P.map (·.data.toList)) [] = catL P
    rw [join_nil]
    rfl
  have h := Any.strings_Join Pa.joinLays Pa.joinExtra b off k P { data := #[] } w (fun j y hy => by
    obtain ⟨b', off', e', -, hcc⟩ := hS.s hy
    injection e' with e'
    injection e' with e1 e2 _
    subst e1 e2
    exact hcc) hlt (by omega) hk (by rw [hj]; omega)
  rw [hj] at h
  exact h
theorem equal_any (w : World) (a a2 : Option Addr) (n k k2 : Nat) (P : List ByteArray) (h1 : See w 1 (.slice a n k) n (scC P)) (h2 : See w 1 (.slice a2 n k2) n (scC P)) (hn : P.length = n) (hn1 : 1 ≤ n) (hn2 : n ≤ 100000) :
    Calls Tryd.prog 28 #[.slice a n k, .slice a2 n k2] w fun e w' => e = .returned (.bool true) ∧ Below w.heap.size w w' := by
  subst hn
  obtain ⟨x, hx⟩ : ∃ x, P[0]? = some x := ⟨_, List.getElem?_eq_getElem (by omega)⟩
  obtain ⟨b, off, rfl, -, -⟩ := h1.s hx
  obtain ⟨b2, off2, rfl, -, -⟩ := h2.s hx
  have cells : ∀ (b off k : Nat), See w 1 (.slice (some ⟨b, off, none⟩) P.length k) P.length (scC P) → ∀ j, j < P.length → w.cell? ⟨b, off + j, none⟩ = some (.string (P.getD j ByteArray.empty)) := fun b off k h j hj => by
    have e : P[j]? = some P[j] := List.getElem?_eq_getElem hj
    obtain ⟨b', off', e', -, hc⟩ := h.s e
    injection e' with e'
    injection e' with e1 e2 _
    subst e1 e2
    rw [hc, List.getD_eq_getElem?_getD, e]
    rfl
  refine (Any.slices_Equal_string Pa.equLays b off P.length k b2 off2 P.length k2 P P w (Nat.le_refl _) (Nat.le_refl _) (by omega) (by omega) (cells b off k h1) (cells b2 off2 k2 h2)).mono fun e w' ⟨he, q, hw⟩ => ⟨?_, hw ▸ bdN w q⟩
  rw [he, List.take_length]
  simp
end Go.Proofs.YtbdgbefjmfcgcaaDoor.Ix
