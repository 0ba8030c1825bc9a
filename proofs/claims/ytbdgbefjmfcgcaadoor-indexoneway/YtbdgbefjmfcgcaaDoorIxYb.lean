import Derived.Test.YtbdgbefjmfcgcaaDoorXgM
import Derived.Test.YtbdgbefjmfcgcaaDoorIxYa
namespace Go.Proofs.YtbdgbefjmfcgcaaDoor.Ix
open Go.RowKit Go.Lib Go.Deep
set_option maxRecDepth 20000 in
set_option maxHeartbeats 1500000 in
theorem readPool_all (sl fl dr mf ls pg : Nat) (hc : Cn.In ⟨sl, fl, dr, mf, ls, pg⟩) (s : ByteArray) (hs : Cn.len ⟨sl, fl, dr, mf, ls, pg⟩ ≤ s.size) (hsz : s.size ≤ 1099511000000) (q : Nat) (m : Nat) (L : List Int) (hm : m = min q (fl + sl)) (hQ : rdL ⟨sl, fl, dr, mf, ls, pg⟩ s.data.toList = (q : Int) :: L) (w : World) (hT : RT w) :
    Calls Tryd.prog 27 #[.agg #[.int .i64 (sl : Int), .int .i64 (fl : Int), .int .i64 (dr : Int), .int .i64 (mf : Int), .int .i64 (ls : Int), .int .i64 (pg : Int)], .string s] w fun e w' => ∃ ao co g cap c, cap - 1 = c ∧ e = .returned (.agg #[.slice ao (fl + sl) co, .slice (some ⟨g, 1, none⟩) m c]) ∧ w'.ownsRow w.heap.size 46 4 (.slice ao (fl + sl) co) (fl + sl) (obsC (rdP ⟨sl, fl, dr, mf, ls, pg⟩ s.data.toList)) ∧ w'.ownsRow w.heap.size 3 1 (.slice (some ⟨g, 0, none⟩) (1 + (fl + sl)) cap) (1 + (fl + sl)) (zsC ((q : Int) :: L)) ∧ Below w.heap.size w w' := by
  have hlim : fl ≤ 65536 ∧ sl ≤ 64 ∧ 1 ≤ sl := ⟨hc.2.2.2.1, hc.2.1, hc.1⟩
  have K1 : Hid (∀ X, RT X → _) := fun X hX => rr_obj sl fl dr mf ls pg hc s hs hsz X hX
  have K2 : Hid (∀ X, RT X → _) := fun X hX => rr_int sl fl dr mf ls pg hc s hs hsz X hX
  have hP' : (rowsA s.data.toList (36 * dr + 40 * fl) 40 (fl + sl)).map rdO = rdP ⟨sl, fl, dr, mf, ls, pg⟩ s.data.toList := rfl
  have hQ' : (rowsA s.data.toList (36 * dr + 40 * fl + 40 * (fl + sl)) 4 (1 + (fl + sl))).map (fun r => (nuL r : Int)) = (q : Int) :: L := hQ
  rw [hP'] at K1
  rw [hQ'] at K2
  have hLl : L.length = fl + sl := by
    have := congrArg List.length hQ'
    simp [rowsA] at this
    omega
  obtain ⟨O, hO⟩ : ∃ O, rdP ⟨sl, fl, dr, mf, ls, pg⟩ s.data.toList = O := ⟨_, rfl⟩
  rw [hO] at K1 ⊢
  obtain ⟨r, hr⟩ : ∃ r, fl + sl = r := ⟨_, rfl⟩
  rw [hr] at K1 K2 hm hLl ⊢
  have hr1 : 1 ≤ r ∧ r ≤ 100000 := by omega
  obtain ⟨V, hV, hbV, g0, g1⟩ := two_new w #[.int .i64 (sl : Int), .int .i64 (fl : Int), .int .i64 (dr : Int), .int .i64 (mf : Int), .int .i64 (ls : Int), .int .i64 (pg : Int)] #[.slice none 0 0, .slice none 0 0] 23 32
  have HX : Hid (∀ X, Below V.heap.size V X → (X.cell? ⟨w.heap.size, 0, none⟩ = some (.int .i64 (sl : Int)) ∧ X.cell? ⟨w.heap.size, 1, none⟩ = some (.int .i64 (fl : Int)) ∧ X.cell? ⟨w.heap.size, 2, none⟩ = some (.int .i64 (dr : Int)) ∧ X.cell? ⟨w.heap.size, 3, none⟩ = some (.int .i64 (mf : Int)) ∧ X.cell? ⟨w.heap.size, 4, none⟩ = some (.int .i64 (ls : Int)) ∧ X.cell? ⟨w.heap.size, 5, none⟩ = some (.int .i64 (pg : Int))) ∧ X.heap[w.heap.size + 1]? = some (.cells #[.slice none 0 0, .slice none 0 0] 32 (0, 0)) ∧ RT X ∧ Below w.heap.size w X) := fun X hX => ⟨cells6 ((hX.block _ (heap_lt g0)).trans g0), (hX.block _ (heap_lt g1)).trans g1, hT.next (below_on hX hbV), below_on hX hbV⟩
  have HC : Hid (∀ X, Below V.heap.size V X → X.cell? ⟨w.heap.size, 0, none⟩ = some (.int .i64 (sl : Int)) ∧ X.cell? ⟨w.heap.size, 1, none⟩ = some (.int .i64 (fl : Int)) ∧ X.cell? ⟨w.heap.size, 2, none⟩ = some (.int .i64 (dr : Int)) ∧ X.cell? ⟨w.heap.size, 3, none⟩ = some (.int .i64 (mf : Int)) ∧ X.cell? ⟨w.heap.size, 4, none⟩ = some (.int .i64 (ls : Int)) ∧ X.cell? ⟨w.heap.size, 5, none⟩ = some (.int .i64 (pg : Int))) := fun X hX => (HX.out X hX).1
  obtain ⟨y0, y1, y2, y3, y4, y5⟩ := HC.out V (Below.refl _ _)
  have hwV : w.heap.size ≤ V.heap.size := hbV.size
  have HEND : Hid (∀ X ao co g cap c, cap - 1 = c → Below V.heap.size V X → X.ownsRow w.heap.size 46 4 (.slice ao r co) r (obsC O) → X.ownsRow w.heap.size 3 1 (.slice (some ⟨g, 0, none⟩) (1 + r) cap) (1 + r) (zsC ((q : Int) :: L)) → (X.cell? ⟨w.heap.size + 1, 0, none⟩ = some (.slice none 0 0) ∧ X.cell? ⟨w.heap.size + 1, 1, none⟩ = some (.slice none 0 0) ∧ ∀ j, X.frozen? ⟨w.heap.size + 1, j, none⟩ = false) ∧ Hid (((X.setCell ⟨w.heap.size + 1, 0, none⟩ (.slice ao r co)).setCell ⟨w.heap.size + 1, 1, none⟩ (.slice (some ⟨g, 1, none⟩) m c)).heap[w.heap.size + 1]? = some (.cells #[.slice ao r co, .slice (some ⟨g, 1, none⟩) m c] 32 (0, 0)) ∧ ((X.setCell ⟨w.heap.size + 1, 0, none⟩ (.slice ao r co)).setCell ⟨w.heap.size + 1, 1, none⟩ (.slice (some ⟨g, 1, none⟩) m c)).ownsRow w.heap.size 46 4 (.slice ao r co) r (obsC O) ∧ ((X.setCell ⟨w.heap.size + 1, 0, none⟩ (.slice ao r co)).setCell ⟨w.heap.size + 1, 1, none⟩ (.slice (some ⟨g, 1, none⟩) m c)).ownsRow w.heap.size 3 1 (.slice (some ⟨g, 0, none⟩) (1 + r) cap) (1 + r) (zsC ((q : Int) :: L)) ∧ Below w.heap.size w ((X.setCell ⟨w.heap.size + 1, 0, none⟩ (.slice ao r co)).setCell ⟨w.heap.size + 1, 1, none⟩ (.slice (some ⟨g, 1, none⟩) m c))) ∧ Hid (∀ Y, ((X.setCell ⟨w.heap.size + 1, 0, none⟩ (.slice ao r co)).setCell ⟨w.heap.size + 1, 1, none⟩ (.slice (some ⟨g, 1, none⟩) m c)) = Y → Y.cell? ⟨w.heap.size, 0, none⟩ = some (.int .i64 (sl : Int)) ∧ Y.cell? ⟨w.heap.size, 1, none⟩ = some (.int .i64 (fl : Int)) ∧ Y.cell? ⟨w.heap.size, 2, none⟩ = some (.int .i64 (dr : Int)) ∧ Y.cell? ⟨w.heap.size, 3, none⟩ = some (.int .i64 (mf : Int)) ∧ Y.cell? ⟨w.heap.size, 4, none⟩ = some (.int .i64 (ls : Int)) ∧ Y.cell? ⟨w.heap.size, 5, none⟩ = some (.int .i64 (pg : Int)))) := fun X ao co g cap c hcap hX ho hi => by
    subst hcap
    obtain ⟨hC, gt, -, hbX⟩ := HX.out X hX
    have l1 : w.heap.size ≤ w.heap.size + 1 := by omega
    have hne : w.heap.size ≠ w.heap.size + 1 := by omega
    refine ⟨⟨(cell_of_heap gt).trans rfl, (cell_of_heap gt).trans rfl, fun j => frozen_of_heap gt⟩, ⟨Tr.put2A gt, owns_put2 gt (by decide) ho _ _, owns_put2 gt (by decide) hi _ _, (hbX.setCell l1 _).setCell l1 _⟩, ?_⟩
    intro Y hY
    subst hY
    have hce : ∀ j, ((X.setCell ⟨w.heap.size + 1, 0, none⟩ (.slice ao r co)).setCell ⟨w.heap.size + 1, 1, none⟩ (.slice (some ⟨g, 1, none⟩) m (cap - 1))).cell? ⟨w.heap.size, j, none⟩ = X.cell? ⟨w.heap.size, j, none⟩ := fun j => World.cell?_of_block (a := ⟨w.heap.size, j, none⟩) (by rw [heap_setCell_other _ _ _ _ hne, heap_setCell_other _ _ _ _ hne])
    exact ⟨(hce 0).trans hC.1, (hce 1).trans hC.2.1, (hce 2).trans hC.2.2.1, (hce 3).trans hC.2.2.2.1, (hce 4).trans hC.2.2.2.2.1, (hce 5).trans hC.2.2.2.2.2⟩
  have KU : Hid (∀ (X : World) (B g cap c : Nat), cap - 1 = c → X.ownsRow B 3 1 (.slice (some ⟨g, 0, none⟩) (1 + r) cap) (1 + r) (zsC ((q : Int) :: L)) → Calls Tryd.prog 57 #[.slice (some ⟨g, 0, none⟩) (1 + r) cap] X fun e w' => e = .returned (.slice (some ⟨g, 1, none⟩) m c) ∧ Below X.heap.size X w') := fun X B g cap c hcap h => by
    subst hcap
    rw [hm]
    exact uncounted_all q r (by omega) (by omega) L B X g cap h
  have hrr : 0 < 1 + r := by omega
  obtain ⟨r1, hr1e⟩ : ∃ r1, 1 + r = r1 := ⟨_, rfl⟩
  rw [hr1e] at K2 HEND KU hrr ⊢
  clear hm hr1e hc hs hT hP' hQ hQ' hO hr g0 g1 hbV
  go_enter Tryd.func27, Tryd.ntmps27
  go_wp2_with fail
  go_region_held_law (fun X => X.cell? ⟨w.heap.size, 0, none⟩ = some (.int .i64 (sl : Int)) ∧ X.cell? ⟨w.heap.size, 1, none⟩ = some (.int .i64 (fl : Int)) ∧ X.cell? ⟨w.heap.size, 2, none⟩ = some (.int .i64 (dr : Int)) ∧ X.cell? ⟨w.heap.size, 3, none⟩ = some (.int .i64 (mf : Int)) ∧ X.cell? ⟨w.heap.size, 4, none⟩ = some (.int .i64 (ls : Int)) ∧ X.cell? ⟨w.heap.size, 5, none⟩ = some (.int .i64 (pg : Int))) (first | with_reducible exact HEB.out _ rfl | with_reducible exact HC.out _ hbw7 | with_reducible exact HC.out _ hbw6 | with_reducible exact HC.out _ hbw5 | with_reducible exact HC.out _ (by (repeat (first | with_reducible exact Below.refl _ _ | with_reducible refine Below.drew ?_ | with_reducible refine below_alloc ?_ _)); (first | done | fail)) | go_keep) (first | (go_at_call 57; refine (KU.out _ _ _ _ _ hd6 ho6).mono ?_; rintro e w7 ⟨rfl, hb7⟩; have hbw7 : Below V.heap.size V w7 := below_on hb7 hbw6; obtain ⟨⟨t0, t1, tf⟩, HEA, HEB⟩ := HEND.out w7 a5 c5 g6 k6 d6 hd6 hbw7 (owns_base (owns_below (owns_below ho5 hb6) hb7) hwV) (owns_base (owns_below ho6 hb7) (Nat.le_trans hwV (Below.size hbw5)))) | (go_at_call 58; refine (K2.out _ (HX.out _ hbw5).2.2.1).mono ?_; rintro e w6 ⟨a6, k6', rfl, ho6, hb6⟩; obtain ⟨g6, k6, hv6⟩ := owns_form2 ho6 hrr; rw [hv6] at ho6 ⊢; clear hv6; obtain ⟨d6, hd6⟩ : ∃ d, k6 - 1 = d := ⟨_, rfl⟩; have hbw6 : Below V.heap.size V w6 := below_on hb6 hbw5) | (go_at_call 55; refine (K1.out _ (HX.out _ (by (repeat (first | with_reducible exact Below.refl _ _ | with_reducible refine Below.drew ?_ | with_reducible refine below_alloc ?_ _)); (first | done | fail))).2.2.1).mono ?_; rintro e w5 ⟨a5, c5, rfl, ho5, hb5⟩; have hbw5 : Below V.heap.size V w5 := below_on hb5 (by (repeat (first | with_reducible exact Below.refl _ _ | with_reducible refine Below.drew ?_ | with_reducible refine below_alloc ?_ _)); (first | done | fail))))
  all_goals
    have HE8 : Hid _ := HEA.out
    clear HEA HEB
    go_wp2
    refine bodyPost_ret (Tr.results_cell1 rfl _ _ (w.heap.size + 1) 32 _ (0, 0) _ rfl HE8.out.1 Tryd.underlying32 rfl size59) rfl ?_
    exact ⟨_, _, _, _, _, hd6, rfl, HE8.out.2.1, HE8.out.2.2.1, HE8.out.2.2.2⟩
end Go.Proofs.YtbdgbefjmfcgcaaDoor.Ix
