import Derived.Test.YtbdgbefjmfcgcaaDoorIxMh
import Derived.Test.YtbdgbefjmfcgcaaDoorIxZa
import Derived.Test.YtbdgbefjmfcgcaaDoorIxP
namespace Go.Proofs.YtbdgbefjmfcgcaaDoor.Ix
open Go.RowKit Go.Lib Go.Deep
theorem three_new (w : World) (A B C : Array Value) (s t u : TypeId) : ∃ W, ((w.alloc (.cells A s)).alloc (.cells B t)).alloc (.cells C u) = W ∧ Below w.heap.size w W ∧ W.heap[w.heap.size]? = some (.cells A s (0, 0)) ∧ W.heap[w.heap.size + 1]? = some (.cells B t (0, 0)) ∧ W.heap[w.heap.size + 2]? = some (.cells C u (0, 0)) := by
  obtain ⟨W, hW, hb, g0, g1⟩ := two_new w A B s t
  refine ⟨_, rfl, ?_, ?_, ?_, heap_at (by simp)⟩
  · rw [hW]; exact below_alloc hb _
  · rw [hW]; exact heap_keep g0
  · rw [hW]; exact heap_keep g1
/-- the blocks of both states, written over -/
theorem put5_res {w W : World} {g : Nat} {x0 x1 x2 x3 x4 : Value} (hT : W.heap[g]? = some (.cells #[x0, x1, x2] 28 (0, 0))) (hP : W.heap[g + 1]? = some (.cells #[x3, x4] 32 (0, 0))) (hb : Below w.heap.size w W) (hg : w.heap.size ≤ g) (y0 y1 y2 y3 y4 : Value) :
    (((((W.setCell ⟨g, 0, none⟩ y0).setCell ⟨g, 1, none⟩ y1).setCell ⟨g, 2, none⟩ y2).setCell ⟨g + 1, 0, none⟩ y3).setCell ⟨g + 1, 1, none⟩ y4).heap[g]? = some (.cells #[y0, y1, y2] 28 (0, 0)) ∧ (((((W.setCell ⟨g, 0, none⟩ y0).setCell ⟨g, 1, none⟩ y1).setCell ⟨g, 2, none⟩ y2).setCell ⟨g + 1, 0, none⟩ y3).setCell ⟨g + 1, 1, none⟩ y4).heap[g + 1]? = some (.cells #[y3, y4] 32 (0, 0)) ∧ Below w.heap.size w (((((W.setCell ⟨g, 0, none⟩ y0).setCell ⟨g, 1, none⟩ y1).setCell ⟨g, 2, none⟩ y2).setCell ⟨g + 1, 0, none⟩ y3).setCell ⟨g + 1, 1, none⟩ y4) := by
  have n1 : g ≠ g + 1 := by omega
  have n2 : g + 1 ≠ g := by omega
  refine ⟨?_, ?_, ?_⟩
  · rw [heap_setCell_other _ _ _ _ n1, heap_setCell_other _ _ _ _ n1]
    exact Tr.put3A hT
  · refine Tr.put2A (x0 := x3) (x1 := x4) ?_
    rw [heap_setCell_other _ _ _ _ n2, heap_setCell_other _ _ _ _ n2, heap_setCell_other _ _ _ _ n2]
    exact hP
  · exact ((((hb.setCell hg _).setCell hg _).setCell hg _).setCell (show w.heap.size ≤ g + 1 by omega) _).setCell (show w.heap.size ≤ g + 1 by omega) _
theorem size56 : (Tryd.prog.info? 28).map (·.size) = some 3 := by kernel_rfl
theorem size59 : (Tryd.prog.info? 32).map (·.size) = some 2 := by kernel_rfl
theorem zero5 {w W : World} {g : Nat} (hT : W.heap[g]? = some (.cells #[.int .i64 0, .int .i64 0, .slice none 0 0] 28 (0, 0))) (hP : W.heap[g + 1]? = some (.cells #[.slice none 0 0, .slice none 0 0] 32 (0, 0))) (hb : Below w.heap.size w W) (hg : w.heap.size ≤ g) (y0 y1 y2 y3 y4 : Value) : W.cell? ⟨g, 0, none⟩ = some (.int .i64 0) ∧ W.cell? ⟨g, 1, none⟩ = some (.int .i64 0) ∧ W.cell? ⟨g, 2, none⟩ = some (.slice none 0 0) ∧ W.cell? ⟨g + 1, 0, none⟩ = some (.slice none 0 0) ∧ W.cell? ⟨g + 1, 1, none⟩ = some (.slice none 0 0) ∧ (∀ j, W.frozen? ⟨g, j, none⟩ = false) ∧ (∀ j, W.frozen? ⟨g + 1, j, none⟩ = false) ∧
    Hid ((((((W.setCell ⟨g, 0, none⟩ y0).setCell ⟨g, 1, none⟩ y1).setCell ⟨g, 2, none⟩ y2).setCell ⟨g + 1, 0, none⟩ y3).setCell ⟨g + 1, 1, none⟩ y4).heap[g]? = some (.cells #[y0, y1, y2] 28 (0, 0)) ∧ (((((W.setCell ⟨g, 0, none⟩ y0).setCell ⟨g, 1, none⟩ y1).setCell ⟨g, 2, none⟩ y2).setCell ⟨g + 1, 0, none⟩ y3).setCell ⟨g + 1, 1, none⟩ y4).heap[g + 1]? = some (.cells #[y3, y4] 32 (0, 0)) ∧ Below w.heap.size w (((((W.setCell ⟨g, 0, none⟩ y0).setCell ⟨g, 1, none⟩ y1).setCell ⟨g, 2, none⟩ y2).setCell ⟨g + 1, 0, none⟩ y3).setCell ⟨g + 1, 1, none⟩ y4)) := by
  exact ⟨(cell_of_heap hT).trans rfl, (cell_of_heap hT).trans rfl, (cell_of_heap hT).trans rfl, (cell_of_heap hP).trans rfl, (cell_of_heap hP).trans rfl, fun j => frozen_of_heap hT, fun j => frozen_of_heap hP, put5_res hT hP hb hg _ _ _ _ _⟩
set_option maxRecDepth 20000 in
set_option maxHeartbeats 1000000 in
theorem areBodies_any (sl fl dr mf ls pg : Nat) (hc : Cn.In ⟨sl, fl, dr, mf, ls, pg⟩) (P : List ByteArray) (w : World) (hT : RT w) (a : Option Addr) (n k : Nat) (hS : See w 1 (.slice a n k) n (scC P)) (hn : P.length = n) (hnb : n ≤ 1099511000000) :
    Calls Tryd.prog 24 #[.agg #[.int .i64 (sl : Int), .int .i64 (fl : Int), .int .i64 (dr : Int), .int .i64 (mf : Int), .int .i64 (ls : Int), .int .i64 (pg : Int)], .slice a n k] w fun e w' => e = .returned (.bool (abB ⟨sl, fl, dr, mf, ls, pg⟩ P)) ∧ Below w.heap.size w w' := by
  obtain ⟨V, hV, hbV, g0⟩ := one_new w #[.int .i64 (sl : Int), .int .i64 (fl : Int), .int .i64 (dr : Int), .int .i64 (mf : Int), .int .i64 (ls : Int), .int .i64 (pg : Int)] 23
  have HX : Hid (∀ X, Below V.heap.size V X → (X.cell? ⟨w.heap.size, 0, none⟩ = some (.int .i64 (sl : Int)) ∧ X.cell? ⟨w.heap.size, 1, none⟩ = some (.int .i64 (fl : Int)) ∧ X.cell? ⟨w.heap.size, 2, none⟩ = some (.int .i64 (dr : Int)) ∧ X.cell? ⟨w.heap.size, 3, none⟩ = some (.int .i64 (mf : Int)) ∧ X.cell? ⟨w.heap.size, 4, none⟩ = some (.int .i64 (ls : Int)) ∧ X.cell? ⟨w.heap.size, 5, none⟩ = some (.int .i64 (pg : Int))) ∧ See X 1 (.slice a n k) n (scC P) ∧ Below w.heap.size w X) := fun X hX => by
    have hb := below_on hX hbV
    exact ⟨cells6 ((hX.block _ (heap_lt g0)).trans g0), hS.below hb, hb⟩
  have KP := pageCount_any sl fl dr mf ls pg hc V (hT.next hbV)
  have KB : Hid (∀ X, Calls Tryd.prog 36 #[.agg #[.int .i64 (sl : Int), .int .i64 (fl : Int), .int .i64 (dr : Int), .int .i64 (mf : Int), .int .i64 (ls : Int), .int .i64 (pg : Int)]] X fun e w' => e = .returned (.int .i64 ((pg - 5 : Nat) : Int)) ∧ Below X.heap.size X w') := fun X => bodySize_any sl fl dr mf ls pg hc X
  have HZ : Hid (∀ Z, (P.length = Cn.pgs ⟨sl, fl, dr, mf, ls, pg⟩ ∧ ∀ s ∈ P, s.size = pg - 5) → abB ⟨sl, fl, dr, mf, ls, pg⟩ P = Z → Z = true) := fun Z h e => by rw [← e]; exact ab_iff.2 h
  have HF : Hid (∀ Z, ¬ (P.length = Cn.pgs ⟨sl, fl, dr, mf, ls, pg⟩ ∧ ∀ s ∈ P, s.size = pg - 5) → abB ⟨sl, fl, dr, mf, ls, pg⟩ P = Z → Z = false) := fun Z h e => by
    cases Z
    · rfl
    · exact absurd (ab_iff.1 e) h
  obtain ⟨Z, hZ⟩ : ∃ Z, abB ⟨sl, fl, dr, mf, ls, pg⟩ P = Z := ⟨_, rfl⟩
  have HZe : Hid (abB ⟨sl, fl, dr, mf, ls, pg⟩ P = Z) := hZ
  rw [hZ]
  clear hZ
  obtain ⟨m, hm⟩ : ∃ m, Cn.pgs ⟨sl, fl, dr, mf, ls, pg⟩ = m := ⟨_, rfl⟩
  obtain ⟨b, hb⟩ : ∃ b, pg - 5 = b := ⟨_, rfl⟩
  rw [hm] at KP HZ HF
  rw [hb] at KB HZ HF
  rw [hn] at HZ HF
  obtain ⟨⟨y0, y1, y2, y3, y4, y5⟩, -, -⟩ := HX.out V (Below.refl _ _)
  clear hm hb hc hT hS g0 hbV
  by_cases h1 : n = m
  case neg =>
    have hZf := HF.out Z (fun h => h1 h.1) HZe.out
    have hne : ((n : Int) != (m : Int)) = true := by rw [bne_iff_ne]; omega
    clear HZ HF HZe
    subst hZf
    go_enter Tryd.func24, Tryd.ntmps24
    go_wp2_with fail
    refine KP.mono ?_
    rintro e w1 ⟨rfl, hb1⟩
    have HB : Hid _ := (HX.out w1 hb1).2.2
    clear hb1 HX
    go_wp2
    go_ret
    exact ⟨rfl, HB.out⟩
  subst h1
  go_enter Tryd.func24, Tryd.ntmps24
  go_wp2_with fail
  refine KP.mono ?_
  rintro e w1 ⟨rfl, hb1⟩
  have HB1 : Hid (Below V.heap.size V w1) := hb1
  clear hb1 KP y0 y1 y2 y3 y4 y5 hV
  go_wp2_with fail
  go_loopg [14] n (fun gk iv wr => ∃ i : Nat, i + gk = n ∧ iv = .int .i64 (i : Int) ∧ Hid (Below V.heap.size V wr) ∧ Hid (∀ s ∈ P.take i, s.size = b))
  case atStart => exact ⟨0, by omega, rfl, HB1.out, fun s hs => by simp at hs⟩
  case round =>
    obtain ⟨i, hi, rfl, HB, HA⟩ := hrel
    obtain ⟨⟨y0, y1, y2, y3, y4, y5⟩, hSx, hbw⟩ := HX.out wr HB.out
    by_cases hlt : i < n
    · have hltI : (i : Int) < (n : Int) := by omega
      obtain ⟨s, hs⟩ : ∃ s, P[i]? = some s := ⟨_, List.getElem?_eq_getElem (by omega)⟩
      obtain ⟨g, off, rfl, hgl, hcs⟩ := hSx.s hs
      have HS : Hid (P[i]? = some s) := hs
      clear hs hSx hbw
      by_cases hsz : s.size = b
      · have hne : ((s.size : Int) != (b : Int)) = false := by rw [bne_eq_false_iff_eq]; omega
        have HSZ : Hid (s.size = b) := hsz
        clear hsz
        go_wp2_with fail
        refine (KB.out _).mono ?_
        rintro e w5 ⟨rfl, hb5⟩
        have HB5 : Hid (Below V.heap.size V w5) := below_on hb5 HB.out
        clear hb5
        go_wp2
        go_roundg (gk - 1)
        case measure => omega
        case rel => exact ⟨i + 1, by omega, rfl, HB5.out, fun x hx => by
          rw [List.take_add_one, HS.out] at hx
          rcases List.mem_append.1 hx with h | h
          · exact HA.out x h
          · rw [show x = s by simpa using h]
            exact HSZ.out⟩
      · have hne : ((s.size : Int) != (b : Int)) = true := by rw [bne_iff_ne]; omega
        have hZf := HF.out Z (fun h => hsz (h.2 s (List.mem_of_getElem? HS.out))) HZe.out
        clear HZ HF HZe
        subst hZf
        clear hsz
        go_wp2_with fail
        refine (KB.out _).mono ?_
        rintro e w5 ⟨rfl, hb5⟩
        have HB5 : Hid _ := (HX.out w5 (below_on hb5 HB.out)).2.2
        clear hb5
        go_wp2
        go_ret
        exact ⟨rfl, HB5.out⟩
    · obtain rfl : i = n := by omega
      have hltI : ¬ (i : Int) < (i : Int) := by omega
      have hZt := HZ.out Z ⟨by first | rfl | trivial, fun s hs => HA.out s (by rw [List.take_of_length_le (by omega)]; exact hs)⟩ HZe.out
      have HBw : Hid _ := hbw
      clear HZ HF HZe hbw hSx
      subst hZt
      go_wp2
      go_ret
      exact ⟨rfl, HBw.out⟩
set_option maxRecDepth 20000 in
set_option maxHeartbeats 1000000 in
/-- what are no bodies of pages is not read -/
theorem decode_cut (sl fl dr mf ls pg : Nat) (hc : Cn.May ⟨sl, fl, dr, mf, ls, pg⟩) (P : List ByteArray) (hab : abB ⟨sl, fl, dr, mf, ls, pg⟩ P = false) (w : World) (hT : RT w) (a : Option Addr) (n k : Nat) (hS : See w 1 (.slice a n k) n (scC P)) (hn : P.length = n) (hnb : n ≤ 1099511000000) :
    Calls Tryd.prog 9 #[.agg #[.int .i64 (sl : Int), .int .i64 (fl : Int), .int .i64 (dr : Int), .int .i64 (mf : Int), .int .i64 (ls : Int), .int .i64 (pg : Int)], .slice a n k] w fun e w' => e = .returned (.tuple #[.agg #[.int .i64 0, .int .i64 0, .slice none 0 0], .agg #[.slice none 0 0, .slice none 0 0], .int .i64 141]) ∧ Below w.heap.size w w' := by
  obtain ⟨V, hV, hbV, g0, g1, g2⟩ := three_new w #[.int .i64 (sl : Int), .int .i64 (fl : Int), .int .i64 (dr : Int), .int .i64 (mf : Int), .int .i64 (ls : Int), .int .i64 (pg : Int)] #[.int .i64 0, .int .i64 0, .slice none 0 0] #[.slice none 0 0, .slice none 0 0] 23 28 32
  have HX : Hid (∀ X, Below V.heap.size V X → (X.cell? ⟨w.heap.size, 0, none⟩ = some (.int .i64 (sl : Int)) ∧ X.cell? ⟨w.heap.size, 1, none⟩ = some (.int .i64 (fl : Int)) ∧ X.cell? ⟨w.heap.size, 2, none⟩ = some (.int .i64 (dr : Int)) ∧ X.cell? ⟨w.heap.size, 3, none⟩ = some (.int .i64 (mf : Int)) ∧ X.cell? ⟨w.heap.size, 4, none⟩ = some (.int .i64 (ls : Int)) ∧ X.cell? ⟨w.heap.size, 5, none⟩ = some (.int .i64 (pg : Int))) ∧ X.heap[w.heap.size + 1]? = some (.cells #[.int .i64 0, .int .i64 0, .slice none 0 0] 28 (0, 0)) ∧ X.heap[w.heap.size + 2]? = some (.cells #[.slice none 0 0, .slice none 0 0] 32 (0, 0)) ∧ Below w.heap.size w X) := fun X hX => by
    exact ⟨cells6 ((hX.block _ (heap_lt g0)).trans g0), (hX.block _ (heap_lt g1)).trans g1, (hX.block _ (heap_lt g2)).trans g2, below_on hX hbV⟩
  have K1 := mayBe_any (Cn.cf ⟨sl, fl, dr, mf, ls, pg⟩) V (hT.next hbV)
  rw [decide_eq_true hc.cf] at K1
  have K2 : Hid (∀ X, Below V.heap.size V X → Calls Tryd.prog 24 #[.agg #[.int .i64 (sl : Int), .int .i64 (fl : Int), .int .i64 (dr : Int), .int .i64 (mf : Int), .int .i64 (ls : Int), .int .i64 (pg : Int)], .slice a n k] X fun e w' => e = .returned (.bool false) ∧ Below X.heap.size X w') := fun X hX => by
    have h := areBodies_any sl fl dr mf ls pg hc.1 P X (hT.next (below_on hX hbV)) a n k (hS.below (below_on hX hbV)) hn hnb
    rw [hab] at h
    exact h
  obtain ⟨⟨y0, y1, y2, y3, y4, y5⟩, -, -, -⟩ := HX.out V (Below.refl _ _)
  clear hc hab hT hS hn g0 g1 g2 hbV
  go_enter Tryd.func9, Tryd.ntmps9
  go_wp2_with fail
  refine K1.mono ?_
  rintro e w1 ⟨rfl, hb1⟩
  have HB1 : Hid (Below V.heap.size V w1) := hb1
  clear K1 hb1 y0 y1 y2 y3 y4 y5 hV
  obtain ⟨⟨y0, y1, y2, y3, y4, y5⟩, -, -, -⟩ := HX.out w1 HB1.out
  go_wp2_with fail
  refine (K2.out w1 HB1.out).mono ?_
  rintro e w2 ⟨rfl, hb2⟩
  obtain ⟨-, q1, q2, q3⟩ := HX.out w2 (below_on hb2 HB1.out)
  obtain ⟨c0, c1, c2, c3, c4, f1, f2, HE⟩ := zero5 q1 q2 q3 (by omega) (.int .i64 0) (.int .i64 0) (.slice none 0 0) (.slice none 0 0) (.slice none 0 0)
  clear K2 hb2 y0 y1 y2 y3 y4 y5 q1 q2 q3 HX
  go_wp2
  refine bodyPost_ret (Tr.results_cell2t rfl _ _ (w.heap.size + 1) 28 _ (0, 0) _ (w.heap.size + 1 + 1) 32 _ (0, 0) _ rfl HE.out.1 Tryd.underlying28 rfl size56 rfl HE.out.2.1 Tryd.underlying32 rfl size59) rfl ?_
  exact ⟨rfl, HE.out.2.2⟩
end Go.Proofs.YtbdgbefjmfcgcaaDoor.Ix
