import Derived.Test.YtckbbbcjpklnmaaDoorIxN5
namespace Go.Proofs.YtckbbbcjpklnmaaDoor.Ix
open Go.RowKit Go.Lib Go.Deep
set_option maxRecDepth 20000 in
set_option maxHeartbeats 1000000 in
theorem counted_any (sl fl dr mf ls pg : Nat) (hc : Cn.In ⟨sl, fl, dr, mf, ls, pg⟩) (Q : List Int) (w : World) (av : Option Addr) (n k : Nat) (hS : See w 1 (.slice av n k) n (zsC Q)) (hn : Q.length = n) (hnr : n ≤ fl + sl) :
    Calls Tryd.prog 80 #[.agg #[.int .i64 (sl : Int), .int .i64 (fl : Int), .int .i64 (dr : Int), .int .i64 (mf : Int), .int .i64 (ls : Int), .int .i64 (pg : Int)], .slice av n k] w fun e w' => ∃ a k', e = .returned (.slice a (1 + (fl + sl)) k') ∧ w'.ownsRow w.heap.size 3 1 (.slice a (1 + (fl + sl)) k') (1 + (fl + sl)) (zsC (cntL ⟨sl, fl, dr, mf, ls, pg⟩ Q)) ∧ Below w.heap.size w w' := by
  have h3 : 1 ≤ sl := hc.1
  have h1 : sl ≤ 64 := hc.2.1
  have h2 : fl ≤ 65536 := hc.2.2.2.1
  obtain ⟨V, hV, hbV, g0⟩ := one_new w #[.int .i64 (sl : Int), .int .i64 (fl : Int), .int .i64 (dr : Int), .int .i64 (mf : Int), .int .i64 (ls : Int), .int .i64 (pg : Int)] 23
  have KR := rowsOf_any sl fl dr mf ls pg hc V
  obtain ⟨y0, y1, y2, y3, y4, y5⟩ := cells6 g0
  have HBV : Hid (Below w.heap.size w V) := hbV
  have HSw : Hid (See w 1 (.slice av n k) n (zsC Q)) := hS
  have HN : Hid (Q.length = n) := hn
  have HCN : Hid (cntL ⟨sl, fl, dr, mf, ls, pg⟩ Q = (n : Int) :: (Q ++ List.replicate (fl + sl - n) 0)) := by
    show _ = _
    unfold cntL Cn.rows
    rw [hn]
  obtain ⟨r, hr⟩ : ∃ r, fl + sl = r := ⟨_, rfl⟩
  rw [hr] at KR hnr HCN ⊢
  obtain ⟨t, ht⟩ : ∃ t, 1 + r = t := ⟨_, rfl⟩
  have hr1 : r ≤ 70000 := by omega
  have hmk := make_ints t (by omega)
  have hcl : (madeCells #[.int .i64 0] t).toList = zsC (List.replicate t 0) := made_ints t
  have hcs : (madeCells #[.int .i64 0] t).size = t := by rw [← Array.length_toList, hcl]; simp [zsC]
  generalize madeCells #[.int .i64 0] t = cs at *
  have hw1 : (1 : Int) + (r : Int) = (t : Int) := by omega
  have hw2 : IntKind.i64.wrap (t : Int) = (t : Int) := by rw [IntKind.wrap_i64]; omega
  have HT : Hid (1 + r = t) := ht
  have ht0 : 0 < t := by omega
  have ht1 : 1 < t := by omega
  have HCS : Hid (cs.toList = zsC (List.replicate t 0) ∧ cs.size = t) := ⟨hcl, hcs⟩
  rw [ht]
  clear hc hS hn hbV g0 hcl hcs h1 h2 h3 hr ht
  go_enter Tryd.func80, Tryd.ntmps80
  go_wp2_with fail
  refine KR.mono ?_
  rintro e w1 ⟨rfl, hb1⟩
  have HB1 : Hid (Below w.heap.size w w1) := HBV.out.trans (hb1.mono HBV.out.size)
  clear KR hb1 HBV y0 y1 y2 y3 y4 y5 hV
  obtain ⟨W2, hW2, hb2, g2⟩ := one_new w1 cs 3
  have HB2 : Hid (Below w.heap.size w W2) := HB1.out.trans (hb2.mono HB1.out.size)
  have c0 : W2.cell? ⟨w1.heap.size, 0, none⟩ = some (.int .i64 0) := by
    rw [cell_of_heap g2]
    have e : cs.toList[0]? = some (.int .i64 0) := by rw [HCS.out.1]; unfold zsC; rw [List.getElem?_map, List.getElem?_replicate, if_pos ht0]; rfl
    simpa using e
  have f0 : W2.frozen? ⟨w1.heap.size, 0, none⟩ = false := frozen_of_heap g2
  obtain ⟨W3, hW3⟩ : ∃ W3, W2.setCell ⟨w1.heap.size, 0, none⟩ (.int .i64 (n : Int)) = W3 := ⟨_, rfl⟩
  have g3 : W3.heap[w1.heap.size]? = some (.cells (cs.setIfInBounds 0 (.int .i64 (n : Int))) 3 (0, 0)) := by rw [← hW3]; exact heap_setCell_same _ _ 0 _ _ _ g2
  have HB3 : Hid (Below w.heap.size w W3) := by
    show Below _ _ _
    rw [← hW3]
    exact HB2.out.setCell HB1.out.size _
  obtain ⟨W4, hcp, g4, hb4⟩ := copy_ints (r := r) g3 (HSw.out.below HB3.out) HN.out hnr (by simp; rw [HCS.out.2]; exact HT.out.symm)
  have HB4 : Hid (Below w.heap.size w W4) := HB3.out.trans (hb4 _ HB1.out.size)
  have HO4 : Hid (W4.ownsRow w.heap.size 3 1 (.slice (some ⟨w1.heap.size, 0, none⟩) t t) t (zsC (cntL ⟨sl, fl, dr, mf, ls, pg⟩ Q))) := by
    have e : (cs.setIfInBounds 0 (.int .i64 (n : Int))).toList.take 1 ++ zsC Q ++ (cs.setIfInBounds 0 (.int .i64 (n : Int))).toList.drop (1 + n) = zsC (cntL ⟨sl, fl, dr, mf, ls, pg⟩ Q) := by
      have ht : t = r + 1 := by have := HT.out; omega
      rw [Array.toList_setIfInBounds, HCS.out.1, HCN.out, ht, List.replicate_succ]
      simp [zsC, Nat.add_comm 1 n]
    have hl : (zsC (cntL ⟨sl, fl, dr, mf, ls, pg⟩ Q)).length = t := by
      rw [HCN.out]
      have := HT.out
      simp [zsC, HN.out]
      omega
    rw [e] at g4
    refine ⟨by rw [hl, Nat.mul_one], .inr ⟨w1.heap.size, t, _, rfl, HB1.out.size, g4, Nat.le_refl _, by unfold maxLen; omega, by simpa using hl, ?_⟩⟩
    rw [List.toList_toArray]
    exact List.take_of_length_le (by omega)
  have htr : t - 1 = r := by have := HT.out; omega
  clear g2 g3 g4 hb2 hb4 HB2 HB3 HCS HCN
  go_wp2
  go_ret
  exact ⟨_, _, rfl, HO4.out, HB4.out⟩
end Go.Proofs.YtckbbbcjpklnmaaDoor.Ix
