import Derived.Test.YtckbbbcjpklnmaaDoorIxR
import Derived.Test.YtckbbbcjpklnmaaDoorCfM
import Derived.Test.YtckbbbcjpklnmaaDoorWrM
namespace Go.Proofs.YtckbbbcjpklnmaaDoor.Ix
open Go.RowKit Go.Lib Go.Deep

theorem seg_seg (l : List UInt8) (a n b m : Nat) (h : b + m ≤ n) : seg (seg l a n) b m = seg l (a + b) m := by
  unfold seg
  rw [List.drop_take, List.take_take, List.drop_drop]
  congr 1
  omega
set_option maxRecDepth 20000 in
set_option maxHeartbeats 1000000 in
theorem readAt_any (i p : Nat) (s : ByteArray) (hs : s.size = 26) (hi : i ≤ 5) (w : World) (hp : w.cell? ⟨p, 0, none⟩ = some (.string s)) : Calls Tryd.prog 101 #[.int .i64 (i : Int), .pointer (some ⟨p, 0, none⟩)] w fun e w' => e = .returned (.int .i64 (nuL (seg s.data.toList (4 * i) 4) : Int)) ∧ w' = w := by
  obtain ⟨x, hx⟩ : ∃ x, (s.extract (4 * i) 26).extract 0 4 = x := ⟨_, rfl⟩
  have hx0 : (s.extract (4 * i) 26).size = 26 - 4 * i := by rw [ByteArray.size_extract]; omega
  have hx1 : x.size ≤ 6 := by rw [← hx, ByteArray.size_extract]; omega
  have K := readNumber_any x hx1 w
  have e : x.data.toList = seg s.data.toList (4 * i) 4 := by
    rw [← hx, ext_seg _ 0 4 (by omega) (by omega), str_data, ext_seg s (4 * i) 26 (by omega) (by omega), str_data, seg_seg _ _ _ _ _ (by omega)]
    rfl
  rw [← e]
  clear e
  go_enter Tryd.func101, Tryd.ntmps101
  go_wp2_with fail
  refine K.mono ?_
  rintro e w1 ⟨rfl, rfl⟩
  go_wp2
  go_ret
  exact ⟨rfl, rfl⟩
def rc26 (l : List UInt8) : Cn := ⟨nuL (seg l 0 4), nuL (seg l 4 4), nuL (seg l 8 4), nuL (seg l 12 4), nuL (seg l 16 4), nuL (seg l 20 4)⟩
theorem size23 : (Tryd.prog.info? 23).map (·.size) = some 6 := by kernel_rfl
set_option maxRecDepth 20000 in
set_option maxHeartbeats 1000000 in
theorem readConfig_any (s : ByteArray) (hs : s.size = 26) (w : World) : Calls Tryd.prog 68 #[.string s] w fun e w' => e = .returned (cfV (rc26 s.data.toList).cf) ∧ Below w.heap.size w w' := by
  obtain ⟨V, hV, hbV, hV1, hV2⟩ := two_new w #[.string s] #[.int .i64 0, .int .i64 0, .int .i64 0, .int .i64 0, .int .i64 0, .int .i64 0] 9 23
  have hp : V.cell? ⟨w.heap.size, 0, none⟩ = some (.string s) := (cell_of_heap hV1).trans rfl
  have K0 : Calls Tryd.prog 101 #[.int .i64 0, .pointer (some ⟨w.heap.size, 0, none⟩)] V fun e w' => e = .returned (.int .i64 (nuL (seg s.data.toList 0 4) : Int)) ∧ w' = V := readAt_any 0 _ s hs (by omega) V hp
  have K1 : Calls Tryd.prog 101 #[.int .i64 1, .pointer (some ⟨w.heap.size, 0, none⟩)] V fun e w' => e = .returned (.int .i64 (nuL (seg s.data.toList 4 4) : Int)) ∧ w' = V := readAt_any 1 _ s hs (by omega) V hp
  have K2 : Calls Tryd.prog 101 #[.int .i64 2, .pointer (some ⟨w.heap.size, 0, none⟩)] V fun e w' => e = .returned (.int .i64 (nuL (seg s.data.toList 8 4) : Int)) ∧ w' = V := readAt_any 2 _ s hs (by omega) V hp
  have K3 : Calls Tryd.prog 101 #[.int .i64 3, .pointer (some ⟨w.heap.size, 0, none⟩)] V fun e w' => e = .returned (.int .i64 (nuL (seg s.data.toList 12 4) : Int)) ∧ w' = V := readAt_any 3 _ s hs (by omega) V hp
  have K4 : Calls Tryd.prog 101 #[.int .i64 4, .pointer (some ⟨w.heap.size, 0, none⟩)] V fun e w' => e = .returned (.int .i64 (nuL (seg s.data.toList 16 4) : Int)) ∧ w' = V := readAt_any 4 _ s hs (by omega) V hp
  have K5 : Calls Tryd.prog 101 #[.int .i64 5, .pointer (some ⟨w.heap.size, 0, none⟩)] V fun e w' => e = .returned (.int .i64 (nuL (seg s.data.toList 20 4) : Int)) ∧ w' = V := readAt_any 5 _ s hs (by omega) V hp
  unfold cfV cfA Cn.cf rc26
  simp only
  generalize nuL (seg s.data.toList 0 4) = n0 at *
  generalize nuL (seg s.data.toList 4 4) = n1 at *
  generalize nuL (seg s.data.toList 8 4) = n2 at *
  generalize nuL (seg s.data.toList 12 4) = n3 at *
  generalize nuL (seg s.data.toList 16 4) = n4 at *
  generalize nuL (seg s.data.toList 20 4) = n5 at *
  have g0 : V.cell? ⟨w.heap.size + 1, 0, none⟩ = some (.int .i64 0) := (cell_of_heap hV2).trans rfl
  have g1 : V.cell? ⟨w.heap.size + 1, 1, none⟩ = some (.int .i64 0) := (cell_of_heap hV2).trans rfl
  have g2 : V.cell? ⟨w.heap.size + 1, 2, none⟩ = some (.int .i64 0) := (cell_of_heap hV2).trans rfl
  have g3 : V.cell? ⟨w.heap.size + 1, 3, none⟩ = some (.int .i64 0) := (cell_of_heap hV2).trans rfl
  have g4 : V.cell? ⟨w.heap.size + 1, 4, none⟩ = some (.int .i64 0) := (cell_of_heap hV2).trans rfl
  have g5 : V.cell? ⟨w.heap.size + 1, 5, none⟩ = some (.int .i64 0) := (cell_of_heap hV2).trans rfl
  have fz : ∀ j, V.frozen? ⟨w.heap.size + 1, j, none⟩ = false := fun j => frozen_of_heap hV2
  have HE := Tr.put6A hV2 (y0 := .int .i64 (n0 : Int)) (y1 := .int .i64 (n1 : Int)) (y2 := .int .i64 (n2 : Int)) (y3 := .int .i64 (n3 : Int)) (y4 := .int .i64 (n4 : Int)) (y5 := .int .i64 (n5 : Int))
  have HB : Hid (Below w.heap.size w ((((((V.setCell ⟨w.heap.size + 1, 0, none⟩ (.int .i64 (n0 : Int))).setCell ⟨w.heap.size + 1, 1, none⟩ (.int .i64 (n1 : Int))).setCell ⟨w.heap.size + 1, 2, none⟩ (.int .i64 (n2 : Int))).setCell ⟨w.heap.size + 1, 3, none⟩ (.int .i64 (n3 : Int))).setCell ⟨w.heap.size + 1, 4, none⟩ (.int .i64 (n4 : Int))).setCell ⟨w.heap.size + 1, 5, none⟩ (.int .i64 (n5 : Int)))) :=
    (((((hbV.setCell (by simp) _).setCell (by simp) _).setCell (by simp) _).setCell (by simp) _).setCell (by simp) _).setCell (by simp) _
  clear hbV hV1 hV2 hp hs
  go_enter Tryd.func68, Tryd.ntmps68
  go_wp2_with fail
  refine K0.mono ?_
  rintro e w1 ⟨rfl, rfl⟩
  go_wp2_with fail
  refine K1.mono ?_
  rintro e w1 ⟨rfl, rfl⟩
  go_wp2_with fail
  refine K2.mono ?_
  rintro e w1 ⟨rfl, rfl⟩
  go_wp2_with fail
  refine K3.mono ?_
  rintro e w1 ⟨rfl, rfl⟩
  go_wp2_with fail
  refine K4.mono ?_
  rintro e w1 ⟨rfl, rfl⟩
  go_wp2_with fail
  refine K5.mono ?_
  rintro e w1 ⟨rfl, rfl⟩
  go_wp2
  exact bodyPost_ret (Tr.results_cell1 rfl _ _ (w.heap.size + 1) 23 _ (0, 0) _ rfl HE Tryd.underlying23 rfl size23) rfl ⟨rfl, HB.out⟩
set_option maxRecDepth 20000 in
set_option maxHeartbeats 1000000 in
theorem areRefs_any (c : Cn) (hc : c.In) (R : List Rf) (hR : R.length ≤ 1099511000000) (w : World) (hT : RT w) (av : Option Addr) (n k : Nat) (hS : See w 2 (.slice av n k) n (rfsC R)) (hn : R.length = n) :
    Calls Tryd.prog 41 #[cfV c.cf, .slice av n k] w fun e w' => e = .returned (.bool (R.all (fun r => decide (r.nm.size = 16 ∧ r.tg.size = 16)) && decide (R.length = c.pgs))) ∧ Below w.heap.size w w' := by
  obtain ⟨sl, fl, dr, mf, ls, pg⟩ := c
  have KP := fun X hX => pageCount_any sl fl dr mf ls pg hc X hX
  obtain ⟨M, hM⟩ : ∃ M, Cn.pgs ⟨sl, fl, dr, mf, ls, pg⟩ = M := ⟨_, rfl⟩
  rw [hM] at KP ⊢
  clear hM hc
  obtain ⟨V, hV, hbV, hVs, hVC⟩ := cf_new w sl fl dr mf ls pg
  obtain ⟨-, y0, y1, y2, y3, y4, y5⟩ := hVC V (Below.refl _ _)
  have HC : Hid (∀ X, Below V.heap.size V X → X.cell? ⟨w.heap.size, 0, none⟩ = some (.int .i64 (sl : Int)) ∧ X.cell? ⟨w.heap.size, 1, none⟩ = some (.int .i64 (fl : Int)) ∧ X.cell? ⟨w.heap.size, 2, none⟩ = some (.int .i64 (dr : Int)) ∧ X.cell? ⟨w.heap.size, 3, none⟩ = some (.int .i64 (mf : Int)) ∧ X.cell? ⟨w.heap.size, 4, none⟩ = some (.int .i64 (ls : Int)) ∧ X.cell? ⟨w.heap.size, 5, none⟩ = some (.int .i64 (pg : Int))) := fun X hX => (hVC X hX).2
  have HT : Hid (∀ X, Below V.heap.size V X → RT X) := fun X hX => (hT.next hbV).next hX
  have HB : Hid (∀ X, Below V.heap.size V X → Below w.heap.size w X) := fun X hX => hbV.trans (hX.mono hbV.size)
  have HS : Hid (∀ X, Below V.heap.size V X → See X 2 (.slice av n k) n (rfsC R)) := fun X hX => (hS.below hbV).below hX
  unfold cfV cfA Cn.cf
  simp only
  obtain ⟨Z, hZ⟩ : ∃ Z, (R.all (fun r => decide (r.nm.size = 16 ∧ r.tg.size = 16)) && decide (R.length = M)) = Z := ⟨_, rfl⟩
  rw [hZ]
  have HZ : Hid ((R.all (fun r => decide (r.nm.size = 16 ∧ r.tg.size = 16)) && decide (R.length = M)) = Z) := hZ
  clear hZ hVC hT hbV hVs hS
  go_enter Tryd.func41, Tryd.ntmps41
  go_wp2_with fail
  go_loopg [9] n (fun gk iv wr => ∃ i : Nat, i + gk = n ∧ iv = .int .i64 (i : Int) ∧ Hid (Below V.heap.size V wr) ∧ Hid (∀ r ∈ R.take i, r.nm.size = 16 ∧ r.tg.size = 16))
  case atStart => exact ⟨0, by omega, rfl, Below.refl _ _, fun r hr => by simp at hr⟩
  case round =>
    obtain ⟨i, hik, rfl, hbr, hpre⟩ := hrel
    by_cases hlt : i < n
    · have hltI : (i : Int) < (n : Int) := by omega
      obtain ⟨x, hx⟩ : ∃ x, R[i]? = some x := ⟨_, List.getElem?_eq_getElem (by omega)⟩
      obtain ⟨b, off, rfl, hbl, hcc⟩ := (HS.out wr hbr.out).row rfC_len (by decide) hx
      obtain ⟨nm, tg⟩ := x
      have c0 : wr.cell? ⟨b, off + i * 2, none⟩ = some (.string nm) := hcc 0 _ rfl
      have c1 : wr.cell? ⟨b, off + i * 2 + 1, none⟩ = some (.string tg) := hcc 1 _ rfl
      have hb1 : Below V.heap.size V (wr.alloc (.cells #[.string nm, .string tg] 48)) := hbr.out.alloc hbr.out.size _
      have KN := isNamed_any nm tg
      by_cases h : nm.size = 16 ∧ tg.size = 16
      · rw [decide_eq_true h] at KN
        have HP : Hid (∀ r ∈ R.take (i + 1), r.nm.size = 16 ∧ r.tg.size = 16) := fun r hr => by
          rw [List.take_add_one, hx] at hr
          rcases List.mem_append.1 hr with hr | hr
          · exact hpre.out r hr
          · simp at hr
            rw [hr]
            exact h
        have HB1 : Hid _ := hb1
        clear hcc hx h hpre hb1
        go_wp2_with fail
        refine (KN _).mono ?_
        rintro e w1 ⟨rfl, rfl⟩
        go_wp2
        go_roundg (gk - 1)
        case measure => omega
        case rel => exact ⟨i + 1, by omega, rfl, HB1, HP⟩
      · rw [decide_eq_false h] at KN
        obtain rfl : Z = false := by
          rw [← HZ.out, Bool.and_eq_false_iff]
          left
          apply Bool.eq_false_iff.2
          intro ha
          exact h (of_decide_eq_true (List.all_eq_true.1 ha _ (List.mem_of_getElem? hx)))
        have HB1 : Hid _ := HB.out _ hb1
        clear hcc hx h hpre hb1 HZ
        go_wp2_with fail
        refine (KN _).mono ?_
        rintro e w1 ⟨rfl, rfl⟩
        go_wp2
        go_ret
        exact ⟨rfl, HB1.out⟩
    · obtain rfl : i = n := by omega
      have hltI : ¬ (i : Int) < (i : Int) := by omega
      obtain ⟨z0, z1, z2, z3, z4, z5⟩ := HC.out wr hbr.out
      have HF : Hid (((i : Int) == (M : Int)) = Z) := by
        show _ = _
        rw [← HZ.out, hn]
        have h1 : R.all (fun r => decide (r.nm.size = 16 ∧ r.tg.size = 16)) = true := List.all_eq_true.2 fun r hr => decide_eq_true (hpre.out r (by rw [List.take_of_length_le (by omega)]; exact hr))
        rw [h1, Bool.true_and]
        by_cases e : i = M
        · rw [decide_eq_true e, e]
          exact beq_self_eq_true _
        · rw [decide_eq_false e]
          exact beq_false_of_ne (by omega)
      clear HZ hpre
      go_wp2_with fail
      refine (KP _ (HT.out _ hbr.out)).mono ?_
      rintro e w1 ⟨rfl, hb1⟩
      have HB1 : Hid _ := HB.out _ (hbr.out.trans (hb1.mono hbr.out.size))
      clear hb1
      go_wp2
      go_ret
      exact ⟨by rw [← HF.out]; rfl, HB1.out⟩
end Go.Proofs.YtckbbbcjpklnmaaDoor.Ix
