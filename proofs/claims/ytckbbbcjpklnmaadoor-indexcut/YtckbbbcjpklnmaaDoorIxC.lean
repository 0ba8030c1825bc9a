import Derived.Test.YtckbbbcjpklnmaaDoorIxM
import Derived.Deep.LoopGhost
namespace Go.Proofs.YtckbbbcjpklnmaaDoor.Ix
open Go.RowKit Go.Lib Go.Deep

theorem isFrom_any (n a b : Int) (w : World) : Calls Tryd.prog 60 #[.int .i64 n, .int .i64 a, .int .i64 b] w fun e w' => e = .returned (.bool (decide (a ≤ n ∧ n ≤ b))) ∧ w' = w := by
  by_cases h1 : a ≤ n
  · by_cases h2 : n ≤ b
    · rw [decide_eq_true (show a ≤ n ∧ n ≤ b from ⟨h1, h2⟩)]
      go_enter Tryd.func60, Tryd.ntmps60
      go_wp2
      go_ret
      exact ⟨rfl, rfl⟩
    · rw [decide_eq_false (show ¬ (a ≤ n ∧ n ≤ b) from fun h => h2 h.2)]
      go_enter Tryd.func60, Tryd.ntmps60
      go_wp2
      go_ret
      exact ⟨rfl, rfl⟩
  · rw [decide_eq_false (show ¬ (a ≤ n ∧ n ≤ b) from fun h => h1 h.1)]
    go_enter Tryd.func60, Tryd.ntmps60
    go_wp2
    go_ret
    exact ⟨rfl, rfl⟩
theorem rowsOf_any (sl fl dr mf ls pg : Nat) (hc : Cn.In ⟨sl, fl, dr, mf, ls, pg⟩) (w : World) : Calls Tryd.prog 72 #[.agg #[.int .i64 (sl : Int), .int .i64 (fl : Int), .int .i64 (dr : Int), .int .i64 (mf : Int), .int .i64 (ls : Int), .int .i64 (pg : Int)]] w fun e w' => e = .returned (.int .i64 ((fl + sl : Nat) : Int)) ∧ Below w.heap.size w w' := by
  have h1 : sl ≤ 64 := hc.2.1
  have h2 : fl ≤ 65536 := hc.2.2.2.1
  clear hc
  go_enter Tryd.func72, Tryd.ntmps72
  go_wp2
  go_ret
  exact ⟨by simp, (Below.refl _ _).alloc (Nat.le_refl _) _⟩
theorem bodySize_any (sl fl dr mf ls pg : Nat) (hc : Cn.In ⟨sl, fl, dr, mf, ls, pg⟩) (w : World) : Calls Tryd.prog 62 #[.agg #[.int .i64 (sl : Int), .int .i64 (fl : Int), .int .i64 (dr : Int), .int .i64 (mf : Int), .int .i64 (ls : Int), .int .i64 (pg : Int)]] w fun e w' => e = .returned (.int .i64 ((pg - 5 : Nat) : Int)) ∧ Below w.heap.size w w' := by
  have h1 : 64 ≤ pg := hc.2.2.2.2.2.2.2.2.1
  have h2 : pg ≤ 65536 := hc.2.2.2.2.2.2.2.2.2
  clear hc
  have e : ((pg - 5 : Nat) : Int) = (pg : Int) - 5 := by omega
  rw [e]
  go_enter Tryd.func62, Tryd.ntmps62
  go_wp2
  go_ret
  exact ⟨rfl, (Below.refl _ _).alloc (Nat.le_refl _) _⟩
def rcA (fl sl dr : Nat) : Array Value := #[.int .i64 (dr : Int), .int .i64 (fl : Int), .int .i64 ((fl + sl : Nat) : Int), .int .i64 ((1 + (fl + sl) : Nat) : Int)]
theorem cf_new (w : World) (sl fl dr mf ls pg : Nat) : ∃ V, w.alloc (.cells #[.int .i64 (sl : Int), .int .i64 (fl : Int), .int .i64 (dr : Int), .int .i64 (mf : Int), .int .i64 (ls : Int), .int .i64 (pg : Int)] 23) = V ∧ Below w.heap.size w V ∧ V.heap.size = w.heap.size + 1 ∧ ∀ X, Below V.heap.size V X → Below V.heap.size V X ∧ X.cell? ⟨w.heap.size, 0, none⟩ = some (.int .i64 (sl : Int)) ∧ X.cell? ⟨w.heap.size, 1, none⟩ = some (.int .i64 (fl : Int)) ∧ X.cell? ⟨w.heap.size, 2, none⟩ = some (.int .i64 (dr : Int)) ∧ X.cell? ⟨w.heap.size, 3, none⟩ = some (.int .i64 (mf : Int)) ∧ X.cell? ⟨w.heap.size, 4, none⟩ = some (.int .i64 (ls : Int)) ∧ X.cell? ⟨w.heap.size, 5, none⟩ = some (.int .i64 (pg : Int)) := by
  refine ⟨_, rfl, (Below.refl _ _).alloc (Nat.le_refl _) _, by simp, fun X hX => ?_⟩
  have h : X.heap[w.heap.size]? = some (.cells #[.int .i64 (sl : Int), .int .i64 (fl : Int), .int .i64 (dr : Int), .int .i64 (mf : Int), .int .i64 (ls : Int), .int .i64 (pg : Int)] 23 (0, 0)) := (hX.block _ (by simp)).trans (heap_new w _)
  exact ⟨hX, (cell_of_heap h).trans rfl, (cell_of_heap h).trans rfl, (cell_of_heap h).trans rfl, (cell_of_heap h).trans rfl, (cell_of_heap h).trans rfl, (cell_of_heap h).trans rfl⟩
theorem size147 : (Tryd.prog.info? 147).map (·.size) = some 4 := by kernel_rfl
set_option maxRecDepth 20000 in
set_option maxHeartbeats 1000000 in
theorem rowCounts_any (sl fl dr mf ls pg : Nat) (hc : Cn.In ⟨sl, fl, dr, mf, ls, pg⟩) (w : World) : Calls Tryd.prog 99 #[.agg #[.int .i64 (sl : Int), .int .i64 (fl : Int), .int .i64 (dr : Int), .int .i64 (mf : Int), .int .i64 (ls : Int), .int .i64 (pg : Int)]] w fun e w' => e = .returned (.agg (rcA fl sl dr)) ∧ Below w.heap.size w w' := by
  have KR0 := fun V => rowsOf_any sl fl dr mf ls pg hc V
  have h1 : sl ≤ 64 := hc.2.1
  have h2 : fl ≤ 65536 := hc.2.2.2.1
  clear hc
  obtain ⟨V, hV, hbV, hV1, hV2⟩ := two_new w #[.int .i64 (sl : Int), .int .i64 (fl : Int), .int .i64 (dr : Int), .int .i64 (mf : Int), .int .i64 (ls : Int), .int .i64 (pg : Int)] #[.int .i64 0, .int .i64 0, .int .i64 0, .int .i64 0] 23 147
  have KR : Hid (∀ X, Below V.heap.size V X → Calls Tryd.prog 72 #[.agg #[.int .i64 (sl : Int), .int .i64 (fl : Int), .int .i64 (dr : Int), .int .i64 (mf : Int), .int .i64 (ls : Int), .int .i64 (pg : Int)]] X fun e w' => e = .returned (.int .i64 ((fl + sl : Nat) : Int)) ∧ Below V.heap.size V w') := fun X hX => by
    refine (KR0 X).mono ?_
    rintro e w' ⟨rfl, hb⟩
    exact ⟨rfl, hX.trans (hb.mono hX.size)⟩
  have l1 := heap_lt hV1
  have l2 := heap_lt hV2
  have HZ : Hid (∀ X, Below V.heap.size V X → X.cell? ⟨w.heap.size + 1, 0, none⟩ = some (.int .i64 0) ∧ X.cell? ⟨w.heap.size + 1, 1, none⟩ = some (.int .i64 0) ∧ X.cell? ⟨w.heap.size + 1, 2, none⟩ = some (.int .i64 0) ∧ X.cell? ⟨w.heap.size + 1, 3, none⟩ = some (.int .i64 0) ∧ X.frozen? ⟨w.heap.size + 1, 0, none⟩ = false ∧ X.frozen? ⟨w.heap.size + 1, 1, none⟩ = false ∧ X.frozen? ⟨w.heap.size + 1, 2, none⟩ = false ∧ X.frozen? ⟨w.heap.size + 1, 3, none⟩ = false) := fun X hX => by
    have g2 := (hX.block _ l2).trans hV2
    exact ⟨(cell_of_heap g2).trans rfl, (cell_of_heap g2).trans rfl, (cell_of_heap g2).trans rfl, (cell_of_heap g2).trans rfl, frozen_of_heap g2, frozen_of_heap g2, frozen_of_heap g2, frozen_of_heap g2⟩
  have HS : Hid (∀ X, Below V.heap.size V X → X.cell? ⟨w.heap.size, 0, none⟩ = some (.int .i64 (sl : Int)) ∧ X.cell? ⟨w.heap.size, 1, none⟩ = some (.int .i64 (fl : Int)) ∧ X.cell? ⟨w.heap.size, 2, none⟩ = some (.int .i64 (dr : Int)) ∧ X.cell? ⟨w.heap.size, 3, none⟩ = some (.int .i64 (mf : Int)) ∧ X.cell? ⟨w.heap.size, 4, none⟩ = some (.int .i64 (ls : Int)) ∧ X.cell? ⟨w.heap.size, 5, none⟩ = some (.int .i64 (pg : Int))) := fun X hX => by
    have g1 := (hX.block _ l1).trans hV1
    exact ⟨(cell_of_heap g1).trans rfl, (cell_of_heap g1).trans rfl, (cell_of_heap g1).trans rfl, (cell_of_heap g1).trans rfl, (cell_of_heap g1).trans rfl, (cell_of_heap g1).trans rfl⟩
  have HE : Hid (∀ X, Below V.heap.size V X → ((((X.setCell ⟨w.heap.size + 1, 0, none⟩ (.int .i64 (dr : Int))).setCell ⟨w.heap.size + 1, 1, none⟩ (.int .i64 (fl : Int))).setCell ⟨w.heap.size + 1, 2, none⟩ (.int .i64 ((fl : Int) + (sl : Int)))).setCell ⟨w.heap.size + 1, 3, none⟩ (.int .i64 (IntKind.i64.wrap (1 + ((fl : Int) + (sl : Int)))))).heap[w.heap.size + 1]? = some (.cells (rcA fl sl dr) 147 (0, 0)) ∧ Below w.heap.size w ((((X.setCell ⟨w.heap.size + 1, 0, none⟩ (.int .i64 (dr : Int))).setCell ⟨w.heap.size + 1, 1, none⟩ (.int .i64 (fl : Int))).setCell ⟨w.heap.size + 1, 2, none⟩ (.int .i64 ((fl : Int) + (sl : Int)))).setCell ⟨w.heap.size + 1, 3, none⟩ (.int .i64 (IntKind.i64.wrap (1 + ((fl : Int) + (sl : Int))))))) := fun X hX => by
    refine ⟨(Tr.put4A ((hX.block _ l2).trans hV2)).trans ?_, ?_⟩
    · unfold rcA
      rw [show IntKind.i64.wrap (1 + ((fl : Int) + (sl : Int))) = ((1 + (fl + sl) : Nat) : Int) by rw [IntKind.wrap_i64]; omega, show (fl : Int) + (sl : Int) = ((fl + sl : Nat) : Int) by omega]
    · have h0 := hbV.trans (hX.mono hbV.size)
      exact (((h0.setCell (by simp) _).setCell (by simp) _).setCell (by simp) _).setCell (by simp) _
  have XD : Below V.heap.size V V.drew := (Below.refl _ _).drew
  clear hbV hV1 hV2
  go_enter Tryd.func99, Tryd.ntmps99
  go_wp2_with fail
  clear hV
  go_region_held_law (fun X => X.cell? ⟨w.heap.size, 0, none⟩ = some (.int .i64 (sl : Int)) ∧ X.cell? ⟨w.heap.size, 1, none⟩ = some (.int .i64 (fl : Int)) ∧ X.cell? ⟨w.heap.size, 2, none⟩ = some (.int .i64 (dr : Int)) ∧ X.cell? ⟨w.heap.size, 3, none⟩ = some (.int .i64 (mf : Int)) ∧ X.cell? ⟨w.heap.size, 4, none⟩ = some (.int .i64 (ls : Int)) ∧ X.cell? ⟨w.heap.size, 5, none⟩ = some (.int .i64 (pg : Int))) (first | exact HS.out _ (by assumption) | go_keep) (first | (go_at_call 72; refine (KR.out _ (by assumption)).mono ?_; rintro e w5 ⟨rfl, hb5⟩; obtain ⟨z0, z1, z2, z3, y0, y1, y2, y3⟩ := HZ.out w5 hb5))
  all_goals
    obtain ⟨E1, E2⟩ := HE.out w5 hb5
    clear HE HS HZ KR
    go_wp2
    exact bodyPost_ret (Tr.results_cell1 rfl _ _ (w.heap.size + 1) 147 _ (0, 0) _ rfl E1 Tryd.underlying147 rfl size147) rfl ⟨rfl, E2⟩
/-- the image's pieces, by their numbers -/
def staL (fl sl dr : Nat) : Nat → Nat
  | 0 => 0
  | 1 => 36 * dr
  | 2 => 36 * dr + 40 * fl
  | 3 => 36 * dr + 40 * fl + 40 * (fl + sl)
  | _ => 36 * dr + 40 * fl + 40 * (fl + sl) + 4 * (1 + (fl + sl))
set_option maxRecDepth 20000 in
set_option maxHeartbeats 1000000 in
theorem startOf_any (sl fl dr mf ls pg p : Nat) (hp : p ≤ 4) (hc : Cn.In ⟨sl, fl, dr, mf, ls, pg⟩) (w : World) (hT : RT w) : Calls Tryd.prog 61 #[.agg #[.int .i64 (sl : Int), .int .i64 (fl : Int), .int .i64 (dr : Int), .int .i64 (mf : Int), .int .i64 (ls : Int), .int .i64 (pg : Int)], .int .i64 (p : Int)] w fun e w' => e = .returned (.int .i64 (staL fl sl dr p : Int)) ∧ Below w.heap.size w w' := by
  have KR0 := fun V => rowCounts_any sl fl dr mf ls pg hc V
  have h1 : sl ≤ 64 := hc.2.1
  have h2 : fl ≤ 65536 := hc.2.2.2.1
  have h3 : dr ≤ 4096 := hc.2.2.2.2.1
  clear hc
  unfold rcA at KR0
  obtain ⟨R, hR⟩ : ∃ R, fl + sl = R := ⟨_, rfl⟩
  have HR : Hid (fl + sl = R) := hR
  have hR1 : R ≤ 65600 := by omega
  rw [hR] at KR0
  clear hR
  go_enter Tryd.func61, Tryd.ntmps61
  go_wp2_with fail
  refine (KR0 _).mono ?_
  rintro e w1 ⟨rfl, hb1⟩
  have HRT : Hid (RT w1) := (hT.next ((Below.refl _ _).alloc (Nat.le_refl _) _)).next hb1
  obtain ⟨V, hV, hbV, hV1⟩ := one_new w1 #[.int .i64 (dr : Int), .int .i64 (fl : Int), .int .i64 (R : Int), .int .i64 (1 + (R : Int))] 147
  have l1 := heap_lt hV1
  have HC : Hid (∀ X, Below V.heap.size V X → RT X ∧ X.heap[w1.heap.size]? = some (.cells #[.int .i64 (dr : Int), .int .i64 (fl : Int), .int .i64 (R : Int), .int .i64 (1 + (R : Int))] 147 (0, 0))) := fun X hX => ⟨(HRT.out.next hbV).next hX, (hX.block _ l1).trans hV1⟩
  have HB : Hid (∀ X, Below V.heap.size V X → Below w.heap.size w X) := fun X hX => by
    have h0 : Below w.heap.size w w1 := ((Below.refl _ _).alloc (Nat.le_refl _) _).trans (hb1.mono (by simp))
    have h1 := h0.trans (hbV.mono h0.size)
    exact h1.trans (hX.mono h1.size)
  clear hbV hV1 HRT hb1 hT
  go_wp2_with fail
  go_loopg [5, 11] p (fun gk sv iv wr => ∃ k : Nat, k + gk = p ∧ sv = .int .i64 (staL fl sl dr k : Int) ∧ iv = .int .i64 (k : Int) ∧ Hid (Below V.heap.size V wr))
  case atStart => exact ⟨0, by omega, rfl, rfl, Below.refl _ _⟩
  case round =>
    obtain ⟨k, hk, rfl, rfl, hbr⟩ := hrel
    by_cases hlt : k < p
    · obtain ⟨hX1, hX2⟩ := HC.out wr hbr.out
      obtain ⟨t0, t1, t2, t3⟩ := hX1.cells
      have e0 : wr.cell? ⟨w1.heap.size, 0, none⟩ = some (.int .i64 (dr : Int)) := (cell_of_heap hX2).trans rfl
      have e1 : wr.cell? ⟨w1.heap.size, 1, none⟩ = some (.int .i64 (fl : Int)) := (cell_of_heap hX2).trans rfl
      have e2 : wr.cell? ⟨w1.heap.size, 2, none⟩ = some (.int .i64 (R : Int)) := (cell_of_heap hX2).trans rfl
      have e3 : wr.cell? ⟨w1.heap.size, 3, none⟩ = some (.int .i64 (1 + (R : Int))) := (cell_of_heap hX2).trans rfl
      have hltI : (k : Int) < (p : Int) := by omega
      obtain ⟨s0, hs0⟩ : ∃ s0 : Nat, staL fl sl dr k = s0 := ⟨_, rfl⟩
      rw [hs0]
      clear hX1 hX2 HC
      rcases (show k = 0 ∨ k = 1 ∨ k = 2 ∨ k = 3 by omega) with rfl | rfl | rfl | rfl
      · have hs1 : 0 = s0 := hs0
        have hs2 : s0 ≤ 6000000 := by omega
        have HE : Hid ((staL fl sl dr 1 : Int) = (s0 : Int) + (dr : Int) * 36) := by
          have := HR.out
          show ((36 * dr : Nat) : Int) = _
          omega
        clear hs0 hs1
        go_wp2_with fail
        go_quiet (fail)
        go_wp2
        go_roundg (gk - 1)
        case measure => omega
        case rel => exact ⟨1, by omega, by rw [HE.out], rfl, bdr hbr.out _⟩
      · have hs1 : 36 * dr = s0 := hs0
        have hs2 : s0 ≤ 6000000 := by omega
        have HE : Hid ((staL fl sl dr 2 : Int) = (s0 : Int) + (fl : Int) * 40) := by
          have := HR.out
          show ((36 * dr + 40 * fl : Nat) : Int) = _
          omega
        clear hs0 hs1
        go_wp2_with fail
        go_quiet (fail)
        go_wp2
        go_roundg (gk - 1)
        case measure => omega
        case rel => exact ⟨2, by omega, by rw [HE.out], rfl, bdr hbr.out _⟩
      · have hs1 : 36 * dr + 40 * fl = s0 := hs0
        have hs2 : s0 ≤ 6000000 := by omega
        have HE : Hid ((staL fl sl dr 3 : Int) = (s0 : Int) + (R : Int) * 40) := by
          have := HR.out
          show ((36 * dr + 40 * fl + 40 * (fl + sl) : Nat) : Int) = _
          omega
        clear hs0 hs1
        go_wp2_with fail
        go_quiet (fail)
        go_wp2
        go_roundg (gk - 1)
        case measure => omega
        case rel => exact ⟨3, by omega, by rw [HE.out], rfl, bdr hbr.out _⟩
      · have hs1 : 36 * dr + 40 * fl + 40 * (fl + sl) = s0 := hs0
        have hs2 : s0 ≤ 6000000 := by omega
        have HE : Hid ((staL fl sl dr 4 : Int) = (s0 : Int) + (1 + (R : Int)) * 4) := by
          have := HR.out
          show ((36 * dr + 40 * fl + 40 * (fl + sl) + 4 * (1 + (fl + sl)) : Nat) : Int) = _
          omega
        clear hs0 hs1
        go_wp2_with fail
        go_quiet (fail)
        go_wp2
        go_roundg (gk - 1)
        case measure => omega
        case rel => exact ⟨4, by omega, by rw [HE.out], rfl, bdr hbr.out _⟩
    · obtain rfl : k = p := by omega
      have hltI : ¬ (k : Int) < (k : Int) := by omega
      go_wp2
      go_ret
      exact ⟨rfl, HB.out _ hbr.out⟩
theorem staL_len (sl fl dr mf ls pg : Nat) : staL fl sl dr 4 = Cn.len ⟨sl, fl, dr, mf, ls, pg⟩ := by
  show 36 * dr + 40 * fl + 40 * (fl + sl) + 4 * (1 + (fl + sl)) = 36 * dr + 40 * fl + 44 * (fl + sl) + 4
  omega
set_option maxRecDepth 20000 in
set_option maxHeartbeats 1000000 in
theorem pageCount_any (sl fl dr mf ls pg : Nat) (hc : Cn.In ⟨sl, fl, dr, mf, ls, pg⟩) (w : World) (hT : RT w) : Calls Tryd.prog 38 #[.agg #[.int .i64 (sl : Int), .int .i64 (fl : Int), .int .i64 (dr : Int), .int .i64 (mf : Int), .int .i64 (ls : Int), .int .i64 (pg : Int)]] w fun e w' => e = .returned (.int .i64 (Cn.pgs ⟨sl, fl, dr, mf, ls, pg⟩ : Int)) ∧ Below w.heap.size w w' := by
  obtain ⟨V, hV, hbV, hVs, hV1⟩ := cf_new w sl fl dr mf ls pg
  obtain ⟨b1, b2, b3, b4, -⟩ := hc.len
  obtain ⟨L, hL⟩ : ∃ L, Cn.len ⟨sl, fl, dr, mf, ls, pg⟩ = L := ⟨_, rfl⟩
  obtain ⟨B, hB⟩ : ∃ B, Cn.body ⟨sl, fl, dr, mf, ls, pg⟩ = B := ⟨_, rfl⟩
  obtain ⟨M, hM⟩ : ∃ M, (L + B - 1) / B = M := ⟨_, rfl⟩
  have HM : Hid (((L : Int) + (B : Int) - 1) / (B : Int) = (M : Int)) := by
    show _ = _
    rw [← hM, Int.natCast_ediv]
    congr 1
    omega
  rw [hL] at b1 b2
  rw [hB] at b3 b4
  have e : Cn.pgs ⟨sl, fl, dr, mf, ls, pg⟩ = M := by
    show (Cn.len _ + Cn.body _ - 1) / Cn.body _ = M
    rw [hL, hB, hM]
  rw [e]
  have K1 : Hid (∀ X, Below V.heap.size V X → Calls Tryd.prog 61 #[.agg #[.int .i64 (sl : Int), .int .i64 (fl : Int), .int .i64 (dr : Int), .int .i64 (mf : Int), .int .i64 (ls : Int), .int .i64 (pg : Int)], .int .i64 4] X fun e w' => e = .returned (.int .i64 (L : Int)) ∧ Below V.heap.size V w') := fun X hX => by
    refine (startOf_any sl fl dr mf ls pg 4 (Nat.le_refl _) hc X ((hT.next hbV).next hX)).mono ?_
    rintro e w' ⟨rfl, hb⟩
    exact ⟨by rw [staL_len sl fl dr mf ls pg, hL], hX.trans (hb.mono hX.size)⟩
  have K2 : Hid (∀ X, Below V.heap.size V X → Calls Tryd.prog 62 #[.agg #[.int .i64 (sl : Int), .int .i64 (fl : Int), .int .i64 (dr : Int), .int .i64 (mf : Int), .int .i64 (ls : Int), .int .i64 (pg : Int)]] X fun e w' => e = .returned (.int .i64 (B : Int)) ∧ Below V.heap.size V w') := fun X hX => by
    refine (bodySize_any sl fl dr mf ls pg hc X).mono ?_
    rintro e w' ⟨rfl, hb⟩
    exact ⟨by rw [← hB]; rfl, hX.trans (hb.mono hX.size)⟩
  have HV : Hid (∀ X, Below V.heap.size V X → Below w.heap.size w X) := fun X hX => hbV.trans (hX.mono hbV.size)
  have XD : Below V.heap.size V V.drew := (Below.refl _ _).drew
  have HS : Hid (∀ X, Below V.heap.size V X → X.cell? ⟨w.heap.size, 0, none⟩ = some (.int .i64 (sl : Int)) ∧ X.cell? ⟨w.heap.size, 1, none⟩ = some (.int .i64 (fl : Int)) ∧ X.cell? ⟨w.heap.size, 2, none⟩ = some (.int .i64 (dr : Int)) ∧ X.cell? ⟨w.heap.size, 3, none⟩ = some (.int .i64 (mf : Int)) ∧ X.cell? ⟨w.heap.size, 4, none⟩ = some (.int .i64 (ls : Int)) ∧ X.cell? ⟨w.heap.size, 5, none⟩ = some (.int .i64 (pg : Int))) := fun X hX => (hV1 X hX).2
  clear hV1 hc hT hL hB hM e hbV hVs
  go_enter Tryd.func38, Tryd.ntmps38
  go_wp2_with fail
  go_region_held_law (fun X => X.cell? ⟨w.heap.size, 0, none⟩ = some (.int .i64 (sl : Int)) ∧ X.cell? ⟨w.heap.size, 1, none⟩ = some (.int .i64 (fl : Int)) ∧ X.cell? ⟨w.heap.size, 2, none⟩ = some (.int .i64 (dr : Int)) ∧ X.cell? ⟨w.heap.size, 3, none⟩ = some (.int .i64 (mf : Int)) ∧ X.cell? ⟨w.heap.size, 4, none⟩ = some (.int .i64 (ls : Int)) ∧ X.cell? ⟨w.heap.size, 5, none⟩ = some (.int .i64 (pg : Int))) (first | exact HS.out _ (by assumption) | go_keep) (first | (go_at_call 61; refine (K1.out _ (by assumption)).mono ?_; rintro e w5 ⟨rfl, hb5⟩) | (go_at_call 62; refine (K2.out _ (by assumption)).mono ?_; rintro e w5 ⟨rfl, hb5⟩))
  all_goals
    go_wp2
    go_ret
    exact ⟨by rw [HM.out]; rfl, HV.out _ hb5⟩
end Go.Proofs.YtckbbbcjpklnmaaDoor.Ix
