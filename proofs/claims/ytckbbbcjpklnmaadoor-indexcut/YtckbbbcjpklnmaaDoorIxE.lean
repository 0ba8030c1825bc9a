import Derived.Test.YtckbbbcjpklnmaaDoorIxD
namespace Go.Proofs.YtckbbbcjpklnmaaDoor.Ix
open Go.RowKit Go.Lib Go.Deep

def chkE (c : Cf) : Int := if c.May then 0 else 140
def pgsY (c : Cf) : Int := if c.May then (c.n.pgs : Int) else 0
theorem check_any (c : Cf) (w : World) (hT : RT w) : Calls Tryd.prog 12 #[cfV c] w fun e w' => e = .returned (.int .i64 (chkE c)) ∧ Below w.heap.size w w' := by
  have hal : Below w.heap.size w (w.alloc (.cells (cfA c) 23)) := (Below.refl _ _).alloc (Nat.le_refl _) _
  have KM := mayBe_any c _ (hT.next hal)
  by_cases h : c.May
  · rw [decide_eq_true h] at KM
    rw [show chkE c = 0 from if_pos h]
    unfold cfV cfA at *
    clear h
    go_enter Tryd.func12, Tryd.ntmps12
    go_wp2_with fail
    refine KM.mono ?_
    rintro e w6 ⟨rfl, hb6⟩
    go_wp2
    go_ret
    exact ⟨rfl, hal.trans (hb6.mono hal.size)⟩
  · rw [decide_eq_false h] at KM
    rw [show chkE c = 140 from if_neg h]
    unfold cfV cfA at *
    clear h
    go_enter Tryd.func12, Tryd.ntmps12
    go_wp2_with fail
    refine KM.mono ?_
    rintro e w6 ⟨rfl, hb6⟩
    go_wp2
    go_ret
    exact ⟨rfl, hal.trans (hb6.mono hal.size)⟩
theorem pages_any (c : Cf) (w : World) (hT : RT w) : Calls Tryd.prog 9 #[cfV c] w fun e w' => e = .returned (.tuple #[.int .i64 (pgsY c), .int .i64 (chkE c)]) ∧ Below w.heap.size w w' := by
  have hal : Below w.heap.size w (w.alloc (.cells (cfA c) 23)) := (Below.refl _ _).alloc (Nat.le_refl _) _
  have KM := mayBe_any c _ (hT.next hal)
  by_cases h : c.May
  · rw [decide_eq_true h] at KM
    rw [show chkE c = 0 from if_pos h, show pgsY c = (c.n.pgs : Int) from if_pos h]
    obtain ⟨n, hn, rfl⟩ := h.cn
    rw [Cn.cf_n]
    have KP := fun X hX => pageCount_any n.sl n.fl n.dr n.mf n.ls n.pg hn.1 X hX
    have HT : Hid (∀ X, Below (w.alloc (.cells (cfA n.cf) 23)).heap.size (w.alloc (.cells (cfA n.cf) 23)) X → RT X) := fun X hX => (hT.next hal).next hX
    obtain ⟨sl, fl, dr, mf, ls, pg⟩ := n
    unfold cfV cfA Cn.cf at *
    simp only at *
    clear h hn
    go_enter Tryd.func9, Tryd.ntmps9
    go_wp2_with fail
    refine KM.mono ?_
    rintro e w6 ⟨rfl, hb6⟩
    have hc6 : w6.heap[w.heap.size]? = some (.cells #[.int .i64 (sl : Int), .int .i64 (fl : Int), .int .i64 (dr : Int), .int .i64 (mf : Int), .int .i64 (ls : Int), .int .i64 (pg : Int)] 23 (0, 0)) := (hb6.block _ (by simp)).trans (heap_new w _)
    have z0 : w6.cell? ⟨w.heap.size, 0, none⟩ = some (.int .i64 (sl : Int)) := (cell_of_heap hc6).trans rfl
    have z1 : w6.cell? ⟨w.heap.size, 1, none⟩ = some (.int .i64 (fl : Int)) := (cell_of_heap hc6).trans rfl
    have z2 : w6.cell? ⟨w.heap.size, 2, none⟩ = some (.int .i64 (dr : Int)) := (cell_of_heap hc6).trans rfl
    have z3 : w6.cell? ⟨w.heap.size, 3, none⟩ = some (.int .i64 (mf : Int)) := (cell_of_heap hc6).trans rfl
    have z4 : w6.cell? ⟨w.heap.size, 4, none⟩ = some (.int .i64 (ls : Int)) := (cell_of_heap hc6).trans rfl
    have z5 : w6.cell? ⟨w.heap.size, 5, none⟩ = some (.int .i64 (pg : Int)) := (cell_of_heap hc6).trans rfl
    clear hc6
    go_wp2_with fail
    refine (KP _ (HT.out _ hb6)).mono ?_
    rintro e w7 ⟨rfl, hb7⟩
    go_wp2
    go_ret2
    exact ⟨rfl, (hal.trans (hb6.mono hal.size)).trans (hb7.mono (Nat.le_trans hal.size hb6.size))⟩
  · rw [decide_eq_false h] at KM
    rw [show chkE c = 140 from if_neg h, show pgsY c = 0 from if_neg h]
    unfold cfV cfA at *
    clear h
    go_enter Tryd.func9, Tryd.ntmps9
    go_wp2_with fail
    refine KM.mono ?_
    rintro e w6 ⟨rfl, hb6⟩
    go_wp2
    go_ret2
    exact ⟨rfl, hal.trans (hb6.mono hal.size)⟩
/-! the document's -/
theorem rlength_any (sl fl dr mf ls pg : Nat) (hc : Cn.In ⟨sl, fl, dr, mf, ls, pg⟩) (w : World) : Calls Tryd.prog 63 #[.agg #[.int .i64 (sl : Int), .int .i64 (fl : Int), .int .i64 (dr : Int), .int .i64 (mf : Int), .int .i64 (ls : Int), .int .i64 (pg : Int)]] w fun e w' => e = .returned (.int .i64 (Cn.len ⟨sl, fl, dr, mf, ls, pg⟩ : Int)) ∧ Below w.heap.size w w' := by
  have h1 : sl ≤ 64 := hc.2.1
  have h2 : fl ≤ 65536 := hc.2.2.2.1
  have h3 : dr ≤ 4096 := hc.2.2.2.2.1
  obtain ⟨L, hL⟩ : ∃ L, Cn.len ⟨sl, fl, dr, mf, ls, pg⟩ = L := ⟨_, rfl⟩
  have HL : Hid ((L : Int) = 36 * (dr : Int) + 40 * (fl : Int) + 44 * ((fl : Int) + (sl : Int)) + 4) := by
    show _ = _
    rw [← hL]
    unfold Cn.len
    simp
  rw [hL]
  clear hc hL
  go_enter Tryd.func63, Tryd.ntmps63
  go_wp2
  go_ret
  exact ⟨by rw [HL.out]; rfl, (Below.refl _ _).alloc (Nat.le_refl _) _⟩
theorem rpgs_any (sl fl dr mf ls pg : Nat) (hc : Cn.In ⟨sl, fl, dr, mf, ls, pg⟩) (w : World) : Calls Tryd.prog 39 #[.agg #[.int .i64 (sl : Int), .int .i64 (fl : Int), .int .i64 (dr : Int), .int .i64 (mf : Int), .int .i64 (ls : Int), .int .i64 (pg : Int)]] w fun e w' => e = .returned (.int .i64 (Cn.pgs ⟨sl, fl, dr, mf, ls, pg⟩ : Int)) ∧ Below w.heap.size w w' := by
  obtain ⟨b1, b2, b3, b4, b5⟩ := hc.len
  have hal : Below w.heap.size w (w.alloc (.cells #[.int .i64 (sl : Int), .int .i64 (fl : Int), .int .i64 (dr : Int), .int .i64 (mf : Int), .int .i64 (ls : Int), .int .i64 (pg : Int)] 23)) := (Below.refl _ _).alloc (Nat.le_refl _) _
  have KL := rlength_any sl fl dr mf ls pg hc (w.alloc (.cells #[.int .i64 (sl : Int), .int .i64 (fl : Int), .int .i64 (dr : Int), .int .i64 (mf : Int), .int .i64 (ls : Int), .int .i64 (pg : Int)] 23))
  obtain ⟨L, hL⟩ : ∃ L, Cn.len ⟨sl, fl, dr, mf, ls, pg⟩ = L := ⟨_, rfl⟩
  obtain ⟨B, hB⟩ : ∃ B, Cn.body ⟨sl, fl, dr, mf, ls, pg⟩ = B := ⟨_, rfl⟩
  obtain ⟨M, hM⟩ : ∃ M, (L + B - 1) / B = M := ⟨_, rfl⟩
  rw [hL] at b1 b2 KL
  rw [hB] at b3 b4 b5
  have HM : Hid (((L : Int) + ((pg : Int) - 5) - 1) / ((pg : Int) - 5) = (M : Int)) := by
    show _ = _
    simp only at b5
    rw [← hM, Int.natCast_ediv, show (pg : Int) - 5 = (B : Int) by omega]
    congr 1
    omega
  have e : Cn.pgs ⟨sl, fl, dr, mf, ls, pg⟩ = M := by
    show (Cn.len _ + Cn.body _ - 1) / Cn.body _ = M
    rw [hL, hB, hM]
  rw [e]
  have p1 : 64 ≤ pg := hc.2.2.2.2.2.2.2.2.1
  have p2 : pg ≤ 65536 := hc.2.2.2.2.2.2.2.2.2
  clear hL hB hM e hc b3 b4 b5
  go_enter Tryd.func39, Tryd.ntmps39
  go_wp2_with fail
  refine KL.mono ?_
  rintro e w6 ⟨rfl, hb6⟩
  go_wp2
  go_ret
  exact ⟨by rw [HM.out]; rfl, hal.trans (hb6.mono hal.size)⟩
set_option maxRecDepth 20000 in
set_option maxHeartbeats 1000000 in
theorem rno0 (sl fl dr mf ls pg : Int)  (h0 : ¬ 1 ≤ sl) (w : World) : Calls Tryd.prog 13 #[.agg #[.int .i64 sl, .int .i64 fl, .int .i64 dr, .int .i64 mf, .int .i64 ls, .int .i64 pg]] w fun e w' => e = .returned (.int .i64 140) ∧ Below w.heap.size w w' := by
  go_enter Tryd.func13, Tryd.ntmps13
  go_wp2
  go_ret
  exact ⟨rfl, (Below.refl _ _).alloc (Nat.le_refl _) _⟩
set_option maxRecDepth 20000 in
set_option maxHeartbeats 1000000 in
theorem rno1 (sl fl dr mf ls pg : Int) (h0 : 1 ≤ sl) (h1 : ¬ sl ≤ 64) (w : World) : Calls Tryd.prog 13 #[.agg #[.int .i64 sl, .int .i64 fl, .int .i64 dr, .int .i64 mf, .int .i64 ls, .int .i64 pg]] w fun e w' => e = .returned (.int .i64 140) ∧ Below w.heap.size w w' := by
  go_enter Tryd.func13, Tryd.ntmps13
  go_wp2
  go_ret
  exact ⟨rfl, (Below.refl _ _).alloc (Nat.le_refl _) _⟩
set_option maxRecDepth 20000 in
set_option maxHeartbeats 1000000 in
theorem rno2 (sl fl dr mf ls pg : Int) (h0 : 1 ≤ sl) (h1 : sl ≤ 64) (h2 : ¬ 1 ≤ fl) (w : World) : Calls Tryd.prog 13 #[.agg #[.int .i64 sl, .int .i64 fl, .int .i64 dr, .int .i64 mf, .int .i64 ls, .int .i64 pg]] w fun e w' => e = .returned (.int .i64 140) ∧ Below w.heap.size w w' := by
  go_enter Tryd.func13, Tryd.ntmps13
  go_wp2
  go_ret
  exact ⟨rfl, (Below.refl _ _).alloc (Nat.le_refl _) _⟩
set_option maxRecDepth 20000 in
set_option maxHeartbeats 1000000 in
theorem rno3 (sl fl dr mf ls pg : Int) (h0 : 1 ≤ sl) (h1 : sl ≤ 64) (h2 : 1 ≤ fl) (h3 : ¬ fl ≤ 65536) (w : World) : Calls Tryd.prog 13 #[.agg #[.int .i64 sl, .int .i64 fl, .int .i64 dr, .int .i64 mf, .int .i64 ls, .int .i64 pg]] w fun e w' => e = .returned (.int .i64 140) ∧ Below w.heap.size w w' := by
  go_enter Tryd.func13, Tryd.ntmps13
  go_wp2
  go_ret
  exact ⟨rfl, (Below.refl _ _).alloc (Nat.le_refl _) _⟩
set_option maxRecDepth 20000 in
set_option maxHeartbeats 1000000 in
theorem rno4 (sl fl dr mf ls pg : Int) (h0 : 1 ≤ sl) (h1 : sl ≤ 64) (h2 : 1 ≤ fl) (h3 : fl ≤ 65536) (h4 : ¬ 0 ≤ dr) (w : World) : Calls Tryd.prog 13 #[.agg #[.int .i64 sl, .int .i64 fl, .int .i64 dr, .int .i64 mf, .int .i64 ls, .int .i64 pg]] w fun e w' => e = .returned (.int .i64 140) ∧ Below w.heap.size w w' := by
  go_enter Tryd.func13, Tryd.ntmps13
  go_wp2
  go_ret
  exact ⟨rfl, (Below.refl _ _).alloc (Nat.le_refl _) _⟩
set_option maxRecDepth 20000 in
set_option maxHeartbeats 1000000 in
theorem rno5 (sl fl dr mf ls pg : Int) (h0 : 1 ≤ sl) (h1 : sl ≤ 64) (h2 : 1 ≤ fl) (h3 : fl ≤ 65536) (h4 : 0 ≤ dr) (h5 : ¬ dr ≤ 4096) (w : World) : Calls Tryd.prog 13 #[.agg #[.int .i64 sl, .int .i64 fl, .int .i64 dr, .int .i64 mf, .int .i64 ls, .int .i64 pg]] w fun e w' => e = .returned (.int .i64 140) ∧ Below w.heap.size w w' := by
  go_enter Tryd.func13, Tryd.ntmps13
  go_wp2
  go_ret
  exact ⟨rfl, (Below.refl _ _).alloc (Nat.le_refl _) _⟩
set_option maxRecDepth 20000 in
set_option maxHeartbeats 1000000 in
theorem rno6 (sl fl dr mf ls pg : Int) (h0 : 1 ≤ sl) (h1 : sl ≤ 64) (h2 : 1 ≤ fl) (h3 : fl ≤ 65536) (h4 : 0 ≤ dr) (h5 : dr ≤ 4096) (h6 : ¬ 0 ≤ mf) (w : World) : Calls Tryd.prog 13 #[.agg #[.int .i64 sl, .int .i64 fl, .int .i64 dr, .int .i64 mf, .int .i64 ls, .int .i64 pg]] w fun e w' => e = .returned (.int .i64 140) ∧ Below w.heap.size w w' := by
  go_enter Tryd.func13, Tryd.ntmps13
  go_wp2
  go_ret
  exact ⟨rfl, (Below.refl _ _).alloc (Nat.le_refl _) _⟩
set_option maxRecDepth 20000 in
set_option maxHeartbeats 1000000 in
theorem rno7 (sl fl dr mf ls pg : Int) (h0 : 1 ≤ sl) (h1 : sl ≤ 64) (h2 : 1 ≤ fl) (h3 : fl ≤ 65536) (h4 : 0 ≤ dr) (h5 : dr ≤ 4096) (h6 : 0 ≤ mf) (h7 : ¬ mf ≤ 65536) (w : World) : Calls Tryd.prog 13 #[.agg #[.int .i64 sl, .int .i64 fl, .int .i64 dr, .int .i64 mf, .int .i64 ls, .int .i64 pg]] w fun e w' => e = .returned (.int .i64 140) ∧ Below w.heap.size w w' := by
  go_enter Tryd.func13, Tryd.ntmps13
  go_wp2
  go_ret
  exact ⟨rfl, (Below.refl _ _).alloc (Nat.le_refl _) _⟩
set_option maxRecDepth 20000 in
set_option maxHeartbeats 1000000 in
theorem rno8 (sl fl dr mf ls pg : Int) (h0 : 1 ≤ sl) (h1 : sl ≤ 64) (h2 : 1 ≤ fl) (h3 : fl ≤ 65536) (h4 : 0 ≤ dr) (h5 : dr ≤ 4096) (h6 : 0 ≤ mf) (h7 : mf ≤ 65536) (h8 : ¬ 16 ≤ ls) (w : World) : Calls Tryd.prog 13 #[.agg #[.int .i64 sl, .int .i64 fl, .int .i64 dr, .int .i64 mf, .int .i64 ls, .int .i64 pg]] w fun e w' => e = .returned (.int .i64 140) ∧ Below w.heap.size w w' := by
  go_enter Tryd.func13, Tryd.ntmps13
  go_wp2
  go_ret
  exact ⟨rfl, (Below.refl _ _).alloc (Nat.le_refl _) _⟩
set_option maxRecDepth 20000 in
set_option maxHeartbeats 1000000 in
theorem rno9 (sl fl dr mf ls pg : Int) (h0 : 1 ≤ sl) (h1 : sl ≤ 64) (h2 : 1 ≤ fl) (h3 : fl ≤ 65536) (h4 : 0 ≤ dr) (h5 : dr ≤ 4096) (h6 : 0 ≤ mf) (h7 : mf ≤ 65536) (h8 : 16 ≤ ls) (h9 : ¬ ls ≤ 65536) (w : World) : Calls Tryd.prog 13 #[.agg #[.int .i64 sl, .int .i64 fl, .int .i64 dr, .int .i64 mf, .int .i64 ls, .int .i64 pg]] w fun e w' => e = .returned (.int .i64 140) ∧ Below w.heap.size w w' := by
  go_enter Tryd.func13, Tryd.ntmps13
  go_wp2
  go_ret
  exact ⟨rfl, (Below.refl _ _).alloc (Nat.le_refl _) _⟩
set_option maxRecDepth 20000 in
set_option maxHeartbeats 1000000 in
theorem rno10 (sl fl dr mf ls pg : Int) (h0 : 1 ≤ sl) (h1 : sl ≤ 64) (h2 : 1 ≤ fl) (h3 : fl ≤ 65536) (h4 : 0 ≤ dr) (h5 : dr ≤ 4096) (h6 : 0 ≤ mf) (h7 : mf ≤ 65536) (h8 : 16 ≤ ls) (h9 : ls ≤ 65536) (h10 : ¬ 64 ≤ pg) (w : World) : Calls Tryd.prog 13 #[.agg #[.int .i64 sl, .int .i64 fl, .int .i64 dr, .int .i64 mf, .int .i64 ls, .int .i64 pg]] w fun e w' => e = .returned (.int .i64 140) ∧ Below w.heap.size w w' := by
  go_enter Tryd.func13, Tryd.ntmps13
  go_wp2
  go_ret
  exact ⟨rfl, (Below.refl _ _).alloc (Nat.le_refl _) _⟩
set_option maxRecDepth 20000 in
set_option maxHeartbeats 1000000 in
theorem rno11 (sl fl dr mf ls pg : Int) (h0 : 1 ≤ sl) (h1 : sl ≤ 64) (h2 : 1 ≤ fl) (h3 : fl ≤ 65536) (h4 : 0 ≤ dr) (h5 : dr ≤ 4096) (h6 : 0 ≤ mf) (h7 : mf ≤ 65536) (h8 : 16 ≤ ls) (h9 : ls ≤ 65536) (h10 : 64 ≤ pg) (h11 : ¬ pg ≤ 65536) (w : World) : Calls Tryd.prog 13 #[.agg #[.int .i64 sl, .int .i64 fl, .int .i64 dr, .int .i64 mf, .int .i64 ls, .int .i64 pg]] w fun e w' => e = .returned (.int .i64 140) ∧ Below w.heap.size w w' := by
  go_enter Tryd.func13, Tryd.ntmps13
  go_wp2
  go_ret
  exact ⟨rfl, (Below.refl _ _).alloc (Nat.le_refl _) _⟩
set_option maxRecDepth 20000 in
set_option maxHeartbeats 1000000 in
theorem rin (sl fl dr mf ls pg : Nat) (hc : Cn.In ⟨sl, fl, dr, mf, ls, pg⟩) (w : World) : Calls Tryd.prog 13 #[.agg #[.int .i64 (sl : Int), .int .i64 (fl : Int), .int .i64 (dr : Int), .int .i64 (mf : Int), .int .i64 (ls : Int), .int .i64 (pg : Int)]] w fun e w' => e = .returned (.int .i64 (if Cn.pgs ⟨sl, fl, dr, mf, ls, pg⟩ ≤ 1024 then 0 else 140)) ∧ Below w.heap.size w w' := by
  have hal : Below w.heap.size w (w.alloc (.cells #[.int .i64 (sl : Int), .int .i64 (fl : Int), .int .i64 (dr : Int), .int .i64 (mf : Int), .int .i64 (ls : Int), .int .i64 (pg : Int)] 23)) := (Below.refl _ _).alloc (Nat.le_refl _) _
  have KP := rpgs_any sl fl dr mf ls pg hc (w.alloc (.cells #[.int .i64 (sl : Int), .int .i64 (fl : Int), .int .i64 (dr : Int), .int .i64 (mf : Int), .int .i64 (ls : Int), .int .i64 (pg : Int)] 23))
  obtain ⟨M, hM⟩ : ∃ M, Cn.pgs ⟨sl, fl, dr, mf, ls, pg⟩ = M := ⟨_, rfl⟩
  rw [hM] at KP ⊢
  obtain ⟨c1, c2, c3, c4, c5, c6, c7, c8, c9, c10⟩ := hc
  simp only at c1 c2 c3 c4 c5 c6 c7 c8 c9 c10
  have d1 : 1 ≤ (sl : Int) := by omega
  have d2 : (sl : Int) ≤ 64 := by omega
  have d3 : 1 ≤ (fl : Int) := by omega
  have d4 : (fl : Int) ≤ 65536 := by omega
  have d5 : 0 ≤ (dr : Int) := by omega
  have d6 : (dr : Int) ≤ 4096 := by omega
  have d7 : 0 ≤ (mf : Int) := by omega
  have d8 : (mf : Int) ≤ 65536 := by omega
  have d9 : 16 ≤ (ls : Int) := by omega
  have d10 : (ls : Int) ≤ 65536 := by omega
  have d11 : 64 ≤ (pg : Int) := by omega
  have d12 : (pg : Int) ≤ 65536 := by omega
  clear hM c1 c2 c3 c4 c5 c6 c7 c8 c9 c10
  by_cases h : M ≤ 1024
  · rw [if_pos h]
    have hI : ¬ (1024 : Int) < (M : Int) := by omega
    go_enter Tryd.func13, Tryd.ntmps13
    go_wp2_with fail
    refine KP.mono ?_
    rintro e w6 ⟨rfl, hb6⟩
    go_wp2
    go_ret
    exact ⟨rfl, hal.trans (hb6.mono hal.size)⟩
  · rw [if_neg h]
    have hI : (1024 : Int) < (M : Int) := by omega
    go_enter Tryd.func13, Tryd.ntmps13
    go_wp2_with fail
    refine KP.mono ?_
    rintro e w6 ⟨rfl, hb6⟩
    go_wp2
    go_ret
    exact ⟨rfl, hal.trans (hb6.mono hal.size)⟩
theorem rcheck_any (c : Cf) (w : World) : Calls Tryd.prog 13 #[cfV c] w fun e w' => e = .returned (.int .i64 (chkE c)) ∧ Below w.heap.size w w' := by
  by_cases h : c.In
  · obtain ⟨n, hn, rfl⟩ := cn_of h
    have e : chkE n.cf = if n.pgs ≤ 1024 then 0 else 140 := by
      unfold chkE
      by_cases hp : n.pgs ≤ 1024
      · rw [if_pos hp, if_pos ((may_iff n hn).2 hp)]
      · rw [if_neg hp, if_neg (fun x => hp ((may_iff n hn).1 x))]
    rw [e]
    exact rin n.sl n.fl n.dr n.mf n.ls n.pg hn w
  · rw [show chkE c = 140 from if_neg (fun x : c.May => h x.1)]
    obtain ⟨sl, fl, dr, mf, ls, pg⟩ := c
    simp only [Cf.In] at h
    unfold cfV cfA
    by_cases h0 : 1 ≤ sl
    case neg => exact rno0 sl fl dr mf ls pg h0 w
    by_cases h1 : sl ≤ 64
    case neg => exact rno1 sl fl dr mf ls pg h0 h1 w
    by_cases h2 : 1 ≤ fl
    case neg => exact rno2 sl fl dr mf ls pg h0 h1 h2 w
    by_cases h3 : fl ≤ 65536
    case neg => exact rno3 sl fl dr mf ls pg h0 h1 h2 h3 w
    by_cases h4 : 0 ≤ dr
    case neg => exact rno4 sl fl dr mf ls pg h0 h1 h2 h3 h4 w
    by_cases h5 : dr ≤ 4096
    case neg => exact rno5 sl fl dr mf ls pg h0 h1 h2 h3 h4 h5 w
    by_cases h6 : 0 ≤ mf
    case neg => exact rno6 sl fl dr mf ls pg h0 h1 h2 h3 h4 h5 h6 w
    by_cases h7 : mf ≤ 65536
    case neg => exact rno7 sl fl dr mf ls pg h0 h1 h2 h3 h4 h5 h6 h7 w
    by_cases h8 : 16 ≤ ls
    case neg => exact rno8 sl fl dr mf ls pg h0 h1 h2 h3 h4 h5 h6 h7 h8 w
    by_cases h9 : ls ≤ 65536
    case neg => exact rno9 sl fl dr mf ls pg h0 h1 h2 h3 h4 h5 h6 h7 h8 h9 w
    by_cases h10 : 64 ≤ pg
    case neg => exact rno10 sl fl dr mf ls pg h0 h1 h2 h3 h4 h5 h6 h7 h8 h9 h10 w
    by_cases h11 : pg ≤ 65536
    case neg => exact rno11 sl fl dr mf ls pg h0 h1 h2 h3 h4 h5 h6 h7 h8 h9 h10 h11 w
    exact absurd ⟨h0, h1, h2, h3, h4, h5, h6, h7, h8, h9, h10, h11⟩ h
end Go.Proofs.YtckbbbcjpklnmaaDoor.Ix
