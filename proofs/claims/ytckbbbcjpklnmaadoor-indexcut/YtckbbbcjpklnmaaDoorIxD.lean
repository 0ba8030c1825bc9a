import Derived.Test.YtckbbbcjpklnmaaDoorIxC
namespace Go.Proofs.YtckbbbcjpklnmaaDoor.Ix
open Go.RowKit Go.Lib Go.Deep

set_option maxRecDepth 20000 in
set_option maxHeartbeats 1000000 in
theorem mayNo0 (sl fl dr mf ls pg : Int)  (h0 : ¬ (1 ≤ sl ∧ sl ≤ 64)) (w : World) : Calls Tryd.prog 37 #[.agg #[.int .i64 sl, .int .i64 fl, .int .i64 dr, .int .i64 mf, .int .i64 ls, .int .i64 pg]] w fun e w' => e = .returned (.bool false) ∧ Below w.heap.size w w' := by
  have k0 := isFrom_any sl 1 64
  rw [decide_eq_false h0] at k0
  clear h0
  go_enter Tryd.func37, Tryd.ntmps37
  go_wp2_with fail
  refine (k0 _).mono ?_
  rintro e w5 ⟨rfl, rfl⟩
  go_wp2
  go_ret
  exact ⟨rfl, (Below.refl _ _).alloc (Nat.le_refl _) _⟩
set_option maxRecDepth 20000 in
set_option maxHeartbeats 1000000 in
theorem mayNo1 (sl fl dr mf ls pg : Int) (h0 : 1 ≤ sl ∧ sl ≤ 64) (h1 : ¬ (1 ≤ fl ∧ fl ≤ 65536)) (w : World) : Calls Tryd.prog 37 #[.agg #[.int .i64 sl, .int .i64 fl, .int .i64 dr, .int .i64 mf, .int .i64 ls, .int .i64 pg]] w fun e w' => e = .returned (.bool false) ∧ Below w.heap.size w w' := by
  have k0 := isFrom_any sl 1 64
  rw [decide_eq_true h0] at k0
  have k1 := isFrom_any fl 1 65536
  rw [decide_eq_false h1] at k1
  clear h0 h1
  go_enter Tryd.func37, Tryd.ntmps37
  go_wp2_with fail
  refine (k0 _).mono ?_
  rintro e w5 ⟨rfl, rfl⟩
  go_wp2_with fail
  refine (k1 _).mono ?_
  rintro e w5 ⟨rfl, rfl⟩
  go_wp2
  go_ret
  exact ⟨rfl, (Below.refl _ _).alloc (Nat.le_refl _) _⟩
set_option maxRecDepth 20000 in
set_option maxHeartbeats 1000000 in
theorem mayNo2 (sl fl dr mf ls pg : Int) (h0 : 1 ≤ sl ∧ sl ≤ 64) (h1 : 1 ≤ fl ∧ fl ≤ 65536) (h2 : ¬ (0 ≤ dr ∧ dr ≤ 4096)) (w : World) : Calls Tryd.prog 37 #[.agg #[.int .i64 sl, .int .i64 fl, .int .i64 dr, .int .i64 mf, .int .i64 ls, .int .i64 pg]] w fun e w' => e = .returned (.bool false) ∧ Below w.heap.size w w' := by
  have k0 := isFrom_any sl 1 64
  rw [decide_eq_true h0] at k0
  have k1 := isFrom_any fl 1 65536
  rw [decide_eq_true h1] at k1
  have k2 := isFrom_any dr 0 4096
  rw [decide_eq_false h2] at k2
  clear h0 h1 h2
  go_enter Tryd.func37, Tryd.ntmps37
  go_wp2_with fail
  refine (k0 _).mono ?_
  rintro e w5 ⟨rfl, rfl⟩
  go_wp2_with fail
  refine (k1 _).mono ?_
  rintro e w5 ⟨rfl, rfl⟩
  go_wp2_with fail
  refine (k2 _).mono ?_
  rintro e w5 ⟨rfl, rfl⟩
  go_wp2
  go_ret
  exact ⟨rfl, (Below.refl _ _).alloc (Nat.le_refl _) _⟩
set_option maxRecDepth 20000 in
set_option maxHeartbeats 1000000 in
theorem mayNo3 (sl fl dr mf ls pg : Int) (h0 : 1 ≤ sl ∧ sl ≤ 64) (h1 : 1 ≤ fl ∧ fl ≤ 65536) (h2 : 0 ≤ dr ∧ dr ≤ 4096) (h3 : ¬ (0 ≤ mf ∧ mf ≤ 65536)) (w : World) : Calls Tryd.prog 37 #[.agg #[.int .i64 sl, .int .i64 fl, .int .i64 dr, .int .i64 mf, .int .i64 ls, .int .i64 pg]] w fun e w' => e = .returned (.bool false) ∧ Below w.heap.size w w' := by
  have k0 := isFrom_any sl 1 64
  rw [decide_eq_true h0] at k0
  have k1 := isFrom_any fl 1 65536
  rw [decide_eq_true h1] at k1
  have k2 := isFrom_any dr 0 4096
  rw [decide_eq_true h2] at k2
  have k3 := isFrom_any mf 0 65536
  rw [decide_eq_false h3] at k3
  clear h0 h1 h2 h3
  go_enter Tryd.func37, Tryd.ntmps37
  go_wp2_with fail
  refine (k0 _).mono ?_
  rintro e w5 ⟨rfl, rfl⟩
  go_wp2_with fail
  refine (k1 _).mono ?_
  rintro e w5 ⟨rfl, rfl⟩
  go_wp2_with fail
  refine (k2 _).mono ?_
  rintro e w5 ⟨rfl, rfl⟩
  go_wp2_with fail
  refine (k3 _).mono ?_
  rintro e w5 ⟨rfl, rfl⟩
  go_wp2
  go_ret
  exact ⟨rfl, (Below.refl _ _).alloc (Nat.le_refl _) _⟩
set_option maxRecDepth 20000 in
set_option maxHeartbeats 1000000 in
theorem mayNo4 (sl fl dr mf ls pg : Int) (h0 : 1 ≤ sl ∧ sl ≤ 64) (h1 : 1 ≤ fl ∧ fl ≤ 65536) (h2 : 0 ≤ dr ∧ dr ≤ 4096) (h3 : 0 ≤ mf ∧ mf ≤ 65536) (h4 : ¬ (16 ≤ ls ∧ ls ≤ 65536)) (w : World) : Calls Tryd.prog 37 #[.agg #[.int .i64 sl, .int .i64 fl, .int .i64 dr, .int .i64 mf, .int .i64 ls, .int .i64 pg]] w fun e w' => e = .returned (.bool false) ∧ Below w.heap.size w w' := by
  have k0 := isFrom_any sl 1 64
  rw [decide_eq_true h0] at k0
  have k1 := isFrom_any fl 1 65536
  rw [decide_eq_true h1] at k1
  have k2 := isFrom_any dr 0 4096
  rw [decide_eq_true h2] at k2
  have k3 := isFrom_any mf 0 65536
  rw [decide_eq_true h3] at k3
  have k4 := isFrom_any ls 16 65536
  rw [decide_eq_false h4] at k4
  clear h0 h1 h2 h3 h4
  go_enter Tryd.func37, Tryd.ntmps37
  go_wp2_with fail
  refine (k0 _).mono ?_
  rintro e w5 ⟨rfl, rfl⟩
  go_wp2_with fail
  refine (k1 _).mono ?_
  rintro e w5 ⟨rfl, rfl⟩
  go_wp2_with fail
  refine (k2 _).mono ?_
  rintro e w5 ⟨rfl, rfl⟩
  go_wp2_with fail
  refine (k3 _).mono ?_
  rintro e w5 ⟨rfl, rfl⟩
  go_wp2_with fail
  refine (k4 _).mono ?_
  rintro e w5 ⟨rfl, rfl⟩
  go_wp2
  go_ret
  exact ⟨rfl, (Below.refl _ _).alloc (Nat.le_refl _) _⟩
set_option maxRecDepth 20000 in
set_option maxHeartbeats 1000000 in
theorem mayNo5 (sl fl dr mf ls pg : Int) (h0 : 1 ≤ sl ∧ sl ≤ 64) (h1 : 1 ≤ fl ∧ fl ≤ 65536) (h2 : 0 ≤ dr ∧ dr ≤ 4096) (h3 : 0 ≤ mf ∧ mf ≤ 65536) (h4 : 16 ≤ ls ∧ ls ≤ 65536) (h5 : ¬ (64 ≤ pg ∧ pg ≤ 65536)) (w : World) : Calls Tryd.prog 37 #[.agg #[.int .i64 sl, .int .i64 fl, .int .i64 dr, .int .i64 mf, .int .i64 ls, .int .i64 pg]] w fun e w' => e = .returned (.bool false) ∧ Below w.heap.size w w' := by
  have k0 := isFrom_any sl 1 64
  rw [decide_eq_true h0] at k0
  have k1 := isFrom_any fl 1 65536
  rw [decide_eq_true h1] at k1
  have k2 := isFrom_any dr 0 4096
  rw [decide_eq_true h2] at k2
  have k3 := isFrom_any mf 0 65536
  rw [decide_eq_true h3] at k3
  have k4 := isFrom_any ls 16 65536
  rw [decide_eq_true h4] at k4
  have k5 := isFrom_any pg 64 65536
  rw [decide_eq_false h5] at k5
  clear h0 h1 h2 h3 h4 h5
  go_enter Tryd.func37, Tryd.ntmps37
  go_wp2_with fail
  refine (k0 _).mono ?_
  rintro e w5 ⟨rfl, rfl⟩
  go_wp2_with fail
  refine (k1 _).mono ?_
  rintro e w5 ⟨rfl, rfl⟩
  go_wp2_with fail
  refine (k2 _).mono ?_
  rintro e w5 ⟨rfl, rfl⟩
  go_wp2_with fail
  refine (k3 _).mono ?_
  rintro e w5 ⟨rfl, rfl⟩
  go_wp2_with fail
  refine (k4 _).mono ?_
  rintro e w5 ⟨rfl, rfl⟩
  go_wp2_with fail
  refine (k5 _).mono ?_
  rintro e w5 ⟨rfl, rfl⟩
  go_wp2
  go_ret
  exact ⟨rfl, (Below.refl _ _).alloc (Nat.le_refl _) _⟩
set_option maxRecDepth 20000 in
set_option maxHeartbeats 1000000 in
theorem mayIn (sl fl dr mf ls pg : Nat) (hc : Cn.In ⟨sl, fl, dr, mf, ls, pg⟩) (w : World) (hT : RT w) : Calls Tryd.prog 37 #[.agg #[.int .i64 (sl : Int), .int .i64 (fl : Int), .int .i64 (dr : Int), .int .i64 (mf : Int), .int .i64 (ls : Int), .int .i64 (pg : Int)]] w fun e w' => e = .returned (.bool (decide (Cn.pgs ⟨sl, fl, dr, mf, ls, pg⟩ ≤ 1024))) ∧ Below w.heap.size w w' := by
  have hal : Below w.heap.size w (w.alloc (.cells #[.int .i64 (sl : Int), .int .i64 (fl : Int), .int .i64 (dr : Int), .int .i64 (mf : Int), .int .i64 (ls : Int), .int .i64 (pg : Int)] 23)) := (Below.refl _ _).alloc (Nat.le_refl _) _
  have KP := pageCount_any sl fl dr mf ls pg hc _ (hT.next hal)
  obtain ⟨M, hM⟩ : ∃ M, Cn.pgs ⟨sl, fl, dr, mf, ls, pg⟩ = M := ⟨_, rfl⟩
  rw [hM] at KP ⊢
  obtain ⟨c1, c2, c3, c4, c5, c6, c7, c8, c9, c10⟩ := hc
  have hMI : decide ((M : Int) ≤ 1024) = decide (M ≤ 1024) := by simp; omega
  clear hM hT
  have k0 := isFrom_any (sl : Int) 1 64
  rw [decide_eq_true (by simp only at *; omega)] at k0
  have k1 := isFrom_any (fl : Int) 1 65536
  rw [decide_eq_true (by simp only at *; omega)] at k1
  have k2 := isFrom_any (dr : Int) 0 4096
  rw [decide_eq_true (by simp only at *; omega)] at k2
  have k3 := isFrom_any (mf : Int) 0 65536
  rw [decide_eq_true (by simp only at *; omega)] at k3
  have k4 := isFrom_any (ls : Int) 16 65536
  rw [decide_eq_true (by simp only at *; omega)] at k4
  have k5 := isFrom_any (pg : Int) 64 65536
  rw [decide_eq_true (by simp only at *; omega)] at k5
  clear c1 c2 c3 c4 c5 c6 c7 c8 c9 c10
  go_enter Tryd.func37, Tryd.ntmps37
  go_wp2_with fail
  refine (k0 _).mono ?_
  rintro e w5 ⟨rfl, rfl⟩
  go_wp2_with fail
  refine (k1 _).mono ?_
  rintro e w5 ⟨rfl, rfl⟩
  go_wp2_with fail
  refine (k2 _).mono ?_
  rintro e w5 ⟨rfl, rfl⟩
  go_wp2_with fail
  refine (k3 _).mono ?_
  rintro e w5 ⟨rfl, rfl⟩
  go_wp2_with fail
  refine (k4 _).mono ?_
  rintro e w5 ⟨rfl, rfl⟩
  go_wp2_with fail
  refine (k5 _).mono ?_
  rintro e w5 ⟨rfl, rfl⟩
  go_wp2_with fail
  refine KP.mono ?_
  rintro e w6 ⟨rfl, hb6⟩
  go_wp2
  go_ret
  exact ⟨by rw [← hMI]; rfl, hal.trans (hb6.mono hal.size)⟩
theorem mayBe_any (c : Cf) (w : World) (hT : RT w) : Calls Tryd.prog 37 #[cfV c] w fun e w' => e = .returned (.bool (decide c.May)) ∧ Below w.heap.size w w' := by
  by_cases h : c.In
  · obtain ⟨n, hn, rfl⟩ := cn_of h
    rw [show decide n.cf.May = decide (n.pgs ≤ 1024) from decide_eq_decide.2 (may_iff n hn)]
    exact mayIn n.sl n.fl n.dr n.mf n.ls n.pg hn w hT
  · rw [decide_eq_false (fun x : c.May => h x.1)]
    obtain ⟨sl, fl, dr, mf, ls, pg⟩ := c
    simp only [Cf.In] at h
    unfold cfV cfA
    by_cases h0 : 1 ≤ sl ∧ sl ≤ 64
    case neg => exact mayNo0 sl fl dr mf ls pg h0 w
    by_cases h1 : 1 ≤ fl ∧ fl ≤ 65536
    case neg => exact mayNo1 sl fl dr mf ls pg h0 h1 w
    by_cases h2 : 0 ≤ dr ∧ dr ≤ 4096
    case neg => exact mayNo2 sl fl dr mf ls pg h0 h1 h2 w
    by_cases h3 : 0 ≤ mf ∧ mf ≤ 65536
    case neg => exact mayNo3 sl fl dr mf ls pg h0 h1 h2 h3 w
    by_cases h4 : 16 ≤ ls ∧ ls ≤ 65536
    case neg => exact mayNo4 sl fl dr mf ls pg h0 h1 h2 h3 h4 w
    by_cases h5 : 64 ≤ pg ∧ pg ≤ 65536
    case neg => exact mayNo5 sl fl dr mf ls pg h0 h1 h2 h3 h4 h5 w
    exact absurd ⟨h0.1, h0.2, h1.1, h1.2, h2.1, h2.2, h3.1, h3.2, h4.1, h4.2, h5.1, h5.2⟩ h
end Go.Proofs.YtckbbbcjpklnmaaDoor.Ix
