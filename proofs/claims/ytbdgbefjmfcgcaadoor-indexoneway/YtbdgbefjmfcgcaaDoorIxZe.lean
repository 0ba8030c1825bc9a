import Derived.Test.YtbdgbefjmfcgcaaDoorIxZd
import Derived.Test.YtbdgbefjmfcgcaaDoorCfM
namespace Go.Proofs.YtbdgbefjmfcgcaaDoor.Ix
open Go.RowKit Go.Lib Go.Deep
set_option maxRecDepth 20000 in
set_option maxHeartbeats 1000000 in
/-- the law's own look at the pages -/
theorem shaped_any (sl fl dr mf ls pg : Nat) (hc : Cn.May ⟨sl, fl, dr, mf, ls, pg⟩) (P : List ByteArray) (hab : abB ⟨sl, fl, dr, mf, ls, pg⟩ P = true) (w : World) (hT : RT w) (a : Option Addr) (n k : Nat) (hS : See w 1 (.slice a n k) n (scC P)) (hn : P.length = n) :
    Calls Tryd.prog 15 #[.agg #[.int .i64 (sl : Int), .int .i64 (fl : Int), .int .i64 (dr : Int), .int .i64 (mf : Int), .int .i64 (ls : Int), .int .i64 (pg : Int)], .slice a n k] w fun e w' => e = .returned (.bool true) ∧ Below w.heap.size w w' := by
  obtain ⟨h1, h2⟩ := ab_iff.1 hab
  obtain ⟨V, hV, hbV, g0⟩ := one_new w #[.int .i64 (sl : Int), .int .i64 (fl : Int), .int .i64 (dr : Int), .int .i64 (mf : Int), .int .i64 (ls : Int), .int .i64 (pg : Int)] 23
  have HX : Hid (∀ X, Below V.heap.size V X → (X.cell? ⟨w.heap.size, 0, none⟩ = some (.int .i64 (sl : Int)) ∧ X.cell? ⟨w.heap.size, 1, none⟩ = some (.int .i64 (fl : Int)) ∧ X.cell? ⟨w.heap.size, 2, none⟩ = some (.int .i64 (dr : Int)) ∧ X.cell? ⟨w.heap.size, 3, none⟩ = some (.int .i64 (mf : Int)) ∧ X.cell? ⟨w.heap.size, 4, none⟩ = some (.int .i64 (ls : Int)) ∧ X.cell? ⟨w.heap.size, 5, none⟩ = some (.int .i64 (pg : Int))) ∧ See X 1 (.slice a n k) n (scC P) ∧ Below w.heap.size w X) := fun X hX => by
    have hb := below_on hX hbV
    exact ⟨cells6 ((hX.block _ (heap_lt g0)).trans g0), hS.below hb, hb⟩
  have KP := pages_any (Cn.cf ⟨sl, fl, dr, mf, ls, pg⟩) V (hT.next hbV)
  rw [show chkE (Cn.cf ⟨sl, fl, dr, mf, ls, pg⟩) = 0 from if_pos hc.cf, show pgsY (Cn.cf ⟨sl, fl, dr, mf, ls, pg⟩) = (Cn.pgs ⟨sl, fl, dr, mf, ls, pg⟩ : Int) by unfold pgsY; rw [if_pos hc.cf, Cn.cf_n], ← h1, hn] at KP
  obtain ⟨f1, f2, f3⟩ := hc.1.fit
  obtain ⟨l1, l2, l3, l4, l5⟩ := hc.1.len
  have hm := hc.2
  rw [← h1, hn] at f1 f2 f3 hm
  have eb : Cn.body ⟨sl, fl, dr, mf, ls, pg⟩ = pg - 5 := rfl
  have el : Cn.len ⟨sl, fl, dr, mf, ls, pg⟩ = 36 * dr + 40 * fl + 44 * (fl + sl) + 4 := rfl
  obtain ⟨b, hb⟩ : ∃ b, pg - 5 = b := ⟨_, rfl⟩
  rw [eb, hb] at f1 f2 l3 l4
  obtain ⟨L, hL⟩ : ∃ L, 36 * dr + 40 * fl + 44 * (fl + sl) + 4 = L := ⟨_, rfl⟩
  rw [el, hL] at f1 f2 l1 l2
  have hlim : dr ≤ 4096 ∧ fl ≤ 65536 ∧ sl ≤ 64 ∧ 64 ≤ pg ∧ pg ≤ 65536 := ⟨hc.1.2.2.2.2.1, hc.1.2.2.2.1, hc.1.2.1, hc.1.2.2.2.2.2.2.2.2.1, hc.1.2.2.2.2.2.2.2.2.2⟩
  obtain ⟨N, hN⟩ : ∃ N, n * b = N := ⟨_, rfl⟩
  obtain ⟨N1, hN1⟩ : ∃ N1, (n - 1) * b = N1 := ⟨_, rfl⟩
  have hNN : N = N1 + b := by
    rw [← hN, ← hN1]
    conv => lhs; rw [show n = (n - 1) + 1 by omega]
    rw [Nat.succ_mul]
  have hN2 : N ≤ 1024 * 65531 := by rw [← hN]; exact Nat.mul_le_mul hm l4
  rw [hN] at f1 f2
  have w1 : IntKind.i64.wrap ((pg : Int) - 5) = (b : Int) := by rw [IntKind.wrap_i64]; omega
  have w1' : (pg : Int) - 5 = (b : Int) := by omega
  have w2 : (n : Int) * (b : Int) = (N : Int) := by rw [← hN, Int.natCast_mul]
  have w3 : ((n : Int) - 1) * (b : Int) = (N1 : Int) := by rw [← hN1, Int.natCast_mul]; congr 1; omega
  have w4 : IntKind.i64.wrap (N : Int) = (N : Int) := by rw [IntKind.wrap_i64]; omega
  have w5 : IntKind.i64.wrap (N1 : Int) = (N1 : Int) := by rw [IntKind.wrap_i64]; omega
  have w6 : IntKind.i64.wrap ((n : Int) - 1) = (n : Int) - 1 := by rw [IntKind.wrap_i64]; omega
  have d1 : 36 * (dr : Int) + 40 * (fl : Int) + 44 * ((fl : Int) + (sl : Int)) + 4 = (L : Int) := by omega
  have c1 : ¬ (N : Int) < (L : Int) := by omega
  have c2 : ¬ (L : Int) ≤ (N1 : Int) := by omega
  have HP : Hid (∀ s ∈ P, s.size = b) := by rw [hb] at h2; exact h2
  have HB : Hid ((pg : Int) - 5 = (b : Int)) := w1'
  obtain ⟨⟨y0, y1, y2, y3, y4, y5⟩, -, -⟩ := HX.out V (Below.refl _ _)
  clear h1 h2 hab hc hT hS hbV g0 f1 f2 l1 l2 l3 l5 eb el hL hN hN1 hNN hb
  go_enter Tryd.func15, Tryd.ntmps15
  go_wp2_with fail
  refine KP.mono ?_
  rintro e x1 ⟨rfl, hb1⟩
  have HB1 : Hid (Below V.heap.size V x1) := hb1
  clear hb1 KP y0 y1 y2 y3 y4 y5 hV
  obtain ⟨⟨y0, y1, y2, y3, y4, y5⟩, -, -⟩ := HX.out x1 HB1.out
  go_wp2_with fail
  refine (num_any _ _).mono ?_
  rintro e x2 ⟨rfl, rfl⟩
  go_wp2_with fail
  clear y0 y1 y2 y3 y4 y5 d1 c1 c2 w2 w3 w4 w5 w6
  have hnb : n ≤ 1024 := hm
  go_loopg [8] n (fun gk iv wr => ∃ i : Nat, i + gk = n ∧ iv = .int .i64 (i : Int) ∧ Hid (Below V.heap.size V wr))
  case atStart => exact ⟨0, by omega, rfl, HB1.out⟩
  case round =>
    obtain ⟨i, hi, rfl, HBw⟩ := hrel
    obtain ⟨⟨y0, y1, y2, y3, y4, y5⟩, hSx, hbw⟩ := HX.out wr HBw.out
    by_cases hlt : i < n
    · have hltI : (i : Int) < (n : Int) := by omega
      obtain ⟨s, hs⟩ : ∃ s, P[i]? = some s := ⟨_, List.getElem?_eq_getElem (by omega)⟩
      obtain ⟨g, off, rfl, hgl, hcs⟩ := hSx.s hs
      have hsz : s.size = b := HP.out s (List.mem_of_getElem? hs)
      clear hs hSx hbw
      go_wp2_with fail
      go_quiet (fail)
      go_wp2
      go_roundg (gk - 1)
      case measure => omega
      case rel => exact ⟨i + 1, by omega, rfl, bdr HBw.out _⟩
    · obtain rfl : i = n := by omega
      have hltI : ¬ (i : Int) < (i : Int) := by omega
      have HB9 : Hid _ := hbw
      clear hbw hSx
      go_wp2
      go_ret
      exact ⟨rfl, HB9.out⟩
end Go.Proofs.YtbdgbefjmfcgcaaDoor.Ix
