import Derived.Test.YtbdgbefjmfcgcaaDoorIxN3
namespace Go.Proofs.YtbdgbefjmfcgcaaDoor.Ix
open Go.RowKit Go.Lib Go.Deep
set_option maxRecDepth 20000 in
set_option maxHeartbeats 1000000 in
theorem cutInto_any (sl fl dr mf ls pg : Nat) (hc : Cn.May ⟨sl, fl, dr, mf, ls, pg⟩) (I : List UInt8) (w : World) (hT : RT w) (av : Option Addr) (n k : Nat) (hS : See w 1 (.slice av n k) n (Lib.byteCells I)) (hn : I.length = n) (hnm : n = Cn.pgs ⟨sl, fl, dr, mf, ls, pg⟩ * (pg - 5)) :
    Calls Tryd.prog 22 #[.agg #[.int .i64 (sl : Int), .int .i64 (fl : Int), .int .i64 (dr : Int), .int .i64 (mf : Int), .int .i64 (ls : Int), .int .i64 (pg : Int)], .slice av n k] w fun e w' => ∃ a k', e = .returned (.slice a (Cn.pgs ⟨sl, fl, dr, mf, ls, pg⟩) k') ∧ w'.ownsRow w.heap.size 9 1 (.slice a (Cn.pgs ⟨sl, fl, dr, mf, ls, pg⟩) k') (Cn.pgs ⟨sl, fl, dr, mf, ls, pg⟩) (scC (cutL (pg - 5) (Cn.pgs ⟨sl, fl, dr, mf, ls, pg⟩) I)) ∧ Below w.heap.size w w' := by
  have hm1 : 1 ≤ Cn.pgs ⟨sl, fl, dr, mf, ls, pg⟩ := hc.1.fit.2.2
  have hm2 : Cn.pgs ⟨sl, fl, dr, mf, ls, pg⟩ ≤ 1024 := hc.2
  have hp1 : 64 ≤ pg := hc.1.2.2.2.2.2.2.2.2.1
  have hp2 : pg ≤ 65536 := hc.1.2.2.2.2.2.2.2.2.2
  obtain ⟨V, hV, hbV, g0⟩ := one_new w #[.int .i64 (sl : Int), .int .i64 (fl : Int), .int .i64 (dr : Int), .int .i64 (mf : Int), .int .i64 (ls : Int), .int .i64 (pg : Int)] 23
  have KP := pageCount_any sl fl dr mf ls pg hc.1 V (hT.next hbV)
  have HBS : Hid (∀ X, Calls Tryd.prog 36 #[.agg #[.int .i64 (sl : Int), .int .i64 (fl : Int), .int .i64 (dr : Int), .int .i64 (mf : Int), .int .i64 (ls : Int), .int .i64 (pg : Int)]] X fun e w' => e = .returned (.int .i64 ((pg - 5 : Nat) : Int)) ∧ Below X.heap.size X w') := fun X => bodySize_any sl fl dr mf ls pg hc.1 X
  generalize hM : Cn.pgs ⟨sl, fl, dr, mf, ls, pg⟩ = m at *
  obtain ⟨b, hb⟩ : ∃ b, pg - 5 = b := ⟨_, rfl⟩
  rw [hb] at HBS hnm ⊢
  have hb1 : 59 ≤ b := by omega
  have hb2 : b ≤ 65531 := by omega
  have hn0 : 0 < n := by rw [hnm]; exact Nat.mul_pos (by omega) (by omega)
  obtain ⟨hnk, bb, off, rfl, hcut⟩ := cut_str hS hn hn0
  have HCUT : Hid _ := hcut
  obtain ⟨y0, y1, y2, y3, y4, y5⟩ := cells6 g0
  have HG0 : Hid (V.heap[w.heap.size]? = some (.cells #[.int .i64 (sl : Int), .int .i64 (fl : Int), .int .i64 (dr : Int), .int .i64 (mf : Int), .int .i64 (ls : Int), .int .i64 (pg : Int)] 23 (0, 0))) := g0
  have HBV : Hid (Below w.heap.size w V) := hbV
  have HNM : Hid (n = m * b) := hnm
  have hmk := make_strs m (by omega)
  have HMK : Hid (∀ X : World, World.ownsRow (X.alloc (.cells (madeCells #[.string { data := #[] }] m) 9)) X.heap.size 9 1 (.slice (some ⟨X.heap.size, 0, none⟩) m m) m (scC (prt b m 0 I))) := fun X => by rw [prt_zero]; exact made_strs m (by omega) X
  generalize madeCells #[.string { data := #[] }] m = cs at *
  clear hc hT hS hn hnm hcut g0 hbV hM hb hp1 hp2
  go_enter Tryd.func22, Tryd.ntmps22
  go_wp2_with fail
  refine KP.mono ?_
  rintro e w1 ⟨rfl, hb1w⟩
  have HL0 : Hid (Lp w sl fl dr mf ls pg w1.heap.size m b I 0 (w1.alloc (.cells cs 9)) ∧ w.heap.size < w1.heap.size) := by
    have h1 := HBV.out.trans (hb1w.mono HBV.out.size)
    have gc := (hb1w.block _ (heap_lt HG0.out)).trans HG0.out
    have hw := owns_base (HMK.out w1) h1.size
    exact ⟨⟨h1.alloc h1.size _, heap_keep gc, hw⟩, heap_lt gc⟩
  clear KP hb1w HG0 HBV HMK y0 y1 y2 y3 y4 y5 hV
  go_wp2_with fail
  go_loopg [6, 12] m (fun gk xv iv wr => ∃ i : Nat, i + gk = m ∧ iv = .int .i64 (i : Int) ∧ Hid (Lp w sl fl dr mf ls pg w1.heap.size m b I i wr))
  case atStart => exact ⟨0, by omega, rfl, HL0.out.1⟩
  case round =>
    obtain ⟨i, hi, rfl, HLp⟩ := hrel
    by_cases hlt : i < m
    · have hltI : (i : Int) < (m : Int) := by omega
      obtain ⟨p, hp⟩ : ∃ p, i * b = p := ⟨_, rfl⟩
      obtain ⟨q, hq⟩ : ∃ q, (i + 1) * b = q := ⟨_, rfl⟩
      have hqp : q = p + b := by rw [← hp, ← hq, Nat.succ_mul]
      have hqn : q ≤ n := by rw [HNM.out, ← hq]; exact Nat.mul_le_mul_right b (by omega)
      have hn2 : n ≤ 1024 * 65531 := by rw [HNM.out]; exact Nat.mul_le_mul hm2 hb2
      have hpI : (i : Int) * (b : Int) = (p : Int) := by rw [← hp, Int.natCast_mul]
      have hqI : ((i : Int) + 1) * (b : Int) = (q : Int) := by rw [← hq, Int.natCast_mul, Int.natCast_add]; rfl
      have hwp : IntKind.i64.wrap (p : Int) = (p : Int) := by rw [IntKind.wrap_i64]; omega
      have hwq : IntKind.i64.wrap (q : Int) = (q : Int) := by rw [IntKind.wrap_i64]; omega
      have hwi : IntKind.i64.wrap ((i : Int) + 1) = (i : Int) + 1 := by rw [IntKind.wrap_i64]; omega
      obtain ⟨y, hy⟩ : ∃ y, str (seg I p b) = y := ⟨_, rfl⟩
      have HS : Hid (∀ X, Below wr.heap.size wr X → (X.cell? ⟨w.heap.size, 0, none⟩ = some (.int .i64 (sl : Int)) ∧ X.cell? ⟨w.heap.size, 1, none⟩ = some (.int .i64 (fl : Int)) ∧ X.cell? ⟨w.heap.size, 2, none⟩ = some (.int .i64 (dr : Int)) ∧ X.cell? ⟨w.heap.size, 3, none⟩ = some (.int .i64 (mf : Int)) ∧ X.cell? ⟨w.heap.size, 4, none⟩ = some (.int .i64 (ls : Int)) ∧ X.cell? ⟨w.heap.size, 5, none⟩ = some (.int .i64 (pg : Int))) ∧ (convert 52 9 (.slice (some ⟨bb, off + p, none⟩) b (k - p))).run Tryd.prog X = .ok (.string y) X ∧ X.cell? ⟨w1.heap.size, i, none⟩ = some (.string { data := #[] }) ∧ X.frozen? ⟨w1.heap.size, i, none⟩ = false) := fun X hX => ⟨cells6 (HLp.out.next hX).hc, by rw [← hy]; exact HCUT.out p b (k - p) (by omega) X (HLp.out.next hX).be, (HLp.out.next hX).cell hlt⟩
      obtain ⟨⟨y0, y1, y2, y3, y4, y5⟩, hcv, hce, hfr⟩ := HS.out wr (Below.refl _ _)
      have HS1 : Hid (∀ X, Below wr.heap.size wr X → (X.cell? ⟨w.heap.size, 0, none⟩ = some (.int .i64 (sl : Int)) ∧ X.cell? ⟨w.heap.size, 1, none⟩ = some (.int .i64 (fl : Int)) ∧ X.cell? ⟨w.heap.size, 2, none⟩ = some (.int .i64 (dr : Int)) ∧ X.cell? ⟨w.heap.size, 3, none⟩ = some (.int .i64 (mf : Int)) ∧ X.cell? ⟨w.heap.size, 4, none⟩ = some (.int .i64 (ls : Int)) ∧ X.cell? ⟨w.heap.size, 5, none⟩ = some (.int .i64 (pg : Int))) ∧ (convert 52 9 (.slice (some ⟨bb, off + p, none⟩) b (k - p))).run Tryd.prog X = .ok (.string y) X) := fun X hX => ⟨(HS.out X hX).1, (HS.out X hX).2.1⟩
      have HS2 : Hid (∀ X Y, Below wr.heap.size wr X → X.setCell ⟨w1.heap.size, i, none⟩ (.string y) = Y → (Y.cell? ⟨w.heap.size, 0, none⟩ = some (.int .i64 (sl : Int)) ∧ Y.cell? ⟨w.heap.size, 1, none⟩ = some (.int .i64 (fl : Int)) ∧ Y.cell? ⟨w.heap.size, 2, none⟩ = some (.int .i64 (dr : Int)) ∧ Y.cell? ⟨w.heap.size, 3, none⟩ = some (.int .i64 (mf : Int)) ∧ Y.cell? ⟨w.heap.size, 4, none⟩ = some (.int .i64 (ls : Int)) ∧ Y.cell? ⟨w.heap.size, 5, none⟩ = some (.int .i64 (pg : Int))) ∧ (convert 52 9 (.slice (some ⟨bb, off + p, none⟩) b (k - p))).run Tryd.prog Y = .ok (.string y) Y) := fun X Y hX hY => by
        have h := (HLp.out.next hX).put HL0.out.2 hlt
        rw [hp, hy, hY] at h
        exact ⟨cells6 h.hc, by have := HCUT.out p b (k - p) (by omega) _ h.be; rw [hy] at this; exact this⟩
      have hsl := fun W => slice_seg W bb off n k p q (by omega) (by omega)
      rw [show q - p = b by omega] at hsl
      have HP : Hid (i * b = p ∧ str (seg I p b) = y) := ⟨hp, hy⟩
      clear hp hq hy hqp
      go_wp2_with fail
      go_region_held_law (fun X => (X.cell? ⟨w.heap.size, 0, none⟩ = some (.int .i64 (sl : Int)) ∧ X.cell? ⟨w.heap.size, 1, none⟩ = some (.int .i64 (fl : Int)) ∧ X.cell? ⟨w.heap.size, 2, none⟩ = some (.int .i64 (dr : Int)) ∧ X.cell? ⟨w.heap.size, 3, none⟩ = some (.int .i64 (mf : Int)) ∧ X.cell? ⟨w.heap.size, 4, none⟩ = some (.int .i64 (ls : Int)) ∧ X.cell? ⟨w.heap.size, 5, none⟩ = some (.int .i64 (pg : Int))) ∧ (convert 52 9 (.slice (some ⟨bb, off + p, none⟩) b (k - p))).run Tryd.prog X = .ok (.string y) X) (first | with_reducible exact HS1.out _ hbw | with_reducible exact HS2.out _ _ hbw rfl | with_reducible exact HS1.out _ hbw.drew | with_reducible exact HS1.out _ (by (repeat (first | with_reducible exact Below.refl _ _ | with_reducible refine Below.drew ?_ | with_reducible refine below_alloc ?_ _)); (first | done | fail)) | go_keep) ((go_at_call 36; refine (HBS.out _).mono ?_; rintro e w8 ⟨rfl, hb8⟩; (first | (have hbw : Below wr.heap.size wr w8 := below_on hb8 (by (repeat (first | with_reducible exact Below.refl _ _ | with_reducible refine Below.drew ?_ | with_reducible refine below_alloc ?_ _)); (first | done | fail))) | (have hbw := below_on hb8 hbw.drew) | (have hbw := below_on hb8 hbw)); obtain ⟨-, -, hce8, hfr8⟩ := HS.out w8 hbw))
      all_goals
        go_wp2_with fail
        go_roundg (gk - 1)
        case measure => omega
        case rel =>
          refine ⟨i + 1, by omega, rfl, ?_⟩
          have h := (HLp.out.next hbw).put HL0.out.2 hlt
          rw [HP.out.1, HP.out.2] at h
          exact h
    · obtain rfl : i = m := by omega
      have hltI : ¬ (i : Int) < (i : Int) := by omega
      go_wp2
      go_ret
      exact ⟨_, _, rfl, by have := HLp.out.ho; rw [prt_all] at this; exact this, HLp.out.be⟩
end Go.Proofs.YtbdgbefjmfcgcaaDoor.Ix
