import Derived.Test.YtjcmpfnndjlpkaaChaC
import Derived.Test.YtjcmpfnndjlpkaaChaD
import Derived.BigQuiet
namespace Go.Proofs.Ytjcmpfnndjlpkaa
open Go.RowKit Go.Lib Go.Deep

theorem risWord_yes (n : Nat) (h : n < 4294967296) (w : World) : Calls Try.prog 9 #[.int .i64 (n : Int)] w fun e w' => e = .returned (.bool true) ∧ w = w' := by
  have h1 : (0 : Int) ≤ (n : Int) := by omega
  have h2 : (n : Int) < 4294967296 := by omega
  go_enter Try.func9, Try.ntmps9
  go_wp2
  go_ret
  exact ⟨rfl, rfl⟩
theorem risWord_no (n : Int) (h : ¬ (0 ≤ n ∧ n < 4294967296)) (w : World) : Calls Try.prog 9 #[.int .i64 n] w fun e w' => e = .returned (.bool false) ∧ w = w' := by
  by_cases h1 : 0 ≤ n
  · have h2 : ¬ n < 4294967296 := by omega
    clear h
    go_enter Try.func9, Try.ntmps9
    go_wp2
    go_ret
    exact ⟨rfl, rfl⟩
  · clear h
    go_enter Try.func9, Try.ntmps9
    go_wp2
    go_ret
    exact ⟨rfl, rfl⟩

set_option maxHeartbeats 1000000 in
theorem rQuarter_yes (q : Q4) (hq : q.OK) (w : World) :
    Calls Try.prog 5 #[.int .i64 (q.a : Int), .int .i64 (q.b : Int), .int .i64 (q.c : Int), .int .i64 (q.d : Int)] w fun e w' => e = .returned (.tuple #[.int .i64 ((qr q).a : Int), .int .i64 ((qr q).b : Int), .int .i64 ((qr q).c : Int), .int .i64 ((qr q).d : Int), .int .i64 0]) ∧ Below w.heap.size w w' := by
  have hk := fun W => rquarter_any q hq W
  revert hk
  generalize qr q = r
  intro hk
  obtain ⟨a, b, c, d⟩ := q
  obtain ⟨ha, hb, hc, hd⟩ := hq
  obtain ⟨x, y, z, t⟩ := r
  dsimp only at ha hb hc hd hk ⊢
  go_enter Try.func5, Try.ntmps5
  go_wp2_with fail
  refine (risWord_yes a ha _).mono ?_
  rintro e w' ⟨rfl, rfl⟩
  go_wp2_with fail
  refine (risWord_yes b hb _).mono ?_
  rintro e w' ⟨rfl, rfl⟩
  go_wp2_with fail
  refine (risWord_yes c hc _).mono ?_
  rintro e w' ⟨rfl, rfl⟩
  go_wp2_with fail
  refine (risWord_yes d hd _).mono ?_
  rintro e w' ⟨rfl, rfl⟩
  go_wp2_with fail
  refine (hk _).mono ?_
  rintro e w2 ⟨rfl, hb2⟩
  go_wp2_with fail
  go_quiet (fail)
  go_wp2
  (try simp only [Exit.inBlock, Exit.then])
  refine bodyPost_ret (results_tmp5 rfl _ _ _) rfl ?_
  have h := hb2.alloc hb2.size (.cells #[.int .i64 (x : Int), .int .i64 (y : Int), .int .i64 (z : Int), .int .i64 (t : Int)] 34)
  exact ⟨rfl, ⟨h.os, h.tape, h.output, h.size, h.block⟩⟩

theorem rQuarter_no (a b c d : Int) (h : ¬ ((0 ≤ a ∧ a < 4294967296) ∧ (0 ≤ b ∧ b < 4294967296) ∧ (0 ≤ c ∧ c < 4294967296) ∧ (0 ≤ d ∧ d < 4294967296))) (w : World) :
    Calls Try.prog 5 #[.int .i64 a, .int .i64 b, .int .i64 c, .int .i64 d] w fun e w' => e = .returned (.tuple #[.int .i64 0, .int .i64 0, .int .i64 0, .int .i64 0, .int .i64 1]) ∧ w = w' := by
  by_cases ha : 0 ≤ a ∧ a < 4294967296
  · obtain ⟨a, rfl⟩ := Int.eq_ofNat_of_zero_le ha.1
    have ka := fun W => risWord_yes a (by omega) W
    by_cases hb : 0 ≤ b ∧ b < 4294967296
    · obtain ⟨b, rfl⟩ := Int.eq_ofNat_of_zero_le hb.1
      have kb := fun W => risWord_yes b (by omega) W
      by_cases hc : 0 ≤ c ∧ c < 4294967296
      · obtain ⟨c, rfl⟩ := Int.eq_ofNat_of_zero_le hc.1
        have kc := fun W => risWord_yes c (by omega) W
        have kd := fun W => risWord_no d (fun hd => h ⟨ha, hb, hc, hd⟩) W
        clear h ha hb hc
        go_enter Try.func5, Try.ntmps5
        go_wp2_with fail
        refine (ka _).mono ?_
        rintro e w' ⟨rfl, rfl⟩
        go_wp2_with fail
        refine (kb _).mono ?_
        rintro e w' ⟨rfl, rfl⟩
        go_wp2_with fail
        refine (kc _).mono ?_
        rintro e w' ⟨rfl, rfl⟩
        go_wp2_with fail
        refine (kd _).mono ?_
        rintro e w' ⟨rfl, rfl⟩
        go_wp2
        (try simp only [Exit.inBlock, Exit.then])
        refine bodyPost_ret (results_tmp5 rfl _ _ _) rfl ?_
        exact ⟨rfl, rfl⟩
      · have kc := fun W => risWord_no c hc W
        clear h ha hb hc
        go_enter Try.func5, Try.ntmps5
        go_wp2_with fail
        refine (ka _).mono ?_
        rintro e w' ⟨rfl, rfl⟩
        go_wp2_with fail
        refine (kb _).mono ?_
        rintro e w' ⟨rfl, rfl⟩
        go_wp2_with fail
        refine (kc _).mono ?_
        rintro e w' ⟨rfl, rfl⟩
        go_wp2
        (try simp only [Exit.inBlock, Exit.then])
        refine bodyPost_ret (results_tmp5 rfl _ _ _) rfl ?_
        exact ⟨rfl, rfl⟩
    · have kb := fun W => risWord_no b hb W
      clear h ha hb
      go_enter Try.func5, Try.ntmps5
      go_wp2_with fail
      refine (ka _).mono ?_
      rintro e w' ⟨rfl, rfl⟩
      go_wp2_with fail
      refine (kb _).mono ?_
      rintro e w' ⟨rfl, rfl⟩
      go_wp2
      (try simp only [Exit.inBlock, Exit.then])
      refine bodyPost_ret (results_tmp5 rfl _ _ _) rfl ?_
      exact ⟨rfl, rfl⟩
  · have ka := fun W => risWord_no a ha W
    clear h ha
    go_enter Try.func5, Try.ntmps5
    go_wp2_with fail
    refine (ka _).mono ?_
    rintro e w' ⟨rfl, rfl⟩
    go_wp2
    (try simp only [Exit.inBlock, Exit.then])
    refine bodyPost_ret (results_tmp5 rfl _ _ _) rfl ?_
    exact ⟨rfl, rfl⟩


theorem qnum_any (n : Int) (w : World) : Calls Try.prog 6 #[.int .i64 n] w fun e w' => e = .returned (.int .i64 n) ∧ w = w' := by
  go_enter Try.func6, Try.ntmps6
  go_wp2
  go_ret
  exact ⟨rfl, rfl⟩

theorem quarters_walk (a b c d : Int) (w : World) :
    Calls Try.prog 3 #[.int .i64 a, .int .i64 b, .int .i64 c, .int .i64 d] w fun e w' => e = .returned (.bool true) ∧ Below w.heap.size w w' := by
  by_cases h : (0 ≤ a ∧ a < 4294967296) ∧ (0 ≤ b ∧ b < 4294967296) ∧ (0 ≤ c ∧ c < 4294967296) ∧ (0 ≤ d ∧ d < 4294967296)
  · obtain ⟨ha, hb, hc, hd⟩ := h
    obtain ⟨a, rfl⟩ := Int.eq_ofNat_of_zero_le ha.1
    obtain ⟨b, rfl⟩ := Int.eq_ofNat_of_zero_le hb.1
    obtain ⟨c, rfl⟩ := Int.eq_ofNat_of_zero_le hc.1
    obtain ⟨d, rfl⟩ := Int.eq_ofNat_of_zero_le hd.1
    have hq : (Q4.mk a b c d).OK := ⟨by dsimp only; omega, by dsimp only; omega, by dsimp only; omega, by dsimp only; omega⟩
    have h1 := Quarter_yes ⟨a, b, c, d⟩ hq w
    have h2 := rQuarter_yes ⟨a, b, c, d⟩ hq w
    revert h1 h2
    generalize qr ⟨a, b, c, d⟩ = y
    intro h1 h2
    obtain ⟨x, y, z, t⟩ := y
    dsimp only at h1 h2
    clear ha hb hc hd hq
    go_enter Try.func3, Try.ntmps3
    go_wp2_with fail
    refine h1.mono ?_
    rintro e w1 ⟨rfl, rfl⟩
    go_wp2_with fail
    refine h2.mono ?_
    rintro e w2 ⟨rfl, hb2⟩
    go_wp2_with (go_at_call 6; refine (qnum_any _ _).mono ?_; rintro e w3 ⟨rfl, rfl⟩)
    go_ret
    exact ⟨by simp, hb2⟩
  · have h1 := Quarter_no a b c d h w
    have h2 := rQuarter_no a b c d h w
    clear h
    go_enter Try.func3, Try.ntmps3
    go_wp2_with fail
    refine h1.mono ?_
    rintro e w1 ⟨rfl, rfl⟩
    go_wp2_with fail
    refine h2.mono ?_
    rintro e w2 ⟨rfl, rfl⟩
    go_wp2_with (go_at_call 6; refine (qnum_any _ _).mono ?_; rintro e w3 ⟨rfl, rfl⟩)
    go_ret
    exact ⟨by simp, Below.refl _ _⟩

end Go.Proofs.Ytjcmpfnndjlpkaa
