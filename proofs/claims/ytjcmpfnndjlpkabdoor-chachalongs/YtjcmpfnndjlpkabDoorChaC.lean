import Derived.Test.YtjcmpfnndjlpkabDoorChaB
namespace Go.Proofs.YtjcmpfnndjlpkabDoor
open Go.RowKit Go.Lib Go.Deep

theorem isWord_yes (n : Nat) (h : n < 4294967296) (w : World) : Calls Tryd.prog 21 #[.int .i64 (n : Int)] w fun e w' => e = .returned (.bool true) ∧ w = w' := by
  have h1 : (0 : Int) ≤ (n : Int) := by omega
  have h2 : (n : Int) < 4294967296 := by omega
  go_enter Tryd.func21, Tryd.ntmps21
  go_wp2
  go_ret
  exact ⟨rfl, rfl⟩
theorem isWord_no (n : Int) (h : ¬ (0 ≤ n ∧ n < 4294967296)) (w : World) : Calls Tryd.prog 21 #[.int .i64 n] w fun e w' => e = .returned (.bool false) ∧ w = w' := by
  by_cases h1 : 0 ≤ n
  · have h2 : ¬ n < 4294967296 := by omega
    clear h
    go_enter Tryd.func21, Tryd.ntmps21
    go_wp2
    go_ret
    exact ⟨rfl, rfl⟩
  · clear h
    go_enter Tryd.func21, Tryd.ntmps21
    go_wp2
    go_ret
    exact ⟨rfl, rfl⟩

theorem Quarter_yes (q : Q4) (hq : q.OK) (w : World) :
    Calls Tryd.prog 17 #[.int .i64 (q.a : Int), .int .i64 (q.b : Int), .int .i64 (q.c : Int), .int .i64 (q.d : Int)] w fun e w' => e = .returned (.tuple #[.int .i64 ((qr q).a : Int), .int .i64 ((qr q).b : Int), .int .i64 ((qr q).c : Int), .int .i64 ((qr q).d : Int), .int .i64 0]) ∧ w = w' := by
  have hr := qr_OK hq
  have hk := fun W => quarter_any q hq W
  revert hr hk
  generalize qr q = r
  intro hr hk
  obtain ⟨a, b, c, d⟩ := q
  obtain ⟨ha, hb, hc, hd⟩ := hq
  obtain ⟨x, y, z, t⟩ := r
  obtain ⟨hx, hy, hz, ht⟩ := hr
  dsimp only at ha hb hc hd hx hy hz ht hk ⊢
  have ea : (a : Int) % 4294967296 = (a : Int) := by omega
  have eb : (b : Int) % 4294967296 = (b : Int) := by omega
  have ec : (c : Int) % 4294967296 = (c : Int) := by omega
  have ed : (d : Int) % 4294967296 = (d : Int) := by omega
  go_enter Tryd.func17, Tryd.ntmps17
  go_wp2_with fail
  refine (isWord_yes a ha _).mono ?_
  rintro e w' ⟨rfl, rfl⟩
  go_wp2_with fail
  refine (isWord_yes b hb _).mono ?_
  rintro e w' ⟨rfl, rfl⟩
  go_wp2_with fail
  refine (isWord_yes c hc _).mono ?_
  rintro e w' ⟨rfl, rfl⟩
  go_wp2_with fail
  refine (isWord_yes d hd _).mono ?_
  rintro e w' ⟨rfl, rfl⟩
  go_wp2_with fail
  refine (hk _).mono ?_
  rintro e w' ⟨rfl, rfl⟩
  go_wp2
  (try simp only [Exit.inBlock, Exit.then])
  refine bodyPost_ret (results_tmp5 rfl _ _ _) rfl ?_
  exact ⟨rfl, rfl⟩

theorem Quarter_no (a b c d : Int) (h : ¬ ((0 ≤ a ∧ a < 4294967296) ∧ (0 ≤ b ∧ b < 4294967296) ∧ (0 ≤ c ∧ c < 4294967296) ∧ (0 ≤ d ∧ d < 4294967296))) (w : World) :
    Calls Tryd.prog 17 #[.int .i64 a, .int .i64 b, .int .i64 c, .int .i64 d] w fun e w' => e = .returned (.tuple #[.int .i64 0, .int .i64 0, .int .i64 0, .int .i64 0, .int .i64 1]) ∧ w = w' := by
  by_cases ha : 0 ≤ a ∧ a < 4294967296
  · obtain ⟨a, rfl⟩ := Int.eq_ofNat_of_zero_le ha.1
    have ka := fun W => isWord_yes a (by omega) W
    by_cases hb : 0 ≤ b ∧ b < 4294967296
    · obtain ⟨b, rfl⟩ := Int.eq_ofNat_of_zero_le hb.1
      have kb := fun W => isWord_yes b (by omega) W
      by_cases hc : 0 ≤ c ∧ c < 4294967296
      · obtain ⟨c, rfl⟩ := Int.eq_ofNat_of_zero_le hc.1
        have kc := fun W => isWord_yes c (by omega) W
        have kd := fun W => isWord_no d (fun hd => h ⟨ha, hb, hc, hd⟩) W
        clear h ha hb hc
        go_enter Tryd.func17, Tryd.ntmps17
        go_wp2_with fail
        refine (ka _).mono ?_
        rintro e w' ⟨rfl, rfl⟩
        go_wp2_with fail
        refine (kb _).mono ?_
        rintro e w' ⟨rfl, rfl⟩
        go_wp2_with fail
        refine (kc _).mono ?_
        rintro e w' ⟨rfl, rfl⟩
        go_wp2_with fail
        refine (kd _).mono ?_
        rintro e w' ⟨rfl, rfl⟩
        go_wp2
        (try simp only [Exit.inBlock, Exit.then])
        refine bodyPost_ret (results_tmp5 rfl _ _ _) rfl ?_
        exact ⟨rfl, rfl⟩
      · have kc := fun W => isWord_no c hc W
        clear h ha hb hc
        go_enter Tryd.func17, Tryd.ntmps17
        go_wp2_with fail
        refine (ka _).mono ?_
        rintro e w' ⟨rfl, rfl⟩
        go_wp2_with fail
        refine (kb _).mono ?_
        rintro e w' ⟨rfl, rfl⟩
        go_wp2_with fail
        refine (kc _).mono ?_
        rintro e w' ⟨rfl, rfl⟩
        go_wp2
        (try simp only [Exit.inBlock, Exit.then])
        refine bodyPost_ret (results_tmp5 rfl _ _ _) rfl ?_
        exact ⟨rfl, rfl⟩
    · have kb := fun W => isWord_no b hb W
      clear h ha hb
      go_enter Tryd.func17, Tryd.ntmps17
      go_wp2_with fail
      refine (ka _).mono ?_
      rintro e w' ⟨rfl, rfl⟩
      go_wp2_with fail
      refine (kb _).mono ?_
      rintro e w' ⟨rfl, rfl⟩
      go_wp2
      (try simp only [Exit.inBlock, Exit.then])
      refine bodyPost_ret (results_tmp5 rfl _ _ _) rfl ?_
      exact ⟨rfl, rfl⟩
  · have ka := fun W => isWord_no a ha W
    clear h ha
    go_enter Tryd.func17, Tryd.ntmps17
    go_wp2_with fail
    refine (ka _).mono ?_
    rintro e w' ⟨rfl, rfl⟩
    go_wp2
    (try simp only [Exit.inBlock, Exit.then])
    refine bodyPost_ret (results_tmp5 rfl _ _ _) rfl ?_
    exact ⟨rfl, rfl⟩

end Go.Proofs.YtjcmpfnndjlpkabDoor
