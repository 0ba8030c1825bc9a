import Derived.Test.YtcfmcjdgdpignaaDoorBnA
namespace Go.Proofs.YtcfmcjdgdpignaaDoor
open Go.RowKit Go.Lib

theorem state_nil (w : World) : Calls Tryd.prog 7 #[.pointer none] w fun e w' => e = .returned (.string { data := #[] }) ∧ w = w' := by
  go_enter Tryd.func7, Tryd.ntmps7
  go_wp2_with (go_at_call 18; refine (there_nil w).mono ?_; rintro e w' ⟨rfl, rfl⟩)
  go_ret
  exact ⟨rfl, rfl⟩
theorem num2_any (n : Int) (w : World) : Calls Tryd.prog 6 #[.int .i64 n] w fun e w' => e = .returned (.int .i64 n) ∧ w = w' := by
  go_enter Tryd.func6, Tryd.ntmps6
  go_wp2
  go_ret
  exact ⟨rfl, rfl⟩
/-- which of the four a number means -/
theorem place4_any (n : Int) (w : World) : Calls Tryd.prog 24 #[.int .i64 n] w fun e w' => (∃ j : Nat, e = .returned (.int .i64 (j : Int)) ∧ j < 4) ∧ w = w' := by
  obtain ⟨m, hm⟩ : ∃ m, n.tmod 4 = m := ⟨_, rfl⟩
  have hm1 : m < 4 := by rw [← hm]; exact Int.tmod_lt_of_pos n (by omega)
  have hm2 : -4 < m := by rw [← hm]; exact Int.lt_tmod_of_pos n (by omega)
  have v1 : IntKind.i64.wrap m = m := by rw [IntKind.wrap_i64]; omega
  have v2 : IntKind.i64.wrap (m + 4) = m + 4 := by rw [IntKind.wrap_i64]; omega
  obtain ⟨j, hj, hj2⟩ : ∃ j : Nat, (m + 4).tmod 4 = (j : Int) ∧ j < 4 := ⟨((m + 4).tmod 4).toNat, by
    rw [Int.tmod_eq_emod_of_nonneg (by omega)]; omega, by rw [Int.tmod_eq_emod_of_nonneg (by omega)]; omega⟩
  have v3 : IntKind.i64.wrap (j : Int) = (j : Int) := by rw [IntKind.wrap_i64]; omega
  go_enter Tryd.func24, Tryd.ntmps24
  go_wp2
  go_ret
  exact ⟨⟨j, rfl, hj2⟩, rfl⟩

/-- a step with a place that holds nil -/
theorem none_any (K A F : Int) (s : ByteArray) (w : World) : Calls Tryd.prog 28 #[.agg #[.int .i64 K, .int .i64 A, .int .i64 F, .string s]] w fun e w' => e = .returned (.bool true) ∧ Below w.heap.size w w' := by
  have hb : Below w.heap.size w (w.alloc (.cells #[.int .i64 K, .int .i64 A, .int .i64 F, .string s] 44)) := (Below.refl _ _).alloc (Nat.le_refl _) _
  go_enter Tryd.func28, Tryd.ntmps28
  go_wp2_with (first | (go_at_call 10; refine (write_nil _ _).mono ?_; rintro e w' ⟨rfl, rfl⟩) | (go_at_call 11; refine (hsum_nil _).mono ?_; rintro e w' ⟨rfl, rfl⟩) | (go_at_call 31; refine (count_nil _).mono ?_; rintro e w' ⟨rfl, rfl⟩) | (go_at_call 7; refine (state_nil _).mono ?_; rintro e w' ⟨rfl, rfl⟩) | (go_at_call 6; refine (num2_any _ _).mono ?_; rintro e w' ⟨rfl, rfl⟩))
  all_goals (go_ret; exact ⟨rfl, hb⟩)

theorem rrest_any (s : ByteArray) (hs : s.size ≤ 9223372036854775807) (w : World) : Calls Tryd.prog 35 #[.string s] w (RRest w s.data.toList) := by
  by_cases h : s.size < 40
  · exact rrest_short s w h
  · exact rrest_long s w (by omega) hs

set_option maxRecDepth 20000 in
set_option maxHeartbeats 1000000 in
theorem lay_any {w wr : World} {b : Nat} {V U : Nat → Option Nat} (h : Bn w wr b V U 4) (j : Nat) (hj : j < 4) (s : ByteArray) (hs : s.size ≤ 9223372036854775807) (ht : Tabs wr) (h4 : 4 ≤ wr.heap.size) :
    Calls Tryd.prog 26 #[.pointer (some ⟨b, 0, none⟩), .int .i64 (j : Int), .string s] wr fun e w' => e = .returned (.bool true) ∧ ∃ V' U', Bn w w' b V' U' 4 := by
  by_cases hg : Good s.data.toList
  · have hO : Calls Tryd.prog 5 #[.string s] wr fun e w' => (∃ q, e = .returned (.tuple #[.pointer (some ⟨q, 0, none⟩), .int .i64 0]) ∧ wr.heap.size ≤ q ∧ Hs w' q (w8 (stWords s.data.toList)) (s.data.toList.drop 40) (stCount s.data.toList)) ∧ Below wr.heap.size wr w' := by
      refine (restore_any s wr ht h4).mono ?_
      rintro e w' ⟨⟨_, h1⟩ | ⟨h1, _⟩, h2⟩
      · exact ⟨h1, h2⟩
      · exact absurd hg h1
    have hR := fun W => (rrest_any s hs W).mono (R' := fun e w' => (∃ q, e = .returned (.tuple #[.pointer (some ⟨q, 0, none⟩), .int .i64 0]) ∧ W.heap.size ≤ q ∧ Rh w' q (w8 (stWords s.data.toList)) (stCount s.data.toList - stCount s.data.toList % 64) (str (s.data.toList.drop 40))) ∧ Below W.heap.size W w') (by
      rintro e w' ⟨⟨_, h1⟩ | ⟨h1, _⟩, h2⟩
      · exact ⟨h1, h2⟩
      · exact absurd hg h1)
    go_enter Tryd.func26, Tryd.ntmps26
    go_wp2_with fail
    refine hO.mono ?_
    rintro e w1 ⟨⟨p, rfl, hp, hHs⟩, hb1⟩
    go_wp2_with fail
    refine (hR w1).mono ?_
    rintro e w2 ⟨⟨q, rfl, hq, hRh⟩, hb2⟩
    have hz1 := hb1.size
    have hB : Below wr.heap.size wr w2 := hb1.trans (hb2.mono hz1)
    have HP : Hid (Pair w2 p q (w8 (stWords s.data.toList)) (stCount s.data.toList - stCount s.data.toList % 64) (str (s.data.toList.drop 40))) := Pair.restored hg (hHs.below hb2 hHs.lt) hRh
    have HF : Hid (∃ V' U', Bn w ((w2.setCell ⟨b, j, none⟩ (.pointer (some ⟨p, 0, none⟩))).setCell ⟨b, 4 + j, none⟩ (.pointer (some ⟨q, 0, none⟩))) b V' U' 4) := ⟨_, _, h.lay hB j hj hp (by omega) HP.out⟩
    obtain ⟨c1, c2, f1, f2⟩ := (h.below hB).cells j hj
    clear hHs hRh hb1 hb2 hB hO hR h hp hq hz1 HP
    generalize pv (V j) = x1 at c1
    generalize pv (U j) = x2 at c2
    have hjI : (j : Int) < 4 := by omega
    go_wp2_with (go_at_call 6; refine (num2_any _ _).mono ?_; rintro e w' ⟨rfl, rfl⟩)
    go_ret
    exact ⟨rfl, HF.out⟩
  · have hO : Calls Tryd.prog 5 #[.string s] wr fun e w' => e = .returned (.tuple #[.pointer none, .int .i64 21]) ∧ Below wr.heap.size wr w' := by
      refine (restore_any s wr ht h4).mono ?_
      rintro e w' ⟨⟨h1, _⟩ | ⟨_, h1⟩, h2⟩
      · exact absurd h1 hg
      · exact ⟨h1, h2⟩
    have hR := fun W => (rrest_any s hs W).mono (R' := fun e w' => e = .returned (.tuple #[.pointer none, .int .i64 21]) ∧ Below W.heap.size W w') (by
      rintro e w' ⟨⟨h1, _⟩ | ⟨_, h1⟩, h2⟩
      · exact absurd h1 hg
      · exact ⟨h1, h2⟩)
    go_enter Tryd.func26, Tryd.ntmps26
    go_wp2_with fail
    refine hO.mono ?_
    rintro e w1 ⟨rfl, hb1⟩
    go_wp2_with fail
    refine (hR w1).mono ?_
    rintro e w2 ⟨rfl, hb2⟩
    have hz1 := hb1.size
    have hB : Below wr.heap.size wr w2 := hb1.trans (hb2.mono hz1)
    have HF : Hid (∃ V' U', Bn w ((w2.setCell ⟨b, j, none⟩ (.pointer none)).setCell ⟨b, 4 + j, none⟩ (.pointer none)) b V' U' 4) := ⟨_, _, h.layNil hB j hj⟩
    obtain ⟨c1, c2, f1, f2⟩ := (h.below hB).cells j hj
    clear hb1 hb2 hB hO hR h hz1
    generalize pv (V j) = x1 at c1
    generalize pv (U j) = x2 at c2
    have hjI : (j : Int) < 4 := by omega
    go_wp2_with (go_at_call 6; refine (num2_any _ _).mono ?_; rintro e w' ⟨rfl, rfl⟩)
    go_ret
    exact ⟨rfl, HF.out⟩

end Go.Proofs.YtcfmcjdgdpignaaDoor
