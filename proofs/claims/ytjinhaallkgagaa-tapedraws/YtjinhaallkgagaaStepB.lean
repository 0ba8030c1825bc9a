import Derived.Test.YtjinhaallkgagaaStepA
namespace Go.Proofs.Ytjinhaallkgagaa
open Go.RowKit Go.Lib Go.Deep

set_option maxHeartbeats 1000000 in
theorem step_neg {w : World} {t r g q : Nat} {bs : List UInt8} {d : Nat} (h : Live w t r g q bs d) (a n : Int) (hn : n < 0) :
    Calls Try.prog 14 #[.pointer (some ⟨t, 0, none⟩), .pointer (some ⟨q, 0, none⟩), .agg #[.int .i64 1, .int .i64 a, .int .i64 n]] w fun e w' => e = .returned (.bool true) ∧ (∃ bs' d', Live w' t r g q bs' d') ∧ Only [r, g, q] w w' := by
  have L1 := h.alloc (.cells #[.int .i64 1, .int .i64 a, .int .i64 n] 39)
  have o1 : Only [r, g, q] w (w.alloc (.cells #[.int .i64 1, .int .i64 a, .int .i64 n] 39)) := (Only.refl _ _).alloc _
  clear h
  go_enter Try.func14, Try.ntmps14
  go_wp2_with (first | (go_at_call 12; refine (draw_neg L1.tape n hn).mono ?_; rintro e w' ⟨rfl, rfl⟩) | (go_at_call 20; refine (refDraw_neg q n _ hn).mono ?_; rintro e w' ⟨rfl, rfl⟩) | (go_at_call 9; refine (num_any _ _).mono ?_; rintro e w' ⟨rfl, rfl⟩))
  go_ret
  exact ⟨rfl, ⟨_, _, L1⟩, o1⟩

set_option maxHeartbeats 1000000 in
theorem step_dry {w : World} {t r g q : Nat} {bs : List UInt8} {d : Nat} (h : Live w t r g q bs d) (a n : Int) (hn : (bs.length : Int) < n) :
    Calls Try.prog 14 #[.pointer (some ⟨t, 0, none⟩), .pointer (some ⟨q, 0, none⟩), .agg #[.int .i64 1, .int .i64 a, .int .i64 n]] w fun e w' => e = .returned (.bool true) ∧ (∃ bs' d', Live w' t r g q bs' d') ∧ Only [r, g, q] w w' := by
  have L1 := h.alloc (.cells #[.int .i64 1, .int .i64 a, .int .i64 n] 39)
  have o1 : Only [r, g, q] w (w.alloc (.cells #[.int .i64 1, .int .i64 a, .int .i64 n] 39)) := (Only.refl _ _).alloc _
  have hne : w.heap.size ∉ [r, g] := by
    obtain ⟨_, hr, _⟩ := h.tape.reel
    have e1 := heap_lt hr
    have e2 := h.row
    simp
    omega
  have hbox := heap_new w (.cells #[.int .i64 1, .int .i64 a, .int .i64 n] 39)
  have hlt : w.heap.size < (w.alloc (.cells #[.int .i64 1, .int .i64 a, .int .i64 n] 39)).heap.size := by simp
  clear h
  go_enter Try.func14, Try.ntmps14
  go_wp2_with (go_at_call 9; refine (num_any _ _).mono ?_; rintro e w' ⟨rfl, rfl⟩)
  refine (draw_dry L1.tape n hn).mono ?_
  rintro e w1 ⟨rfl, hx, ho⟩
  have hc : w1.cell? ⟨w.heap.size, 2, none⟩ = some (.int .i64 n) := by
    rw [cell_of_heap ((ho.block _ hlt hne).trans hbox)]
    rfl
  clear hbox hlt hne
  go_wp2_with (go_at_call 9; refine (num_any _ _).mono ?_; rintro e w' ⟨rfl, rfl⟩)
  refine (refDraw_dry' L1 hx ho n hn).mono ?_
  clear hx ho hc L1
  rintro e w2 ⟨rfl, L2, o2⟩
  go_wp2_with (go_at_call 9; refine (num_any _ _).mono ?_; rintro e w' ⟨rfl, rfl⟩)
  go_ret
  exact ⟨rfl, ⟨_, _, L2⟩, o1.trans o2⟩

set_option maxHeartbeats 1000000 in
theorem step_take {w : World} {t r g q : Nat} {bs : List UInt8} {d : Nat} (h : Live w t r g q bs d) (a : Int) (n : Nat) (hn : n ≤ bs.length) :
    Calls Try.prog 14 #[.pointer (some ⟨t, 0, none⟩), .pointer (some ⟨q, 0, none⟩), .agg #[.int .i64 1, .int .i64 a, .int .i64 (n : Int)]] w fun e w' => e = .returned (.bool true) ∧ (∃ bs' d', Live w' t r g q bs' d') ∧ Only [r, g, q] w w' := by
  have L1 := h.alloc (.cells #[.int .i64 1, .int .i64 a, .int .i64 (n : Int)] 39)
  have o1 : Only [r, g, q] w (w.alloc (.cells #[.int .i64 1, .int .i64 a, .int .i64 (n : Int)] 39)) := (Only.refl _ _).alloc _
  have hne : w.heap.size ∉ [r, g] := by
    obtain ⟨_, hr, _⟩ := h.tape.reel
    have e1 := heap_lt hr
    have e2 := h.row
    simp
    omega
  have hbox := heap_new w (.cells #[.int .i64 1, .int .i64 a, .int .i64 (n : Int)] 39)
  have hlt : w.heap.size < (w.alloc (.cells #[.int .i64 1, .int .i64 a, .int .i64 (n : Int)] 39)).heap.size := by simp
  clear h
  go_enter Try.func14, Try.ntmps14
  go_wp2_with (go_at_call 9; refine (num_any _ _).mono ?_; rintro e w' ⟨rfl, rfl⟩)
  refine (draw_take L1.tape n hn).mono ?_
  rintro e w1 ⟨rfl, hx, ho⟩
  have hc : w1.cell? ⟨w.heap.size, 2, none⟩ = some (.int .i64 (n : Int)) := by
    rw [cell_of_heap ((ho.block _ hlt hne).trans hbox)]
    rfl
  clear hbox hlt hne
  go_wp2_with (go_at_call 9; refine (num_any _ _).mono ?_; rintro e w' ⟨rfl, rfl⟩)
  refine (refDraw_take' L1 n hx ho hn).mono ?_
  clear hx ho hc L1
  rintro e w2 ⟨rfl, L2, o2⟩
  go_wp2_with (go_at_call 9; refine (num_any _ _).mono ?_; rintro e w' ⟨rfl, rfl⟩)
  go_ret
  exact ⟨rfl, ⟨_, _, L2⟩, o1.trans o2⟩

set_option maxHeartbeats 1000000 in
theorem step_left {w : World} {t r g q : Nat} {bs : List UInt8} {d : Nat} (h : Live w t r g q bs d) (a n : Int) :
    Calls Try.prog 14 #[.pointer (some ⟨t, 0, none⟩), .pointer (some ⟨q, 0, none⟩), .agg #[.int .i64 2, .int .i64 a, .int .i64 n]] w fun e w' => e = .returned (.bool true) ∧ (∃ bs' d', Live w' t r g q bs' d') ∧ Only [r, g, q] w w' := by
  have L1 := h.alloc (.cells #[.int .i64 2, .int .i64 a, .int .i64 n] 39)
  have o1 : Only [r, g, q] w (w.alloc (.cells #[.int .i64 2, .int .i64 a, .int .i64 n] 39)) := (Only.refl _ _).alloc _
  clear h
  go_enter Try.func14, Try.ntmps14
  go_wp2_with (first | (go_at_call 10; refine (left_tape L1.tape).mono ?_; rintro e w' ⟨rfl, rfl⟩) | (go_at_call 15; refine (both_left L1).mono ?_; rintro e w' ⟨rfl, rfl⟩))
  go_ret
  exact ⟨rfl, ⟨_, _, L1⟩, o1⟩

set_option maxHeartbeats 1000000 in
theorem step_drawn {w : World} {t r g q : Nat} {bs : List UInt8} {d : Nat} (h : Live w t r g q bs d) (a n : Int) :
    Calls Try.prog 14 #[.pointer (some ⟨t, 0, none⟩), .pointer (some ⟨q, 0, none⟩), .agg #[.int .i64 3, .int .i64 a, .int .i64 n]] w fun e w' => e = .returned (.bool true) ∧ (∃ bs' d', Live w' t r g q bs' d') ∧ Only [r, g, q] w w' := by
  have L1 := h.alloc (.cells #[.int .i64 3, .int .i64 a, .int .i64 n] 39)
  have o1 : Only [r, g, q] w (w.alloc (.cells #[.int .i64 3, .int .i64 a, .int .i64 n] 39)) := (Only.refl _ _).alloc _
  clear h
  go_enter Try.func14, Try.ntmps14
  go_wp2_with (first | (go_at_call 11; refine (drawn_tape L1.tape).mono ?_; rintro e w' ⟨rfl, rfl⟩) | (go_at_call 16; refine (both_drawn L1).mono ?_; rintro e w' ⟨rfl, rfl⟩))
  go_ret
  exact ⟨rfl, ⟨_, _, L1⟩, o1⟩

theorem stepNil_draw (w : World) (a n : Int) :
    Calls Try.prog 14 #[.pointer none, .pointer none, .agg #[.int .i64 1, .int .i64 a, .int .i64 n]] w fun e w' => e = .returned (.bool true) ∧ Only [] w w' := by
  go_enter Try.func14, Try.ntmps14
  go_wp2_with (first | (go_at_call 12; refine (draw_nil n _).mono ?_; rintro e w' ⟨rfl, rfl⟩) | (go_at_call 20; refine (refDraw_nil n _).mono ?_; rintro e w' ⟨rfl, rfl⟩) | (go_at_call 9; refine (num_any _ _).mono ?_; rintro e w' ⟨rfl, rfl⟩))
  go_ret
  exact ⟨rfl, (Only.refl _ _).alloc _⟩

theorem stepNil_left (w : World) (a n : Int) :
    Calls Try.prog 14 #[.pointer none, .pointer none, .agg #[.int .i64 2, .int .i64 a, .int .i64 n]] w fun e w' => e = .returned (.bool true) ∧ Only [] w w' := by
  go_enter Try.func14, Try.ntmps14
  go_wp2_with (first | (go_at_call 10; refine (left_nil _).mono ?_; rintro e w' ⟨rfl, rfl⟩) | (go_at_call 15; refine (refLeft_nil _).mono ?_; rintro e w' ⟨rfl, rfl⟩))
  go_ret
  exact ⟨rfl, (Only.refl _ _).alloc _⟩

theorem stepNil_drawn (w : World) (a n : Int) :
    Calls Try.prog 14 #[.pointer none, .pointer none, .agg #[.int .i64 3, .int .i64 a, .int .i64 n]] w fun e w' => e = .returned (.bool true) ∧ Only [] w w' := by
  go_enter Try.func14, Try.ntmps14
  go_wp2_with (first | (go_at_call 11; refine (drawn_nil _).mono ?_; rintro e w' ⟨rfl, rfl⟩) | (go_at_call 16; refine (refDrawn_nil _).mono ?_; rintro e w' ⟨rfl, rfl⟩))
  go_ret
  exact ⟨rfl, (Only.refl _ _).alloc _⟩

theorem step_none (w : World) (x y : Option Addr) (a n : Int) :
    Calls Try.prog 14 #[.pointer x, .pointer y, .agg #[.int .i64 4, .int .i64 a, .int .i64 n]] w fun e w' => e = .returned (.bool true) ∧ Only [] w w' := by
  go_enter Try.func14, Try.ntmps14
  go_wp2_with (first | (go_at_call 12; refine (draw_nil n _).mono ?_; rintro e w' ⟨rfl, rfl⟩) | (go_at_call 10; refine (left_nil _).mono ?_; rintro e w' ⟨rfl, rfl⟩) | (go_at_call 11; refine (drawn_nil _).mono ?_; rintro e w' ⟨rfl, rfl⟩) | (go_at_call 9; refine (num_any _ _).mono ?_; rintro e w' ⟨rfl, rfl⟩))
  go_ret
  exact ⟨rfl, (Only.refl _ _).alloc _⟩

theorem step_other (w : World) (x y : Option Addr) (k a n : Int) (h1 : (k == 1) = false) (h2 : (k == 2) = false) (h3 : (k == 3) = false) (h4 : (k == 4) = false) :
    Calls Try.prog 14 #[.pointer x, .pointer y, .agg #[.int .i64 k, .int .i64 a, .int .i64 n]] w fun e w' => e = .returned (.bool true) ∧ Only [] w w' := by
  go_enter Try.func14, Try.ntmps14
  go_wp2
  go_ret
  exact ⟨rfl, (Only.refl _ _).alloc _⟩

/-- A tape and the document's, both there or neither. -/
def Pair (w : World) (S : List Nat) (x y : Option Addr) : Prop :=
  (x = none ∧ y = none) ∨ ∃ t r g q bs d, S = [t, r, g, q] ∧ x = some ⟨t, 0, none⟩ ∧ y = some ⟨q, 0, none⟩ ∧ Live w t r g q bs d

theorem Pair.only {w w' : World} {S T : List Nat} {x y : Option Addr} (h : Pair w S x y) (ho : Only T w w') (hd : ∀ k ∈ S, k ∉ T) : Pair w' S x y := by
  rcases h with h | ⟨t, r, g, q, bs, d, rfl, h1, h2, h3⟩
  · exact .inl h
  · exact .inr ⟨t, r, g, q, bs, d, rfl, h1, h2, h3.only ho (hd _ (by simp)) (hd _ (by simp)) (hd _ (by simp)) (hd _ (by simp))⟩

theorem step_any {w : World} {S : List Nat} {x y : Option Addr} (h : Pair w S x y) (k a n : Int) :
    Calls Try.prog 14 #[.pointer x, .pointer y, .agg #[.int .i64 k, .int .i64 a, .int .i64 n]] w fun e w' => e = .returned (.bool true) ∧ Pair w' S x y ∧ Only S w w' := by
  by_cases h4 : k = 4
  · subst h4
    refine (step_none w x y a n).mono ?_
    rintro e w' ⟨rfl, ho⟩
    exact ⟨rfl, h.only ho (by simp), ho.mono (by simp)⟩
  · rcases h with ⟨rfl, rfl⟩ | ⟨t, r, g, q, bs, d, rfl, rfl, rfl, h⟩
    · by_cases h1 : k = 1
      · subst h1
        refine (stepNil_draw w a n).mono ?_
        rintro e w' ⟨rfl, ho⟩
        exact ⟨rfl, .inl ⟨rfl, rfl⟩, ho.mono (by simp)⟩
      · by_cases h2 : k = 2
        · subst h2
          refine (stepNil_left w a n).mono ?_
          rintro e w' ⟨rfl, ho⟩
          exact ⟨rfl, .inl ⟨rfl, rfl⟩, ho.mono (by simp)⟩
        · by_cases h3 : k = 3
          · subst h3
            refine (stepNil_drawn w a n).mono ?_
            rintro e w' ⟨rfl, ho⟩
            exact ⟨rfl, .inl ⟨rfl, rfl⟩, ho.mono (by simp)⟩
          · refine (step_other w none none k a n (by simpa using h1) (by simpa using h2) (by simpa using h3) (by simpa using h4)).mono ?_
            rintro e w' ⟨rfl, ho⟩
            exact ⟨rfl, .inl ⟨rfl, rfl⟩, ho.mono (by simp)⟩
    · have fin : ∀ (e : Ending) (w' : World), (e = .returned (.bool true) ∧ (∃ bs' d', Live w' t r g q bs' d') ∧ Only [r, g, q] w w') →
          e = .returned (.bool true) ∧ Pair w' [t, r, g, q] (some ⟨t, 0, none⟩) (some ⟨q, 0, none⟩) ∧ Only [t, r, g, q] w w' := by
        rintro e w' ⟨rfl, ⟨bs', d', hL⟩, ho⟩
        exact ⟨rfl, .inr ⟨t, r, g, q, bs', d', rfl, rfl, rfl, hL⟩, ho.mono (by intro k hk; simp at hk ⊢; omega)⟩
      by_cases h1 : k = 1
      · subst h1
        by_cases hn : n < 0
        · exact (step_neg h a n hn).mono fin
        · by_cases hm : (bs.length : Int) < n
          · exact (step_dry h a n hm).mono fin
          · obtain ⟨m, rfl⟩ : ∃ m : Nat, n = (m : Int) := ⟨n.toNat, by omega⟩
            exact (step_take h a m (by omega)).mono fin
      · by_cases h2 : k = 2
        · subst h2
          exact (step_left h a n).mono fin
        · by_cases h3 : k = 3
          · subst h3
            exact (step_drawn h a n).mono fin
          · refine (step_other w _ _ k a n (by simpa using h1) (by simpa using h2) (by simpa using h3) (by simpa using h4)).mono ?_
            rintro e w' ⟨rfl, ho⟩
            exact fin _ _ ⟨rfl, ⟨_, _, h.only ho (by simp) (by simp) (by simp) (by simp)⟩, ho.mono (by simp)⟩

end Go.Proofs.Ytjinhaallkgagaa
