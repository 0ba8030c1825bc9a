import Derived.Test.YthmjjpaengackaaPoM
namespace Go.Proofs.Ythmjjpaengackaa.Po
open Go.RowKit Go.Lib Go.Deep

/-! small calls -/
theorem num_any (n : Int) (w : World) : Calls Try.prog 13 #[.int .i64 n] w fun e w' => e = .returned (.int .i64 n) ∧ w' = w := by
  go_enter Try.func13, Try.ntmps13
  go_wp2
  go_ret
  exact ⟨rfl, rfl⟩
def roomB (f s : Int) : Bool := decide (1 ≤ f ∧ f ≤ 65536 ∧ 1 ≤ s ∧ s ≤ 64)
theorem isRoom_any (f s : Int) (w : World) : Calls Try.prog 41 #[.int .i64 f, .int .i64 s] w fun e w' => e = .returned (.bool (roomB f s)) ∧ w' = w := by
  unfold roomB
  by_cases h1 : 1 ≤ f <;> by_cases h2 : f ≤ 65536 <;> by_cases h3 : 1 ≤ s <;> by_cases h4 : s ≤ 64
  all_goals
    simp only [h1, h2, h3, h4, and_self, and_true, and_false, decide_true, decide_false]
    go_enter Try.func41, Try.ntmps41
    go_wp2
    go_ret
    exact ⟨rfl, rfl⟩
theorem isText_any (s : ByteArray) (hs : s.size ≤ maxLen) (w : World) : Calls Try.prog 66 #[.string s] w fun e w' => e = .returned (.bool (decide (isText s))) ∧ w' = w := by
  unfold isText
  unfold maxLen at hs
  by_cases h1 : s.size = 0
  · obtain rfl : s = { data := #[] } := ba_ext (List.eq_nil_of_length_eq_zero h1)
    clear hs
    simp only [h1, true_or, decide_true]
    go_enter Try.func66, Try.ntmps66
    go_wp2
    go_ret
    exact ⟨rfl, rfl⟩
  · have hE1 : s.toList.isEmpty = false := by
      rw [toList_data]
      cases hl : s.data.toList with
      | nil => exact absurd (show s.data.toList.length = 0 by rw [hl]; rfl) h1
      | cons a l => rfl
    by_cases h2 : s.size = 16
    · have h2' : (s.size : Int) = 16 := by omega
      simp only [h2, or_true, decide_true]
      go_enter Try.func66, Try.ntmps66
      go_wp2
      go_ret
      exact ⟨rfl, rfl⟩
    · have h2' : ((s.size : Int) == 16) = false := beq_false_of_ne (by omega)
      simp only [h1, h2, or_self, decide_false]
      go_enter Try.func66, Try.ntmps66
      go_wp2
      go_ret
      exact ⟨rfl, rfl⟩
theorem isStored_any (o : Ob) (hn : o.nm.size ≤ maxLen) (ht : o.tg.size ≤ maxLen) (w : World) : Calls Try.prog 47 #[obV o] w fun e w' => e = .returned (.bool (decide (stored o))) ∧ Below w.heap.size w w' := by
  obtain ⟨nm, tg, bk, ow⟩ := o
  obtain ⟨W, hW, hb, k0⟩ := one_new w #[.string nm, .string tg, .int .i64 bk, .int .i64 ow] 35
  have i0 : W.cell? ⟨w.heap.size, 0, none⟩ = some (.string nm) := (cell_of_heap k0).trans rfl
  have i1 : W.cell? ⟨w.heap.size, 1, none⟩ = some (.string tg) := (cell_of_heap k0).trans rfl
  have i2 : W.cell? ⟨w.heap.size, 2, none⟩ = some (.int .i64 bk) := (cell_of_heap k0).trans rfl
  have c1 := isText_any nm hn W
  have c2 := isText_any tg ht W
  have HB : Hid _ := hb
  clear hb k0 hn ht
  unfold obV
  dsimp only
  have N1 : ∀ x : Bool, (decide (isText nm)) = x → Hid (Calls Try.prog 66 #[.string nm] W fun e w' => e = .returned (.bool x) ∧ w' = W) := fun x hx => by rw [← hx]; exact c1
  have N2 : ∀ x : Bool, (decide (isText tg)) = x → Hid (Calls Try.prog 66 #[.string tg] W fun e w' => e = .returned (.bool x) ∧ w' = W) := fun x hx => by rw [← hx]; exact c2
  clear c1 c2
  by_cases h1 : isText nm
  · have C1 := N1 true (decide_eq_true h1)
    by_cases h2 : isText tg
    · have C2 := N2 true (decide_eq_true h2)
      by_cases h3 : 0 ≤ bk
      · by_cases h4 : bk ≤ 1048576
        · rw [show decide (stored ⟨nm, tg, bk, ow⟩) = true from decide_eq_true ⟨h1, h2, h3, h4⟩]
          clear N1 N2 h1 h2
          go_enter Try.func47, Try.ntmps47
          go_wp2_with fail
          refine C1.out.mono ?_
          rintro e w2 ⟨rfl, rfl⟩
          go_wp2_with fail
          refine C2.out.mono ?_
          rintro e w2 ⟨rfl, rfl⟩
          go_wp2
          go_ret
          exact ⟨rfl, HB.out⟩
        · have h4' : decide (bk ≤ 1048576) = false := decide_eq_false h4
          rw [show decide (stored ⟨nm, tg, bk, ow⟩) = false from decide_eq_false (fun x => h4 x.2.2.2)]
          clear N1 N2 h1 h2
          go_enter Try.func47, Try.ntmps47
          go_wp2_with fail
          refine C1.out.mono ?_
          rintro e w2 ⟨rfl, rfl⟩
          go_wp2_with fail
          refine C2.out.mono ?_
          rintro e w2 ⟨rfl, rfl⟩
          go_wp2
          go_ret
          exact ⟨rfl, HB.out⟩
      · rw [show decide (stored ⟨nm, tg, bk, ow⟩) = false from decide_eq_false (fun x => h3 x.2.2.1)]
        clear N1 N2 h1 h2
        go_enter Try.func47, Try.ntmps47
        go_wp2_with fail
        refine C1.out.mono ?_
        rintro e w2 ⟨rfl, rfl⟩
        go_wp2_with fail
        refine C2.out.mono ?_
        rintro e w2 ⟨rfl, rfl⟩
        go_wp2
        go_ret
        exact ⟨rfl, HB.out⟩
    · have C2 := N2 false (decide_eq_false h2)
      rw [show decide (stored ⟨nm, tg, bk, ow⟩) = false from decide_eq_false (fun x => h2 x.2.1)]
      clear N1 N2 h1 h2
      go_enter Try.func47, Try.ntmps47
      go_wp2_with fail
      refine C1.out.mono ?_
      rintro e w2 ⟨rfl, rfl⟩
      go_wp2_with fail
      refine C2.out.mono ?_
      rintro e w2 ⟨rfl, rfl⟩
      go_wp2
      go_ret
      exact ⟨rfl, HB.out⟩
  · have C1 := N1 false (decide_eq_false h1)
    rw [show decide (stored ⟨nm, tg, bk, ow⟩) = false from decide_eq_false (fun x => h1 x.1)]
    clear N1 N2 h1
    go_enter Try.func47, Try.ntmps47
    go_wp2_with fail
    refine C1.out.mono ?_
    rintro e w2 ⟨rfl, rfl⟩
    go_wp2
    go_ret
    exact ⟨rfl, HB.out⟩
theorem made_any (w : World) (pb q : Nat) (h : w.cell? ⟨pb, 0, none⟩ = some (.pointer (some ⟨q, 0, none⟩))) : Calls Try.prog 26 #[.pointer (some ⟨pb, 0, none⟩)] w fun e w' => e = .returned (.bool true) ∧ w' = w := by
  go_enter Try.func26, Try.ntmps26
  go_wp2
  go_ret
  exact ⟨rfl, rfl⟩
theorem isDummy_any (o : Ob) (b : Bool) (w : World) : Calls Try.prog 35 #[.agg #[.string o.nm, .string o.tg, .int .i64 o.bk, .int .i64 o.ow, .bool b]] w fun e w' => e = .returned (.bool (decide (o.ow = -1))) ∧ Below w.heap.size w w' := by
  obtain ⟨nm, tg, bk, ow⟩ := o
  dsimp only
  obtain ⟨W, hW, hb, k0⟩ := one_new w #[.string nm, .string tg, .int .i64 bk, .int .i64 ow, .bool b] 76
  have i0 : W.cell? ⟨w.heap.size, 3, none⟩ = some (.int .i64 ow) := (cell_of_heap k0).trans rfl
  have HB : Hid _ := hb
  clear hb k0
  by_cases h1 : ow = -1
  · simp only [h1, decide_true] at *
    go_enter Try.func35, Try.ntmps35
    go_wp2
    go_ret
    exact ⟨rfl, HB.out⟩
  · have h1' : (ow == -1) = false := beq_false_of_ne h1
    simp only [h1, decide_false] at *
    go_enter Try.func35, Try.ntmps35
    go_wp2
    go_ret
    exact ⟨rfl, HB.out⟩
theorem isOut_any (o : Ob) (b : Bool) (w : World) : Calls Try.prog 29 #[.agg #[.string o.nm, .string o.tg, .int .i64 o.bk, .int .i64 o.ow, .bool b]] w fun e w' => e = .returned (.bool (decide (o.ow = -1) && !b)) ∧ Below w.heap.size w w' := by
  obtain ⟨W, hW, hb, k0⟩ := one_new w #[.string o.nm, .string o.tg, .int .i64 o.bk, .int .i64 o.ow, .bool b] 76
  have c1 := isDummy_any o b W
  obtain ⟨nm, tg, bk, ow⟩ := o
  dsimp only at *
  have i0 : W.cell? ⟨w.heap.size, 0, none⟩ = some (.string nm) := (cell_of_heap k0).trans rfl
  have i1 : W.cell? ⟨w.heap.size, 1, none⟩ = some (.string tg) := (cell_of_heap k0).trans rfl
  have i2 : W.cell? ⟨w.heap.size, 2, none⟩ = some (.int .i64 bk) := (cell_of_heap k0).trans rfl
  have i3 : W.cell? ⟨w.heap.size, 3, none⟩ = some (.int .i64 ow) := (cell_of_heap k0).trans rfl
  have i4 : W.cell? ⟨w.heap.size, 4, none⟩ = some (.bool b) := (cell_of_heap k0).trans rfl
  have HB : Hid (∀ w2, Below W.heap.size W w2 → Below w.heap.size w w2 ∧ w2.cell? ⟨w.heap.size, 4, none⟩ = some (.bool b)) := fun w2 h2 => ⟨hb.trans (h2.mono hb.size), (cell_of_heap ((h2.block _ (heap_lt k0)).trans k0)).trans rfl⟩
  clear hb k0
  by_cases h1 : ow = -1
  · cases b
    · simp only [h1, decide_true, Bool.not_false, Bool.and_true] at *
      go_enter Try.func29, Try.ntmps29
      go_wp2_with (go_at_call 35; refine c1.mono ?_; rintro e w2 ⟨rfl, h2⟩; obtain ⟨HB2, j4⟩ := HB.out w2 h2; have HB3 : Hid _ := HB2; clear HB2 h2)
      go_ret
      exact ⟨rfl, HB3.out⟩
    · simp only [h1, decide_true, Bool.not_true, Bool.and_false] at *
      go_enter Try.func29, Try.ntmps29
      go_wp2_with (go_at_call 35; refine c1.mono ?_; rintro e w2 ⟨rfl, h2⟩; obtain ⟨HB2, j4⟩ := HB.out w2 h2; have HB3 : Hid _ := HB2; clear HB2 h2)
      go_ret
      exact ⟨rfl, HB3.out⟩
  · simp only [h1, decide_false, Bool.false_and] at *
    go_enter Try.func29, Try.ntmps29
    go_wp2_with (go_at_call 35; refine c1.mono ?_; rintro e w2 ⟨rfl, h2⟩; obtain ⟨HB2, j4⟩ := HB.out w2 h2; have HB3 : Hid _ := HB2; clear HB2 h2)
    go_ret
    exact ⟨rfl, HB3.out⟩
end Go.Proofs.Ythmjjpaengackaa.Po
