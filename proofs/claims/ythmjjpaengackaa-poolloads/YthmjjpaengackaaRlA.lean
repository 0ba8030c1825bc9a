import Derived.Test.YthmjjpaengackaaPcE
namespace Go.Proofs.Ythmjjpaengackaa.Po
open Go.RowKit Go.Lib Go.Deep

/-! the document's pool: what it asks of a state -/
theorem sizes_any (f s : Int) (w : World) : Calls Try.prog 62 #[.int .i64 f, .int .i64 s] w fun e w' => e = .returned (.bool (roomB f s)) ∧ w' = w := by
  unfold roomB
  by_cases h1 : 1 ≤ f <;> by_cases h2 : f ≤ 65536 <;> by_cases h3 : 1 ≤ s <;> by_cases h4 : s ≤ 64
  all_goals
    simp only [h1, h2, h3, h4, and_self, and_true, and_false, decide_true, decide_false]
    go_enter Try.func62, Try.ntmps62
    go_wp2
    go_ret
    exact ⟨rfl, rfl⟩
theorem label_any (s : ByteArray) (hs : s.size ≤ maxLen) (w : World) : Calls Try.prog 79 #[.string s] w fun e w' => e = .returned (.bool (decide (isText s))) ∧ w' = w := by
  unfold isText
  unfold maxLen at hs
  by_cases h1 : s.size = 0
  · obtain rfl : s = { data := #[] } := ba_ext (List.eq_nil_of_length_eq_zero h1)
    clear hs
    simp only [h1, true_or, decide_true]
    go_enter Try.func79, Try.ntmps79
    go_wp2
    go_ret
    exact ⟨rfl, rfl⟩
  · have hE1 : s.toList.isEmpty = false := by
      rw [toList_data]
      cases hl : s.data.toList with
      | nil => exact absurd (show s.data.toList.length = 0 by rw [hl]; rfl) h1
      | cons a l => rfl
    by_cases h2 : s.size = 16
    · have h2' : (s.size : Int) = 16 := by omega
      simp only [h2, or_true, decide_true]
      go_enter Try.func79, Try.ntmps79
      go_wp2
      go_ret
      exact ⟨rfl, rfl⟩
    · have h2' : ((s.size : Int) == 16) = false := beq_false_of_ne (by omega)
      simp only [h1, h2, or_self, decide_false]
      go_enter Try.func79, Try.ntmps79
      go_wp2
      go_ret
      exact ⟨rfl, rfl⟩
/-- is it a row, for so many files -/
def rightP (o : Ob) (f : Int) : Prop := isText o.nm ∧ isText o.tg ∧ 0 ≤ o.bk ∧ o.bk ≤ 1048576 ∧ -1 ≤ o.ow ∧ o.ow < f
instance (o : Ob) (f : Int) : Decidable (rightP o f) := by unfold rightP; infer_instance
set_option maxRecDepth 20000 in
set_option maxHeartbeats 1000000 in
theorem right_any (o : Ob) (hn : o.nm.size ≤ maxLen) (ht : o.tg.size ≤ maxLen) (f : Int) (w : World) : Calls Try.prog 73 #[obV o, .int .i64 f] w fun e w' => e = .returned (.bool (decide (rightP o f))) ∧ Below w.heap.size w w' := by
  obtain ⟨nm, tg, bk, ow⟩ := o
  obtain ⟨W, hW, hb, k0⟩ := one_new w #[.string nm, .string tg, .int .i64 bk, .int .i64 ow] 35
  have i0 : W.cell? ⟨w.heap.size, 0, none⟩ = some (.string nm) := (cell_of_heap k0).trans rfl
  have i1 : W.cell? ⟨w.heap.size, 1, none⟩ = some (.string tg) := (cell_of_heap k0).trans rfl
  have i2 : W.cell? ⟨w.heap.size, 2, none⟩ = some (.int .i64 bk) := (cell_of_heap k0).trans rfl
  have i3 : W.cell? ⟨w.heap.size, 3, none⟩ = some (.int .i64 ow) := (cell_of_heap k0).trans rfl
  have c1 := label_any nm hn W
  have c2 := label_any tg ht W
  have HB : Hid _ := hb
  clear hb k0 hn ht
  unfold obV
  dsimp only
  have N1 : ∀ x : Bool, (decide (isText nm)) = x → Hid (Calls Try.prog 79 #[.string nm] W fun e w' => e = .returned (.bool x) ∧ w' = W) := fun x hx => by rw [← hx]; exact c1
  have N2 : ∀ x : Bool, (decide (isText tg)) = x → Hid (Calls Try.prog 79 #[.string tg] W fun e w' => e = .returned (.bool x) ∧ w' = W) := fun x hx => by rw [← hx]; exact c2
  clear c1 c2
  by_cases h1 : isText nm
  · have C1 := N1 true (decide_eq_true h1)
    by_cases h2 : isText tg
    · have C2 := N2 true (decide_eq_true h2)
      by_cases h3 : 0 ≤ bk
      · by_cases h4 : bk ≤ 1048576
        · by_cases h5 : -1 ≤ ow
          · by_cases h6 : ow < f
            · rw [show decide (rightP ⟨nm, tg, bk, ow⟩ f) = true from decide_eq_true ⟨h1, h2, h3, h4, h5, h6⟩]
              clear N1 N2 h1 h2
              go_enter Try.func73, Try.ntmps73
              go_wp2_with fail
              refine C1.out.mono ?_
              rintro e w2 ⟨rfl, rfl⟩
              go_wp2_with fail
              refine C2.out.mono ?_
              rintro e w2 ⟨rfl, rfl⟩
              go_wp2
              go_ret
              exact ⟨rfl, HB.out⟩
            · rw [show decide (rightP ⟨nm, tg, bk, ow⟩ f) = false from decide_eq_false (fun x => h6 x.2.2.2.2.2)]
              have h6' : decide (ow < f) = false := decide_eq_false h6
              clear N1 N2 h1 h2
              go_enter Try.func73, Try.ntmps73
              go_wp2_with fail
              refine C1.out.mono ?_
              rintro e w2 ⟨rfl, rfl⟩
              go_wp2_with fail
              refine C2.out.mono ?_
              rintro e w2 ⟨rfl, rfl⟩
              go_wp2
              go_ret
              exact ⟨rfl, HB.out⟩
          · rw [show decide (rightP ⟨nm, tg, bk, ow⟩ f) = false from decide_eq_false (fun x => h5 x.2.2.2.2.1)]
            have h5' : decide (-1 ≤ ow) = false := decide_eq_false h5
            clear N1 N2 h1 h2
            go_enter Try.func73, Try.ntmps73
            go_wp2_with fail
            refine C1.out.mono ?_
            rintro e w2 ⟨rfl, rfl⟩
            go_wp2_with fail
            refine C2.out.mono ?_
            rintro e w2 ⟨rfl, rfl⟩
            go_wp2
            go_ret
            exact ⟨rfl, HB.out⟩
        · rw [show decide (rightP ⟨nm, tg, bk, ow⟩ f) = false from decide_eq_false (fun x => h4 x.2.2.2.1)]
          have h4' : decide (bk ≤ 1048576) = false := decide_eq_false h4
          clear N1 N2 h1 h2
          go_enter Try.func73, Try.ntmps73
          go_wp2_with fail
          refine C1.out.mono ?_
          rintro e w2 ⟨rfl, rfl⟩
          go_wp2_with fail
          refine C2.out.mono ?_
          rintro e w2 ⟨rfl, rfl⟩
          go_wp2
          go_ret
          exact ⟨rfl, HB.out⟩
      · rw [show decide (rightP ⟨nm, tg, bk, ow⟩ f) = false from decide_eq_false (fun x => h3 x.2.2.1)]
        have h3' : decide (0 ≤ bk) = false := decide_eq_false h3
        clear N1 N2 h1 h2
        go_enter Try.func73, Try.ntmps73
        go_wp2_with fail
        refine C1.out.mono ?_
        rintro e w2 ⟨rfl, rfl⟩
        go_wp2_with fail
        refine C2.out.mono ?_
        rintro e w2 ⟨rfl, rfl⟩
        go_wp2
        go_ret
        exact ⟨rfl, HB.out⟩
    · have C2 := N2 false (decide_eq_false h2)
      rw [show decide (rightP ⟨nm, tg, bk, ow⟩ f) = false from decide_eq_false (fun x => h2 x.2.1)]
      clear N1 N2 h1 h2
      go_enter Try.func73, Try.ntmps73
      go_wp2_with fail
      refine C1.out.mono ?_
      rintro e w2 ⟨rfl, rfl⟩
      go_wp2_with fail
      refine C2.out.mono ?_
      rintro e w2 ⟨rfl, rfl⟩
      go_wp2
      go_ret
      exact ⟨rfl, HB.out⟩
  · have C1 := N1 false (decide_eq_false h1)
    rw [show decide (rightP ⟨nm, tg, bk, ow⟩ f) = false from decide_eq_false (fun x => h1 x.1)]
    clear N1 N2 h1
    go_enter Try.func73, Try.ntmps73
    go_wp2_with fail
    refine C1.out.mono ?_
    rintro e w2 ⟨rfl, rfl⟩
    go_wp2
    go_ret
    exact ⟨rfl, HB.out⟩
end Go.Proofs.Ythmjjpaengackaa.Po
