import Derived.Test.YthmjjpaengackaaPlA
namespace Go.Proofs.Ythmjjpaengackaa.Po
open Go.RowKit Go.Lib Go.Deep

set_option maxRecDepth 20000 in
set_option maxHeartbeats 4000000 in
theorem mayLie_any (w : World) (q : Nat) (F : List Nat) (nn : Nat) (S : Ps) (i : Nat) (o : Ob) (hL : Lay w q F nn S) (hn : o.nm.size ≤ maxLen) (ht : o.tg.size ≤ maxLen) : Calls Try.prog 60 #[.pointer (some ⟨q, 0, none⟩), .int .i64 (i : Int), obV o] w fun e w' => e = .returned (.bool (decide (mayS S i o))) ∧ Below w.heap.size w w' := by
  obtain ⟨V, hV, hb, k0⟩ := one_new w #[.string o.nm, .string o.tg, .int .i64 o.bk, .int .i64 o.ow] 35
  have x0 : V.cell? ⟨w.heap.size, 0, none⟩ = some (.string o.nm) := (cell_of_heap k0).trans rfl
  have x1 : V.cell? ⟨w.heap.size, 1, none⟩ = some (.string o.tg) := (cell_of_heap k0).trans rfl
  have x2 : V.cell? ⟨w.heap.size, 2, none⟩ = some (.int .i64 o.bk) := (cell_of_heap k0).trans rfl
  have x3 : V.cell? ⟨w.heap.size, 3, none⟩ = some (.int .i64 o.ow) := (cell_of_heap k0).trans rfl
  have hfi := isFile_any V q F nn S o.ow (hL.below hb)
  have hst := isStored_any o hn ht V
  have HH : Hid (∀ W, Below V.heap.size V W → Hid (Below w.heap.size w W) ∧ W.cell? ⟨w.heap.size, 0, none⟩ = some (.string o.nm) ∧ Calls Try.prog 48 #[.pointer (some ⟨q, 0, none⟩), .string o.nm, .int .i64 (i : Int)] W fun e w' => e = .returned (.bool (otherL S.R o.nm i)) ∧ w' = W) := fun W hbW => ⟨hb.trans (hbW.mono hb.size), (cell_of_heap ((hbW.block _ (heap_lt k0)).trans k0)).trans rfl, isOther_any W q F nn S o.nm i ((hL.below hb).below hbW) hn⟩
  have HBV : Hid (Below w.heap.size w V) := hb
  have hHe := fun (hf : fileN S o.ow) => isHeld_any V q F nn S o.ow (hL.below hb) hf
  unfold obV at *
  clear hb k0 hn ht hL
  by_cases h1 : o.ow = -1
  · clear hfi hHe
    by_cases h3 : stored o
    · rw [show decide (stored o) = true from decide_eq_true h3] at hst
      cases h4 : otherL S.R o.nm i with
      | false =>
        rw [show decide (mayS S i o) = true from decide_eq_true ⟨.inl h1, h3, h4⟩]
        simp only [h4] at HH
        obtain ⟨nm, tg, bk, ow⟩ := o
        dsimp only at *
        subst h1
        clear h3
        go_enter Try.func60, Try.ntmps60
        go_wp2_with (first
          | (go_at_call 47; refine hst.mono ?_; rintro e w3 ⟨rfl, hb3⟩; obtain ⟨HB3, y0, hot⟩ := HH.out w3 hb3; clear hb3 HH)
          | (go_at_call 48; refine hot.mono ?_; rintro e w2 ⟨rfl, e2⟩; obtain rfl := e2.symm))
        go_ret
        exact ⟨rfl, HB3.out⟩
      | true =>
        rw [show decide (mayS S i o) = false from decide_eq_false (fun x => by have := x.2.2; rw [h4] at this; cases this)]
        simp only [h4] at HH
        obtain ⟨nm, tg, bk, ow⟩ := o
        dsimp only at *
        subst h1
        clear h3
        go_enter Try.func60, Try.ntmps60
        go_wp2_with (first
          | (go_at_call 47; refine hst.mono ?_; rintro e w3 ⟨rfl, hb3⟩; obtain ⟨HB3, y0, hot⟩ := HH.out w3 hb3; clear hb3 HH)
          | (go_at_call 48; refine hot.mono ?_; rintro e w2 ⟨rfl, e2⟩; obtain rfl := e2.symm))
        go_ret
        exact ⟨rfl, HB3.out⟩
    · rw [show decide (stored o) = false from decide_eq_false h3] at hst
      rw [show decide (mayS S i o) = false from decide_eq_false (fun x => h3 x.2.1)]
      obtain ⟨nm, tg, bk, ow⟩ := o
      dsimp only at *
      subst h1
      clear h3
      go_enter Try.func60, Try.ntmps60
      go_wp2_with (first
        | (go_at_call 47; refine hst.mono ?_; rintro e w3 ⟨rfl, hb3⟩; obtain ⟨HB3, y0, hot⟩ := HH.out w3 hb3; clear hb3 HH))
      go_ret
      exact ⟨rfl, HB3.out⟩
  · have h1' : (o.ow == -1) = false := beq_false_of_ne h1
    by_cases h2 : fileN S o.ow
    · rw [show decide (fileN S o.ow) = true from decide_eq_true h2] at hfi
      have hhe := hHe h2
      cases h5 : heldL S.R o.ow with
      | false =>
        rw [h5] at hhe
        by_cases h3 : stored o
        · rw [show decide (stored o) = true from decide_eq_true h3] at hst
          cases h4 : otherL S.R o.nm i with
          | false =>
            rw [show decide (mayS S i o) = true from decide_eq_true ⟨.inr ⟨h2, h5⟩, h3, h4⟩]
            simp only [h4] at HH
            clear hHe h2 h3 h5 h1
            obtain ⟨nm, tg, bk, ow⟩ := o
            dsimp only at *
            go_enter Try.func60, Try.ntmps60
            go_wp2_with (first
              | (go_at_call 32; refine hfi.mono ?_; rintro e w2 ⟨rfl, e2⟩; obtain rfl := e2.symm)
              | (go_at_call 33; refine hhe.mono ?_; rintro e w2 ⟨rfl, e2⟩; obtain rfl := e2.symm)
              | (go_at_call 47; refine hst.mono ?_; rintro e w3 ⟨rfl, hb3⟩; obtain ⟨HB3, y0, hot⟩ := HH.out w3 hb3; clear hb3 HH)
              | (go_at_call 48; refine hot.mono ?_; rintro e w2 ⟨rfl, e2⟩; obtain rfl := e2.symm))
            go_ret
            exact ⟨rfl, HB3.out⟩
          | true =>
            rw [show decide (mayS S i o) = false from decide_eq_false (fun x => by have := x.2.2; rw [h4] at this; cases this)]
            simp only [h4] at HH
            clear hHe h2 h3 h5 h1
            obtain ⟨nm, tg, bk, ow⟩ := o
            dsimp only at *
            go_enter Try.func60, Try.ntmps60
            go_wp2_with (first
              | (go_at_call 32; refine hfi.mono ?_; rintro e w2 ⟨rfl, e2⟩; obtain rfl := e2.symm)
              | (go_at_call 33; refine hhe.mono ?_; rintro e w2 ⟨rfl, e2⟩; obtain rfl := e2.symm)
              | (go_at_call 47; refine hst.mono ?_; rintro e w3 ⟨rfl, hb3⟩; obtain ⟨HB3, y0, hot⟩ := HH.out w3 hb3; clear hb3 HH)
              | (go_at_call 48; refine hot.mono ?_; rintro e w2 ⟨rfl, e2⟩; obtain rfl := e2.symm))
            go_ret
            exact ⟨rfl, HB3.out⟩
        · rw [show decide (stored o) = false from decide_eq_false h3] at hst
          rw [show decide (mayS S i o) = false from decide_eq_false (fun x => h3 x.2.1)]
          clear hHe h2 h3 h5 h1
          obtain ⟨nm, tg, bk, ow⟩ := o
          dsimp only at *
          go_enter Try.func60, Try.ntmps60
          go_wp2_with (first
            | (go_at_call 32; refine hfi.mono ?_; rintro e w2 ⟨rfl, e2⟩; obtain rfl := e2.symm)
            | (go_at_call 33; refine hhe.mono ?_; rintro e w2 ⟨rfl, e2⟩; obtain rfl := e2.symm)
            | (go_at_call 47; refine hst.mono ?_; rintro e w3 ⟨rfl, hb3⟩; obtain ⟨HB3, y0, hot⟩ := HH.out w3 hb3; clear hb3 HH))
          go_ret
          exact ⟨rfl, HB3.out⟩
      | true =>
        rw [h5] at hhe
        rw [show decide (mayS S i o) = false from decide_eq_false (fun x => by rcases x.1 with y | y; exact h1 y; have := y.2; rw [h5] at this; cases this)]
        clear hHe h2 h5 h1 HH hst
        obtain ⟨nm, tg, bk, ow⟩ := o
        dsimp only at *
        go_enter Try.func60, Try.ntmps60
        go_wp2_with (first
          | (go_at_call 32; refine hfi.mono ?_; rintro e w2 ⟨rfl, e2⟩; obtain rfl := e2.symm)
          | (go_at_call 33; refine hhe.mono ?_; rintro e w2 ⟨rfl, e2⟩; obtain rfl := e2.symm))
        go_ret
        exact ⟨rfl, HBV.out⟩
    · rw [show decide (fileN S o.ow) = false from decide_eq_false h2] at hfi
      rw [show decide (mayS S i o) = false from decide_eq_false (fun x => by rcases x.1 with y | y; exact h1 y; exact h2 y.1)]
      clear hHe h2 h1 HH hst
      obtain ⟨nm, tg, bk, ow⟩ := o
      dsimp only at *
      go_enter Try.func60, Try.ntmps60
      go_wp2_with (first
        | (go_at_call 32; refine hfi.mono ?_; rintro e w2 ⟨rfl, e2⟩; obtain rfl := e2.symm))
      go_ret
      exact ⟨rfl, HBV.out⟩
end Go.Proofs.Ythmjjpaengackaa.Po
