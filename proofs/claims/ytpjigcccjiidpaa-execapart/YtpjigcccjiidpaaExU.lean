import Derived.Test.YtpjigcccjiidpaaExT
namespace Go.Proofs.Ytpjigcccjiidpaa.Ex
open Go.RowKit Go.Lib Go.Deep

def efA (e : Ef) : Array Value := #[.int .i64 e.kd, .int .i64 e.fl, .int .i64 e.gn, .int .i64 e.at_, .int .i64 e.n, .string (str e.da), .int .i64 e.sz]
def efV (e : Ef) : Value := .agg (efA e)
def wf (z : Int) : Prop := (Lit.int .i64 z).wf = true
theorem drop_store {w : World} {o : Obj} {W : World} (h : w.alloc o = W) : Below w.heap.size w W := by rw [← h]; exact (Below.refl _ _).alloc (Nat.le_refl _) _
set_option maxRecDepth 20000 in
theorem isLive_any (w : World) (m nn : Nat) (F : Nat → Prop) (L : Fl) (h : Liv w m nn F L) (hnn : nn < maxLen) (k : Int) (hk : wf k) : Calls Try.prog 19 #[.map (some m), .int .i64 k] w fun e w' => e = .returned (.bool (fnd L k).isSome) ∧ Below w.heap.size w w' := by
  obtain ⟨W, hW, hb, k0⟩ := one_new w #[.slice none 0 0] 72
  have c0 : W.cell? ⟨w.heap.size, 0, none⟩ = some (.slice none 0 0) := (cell_of_heap k0).trans rfl
  have f0 := frozen_of_heap (j := 0) k0
  have HB : Hid _ := hb
  cases hs : fnd L k with
  | none =>
    have hr := h.none_ hk hs w rfl
    unfold zc at hr
    clear h hb k0 hk hs
    go_enter Try.func19, Try.ntmps19
    go_wp2
    go_ret
    exact ⟨rfl, HB.out.setCell (Nat.le_refl _) _⟩
  | some s =>
    obtain ⟨g, c, -, -, hq, -⟩ := h.some_ hnn hk hs
    have hr := (hq w rfl).1
    clear hq
    unfold cv at hr
    clear h hb k0 hk hs
    go_enter Try.func19, Try.ntmps19
    go_wp2
    go_ret
    exact ⟨rfl, HB.out.setCell (Nat.le_refl _) _⟩
/-- an effect in a box -/
structure Bx (w : World) (e : Ef) (W : World) : Prop where
  bl : Below w.heap.size w W
  k0 : W.heap[w.heap.size]? = some (.cells (efA e) 26 (0, 0))
theorem Bx.below {w W V : World} {e : Ef} (h : Bx w e W) (hb : Below W.heap.size W V) : Bx w e V := ⟨h.bl.trans (hb.mono h.bl.size), (hb.block _ (heap_lt h.k0)).trans h.k0⟩
theorem Bx.cells {w W : World} {e : Ef} (h : Bx w e W) : W.cell? ⟨w.heap.size, 1, none⟩ = some (.int .i64 e.fl) ∧ W.cell? ⟨w.heap.size, 2, none⟩ = some (.int .i64 e.gn) ∧ W.cell? ⟨w.heap.size, 3, none⟩ = some (.int .i64 e.at_) ∧ W.cell? ⟨w.heap.size, 4, none⟩ = some (.int .i64 e.n) ∧ W.cell? ⟨w.heap.size, 5, none⟩ = some (.string (str e.da)) ∧ W.cell? ⟨w.heap.size, 6, none⟩ = some (.int .i64 e.sz) :=
  ⟨(cell_of_heap h.k0).trans rfl, (cell_of_heap h.k0).trans rfl, (cell_of_heap h.k0).trans rfl, (cell_of_heap h.k0).trans rfl, (cell_of_heap h.k0).trans rfl, (cell_of_heap h.k0).trans rfl⟩
theorem bx_new (w : World) (e : Ef) : ∃ W, w.alloc (.cells (efA e) 26) = W ∧ Bx w e W := ⟨_, rfl, (Below.refl _ _).alloc (Nat.le_refl _) _, heap_new w _⟩
set_option maxRecDepth 20000 in
theorem mayMade_any (w : World) (m nn : Nat) (F : Nat → Prop) (L : Fl) (h : Liv w m nn F L) (hnn : nn < maxLen) (e : Ef) (hk : e.kd = 1) (hf : wf e.fl) : Calls Try.prog 24 #[.map (some m), efV e] w fun x w' => x = .returned (.bool (may L e)) ∧ Below w.heap.size w w' := by
  have hm : may L e = decide (0 ≤ e.fl ∧ fnd L e.fl = none) := by unfold may; rw [if_pos hk]
  rw [hm]
  obtain ⟨W, hW, hx⟩ := bx_new w e
  have hl := isLive_any W m nn F L (h.below hx.bl) hnn e.fl hf
  obtain ⟨c1, -⟩ := hx.cells
  have HX : Hid _ := hx
  unfold efV
  unfold efA at hW ⊢
  obtain ⟨kd, fl, gn, at_, n, da, sz⟩ := e
  dsimp only at *
  clear h hm hx hk
  by_cases h0 : 0 ≤ fl
  · cases hs : fnd L fl with
    | none =>
      rw [hs] at hl
      rw [show decide (0 ≤ fl ∧ (none : Option (List UInt8)) = none) = true by simp [h0]]
      go_enter Try.func24, Try.ntmps24
      go_wp2_with (go_at_call 19; refine hl.mono ?_; rintro e w1 ⟨rfl, hb1⟩)
      go_ret
      exact ⟨rfl, (HX.out.below hb1).bl⟩
    | some s =>
      rw [hs] at hl
      rw [show decide (0 ≤ fl ∧ (some s) = none) = false by simp]
      go_enter Try.func24, Try.ntmps24
      go_wp2_with (go_at_call 19; refine hl.mono ?_; rintro e w1 ⟨rfl, hb1⟩)
      go_ret
      exact ⟨rfl, (HX.out.below hb1).bl⟩
  · rw [show decide (0 ≤ fl ∧ fnd L fl = none) = false by simp [h0]]
    go_enter Try.func24, Try.ntmps24
    go_wp2
    go_ret
    exact ⟨rfl, HX.out.bl⟩
set_option maxRecDepth 20000 in
theorem mayGone_any (w : World) (m nn : Nat) (F : Nat → Prop) (L : Fl) (h : Liv w m nn F L) (hnn : nn < maxLen) (e : Ef) (hk : e.kd = 5) (hf : wf e.fl) : Calls Try.prog 32 #[.map (some m), efV e] w fun x w' => x = .returned (.bool (may L e)) ∧ Below w.heap.size w w' := by
  have hm : may L e = (fnd L e.fl).isSome := by unfold may; rw [if_neg (by omega), if_neg (by omega), if_neg (by omega), if_neg (by omega), if_pos hk]
  rw [hm]
  obtain ⟨W, hW, hx⟩ := bx_new w e
  have hl := isLive_any W m nn F L (h.below hx.bl) hnn e.fl hf
  obtain ⟨c1, -⟩ := hx.cells
  have HX : Hid _ := hx
  unfold efV
  unfold efA at hW ⊢
  obtain ⟨kd, fl, gn, at_, n, da, sz⟩ := e
  dsimp only at *
  clear h hm hx hk
  generalize (fnd L fl).isSome = b at *
  go_enter Try.func32, Try.ntmps32
  go_wp2_with (go_at_call 19; refine hl.mono ?_; rintro e w1 ⟨rfl, hb1⟩)
  go_ret
  exact ⟨rfl, (HX.out.below hb1).bl⟩
set_option maxRecDepth 20000 in
theorem mayOver_any (w : World) (m nn : Nat) (F : Nat → Prop) (L : Fl) (h : Liv w m nn F L) (hnn : nn < maxLen) (e : Ef) (hk : e.kd = 6) (hf : wf e.gn) : Calls Try.prog 34 #[.map (some m), efV e] w fun x w' => x = .returned (.bool (may L e)) ∧ Below w.heap.size w w' := by
  have hm : may L e = (fnd L e.gn).isSome := by unfold may; rw [if_neg (by omega), if_neg (by omega), if_neg (by omega), if_neg (by omega), if_neg (by omega), if_pos hk]
  rw [hm]
  obtain ⟨W, hW, hx⟩ := bx_new w e
  have hl := isLive_any W m nn F L (h.below hx.bl) hnn e.gn hf
  obtain ⟨-, c1, -⟩ := hx.cells
  have HX : Hid _ := hx
  unfold efV
  unfold efA at hW ⊢
  obtain ⟨kd, fl, gn, at_, n, da, sz⟩ := e
  dsimp only at *
  clear h hm hx hk
  generalize (fnd L gn).isSome = b at *
  go_enter Try.func34, Try.ntmps34
  go_wp2_with (go_at_call 19; refine hl.mono ?_; rintro e w1 ⟨rfl, hb1⟩)
  go_ret
  exact ⟨rfl, (HX.out.below hb1).bl⟩
set_option maxRecDepth 20000 in
theorem mayCut_any (w : World) (m nn : Nat) (F : Nat → Prop) (L : Fl) (h : Liv w m nn F L) (hnn : nn < maxLen) (e : Ef) (hk : e.kd = 4) (hf : wf e.fl) : Calls Try.prog 30 #[.map (some m), efV e] w fun x w' => x = .returned (.bool (may L e)) ∧ Below w.heap.size w w' := by
  have hm : may L e = decide ((fnd L e.fl).isSome = true ∧ 0 ≤ e.n ∧ e.n ≤ 65536 ∧ e.sz = e.n) := by unfold may; rw [if_neg (by omega), if_neg (by omega), if_neg (by omega), if_pos hk]
  rw [hm]
  obtain ⟨W, hW, hx⟩ := bx_new w e
  have hl := isLive_any W m nn F L (h.below hx.bl) hnn e.fl hf
  have HX : Hid _ := hx
  unfold efV
  unfold efA at hW ⊢
  obtain ⟨kd, fl, gn, at_, n, da, sz⟩ := e
  obtain ⟨c1, -, -, c4, -, c6⟩ := hx.cells
  dsimp only at *
  clear h hm hx hk
  have HL : Hid (∀ V, Below W.heap.size W V → V.cell? ⟨w.heap.size, 4, none⟩ = some (.int .i64 n) ∧ V.cell? ⟨w.heap.size, 6, none⟩ = some (.int .i64 sz) ∧ Hid (Below w.heap.size w V)) := fun V hV => ⟨(HX.out.below hV).cells.2.2.2.1, (HX.out.below hV).cells.2.2.2.2.2, (HX.out.below hV).bl⟩
  generalize (fnd L fl).isSome = b at *
  cases b with
  | false =>
    rw [show decide (false = true ∧ 0 ≤ n ∧ n ≤ 65536 ∧ sz = n) = false by simp]
    go_enter Try.func30, Try.ntmps30
    go_wp2_with (go_at_call 19; refine hl.mono ?_; rintro e w1 ⟨rfl, hb1⟩; obtain ⟨d4, d6, HB⟩ := HL.out w1 hb1)
    go_ret
    exact ⟨rfl, HB.out⟩
  | true =>
    by_cases h0 : 0 ≤ n
    · by_cases h1 : n ≤ 65536
      · by_cases h2 : sz = n
        · rw [show decide (true = true ∧ 0 ≤ n ∧ n ≤ 65536 ∧ sz = n) = true by simp [h0, h1, h2]]
          subst h2
          go_enter Try.func30, Try.ntmps30
          go_wp2_with (go_at_call 19; refine hl.mono ?_; rintro e w1 ⟨rfl, hb1⟩; obtain ⟨d4, d6, HB⟩ := HL.out w1 hb1)
          go_ret
          exact ⟨rfl, HB.out⟩
        · rw [show decide (true = true ∧ 0 ≤ n ∧ n ≤ 65536 ∧ sz = n) = false by simp [h2]]
          have h3 : (sz == n) = false := by simp [h2]
          go_enter Try.func30, Try.ntmps30
          go_wp2_with (go_at_call 19; refine hl.mono ?_; rintro e w1 ⟨rfl, hb1⟩; obtain ⟨d4, d6, HB⟩ := HL.out w1 hb1)
          go_ret
          exact ⟨rfl, HB.out⟩
      · rw [show decide (true = true ∧ 0 ≤ n ∧ n ≤ 65536 ∧ sz = n) = false by simp [h1]]
        go_enter Try.func30, Try.ntmps30
        go_wp2_with (go_at_call 19; refine hl.mono ?_; rintro e w1 ⟨rfl, hb1⟩; obtain ⟨d4, d6, HB⟩ := HL.out w1 hb1)
        go_ret
        exact ⟨rfl, HB.out⟩
    · rw [show decide (true = true ∧ 0 ≤ n ∧ n ≤ 65536 ∧ sz = n) = false by simp [h0]]
      go_enter Try.func30, Try.ntmps30
      go_wp2_with (go_at_call 19; refine hl.mono ?_; rintro e w1 ⟨rfl, hb1⟩; obtain ⟨d4, d6, HB⟩ := HL.out w1 hb1)
      go_ret
      exact ⟨rfl, HB.out⟩
end Go.Proofs.Ytpjigcccjiidpaa.Ex
