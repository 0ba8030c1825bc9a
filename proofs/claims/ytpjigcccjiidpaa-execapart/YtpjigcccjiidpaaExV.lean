import Derived.Test.YtpjigcccjiidpaaExU
namespace Go.Proofs.Ytpjigcccjiidpaa.Ex
open Go.RowKit Go.Lib Go.Deep

/-- an effect in a box, and a content behind it -/
structure Bw (w : World) (e : Ef) (q : Nat) (v : Value) (W : World) : Prop where
  bx : Bx w e W
  hq : w.heap.size < q
  k1 : W.heap[q]? = some (.cells #[v] 72 (0, 0))
theorem Bw.below {w W V : World} {e : Ef} {q : Nat} {v : Value} (h : Bw w e q v W) (hb : Below W.heap.size W V) : Bw w e q v V := ⟨h.bx.below hb, h.hq, (hb.block _ (heap_lt h.k1)).trans h.k1⟩
theorem Bw.put {w W : World} {e : Ef} {q : Nat} {v u : Value} (h : Bw w e q v W) : Bw w e q u (W.setCell ⟨q, 0, none⟩ u) := ⟨⟨h.bx.bl.setCell (by show w.heap.size ≤ q; have := h.hq; omega) _, (heap_setCell_other _ _ _ _ (by show w.heap.size ≠ q; have := h.hq; omega)).trans h.bx.k0⟩, h.hq, put1 h.k1⟩
theorem bw_new (w : World) (e : Ef) (v : Value) {W : World} (h : Bx w e W) : ∃ W2, W.alloc (.cells #[v] 72) = W2 ∧ Bw w e W.heap.size v W2 := by
  obtain ⟨W2, hW, hb, k1⟩ := one_new W #[v] 72
  exact ⟨W2, hW, h.below hb, heap_lt h.k0, k1⟩
theorem Bw.cells {w W : World} {e : Ef} {q : Nat} {v : Value} (h : Bw w e q v W) : W.cell? ⟨q, 0, none⟩ = some v ∧ W.frozen? ⟨q, 0, none⟩ = false := ⟨(cell_of_heap h.k1).trans rfl, frozen_of_heap h.k1⟩
set_option maxRecDepth 20000 in
set_option maxHeartbeats 1000000 in
theorem mayWrite_any (w : World) (m nn : Nat) (F : Nat → Prop) (L : Fl) (h : Liv w m nn F L) (hnn : nn < maxLen) (e : Ef) (hk : e.kd = 3) (hf : wf e.fl) (hd : e.da.length ≤ 1152921504606846976) (hL : ∀ s, fnd L e.fl = some s → s.length ≤ 1152921504606846976) : Calls Try.prog 28 #[.map (some m), efV e] w fun x w' => x = .returned (.bool (may L e)) ∧ Below w.heap.size w w' := by
  have hm : may L e = (match fnd L e.fl with | none => false | some s => decide (0 ≤ e.at_ ∧ e.at_ ≤ 65536 - (e.da.length : Int) ∧ e.sz = szI s e.at_ e.da)) := by unfold may; rw [if_neg (by omega), if_neg (by omega), if_pos hk]; rfl
  rw [hm]
  clear hm hk
  obtain ⟨W, hW, hx⟩ := bx_new w e
  obtain ⟨W2, hW2, hx2⟩ := bw_new w e (.slice none 0 0) hx
  have hne : w.heap.size ≠ W.heap.size := by have := hx2.hq; omega
  obtain ⟨c1, -⟩ := hx.cells
  obtain ⟨d0, df⟩ := hx2.cells
  have hLW := h.below hx.bl
  have hmW : W.heap[m]? = W.heap[m]? := rfl
  have HX2 : Hid _ := hx2
  have hcc := hx2.bx.cells
  unfold efV
  unfold efA at hW ⊢
  have e1 : (str e.da).size = e.da.length := str_size _
  cases hs : fnd L e.fl with
  | none =>
    have hr := hLW.none_ hf hs W rfl
    unfold zc at hr
    obtain ⟨kd, fl, gn, at_, n, da, sz⟩ := e
    dsimp only at *
    clear h hx hx2 hLW hcc hL hs hf hmW e1
    go_enter Try.func28, Try.ntmps28
    go_wp2
    go_ret
    exact ⟨rfl, HX2.out.put.bx.bl⟩
  | some s =>
    have hsl := hL s hs
    obtain ⟨g, c, -, -, hq, -⟩ := hLW.some_ hnn hf hs
    have hr := (hq W rfl).1
    unfold cv at hr
    have HX3 : Hid _ := hx2.put (u := .slice (some ⟨g, 0, none⟩) s.length c)
    obtain ⟨kd, fl, gn, at_, n, da, sz⟩ := e
    dsimp only at *
    obtain ⟨x1, x2, x3, x4, x5, x6⟩ := hcc
    clear h hx hx2 hLW hL hs hf hmW hq
    have w1 : IntKind.i64.wrap (65536 - ((str da).size : Int)) = 65536 - ((str da).size : Int) := by rw [IntKind.wrap_i64]; omega
    by_cases h0 : 0 ≤ at_
    · by_cases h1 : at_ ≤ 65536 - (da.length : Int)
      · obtain ⟨i, rfl⟩ : ∃ i : Nat, at_ = i := ⟨at_.toNat, by omega⟩
        have h1' : ¬ (i : Int) > 65536 - ((str da).size : Int) := by omega
        have HSW : Hid (∀ V, Calls Try.prog 38 #[.agg #[.slice (some ⟨g, 0, none⟩) s.length c], .int .i64 (i : Int), .string (str da)] V fun e w' => e = .returned (.int .i64 (szI s (i : Int) da)) ∧ Below V.heap.size V w') := fun V => by
          rw [szI_nat]
          exact sizeWith_any s.length (some ⟨g, 0, none⟩) c V i da (by omega) (by omega)
        have hb : decide (0 ≤ (i : Int) ∧ (i : Int) ≤ 65536 - (da.length : Int) ∧ sz = szI s i da) = (sz == szI s i da) := by
          rw [Bool.eq_iff_iff]
          simp [h0, h1]
        rw [hb]
        generalize szI s i da = Z at *
        clear hb h1 e1 hd hsl
        generalize hD : str da = D at *
        go_enter Try.func28, Try.ntmps28
        go_wp2_with fail
        refine with_world (Q := fun V => Bw w _ W.heap.size (.slice (some ⟨g, 0, none⟩) s.length c) V) _ HX3.out ?_
        intro X hX
        have HS : Hid (∀ V, Below X.heap.size X V → V.cell? ⟨w.heap.size, 6, none⟩ = some (.int .i64 sz) ∧ V.cell? ⟨W.heap.size, 0, none⟩ = some (.slice (some ⟨g, 0, none⟩) s.length c) ∧ V.cell? ⟨w.heap.size, 3, none⟩ = some (.int .i64 (i : Int)) ∧ V.cell? ⟨w.heap.size, 5, none⟩ = some (.string D)) := fun V hV => by
          have h := hX.below hV
          exact ⟨h.bx.cells.2.2.2.2.2, h.cells.1, h.bx.cells.2.2.1, hD ▸ h.bx.cells.2.2.2.2.1⟩
        have HB : Hid (∀ V, Below X.heap.size X V → Below w.heap.size w V) := fun V hV => (hX.below hV).bx.bl
        clear hX HX3 HX2 x1 x2 x3 x4 x5 x6 hW hW2 d0 df c1 hr h0 h1' w1 hne
        go_region_held_law (fun V => V.cell? ⟨w.heap.size, 6, none⟩ = some (.int .i64 sz) ∧ V.cell? ⟨W.heap.size, 0, none⟩ = some (.slice (some ⟨g, 0, none⟩) s.length c) ∧ V.cell? ⟨w.heap.size, 3, none⟩ = some (.int .i64 (i : Int)) ∧ V.cell? ⟨w.heap.size, 5, none⟩ = some (.string D)) (first | exact HS.out _ (bdN _ _) | exact HS.out _ hb5 | go_keep) (first | (go_at_call 38; refine (HSW.out _).mono ?_; rintro e w5 ⟨rfl, hc5⟩; have hb5 := (bdN X 1).trans (hc5.mono (bdN X 1).size); clear hc5))
        all_goals
          go_wp2
          go_ret
          exact ⟨rfl, HB.out _ hb5⟩
      · have h1' : at_ > 65536 - ((str da).size : Int) := by omega
        rw [show decide (0 ≤ at_ ∧ at_ ≤ 65536 - (da.length : Int) ∧ sz = szI s at_ da) = false by simp [h1]]
        clear h1 e1 hd hsl
        generalize str da = D at *
        go_enter Try.func28, Try.ntmps28
        go_wp2
        go_ret
        exact ⟨rfl, HX2.out.put.bx.bl⟩
    · rw [show decide (0 ≤ at_ ∧ at_ ≤ 65536 - (da.length : Int) ∧ sz = szI s at_ da) = false by simp [h0]]
      clear e1 hd hsl
      generalize str da = D at *
      go_enter Try.func28, Try.ntmps28
      go_wp2
      go_ret
      exact ⟨rfl, HX2.out.put.bx.bl⟩
end Go.Proofs.Ytpjigcccjiidpaa.Ex
