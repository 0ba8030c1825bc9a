import Derived.Test.YtpjigcccjiidpaaExV
namespace Go.Proofs.Ytpjigcccjiidpaa.Ex
open Go.RowKit Go.Lib Go.Deep

set_option maxRecDepth 20000 in
set_option maxHeartbeats 2000000 in
theorem mayRead_any (w : World) (m nn : Nat) (F : Nat → Prop) (L : Fl) (h : Liv w m nn F L) (hnn : nn < maxLen) (e : Ef) (hk : e.kd = 2) (hf : wf e.fl) (hz : e.at_ ≤ 9223372036854775807) (hL : ∀ s, fnd L e.fl = some s → s.length ≤ 9223372036854775807) : Calls Try.prog 26 #[.map (some m), efV e] w fun x w' => x = .returned (.bool (may L e)) ∧ Below w.heap.size w w' := by
  have hm : may L e = (match fnd L e.fl with | none => false | some s => decide ((s.length : Int) = e.sz ∧ 0 ≤ e.at_ ∧ 0 ≤ e.n ∧ (e.n = 0 ∨ e.n ≤ e.sz - e.at_))) := by unfold may; rw [if_neg (by omega), if_pos hk]; rfl
  rw [hm]
  clear hm hk
  obtain ⟨W, hW, hx⟩ := bx_new w e
  obtain ⟨W2, hW2, hx2⟩ := bw_new w e (.slice none 0 0) hx
  have hne : w.heap.size ≠ W.heap.size := by have := hx2.hq; omega
  obtain ⟨c1, -⟩ := hx.cells
  obtain ⟨d0, df⟩ := hx2.cells
  have hLW := h.below hx.bl
  have hcc := hx2.bx.cells
  unfold efV
  unfold efA at hW ⊢
  cases hs : fnd L e.fl with
  | none =>
    have hr := hLW.none_ hf hs W rfl
    unfold zc at hr
    have HX3 : Hid _ := hx2.put (u := .slice none 0 0)
    obtain ⟨kd, fl, gn, at_, n, da, sz⟩ := e
    dsimp only at *
    obtain ⟨x1, x2, x3, x4, x5, x6⟩ := hcc
    clear h hx hx2 hLW hL hs hf
    go_enter Try.func26, Try.ntmps26
    go_wp2_with fail
    refine with_world (Q := fun V => Bw w _ W.heap.size (.slice none 0 0) V) _ HX3.out ?_
    intro X hX
    have HB : Hid (∀ V, Below X.heap.size X V → Below w.heap.size w V) := fun V hV => (hX.below hV).bx.bl
    clear HX3 x1 x2 x3 x4 x5 x6 hW hW2 d0 df c1 hr hne
    have HS : Hid (∀ V, Below X.heap.size X V → V.cell? ⟨w.heap.size, 6, none⟩ = some (.int .i64 sz) ∧ V.cell? ⟨W.heap.size, 0, none⟩ = some (.slice none 0 0) ∧ V.cell? ⟨w.heap.size, 3, none⟩ = some (.int .i64 at_) ∧ V.cell? ⟨w.heap.size, 4, none⟩ = some (.int .i64 n)) := fun V hV => ⟨(hX.below hV).bx.cells.2.2.2.2.2, (hX.below hV).cells.1, (hX.below hV).bx.cells.2.2.1, (hX.below hV).bx.cells.2.2.2.1⟩
    clear hX
    have hS0 : (fun V => V.cell? ⟨w.heap.size, 6, none⟩ = some (.int .i64 sz) ∧ V.cell? ⟨W.heap.size, 0, none⟩ = some (.slice none 0 0) ∧ V.cell? ⟨w.heap.size, 3, none⟩ = some (.int .i64 at_) ∧ V.cell? ⟨w.heap.size, 4, none⟩ = some (.int .i64 n)) X := HS.out X (Below.refl _ _)
    refine wp_region_held_drew (S := fun V => V.cell? ⟨w.heap.size, 6, none⟩ = some (.int .i64 sz) ∧ V.cell? ⟨W.heap.size, 0, none⟩ = some (.slice none 0 0) ∧ V.cell? ⟨w.heap.size, 3, none⟩ = some (.int .i64 at_) ∧ V.cell? ⟨w.heap.size, 4, none⟩ = some (.int .i64 n)) (by kernel_rfl) hS0 ?_
    intro hS
    have hb : Below X.heap.size X X.drew := (Below.refl _ _).drew
    revert hS hb
    generalize X.drew = V
    intro hS hb
    refine wpAnyH_take (i := 0) (oi := { dst := some 14, op := .move (.tmp 6), type := _, pos := _, after := _, guard := none }) (v := .bool false) rfl (by kernel_rfl) (by kernel_rfl) (by kernel_rfl) (fun _ _ _ h => h) (Or.inl ⟨by rfl, by intro x _; go_simp⟩) hS ?_
    (try simp only [Act.put, List.setIfInBounds_toArray, List.set_cons_zero, List.set_cons_succ])
    refine wpAnyH_take (i := 1) (oi := { dst := some 15, op := .unOp .not 4 (.tmp 14), type := _, pos := _, after := _, guard := none }) (v := .bool true) rfl (by kernel_rfl) (by kernel_rfl) (by kernel_rfl) (fun _ _ _ h => h) (Or.inl ⟨by rfl, by intro x _; go_simp⟩) hS ?_
    (try simp only [Act.put, List.setIfInBounds_toArray, List.set_cons_zero, List.set_cons_succ])
    refine wpAnyH_take (i := 2) (oi := { dst := some 16, op := .move (.tmp 15), type := _, pos := _, after := _, guard := none }) (v := .bool true) rfl (by kernel_rfl) (by kernel_rfl) (by kernel_rfl) (fun _ _ _ h => h) (Or.inl ⟨by rfl, by intro x _; go_simp⟩) hS ?_
    (try simp only [Act.put, List.setIfInBounds_toArray, List.set_cons_zero, List.set_cons_succ])
    refine wpAnyH_take (i := 3) (oi := { dst := some 17, op := .load 72 (.tmp 5), type := _, pos := _, after := _, guard := some (2, false) }) (v := undef) rfl (by kernel_rfl) (by kernel_rfl) (by kernel_rfl) (fun _ _ _ h => h) (Or.inr ⟨by rfl, rfl⟩) hS ?_
    (try simp only [Act.put, List.setIfInBounds_toArray, List.set_cons_zero, List.set_cons_succ])
    refine wpAnyH_take (i := 4) (oi := { dst := some 18, op := .call { callee := .value (.func 36), args := #[.tmp 17], argTypes := #[72] }, type := _, pos := _, after := _, guard := some (2, false) }) (v := undef) rfl (by kernel_rfl) (by kernel_rfl) (by kernel_rfl) (fun _ _ _ h => h) (Or.inr ⟨by rfl, rfl⟩) hS ?_
    (try simp only [Act.put, List.setIfInBounds_toArray, List.set_cons_zero, List.set_cons_succ])
    refine wpAnyH_take (i := 5) (oi := { dst := some 19, op := .fieldAddr 26 (.tmp 3) 6, type := _, pos := _, after := _, guard := some (2, false) }) (v := undef) rfl (by kernel_rfl) (by kernel_rfl) (by kernel_rfl) (fun _ _ _ h => h) (Or.inr ⟨by rfl, rfl⟩) hS ?_
    (try simp only [Act.put, List.setIfInBounds_toArray, List.set_cons_zero, List.set_cons_succ])
    refine wpAnyH_take (i := 6) (oi := { dst := some 20, op := .load 3 (.tmp 19), type := _, pos := _, after := _, guard := some (2, false) }) (v := undef) rfl (by kernel_rfl) (by kernel_rfl) (by kernel_rfl) (fun _ _ _ h => h) (Or.inr ⟨by rfl, rfl⟩) hS ?_
    (try simp only [Act.put, List.setIfInBounds_toArray, List.set_cons_zero, List.set_cons_succ])
    refine wpAnyH_take (i := 7) (oi := { dst := some 21, op := .binOp .neq 3 (.tmp 18) (.tmp 20) 3, type := _, pos := _, after := _, guard := some (2, false) }) (v := undef) rfl (by kernel_rfl) (by kernel_rfl) (by kernel_rfl) (fun _ _ _ h => h) (Or.inr ⟨by rfl, rfl⟩) hS ?_
    (try simp only [Act.put, List.setIfInBounds_toArray, List.set_cons_zero, List.set_cons_succ])
    refine wpAnyH_take (i := 8) (oi := { dst := some 22, op := .pick (.tmp 16) (.const (.bool true)) (.tmp 21), type := _, pos := _, after := _, guard := none }) (v := .bool true) rfl (by kernel_rfl) (by kernel_rfl) (by kernel_rfl) (fun _ _ _ h => h) (Or.inl ⟨by rfl, by intro x _; go_simp⟩) hS ?_
    (try simp only [Act.put, List.setIfInBounds_toArray, List.set_cons_zero, List.set_cons_succ])
    refine wpAnyH_take (i := 9) (oi := { dst := some 23, op := .move (.tmp 22), type := _, pos := _, after := _, guard := none }) (v := .bool true) rfl (by kernel_rfl) (by kernel_rfl) (by kernel_rfl) (fun _ _ _ h => h) (Or.inl ⟨by rfl, by intro x _; go_simp⟩) hS ?_
    (try simp only [Act.put, List.setIfInBounds_toArray, List.set_cons_zero, List.set_cons_succ])
    refine wpAnyH_take (i := 10) (oi := { dst := some 24, op := .fieldAddr 26 (.tmp 3) 3, type := _, pos := _, after := _, guard := some (9, false) }) (v := undef) rfl (by kernel_rfl) (by kernel_rfl) (by kernel_rfl) (fun _ _ _ h => h) (Or.inr ⟨by rfl, rfl⟩) hS ?_
    (try simp only [Act.put, List.setIfInBounds_toArray, List.set_cons_zero, List.set_cons_succ])
    refine wpAnyH_take (i := 11) (oi := { dst := some 25, op := .load 3 (.tmp 24), type := _, pos := _, after := _, guard := some (9, false) }) (v := undef) rfl (by kernel_rfl) (by kernel_rfl) (by kernel_rfl) (fun _ _ _ h => h) (Or.inr ⟨by rfl, rfl⟩) hS ?_
    (try simp only [Act.put, List.setIfInBounds_toArray, List.set_cons_zero, List.set_cons_succ])
    refine wpAnyH_take (i := 12) (oi := { dst := some 26, op := .binOp .lss 3 (.tmp 25) (.const (.int .i64 0)) 3, type := _, pos := _, after := _, guard := some (9, false) }) (v := undef) rfl (by kernel_rfl) (by kernel_rfl) (by kernel_rfl) (fun _ _ _ h => h) (Or.inr ⟨by rfl, rfl⟩) hS ?_
    (try simp only [Act.put, List.setIfInBounds_toArray, List.set_cons_zero, List.set_cons_succ])
    refine wpAnyH_take (i := 13) (oi := { dst := some 27, op := .pick (.tmp 23) (.const (.bool true)) (.tmp 26), type := _, pos := _, after := _, guard := none }) (v := .bool true) rfl (by kernel_rfl) (by kernel_rfl) (by kernel_rfl) (fun _ _ _ h => h) (Or.inl ⟨by rfl, by intro x _; go_simp⟩) hS ?_
    (try simp only [Act.put, List.setIfInBounds_toArray, List.set_cons_zero, List.set_cons_succ])
    refine wpAnyH_take (i := 14) (oi := { dst := some 28, op := .move (.tmp 27), type := _, pos := _, after := _, guard := none }) (v := .bool true) rfl (by kernel_rfl) (by kernel_rfl) (by kernel_rfl) (fun _ _ _ h => h) (Or.inl ⟨by rfl, by intro x _; go_simp⟩) hS ?_
    (try simp only [Act.put, List.setIfInBounds_toArray, List.set_cons_zero, List.set_cons_succ])
    refine wpAnyH_take (i := 15) (oi := { dst := some 29, op := .fieldAddr 26 (.tmp 3) 4, type := _, pos := _, after := _, guard := some (14, false) }) (v := undef) rfl (by kernel_rfl) (by kernel_rfl) (by kernel_rfl) (fun _ _ _ h => h) (Or.inr ⟨by rfl, rfl⟩) hS ?_
    (try simp only [Act.put, List.setIfInBounds_toArray, List.set_cons_zero, List.set_cons_succ])
    refine wpAnyH_take (i := 16) (oi := { dst := some 30, op := .load 3 (.tmp 29), type := _, pos := _, after := _, guard := some (14, false) }) (v := undef) rfl (by kernel_rfl) (by kernel_rfl) (by kernel_rfl) (fun _ _ _ h => h) (Or.inr ⟨by rfl, rfl⟩) hS ?_
    (try simp only [Act.put, List.setIfInBounds_toArray, List.set_cons_zero, List.set_cons_succ])
    refine wpAnyH_take (i := 17) (oi := { dst := some 31, op := .binOp .lss 3 (.tmp 30) (.const (.int .i64 0)) 3, type := _, pos := _, after := _, guard := some (14, false) }) (v := undef) rfl (by kernel_rfl) (by kernel_rfl) (by kernel_rfl) (fun _ _ _ h => h) (Or.inr ⟨by rfl, rfl⟩) hS ?_
    (try simp only [Act.put, List.setIfInBounds_toArray, List.set_cons_zero, List.set_cons_succ])
    refine wpAnyH_take (i := 18) (oi := { dst := some 32, op := .pick (.tmp 28) (.const (.bool true)) (.tmp 31), type := _, pos := _, after := _, guard := none }) (v := .bool true) rfl (by kernel_rfl) (by kernel_rfl) (by kernel_rfl) (fun _ _ _ h => h) (Or.inl ⟨by rfl, by intro x _; go_simp⟩) hS ?_
    (try simp only [Act.put, List.setIfInBounds_toArray, List.set_cons_zero, List.set_cons_succ])
    refine wpAnyH_done (by kernel_rfl) ?_ _
    go_wp2
    go_ret
    exact ⟨rfl, HB.out _ hb⟩
  | some s =>
    have hsl := hL s hs
    obtain ⟨g, c, -, -, hq, -⟩ := hLW.some_ hnn hf hs
    have hr := (hq W rfl).1
    unfold cv at hr
    have HX3 : Hid _ := hx2.put (u := .slice (some ⟨g, 0, none⟩) s.length c)
    obtain ⟨kd, fl, gn, at_, n, da, sz⟩ := e
    dsimp only at *
    obtain ⟨x1, x2, x3, x4, x5, x6⟩ := hcc
    clear h hx hx2 hLW hL hs hf hq
    have HSZ : Hid (∀ V, Calls Try.prog 36 #[.agg #[.slice (some ⟨g, 0, none⟩) s.length c]] V fun e w' => e = .returned (.int .i64 (s.length : Int)) ∧ Below V.heap.size V w') := fun V => csize_any s.length (some ⟨g, 0, none⟩) c V
    by_cases h1 : (s.length : Int) = sz
    · by_cases h2 : 0 ≤ at_
      · by_cases h3 : 0 ≤ n
        · skip
          have hw : IntKind.i64.wrap (sz - at_) = sz - at_ := by rw [IntKind.wrap_i64]; omega
          by_cases h4 : n = 0
          · subst h4
            rw [show decide ((s.length : Int) = sz ∧ 0 ≤ at_ ∧ 0 ≤ (0 : Int) ∧ ((0 : Int) = 0 ∨ (0 : Int) ≤ sz - at_)) = true by simp [h1, h2]]
            have j1 : ((s.length : Int) != sz) = false := by simp [h1]
            have j2 : decide (at_ < 0) = false := by simp; omega
            have j2' : ¬ at_ < 0 := by omega
            clear h1 h3
            go_enter Try.func26, Try.ntmps26
            go_wp2_with fail
            refine with_world (Q := fun V => Bw w _ W.heap.size (.slice (some ⟨g, 0, none⟩) s.length c) V) _ HX3.out ?_
            intro X hX
            have HS : Hid (∀ V, Below X.heap.size X V → V.cell? ⟨w.heap.size, 6, none⟩ = some (.int .i64 sz) ∧ V.cell? ⟨W.heap.size, 0, none⟩ = some (.slice (some ⟨g, 0, none⟩) s.length c) ∧ V.cell? ⟨w.heap.size, 3, none⟩ = some (.int .i64 at_) ∧ V.cell? ⟨w.heap.size, 4, none⟩ = some (.int .i64 0)) := fun V hV => ⟨(hX.below hV).bx.cells.2.2.2.2.2, (hX.below hV).cells.1, (hX.below hV).bx.cells.2.2.1, (hX.below hV).bx.cells.2.2.2.1⟩
            have HB : Hid (∀ V, Below X.heap.size X V → Below w.heap.size w V) := fun V hV => (hX.below hV).bx.bl
            clear hX HX3 x1 x2 x3 x4 x5 x6 hW hW2 d0 df c1 hr hne
            have hS0 : (fun V => V.cell? ⟨w.heap.size, 6, none⟩ = some (.int .i64 sz) ∧ V.cell? ⟨W.heap.size, 0, none⟩ = some (.slice (some ⟨g, 0, none⟩) s.length c) ∧ V.cell? ⟨w.heap.size, 3, none⟩ = some (.int .i64 at_) ∧ V.cell? ⟨w.heap.size, 4, none⟩ = some (.int .i64 0)) X := HS.out X (Below.refl _ _)
            refine wp_region_held_drew (S := fun V => V.cell? ⟨w.heap.size, 6, none⟩ = some (.int .i64 sz) ∧ V.cell? ⟨W.heap.size, 0, none⟩ = some (.slice (some ⟨g, 0, none⟩) s.length c) ∧ V.cell? ⟨w.heap.size, 3, none⟩ = some (.int .i64 at_) ∧ V.cell? ⟨w.heap.size, 4, none⟩ = some (.int .i64 0)) (by kernel_rfl) hS0 ?_
            intro hS
            have hb : Below X.heap.size X X.drew := (Below.refl _ _).drew
            revert hS hb
            generalize X.drew = V
            intro hS hb
            refine wpAnyH_take (i := 0) (oi := { dst := some 14, op := .move (.tmp 6), type := _, pos := _, after := _, guard := none }) (v := .bool true) rfl (by kernel_rfl) (by kernel_rfl) (by kernel_rfl) (fun _ _ _ h => h) (Or.inl ⟨by rfl, by intro x _; go_simp⟩) hS ?_
            (try simp only [Act.put, List.setIfInBounds_toArray, List.set_cons_zero, List.set_cons_succ])
            refine wpAnyH_take (i := 1) (oi := { dst := some 15, op := .unOp .not 4 (.tmp 14), type := _, pos := _, after := _, guard := none }) (v := .bool false) rfl (by kernel_rfl) (by kernel_rfl) (by kernel_rfl) (fun _ _ _ h => h) (Or.inl ⟨by rfl, by intro x _; go_simp⟩) hS ?_
            (try simp only [Act.put, List.setIfInBounds_toArray, List.set_cons_zero, List.set_cons_succ])
            refine wpAnyH_take (i := 2) (oi := { dst := some 16, op := .move (.tmp 15), type := _, pos := _, after := _, guard := none }) (v := .bool false) rfl (by kernel_rfl) (by kernel_rfl) (by kernel_rfl) (fun _ _ _ h => h) (Or.inl ⟨by rfl, by intro x _; go_simp⟩) hS ?_
            (try simp only [Act.put, List.setIfInBounds_toArray, List.set_cons_zero, List.set_cons_succ])
            refine wpAnyH_take (i := 3) (oi := { dst := some 17, op := .load 72 (.tmp 5), type := _, pos := _, after := _, guard := some (2, false) }) (v := .agg #[.slice (some ⟨g, 0, none⟩) s.length c]) rfl (by kernel_rfl) (by kernel_rfl) (by kernel_rfl) (fun _ _ _ h => h) (Or.inl ⟨by rfl, by intro x hx; obtain ⟨h1, h2, h3, h4⟩ := hx; go_simp⟩) hS ?_
            (try simp only [Act.put, List.setIfInBounds_toArray, List.set_cons_zero, List.set_cons_succ])
            refine wpAnyH_take (i := 5) (oi := { dst := some 19, op := .fieldAddr 26 (.tmp 3) 6, type := _, pos := _, after := _, guard := some (2, false) }) (v := .pointer (some ⟨w.heap.size, 6, none⟩)) rfl (by kernel_rfl) (by kernel_rfl) (by kernel_rfl) (fun _ _ _ h => h) (Or.inl ⟨by rfl, by intro x _; go_simp⟩) hS ?_
            (try simp only [Act.put, List.setIfInBounds_toArray, List.set_cons_zero, List.set_cons_succ])
            refine wpAnyH_take (i := 6) (oi := { dst := some 20, op := .load 3 (.tmp 19), type := _, pos := _, after := _, guard := some (2, false) }) (v := .int .i64 sz) rfl (by kernel_rfl) (by kernel_rfl) (by kernel_rfl) (fun _ _ _ h => h) (Or.inl ⟨by rfl, by intro x hx; obtain ⟨h1, h2, h3, h4⟩ := hx; go_simp⟩) hS ?_
            (try simp only [Act.put, List.setIfInBounds_toArray, List.set_cons_zero, List.set_cons_succ])
            refine wpAnyH_ready (rs := [4]) (by kernel_rfl) (by simp) ?_
            refine AllReadyH.cons (o := { dst := some 18, op := .call { callee := .value (.func 36), args := #[.tmp 17], argTypes := #[72] }, type := _, pos := _, after := _, guard := some (2, false) }) rfl (fun K hK => ?_) AllReadyH.nil
            go_simp
            refine (HSZ.out _).mono ?_
            rintro e w5 ⟨rfl, hc5⟩
            have hb5 := hb.trans (hc5.mono hb.size)
            have hS5 := HS.out w5 hb5
            refine hK.out _ _ hS5 (fun _ => ?_)
            clear hK K
            (try simp only [Act.put, List.setIfInBounds_toArray, List.set_cons_zero, List.set_cons_succ])
            clear hc5 hS hb
            refine wpAnyH_take (i := 7) (oi := { dst := some 21, op := .binOp .neq 3 (.tmp 18) (.tmp 20) 3, type := _, pos := _, after := _, guard := some (2, false) }) (v := .bool false) rfl (by kernel_rfl) (by kernel_rfl) (by kernel_rfl) (fun _ _ _ h => h) (Or.inl ⟨by rfl, by intro x _; go_simp⟩) hS5 ?_
            (try simp only [Act.put, List.setIfInBounds_toArray, List.set_cons_zero, List.set_cons_succ])
            refine wpAnyH_take (i := 8) (oi := { dst := some 22, op := .pick (.tmp 16) (.const (.bool true)) (.tmp 21), type := _, pos := _, after := _, guard := none }) (v := .bool false) rfl (by kernel_rfl) (by kernel_rfl) (by kernel_rfl) (fun _ _ _ h => h) (Or.inl ⟨by rfl, by intro x _; go_simp⟩) hS5 ?_
            (try simp only [Act.put, List.setIfInBounds_toArray, List.set_cons_zero, List.set_cons_succ])
            refine wpAnyH_take (i := 9) (oi := { dst := some 23, op := .move (.tmp 22), type := _, pos := _, after := _, guard := none }) (v := .bool false) rfl (by kernel_rfl) (by kernel_rfl) (by kernel_rfl) (fun _ _ _ h => h) (Or.inl ⟨by rfl, by intro x _; go_simp⟩) hS5 ?_
            (try simp only [Act.put, List.setIfInBounds_toArray, List.set_cons_zero, List.set_cons_succ])
            refine wpAnyH_take (i := 10) (oi := { dst := some 24, op := .fieldAddr 26 (.tmp 3) 3, type := _, pos := _, after := _, guard := some (9, false) }) (v := .pointer (some ⟨w.heap.size, 3, none⟩)) rfl (by kernel_rfl) (by kernel_rfl) (by kernel_rfl) (fun _ _ _ h => h) (Or.inl ⟨by rfl, by intro x _; go_simp⟩) hS5 ?_
            (try simp only [Act.put, List.setIfInBounds_toArray, List.set_cons_zero, List.set_cons_succ])
            refine wpAnyH_take (i := 11) (oi := { dst := some 25, op := .load 3 (.tmp 24), type := _, pos := _, after := _, guard := some (9, false) }) (v := .int .i64 at_) rfl (by kernel_rfl) (by kernel_rfl) (by kernel_rfl) (fun _ _ _ h => h) (Or.inl ⟨by rfl, by intro x hx; obtain ⟨h1, h2, h3, h4⟩ := hx; go_simp⟩) hS5 ?_
            (try simp only [Act.put, List.setIfInBounds_toArray, List.set_cons_zero, List.set_cons_succ])
            refine wpAnyH_take (i := 12) (oi := { dst := some 26, op := .binOp .lss 3 (.tmp 25) (.const (.int .i64 0)) 3, type := _, pos := _, after := _, guard := some (9, false) }) (v := .bool false) rfl (by kernel_rfl) (by kernel_rfl) (by kernel_rfl) (fun _ _ _ h => h) (Or.inl ⟨by rfl, by intro x _; go_simp⟩) hS5 ?_
            (try simp only [Act.put, List.setIfInBounds_toArray, List.set_cons_zero, List.set_cons_succ])
            refine wpAnyH_take (i := 13) (oi := { dst := some 27, op := .pick (.tmp 23) (.const (.bool true)) (.tmp 26), type := _, pos := _, after := _, guard := none }) (v := .bool false) rfl (by kernel_rfl) (by kernel_rfl) (by kernel_rfl) (fun _ _ _ h => h) (Or.inl ⟨by rfl, by intro x _; go_simp⟩) hS5 ?_
            (try simp only [Act.put, List.setIfInBounds_toArray, List.set_cons_zero, List.set_cons_succ])
            refine wpAnyH_take (i := 14) (oi := { dst := some 28, op := .move (.tmp 27), type := _, pos := _, after := _, guard := none }) (v := .bool false) rfl (by kernel_rfl) (by kernel_rfl) (by kernel_rfl) (fun _ _ _ h => h) (Or.inl ⟨by rfl, by intro x _; go_simp⟩) hS5 ?_
            (try simp only [Act.put, List.setIfInBounds_toArray, List.set_cons_zero, List.set_cons_succ])
            refine wpAnyH_take (i := 15) (oi := { dst := some 29, op := .fieldAddr 26 (.tmp 3) 4, type := _, pos := _, after := _, guard := some (14, false) }) (v := .pointer (some ⟨w.heap.size, 4, none⟩)) rfl (by kernel_rfl) (by kernel_rfl) (by kernel_rfl) (fun _ _ _ h => h) (Or.inl ⟨by rfl, by intro x _; go_simp⟩) hS5 ?_
            (try simp only [Act.put, List.setIfInBounds_toArray, List.set_cons_zero, List.set_cons_succ])
            refine wpAnyH_take (i := 16) (oi := { dst := some 30, op := .load 3 (.tmp 29), type := _, pos := _, after := _, guard := some (14, false) }) (v := .int .i64 0) rfl (by kernel_rfl) (by kernel_rfl) (by kernel_rfl) (fun _ _ _ h => h) (Or.inl ⟨by rfl, by intro x hx; obtain ⟨h1, h2, h3, h4⟩ := hx; go_simp⟩) hS5 ?_
            (try simp only [Act.put, List.setIfInBounds_toArray, List.set_cons_zero, List.set_cons_succ])
            refine wpAnyH_take (i := 17) (oi := { dst := some 31, op := .binOp .lss 3 (.tmp 30) (.const (.int .i64 0)) 3, type := _, pos := _, after := _, guard := some (14, false) }) (v := .bool false) rfl (by kernel_rfl) (by kernel_rfl) (by kernel_rfl) (fun _ _ _ h => h) (Or.inl ⟨by rfl, by intro x _; go_simp⟩) hS5 ?_
            (try simp only [Act.put, List.setIfInBounds_toArray, List.set_cons_zero, List.set_cons_succ])
            refine wpAnyH_take (i := 18) (oi := { dst := some 32, op := .pick (.tmp 28) (.const (.bool true)) (.tmp 31), type := _, pos := _, after := _, guard := none }) (v := .bool false) rfl (by kernel_rfl) (by kernel_rfl) (by kernel_rfl) (fun _ _ _ h => h) (Or.inl ⟨by rfl, by intro x _; go_simp⟩) hS5 ?_
            (try simp only [Act.put, List.setIfInBounds_toArray, List.set_cons_zero, List.set_cons_succ])
            refine wpAnyH_done (by kernel_rfl) ?_ _
            have hS6 := HS.out w5 hb5
            obtain ⟨-, -, y3, y4⟩ := hS6
            have y6 := (HS.out w5 hb5).1
            clear HS HSZ
            go_wp2
            go_ret
            exact ⟨rfl, HB.out _ hb5⟩
          · have n0 : (n == 0) = false := by simp [h4]
            have j1 : ((s.length : Int) != sz) = false := by simp [h1]
            have j2' : ¬ at_ < 0 := by omega
            have j3' : ¬ n < 0 := by omega
            by_cases h5 : n ≤ sz - at_
            · rw [show decide ((s.length : Int) = sz ∧ 0 ≤ at_ ∧ 0 ≤ n ∧ (n = 0 ∨ n ≤ sz - at_)) = true by simp [h1, h2, h3, h5]]
              clear h1
              go_enter Try.func26, Try.ntmps26
              go_wp2_with fail
              refine with_world (Q := fun V => Bw w _ W.heap.size (.slice (some ⟨g, 0, none⟩) s.length c) V) _ HX3.out ?_
              intro X hX
              have HS : Hid (∀ V, Below X.heap.size X V → V.cell? ⟨w.heap.size, 6, none⟩ = some (.int .i64 sz) ∧ V.cell? ⟨W.heap.size, 0, none⟩ = some (.slice (some ⟨g, 0, none⟩) s.length c) ∧ V.cell? ⟨w.heap.size, 3, none⟩ = some (.int .i64 at_) ∧ V.cell? ⟨w.heap.size, 4, none⟩ = some (.int .i64 n)) := fun V hV => ⟨(hX.below hV).bx.cells.2.2.2.2.2, (hX.below hV).cells.1, (hX.below hV).bx.cells.2.2.1, (hX.below hV).bx.cells.2.2.2.1⟩
              have HB : Hid (∀ V, Below X.heap.size X V → Below w.heap.size w V) := fun V hV => (hX.below hV).bx.bl
              clear hX HX3 x1 x2 x3 x4 x5 x6 hW hW2 d0 df c1 hr hne
              have hS0 : (fun V => V.cell? ⟨w.heap.size, 6, none⟩ = some (.int .i64 sz) ∧ V.cell? ⟨W.heap.size, 0, none⟩ = some (.slice (some ⟨g, 0, none⟩) s.length c) ∧ V.cell? ⟨w.heap.size, 3, none⟩ = some (.int .i64 at_) ∧ V.cell? ⟨w.heap.size, 4, none⟩ = some (.int .i64 n)) X := HS.out X (Below.refl _ _)
              refine wp_region_held_drew (S := fun V => V.cell? ⟨w.heap.size, 6, none⟩ = some (.int .i64 sz) ∧ V.cell? ⟨W.heap.size, 0, none⟩ = some (.slice (some ⟨g, 0, none⟩) s.length c) ∧ V.cell? ⟨w.heap.size, 3, none⟩ = some (.int .i64 at_) ∧ V.cell? ⟨w.heap.size, 4, none⟩ = some (.int .i64 n)) (by kernel_rfl) hS0 ?_
              intro hS
              have hb : Below X.heap.size X X.drew := (Below.refl _ _).drew
              revert hS hb
              generalize X.drew = V
              intro hS hb
              refine wpAnyH_take (i := 0) (oi := { dst := some 14, op := .move (.tmp 6), type := _, pos := _, after := _, guard := none }) (v := .bool true) rfl (by kernel_rfl) (by kernel_rfl) (by kernel_rfl) (fun _ _ _ h => h) (Or.inl ⟨by rfl, by intro x _; go_simp⟩) hS ?_
              (try simp only [Act.put, List.setIfInBounds_toArray, List.set_cons_zero, List.set_cons_succ])
              refine wpAnyH_take (i := 1) (oi := { dst := some 15, op := .unOp .not 4 (.tmp 14), type := _, pos := _, after := _, guard := none }) (v := .bool false) rfl (by kernel_rfl) (by kernel_rfl) (by kernel_rfl) (fun _ _ _ h => h) (Or.inl ⟨by rfl, by intro x _; go_simp⟩) hS ?_
              (try simp only [Act.put, List.setIfInBounds_toArray, List.set_cons_zero, List.set_cons_succ])
              refine wpAnyH_take (i := 2) (oi := { dst := some 16, op := .move (.tmp 15), type := _, pos := _, after := _, guard := none }) (v := .bool false) rfl (by kernel_rfl) (by kernel_rfl) (by kernel_rfl) (fun _ _ _ h => h) (Or.inl ⟨by rfl, by intro x _; go_simp⟩) hS ?_
              (try simp only [Act.put, List.setIfInBounds_toArray, List.set_cons_zero, List.set_cons_succ])
              refine wpAnyH_take (i := 3) (oi := { dst := some 17, op := .load 72 (.tmp 5), type := _, pos := _, after := _, guard := some (2, false) }) (v := .agg #[.slice (some ⟨g, 0, none⟩) s.length c]) rfl (by kernel_rfl) (by kernel_rfl) (by kernel_rfl) (fun _ _ _ h => h) (Or.inl ⟨by rfl, by intro x hx; obtain ⟨h1, h2, h3, h4⟩ := hx; go_simp⟩) hS ?_
              (try simp only [Act.put, List.setIfInBounds_toArray, List.set_cons_zero, List.set_cons_succ])
              refine wpAnyH_take (i := 5) (oi := { dst := some 19, op := .fieldAddr 26 (.tmp 3) 6, type := _, pos := _, after := _, guard := some (2, false) }) (v := .pointer (some ⟨w.heap.size, 6, none⟩)) rfl (by kernel_rfl) (by kernel_rfl) (by kernel_rfl) (fun _ _ _ h => h) (Or.inl ⟨by rfl, by intro x _; go_simp⟩) hS ?_
              (try simp only [Act.put, List.setIfInBounds_toArray, List.set_cons_zero, List.set_cons_succ])
              refine wpAnyH_take (i := 6) (oi := { dst := some 20, op := .load 3 (.tmp 19), type := _, pos := _, after := _, guard := some (2, false) }) (v := .int .i64 sz) rfl (by kernel_rfl) (by kernel_rfl) (by kernel_rfl) (fun _ _ _ h => h) (Or.inl ⟨by rfl, by intro x hx; obtain ⟨h1, h2, h3, h4⟩ := hx; go_simp⟩) hS ?_
              (try simp only [Act.put, List.setIfInBounds_toArray, List.set_cons_zero, List.set_cons_succ])
              refine wpAnyH_ready (rs := [4]) (by kernel_rfl) (by simp) ?_
              refine AllReadyH.cons (o := { dst := some 18, op := .call { callee := .value (.func 36), args := #[.tmp 17], argTypes := #[72] }, type := _, pos := _, after := _, guard := some (2, false) }) rfl (fun K hK => ?_) AllReadyH.nil
              go_simp
              refine (HSZ.out _).mono ?_
              rintro e w5 ⟨rfl, hc5⟩
              have hb5 := hb.trans (hc5.mono hb.size)
              have hS5 := HS.out w5 hb5
              refine hK.out _ _ hS5 (fun _ => ?_)
              clear hK K
              (try simp only [Act.put, List.setIfInBounds_toArray, List.set_cons_zero, List.set_cons_succ])
              clear hc5 hS hb
              refine wpAnyH_take (i := 7) (oi := { dst := some 21, op := .binOp .neq 3 (.tmp 18) (.tmp 20) 3, type := _, pos := _, after := _, guard := some (2, false) }) (v := .bool false) rfl (by kernel_rfl) (by kernel_rfl) (by kernel_rfl) (fun _ _ _ h => h) (Or.inl ⟨by rfl, by intro x _; go_simp⟩) hS5 ?_
              (try simp only [Act.put, List.setIfInBounds_toArray, List.set_cons_zero, List.set_cons_succ])
              refine wpAnyH_take (i := 8) (oi := { dst := some 22, op := .pick (.tmp 16) (.const (.bool true)) (.tmp 21), type := _, pos := _, after := _, guard := none }) (v := .bool false) rfl (by kernel_rfl) (by kernel_rfl) (by kernel_rfl) (fun _ _ _ h => h) (Or.inl ⟨by rfl, by intro x _; go_simp⟩) hS5 ?_
              (try simp only [Act.put, List.setIfInBounds_toArray, List.set_cons_zero, List.set_cons_succ])
              refine wpAnyH_take (i := 9) (oi := { dst := some 23, op := .move (.tmp 22), type := _, pos := _, after := _, guard := none }) (v := .bool false) rfl (by kernel_rfl) (by kernel_rfl) (by kernel_rfl) (fun _ _ _ h => h) (Or.inl ⟨by rfl, by intro x _; go_simp⟩) hS5 ?_
              (try simp only [Act.put, List.setIfInBounds_toArray, List.set_cons_zero, List.set_cons_succ])
              refine wpAnyH_take (i := 10) (oi := { dst := some 24, op := .fieldAddr 26 (.tmp 3) 3, type := _, pos := _, after := _, guard := some (9, false) }) (v := .pointer (some ⟨w.heap.size, 3, none⟩)) rfl (by kernel_rfl) (by kernel_rfl) (by kernel_rfl) (fun _ _ _ h => h) (Or.inl ⟨by rfl, by intro x _; go_simp⟩) hS5 ?_
              (try simp only [Act.put, List.setIfInBounds_toArray, List.set_cons_zero, List.set_cons_succ])
              refine wpAnyH_take (i := 11) (oi := { dst := some 25, op := .load 3 (.tmp 24), type := _, pos := _, after := _, guard := some (9, false) }) (v := .int .i64 at_) rfl (by kernel_rfl) (by kernel_rfl) (by kernel_rfl) (fun _ _ _ h => h) (Or.inl ⟨by rfl, by intro x hx; obtain ⟨h1, h2, h3, h4⟩ := hx; go_simp⟩) hS5 ?_
              (try simp only [Act.put, List.setIfInBounds_toArray, List.set_cons_zero, List.set_cons_succ])
              refine wpAnyH_take (i := 12) (oi := { dst := some 26, op := .binOp .lss 3 (.tmp 25) (.const (.int .i64 0)) 3, type := _, pos := _, after := _, guard := some (9, false) }) (v := .bool false) rfl (by kernel_rfl) (by kernel_rfl) (by kernel_rfl) (fun _ _ _ h => h) (Or.inl ⟨by rfl, by intro x _; go_simp⟩) hS5 ?_
              (try simp only [Act.put, List.setIfInBounds_toArray, List.set_cons_zero, List.set_cons_succ])
              refine wpAnyH_take (i := 13) (oi := { dst := some 27, op := .pick (.tmp 23) (.const (.bool true)) (.tmp 26), type := _, pos := _, after := _, guard := none }) (v := .bool false) rfl (by kernel_rfl) (by kernel_rfl) (by kernel_rfl) (fun _ _ _ h => h) (Or.inl ⟨by rfl, by intro x _; go_simp⟩) hS5 ?_
              (try simp only [Act.put, List.setIfInBounds_toArray, List.set_cons_zero, List.set_cons_succ])
              refine wpAnyH_take (i := 14) (oi := { dst := some 28, op := .move (.tmp 27), type := _, pos := _, after := _, guard := none }) (v := .bool false) rfl (by kernel_rfl) (by kernel_rfl) (by kernel_rfl) (fun _ _ _ h => h) (Or.inl ⟨by rfl, by intro x _; go_simp⟩) hS5 ?_
              (try simp only [Act.put, List.setIfInBounds_toArray, List.set_cons_zero, List.set_cons_succ])
              refine wpAnyH_take (i := 15) (oi := { dst := some 29, op := .fieldAddr 26 (.tmp 3) 4, type := _, pos := _, after := _, guard := some (14, false) }) (v := .pointer (some ⟨w.heap.size, 4, none⟩)) rfl (by kernel_rfl) (by kernel_rfl) (by kernel_rfl) (fun _ _ _ h => h) (Or.inl ⟨by rfl, by intro x _; go_simp⟩) hS5 ?_
              (try simp only [Act.put, List.setIfInBounds_toArray, List.set_cons_zero, List.set_cons_succ])
              refine wpAnyH_take (i := 16) (oi := { dst := some 30, op := .load 3 (.tmp 29), type := _, pos := _, after := _, guard := some (14, false) }) (v := .int .i64 n) rfl (by kernel_rfl) (by kernel_rfl) (by kernel_rfl) (fun _ _ _ h => h) (Or.inl ⟨by rfl, by intro x hx; obtain ⟨h1, h2, h3, h4⟩ := hx; go_simp⟩) hS5 ?_
              (try simp only [Act.put, List.setIfInBounds_toArray, List.set_cons_zero, List.set_cons_succ])
              refine wpAnyH_take (i := 17) (oi := { dst := some 31, op := .binOp .lss 3 (.tmp 30) (.const (.int .i64 0)) 3, type := _, pos := _, after := _, guard := some (14, false) }) (v := .bool false) rfl (by kernel_rfl) (by kernel_rfl) (by kernel_rfl) (fun _ _ _ h => h) (Or.inl ⟨by rfl, by intro x _; go_simp⟩) hS5 ?_
              (try simp only [Act.put, List.setIfInBounds_toArray, List.set_cons_zero, List.set_cons_succ])
              refine wpAnyH_take (i := 18) (oi := { dst := some 32, op := .pick (.tmp 28) (.const (.bool true)) (.tmp 31), type := _, pos := _, after := _, guard := none }) (v := .bool false) rfl (by kernel_rfl) (by kernel_rfl) (by kernel_rfl) (fun _ _ _ h => h) (Or.inl ⟨by rfl, by intro x _; go_simp⟩) hS5 ?_
              (try simp only [Act.put, List.setIfInBounds_toArray, List.set_cons_zero, List.set_cons_succ])
              refine wpAnyH_done (by kernel_rfl) ?_ _
              have hS6 := HS.out w5 hb5
              obtain ⟨-, -, y3, y4⟩ := hS6
              have y6 := (HS.out w5 hb5).1
              clear HS HSZ
              go_wp2
              go_ret
              exact ⟨rfl, HB.out _ hb5⟩
            · rw [show decide ((s.length : Int) = sz ∧ 0 ≤ at_ ∧ 0 ≤ n ∧ (n = 0 ∨ n ≤ sz - at_)) = false by simp [h4, h5]]
              clear h1
              go_enter Try.func26, Try.ntmps26
              go_wp2_with fail
              refine with_world (Q := fun V => Bw w _ W.heap.size (.slice (some ⟨g, 0, none⟩) s.length c) V) _ HX3.out ?_
              intro X hX
              have HS : Hid (∀ V, Below X.heap.size X V → V.cell? ⟨w.heap.size, 6, none⟩ = some (.int .i64 sz) ∧ V.cell? ⟨W.heap.size, 0, none⟩ = some (.slice (some ⟨g, 0, none⟩) s.length c) ∧ V.cell? ⟨w.heap.size, 3, none⟩ = some (.int .i64 at_) ∧ V.cell? ⟨w.heap.size, 4, none⟩ = some (.int .i64 n)) := fun V hV => ⟨(hX.below hV).bx.cells.2.2.2.2.2, (hX.below hV).cells.1, (hX.below hV).bx.cells.2.2.1, (hX.below hV).bx.cells.2.2.2.1⟩
              have HB : Hid (∀ V, Below X.heap.size X V → Below w.heap.size w V) := fun V hV => (hX.below hV).bx.bl
              clear hX HX3 x1 x2 x3 x4 x5 x6 hW hW2 d0 df c1 hr hne
              have hS0 : (fun V => V.cell? ⟨w.heap.size, 6, none⟩ = some (.int .i64 sz) ∧ V.cell? ⟨W.heap.size, 0, none⟩ = some (.slice (some ⟨g, 0, none⟩) s.length c) ∧ V.cell? ⟨w.heap.size, 3, none⟩ = some (.int .i64 at_) ∧ V.cell? ⟨w.heap.size, 4, none⟩ = some (.int .i64 n)) X := HS.out X (Below.refl _ _)
              refine wp_region_held_drew (S := fun V => V.cell? ⟨w.heap.size, 6, none⟩ = some (.int .i64 sz) ∧ V.cell? ⟨W.heap.size, 0, none⟩ = some (.slice (some ⟨g, 0, none⟩) s.length c) ∧ V.cell? ⟨w.heap.size, 3, none⟩ = some (.int .i64 at_) ∧ V.cell? ⟨w.heap.size, 4, none⟩ = some (.int .i64 n)) (by kernel_rfl) hS0 ?_
              intro hS
              have hb : Below X.heap.size X X.drew := (Below.refl _ _).drew
              revert hS hb
              generalize X.drew = V
              intro hS hb
              refine wpAnyH_take (i := 0) (oi := { dst := some 14, op := .move (.tmp 6), type := _, pos := _, after := _, guard := none }) (v := .bool true) rfl (by kernel_rfl) (by kernel_rfl) (by kernel_rfl) (fun _ _ _ h => h) (Or.inl ⟨by rfl, by intro x _; go_simp⟩) hS ?_
              (try simp only [Act.put, List.setIfInBounds_toArray, List.set_cons_zero, List.set_cons_succ])
              refine wpAnyH_take (i := 1) (oi := { dst := some 15, op := .unOp .not 4 (.tmp 14), type := _, pos := _, after := _, guard := none }) (v := .bool false) rfl (by kernel_rfl) (by kernel_rfl) (by kernel_rfl) (fun _ _ _ h => h) (Or.inl ⟨by rfl, by intro x _; go_simp⟩) hS ?_
              (try simp only [Act.put, List.setIfInBounds_toArray, List.set_cons_zero, List.set_cons_succ])
              refine wpAnyH_take (i := 2) (oi := { dst := some 16, op := .move (.tmp 15), type := _, pos := _, after := _, guard := none }) (v := .bool false) rfl (by kernel_rfl) (by kernel_rfl) (by kernel_rfl) (fun _ _ _ h => h) (Or.inl ⟨by rfl, by intro x _; go_simp⟩) hS ?_
              (try simp only [Act.put, List.setIfInBounds_toArray, List.set_cons_zero, List.set_cons_succ])
              refine wpAnyH_take (i := 3) (oi := { dst := some 17, op := .load 72 (.tmp 5), type := _, pos := _, after := _, guard := some (2, false) }) (v := .agg #[.slice (some ⟨g, 0, none⟩) s.length c]) rfl (by kernel_rfl) (by kernel_rfl) (by kernel_rfl) (fun _ _ _ h => h) (Or.inl ⟨by rfl, by intro x hx; obtain ⟨h1, h2, h3, h4⟩ := hx; go_simp⟩) hS ?_
              (try simp only [Act.put, List.setIfInBounds_toArray, List.set_cons_zero, List.set_cons_succ])
              refine wpAnyH_take (i := 5) (oi := { dst := some 19, op := .fieldAddr 26 (.tmp 3) 6, type := _, pos := _, after := _, guard := some (2, false) }) (v := .pointer (some ⟨w.heap.size, 6, none⟩)) rfl (by kernel_rfl) (by kernel_rfl) (by kernel_rfl) (fun _ _ _ h => h) (Or.inl ⟨by rfl, by intro x _; go_simp⟩) hS ?_
              (try simp only [Act.put, List.setIfInBounds_toArray, List.set_cons_zero, List.set_cons_succ])
              refine wpAnyH_take (i := 6) (oi := { dst := some 20, op := .load 3 (.tmp 19), type := _, pos := _, after := _, guard := some (2, false) }) (v := .int .i64 sz) rfl (by kernel_rfl) (by kernel_rfl) (by kernel_rfl) (fun _ _ _ h => h) (Or.inl ⟨by rfl, by intro x hx; obtain ⟨h1, h2, h3, h4⟩ := hx; go_simp⟩) hS ?_
              (try simp only [Act.put, List.setIfInBounds_toArray, List.set_cons_zero, List.set_cons_succ])
              refine wpAnyH_ready (rs := [4]) (by kernel_rfl) (by simp) ?_
              refine AllReadyH.cons (o := { dst := some 18, op := .call { callee := .value (.func 36), args := #[.tmp 17], argTypes := #[72] }, type := _, pos := _, after := _, guard := some (2, false) }) rfl (fun K hK => ?_) AllReadyH.nil
              go_simp
              refine (HSZ.out _).mono ?_
              rintro e w5 ⟨rfl, hc5⟩
              have hb5 := hb.trans (hc5.mono hb.size)
              have hS5 := HS.out w5 hb5
              refine hK.out _ _ hS5 (fun _ => ?_)
              clear hK K
              (try simp only [Act.put, List.setIfInBounds_toArray, List.set_cons_zero, List.set_cons_succ])
              clear hc5 hS hb
              refine wpAnyH_take (i := 7) (oi := { dst := some 21, op := .binOp .neq 3 (.tmp 18) (.tmp 20) 3, type := _, pos := _, after := _, guard := some (2, false) }) (v := .bool false) rfl (by kernel_rfl) (by kernel_rfl) (by kernel_rfl) (fun _ _ _ h => h) (Or.inl ⟨by rfl, by intro x _; go_simp⟩) hS5 ?_
              (try simp only [Act.put, List.setIfInBounds_toArray, List.set_cons_zero, List.set_cons_succ])
              refine wpAnyH_take (i := 8) (oi := { dst := some 22, op := .pick (.tmp 16) (.const (.bool true)) (.tmp 21), type := _, pos := _, after := _, guard := none }) (v := .bool false) rfl (by kernel_rfl) (by kernel_rfl) (by kernel_rfl) (fun _ _ _ h => h) (Or.inl ⟨by rfl, by intro x _; go_simp⟩) hS5 ?_
              (try simp only [Act.put, List.setIfInBounds_toArray, List.set_cons_zero, List.set_cons_succ])
              refine wpAnyH_take (i := 9) (oi := { dst := some 23, op := .move (.tmp 22), type := _, pos := _, after := _, guard := none }) (v := .bool false) rfl (by kernel_rfl) (by kernel_rfl) (by kernel_rfl) (fun _ _ _ h => h) (Or.inl ⟨by rfl, by intro x _; go_simp⟩) hS5 ?_
              (try simp only [Act.put, List.setIfInBounds_toArray, List.set_cons_zero, List.set_cons_succ])
              refine wpAnyH_take (i := 10) (oi := { dst := some 24, op := .fieldAddr 26 (.tmp 3) 3, type := _, pos := _, after := _, guard := some (9, false) }) (v := .pointer (some ⟨w.heap.size, 3, none⟩)) rfl (by kernel_rfl) (by kernel_rfl) (by kernel_rfl) (fun _ _ _ h => h) (Or.inl ⟨by rfl, by intro x _; go_simp⟩) hS5 ?_
              (try simp only [Act.put, List.setIfInBounds_toArray, List.set_cons_zero, List.set_cons_succ])
              refine wpAnyH_take (i := 11) (oi := { dst := some 25, op := .load 3 (.tmp 24), type := _, pos := _, after := _, guard := some (9, false) }) (v := .int .i64 at_) rfl (by kernel_rfl) (by kernel_rfl) (by kernel_rfl) (fun _ _ _ h => h) (Or.inl ⟨by rfl, by intro x hx; obtain ⟨h1, h2, h3, h4⟩ := hx; go_simp⟩) hS5 ?_
              (try simp only [Act.put, List.setIfInBounds_toArray, List.set_cons_zero, List.set_cons_succ])
              refine wpAnyH_take (i := 12) (oi := { dst := some 26, op := .binOp .lss 3 (.tmp 25) (.const (.int .i64 0)) 3, type := _, pos := _, after := _, guard := some (9, false) }) (v := .bool false) rfl (by kernel_rfl) (by kernel_rfl) (by kernel_rfl) (fun _ _ _ h => h) (Or.inl ⟨by rfl, by intro x _; go_simp⟩) hS5 ?_
              (try simp only [Act.put, List.setIfInBounds_toArray, List.set_cons_zero, List.set_cons_succ])
              refine wpAnyH_take (i := 13) (oi := { dst := some 27, op := .pick (.tmp 23) (.const (.bool true)) (.tmp 26), type := _, pos := _, after := _, guard := none }) (v := .bool false) rfl (by kernel_rfl) (by kernel_rfl) (by kernel_rfl) (fun _ _ _ h => h) (Or.inl ⟨by rfl, by intro x _; go_simp⟩) hS5 ?_
              (try simp only [Act.put, List.setIfInBounds_toArray, List.set_cons_zero, List.set_cons_succ])
              refine wpAnyH_take (i := 14) (oi := { dst := some 28, op := .move (.tmp 27), type := _, pos := _, after := _, guard := none }) (v := .bool false) rfl (by kernel_rfl) (by kernel_rfl) (by kernel_rfl) (fun _ _ _ h => h) (Or.inl ⟨by rfl, by intro x _; go_simp⟩) hS5 ?_
              (try simp only [Act.put, List.setIfInBounds_toArray, List.set_cons_zero, List.set_cons_succ])
              refine wpAnyH_take (i := 15) (oi := { dst := some 29, op := .fieldAddr 26 (.tmp 3) 4, type := _, pos := _, after := _, guard := some (14, false) }) (v := .pointer (some ⟨w.heap.size, 4, none⟩)) rfl (by kernel_rfl) (by kernel_rfl) (by kernel_rfl) (fun _ _ _ h => h) (Or.inl ⟨by rfl, by intro x _; go_simp⟩) hS5 ?_
              (try simp only [Act.put, List.setIfInBounds_toArray, List.set_cons_zero, List.set_cons_succ])
              refine wpAnyH_take (i := 16) (oi := { dst := some 30, op := .load 3 (.tmp 29), type := _, pos := _, after := _, guard := some (14, false) }) (v := .int .i64 n) rfl (by kernel_rfl) (by kernel_rfl) (by kernel_rfl) (fun _ _ _ h => h) (Or.inl ⟨by rfl, by intro x hx; obtain ⟨h1, h2, h3, h4⟩ := hx; go_simp⟩) hS5 ?_
              (try simp only [Act.put, List.setIfInBounds_toArray, List.set_cons_zero, List.set_cons_succ])
              refine wpAnyH_take (i := 17) (oi := { dst := some 31, op := .binOp .lss 3 (.tmp 30) (.const (.int .i64 0)) 3, type := _, pos := _, after := _, guard := some (14, false) }) (v := .bool false) rfl (by kernel_rfl) (by kernel_rfl) (by kernel_rfl) (fun _ _ _ h => h) (Or.inl ⟨by rfl, by intro x _; go_simp⟩) hS5 ?_
              (try simp only [Act.put, List.setIfInBounds_toArray, List.set_cons_zero, List.set_cons_succ])
              refine wpAnyH_take (i := 18) (oi := { dst := some 32, op := .pick (.tmp 28) (.const (.bool true)) (.tmp 31), type := _, pos := _, after := _, guard := none }) (v := .bool false) rfl (by kernel_rfl) (by kernel_rfl) (by kernel_rfl) (fun _ _ _ h => h) (Or.inl ⟨by rfl, by intro x _; go_simp⟩) hS5 ?_
              (try simp only [Act.put, List.setIfInBounds_toArray, List.set_cons_zero, List.set_cons_succ])
              refine wpAnyH_done (by kernel_rfl) ?_ _
              have hS6 := HS.out w5 hb5
              obtain ⟨-, -, y3, y4⟩ := hS6
              have y6 := (HS.out w5 hb5).1
              clear HS HSZ
              go_wp2
              go_ret
              exact ⟨congrArg (fun b => Ending.returned (Value.bool b)) (decide_eq_false (by omega)), HB.out _ hb5⟩
        · rw [show decide ((s.length : Int) = sz ∧ 0 ≤ at_ ∧ 0 ≤ n ∧ (n = 0 ∨ n ≤ sz - at_)) = false by simp [h3]]
          have j1 : ((s.length : Int) != sz) = false := by simp [h1]
          have j2' : ¬ at_ < 0 := by omega
          have j3' : n < 0 := by omega
          clear h1
          go_enter Try.func26, Try.ntmps26
          go_wp2_with fail
          refine with_world (Q := fun V => Bw w _ W.heap.size (.slice (some ⟨g, 0, none⟩) s.length c) V) _ HX3.out ?_
          intro X hX
          have HS : Hid (∀ V, Below X.heap.size X V → V.cell? ⟨w.heap.size, 6, none⟩ = some (.int .i64 sz) ∧ V.cell? ⟨W.heap.size, 0, none⟩ = some (.slice (some ⟨g, 0, none⟩) s.length c) ∧ V.cell? ⟨w.heap.size, 3, none⟩ = some (.int .i64 at_) ∧ V.cell? ⟨w.heap.size, 4, none⟩ = some (.int .i64 n)) := fun V hV => ⟨(hX.below hV).bx.cells.2.2.2.2.2, (hX.below hV).cells.1, (hX.below hV).bx.cells.2.2.1, (hX.below hV).bx.cells.2.2.2.1⟩
          have HB : Hid (∀ V, Below X.heap.size X V → Below w.heap.size w V) := fun V hV => (hX.below hV).bx.bl
          clear hX HX3 x1 x2 x3 x4 x5 x6 hW hW2 d0 df c1 hr hne
          have hS0 : (fun V => V.cell? ⟨w.heap.size, 6, none⟩ = some (.int .i64 sz) ∧ V.cell? ⟨W.heap.size, 0, none⟩ = some (.slice (some ⟨g, 0, none⟩) s.length c) ∧ V.cell? ⟨w.heap.size, 3, none⟩ = some (.int .i64 at_) ∧ V.cell? ⟨w.heap.size, 4, none⟩ = some (.int .i64 n)) X := HS.out X (Below.refl _ _)
          refine wp_region_held_drew (S := fun V => V.cell? ⟨w.heap.size, 6, none⟩ = some (.int .i64 sz) ∧ V.cell? ⟨W.heap.size, 0, none⟩ = some (.slice (some ⟨g, 0, none⟩) s.length c) ∧ V.cell? ⟨w.heap.size, 3, none⟩ = some (.int .i64 at_) ∧ V.cell? ⟨w.heap.size, 4, none⟩ = some (.int .i64 n)) (by kernel_rfl) hS0 ?_
          intro hS
          have hb : Below X.heap.size X X.drew := (Below.refl _ _).drew
          revert hS hb
          generalize X.drew = V
          intro hS hb
          refine wpAnyH_take (i := 0) (oi := { dst := some 14, op := .move (.tmp 6), type := _, pos := _, after := _, guard := none }) (v := .bool true) rfl (by kernel_rfl) (by kernel_rfl) (by kernel_rfl) (fun _ _ _ h => h) (Or.inl ⟨by rfl, by intro x _; go_simp⟩) hS ?_
          (try simp only [Act.put, List.setIfInBounds_toArray, List.set_cons_zero, List.set_cons_succ])
          refine wpAnyH_take (i := 1) (oi := { dst := some 15, op := .unOp .not 4 (.tmp 14), type := _, pos := _, after := _, guard := none }) (v := .bool false) rfl (by kernel_rfl) (by kernel_rfl) (by kernel_rfl) (fun _ _ _ h => h) (Or.inl ⟨by rfl, by intro x _; go_simp⟩) hS ?_
          (try simp only [Act.put, List.setIfInBounds_toArray, List.set_cons_zero, List.set_cons_succ])
          refine wpAnyH_take (i := 2) (oi := { dst := some 16, op := .move (.tmp 15), type := _, pos := _, after := _, guard := none }) (v := .bool false) rfl (by kernel_rfl) (by kernel_rfl) (by kernel_rfl) (fun _ _ _ h => h) (Or.inl ⟨by rfl, by intro x _; go_simp⟩) hS ?_
          (try simp only [Act.put, List.setIfInBounds_toArray, List.set_cons_zero, List.set_cons_succ])
          refine wpAnyH_take (i := 3) (oi := { dst := some 17, op := .load 72 (.tmp 5), type := _, pos := _, after := _, guard := some (2, false) }) (v := .agg #[.slice (some ⟨g, 0, none⟩) s.length c]) rfl (by kernel_rfl) (by kernel_rfl) (by kernel_rfl) (fun _ _ _ h => h) (Or.inl ⟨by rfl, by intro x hx; obtain ⟨h1, h2, h3, h4⟩ := hx; go_simp⟩) hS ?_
          (try simp only [Act.put, List.setIfInBounds_toArray, List.set_cons_zero, List.set_cons_succ])
          refine wpAnyH_take (i := 5) (oi := { dst := some 19, op := .fieldAddr 26 (.tmp 3) 6, type := _, pos := _, after := _, guard := some (2, false) }) (v := .pointer (some ⟨w.heap.size, 6, none⟩)) rfl (by kernel_rfl) (by kernel_rfl) (by kernel_rfl) (fun _ _ _ h => h) (Or.inl ⟨by rfl, by intro x _; go_simp⟩) hS ?_
          (try simp only [Act.put, List.setIfInBounds_toArray, List.set_cons_zero, List.set_cons_succ])
          refine wpAnyH_take (i := 6) (oi := { dst := some 20, op := .load 3 (.tmp 19), type := _, pos := _, after := _, guard := some (2, false) }) (v := .int .i64 sz) rfl (by kernel_rfl) (by kernel_rfl) (by kernel_rfl) (fun _ _ _ h => h) (Or.inl ⟨by rfl, by intro x hx; obtain ⟨h1, h2, h3, h4⟩ := hx; go_simp⟩) hS ?_
          (try simp only [Act.put, List.setIfInBounds_toArray, List.set_cons_zero, List.set_cons_succ])
          refine wpAnyH_ready (rs := [4]) (by kernel_rfl) (by simp) ?_
          refine AllReadyH.cons (o := { dst := some 18, op := .call { callee := .value (.func 36), args := #[.tmp 17], argTypes := #[72] }, type := _, pos := _, after := _, guard := some (2, false) }) rfl (fun K hK => ?_) AllReadyH.nil
          go_simp
          refine (HSZ.out _).mono ?_
          rintro e w5 ⟨rfl, hc5⟩
          have hb5 := hb.trans (hc5.mono hb.size)
          have hS5 := HS.out w5 hb5
          refine hK.out _ _ hS5 (fun _ => ?_)
          clear hK K
          (try simp only [Act.put, List.setIfInBounds_toArray, List.set_cons_zero, List.set_cons_succ])
          clear hc5 hS hb
          refine wpAnyH_take (i := 7) (oi := { dst := some 21, op := .binOp .neq 3 (.tmp 18) (.tmp 20) 3, type := _, pos := _, after := _, guard := some (2, false) }) (v := .bool false) rfl (by kernel_rfl) (by kernel_rfl) (by kernel_rfl) (fun _ _ _ h => h) (Or.inl ⟨by rfl, by intro x _; go_simp⟩) hS5 ?_
          (try simp only [Act.put, List.setIfInBounds_toArray, List.set_cons_zero, List.set_cons_succ])
          refine wpAnyH_take (i := 8) (oi := { dst := some 22, op := .pick (.tmp 16) (.const (.bool true)) (.tmp 21), type := _, pos := _, after := _, guard := none }) (v := .bool false) rfl (by kernel_rfl) (by kernel_rfl) (by kernel_rfl) (fun _ _ _ h => h) (Or.inl ⟨by rfl, by intro x _; go_simp⟩) hS5 ?_
          (try simp only [Act.put, List.setIfInBounds_toArray, List.set_cons_zero, List.set_cons_succ])
          refine wpAnyH_take (i := 9) (oi := { dst := some 23, op := .move (.tmp 22), type := _, pos := _, after := _, guard := none }) (v := .bool false) rfl (by kernel_rfl) (by kernel_rfl) (by kernel_rfl) (fun _ _ _ h => h) (Or.inl ⟨by rfl, by intro x _; go_simp⟩) hS5 ?_
          (try simp only [Act.put, List.setIfInBounds_toArray, List.set_cons_zero, List.set_cons_succ])
          refine wpAnyH_take (i := 10) (oi := { dst := some 24, op := .fieldAddr 26 (.tmp 3) 3, type := _, pos := _, after := _, guard := some (9, false) }) (v := .pointer (some ⟨w.heap.size, 3, none⟩)) rfl (by kernel_rfl) (by kernel_rfl) (by kernel_rfl) (fun _ _ _ h => h) (Or.inl ⟨by rfl, by intro x _; go_simp⟩) hS5 ?_
          (try simp only [Act.put, List.setIfInBounds_toArray, List.set_cons_zero, List.set_cons_succ])
          refine wpAnyH_take (i := 11) (oi := { dst := some 25, op := .load 3 (.tmp 24), type := _, pos := _, after := _, guard := some (9, false) }) (v := .int .i64 at_) rfl (by kernel_rfl) (by kernel_rfl) (by kernel_rfl) (fun _ _ _ h => h) (Or.inl ⟨by rfl, by intro x hx; obtain ⟨h1, h2, h3, h4⟩ := hx; go_simp⟩) hS5 ?_
          (try simp only [Act.put, List.setIfInBounds_toArray, List.set_cons_zero, List.set_cons_succ])
          refine wpAnyH_take (i := 12) (oi := { dst := some 26, op := .binOp .lss 3 (.tmp 25) (.const (.int .i64 0)) 3, type := _, pos := _, after := _, guard := some (9, false) }) (v := .bool false) rfl (by kernel_rfl) (by kernel_rfl) (by kernel_rfl) (fun _ _ _ h => h) (Or.inl ⟨by rfl, by intro x _; go_simp⟩) hS5 ?_
          (try simp only [Act.put, List.setIfInBounds_toArray, List.set_cons_zero, List.set_cons_succ])
          refine wpAnyH_take (i := 13) (oi := { dst := some 27, op := .pick (.tmp 23) (.const (.bool true)) (.tmp 26), type := _, pos := _, after := _, guard := none }) (v := .bool false) rfl (by kernel_rfl) (by kernel_rfl) (by kernel_rfl) (fun _ _ _ h => h) (Or.inl ⟨by rfl, by intro x _; go_simp⟩) hS5 ?_
          (try simp only [Act.put, List.setIfInBounds_toArray, List.set_cons_zero, List.set_cons_succ])
          refine wpAnyH_take (i := 14) (oi := { dst := some 28, op := .move (.tmp 27), type := _, pos := _, after := _, guard := none }) (v := .bool false) rfl (by kernel_rfl) (by kernel_rfl) (by kernel_rfl) (fun _ _ _ h => h) (Or.inl ⟨by rfl, by intro x _; go_simp⟩) hS5 ?_
          (try simp only [Act.put, List.setIfInBounds_toArray, List.set_cons_zero, List.set_cons_succ])
          refine wpAnyH_take (i := 15) (oi := { dst := some 29, op := .fieldAddr 26 (.tmp 3) 4, type := _, pos := _, after := _, guard := some (14, false) }) (v := .pointer (some ⟨w.heap.size, 4, none⟩)) rfl (by kernel_rfl) (by kernel_rfl) (by kernel_rfl) (fun _ _ _ h => h) (Or.inl ⟨by rfl, by intro x _; go_simp⟩) hS5 ?_
          (try simp only [Act.put, List.setIfInBounds_toArray, List.set_cons_zero, List.set_cons_succ])
          refine wpAnyH_take (i := 16) (oi := { dst := some 30, op := .load 3 (.tmp 29), type := _, pos := _, after := _, guard := some (14, false) }) (v := .int .i64 n) rfl (by kernel_rfl) (by kernel_rfl) (by kernel_rfl) (fun _ _ _ h => h) (Or.inl ⟨by rfl, by intro x hx; obtain ⟨h1, h2, h3, h4⟩ := hx; go_simp⟩) hS5 ?_
          (try simp only [Act.put, List.setIfInBounds_toArray, List.set_cons_zero, List.set_cons_succ])
          refine wpAnyH_take (i := 17) (oi := { dst := some 31, op := .binOp .lss 3 (.tmp 30) (.const (.int .i64 0)) 3, type := _, pos := _, after := _, guard := some (14, false) }) (v := .bool true) rfl (by kernel_rfl) (by kernel_rfl) (by kernel_rfl) (fun _ _ _ h => h) (Or.inl ⟨by rfl, by intro x _; go_simp⟩) hS5 ?_
          (try simp only [Act.put, List.setIfInBounds_toArray, List.set_cons_zero, List.set_cons_succ])
          refine wpAnyH_take (i := 18) (oi := { dst := some 32, op := .pick (.tmp 28) (.const (.bool true)) (.tmp 31), type := _, pos := _, after := _, guard := none }) (v := .bool true) rfl (by kernel_rfl) (by kernel_rfl) (by kernel_rfl) (fun _ _ _ h => h) (Or.inl ⟨by rfl, by intro x _; go_simp⟩) hS5 ?_
          (try simp only [Act.put, List.setIfInBounds_toArray, List.set_cons_zero, List.set_cons_succ])
          refine wpAnyH_done (by kernel_rfl) ?_ _
          go_wp2
          go_ret
          exact ⟨rfl, HB.out _ hb5⟩
      · rw [show decide ((s.length : Int) = sz ∧ 0 ≤ at_ ∧ 0 ≤ n ∧ (n = 0 ∨ n ≤ sz - at_)) = false by simp [h2]]
        have j1 : ((s.length : Int) != sz) = false := by simp [h1]
        have j2' : at_ < 0 := by omega
        clear h1
        go_enter Try.func26, Try.ntmps26
        go_wp2_with fail
        refine with_world (Q := fun V => Bw w _ W.heap.size (.slice (some ⟨g, 0, none⟩) s.length c) V) _ HX3.out ?_
        intro X hX
        have HS : Hid (∀ V, Below X.heap.size X V → V.cell? ⟨w.heap.size, 6, none⟩ = some (.int .i64 sz) ∧ V.cell? ⟨W.heap.size, 0, none⟩ = some (.slice (some ⟨g, 0, none⟩) s.length c) ∧ V.cell? ⟨w.heap.size, 3, none⟩ = some (.int .i64 at_) ∧ V.cell? ⟨w.heap.size, 4, none⟩ = some (.int .i64 n)) := fun V hV => ⟨(hX.below hV).bx.cells.2.2.2.2.2, (hX.below hV).cells.1, (hX.below hV).bx.cells.2.2.1, (hX.below hV).bx.cells.2.2.2.1⟩
        have HB : Hid (∀ V, Below X.heap.size X V → Below w.heap.size w V) := fun V hV => (hX.below hV).bx.bl
        clear hX HX3 x1 x2 x3 x4 x5 x6 hW hW2 d0 df c1 hr hne
        have hS0 : (fun V => V.cell? ⟨w.heap.size, 6, none⟩ = some (.int .i64 sz) ∧ V.cell? ⟨W.heap.size, 0, none⟩ = some (.slice (some ⟨g, 0, none⟩) s.length c) ∧ V.cell? ⟨w.heap.size, 3, none⟩ = some (.int .i64 at_) ∧ V.cell? ⟨w.heap.size, 4, none⟩ = some (.int .i64 n)) X := HS.out X (Below.refl _ _)
        refine wp_region_held_drew (S := fun V => V.cell? ⟨w.heap.size, 6, none⟩ = some (.int .i64 sz) ∧ V.cell? ⟨W.heap.size, 0, none⟩ = some (.slice (some ⟨g, 0, none⟩) s.length c) ∧ V.cell? ⟨w.heap.size, 3, none⟩ = some (.int .i64 at_) ∧ V.cell? ⟨w.heap.size, 4, none⟩ = some (.int .i64 n)) (by kernel_rfl) hS0 ?_
        intro hS
        have hb : Below X.heap.size X X.drew := (Below.refl _ _).drew
        revert hS hb
        generalize X.drew = V
        intro hS hb
        refine wpAnyH_take (i := 0) (oi := { dst := some 14, op := .move (.tmp 6), type := _, pos := _, after := _, guard := none }) (v := .bool true) rfl (by kernel_rfl) (by kernel_rfl) (by kernel_rfl) (fun _ _ _ h => h) (Or.inl ⟨by rfl, by intro x _; go_simp⟩) hS ?_
        (try simp only [Act.put, List.setIfInBounds_toArray, List.set_cons_zero, List.set_cons_succ])
        refine wpAnyH_take (i := 1) (oi := { dst := some 15, op := .unOp .not 4 (.tmp 14), type := _, pos := _, after := _, guard := none }) (v := .bool false) rfl (by kernel_rfl) (by kernel_rfl) (by kernel_rfl) (fun _ _ _ h => h) (Or.inl ⟨by rfl, by intro x _; go_simp⟩) hS ?_
        (try simp only [Act.put, List.setIfInBounds_toArray, List.set_cons_zero, List.set_cons_succ])
        refine wpAnyH_take (i := 2) (oi := { dst := some 16, op := .move (.tmp 15), type := _, pos := _, after := _, guard := none }) (v := .bool false) rfl (by kernel_rfl) (by kernel_rfl) (by kernel_rfl) (fun _ _ _ h => h) (Or.inl ⟨by rfl, by intro x _; go_simp⟩) hS ?_
        (try simp only [Act.put, List.setIfInBounds_toArray, List.set_cons_zero, List.set_cons_succ])
        refine wpAnyH_take (i := 3) (oi := { dst := some 17, op := .load 72 (.tmp 5), type := _, pos := _, after := _, guard := some (2, false) }) (v := .agg #[.slice (some ⟨g, 0, none⟩) s.length c]) rfl (by kernel_rfl) (by kernel_rfl) (by kernel_rfl) (fun _ _ _ h => h) (Or.inl ⟨by rfl, by intro x hx; obtain ⟨h1, h2, h3, h4⟩ := hx; go_simp⟩) hS ?_
        (try simp only [Act.put, List.setIfInBounds_toArray, List.set_cons_zero, List.set_cons_succ])
        refine wpAnyH_take (i := 5) (oi := { dst := some 19, op := .fieldAddr 26 (.tmp 3) 6, type := _, pos := _, after := _, guard := some (2, false) }) (v := .pointer (some ⟨w.heap.size, 6, none⟩)) rfl (by kernel_rfl) (by kernel_rfl) (by kernel_rfl) (fun _ _ _ h => h) (Or.inl ⟨by rfl, by intro x _; go_simp⟩) hS ?_
        (try simp only [Act.put, List.setIfInBounds_toArray, List.set_cons_zero, List.set_cons_succ])
        refine wpAnyH_take (i := 6) (oi := { dst := some 20, op := .load 3 (.tmp 19), type := _, pos := _, after := _, guard := some (2, false) }) (v := .int .i64 sz) rfl (by kernel_rfl) (by kernel_rfl) (by kernel_rfl) (fun _ _ _ h => h) (Or.inl ⟨by rfl, by intro x hx; obtain ⟨h1, h2, h3, h4⟩ := hx; go_simp⟩) hS ?_
        (try simp only [Act.put, List.setIfInBounds_toArray, List.set_cons_zero, List.set_cons_succ])
        refine wpAnyH_ready (rs := [4]) (by kernel_rfl) (by simp) ?_
        refine AllReadyH.cons (o := { dst := some 18, op := .call { callee := .value (.func 36), args := #[.tmp 17], argTypes := #[72] }, type := _, pos := _, after := _, guard := some (2, false) }) rfl (fun K hK => ?_) AllReadyH.nil
        go_simp
        refine (HSZ.out _).mono ?_
        rintro e w5 ⟨rfl, hc5⟩
        have hb5 := hb.trans (hc5.mono hb.size)
        have hS5 := HS.out w5 hb5
        refine hK.out _ _ hS5 (fun _ => ?_)
        clear hK K
        (try simp only [Act.put, List.setIfInBounds_toArray, List.set_cons_zero, List.set_cons_succ])
        clear hc5 hS hb
        refine wpAnyH_take (i := 7) (oi := { dst := some 21, op := .binOp .neq 3 (.tmp 18) (.tmp 20) 3, type := _, pos := _, after := _, guard := some (2, false) }) (v := .bool false) rfl (by kernel_rfl) (by kernel_rfl) (by kernel_rfl) (fun _ _ _ h => h) (Or.inl ⟨by rfl, by intro x _; go_simp⟩) hS5 ?_
        (try simp only [Act.put, List.setIfInBounds_toArray, List.set_cons_zero, List.set_cons_succ])
        refine wpAnyH_take (i := 8) (oi := { dst := some 22, op := .pick (.tmp 16) (.const (.bool true)) (.tmp 21), type := _, pos := _, after := _, guard := none }) (v := .bool false) rfl (by kernel_rfl) (by kernel_rfl) (by kernel_rfl) (fun _ _ _ h => h) (Or.inl ⟨by rfl, by intro x _; go_simp⟩) hS5 ?_
        (try simp only [Act.put, List.setIfInBounds_toArray, List.set_cons_zero, List.set_cons_succ])
        refine wpAnyH_take (i := 9) (oi := { dst := some 23, op := .move (.tmp 22), type := _, pos := _, after := _, guard := none }) (v := .bool false) rfl (by kernel_rfl) (by kernel_rfl) (by kernel_rfl) (fun _ _ _ h => h) (Or.inl ⟨by rfl, by intro x _; go_simp⟩) hS5 ?_
        (try simp only [Act.put, List.setIfInBounds_toArray, List.set_cons_zero, List.set_cons_succ])
        refine wpAnyH_take (i := 10) (oi := { dst := some 24, op := .fieldAddr 26 (.tmp 3) 3, type := _, pos := _, after := _, guard := some (9, false) }) (v := .pointer (some ⟨w.heap.size, 3, none⟩)) rfl (by kernel_rfl) (by kernel_rfl) (by kernel_rfl) (fun _ _ _ h => h) (Or.inl ⟨by rfl, by intro x _; go_simp⟩) hS5 ?_
        (try simp only [Act.put, List.setIfInBounds_toArray, List.set_cons_zero, List.set_cons_succ])
        refine wpAnyH_take (i := 11) (oi := { dst := some 25, op := .load 3 (.tmp 24), type := _, pos := _, after := _, guard := some (9, false) }) (v := .int .i64 at_) rfl (by kernel_rfl) (by kernel_rfl) (by kernel_rfl) (fun _ _ _ h => h) (Or.inl ⟨by rfl, by intro x hx; obtain ⟨h1, h2, h3, h4⟩ := hx; go_simp⟩) hS5 ?_
        (try simp only [Act.put, List.setIfInBounds_toArray, List.set_cons_zero, List.set_cons_succ])
        refine wpAnyH_take (i := 12) (oi := { dst := some 26, op := .binOp .lss 3 (.tmp 25) (.const (.int .i64 0)) 3, type := _, pos := _, after := _, guard := some (9, false) }) (v := .bool true) rfl (by kernel_rfl) (by kernel_rfl) (by kernel_rfl) (fun _ _ _ h => h) (Or.inl ⟨by rfl, by intro x _; go_simp⟩) hS5 ?_
        (try simp only [Act.put, List.setIfInBounds_toArray, List.set_cons_zero, List.set_cons_succ])
        refine wpAnyH_take (i := 13) (oi := { dst := some 27, op := .pick (.tmp 23) (.const (.bool true)) (.tmp 26), type := _, pos := _, after := _, guard := none }) (v := .bool true) rfl (by kernel_rfl) (by kernel_rfl) (by kernel_rfl) (fun _ _ _ h => h) (Or.inl ⟨by rfl, by intro x _; go_simp⟩) hS5 ?_
        (try simp only [Act.put, List.setIfInBounds_toArray, List.set_cons_zero, List.set_cons_succ])
        refine wpAnyH_take (i := 14) (oi := { dst := some 28, op := .move (.tmp 27), type := _, pos := _, after := _, guard := none }) (v := .bool true) rfl (by kernel_rfl) (by kernel_rfl) (by kernel_rfl) (fun _ _ _ h => h) (Or.inl ⟨by rfl, by intro x _; go_simp⟩) hS5 ?_
        (try simp only [Act.put, List.setIfInBounds_toArray, List.set_cons_zero, List.set_cons_succ])
        refine wpAnyH_take (i := 15) (oi := { dst := some 29, op := .fieldAddr 26 (.tmp 3) 4, type := _, pos := _, after := _, guard := some (14, false) }) (v := undef) rfl (by kernel_rfl) (by kernel_rfl) (by kernel_rfl) (fun _ _ _ h => h) (Or.inr ⟨by rfl, rfl⟩) hS5 ?_
        (try simp only [Act.put, List.setIfInBounds_toArray, List.set_cons_zero, List.set_cons_succ])
        refine wpAnyH_take (i := 16) (oi := { dst := some 30, op := .load 3 (.tmp 29), type := _, pos := _, after := _, guard := some (14, false) }) (v := undef) rfl (by kernel_rfl) (by kernel_rfl) (by kernel_rfl) (fun _ _ _ h => h) (Or.inr ⟨by rfl, rfl⟩) hS5 ?_
        (try simp only [Act.put, List.setIfInBounds_toArray, List.set_cons_zero, List.set_cons_succ])
        refine wpAnyH_take (i := 17) (oi := { dst := some 31, op := .binOp .lss 3 (.tmp 30) (.const (.int .i64 0)) 3, type := _, pos := _, after := _, guard := some (14, false) }) (v := undef) rfl (by kernel_rfl) (by kernel_rfl) (by kernel_rfl) (fun _ _ _ h => h) (Or.inr ⟨by rfl, rfl⟩) hS5 ?_
        (try simp only [Act.put, List.setIfInBounds_toArray, List.set_cons_zero, List.set_cons_succ])
        refine wpAnyH_take (i := 18) (oi := { dst := some 32, op := .pick (.tmp 28) (.const (.bool true)) (.tmp 31), type := _, pos := _, after := _, guard := none }) (v := .bool true) rfl (by kernel_rfl) (by kernel_rfl) (by kernel_rfl) (fun _ _ _ h => h) (Or.inl ⟨by rfl, by intro x _; go_simp⟩) hS5 ?_
        (try simp only [Act.put, List.setIfInBounds_toArray, List.set_cons_zero, List.set_cons_succ])
        refine wpAnyH_done (by kernel_rfl) ?_ _
        go_wp2
        go_ret
        exact ⟨rfl, HB.out _ hb5⟩
    · rw [show decide ((s.length : Int) = sz ∧ 0 ≤ at_ ∧ 0 ≤ n ∧ (n = 0 ∨ n ≤ sz - at_)) = false by simp [h1]]
      have j1 : ((s.length : Int) != sz) = true := by simp [h1]
      clear h1
      go_enter Try.func26, Try.ntmps26
      go_wp2_with fail
      refine with_world (Q := fun V => Bw w _ W.heap.size (.slice (some ⟨g, 0, none⟩) s.length c) V) _ HX3.out ?_
      intro X hX
      have HS : Hid (∀ V, Below X.heap.size X V → V.cell? ⟨w.heap.size, 6, none⟩ = some (.int .i64 sz) ∧ V.cell? ⟨W.heap.size, 0, none⟩ = some (.slice (some ⟨g, 0, none⟩) s.length c) ∧ V.cell? ⟨w.heap.size, 3, none⟩ = some (.int .i64 at_) ∧ V.cell? ⟨w.heap.size, 4, none⟩ = some (.int .i64 n)) := fun V hV => ⟨(hX.below hV).bx.cells.2.2.2.2.2, (hX.below hV).cells.1, (hX.below hV).bx.cells.2.2.1, (hX.below hV).bx.cells.2.2.2.1⟩
      have HB : Hid (∀ V, Below X.heap.size X V → Below w.heap.size w V) := fun V hV => (hX.below hV).bx.bl
      clear hX HX3 x1 x2 x3 x4 x5 x6 hW hW2 d0 df c1 hr hne
      have hS0 : (fun V => V.cell? ⟨w.heap.size, 6, none⟩ = some (.int .i64 sz) ∧ V.cell? ⟨W.heap.size, 0, none⟩ = some (.slice (some ⟨g, 0, none⟩) s.length c) ∧ V.cell? ⟨w.heap.size, 3, none⟩ = some (.int .i64 at_) ∧ V.cell? ⟨w.heap.size, 4, none⟩ = some (.int .i64 n)) X := HS.out X (Below.refl _ _)
      refine wp_region_held_drew (S := fun V => V.cell? ⟨w.heap.size, 6, none⟩ = some (.int .i64 sz) ∧ V.cell? ⟨W.heap.size, 0, none⟩ = some (.slice (some ⟨g, 0, none⟩) s.length c) ∧ V.cell? ⟨w.heap.size, 3, none⟩ = some (.int .i64 at_) ∧ V.cell? ⟨w.heap.size, 4, none⟩ = some (.int .i64 n)) (by kernel_rfl) hS0 ?_
      intro hS
      have hb : Below X.heap.size X X.drew := (Below.refl _ _).drew
      revert hS hb
      generalize X.drew = V
      intro hS hb
      refine wpAnyH_take (i := 0) (oi := { dst := some 14, op := .move (.tmp 6), type := _, pos := _, after := _, guard := none }) (v := .bool true) rfl (by kernel_rfl) (by kernel_rfl) (by kernel_rfl) (fun _ _ _ h => h) (Or.inl ⟨by rfl, by intro x _; go_simp⟩) hS ?_
      (try simp only [Act.put, List.setIfInBounds_toArray, List.set_cons_zero, List.set_cons_succ])
      refine wpAnyH_take (i := 1) (oi := { dst := some 15, op := .unOp .not 4 (.tmp 14), type := _, pos := _, after := _, guard := none }) (v := .bool false) rfl (by kernel_rfl) (by kernel_rfl) (by kernel_rfl) (fun _ _ _ h => h) (Or.inl ⟨by rfl, by intro x _; go_simp⟩) hS ?_
      (try simp only [Act.put, List.setIfInBounds_toArray, List.set_cons_zero, List.set_cons_succ])
      refine wpAnyH_take (i := 2) (oi := { dst := some 16, op := .move (.tmp 15), type := _, pos := _, after := _, guard := none }) (v := .bool false) rfl (by kernel_rfl) (by kernel_rfl) (by kernel_rfl) (fun _ _ _ h => h) (Or.inl ⟨by rfl, by intro x _; go_simp⟩) hS ?_
      (try simp only [Act.put, List.setIfInBounds_toArray, List.set_cons_zero, List.set_cons_succ])
      refine wpAnyH_take (i := 3) (oi := { dst := some 17, op := .load 72 (.tmp 5), type := _, pos := _, after := _, guard := some (2, false) }) (v := .agg #[.slice (some ⟨g, 0, none⟩) s.length c]) rfl (by kernel_rfl) (by kernel_rfl) (by kernel_rfl) (fun _ _ _ h => h) (Or.inl ⟨by rfl, by intro x hx; obtain ⟨h1, h2, h3, h4⟩ := hx; go_simp⟩) hS ?_
      (try simp only [Act.put, List.setIfInBounds_toArray, List.set_cons_zero, List.set_cons_succ])
      refine wpAnyH_take (i := 5) (oi := { dst := some 19, op := .fieldAddr 26 (.tmp 3) 6, type := _, pos := _, after := _, guard := some (2, false) }) (v := .pointer (some ⟨w.heap.size, 6, none⟩)) rfl (by kernel_rfl) (by kernel_rfl) (by kernel_rfl) (fun _ _ _ h => h) (Or.inl ⟨by rfl, by intro x _; go_simp⟩) hS ?_
      (try simp only [Act.put, List.setIfInBounds_toArray, List.set_cons_zero, List.set_cons_succ])
      refine wpAnyH_take (i := 6) (oi := { dst := some 20, op := .load 3 (.tmp 19), type := _, pos := _, after := _, guard := some (2, false) }) (v := .int .i64 sz) rfl (by kernel_rfl) (by kernel_rfl) (by kernel_rfl) (fun _ _ _ h => h) (Or.inl ⟨by rfl, by intro x hx; obtain ⟨h1, h2, h3, h4⟩ := hx; go_simp⟩) hS ?_
      (try simp only [Act.put, List.setIfInBounds_toArray, List.set_cons_zero, List.set_cons_succ])
      refine wpAnyH_ready (rs := [4]) (by kernel_rfl) (by simp) ?_
      refine AllReadyH.cons (o := { dst := some 18, op := .call { callee := .value (.func 36), args := #[.tmp 17], argTypes := #[72] }, type := _, pos := _, after := _, guard := some (2, false) }) rfl (fun K hK => ?_) AllReadyH.nil
      go_simp
      refine (HSZ.out _).mono ?_
      rintro e w5 ⟨rfl, hc5⟩
      have hb5 := hb.trans (hc5.mono hb.size)
      have hS5 := HS.out w5 hb5
      refine hK.out _ _ hS5 (fun _ => ?_)
      clear hK K
      (try simp only [Act.put, List.setIfInBounds_toArray, List.set_cons_zero, List.set_cons_succ])
      clear hc5 hS hb
      refine wpAnyH_take (i := 7) (oi := { dst := some 21, op := .binOp .neq 3 (.tmp 18) (.tmp 20) 3, type := _, pos := _, after := _, guard := some (2, false) }) (v := .bool true) rfl (by kernel_rfl) (by kernel_rfl) (by kernel_rfl) (fun _ _ _ h => h) (Or.inl ⟨by rfl, by intro x _; go_simp⟩) hS5 ?_
      (try simp only [Act.put, List.setIfInBounds_toArray, List.set_cons_zero, List.set_cons_succ])
      refine wpAnyH_take (i := 8) (oi := { dst := some 22, op := .pick (.tmp 16) (.const (.bool true)) (.tmp 21), type := _, pos := _, after := _, guard := none }) (v := .bool true) rfl (by kernel_rfl) (by kernel_rfl) (by kernel_rfl) (fun _ _ _ h => h) (Or.inl ⟨by rfl, by intro x _; go_simp⟩) hS5 ?_
      (try simp only [Act.put, List.setIfInBounds_toArray, List.set_cons_zero, List.set_cons_succ])
      refine wpAnyH_take (i := 9) (oi := { dst := some 23, op := .move (.tmp 22), type := _, pos := _, after := _, guard := none }) (v := .bool true) rfl (by kernel_rfl) (by kernel_rfl) (by kernel_rfl) (fun _ _ _ h => h) (Or.inl ⟨by rfl, by intro x _; go_simp⟩) hS5 ?_
      (try simp only [Act.put, List.setIfInBounds_toArray, List.set_cons_zero, List.set_cons_succ])
      refine wpAnyH_take (i := 10) (oi := { dst := some 24, op := .fieldAddr 26 (.tmp 3) 3, type := _, pos := _, after := _, guard := some (9, false) }) (v := undef) rfl (by kernel_rfl) (by kernel_rfl) (by kernel_rfl) (fun _ _ _ h => h) (Or.inr ⟨by rfl, rfl⟩) hS5 ?_
      (try simp only [Act.put, List.setIfInBounds_toArray, List.set_cons_zero, List.set_cons_succ])
      refine wpAnyH_take (i := 11) (oi := { dst := some 25, op := .load 3 (.tmp 24), type := _, pos := _, after := _, guard := some (9, false) }) (v := undef) rfl (by kernel_rfl) (by kernel_rfl) (by kernel_rfl) (fun _ _ _ h => h) (Or.inr ⟨by rfl, rfl⟩) hS5 ?_
      (try simp only [Act.put, List.setIfInBounds_toArray, List.set_cons_zero, List.set_cons_succ])
      refine wpAnyH_take (i := 12) (oi := { dst := some 26, op := .binOp .lss 3 (.tmp 25) (.const (.int .i64 0)) 3, type := _, pos := _, after := _, guard := some (9, false) }) (v := undef) rfl (by kernel_rfl) (by kernel_rfl) (by kernel_rfl) (fun _ _ _ h => h) (Or.inr ⟨by rfl, rfl⟩) hS5 ?_
      (try simp only [Act.put, List.setIfInBounds_toArray, List.set_cons_zero, List.set_cons_succ])
      refine wpAnyH_take (i := 13) (oi := { dst := some 27, op := .pick (.tmp 23) (.const (.bool true)) (.tmp 26), type := _, pos := _, after := _, guard := none }) (v := .bool true) rfl (by kernel_rfl) (by kernel_rfl) (by kernel_rfl) (fun _ _ _ h => h) (Or.inl ⟨by rfl, by intro x _; go_simp⟩) hS5 ?_
      (try simp only [Act.put, List.setIfInBounds_toArray, List.set_cons_zero, List.set_cons_succ])
      refine wpAnyH_take (i := 14) (oi := { dst := some 28, op := .move (.tmp 27), type := _, pos := _, after := _, guard := none }) (v := .bool true) rfl (by kernel_rfl) (by kernel_rfl) (by kernel_rfl) (fun _ _ _ h => h) (Or.inl ⟨by rfl, by intro x _; go_simp⟩) hS5 ?_
      (try simp only [Act.put, List.setIfInBounds_toArray, List.set_cons_zero, List.set_cons_succ])
      refine wpAnyH_take (i := 15) (oi := { dst := some 29, op := .fieldAddr 26 (.tmp 3) 4, type := _, pos := _, after := _, guard := some (14, false) }) (v := undef) rfl (by kernel_rfl) (by kernel_rfl) (by kernel_rfl) (fun _ _ _ h => h) (Or.inr ⟨by rfl, rfl⟩) hS5 ?_
      (try simp only [Act.put, List.setIfInBounds_toArray, List.set_cons_zero, List.set_cons_succ])
      refine wpAnyH_take (i := 16) (oi := { dst := some 30, op := .load 3 (.tmp 29), type := _, pos := _, after := _, guard := some (14, false) }) (v := undef) rfl (by kernel_rfl) (by kernel_rfl) (by kernel_rfl) (fun _ _ _ h => h) (Or.inr ⟨by rfl, rfl⟩) hS5 ?_
      (try simp only [Act.put, List.setIfInBounds_toArray, List.set_cons_zero, List.set_cons_succ])
      refine wpAnyH_take (i := 17) (oi := { dst := some 31, op := .binOp .lss 3 (.tmp 30) (.const (.int .i64 0)) 3, type := _, pos := _, after := _, guard := some (14, false) }) (v := undef) rfl (by kernel_rfl) (by kernel_rfl) (by kernel_rfl) (fun _ _ _ h => h) (Or.inr ⟨by rfl, rfl⟩) hS5 ?_
      (try simp only [Act.put, List.setIfInBounds_toArray, List.set_cons_zero, List.set_cons_succ])
      refine wpAnyH_take (i := 18) (oi := { dst := some 32, op := .pick (.tmp 28) (.const (.bool true)) (.tmp 31), type := _, pos := _, after := _, guard := none }) (v := .bool true) rfl (by kernel_rfl) (by kernel_rfl) (by kernel_rfl) (fun _ _ _ h => h) (Or.inl ⟨by rfl, by intro x _; go_simp⟩) hS5 ?_
      (try simp only [Act.put, List.setIfInBounds_toArray, List.set_cons_zero, List.set_cons_succ])
      refine wpAnyH_done (by kernel_rfl) ?_ _
      go_wp2
      go_ret
      exact ⟨rfl, HB.out _ hb5⟩
end Go.Proofs.Ytpjigcccjiidpaa.Ex
