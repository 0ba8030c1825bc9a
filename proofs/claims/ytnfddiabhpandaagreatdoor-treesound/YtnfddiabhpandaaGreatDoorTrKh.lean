import Derived.Test.YtnfddiabhpandaaGreatDoorKsM
namespace Go.Proofs.YtnfddiabhpandaaGreatDoor.Tr
open Go.RowKit Go.Lib Go.Deep

theorem grown_on {w X Y : World} {r : Option Nat} (hb : Below w.heap.size w X) (hg : X.grownBy Y r) : w.grownBy Y r := ⟨hg.os.trans hb.os, hg.tape.trans hb.tape, hg.output.trans hb.output, Nat.le_trans hb.size hg.size, fun k hk hne => (hg.block k (Nat.lt_of_lt_of_le hk hb.size) hne).trans (hb.block k hk)⟩
set_option maxRecDepth 20000 in
set_option maxHeartbeats 1000000 in
theorem hangI_any (w : World) (q : Nat) (dv fv : Value) (ld lf : Nat) (ms : Nat → Nat) (nn : Nat) (T : Ts) (hI : Inn w q dv fv ld lf ms nn T) (p : Nat) (n : ByteArray) (kd no : Nat) (ht : tk T p) (hn : n.size ≤ maxLen) (hnn : nn < maxLen) :
    Calls Tryz.prog 128 #[.pointer (some ⟨q, 0, none⟩), .agg #[.int .i64 (kd : Int), .int .i64 (no : Int)], .agg #[.int .i64 (p : Int), .string n]] w fun e w' => e = .returned (.tuple #[]) ∧ Inn w' q dv fv ld lf ms (nn + 1) (hangT T p n (some (kd, no))) ∧ w.grownBy w' (some (ms p)) := by
  obtain ⟨d, hd⟩ := ht
  obtain ⟨W, hW, hb, k0, k1⟩ := two_new w #[.int .i64 (kd : Int), .int .i64 (no : Int)] #[.int .i64 (p : Int), .string n] 149 128
  have hin := inside_any W.drew q dv fv ld lf ms nn T (hI.below hb.drew) p d hd
  have HX : Hid (∀ w5, Below W.drew.heap.size W.drew w5 → w5.cell? ⟨w.heap.size, 0, none⟩ = some (.int .i64 (kd : Int)) ∧ w5.cell? ⟨w.heap.size, 1, none⟩ = some (.int .i64 (no : Int)) ∧ w5.cell? ⟨w.heap.size + 1, 0, none⟩ = some (.int .i64 (p : Int)) ∧ w5.cell? ⟨w.heap.size + 1, 1, none⟩ = some (.string n) ∧
      ∃ w6, (Instr.mapUpdate 129 (.map (some (ms p))) (.string n) (.agg #[.int .i64 (kd : Int), .int .i64 (no : Int)])).run Tryz.prog w5 = .ok () w6 ∧ Hid (Inn w6 q dv fv ld lf ms (nn + 1) (hangT T p n (some (kd, no))) ∧ w.grownBy w6 (some (ms p)))) := fun w5 hb5 => by
    have hb' : Below w.heap.size w w5 := hb.drew.trans (hb5.mono hb.size)
    have q0 := (hb5.block _ (heap_lt k0)).trans k0
    have q1 := (hb5.block _ (heap_lt k1)).trans k1
    refine ⟨(cell_of_heap q0).trans rfl, (cell_of_heap q0).trans rfl, (cell_of_heap q1).trans rfl, (cell_of_heap q1).trans rfl, ?_⟩
    obtain ⟨Dt, hm, hT⟩ := (hI.below hb').hm p d hd
    obtain ⟨w6, hX1, hX2, hX3⟩ := World.ownsMap.update (w := w5) (t := 129) hm keyLaw Tryz.underlying129 hnn (WideMaps.keyOf_string_mk Tryz.underlying9 hn) (nodeR_mk kd no)
    exact ⟨w6, hX1, (hI.below hb').hang hd hX3 (Nat.le_succ _) hX2 (hT.put (ky n) (kd, no)), grown_on hb' hX3⟩
  have i0 : W.cell? ⟨w.heap.size, 0, none⟩ = some (.int .i64 (kd : Int)) := (cell_of_heap k0).trans rfl
  have i1 : W.cell? ⟨w.heap.size, 1, none⟩ = some (.int .i64 (no : Int)) := (cell_of_heap k0).trans rfl
  have i2 : W.cell? ⟨w.heap.size + 1, 0, none⟩ = some (.int .i64 (p : Int)) := (cell_of_heap k1).trans rfl
  have i3 : W.cell? ⟨w.heap.size + 1, 1, none⟩ = some (.string n) := (cell_of_heap k1).trans rfl
  obtain ⟨m, hm⟩ : ∃ m, ms p = m := ⟨_, rfl⟩
  rw [hm] at hin HX ⊢
  clear hI hd hb k0 k1 hn hnn hm
  go_enter Tryz.func128, Tryz.ntmps128
  go_wp2_with fail
  go_region_with (go_at_call 127; refine hin.mono ?_; rintro e w5 ⟨rfl, hb5⟩; obtain ⟨x0, x1, x2, x3, w6, hX1, HT⟩ := HX.out w5 hb5; clear hb5)
  all_goals
    go_wp2
    go_end0
    exact ⟨rfl, HT.out⟩
set_option maxRecDepth 20000 in
set_option maxHeartbeats 2000000 in
theorem settleI_any (w : World) (q : Nat) (dv fv : Value) (ld lf : Nat) (ms : Nat → Nat) (nn : Nat) (T : Ts) (hI : Inn w q dv fv ld lf ms nn T) (kd no p : Nat) (n : ByteArray) (h0 : tk T 0) (hn : n.size ≤ maxLen) (hnn : nn < maxLen) (hr : rootd T 16 p = true) (hv : T.M p (ky n) = none) :
    Calls Tryz.prog 78 #[.pointer (some ⟨q, 0, none⟩), .agg #[.int .i64 (kd : Int), .int .i64 (no : Int)], .agg #[.int .i64 (p : Int), .string n]] w fun e w' => e = .returned (.bool true) ∧ Inn w' q dv fv ld lf ms (nn + 1) (hangT T p n (some (kd, no))) ∧ w.grownBy w' (some (ms p)) := by
  obtain ⟨W, hW, hb, k0, k1⟩ := two_new w #[.int .i64 (kd : Int), .int .i64 (no : Int)] #[.int .i64 (p : Int), .string n] 149 128
  have HIR : Hid (∀ V, Below W.heap.size W V → Calls Tryz.prog 126 #[.pointer (some ⟨q, 0, none⟩), .agg #[.int .i64 (p : Int), .string n]] V fun e w' => e = .returned (.bool true) ∧ Below V.heap.size V w') := fun V hV => by
    have := isRooted_any V q _ nn T ((show Lay w q _ nn T from ⟨dv, fv, ld, lf, ms, rfl, hI⟩).below hb |>.below hV) p n
    rw [hr] at this
    exact this
  have HBW : Hid (Below w.heap.size w W) := hb
  have htk := rootd_tk h0 hr
  obtain ⟨d, hd⟩ := htk
  have HIN : Hid (∀ V, Below W.heap.size W V → Calls Tryz.prog 127 #[.pointer (some ⟨q, 0, none⟩), .int .i64 (p : Int)] V fun e w' => e = .returned (.map (some (ms p))) ∧ Below V.heap.size V w') := fun V hV => inside_any V q dv fv ld lf ms nn T ((hI.below hb).below hV) p d hd
  have HS0 : Hid (∀ V, Below W.heap.size W V → V.cell? ⟨w.heap.size + 1, 0, none⟩ = some (.int .i64 (p : Int)) ∧ V.cell? ⟨w.heap.size + 1, 1, none⟩ = some (.string n) ∧ (Instr.lookup 129 (.map (some (ms p))) (.string n) false).run Tryz.prog V = .ok (.agg #[.int .i64 ((((0, 0) : Nat × Nat)).1 : Int), .int .i64 ((((0, 0) : Nat × Nat)).2 : Int)]) V) := fun V hV => by
    have k := (hV.block _ (heap_lt k1)).trans k1
    refine ⟨(cell_of_heap k).trans rfl, (cell_of_heap k).trans rfl, ?_⟩
    obtain ⟨Dt, hm, hT⟩ := ((hI.below hb).below hV).hm p d hd
    have hlo := look_any hm hT n hn
    rw [hv] at hlo
    exact hlo
  have HKW : Hid (∀ V, Below W.heap.size W V → V.heap[w.heap.size]? = some (.cells #[.int .i64 (kd : Int), .int .i64 (no : Int)] 149 (0, 0)) ∧ V.heap[w.heap.size + 1]? = some (.cells #[.int .i64 (p : Int), .string n] 128 (0, 0))) := fun V hV => ⟨(hV.block _ (heap_lt k0)).trans k0, (hV.block _ (heap_lt k1)).trans k1⟩
  have HHG : Hid (∀ V, Below W.heap.size W V → Calls Tryz.prog 128 #[.pointer (some ⟨q, 0, none⟩), .agg #[.int .i64 (kd : Int), .int .i64 (no : Int)], .agg #[.int .i64 (p : Int), .string n]] V fun e w' => e = .returned (.tuple #[]) ∧ Inn w' q dv fv ld lf ms (nn + 1) (hangT T p n (some (kd, no))) ∧ w.grownBy w' (some (ms p))) := fun V hV => by
    have hbV : Below w.heap.size w V := below_on hV hb
    refine (hangI_any V q dv fv ld lf ms nn T (hI.below hbV) p n kd no ⟨d, hd⟩ hn hnn).mono ?_
    rintro e w' ⟨h1, h2, h3⟩
    exact ⟨h1, h2, grown_on hbV h3⟩
  obtain ⟨k2, hk2⟩ : ∃ k2 : Nat, (0 : Nat) = k2 := ⟨_, rfl⟩
  obtain ⟨n2, hn2⟩ : ∃ n2 : Nat, (0 : Nat) = n2 := ⟨_, rfl⟩
  have hkI : ((k2 : Int) != 0) = false := by simp [← hk2]
  have HS0 : Hid (∀ V, Below W.heap.size W V → V.cell? ⟨w.heap.size + 1, 0, none⟩ = some (.int .i64 (p : Int)) ∧ V.cell? ⟨w.heap.size + 1, 1, none⟩ = some (.string n) ∧ (Instr.lookup 129 (.map (some (ms p))) (.string n) false).run Tryz.prog V = .ok (.agg #[.int .i64 (k2 : Int), .int .i64 (n2 : Int)]) V) := fun V hV => by
    rw [← hk2, ← hn2]
    exact HS0.out V hV
  clear hk2 hn2
  obtain ⟨m, hm⟩ : ∃ m, ms p = m := ⟨_, rfl⟩
  rw [hm] at HIN HS0 HHG ⊢
  clear hI hd h0 hv hm
  clear hb k0 k1 hr
  go_enter Tryz.func78, Tryz.ntmps78
  go_wp2_with fail
  refine wp_region_held_drew (S := fun V => V.cell? ⟨w.heap.size + 1, 0, none⟩ = some (.int .i64 (p : Int)) ∧ V.cell? ⟨w.heap.size + 1, 1, none⟩ = some (.string n) ∧ (Instr.lookup 129 (.map (some m)) (.string n) false).run Tryz.prog V = .ok (.agg #[.int .i64 (k2 : Int), .int .i64 (n2 : Int)]) V) (by kernel_rfl) (HS0.out _ (Below.refl _ _).drew) ?_
  intro hS
  refine wpAnyH_take (i := 0) (oi := { dst := some 7, op := .move (.tmp 0), type := _, pos := _, after := _, guard := none }) (v := .pointer (some ⟨q, 0, none⟩)) rfl (by kernel_rfl) (by kernel_rfl) (by kernel_rfl) (fun _ _ _ h => h) (Or.inl ⟨by rfl, by intro x _; go_simp⟩) hS ?_
  (try simp only [Act.put, List.setIfInBounds_toArray, List.set_cons_zero, List.set_cons_succ])
  refine wpAnyH_take (i := 1) (oi := { dst := some 8, op := .load 128 (.tmp 5), type := _, pos := _, after := _, guard := none }) (v := .agg #[.int .i64 (p : Int), .string n]) rfl (by kernel_rfl) (by kernel_rfl) (by kernel_rfl) (fun _ _ _ h => h) (Or.inl ⟨by rfl, by intro x hx; have h1 := hx.1; have h2 := hx.2.1; go_simp⟩) hS ?_
  (try simp only [Act.put, List.setIfInBounds_toArray, List.set_cons_zero, List.set_cons_succ])
  refine wpAnyH_ready (rs := [2]) (by kernel_rfl) (by simp) ?_
  refine AllReadyH.cons (o := { dst := some 9, op := .call { callee := .value (.func 126), args := #[.tmp 7, .tmp 8], argTypes := #[76, 128] }, type := _, pos := _, after := _, guard := none }) rfl (fun K hK => ?_) AllReadyH.nil
  go_simp
  refine (HIR.out _ (Below.refl _ _).drew).mono ?_
  rintro e w6 ⟨rfl, hb6⟩
  have hb46 : Below W.heap.size W w6 := ((Below.refl W.heap.size W).drew).trans hb6
  have HB6 : Hid _ := hb46
  replace hS := HS0.out _ hb46
  clear hb6 hb46
  refine hK.out _ _ hS (fun _ => ?_)
  clear hK K
  (try simp only [Act.put, List.setIfInBounds_toArray, List.set_cons_zero, List.set_cons_succ])
  refine wpAnyH_take (i := 3) (oi := { dst := some 10, op := .unOp .not 4 (.tmp 9), type := _, pos := _, after := _, guard := none }) (v := .bool false) rfl (by kernel_rfl) (by kernel_rfl) (by kernel_rfl) (fun _ _ _ h => h) (Or.inl ⟨by rfl, by intro x _; go_simp⟩) hS ?_
  (try simp only [Act.put, List.setIfInBounds_toArray, List.set_cons_zero, List.set_cons_succ])
  refine wpAnyH_take (i := 4) (oi := { dst := some 11, op := .move (.tmp 10), type := _, pos := _, after := _, guard := none }) (v := .bool false) rfl (by kernel_rfl) (by kernel_rfl) (by kernel_rfl) (fun _ _ _ h => h) (Or.inl ⟨by rfl, by intro x _; go_simp⟩) hS ?_
  (try simp only [Act.put, List.setIfInBounds_toArray, List.set_cons_zero, List.set_cons_succ])
  refine wpAnyH_take (i := 5) (oi := { dst := some 12, op := .move (.tmp 0), type := _, pos := _, after := _, guard := some (4, false) }) (v := .pointer (some ⟨q, 0, none⟩)) rfl (by kernel_rfl) (by kernel_rfl) (by kernel_rfl) (fun _ _ _ h => h) (Or.inl ⟨by rfl, by intro x _; go_simp⟩) hS ?_
  (try simp only [Act.put, List.setIfInBounds_toArray, List.set_cons_zero, List.set_cons_succ])
  refine wpAnyH_take (i := 6) (oi := { dst := some 13, op := .fieldAddr 128 (.tmp 5) 0, type := _, pos := _, after := _, guard := some (4, false) }) (v := .pointer (some ⟨(w.heap.size + 1), 0, none⟩)) rfl (by kernel_rfl) (by kernel_rfl) (by kernel_rfl) (fun _ _ _ h => h) (Or.inl ⟨by rfl, by intro x _; go_simp⟩) hS ?_
  (try simp only [Act.put, List.setIfInBounds_toArray, List.set_cons_zero, List.set_cons_succ])
  refine wpAnyH_take (i := 7) (oi := { dst := some 14, op := .load 3 (.tmp 13), type := _, pos := _, after := _, guard := some (4, false) }) (v := .int .i64 (p : Int)) rfl (by kernel_rfl) (by kernel_rfl) (by kernel_rfl) (fun _ _ _ h => h) (Or.inl ⟨by rfl, by intro x hx; have h1 := hx.1; go_simp⟩) hS ?_
  (try simp only [Act.put, List.setIfInBounds_toArray, List.set_cons_zero, List.set_cons_succ])
  refine wpAnyH_take (i := 9) (oi := { dst := some 16, op := .fieldAddr 128 (.tmp 5) 1, type := _, pos := _, after := _, guard := some (4, false) }) (v := .pointer (some ⟨(w.heap.size + 1), 1, none⟩)) rfl (by kernel_rfl) (by kernel_rfl) (by kernel_rfl) (fun _ _ _ h => h) (Or.inl ⟨by rfl, by intro x _; go_simp⟩) hS ?_
  (try simp only [Act.put, List.setIfInBounds_toArray, List.set_cons_zero, List.set_cons_succ])
  refine wpAnyH_take (i := 10) (oi := { dst := some 17, op := .load 9 (.tmp 16), type := _, pos := _, after := _, guard := some (4, false) }) (v := .string n) rfl (by kernel_rfl) (by kernel_rfl) (by kernel_rfl) (fun _ _ _ h => h) (Or.inl ⟨by rfl, by intro x hx; have h1 := hx.2.1; go_simp⟩) hS ?_
  (try simp only [Act.put, List.setIfInBounds_toArray, List.set_cons_zero, List.set_cons_succ])
  refine wpAnyH_ready (rs := [8]) (by kernel_rfl) (by simp) ?_
  refine AllReadyH.cons (o := { dst := some 15, op := .call { callee := .value (.func 127), args := #[.tmp 12, .tmp 14], argTypes := #[76, 3] }, type := _, pos := _, after := _, guard := some (4, false) }) rfl (fun K hK => ?_) AllReadyH.nil
  go_simp
  refine (HIN.out _ HB6.out).mono ?_
  rintro e w7 ⟨rfl, hb7⟩
  have hb67 : Below W.heap.size W w7 := below_on hb7 HB6.out
  have HB7 : Hid _ := hb67
  replace hS := HS0.out _ hb67
  clear hb7 hb67
  refine hK.out _ _ hS (fun _ => ?_)
  clear hK K
  (try simp only [Act.put, List.setIfInBounds_toArray, List.set_cons_zero, List.set_cons_succ])
  refine wpAnyH_take (i := 11) (oi := { dst := some 18, op := .lookup 129 (.tmp 15) (.tmp 17) false, type := _, pos := _, after := _, guard := some (4, false) }) (v := .agg #[.int .i64 (k2 : Int), .int .i64 (n2 : Int)]) rfl (by kernel_rfl) (by kernel_rfl) (by kernel_rfl) (fun _ _ _ h => h) (Or.inl ⟨by rfl, by intro x hx; have h1 := hx.2.2; go_simp⟩) hS ?_
  (try simp only [Act.put, List.setIfInBounds_toArray, List.set_cons_zero, List.set_cons_succ])
  refine wpAnyH_take (i := 12) (oi := { dst := some 19, op := .field 149 (.tmp 18) 0, type := _, pos := _, after := _, guard := some (4, false) }) (v := .int .i64 (k2 : Int)) rfl (by kernel_rfl) (by kernel_rfl) (by kernel_rfl) (fun _ _ _ h => h) (Or.inl ⟨by rfl, by intro x _; have h1 := fldN x (.int .i64 (k2 : Int)) (.int .i64 (n2 : Int)); go_simp⟩) hS ?_
  (try simp only [Act.put, List.setIfInBounds_toArray, List.set_cons_zero, List.set_cons_succ])
  refine wpAnyH_take (i := 13) (oi := { dst := some 20, op := .binOp .neq 3 (.tmp 19) (.const (.int .i64 0)) 3, type := _, pos := _, after := _, guard := some (4, false) }) (v := .bool false) rfl (by kernel_rfl) (by kernel_rfl) (by kernel_rfl) (fun _ _ _ h => h) (Or.inl ⟨by rfl, by intro x _; go_simp⟩) hS ?_
  (try simp only [Act.put, List.setIfInBounds_toArray, List.set_cons_zero, List.set_cons_succ])
  refine wpAnyH_take (i := 14) (oi := { dst := some 21, op := .pick (.tmp 11) (.const (.bool true)) (.tmp 20), type := _, pos := _, after := _, guard := none }) (v := .bool false) rfl (by kernel_rfl) (by kernel_rfl) (by kernel_rfl) (fun _ _ _ h => h) (Or.inl ⟨by rfl, by intro x _; go_simp⟩) hS ?_
  (try simp only [Act.put, List.setIfInBounds_toArray, List.set_cons_zero, List.set_cons_succ])
  refine wpAnyH_done (by kernel_rfl) ?_ _
  clear hS
  obtain ⟨j0, j1⟩ := HKW.out _ HB7.out
  have x0 : w7.cell? ⟨w.heap.size, 0, none⟩ = some (.int .i64 (kd : Int)) := (cell_of_heap j0).trans rfl
  have x1 : w7.cell? ⟨w.heap.size, 1, none⟩ = some (.int .i64 (no : Int)) := (cell_of_heap j0).trans rfl
  have y0 : w7.cell? ⟨w.heap.size + 1, 0, none⟩ = some (.int .i64 (p : Int)) := (cell_of_heap j1).trans rfl
  have y1 : w7.cell? ⟨w.heap.size + 1, 1, none⟩ = some (.string n) := (cell_of_heap j1).trans rfl
  have hhg := HHG.out _ HB7.out
  clear j0 j1
  go_wp2_with fail
  refine hhg.mono ?_
  rintro e w8 ⟨rfl, ht8⟩
  have HT8 : Hid _ := ht8
  clear ht8
  go_wp2
  go_ret
  exact ⟨rfl, HT8.out⟩

end Go.Proofs.YtnfddiabhpandaaGreatDoor.Tr
