import Derived.Test.YtnfddiabhpandaaGreatDoorMvM
import Derived.Test.YtnfddiabhpandaaGreatDoorAsM
namespace Go.Proofs.YtnfddiabhpandaaGreatDoor.Tr
open Go.RowKit Go.Lib Go.Deep

/-- does a place whose parent is p lie in the root, by at most so many names? -/
def rootd (T : Ts) : Nat → Nat → Bool
  | 0, _ => false
  | k + 1, p => if p = 0 then true else match T.D[p]? with
    | some (some d) => rootd T k d.1
    | _ => false
theorem rootd_zero {T : Ts} {k : Nat} : rootd T (k + 1) 0 = true := by simp [rootd]
theorem rootd_none {T : Ts} {k p : Nat} (hp : p ≠ 0) (h : ∀ d, T.D[p]? ≠ some (some d)) : rootd T (k + 1) p = false := by
  unfold rootd
  rw [if_neg hp]
  split
  · next d hd => exact absurd hd (h d)
  · rfl
theorem rootd_some {T : Ts} {k p : Nat} {d : Nat × ByteArray} (hp : p ≠ 0) (h : T.D[p]? = some (some d)) : rootd T (k + 1) p = rootd T k d.1 := by
  rw [rootd, if_neg hp, h]
theorem fldD0 (w : World) (a b c : Value) : (Instr.field 131 (.agg #[a, b, c]) 0).run Tryz.prog w = .ok (.agg #[a, b]) w := by kernel_rfl
theorem hasD_any (w : World) (q : Nat) (F : List Nat) (nn : Nat) (T : Ts) (hL : Lay w q F nn T) (i : Nat) : Calls Tryz.prog 121 #[.pointer (some ⟨q, 0, none⟩), .int .i64 (i : Int)] w fun e w' => ∃ r, e = .returned (.bool r) ∧ (r = true ↔ ∃ d, T.D[i]? = some (some d)) ∧ w' = w := by
  obtain ⟨dv, fv, ld, lf, ms, rfl, hI⟩ := hL
  refine (has_d w q dv _ hI.cells.2.1 hI.hd' (Nat.le_trans hI.lenD (by omega)) i).mono ?_
  rintro e w' ⟨rfl, rfl⟩
  refine ⟨_, rfl, ?_, rfl⟩
  unfold hasR
  rw [show ((i : Int)).toNat = i from Int.toNat_natCast i, dRows_get]
  cases hd : T.D[i]? with
  | none => simp
  | some o => cases o with
    | none => simp [dRow]
    | some d => simp [dRow]
set_option maxRecDepth 20000 in
set_option maxHeartbeats 2000000 in
theorem isRooted_any (w : World) (q : Nat) (F : List Nat) (nn : Nat) (T : Ts) (hL : Lay w q F nn T) (p : Nat) (n : ByteArray) :
    Calls Tryz.prog 126 #[.pointer (some ⟨q, 0, none⟩), .agg #[.int .i64 (p : Int), .string n]] w fun e w' => e = .returned (.bool (rootd T 16 p)) ∧ Below w.heap.size w w' := by
  obtain ⟨W, hW, hb, k0⟩ := one_new w #[.int .i64 (p : Int), .string n] 128
  have HL : Hid (∀ V, Below w.heap.size w V → Lay V q F nn T) := fun V hb => hL.below hb
  have HB : Hid (Below w.heap.size w W) := hb
  have HK : Hid _ := k0
  clear hL hb k0
  go_enter Tryz.func126, Tryz.ntmps126
  go_wp2_with fail
  go_loopg [5] 16 (fun gk kv wr => ∃ (k p' : Nat) (n' : ByteArray), k + gk = 16 ∧ kv = .int .i64 (k : Int) ∧ Hid (rootd T 16 p = rootd T gk p') ∧ Hid (wr.heap[w.heap.size]? = some (.cells #[.int .i64 (p' : Int), .string n'] 128 (0, 0))) ∧ Hid (Below w.heap.size w wr))
  case atStart => exact ⟨0, p, n, by omega, rfl, rfl, HK.out, HB.out⟩
  case round =>
    obtain ⟨k, p', n', hk, rfl, HR, HC, HBw⟩ := hrel
    by_cases hlt : k < 16
    · obtain ⟨j, rfl⟩ : ∃ j, gk = j + 1 := ⟨gk - 1, by omega⟩
      have hltI : (k : Int) < 16 := by omega
      have w1' : IntKind.i64.wrap ((k : Int) + 1) = ((k + 1 : Nat) : Int) := by rw [IntKind.wrap_i64]; omega
      have c0 : wr.cell? ⟨w.heap.size, 0, none⟩ = some (.int .i64 (p' : Int)) := (cell_of_heap HC.out).trans rfl
      by_cases hp : p' = 0
      · subst hp
        have HRT : Hid (rootd T 16 p = true) := HR.out.trans rootd_zero
        go_wp2
        go_ret
        exact ⟨by rw [HRT.out]; rfl, HBw.out⟩
      · have hpI : ((p' : Int) == 0) = false := by simpa using hp
        have hpI2 : ¬ (p' : Int) = 0 := by omega
        have c0' : wr.drew.cell? ⟨w.heap.size, 0, none⟩ = some (.int .i64 (p' : Int)) := c0
        have hhas := hasD_any wr.drew q F nn T (HL.out _ HBw.out.drew) p'
        by_cases hd : ∃ d, T.D[p']? = some (some d)
        · obtain ⟨d, hd⟩ := hd
          obtain ⟨m, hget, -⟩ := dirD_any wr q F nn T (HL.out _ HBw.out) p' d hd
          have hh : Calls Tryz.prog 121 #[.pointer (some ⟨q, 0, none⟩), .int .i64 (p' : Int)] wr.drew fun e w' => e = .returned (.bool true) ∧ w' = wr.drew := hhas.mono fun e w' ⟨r, h1, h2, h3⟩ => ⟨by rw [h1, h2.2 ⟨d, hd⟩], h3⟩
          have HGT : Hid (∀ V, Below wr.heap.size wr V → Calls Tryz.prog 160 #[.pointer (some ⟨q, 0, none⟩), .int .i64 (p' : Int)] V fun e w' => e = .returned (.agg #[.int .i64 (d.1 : Int), .string d.2, .map (some m)]) ∧ Below V.heap.size V w') := hget
          have HRD : Hid (rootd T 16 p = rootd T j d.1) := HR.out.trans (rootd_some hp hd)
          obtain ⟨d1, d2⟩ := d
          simp only at HGT HRD
          clear hhas hget hd HR
          go_wp2_with fail
          go_region_with (go_at_call 121; refine hh.mono ?_; rintro e w3 ⟨rfl, hw3⟩; subst w3)
          all_goals
            have hfl : ∀ V : World, (Instr.field 131 (.agg #[.int .i64 (d1 : Int), .string d2, .map (some m)]) 0).run Tryz.prog V = .ok (.agg #[.int .i64 (d1 : Int), .string d2]) V := fun V => fldD0 V _ _ _
            have HBD : Hid (Below w.heap.size w wr.drew) := HBw.out.drew
            have HCD : Hid (wr.drew.heap[w.heap.size]? = _) := HC.out
            have HGT2 : Hid (∀ V, Below wr.drew.heap.size wr.drew V → Calls Tryz.prog 160 #[.pointer (some ⟨q, 0, none⟩), .int .i64 (p' : Int)] V fun e w' => e = .returned (.agg #[.int .i64 (d1 : Int), .string d2, .map (some m)]) ∧ Below V.heap.size V w') := fun V hb => HGT.out V ((Below.refl _ _).drew.trans hb)
            clear c0 hh HGT
            revert c0' HBD HCD HGT2
            generalize wr.drew = V
            intro c0' HBD HCD HGT2
            have c0 : V.drew.cell? ⟨w.heap.size, 0, none⟩ = some (.int .i64 (p' : Int)) := c0'
            have hget := HGT2.out V.drew (Below.refl _ _).drew
            go_wp2_with fail
            go_region_with (go_at_call 160; refine hget.mono ?_; rintro e w4 ⟨rfl, hb4⟩; have k4 := (hb4.block _ (heap_lt HCD.out)).trans HCD.out; have g0 : w4.cell? ⟨w.heap.size, 0, none⟩ = some (.int .i64 (p' : Int)) := (cell_of_heap k4).trans rfl; have g1 : w4.cell? ⟨w.heap.size, 1, none⟩ = some (.string n') := (cell_of_heap k4).trans rfl; have fz : ∀ j, w4.frozen? ⟨w.heap.size, j, none⟩ = false := fun j => frozen_of_heap k4)
          all_goals
            have HF : Hid (((w4.setCell ⟨w.heap.size, 0, none⟩ (.int .i64 (d1 : Int))).setCell ⟨w.heap.size, 1, none⟩ (.string d2)).heap[w.heap.size]? = some (.cells #[.int .i64 (d1 : Int), .string d2] 128 (0, 0)) ∧ Below w.heap.size w ((w4.setCell ⟨w.heap.size, 0, none⟩ (.int .i64 (d1 : Int))).setCell ⟨w.heap.size, 1, none⟩ (.string d2))) := by
              have hbb : Below w.heap.size w w4 := HBD.out.drew.trans (hb4.mono HBD.out.size)
              exact ⟨heap_setCell_same _ _ 1 _ _ (.string d2) (heap_setCell_same _ _ 0 _ _ (.int .i64 (d1 : Int)) k4), (hbb.setCell (Nat.le_refl _) _).setCell (Nat.le_refl _) _⟩
            clear hb4 k4
            go_wp2
            go_roundg j
            case measure => omega
            case rel => exact ⟨k + 1, d1, d2, by omega, rfl, HRD.out, HF.out.1, HF.out.2⟩
        · have HRF : Hid (rootd T 16 p = false) := HR.out.trans (rootd_none hp fun d h => hd ⟨d, h⟩)
          have hh : Calls Tryz.prog 121 #[.pointer (some ⟨q, 0, none⟩), .int .i64 (p' : Int)] wr.drew fun e w' => e = .returned (.bool false) ∧ w' = wr.drew := hhas.mono fun e w' ⟨r, h1, h2, h3⟩ => ⟨by
            cases r with
            | false => exact h1
            | true => exact absurd (h2.1 rfl) hd, h3⟩
          have HBD : Hid _ := HBw.out.drew
          clear hhas hd
          go_wp2_with fail
          go_region_with (go_at_call 121; refine hh.mono ?_; rintro e w3 ⟨rfl, hw3⟩; subst w3)
          all_goals
            go_wp2
            go_ret
            exact ⟨by rw [HRF.out]; rfl, HBD.out⟩
    · obtain rfl : k = 16 := by omega
      obtain rfl : gk = 0 := by omega
      have HRF : Hid (rootd T 16 p = false) := HR.out
      go_wp2
      go_ret
      exact ⟨by rw [HRF.out]; rfl, HBw.out⟩

end Go.Proofs.YtnfddiabhpandaaGreatDoor.Tr

namespace Go.Proofs.YtnfddiabhpandaaGreatDoor.Tr
open Go.RowKit Go.Lib Go.Deep

theorem fldN (w : World) (a b : Value) : (Instr.field 149 (.agg #[a, b]) 0).run Tryz.prog w = .ok a w := by kernel_rfl
theorem rootd_tk {T : Ts} (h0 : tk T 0) {k p : Nat} (h : rootd T k p = true) : tk T p := by
  cases k with
  | zero => simp [rootd] at h
  | succ k =>
    by_cases hp : p = 0
    · subst hp; exact h0
    · by_cases hd : ∃ d, T.D[p]? = some (some d)
      · exact hd
      · rw [rootd_none hp fun d h => hd ⟨d, h⟩] at h
        cases h
set_option maxRecDepth 20000 in
set_option maxHeartbeats 2000000 in
theorem settleF_any (w : World) (q : Nat) (F : List Nat) (nn : Nat) (T : Ts) (hL : Lay w q F nn T) (kd no p : Nat) (n : ByteArray) (hr : rootd T 16 p = false) :
    Calls Tryz.prog 78 #[.pointer (some ⟨q, 0, none⟩), .agg #[.int .i64 (kd : Int), .int .i64 (no : Int)], .agg #[.int .i64 (p : Int), .string n]] w fun e w' => e = .returned (.bool false) ∧ Below w.heap.size w w' := by
  obtain ⟨W, hW, hb, k0, k1⟩ := two_new w #[.int .i64 (kd : Int), .int .i64 (no : Int)] #[.int .i64 (p : Int), .string n] 149 128
  have HIR : Hid (∀ V, Below W.heap.size W V → Calls Tryz.prog 126 #[.pointer (some ⟨q, 0, none⟩), .agg #[.int .i64 (p : Int), .string n]] V fun e w' => e = .returned (.bool false) ∧ Below V.heap.size V w') := fun V hV => by
    have := isRooted_any V q F nn T ((hL.below hb).below hV) p n
    rw [hr] at this
    exact this
  have HBW : Hid (Below w.heap.size w W) := hb
  have HS0 : Hid (∀ V, Below W.heap.size W V → V.cell? ⟨w.heap.size + 1, 0, none⟩ = some (.int .i64 (p : Int)) ∧ V.cell? ⟨w.heap.size + 1, 1, none⟩ = some (.string n)) := fun V hV => by
    have k := (hV.block _ (heap_lt k1)).trans k1
    exact ⟨(cell_of_heap k).trans rfl, (cell_of_heap k).trans rfl⟩
  clear hL
  clear hb k0 k1 hr
  go_enter Tryz.func78, Tryz.ntmps78
  go_wp2_with fail
  refine wp_region_held_drew (S := fun V => V.cell? ⟨w.heap.size + 1, 0, none⟩ = some (.int .i64 (p : Int)) ∧ V.cell? ⟨w.heap.size + 1, 1, none⟩ = some (.string n)) (by kernel_rfl) (HS0.out _ (Below.refl _ _).drew) ?_
  intro hS
  refine wpAnyH_take (i := 0) (oi := { dst := some 7, op := .move (.tmp 0), type := _, pos := _, after := _, guard := none }) (v := .pointer (some ⟨q, 0, none⟩)) rfl (by kernel_rfl) (by kernel_rfl) (by kernel_rfl) (fun _ _ _ h => h) (Or.inl ⟨by rfl, by intro x _; go_simp⟩) hS ?_
  (try simp only [Act.put, List.setIfInBounds_toArray, List.set_cons_zero, List.set_cons_succ])
  refine wpAnyH_take (i := 1) (oi := { dst := some 8, op := .load 128 (.tmp 5), type := _, pos := _, after := _, guard := none }) (v := .agg #[.int .i64 (p : Int), .string n]) rfl (by kernel_rfl) (by kernel_rfl) (by kernel_rfl) (fun _ _ _ h => h) (Or.inl ⟨by rfl, by intro x hx; have h1 := hx.1; have h2 := hx.2; go_simp⟩) hS ?_
  (try simp only [Act.put, List.setIfInBounds_toArray, List.set_cons_zero, List.set_cons_succ])
  refine wpAnyH_ready (rs := [2]) (by kernel_rfl) (by simp) ?_
  refine AllReadyH.cons (o := { dst := some 9, op := .call { callee := .value (.func 126), args := #[.tmp 7, .tmp 8], argTypes := #[76, 128] }, type := _, pos := _, after := _, guard := none }) rfl (fun K hK => ?_) AllReadyH.nil
  go_simp
  refine (HIR.out _ (Below.refl _ _).drew).mono ?_
  rintro e w6 ⟨rfl, hb6⟩
  have hb46 : Below W.heap.size W w6 := ((Below.refl W.heap.size W).drew).trans hb6
  have HB6 : Hid _ := hb46
  replace hS := HS0.out _ hb46
  clear hb6 hb46
  refine hK.out _ _ hS (fun _ => ?_)
  clear hK K
  (try simp only [Act.put, List.setIfInBounds_toArray, List.set_cons_zero, List.set_cons_succ])
  refine wpAnyH_take (i := 3) (oi := { dst := some 10, op := .unOp .not 4 (.tmp 9), type := _, pos := _, after := _, guard := none }) (v := .bool true) rfl (by kernel_rfl) (by kernel_rfl) (by kernel_rfl) (fun _ _ _ h => h) (Or.inl ⟨by rfl, by intro x _; go_simp⟩) hS ?_
  (try simp only [Act.put, List.setIfInBounds_toArray, List.set_cons_zero, List.set_cons_succ])
  refine wpAnyH_take (i := 4) (oi := { dst := some 11, op := .move (.tmp 10), type := _, pos := _, after := _, guard := none }) (v := .bool true) rfl (by kernel_rfl) (by kernel_rfl) (by kernel_rfl) (fun _ _ _ h => h) (Or.inl ⟨by rfl, by intro x _; go_simp⟩) hS ?_
  (try simp only [Act.put, List.setIfInBounds_toArray, List.set_cons_zero, List.set_cons_succ])
  refine wpAnyH_take (i := 5) (oi := { dst := some 12, op := .move (.tmp 0), type := _, pos := _, after := _, guard := some (4, false) }) (v := undef) rfl (by kernel_rfl) (by kernel_rfl) (by kernel_rfl) (fun _ _ _ h => h) (Or.inr ⟨by rfl, rfl⟩) hS ?_
  (try simp only [Act.put, List.setIfInBounds_toArray, List.set_cons_zero, List.set_cons_succ])
  refine wpAnyH_take (i := 6) (oi := { dst := some 13, op := .fieldAddr 128 (.tmp 5) 0, type := _, pos := _, after := _, guard := some (4, false) }) (v := undef) rfl (by kernel_rfl) (by kernel_rfl) (by kernel_rfl) (fun _ _ _ h => h) (Or.inr ⟨by rfl, rfl⟩) hS ?_
  (try simp only [Act.put, List.setIfInBounds_toArray, List.set_cons_zero, List.set_cons_succ])
  refine wpAnyH_take (i := 7) (oi := { dst := some 14, op := .load 3 (.tmp 13), type := _, pos := _, after := _, guard := some (4, false) }) (v := undef) rfl (by kernel_rfl) (by kernel_rfl) (by kernel_rfl) (fun _ _ _ h => h) (Or.inr ⟨by rfl, rfl⟩) hS ?_
  (try simp only [Act.put, List.setIfInBounds_toArray, List.set_cons_zero, List.set_cons_succ])
  refine wpAnyH_take (i := 8) (oi := { dst := some 15, op := .call { callee := .value (.func 127), args := #[.tmp 12, .tmp 14], argTypes := #[76, 3] }, type := _, pos := _, after := _, guard := some (4, false) }) (v := undef) rfl (by kernel_rfl) (by kernel_rfl) (by kernel_rfl) (fun _ _ _ h => h) (Or.inr ⟨by rfl, rfl⟩) hS ?_
  (try simp only [Act.put, List.setIfInBounds_toArray, List.set_cons_zero, List.set_cons_succ])
  refine wpAnyH_take (i := 9) (oi := { dst := some 16, op := .fieldAddr 128 (.tmp 5) 1, type := _, pos := _, after := _, guard := some (4, false) }) (v := undef) rfl (by kernel_rfl) (by kernel_rfl) (by kernel_rfl) (fun _ _ _ h => h) (Or.inr ⟨by rfl, rfl⟩) hS ?_
  (try simp only [Act.put, List.setIfInBounds_toArray, List.set_cons_zero, List.set_cons_succ])
  refine wpAnyH_take (i := 10) (oi := { dst := some 17, op := .load 9 (.tmp 16), type := _, pos := _, after := _, guard := some (4, false) }) (v := undef) rfl (by kernel_rfl) (by kernel_rfl) (by kernel_rfl) (fun _ _ _ h => h) (Or.inr ⟨by rfl, rfl⟩) hS ?_
  (try simp only [Act.put, List.setIfInBounds_toArray, List.set_cons_zero, List.set_cons_succ])
  refine wpAnyH_take (i := 11) (oi := { dst := some 18, op := .lookup 129 (.tmp 15) (.tmp 17) false, type := _, pos := _, after := _, guard := some (4, false) }) (v := undef) rfl (by kernel_rfl) (by kernel_rfl) (by kernel_rfl) (fun _ _ _ h => h) (Or.inr ⟨by rfl, rfl⟩) hS ?_
  (try simp only [Act.put, List.setIfInBounds_toArray, List.set_cons_zero, List.set_cons_succ])
  refine wpAnyH_take (i := 12) (oi := { dst := some 19, op := .field 149 (.tmp 18) 0, type := _, pos := _, after := _, guard := some (4, false) }) (v := undef) rfl (by kernel_rfl) (by kernel_rfl) (by kernel_rfl) (fun _ _ _ h => h) (Or.inr ⟨by rfl, rfl⟩) hS ?_
  (try simp only [Act.put, List.setIfInBounds_toArray, List.set_cons_zero, List.set_cons_succ])
  refine wpAnyH_take (i := 13) (oi := { dst := some 20, op := .binOp .neq 3 (.tmp 19) (.const (.int .i64 0)) 3, type := _, pos := _, after := _, guard := some (4, false) }) (v := undef) rfl (by kernel_rfl) (by kernel_rfl) (by kernel_rfl) (fun _ _ _ h => h) (Or.inr ⟨by rfl, rfl⟩) hS ?_
  (try simp only [Act.put, List.setIfInBounds_toArray, List.set_cons_zero, List.set_cons_succ])
  refine wpAnyH_take (i := 14) (oi := { dst := some 21, op := .pick (.tmp 11) (.const (.bool true)) (.tmp 20), type := _, pos := _, after := _, guard := none }) (v := .bool true) rfl (by kernel_rfl) (by kernel_rfl) (by kernel_rfl) (fun _ _ _ h => h) (Or.inl ⟨by rfl, by intro x _; go_simp⟩) hS ?_
  (try simp only [Act.put, List.setIfInBounds_toArray, List.set_cons_zero, List.set_cons_succ])
  refine wpAnyH_done (by kernel_rfl) ?_ _
  clear hS
  go_wp2
  go_ret
  exact ⟨rfl, below_on HB6.out HBW.out⟩
set_option maxRecDepth 20000 in
set_option maxHeartbeats 2000000 in
theorem settleT_any (w : World) (q : Nat) (F : List Nat) (nn : Nat) (T : Ts) (hL : Lay w q F nn T) (kd no p : Nat) (n : ByteArray) (h0 : tk T 0) (hn : n.size ≤ maxLen) (hr : rootd T 16 p = true) (v : Nat × Nat) (hv : T.M p (ky n) = some v) (hv0 : v.1 ≠ 0) :
    Calls Tryz.prog 78 #[.pointer (some ⟨q, 0, none⟩), .agg #[.int .i64 (kd : Int), .int .i64 (no : Int)], .agg #[.int .i64 (p : Int), .string n]] w fun e w' => e = .returned (.bool false) ∧ Below w.heap.size w w' := by
  obtain ⟨W, hW, hb, k0, k1⟩ := two_new w #[.int .i64 (kd : Int), .int .i64 (no : Int)] #[.int .i64 (p : Int), .string n] 149 128
  have HIR : Hid (∀ V, Below W.heap.size W V → Calls Tryz.prog 126 #[.pointer (some ⟨q, 0, none⟩), .agg #[.int .i64 (p : Int), .string n]] V fun e w' => e = .returned (.bool true) ∧ Below V.heap.size V w') := fun V hV => by
    have := isRooted_any V q F nn T ((hL.below hb).below hV) p n
    rw [hr] at this
    exact this
  have HBW : Hid (Below w.heap.size w W) := hb
  obtain ⟨dv, fv, ld, lf, ms, hFe, hI⟩ := hL
  have HLW : Hid (Lay w q F nn T) := ⟨dv, fv, ld, lf, ms, hFe, hI⟩
  have htk := rootd_tk h0 hr
  obtain ⟨d, hd⟩ := htk
  have HIN : Hid (∀ V, Below W.heap.size W V → Calls Tryz.prog 127 #[.pointer (some ⟨q, 0, none⟩), .int .i64 (p : Int)] V fun e w' => e = .returned (.map (some (ms p))) ∧ Below V.heap.size V w') := fun V hV => inside_any V q dv fv ld lf ms nn T ((hI.below hb).below hV) p d hd
  have HS0 : Hid (∀ V, Below W.heap.size W V → V.cell? ⟨w.heap.size + 1, 0, none⟩ = some (.int .i64 (p : Int)) ∧ V.cell? ⟨w.heap.size + 1, 1, none⟩ = some (.string n) ∧ (Instr.lookup 129 (.map (some (ms p))) (.string n) false).run Tryz.prog V = .ok (.agg #[.int .i64 ((v).1 : Int), .int .i64 ((v).2 : Int)]) V) := fun V hV => by
    have k := (hV.block _ (heap_lt k1)).trans k1
    refine ⟨(cell_of_heap k).trans rfl, (cell_of_heap k).trans rfl, ?_⟩
    obtain ⟨Dt, hm, hT⟩ := ((hI.below hb).below hV).hm p d hd
    have hlo := look_any hm hT n hn
    rw [hv] at hlo
    exact hlo
  obtain ⟨k2, n2⟩ := v
  simp only at HS0 hv0
  have hkI : ((k2 : Int) != 0) = true := by simpa using hv0
  generalize ms p = m at *
  clear hI hFe hd h0 hv
  clear hb k0 k1 hr
  go_enter Tryz.func78, Tryz.ntmps78
  go_wp2_with fail
  refine wp_region_held_drew (S := fun V => V.cell? ⟨w.heap.size + 1, 0, none⟩ = some (.int .i64 (p : Int)) ∧ V.cell? ⟨w.heap.size + 1, 1, none⟩ = some (.string n) ∧ (Instr.lookup 129 (.map (some m)) (.string n) false).run Tryz.prog V = .ok (.agg #[.int .i64 (k2 : Int), .int .i64 (n2 : Int)]) V) (by kernel_rfl) (HS0.out _ (Below.refl _ _).drew) ?_
  intro hS
  refine wpAnyH_take (i := 0) (oi := { dst := some 7, op := .move (.tmp 0), type := _, pos := _, after := _, guard := none }) (v := .pointer (some ⟨q, 0, none⟩)) rfl (by kernel_rfl) (by kernel_rfl) (by kernel_rfl) (fun _ _ _ h => h) (Or.inl ⟨by rfl, by intro x _; go_simp⟩) hS ?_
  (try simp only [Act.put, List.setIfInBounds_toArray, List.set_cons_zero, List.set_cons_succ])
  refine wpAnyH_take (i := 1) (oi := { dst := some 8, op := .load 128 (.tmp 5), type := _, pos := _, after := _, guard := none }) (v := .agg #[.int .i64 (p : Int), .string n]) rfl (by kernel_rfl) (by kernel_rfl) (by kernel_rfl) (fun _ _ _ h => h) (Or.inl ⟨by rfl, by intro x hx; have h1 := hx.1; have h2 := hx.2.1; go_simp⟩) hS ?_
  (try simp only [Act.put, List.setIfInBounds_toArray, List.set_cons_zero, List.set_cons_succ])
  refine wpAnyH_ready (rs := [2]) (by kernel_rfl) (by simp) ?_
  refine AllReadyH.cons (o := { dst := some 9, op := .call { callee := .value (.func 126), args := #[.tmp 7, .tmp 8], argTypes := #[76, 128] }, type := _, pos := _, after := _, guard := none }) rfl (fun K hK => ?_) AllReadyH.nil
  go_simp
  refine (HIR.out _ (Below.refl _ _).drew).mono ?_
  rintro e w6 ⟨rfl, hb6⟩
  have hb46 : Below W.heap.size W w6 := ((Below.refl W.heap.size W).drew).trans hb6
  have HB6 : Hid _ := hb46
  replace hS := HS0.out _ hb46
  clear hb6 hb46
  refine hK.out _ _ hS (fun _ => ?_)
  clear hK K
  (try simp only [Act.put, List.setIfInBounds_toArray, List.set_cons_zero, List.set_cons_succ])
  refine wpAnyH_take (i := 3) (oi := { dst := some 10, op := .unOp .not 4 (.tmp 9), type := _, pos := _, after := _, guard := none }) (v := .bool false) rfl (by kernel_rfl) (by kernel_rfl) (by kernel_rfl) (fun _ _ _ h => h) (Or.inl ⟨by rfl, by intro x _; go_simp⟩) hS ?_
  (try simp only [Act.put, List.setIfInBounds_toArray, List.set_cons_zero, List.set_cons_succ])
  refine wpAnyH_take (i := 4) (oi := { dst := some 11, op := .move (.tmp 10), type := _, pos := _, after := _, guard := none }) (v := .bool false) rfl (by kernel_rfl) (by kernel_rfl) (by kernel_rfl) (fun _ _ _ h => h) (Or.inl ⟨by rfl, by intro x _; go_simp⟩) hS ?_
  (try simp only [Act.put, List.setIfInBounds_toArray, List.set_cons_zero, List.set_cons_succ])
  refine wpAnyH_take (i := 5) (oi := { dst := some 12, op := .move (.tmp 0), type := _, pos := _, after := _, guard := some (4, false) }) (v := .pointer (some ⟨q, 0, none⟩)) rfl (by kernel_rfl) (by kernel_rfl) (by kernel_rfl) (fun _ _ _ h => h) (Or.inl ⟨by rfl, by intro x _; go_simp⟩) hS ?_
  (try simp only [Act.put, List.setIfInBounds_toArray, List.set_cons_zero, List.set_cons_succ])
  refine wpAnyH_take (i := 6) (oi := { dst := some 13, op := .fieldAddr 128 (.tmp 5) 0, type := _, pos := _, after := _, guard := some (4, false) }) (v := .pointer (some ⟨(w.heap.size + 1), 0, none⟩)) rfl (by kernel_rfl) (by kernel_rfl) (by kernel_rfl) (fun _ _ _ h => h) (Or.inl ⟨by rfl, by intro x _; go_simp⟩) hS ?_
  (try simp only [Act.put, List.setIfInBounds_toArray, List.set_cons_zero, List.set_cons_succ])
  refine wpAnyH_take (i := 7) (oi := { dst := some 14, op := .load 3 (.tmp 13), type := _, pos := _, after := _, guard := some (4, false) }) (v := .int .i64 (p : Int)) rfl (by kernel_rfl) (by kernel_rfl) (by kernel_rfl) (fun _ _ _ h => h) (Or.inl ⟨by rfl, by intro x hx; have h1 := hx.1; go_simp⟩) hS ?_
  (try simp only [Act.put, List.setIfInBounds_toArray, List.set_cons_zero, List.set_cons_succ])
  refine wpAnyH_take (i := 9) (oi := { dst := some 16, op := .fieldAddr 128 (.tmp 5) 1, type := _, pos := _, after := _, guard := some (4, false) }) (v := .pointer (some ⟨(w.heap.size + 1), 1, none⟩)) rfl (by kernel_rfl) (by kernel_rfl) (by kernel_rfl) (fun _ _ _ h => h) (Or.inl ⟨by rfl, by intro x _; go_simp⟩) hS ?_
  (try simp only [Act.put, List.setIfInBounds_toArray, List.set_cons_zero, List.set_cons_succ])
  refine wpAnyH_take (i := 10) (oi := { dst := some 17, op := .load 9 (.tmp 16), type := _, pos := _, after := _, guard := some (4, false) }) (v := .string n) rfl (by kernel_rfl) (by kernel_rfl) (by kernel_rfl) (fun _ _ _ h => h) (Or.inl ⟨by rfl, by intro x hx; have h1 := hx.2.1; go_simp⟩) hS ?_
  (try simp only [Act.put, List.setIfInBounds_toArray, List.set_cons_zero, List.set_cons_succ])
  refine wpAnyH_ready (rs := [8]) (by kernel_rfl) (by simp) ?_
  refine AllReadyH.cons (o := { dst := some 15, op := .call { callee := .value (.func 127), args := #[.tmp 12, .tmp 14], argTypes := #[76, 3] }, type := _, pos := _, after := _, guard := some (4, false) }) rfl (fun K hK => ?_) AllReadyH.nil
  go_simp
  refine (HIN.out _ HB6.out).mono ?_
  rintro e w7 ⟨rfl, hb7⟩
  have hb67 : Below W.heap.size W w7 := below_on hb7 HB6.out
  have HB7 : Hid _ := hb67
  replace hS := HS0.out _ hb67
  clear hb7 hb67
  refine hK.out _ _ hS (fun _ => ?_)
  clear hK K
  (try simp only [Act.put, List.setIfInBounds_toArray, List.set_cons_zero, List.set_cons_succ])
  refine wpAnyH_take (i := 11) (oi := { dst := some 18, op := .lookup 129 (.tmp 15) (.tmp 17) false, type := _, pos := _, after := _, guard := some (4, false) }) (v := .agg #[.int .i64 (k2 : Int), .int .i64 (n2 : Int)]) rfl (by kernel_rfl) (by kernel_rfl) (by kernel_rfl) (fun _ _ _ h => h) (Or.inl ⟨by rfl, by intro x hx; have h1 := hx.2.2; go_simp⟩) hS ?_
  (try simp only [Act.put, List.setIfInBounds_toArray, List.set_cons_zero, List.set_cons_succ])
  refine wpAnyH_take (i := 12) (oi := { dst := some 19, op := .field 149 (.tmp 18) 0, type := _, pos := _, after := _, guard := some (4, false) }) (v := .int .i64 (k2 : Int)) rfl (by kernel_rfl) (by kernel_rfl) (by kernel_rfl) (fun _ _ _ h => h) (Or.inl ⟨by rfl, by intro x _; have h1 := fldN x (.int .i64 (k2 : Int)) (.int .i64 (n2 : Int)); go_simp⟩) hS ?_
  (try simp only [Act.put, List.setIfInBounds_toArray, List.set_cons_zero, List.set_cons_succ])
  refine wpAnyH_take (i := 13) (oi := { dst := some 20, op := .binOp .neq 3 (.tmp 19) (.const (.int .i64 0)) 3, type := _, pos := _, after := _, guard := some (4, false) }) (v := .bool true) rfl (by kernel_rfl) (by kernel_rfl) (by kernel_rfl) (fun _ _ _ h => h) (Or.inl ⟨by rfl, by intro x _; go_simp⟩) hS ?_
  (try simp only [Act.put, List.setIfInBounds_toArray, List.set_cons_zero, List.set_cons_succ])
  refine wpAnyH_take (i := 14) (oi := { dst := some 21, op := .pick (.tmp 11) (.const (.bool true)) (.tmp 20), type := _, pos := _, after := _, guard := none }) (v := .bool true) rfl (by kernel_rfl) (by kernel_rfl) (by kernel_rfl) (fun _ _ _ h => h) (Or.inl ⟨by rfl, by intro x _; go_simp⟩) hS ?_
  (try simp only [Act.put, List.setIfInBounds_toArray, List.set_cons_zero, List.set_cons_succ])
  refine wpAnyH_done (by kernel_rfl) ?_ _
  clear hS
  go_wp2
  go_ret
  exact ⟨rfl, below_on HB7.out HBW.out⟩
set_option maxRecDepth 20000 in
set_option maxHeartbeats 2000000 in
theorem settleN_any (w : World) (q : Nat) (F : List Nat) (nn : Nat) (T : Ts) (hL : Lay w q F nn T) (kd no p : Nat) (n : ByteArray) (h0 : tk T 0) (hn : n.size ≤ maxLen) (hnn : nn < maxLen) (hr : rootd T 16 p = true) (hv : T.M p (ky n) = none) :
    Calls Tryz.prog 78 #[.pointer (some ⟨q, 0, none⟩), .agg #[.int .i64 (kd : Int), .int .i64 (no : Int)], .agg #[.int .i64 (p : Int), .string n]] w fun e w' => e = .returned (.bool true) ∧ Turn F w w' q (nn + 1) (hangT T p n (some (kd, no))) := by
  obtain ⟨W, hW, hb, k0, k1⟩ := two_new w #[.int .i64 (kd : Int), .int .i64 (no : Int)] #[.int .i64 (p : Int), .string n] 149 128
  have HIR : Hid (∀ V, Below W.heap.size W V → Calls Tryz.prog 126 #[.pointer (some ⟨q, 0, none⟩), .agg #[.int .i64 (p : Int), .string n]] V fun e w' => e = .returned (.bool true) ∧ Below V.heap.size V w') := fun V hV => by
    have := isRooted_any V q F nn T ((hL.below hb).below hV) p n
    rw [hr] at this
    exact this
  have HBW : Hid (Below w.heap.size w W) := hb
  obtain ⟨dv, fv, ld, lf, ms, hFe, hI⟩ := hL
  have HLW : Hid (Lay w q F nn T) := ⟨dv, fv, ld, lf, ms, hFe, hI⟩
  have htk := rootd_tk h0 hr
  obtain ⟨d, hd⟩ := htk
  have HIN : Hid (∀ V, Below W.heap.size W V → Calls Tryz.prog 127 #[.pointer (some ⟨q, 0, none⟩), .int .i64 (p : Int)] V fun e w' => e = .returned (.map (some (ms p))) ∧ Below V.heap.size V w') := fun V hV => inside_any V q dv fv ld lf ms nn T ((hI.below hb).below hV) p d hd
  have HS0 : Hid (∀ V, Below W.heap.size W V → V.cell? ⟨w.heap.size + 1, 0, none⟩ = some (.int .i64 (p : Int)) ∧ V.cell? ⟨w.heap.size + 1, 1, none⟩ = some (.string n) ∧ (Instr.lookup 129 (.map (some (ms p))) (.string n) false).run Tryz.prog V = .ok (.agg #[.int .i64 ((((0, 0) : Nat × Nat)).1 : Int), .int .i64 ((((0, 0) : Nat × Nat)).2 : Int)]) V) := fun V hV => by
    have k := (hV.block _ (heap_lt k1)).trans k1
    refine ⟨(cell_of_heap k).trans rfl, (cell_of_heap k).trans rfl, ?_⟩
    obtain ⟨Dt, hm, hT⟩ := ((hI.below hb).below hV).hm p d hd
    have hlo := look_any hm hT n hn
    rw [hv] at hlo
    exact hlo
  have HKW : Hid (∀ V, Below W.heap.size W V → V.heap[w.heap.size]? = some (.cells #[.int .i64 (kd : Int), .int .i64 (no : Int)] 149 (0, 0)) ∧ V.heap[w.heap.size + 1]? = some (.cells #[.int .i64 (p : Int), .string n] 128 (0, 0))) := fun V hV => ⟨(hV.block _ (heap_lt k0)).trans k0, (hV.block _ (heap_lt k1)).trans k1⟩
  have HHG : Hid (∀ V, Below W.heap.size W V → Calls Tryz.prog 128 #[.pointer (some ⟨q, 0, none⟩), .agg #[.int .i64 (kd : Int), .int .i64 (no : Int)], .agg #[.int .i64 (p : Int), .string n]] V fun e w' => e = .returned (.tuple #[]) ∧ Turn F w w' q (nn + 1) (hangT T p n (some (kd, no)))) := fun V hV => by
    have hbV : Below w.heap.size w V := below_on hV hb
    refine (hang_any V q F nn T (HLW.out.below hbV) p n kd no ⟨d, hd⟩ hn hnn).mono ?_
    rintro e w' ⟨h1, h2⟩
    exact ⟨h1, Turn.ahead hbV h2⟩
  obtain ⟨k2, hk2⟩ : ∃ k2 : Nat, (0 : Nat) = k2 := ⟨_, rfl⟩
  obtain ⟨n2, hn2⟩ : ∃ n2 : Nat, (0 : Nat) = n2 := ⟨_, rfl⟩
  have hkI : ((k2 : Int) != 0) = false := by simp [← hk2]
  have HS0 : Hid (∀ V, Below W.heap.size W V → V.cell? ⟨w.heap.size + 1, 0, none⟩ = some (.int .i64 (p : Int)) ∧ V.cell? ⟨w.heap.size + 1, 1, none⟩ = some (.string n) ∧ (Instr.lookup 129 (.map (some (ms p))) (.string n) false).run Tryz.prog V = .ok (.agg #[.int .i64 (k2 : Int), .int .i64 (n2 : Int)]) V) := fun V hV => by
    rw [← hk2, ← hn2]
    exact HS0.out V hV
  clear hk2 hn2
  generalize ms p = m at *
  clear hI hFe hd h0 hv
  clear hb k0 k1 hr
  go_enter Tryz.func78, Tryz.ntmps78
  go_wp2_with fail
  refine wp_region_held_drew (S := fun V => V.cell? ⟨w.heap.size + 1, 0, none⟩ = some (.int .i64 (p : Int)) ∧ V.cell? ⟨w.heap.size + 1, 1, none⟩ = some (.string n) ∧ (Instr.lookup 129 (.map (some m)) (.string n) false).run Tryz.prog V = .ok (.agg #[.int .i64 (k2 : Int), .int .i64 (n2 : Int)]) V) (by kernel_rfl) (HS0.out _ (Below.refl _ _).drew) ?_
  intro hS
  refine wpAnyH_take (i := 0) (oi := { dst := some 7, op := .move (.tmp 0), type := _, pos := _, after := _, guard := none }) (v := .pointer (some ⟨q, 0, none⟩)) rfl (by kernel_rfl) (by kernel_rfl) (by kernel_rfl) (fun _ _ _ h => h) (Or.inl ⟨by rfl, by intro x _; go_simp⟩) hS ?_
  (try simp only [Act.put, List.setIfInBounds_toArray, List.set_cons_zero, List.set_cons_succ])
  refine wpAnyH_take (i := 1) (oi := { dst := some 8, op := .load 128 (.tmp 5), type := _, pos := _, after := _, guard := none }) (v := .agg #[.int .i64 (p : Int), .string n]) rfl (by kernel_rfl) (by kernel_rfl) (by kernel_rfl) (fun _ _ _ h => h) (Or.inl ⟨by rfl, by intro x hx; have h1 := hx.1; have h2 := hx.2.1; go_simp⟩) hS ?_
  (try simp only [Act.put, List.setIfInBounds_toArray, List.set_cons_zero, List.set_cons_succ])
  refine wpAnyH_ready (rs := [2]) (by kernel_rfl) (by simp) ?_
  refine AllReadyH.cons (o := { dst := some 9, op := .call { callee := .value (.func 126), args := #[.tmp 7, .tmp 8], argTypes := #[76, 128] }, type := _, pos := _, after := _, guard := none }) rfl (fun K hK => ?_) AllReadyH.nil
  go_simp
  refine (HIR.out _ (Below.refl _ _).drew).mono ?_
  rintro e w6 ⟨rfl, hb6⟩
  have hb46 : Below W.heap.size W w6 := ((Below.refl W.heap.size W).drew).trans hb6
  have HB6 : Hid _ := hb46
  replace hS := HS0.out _ hb46
  clear hb6 hb46
  refine hK.out _ _ hS (fun _ => ?_)
  clear hK K
  (try simp only [Act.put, List.setIfInBounds_toArray, List.set_cons_zero, List.set_cons_succ])
  refine wpAnyH_take (i := 3) (oi := { dst := some 10, op := .unOp .not 4 (.tmp 9), type := _, pos := _, after := _, guard := none }) (v := .bool false) rfl (by kernel_rfl) (by kernel_rfl) (by kernel_rfl) (fun _ _ _ h => h) (Or.inl ⟨by rfl, by intro x _; go_simp⟩) hS ?_
  (try simp only [Act.put, List.setIfInBounds_toArray, List.set_cons_zero, List.set_cons_succ])
  refine wpAnyH_take (i := 4) (oi := { dst := some 11, op := .move (.tmp 10), type := _, pos := _, after := _, guard := none }) (v := .bool false) rfl (by kernel_rfl) (by kernel_rfl) (by kernel_rfl) (fun _ _ _ h => h) (Or.inl ⟨by rfl, by intro x _; go_simp⟩) hS ?_
  (try simp only [Act.put, List.setIfInBounds_toArray, List.set_cons_zero, List.set_cons_succ])
  refine wpAnyH_take (i := 5) (oi := { dst := some 12, op := .move (.tmp 0), type := _, pos := _, after := _, guard := some (4, false) }) (v := .pointer (some ⟨q, 0, none⟩)) rfl (by kernel_rfl) (by kernel_rfl) (by kernel_rfl) (fun _ _ _ h => h) (Or.inl ⟨by rfl, by intro x _; go_simp⟩) hS ?_
  (try simp only [Act.put, List.setIfInBounds_toArray, List.set_cons_zero, List.set_cons_succ])
  refine wpAnyH_take (i := 6) (oi := { dst := some 13, op := .fieldAddr 128 (.tmp 5) 0, type := _, pos := _, after := _, guard := some (4, false) }) (v := .pointer (some ⟨(w.heap.size + 1), 0, none⟩)) rfl (by kernel_rfl) (by kernel_rfl) (by kernel_rfl) (fun _ _ _ h => h) (Or.inl ⟨by rfl, by intro x _; go_simp⟩) hS ?_
  (try simp only [Act.put, List.setIfInBounds_toArray, List.set_cons_zero, List.set_cons_succ])
  refine wpAnyH_take (i := 7) (oi := { dst := some 14, op := .load 3 (.tmp 13), type := _, pos := _, after := _, guard := some (4, false) }) (v := .int .i64 (p : Int)) rfl (by kernel_rfl) (by kernel_rfl) (by kernel_rfl) (fun _ _ _ h => h) (Or.inl ⟨by rfl, by intro x hx; have h1 := hx.1; go_simp⟩) hS ?_
  (try simp only [Act.put, List.setIfInBounds_toArray, List.set_cons_zero, List.set_cons_succ])
  refine wpAnyH_take (i := 9) (oi := { dst := some 16, op := .fieldAddr 128 (.tmp 5) 1, type := _, pos := _, after := _, guard := some (4, false) }) (v := .pointer (some ⟨(w.heap.size + 1), 1, none⟩)) rfl (by kernel_rfl) (by kernel_rfl) (by kernel_rfl) (fun _ _ _ h => h) (Or.inl ⟨by rfl, by intro x _; go_simp⟩) hS ?_
  (try simp only [Act.put, List.setIfInBounds_toArray, List.set_cons_zero, List.set_cons_succ])
  refine wpAnyH_take (i := 10) (oi := { dst := some 17, op := .load 9 (.tmp 16), type := _, pos := _, after := _, guard := some (4, false) }) (v := .string n) rfl (by kernel_rfl) (by kernel_rfl) (by kernel_rfl) (fun _ _ _ h => h) (Or.inl ⟨by rfl, by intro x hx; have h1 := hx.2.1; go_simp⟩) hS ?_
  (try simp only [Act.put, List.setIfInBounds_toArray, List.set_cons_zero, List.set_cons_succ])
  refine wpAnyH_ready (rs := [8]) (by kernel_rfl) (by simp) ?_
  refine AllReadyH.cons (o := { dst := some 15, op := .call { callee := .value (.func 127), args := #[.tmp 12, .tmp 14], argTypes := #[76, 3] }, type := _, pos := _, after := _, guard := some (4, false) }) rfl (fun K hK => ?_) AllReadyH.nil
  go_simp
  refine (HIN.out _ HB6.out).mono ?_
  rintro e w7 ⟨rfl, hb7⟩
  have hb67 : Below W.heap.size W w7 := below_on hb7 HB6.out
  have HB7 : Hid _ := hb67
  replace hS := HS0.out _ hb67
  clear hb7 hb67
  refine hK.out _ _ hS (fun _ => ?_)
  clear hK K
  (try simp only [Act.put, List.setIfInBounds_toArray, List.set_cons_zero, List.set_cons_succ])
  refine wpAnyH_take (i := 11) (oi := { dst := some 18, op := .lookup 129 (.tmp 15) (.tmp 17) false, type := _, pos := _, after := _, guard := some (4, false) }) (v := .agg #[.int .i64 (k2 : Int), .int .i64 (n2 : Int)]) rfl (by kernel_rfl) (by kernel_rfl) (by kernel_rfl) (fun _ _ _ h => h) (Or.inl ⟨by rfl, by intro x hx; have h1 := hx.2.2; go_simp⟩) hS ?_
  (try simp only [Act.put, List.setIfInBounds_toArray, List.set_cons_zero, List.set_cons_succ])
  refine wpAnyH_take (i := 12) (oi := { dst := some 19, op := .field 149 (.tmp 18) 0, type := _, pos := _, after := _, guard := some (4, false) }) (v := .int .i64 (k2 : Int)) rfl (by kernel_rfl) (by kernel_rfl) (by kernel_rfl) (fun _ _ _ h => h) (Or.inl ⟨by rfl, by intro x _; have h1 := fldN x (.int .i64 (k2 : Int)) (.int .i64 (n2 : Int)); go_simp⟩) hS ?_
  (try simp only [Act.put, List.setIfInBounds_toArray, List.set_cons_zero, List.set_cons_succ])
  refine wpAnyH_take (i := 13) (oi := { dst := some 20, op := .binOp .neq 3 (.tmp 19) (.const (.int .i64 0)) 3, type := _, pos := _, after := _, guard := some (4, false) }) (v := .bool false) rfl (by kernel_rfl) (by kernel_rfl) (by kernel_rfl) (fun _ _ _ h => h) (Or.inl ⟨by rfl, by intro x _; go_simp⟩) hS ?_
  (try simp only [Act.put, List.setIfInBounds_toArray, List.set_cons_zero, List.set_cons_succ])
  refine wpAnyH_take (i := 14) (oi := { dst := some 21, op := .pick (.tmp 11) (.const (.bool true)) (.tmp 20), type := _, pos := _, after := _, guard := none }) (v := .bool false) rfl (by kernel_rfl) (by kernel_rfl) (by kernel_rfl) (fun _ _ _ h => h) (Or.inl ⟨by rfl, by intro x _; go_simp⟩) hS ?_
  (try simp only [Act.put, List.setIfInBounds_toArray, List.set_cons_zero, List.set_cons_succ])
  refine wpAnyH_done (by kernel_rfl) ?_ _
  clear hS
  obtain ⟨j0, j1⟩ := HKW.out _ HB7.out
  have x0 : w7.cell? ⟨w.heap.size, 0, none⟩ = some (.int .i64 (kd : Int)) := (cell_of_heap j0).trans rfl
  have x1 : w7.cell? ⟨w.heap.size, 1, none⟩ = some (.int .i64 (no : Int)) := (cell_of_heap j0).trans rfl
  have y0 : w7.cell? ⟨w.heap.size + 1, 0, none⟩ = some (.int .i64 (p : Int)) := (cell_of_heap j1).trans rfl
  have y1 : w7.cell? ⟨w.heap.size + 1, 1, none⟩ = some (.string n) := (cell_of_heap j1).trans rfl
  have hhg := HHG.out _ HB7.out
  clear j0 j1
  go_wp2_with fail
  refine hhg.mono ?_
  rintro e w8 ⟨rfl, ht8⟩
  have HT8 : Hid _ := ht8
  clear ht8
  go_wp2
  go_ret
  exact ⟨rfl, HT8.out⟩

end Go.Proofs.YtnfddiabhpandaaGreatDoor.Tr
