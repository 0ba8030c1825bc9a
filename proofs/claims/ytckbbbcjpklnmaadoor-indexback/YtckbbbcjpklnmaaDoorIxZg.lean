import Derived.Test.YtckbbbcjpklnmaaDoorIxZf
import Derived.Test.YtckbbbcjpklnmaaDoorIxN2
import Derived.Deep.DeepCutAuto
namespace Go.Proofs.YtckbbbcjpklnmaaDoor.Ix
open Go.RowKit Go.Lib Go.Deep
set_option maxRecDepth 20000 in
set_option maxHeartbeats 4000000 in
/-- nothing is read of what are no bodies of pages -/
theorem unread_any (sl fl dr mf ls pg : Nat) (hc : Cn.May ⟨sl, fl, dr, mf, ls, pg⟩) (P : List ByteArray) (hab : abB ⟨sl, fl, dr, mf, ls, pg⟩ P = false) (w : World) (hT : RT w) (b off n k : Nat) (hS0 : See w 1 (.slice (some ⟨b, off, none⟩) n k) n (scC P)) (hn : P.length = n) (hnb : n ≤ 100000) :
    Calls Tryd.prog 33 #[.agg #[.int .i64 (sl : Int), .int .i64 (fl : Int), .int .i64 (dr : Int), .int .i64 (mf : Int), .int .i64 (ls : Int), .int .i64 (pg : Int)], .slice (some ⟨b, off, none⟩) n k] w fun e w' => e = .returned (.bool true) ∧ Below w.heap.size w w' := by
  obtain ⟨i0, hi, hz0, hz1, hz2⟩ := info_parts info9
  obtain ⟨V0, hV, hbV, g0⟩ := one_new w #[.int .i64 (sl : Int), .int .i64 (fl : Int), .int .i64 (dr : Int), .int .i64 (mf : Int), .int .i64 (ls : Int), .int .i64 (pg : Int)] 23
  have HCD : Hid (∀ X, Below V0.heap.size V0 X → X.cell? ⟨w.heap.size, 0, none⟩ = some (.int .i64 (sl : Int)) ∧ X.cell? ⟨w.heap.size, 1, none⟩ = some (.int .i64 (fl : Int)) ∧ X.cell? ⟨w.heap.size, 2, none⟩ = some (.int .i64 (dr : Int)) ∧ X.cell? ⟨w.heap.size, 3, none⟩ = some (.int .i64 (mf : Int)) ∧ X.cell? ⟨w.heap.size, 4, none⟩ = some (.int .i64 (ls : Int)) ∧ X.cell? ⟨w.heap.size, 5, none⟩ = some (.int .i64 (pg : Int))) := fun X hX => cells6 ((hX.block _ (heap_lt g0)).trans g0)
  have HW : Hid (∀ X, Below V0.heap.size V0 X → Below w.heap.size w X) := fun X hX => below_on hX hbV
  have KD : Hid (∀ X, Below V0.heap.size V0 X → ∀ a9 c9, See X 1 (.slice a9 n c9) n (scC P) → _) := fun X hX a9 c9 h9 => decode_cut sl fl dr mf ls pg hc P hab X (hT.next (below_on hX hbV)) a9 n c9 h9 hn (by omega)
  have HPl : Hid ((scC P).length = n * 1) := by
    show (scC P).length = n * 1
    rw [scC, List.length_map, hn, Nat.mul_one]
  have HPC : Hid (∀ X, Below V0.heap.size V0 X → ∀ i u, (scC P)[i]? = some u → X.cell? ((⟨b, off, none⟩ : Addr).add i) = some u) := fun X hX i u hu => by
    have hs := hS0.below (HW.out X hX)
    obtain ⟨s, hs1⟩ : ∃ s, P[i]? = some s := by
      have hl := (List.getElem?_eq_some_iff.1 hu).1
      rw [HPl.out, Nat.mul_one] at hl
      exact ⟨_, List.getElem?_eq_getElem (by omega)⟩
    obtain ⟨b', off', e, -, hcs⟩ := hs.s hs1
    injection e with e
    injection e with e1 e2 _
    subst e1 e2
    rw [Addr.add_lit, hcs]
    simp only [scC, List.getElem?_map, hs1, Option.map_some] at hu
    exact hu
  obtain ⟨y0, y1, y2, y3, y4, y5⟩ := HCD.out V0 (Below.refl _ _)
  clear hc hab hT hS0 hn g0 hbV
  go_enter Tryd.func33, Tryd.ntmps33
  go_upto_region 1 with fail
  go_cut [5, 6, 7] (fun s t u wx => ∃ g5 g6 : Nat, s = .pointer (some ⟨g5, 0, none⟩) ∧ t = .pointer (some ⟨g6, 0, none⟩) ∧ u = .int .i64 141 ∧ Hid (wx.heap[g5]? = some (.cells #[.int .i64 0, .int .i64 0, .slice none 0 0] 56 (0, 0)) ∧ wx.heap[g6]? = some (.cells #[.slice none 0 0, .slice none 0 0] 59 (0, 0))) ∧ Hid (Below V0.heap.size V0 wx))
  case first =>
    have hSx : (V0.drew.cell? ⟨w.heap.size, 0, none⟩ = some (.int .i64 (sl : Int)) ∧ V0.drew.cell? ⟨w.heap.size, 1, none⟩ = some (.int .i64 (fl : Int)) ∧ V0.drew.cell? ⟨w.heap.size, 2, none⟩ = some (.int .i64 (dr : Int)) ∧ V0.drew.cell? ⟨w.heap.size, 3, none⟩ = some (.int .i64 (mf : Int)) ∧ V0.drew.cell? ⟨w.heap.size, 4, none⟩ = some (.int .i64 (ls : Int)) ∧ V0.drew.cell? ⟨w.heap.size, 5, none⟩ = some (.int .i64 (pg : Int))) := ⟨y0, y1, y2, y3, y4, y5⟩
    refine wp_region_held_drew (S := fun W => W.cell? ⟨w.heap.size, 0, none⟩ = some (.int .i64 (sl : Int)) ∧ W.cell? ⟨w.heap.size, 1, none⟩ = some (.int .i64 (fl : Int)) ∧ W.cell? ⟨w.heap.size, 2, none⟩ = some (.int .i64 (dr : Int)) ∧ W.cell? ⟨w.heap.size, 3, none⟩ = some (.int .i64 (mf : Int)) ∧ W.cell? ⟨w.heap.size, 4, none⟩ = some (.int .i64 (ls : Int)) ∧ W.cell? ⟨w.heap.size, 5, none⟩ = some (.int .i64 (pg : Int))) (by kernel_rfl) hSx ?_
    intro hS
    clear hSx y0 y1 y2 y3 y4 y5 hV
    have HB : Hid (Below V0.heap.size V0 V0.drew) := (Below.refl _ _).drew
    revert hS HB
    generalize V0.drew = V
    intro hS HB
    refine wpAnyH_take (i := 0) (oi := { dst := some 9, op := .load 23 (.tmp 2), type := _, pos := _, after := _, guard := none }) (v := .agg #[.int .i64 (sl : Int), .int .i64 (fl : Int), .int .i64 (dr : Int), .int .i64 (mf : Int), .int .i64 (ls : Int), .int .i64 (pg : Int)]) rfl (by kernel_rfl) (by kernel_rfl) (by kernel_rfl) (fun _ _ _ h => h) (Or.inl ⟨by rfl, by intro x hx; obtain ⟨h0, h1, h2, h3, h4, h5⟩ := hx; go_simp⟩) hS ?_
    (try simp only [Act.put, List.setIfInBounds_toArray, List.set_cons_zero, List.set_cons_succ])
    refine wpAnyH_take (i := 1) (oi := { dst := some 10, op := .move (.tmp 1), type := _, pos := _, after := _, guard := none }) (v := .slice (some ⟨b, off, none⟩) n k) rfl (by kernel_rfl) (by kernel_rfl) (by kernel_rfl) (fun _ _ _ h => h) (Or.inl ⟨by rfl, by intro x _; go_simp⟩) hS ?_
    (try simp only [Act.put, List.setIfInBounds_toArray, List.set_cons_zero, List.set_cons_succ])
    refine wpAnyH_ready (rs := [2, 8, 9]) (by kernel_rfl) (by simp) ?_
    refine AllReadyH.cons (o := { dst := some 11, op := .call { callee := .builtin .append, args := #[.const (.slice none 0 0), .tmp 10], argTypes := #[62, 62] }, type := _, pos := _, after := _, guard := none }) rfl (fun K hK => ?_) (AllReadyH.cons (o := { dst := some 5, op := .alloc 56, type := _, pos := _, after := _, guard := none }) rfl (fun K hK => ?_) (AllReadyH.cons (o := { dst := some 6, op := .alloc 59, type := _, pos := _, after := _, guard := none }) rfl (fun K hK => ?_) AllReadyH.nil))
    · refine step_append_own rfl (.const (.slice none 0 0)) (.tmp 10) 62 rfl V.heap.size 9 i0 (.string { data := #[] }) 1 16 Tryd.underlying62 hi hz0 hz1 hz2 rfl (by decide) (.slice none 0 0) 0 [] (by simp [Act.eval]) (World.ownsRow_nil _ _ _ _) ⟨b, off, none⟩ n k (scC P) (by simp [Act.eval]) HPl.out (HPC.out V HB.out) (sc_one P) (by unfold maxLen; omega) (by omega) (Nat.le_refl _) ?_
      intro v9 w9 hown9 hg9
      have hbA : Below V.heap.size V w9 := grown_below hg9 (Nat.le_refl _) (World.ownsRow_nil V V.heap.size 9 1)
      rw [Nat.zero_add, List.nil_append] at hown9
      obtain ⟨a9, c9, rfl⟩ := owns_form hown9
      have HB2 : Hid (Below V0.heap.size V0 w9) := below_on hbA HB.out
      have hS2 := HCD.out _ HB2.out
      have HSe2 : Hid (See w9 1 (.slice a9 n c9) n (scC P)) := see_own hown9 (sc_one P)
      refine hK.out _ _ hS2 (fun _ => ?_)
      clear hK K hS HB hbA hown9 hg9 
      (try simp only [Act.put, List.setIfInBounds_toArray, List.set_cons_zero, List.set_cons_succ])
      revert HB2 hS2 HSe2
      generalize w9 = V
      intro HB hS HSe
      refine wpAnyH_ready (rs := [3, 8, 9]) (by kernel_rfl) (by simp) ?_
      refine AllReadyH.cons (o := { dst := some 12, op := .call { callee := .value (.func 34), args := #[.tmp 9, .tmp 11], argTypes := #[23, 62] }, type := _, pos := _, after := _, guard := none }) rfl (fun K hK => ?_) (AllReadyH.cons (o := { dst := some 5, op := .alloc 56, type := _, pos := _, after := _, guard := none }) rfl (fun K hK => ?_) (AllReadyH.cons (o := { dst := some 6, op := .alloc 59, type := _, pos := _, after := _, guard := none }) rfl (fun K hK => ?_) AllReadyH.nil))
      · go_simp
        refine (KD.out _ HB.out a9 c9 HSe.out).mono ?_
        rintro e w8 ⟨rfl, hbA⟩
        have HB2 : Hid (Below V0.heap.size V0 w8) := below_on hbA HB.out
        have hS2 := HCD.out _ HB2.out
        refine hK.out _ _ hS2 (fun _ => ?_)
        clear hK K hS HB hbA HSe 
        (try simp only [Act.put, List.setIfInBounds_toArray, List.set_cons_zero, List.set_cons_succ])
        revert HB2 hS2 
        generalize w8 = V
        intro HB hS 
        refine wpAnyH_take (i := 4) (oi := { dst := some 8, op := .move (.tmp 12), type := _, pos := _, after := _, guard := none }) (v := .tuple #[.agg #[.int .i64 0, .int .i64 0, .slice none 0 0], .agg #[.slice none 0 0, .slice none 0 0], .int .i64 141]) rfl (by kernel_rfl) (by kernel_rfl) (by kernel_rfl) (fun _ _ _ h => h) (Or.inl ⟨by rfl, by intro x _; go_simp⟩) hS ?_
        (try simp only [Act.put, List.setIfInBounds_toArray, List.set_cons_zero, List.set_cons_succ])
        refine wpAnyH_take (i := 5) (oi := { dst := some 13, op := .extract (.tmp 8) 0, type := _, pos := _, after := _, guard := none }) (v := .agg #[.int .i64 0, .int .i64 0, .slice none 0 0]) rfl (by kernel_rfl) (by kernel_rfl) (by kernel_rfl) (fun _ _ _ h => h) (Or.inl ⟨by rfl, by intro x _; go_simp⟩) hS ?_
        (try simp only [Act.put, List.setIfInBounds_toArray, List.set_cons_zero, List.set_cons_succ])
        refine wpAnyH_take (i := 6) (oi := { dst := some 14, op := .extract (.tmp 8) 1, type := _, pos := _, after := _, guard := none }) (v := .agg #[.slice none 0 0, .slice none 0 0]) rfl (by kernel_rfl) (by kernel_rfl) (by kernel_rfl) (fun _ _ _ h => h) (Or.inl ⟨by rfl, by intro x _; go_simp⟩) hS ?_
        (try simp only [Act.put, List.setIfInBounds_toArray, List.set_cons_zero, List.set_cons_succ])
        refine wpAnyH_take (i := 7) (oi := { dst := some 15, op := .extract (.tmp 8) 2, type := _, pos := _, after := _, guard := none }) (v := .int .i64 141) rfl (by kernel_rfl) (by kernel_rfl) (by kernel_rfl) (fun _ _ _ h => h) (Or.inl ⟨by rfl, by intro x _; go_simp⟩) hS ?_
        (try simp only [Act.put, List.setIfInBounds_toArray, List.set_cons_zero, List.set_cons_succ])
        refine wpAnyH_ready (rs := [8, 9]) (by kernel_rfl) (by simp) ?_
        refine AllReadyH.cons (o := { dst := some 5, op := .alloc 56, type := _, pos := _, after := _, guard := none }) rfl (fun K hK => ?_) (AllReadyH.cons (o := { dst := some 6, op := .alloc 59, type := _, pos := _, after := _, guard := none }) rfl (fun K hK => ?_) AllReadyH.nil)
        · go_simp
          have hbA : Below V.heap.size V (V.alloc (.cells #[.int .i64 0, .int .i64 0, .slice none 0 0] 56)) := (Below.refl _ _).alloc (Nat.le_refl _) _
          have HB2 : Hid (Below V0.heap.size V0 (V.alloc (.cells #[.int .i64 0, .int .i64 0, .slice none 0 0] 56))) := below_on hbA HB.out
          have hS2 := HCD.out _ HB2.out
          have HT2 : Hid ((V.alloc (.cells #[.int .i64 0, .int .i64 0, .slice none 0 0] 56)).heap[V.heap.size]? = some (.cells #[.int .i64 0, .int .i64 0, .slice none 0 0] 56 (0, 0)) ∧ V0.heap.size ≤ V.heap.size) := ⟨heap_new V _, HB.out.size⟩
          refine hK.out _ _ hS2 (fun _ => ?_)
          clear hK K hS HB hbA 
          (try simp only [Act.put, List.setIfInBounds_toArray, List.set_cons_zero, List.set_cons_succ])
          revert HB2 hS2 HT2
          generalize (V.alloc (.cells #[.int .i64 0, .int .i64 0, .slice none 0 0] 56)) = V2
          generalize V.heap.size = g5
          intro HB hS HT
          revert HB hS HT
          generalize V2 = V
          intro HB hS HT
          refine wpAnyH_ready (rs := [9]) (by kernel_rfl) (by simp) ?_
          refine AllReadyH.cons (o := { dst := some 6, op := .alloc 59, type := _, pos := _, after := _, guard := none }) rfl (fun K hK => ?_) AllReadyH.nil
          go_simp
          have hbA : Below V.heap.size V (V.alloc (.cells #[.slice none 0 0, .slice none 0 0] 59)) := (Below.refl _ _).alloc (Nat.le_refl _) _
          have HB2 : Hid (Below V0.heap.size V0 (V.alloc (.cells #[.slice none 0 0, .slice none 0 0] 59))) := below_on hbA HB.out
          have hS2 := HCD.out _ HB2.out
          have HT2 : Hid ((V.alloc (.cells #[.slice none 0 0, .slice none 0 0] 59)).heap[g5]? = some (.cells #[.int .i64 0, .int .i64 0, .slice none 0 0] 56 (0, 0)) ∧ V0.heap.size ≤ g5) := ⟨(hbA.block _ (heap_lt HT.out.1)).trans HT.out.1, HT.out.2⟩
          have HP2 : Hid ((V.alloc (.cells #[.slice none 0 0, .slice none 0 0] 59)).heap[V.heap.size]? = some (.cells #[.slice none 0 0, .slice none 0 0] 59 (0, 0)) ∧ V0.heap.size ≤ V.heap.size) := ⟨heap_new V _, HB.out.size⟩
          refine hK.out _ _ hS2 (fun _ => ?_)
          clear hK K hS HB hbA HT
          (try simp only [Act.put, List.setIfInBounds_toArray, List.set_cons_zero, List.set_cons_succ])
          revert HB2 hS2 HT2 HP2
          generalize (V.alloc (.cells #[.slice none 0 0, .slice none 0 0] 59)) = V2
          generalize V.heap.size = g6
          intro HB hS HT HP
          revert HB hS HT HP
          generalize V2 = V
          intro HB hS HT HP
          refine wpAnyH_ready (rs := [10]) (by kernel_rfl) (by simp) ?_
          refine AllReadyH.cons (o := { dst := none, op := .store 56 (.tmp 5) (.tmp 13), type := _, pos := _, after := _, guard := none }) rfl (fun K hK => ?_) AllReadyH.nil
          obtain ⟨q0, q1, q2⟩ := cells3 HT.out.1
          have f5 : ∀ j, V.frozen? ⟨g5, j, none⟩ = false := fun j => frozen_of_heap HT.out.1
          have HB2 : Hid (Below V0.heap.size V0 (((V.setCell ⟨g5, 0, none⟩ (.int .i64 0)).setCell ⟨g5, 1, none⟩ (.int .i64 0)).setCell ⟨g5, 2, none⟩ (.slice none 0 0))) := ((HB.out.setCell HT.out.2 _).setCell HT.out.2 _).setCell HT.out.2 _
          have hS2 := HCD.out _ HB2.out
          have HT2 : Hid ((((V.setCell ⟨g5, 0, none⟩ (.int .i64 0)).setCell ⟨g5, 1, none⟩ (.int .i64 0)).setCell ⟨g5, 2, none⟩ (.slice none 0 0)).heap[g5]? = some (.cells #[.int .i64 0, .int .i64 0, .slice none 0 0] 56 (0, 0)) ∧ V0.heap.size ≤ g5) := ⟨Tr.put3A HT.out.1, HT.out.2⟩
          have hne : g6 ≠ g5 := ty_ne HP.out.1 HT.out.1 (by decide)
          have HP2 : Hid ((((V.setCell ⟨g5, 0, none⟩ (.int .i64 0)).setCell ⟨g5, 1, none⟩ (.int .i64 0)).setCell ⟨g5, 2, none⟩ (.slice none 0 0)).heap[g6]? = some (.cells #[.slice none 0 0, .slice none 0 0] 59 (0, 0)) ∧ V0.heap.size ≤ g6) := ⟨by rw [heap_setCell_other _ _ _ _ hne, heap_setCell_other _ _ _ _ hne, heap_setCell_other _ _ _ _ hne]; exact HP.out.1, HP.out.2⟩
          clear HT HP HB
          go_simp
          refine hK.out _ _ hS2 (fun _ => ?_)
          clear hK K hS q0 q1 q2 f5 hne
          (try simp only [Act.put])
          revert HB2 hS2 HT2 HP2
          generalize (((V.setCell ⟨g5, 0, none⟩ (.int .i64 0)).setCell ⟨g5, 1, none⟩ (.int .i64 0)).setCell ⟨g5, 2, none⟩ (.slice none 0 0)) = V2
          intro HB hS HT HP
          revert HB hS HT HP
          generalize V2 = V
          intro HB hS HT HP
          refine wpAnyH_ready (rs := [11]) (by kernel_rfl) (by simp) ?_
          refine AllReadyH.cons (o := { dst := none, op := .store 59 (.tmp 6) (.tmp 14), type := _, pos := _, after := _, guard := none }) rfl (fun K hK => ?_) AllReadyH.nil
          obtain ⟨q0, q1⟩ := cells2 HP.out.1
          have f5 : ∀ j, V.frozen? ⟨g6, j, none⟩ = false := fun j => frozen_of_heap HP.out.1
          have HB2 : Hid (Below V0.heap.size V0 ((V.setCell ⟨g6, 0, none⟩ (.slice none 0 0)).setCell ⟨g6, 1, none⟩ (.slice none 0 0))) := (HB.out.setCell HP.out.2 _).setCell HP.out.2 _
          have hS2 := HCD.out _ HB2.out
          have hne : g5 ≠ g6 := ty_ne HT.out.1 HP.out.1 (by decide)
          have HT2 : Hid (((V.setCell ⟨g6, 0, none⟩ (.slice none 0 0)).setCell ⟨g6, 1, none⟩ (.slice none 0 0)).heap[g5]? = some (.cells #[.int .i64 0, .int .i64 0, .slice none 0 0] 56 (0, 0)) ∧ V0.heap.size ≤ g5) := ⟨by rw [heap_setCell_other _ _ _ _ hne, heap_setCell_other _ _ _ _ hne]; exact HT.out.1, HT.out.2⟩
          have HP2 : Hid (((V.setCell ⟨g6, 0, none⟩ (.slice none 0 0)).setCell ⟨g6, 1, none⟩ (.slice none 0 0)).heap[g6]? = some (.cells #[.slice none 0 0, .slice none 0 0] 59 (0, 0)) ∧ V0.heap.size ≤ g6) := ⟨Tr.put2A HP.out.1, HP.out.2⟩
          clear HT HP HB
          go_simp
          refine hK.out _ _ hS2 (fun _ => ?_)
          clear hK K hS q0 q1 f5 hne
          (try simp only [Act.put])
          revert HB2 hS2 HT2 HP2
          generalize ((V.setCell ⟨g6, 0, none⟩ (.slice none 0 0)).setCell ⟨g6, 1, none⟩ (.slice none 0 0)) = V2
          intro HB hS HT HP
          revert HB hS HT HP
          generalize V2 = V
          intro HB hS HT HP
          refine wpAnyH_take (i := 12) (oi := { dst := some 7, op := .assign (.tmp 15), type := _, pos := _, after := _, guard := none }) (v := .int .i64 141) rfl (by kernel_rfl) (by kernel_rfl) (by kernel_rfl) (fun _ _ _ h => h) (Or.inl ⟨by rfl, by intro x _; go_simp⟩) hS ?_
          (try simp only [Act.put, List.setIfInBounds_toArray, List.set_cons_zero, List.set_cons_succ])
          refine wpAnyH_done (by kernel_rfl) ?_ _
          go_wp2_with fail
          go_meet
          exact ⟨g5, g6, rfl, rfl, rfl, ⟨HT.out.1, HP.out.1⟩, HB.out⟩
        · go_simp
          have hbA : Below V.heap.size V (V.alloc (.cells #[.slice none 0 0, .slice none 0 0] 59)) := (Below.refl _ _).alloc (Nat.le_refl _) _
          have HB2 : Hid (Below V0.heap.size V0 (V.alloc (.cells #[.slice none 0 0, .slice none 0 0] 59))) := below_on hbA HB.out
          have hS2 := HCD.out _ HB2.out
          have HP2 : Hid ((V.alloc (.cells #[.slice none 0 0, .slice none 0 0] 59)).heap[V.heap.size]? = some (.cells #[.slice none 0 0, .slice none 0 0] 59 (0, 0)) ∧ V0.heap.size ≤ V.heap.size) := ⟨heap_new V _, HB.out.size⟩
          refine hK.out _ _ hS2 (fun _ => ?_)
          clear hK K hS HB hbA 
          (try simp only [Act.put, List.setIfInBounds_toArray, List.set_cons_zero, List.set_cons_succ])
          revert HB2 hS2 HP2
          generalize (V.alloc (.cells #[.slice none 0 0, .slice none 0 0] 59)) = V2
          generalize V.heap.size = g6
          intro HB hS HP
          revert HB hS HP
          generalize V2 = V
          intro HB hS HP
          refine wpAnyH_ready (rs := [8]) (by kernel_rfl) (by simp) ?_
          refine AllReadyH.cons (o := { dst := some 5, op := .alloc 56, type := _, pos := _, after := _, guard := none }) rfl (fun K hK => ?_) AllReadyH.nil
          go_simp
          have hbA : Below V.heap.size V (V.alloc (.cells #[.int .i64 0, .int .i64 0, .slice none 0 0] 56)) := (Below.refl _ _).alloc (Nat.le_refl _) _
          have HB2 : Hid (Below V0.heap.size V0 (V.alloc (.cells #[.int .i64 0, .int .i64 0, .slice none 0 0] 56))) := below_on hbA HB.out
          have hS2 := HCD.out _ HB2.out
          have HP2 : Hid ((V.alloc (.cells #[.int .i64 0, .int .i64 0, .slice none 0 0] 56)).heap[g6]? = some (.cells #[.slice none 0 0, .slice none 0 0] 59 (0, 0)) ∧ V0.heap.size ≤ g6) := ⟨(hbA.block _ (heap_lt HP.out.1)).trans HP.out.1, HP.out.2⟩
          have HT2 : Hid ((V.alloc (.cells #[.int .i64 0, .int .i64 0, .slice none 0 0] 56)).heap[V.heap.size]? = some (.cells #[.int .i64 0, .int .i64 0, .slice none 0 0] 56 (0, 0)) ∧ V0.heap.size ≤ V.heap.size) := ⟨heap_new V _, HB.out.size⟩
          refine hK.out _ _ hS2 (fun _ => ?_)
          clear hK K hS HB hbA HP
          (try simp only [Act.put, List.setIfInBounds_toArray, List.set_cons_zero, List.set_cons_succ])
          revert HB2 hS2 HP2 HT2
          generalize (V.alloc (.cells #[.int .i64 0, .int .i64 0, .slice none 0 0] 56)) = V2
          generalize V.heap.size = g5
          intro HB hS HP HT
          revert HB hS HP HT
          generalize V2 = V
          intro HB hS HP HT
          refine wpAnyH_ready (rs := [10]) (by kernel_rfl) (by simp) ?_
          refine AllReadyH.cons (o := { dst := none, op := .store 56 (.tmp 5) (.tmp 13), type := _, pos := _, after := _, guard := none }) rfl (fun K hK => ?_) AllReadyH.nil
          obtain ⟨q0, q1, q2⟩ := cells3 HT.out.1
          have f5 : ∀ j, V.frozen? ⟨g5, j, none⟩ = false := fun j => frozen_of_heap HT.out.1
          have HB2 : Hid (Below V0.heap.size V0 (((V.setCell ⟨g5, 0, none⟩ (.int .i64 0)).setCell ⟨g5, 1, none⟩ (.int .i64 0)).setCell ⟨g5, 2, none⟩ (.slice none 0 0))) := ((HB.out.setCell HT.out.2 _).setCell HT.out.2 _).setCell HT.out.2 _
          have hS2 := HCD.out _ HB2.out
          have HT2 : Hid ((((V.setCell ⟨g5, 0, none⟩ (.int .i64 0)).setCell ⟨g5, 1, none⟩ (.int .i64 0)).setCell ⟨g5, 2, none⟩ (.slice none 0 0)).heap[g5]? = some (.cells #[.int .i64 0, .int .i64 0, .slice none 0 0] 56 (0, 0)) ∧ V0.heap.size ≤ g5) := ⟨Tr.put3A HT.out.1, HT.out.2⟩
          have hne : g6 ≠ g5 := ty_ne HP.out.1 HT.out.1 (by decide)
          have HP2 : Hid ((((V.setCell ⟨g5, 0, none⟩ (.int .i64 0)).setCell ⟨g5, 1, none⟩ (.int .i64 0)).setCell ⟨g5, 2, none⟩ (.slice none 0 0)).heap[g6]? = some (.cells #[.slice none 0 0, .slice none 0 0] 59 (0, 0)) ∧ V0.heap.size ≤ g6) := ⟨by rw [heap_setCell_other _ _ _ _ hne, heap_setCell_other _ _ _ _ hne, heap_setCell_other _ _ _ _ hne]; exact HP.out.1, HP.out.2⟩
          clear HT HP HB
          go_simp
          refine hK.out _ _ hS2 (fun _ => ?_)
          clear hK K hS q0 q1 q2 f5 hne
          (try simp only [Act.put])
          revert HB2 hS2 HT2 HP2
          generalize (((V.setCell ⟨g5, 0, none⟩ (.int .i64 0)).setCell ⟨g5, 1, none⟩ (.int .i64 0)).setCell ⟨g5, 2, none⟩ (.slice none 0 0)) = V2
          intro HB hS HT HP
          revert HB hS HT HP
          generalize V2 = V
          intro HB hS HT HP
          refine wpAnyH_ready (rs := [11]) (by kernel_rfl) (by simp) ?_
          refine AllReadyH.cons (o := { dst := none, op := .store 59 (.tmp 6) (.tmp 14), type := _, pos := _, after := _, guard := none }) rfl (fun K hK => ?_) AllReadyH.nil
          obtain ⟨q0, q1⟩ := cells2 HP.out.1
          have f5 : ∀ j, V.frozen? ⟨g6, j, none⟩ = false := fun j => frozen_of_heap HP.out.1
          have HB2 : Hid (Below V0.heap.size V0 ((V.setCell ⟨g6, 0, none⟩ (.slice none 0 0)).setCell ⟨g6, 1, none⟩ (.slice none 0 0))) := (HB.out.setCell HP.out.2 _).setCell HP.out.2 _
          have hS2 := HCD.out _ HB2.out
          have hne : g5 ≠ g6 := ty_ne HT.out.1 HP.out.1 (by decide)
          have HT2 : Hid (((V.setCell ⟨g6, 0, none⟩ (.slice none 0 0)).setCell ⟨g6, 1, none⟩ (.slice none 0 0)).heap[g5]? = some (.cells #[.int .i64 0, .int .i64 0, .slice none 0 0] 56 (0, 0)) ∧ V0.heap.size ≤ g5) := ⟨by rw [heap_setCell_other _ _ _ _ hne, heap_setCell_other _ _ _ _ hne]; exact HT.out.1, HT.out.2⟩
          have HP2 : Hid (((V.setCell ⟨g6, 0, none⟩ (.slice none 0 0)).setCell ⟨g6, 1, none⟩ (.slice none 0 0)).heap[g6]? = some (.cells #[.slice none 0 0, .slice none 0 0] 59 (0, 0)) ∧ V0.heap.size ≤ g6) := ⟨Tr.put2A HP.out.1, HP.out.2⟩
          clear HT HP HB
          go_simp
          refine hK.out _ _ hS2 (fun _ => ?_)
          clear hK K hS q0 q1 f5 hne
          (try simp only [Act.put])
          revert HB2 hS2 HT2 HP2
          generalize ((V.setCell ⟨g6, 0, none⟩ (.slice none 0 0)).setCell ⟨g6, 1, none⟩ (.slice none 0 0)) = V2
          intro HB hS HT HP
          revert HB hS HT HP
          generalize V2 = V
          intro HB hS HT HP
          refine wpAnyH_take (i := 12) (oi := { dst := some 7, op := .assign (.tmp 15), type := _, pos := _, after := _, guard := none }) (v := .int .i64 141) rfl (by kernel_rfl) (by kernel_rfl) (by kernel_rfl) (fun _ _ _ h => h) (Or.inl ⟨by rfl, by intro x _; go_simp⟩) hS ?_
          (try simp only [Act.put, List.setIfInBounds_toArray, List.set_cons_zero, List.set_cons_succ])
          refine wpAnyH_done (by kernel_rfl) ?_ _
          go_wp2_with fail
          go_meet
          exact ⟨g5, g6, rfl, rfl, rfl, ⟨HT.out.1, HP.out.1⟩, HB.out⟩
      · go_simp
        have hbA : Below V.heap.size V (V.alloc (.cells #[.int .i64 0, .int .i64 0, .slice none 0 0] 56)) := (Below.refl _ _).alloc (Nat.le_refl _) _
        have HB2 : Hid (Below V0.heap.size V0 (V.alloc (.cells #[.int .i64 0, .int .i64 0, .slice none 0 0] 56))) := below_on hbA HB.out
        have hS2 := HCD.out _ HB2.out
        have HSe2 : Hid (See (V.alloc (.cells #[.int .i64 0, .int .i64 0, .slice none 0 0] 56)) 1 (.slice a9 n c9) n (scC P)) := HSe.out.below hbA
        have HT2 : Hid ((V.alloc (.cells #[.int .i64 0, .int .i64 0, .slice none 0 0] 56)).heap[V.heap.size]? = some (.cells #[.int .i64 0, .int .i64 0, .slice none 0 0] 56 (0, 0)) ∧ V0.heap.size ≤ V.heap.size) := ⟨heap_new V _, HB.out.size⟩
        refine hK.out _ _ hS2 (fun _ => ?_)
        clear hK K hS HB hbA HSe
        (try simp only [Act.put, List.setIfInBounds_toArray, List.set_cons_zero, List.set_cons_succ])
        revert HB2 hS2 HSe2 HT2
        generalize (V.alloc (.cells #[.int .i64 0, .int .i64 0, .slice none 0 0] 56)) = V2
        generalize V.heap.size = g5
        intro HB hS HSe HT
        revert HB hS HSe HT
        generalize V2 = V
        intro HB hS HSe HT
        refine wpAnyH_ready (rs := [3, 9]) (by kernel_rfl) (by simp) ?_
        refine AllReadyH.cons (o := { dst := some 12, op := .call { callee := .value (.func 34), args := #[.tmp 9, .tmp 11], argTypes := #[23, 62] }, type := _, pos := _, after := _, guard := none }) rfl (fun K hK => ?_) (AllReadyH.cons (o := { dst := some 6, op := .alloc 59, type := _, pos := _, after := _, guard := none }) rfl (fun K hK => ?_) AllReadyH.nil)
        · go_simp
          refine (KD.out _ HB.out a9 c9 HSe.out).mono ?_
          rintro e w8 ⟨rfl, hbA⟩
          have HB2 : Hid (Below V0.heap.size V0 w8) := below_on hbA HB.out
          have hS2 := HCD.out _ HB2.out
          have HT2 : Hid (w8.heap[g5]? = some (.cells #[.int .i64 0, .int .i64 0, .slice none 0 0] 56 (0, 0)) ∧ V0.heap.size ≤ g5) := ⟨(hbA.block _ (heap_lt HT.out.1)).trans HT.out.1, HT.out.2⟩
          refine hK.out _ _ hS2 (fun _ => ?_)
          clear hK K hS HB hbA HSe HT
          (try simp only [Act.put, List.setIfInBounds_toArray, List.set_cons_zero, List.set_cons_succ])
          revert HB2 hS2 HT2
          generalize w8 = V
          intro HB hS HT
          refine wpAnyH_take (i := 4) (oi := { dst := some 8, op := .move (.tmp 12), type := _, pos := _, after := _, guard := none }) (v := .tuple #[.agg #[.int .i64 0, .int .i64 0, .slice none 0 0], .agg #[.slice none 0 0, .slice none 0 0], .int .i64 141]) rfl (by kernel_rfl) (by kernel_rfl) (by kernel_rfl) (fun _ _ _ h => h) (Or.inl ⟨by rfl, by intro x _; go_simp⟩) hS ?_
          (try simp only [Act.put, List.setIfInBounds_toArray, List.set_cons_zero, List.set_cons_succ])
          refine wpAnyH_take (i := 5) (oi := { dst := some 13, op := .extract (.tmp 8) 0, type := _, pos := _, after := _, guard := none }) (v := .agg #[.int .i64 0, .int .i64 0, .slice none 0 0]) rfl (by kernel_rfl) (by kernel_rfl) (by kernel_rfl) (fun _ _ _ h => h) (Or.inl ⟨by rfl, by intro x _; go_simp⟩) hS ?_
          (try simp only [Act.put, List.setIfInBounds_toArray, List.set_cons_zero, List.set_cons_succ])
          refine wpAnyH_take (i := 6) (oi := { dst := some 14, op := .extract (.tmp 8) 1, type := _, pos := _, after := _, guard := none }) (v := .agg #[.slice none 0 0, .slice none 0 0]) rfl (by kernel_rfl) (by kernel_rfl) (by kernel_rfl) (fun _ _ _ h => h) (Or.inl ⟨by rfl, by intro x _; go_simp⟩) hS ?_
          (try simp only [Act.put, List.setIfInBounds_toArray, List.set_cons_zero, List.set_cons_succ])
          refine wpAnyH_take (i := 7) (oi := { dst := some 15, op := .extract (.tmp 8) 2, type := _, pos := _, after := _, guard := none }) (v := .int .i64 141) rfl (by kernel_rfl) (by kernel_rfl) (by kernel_rfl) (fun _ _ _ h => h) (Or.inl ⟨by rfl, by intro x _; go_simp⟩) hS ?_
          (try simp only [Act.put, List.setIfInBounds_toArray, List.set_cons_zero, List.set_cons_succ])
          refine wpAnyH_ready (rs := [9]) (by kernel_rfl) (by simp) ?_
          refine AllReadyH.cons (o := { dst := some 6, op := .alloc 59, type := _, pos := _, after := _, guard := none }) rfl (fun K hK => ?_) AllReadyH.nil
          go_simp
          have hbA : Below V.heap.size V (V.alloc (.cells #[.slice none 0 0, .slice none 0 0] 59)) := (Below.refl _ _).alloc (Nat.le_refl _) _
          have HB2 : Hid (Below V0.heap.size V0 (V.alloc (.cells #[.slice none 0 0, .slice none 0 0] 59))) := below_on hbA HB.out
          have hS2 := HCD.out _ HB2.out
          have HT2 : Hid ((V.alloc (.cells #[.slice none 0 0, .slice none 0 0] 59)).heap[g5]? = some (.cells #[.int .i64 0, .int .i64 0, .slice none 0 0] 56 (0, 0)) ∧ V0.heap.size ≤ g5) := ⟨(hbA.block _ (heap_lt HT.out.1)).trans HT.out.1, HT.out.2⟩
          have HP2 : Hid ((V.alloc (.cells #[.slice none 0 0, .slice none 0 0] 59)).heap[V.heap.size]? = some (.cells #[.slice none 0 0, .slice none 0 0] 59 (0, 0)) ∧ V0.heap.size ≤ V.heap.size) := ⟨heap_new V _, HB.out.size⟩
          refine hK.out _ _ hS2 (fun _ => ?_)
          clear hK K hS HB hbA HT
          (try simp only [Act.put, List.setIfInBounds_toArray, List.set_cons_zero, List.set_cons_succ])
          revert HB2 hS2 HT2 HP2
          generalize (V.alloc (.cells #[.slice none 0 0, .slice none 0 0] 59)) = V2
          generalize V.heap.size = g6
          intro HB hS HT HP
          revert HB hS HT HP
          generalize V2 = V
          intro HB hS HT HP
          refine wpAnyH_ready (rs := [10]) (by kernel_rfl) (by simp) ?_
          refine AllReadyH.cons (o := { dst := none, op := .store 56 (.tmp 5) (.tmp 13), type := _, pos := _, after := _, guard := none }) rfl (fun K hK => ?_) AllReadyH.nil
          obtain ⟨q0, q1, q2⟩ := cells3 HT.out.1
          have f5 : ∀ j, V.frozen? ⟨g5, j, none⟩ = false := fun j => frozen_of_heap HT.out.1
          have HB2 : Hid (Below V0.heap.size V0 (((V.setCell ⟨g5, 0, none⟩ (.int .i64 0)).setCell ⟨g5, 1, none⟩ (.int .i64 0)).setCell ⟨g5, 2, none⟩ (.slice none 0 0))) := ((HB.out.setCell HT.out.2 _).setCell HT.out.2 _).setCell HT.out.2 _
          have hS2 := HCD.out _ HB2.out
          have HT2 : Hid ((((V.setCell ⟨g5, 0, none⟩ (.int .i64 0)).setCell ⟨g5, 1, none⟩ (.int .i64 0)).setCell ⟨g5, 2, none⟩ (.slice none 0 0)).heap[g5]? = some (.cells #[.int .i64 0, .int .i64 0, .slice none 0 0] 56 (0, 0)) ∧ V0.heap.size ≤ g5) := ⟨Tr.put3A HT.out.1, HT.out.2⟩
          have hne : g6 ≠ g5 := ty_ne HP.out.1 HT.out.1 (by decide)
          have HP2 : Hid ((((V.setCell ⟨g5, 0, none⟩ (.int .i64 0)).setCell ⟨g5, 1, none⟩ (.int .i64 0)).setCell ⟨g5, 2, none⟩ (.slice none 0 0)).heap[g6]? = some (.cells #[.slice none 0 0, .slice none 0 0] 59 (0, 0)) ∧ V0.heap.size ≤ g6) := ⟨by rw [heap_setCell_other _ _ _ _ hne, heap_setCell_other _ _ _ _ hne, heap_setCell_other _ _ _ _ hne]; exact HP.out.1, HP.out.2⟩
          clear HT HP HB
          go_simp
          refine hK.out _ _ hS2 (fun _ => ?_)
          clear hK K hS q0 q1 q2 f5 hne
          (try simp only [Act.put])
          revert HB2 hS2 HT2 HP2
          generalize (((V.setCell ⟨g5, 0, none⟩ (.int .i64 0)).setCell ⟨g5, 1, none⟩ (.int .i64 0)).setCell ⟨g5, 2, none⟩ (.slice none 0 0)) = V2
          intro HB hS HT HP
          revert HB hS HT HP
          generalize V2 = V
          intro HB hS HT HP
          refine wpAnyH_ready (rs := [11]) (by kernel_rfl) (by simp) ?_
          refine AllReadyH.cons (o := { dst := none, op := .store 59 (.tmp 6) (.tmp 14), type := _, pos := _, after := _, guard := none }) rfl (fun K hK => ?_) AllReadyH.nil
          obtain ⟨q0, q1⟩ := cells2 HP.out.1
          have f5 : ∀ j, V.frozen? ⟨g6, j, none⟩ = false := fun j => frozen_of_heap HP.out.1
          have HB2 : Hid (Below V0.heap.size V0 ((V.setCell ⟨g6, 0, none⟩ (.slice none 0 0)).setCell ⟨g6, 1, none⟩ (.slice none 0 0))) := (HB.out.setCell HP.out.2 _).setCell HP.out.2 _
          have hS2 := HCD.out _ HB2.out
          have hne : g5 ≠ g6 := ty_ne HT.out.1 HP.out.1 (by decide)
          have HT2 : Hid (((V.setCell ⟨g6, 0, none⟩ (.slice none 0 0)).setCell ⟨g6, 1, none⟩ (.slice none 0 0)).heap[g5]? = some (.cells #[.int .i64 0, .int .i64 0, .slice none 0 0] 56 (0, 0)) ∧ V0.heap.size ≤ g5) := ⟨by rw [heap_setCell_other _ _ _ _ hne, heap_setCell_other _ _ _ _ hne]; exact HT.out.1, HT.out.2⟩
          have HP2 : Hid (((V.setCell ⟨g6, 0, none⟩ (.slice none 0 0)).setCell ⟨g6, 1, none⟩ (.slice none 0 0)).heap[g6]? = some (.cells #[.slice none 0 0, .slice none 0 0] 59 (0, 0)) ∧ V0.heap.size ≤ g6) := ⟨Tr.put2A HP.out.1, HP.out.2⟩
          clear HT HP HB
          go_simp
          refine hK.out _ _ hS2 (fun _ => ?_)
          clear hK K hS q0 q1 f5 hne
          (try simp only [Act.put])
          revert HB2 hS2 HT2 HP2
          generalize ((V.setCell ⟨g6, 0, none⟩ (.slice none 0 0)).setCell ⟨g6, 1, none⟩ (.slice none 0 0)) = V2
          intro HB hS HT HP
          revert HB hS HT HP
          generalize V2 = V
          intro HB hS HT HP
          refine wpAnyH_take (i := 12) (oi := { dst := some 7, op := .assign (.tmp 15), type := _, pos := _, after := _, guard := none }) (v := .int .i64 141) rfl (by kernel_rfl) (by kernel_rfl) (by kernel_rfl) (fun _ _ _ h => h) (Or.inl ⟨by rfl, by intro x _; go_simp⟩) hS ?_
          (try simp only [Act.put, List.setIfInBounds_toArray, List.set_cons_zero, List.set_cons_succ])
          refine wpAnyH_done (by kernel_rfl) ?_ _
          go_wp2_with fail
          go_meet
          exact ⟨g5, g6, rfl, rfl, rfl, ⟨HT.out.1, HP.out.1⟩, HB.out⟩
        · go_simp
          have hbA : Below V.heap.size V (V.alloc (.cells #[.slice none 0 0, .slice none 0 0] 59)) := (Below.refl _ _).alloc (Nat.le_refl _) _
          have HB2 : Hid (Below V0.heap.size V0 (V.alloc (.cells #[.slice none 0 0, .slice none 0 0] 59))) := below_on hbA HB.out
          have hS2 := HCD.out _ HB2.out
          have HT2 : Hid ((V.alloc (.cells #[.slice none 0 0, .slice none 0 0] 59)).heap[g5]? = some (.cells #[.int .i64 0, .int .i64 0, .slice none 0 0] 56 (0, 0)) ∧ V0.heap.size ≤ g5) := ⟨(hbA.block _ (heap_lt HT.out.1)).trans HT.out.1, HT.out.2⟩
          have HSe2 : Hid (See (V.alloc (.cells #[.slice none 0 0, .slice none 0 0] 59)) 1 (.slice a9 n c9) n (scC P)) := HSe.out.below hbA
          have HP2 : Hid ((V.alloc (.cells #[.slice none 0 0, .slice none 0 0] 59)).heap[V.heap.size]? = some (.cells #[.slice none 0 0, .slice none 0 0] 59 (0, 0)) ∧ V0.heap.size ≤ V.heap.size) := ⟨heap_new V _, HB.out.size⟩
          refine hK.out _ _ hS2 (fun _ => ?_)
          clear hK K hS HB hbA HT HSe
          (try simp only [Act.put, List.setIfInBounds_toArray, List.set_cons_zero, List.set_cons_succ])
          revert HB2 hS2 HT2 HSe2 HP2
          generalize (V.alloc (.cells #[.slice none 0 0, .slice none 0 0] 59)) = V2
          generalize V.heap.size = g6
          intro HB hS HT HSe HP
          revert HB hS HT HSe HP
          generalize V2 = V
          intro HB hS HT HSe HP
          refine wpAnyH_ready (rs := [3]) (by kernel_rfl) (by simp) ?_
          refine AllReadyH.cons (o := { dst := some 12, op := .call { callee := .value (.func 34), args := #[.tmp 9, .tmp 11], argTypes := #[23, 62] }, type := _, pos := _, after := _, guard := none }) rfl (fun K hK => ?_) AllReadyH.nil
          go_simp
          refine (KD.out _ HB.out a9 c9 HSe.out).mono ?_
          rintro e w8 ⟨rfl, hbA⟩
          have HB2 : Hid (Below V0.heap.size V0 w8) := below_on hbA HB.out
          have hS2 := HCD.out _ HB2.out
          have HT2 : Hid (w8.heap[g5]? = some (.cells #[.int .i64 0, .int .i64 0, .slice none 0 0] 56 (0, 0)) ∧ V0.heap.size ≤ g5) := ⟨(hbA.block _ (heap_lt HT.out.1)).trans HT.out.1, HT.out.2⟩
          have HP2 : Hid (w8.heap[g6]? = some (.cells #[.slice none 0 0, .slice none 0 0] 59 (0, 0)) ∧ V0.heap.size ≤ g6) := ⟨(hbA.block _ (heap_lt HP.out.1)).trans HP.out.1, HP.out.2⟩
          refine hK.out _ _ hS2 (fun _ => ?_)
          clear hK K hS HB hbA HSe HT HP
          (try simp only [Act.put, List.setIfInBounds_toArray, List.set_cons_zero, List.set_cons_succ])
          revert HB2 hS2 HT2 HP2
          generalize w8 = V
          intro HB hS HT HP
          refine wpAnyH_take (i := 4) (oi := { dst := some 8, op := .move (.tmp 12), type := _, pos := _, after := _, guard := none }) (v := .tuple #[.agg #[.int .i64 0, .int .i64 0, .slice none 0 0], .agg #[.slice none 0 0, .slice none 0 0], .int .i64 141]) rfl (by kernel_rfl) (by kernel_rfl) (by kernel_rfl) (fun _ _ _ h => h) (Or.inl ⟨by rfl, by intro x _; go_simp⟩) hS ?_
          (try simp only [Act.put, List.setIfInBounds_toArray, List.set_cons_zero, List.set_cons_succ])
          refine wpAnyH_take (i := 5) (oi := { dst := some 13, op := .extract (.tmp 8) 0, type := _, pos := _, after := _, guard := none }) (v := .agg #[.int .i64 0, .int .i64 0, .slice none 0 0]) rfl (by kernel_rfl) (by kernel_rfl) (by kernel_rfl) (fun _ _ _ h => h) (Or.inl ⟨by rfl, by intro x _; go_simp⟩) hS ?_
          (try simp only [Act.put, List.setIfInBounds_toArray, List.set_cons_zero, List.set_cons_succ])
          refine wpAnyH_take (i := 6) (oi := { dst := some 14, op := .extract (.tmp 8) 1, type := _, pos := _, after := _, guard := none }) (v := .agg #[.slice none 0 0, .slice none 0 0]) rfl (by kernel_rfl) (by kernel_rfl) (by kernel_rfl) (fun _ _ _ h => h) (Or.inl ⟨by rfl, by intro x _; go_simp⟩) hS ?_
          (try simp only [Act.put, List.setIfInBounds_toArray, List.set_cons_zero, List.set_cons_succ])
          refine wpAnyH_take (i := 7) (oi := { dst := some 15, op := .extract (.tmp 8) 2, type := _, pos := _, after := _, guard := none }) (v := .int .i64 141) rfl (by kernel_rfl) (by kernel_rfl) (by kernel_rfl) (fun _ _ _ h => h) (Or.inl ⟨by rfl, by intro x _; go_simp⟩) hS ?_
          (try simp only [Act.put, List.setIfInBounds_toArray, List.set_cons_zero, List.set_cons_succ])
          refine wpAnyH_ready (rs := [10]) (by kernel_rfl) (by simp) ?_
          refine AllReadyH.cons (o := { dst := none, op := .store 56 (.tmp 5) (.tmp 13), type := _, pos := _, after := _, guard := none }) rfl (fun K hK => ?_) AllReadyH.nil
          obtain ⟨q0, q1, q2⟩ := cells3 HT.out.1
          have f5 : ∀ j, V.frozen? ⟨g5, j, none⟩ = false := fun j => frozen_of_heap HT.out.1
          have HB2 : Hid (Below V0.heap.size V0 (((V.setCell ⟨g5, 0, none⟩ (.int .i64 0)).setCell ⟨g5, 1, none⟩ (.int .i64 0)).setCell ⟨g5, 2, none⟩ (.slice none 0 0))) := ((HB.out.setCell HT.out.2 _).setCell HT.out.2 _).setCell HT.out.2 _
          have hS2 := HCD.out _ HB2.out
          have HT2 : Hid ((((V.setCell ⟨g5, 0, none⟩ (.int .i64 0)).setCell ⟨g5, 1, none⟩ (.int .i64 0)).setCell ⟨g5, 2, none⟩ (.slice none 0 0)).heap[g5]? = some (.cells #[.int .i64 0, .int .i64 0, .slice none 0 0] 56 (0, 0)) ∧ V0.heap.size ≤ g5) := ⟨Tr.put3A HT.out.1, HT.out.2⟩
          have hne : g6 ≠ g5 := ty_ne HP.out.1 HT.out.1 (by decide)
          have HP2 : Hid ((((V.setCell ⟨g5, 0, none⟩ (.int .i64 0)).setCell ⟨g5, 1, none⟩ (.int .i64 0)).setCell ⟨g5, 2, none⟩ (.slice none 0 0)).heap[g6]? = some (.cells #[.slice none 0 0, .slice none 0 0] 59 (0, 0)) ∧ V0.heap.size ≤ g6) := ⟨by rw [heap_setCell_other _ _ _ _ hne, heap_setCell_other _ _ _ _ hne, heap_setCell_other _ _ _ _ hne]; exact HP.out.1, HP.out.2⟩
          clear HT HP HB
          go_simp
          refine hK.out _ _ hS2 (fun _ => ?_)
          clear hK K hS q0 q1 q2 f5 hne
          (try simp only [Act.put])
          revert HB2 hS2 HT2 HP2
          generalize (((V.setCell ⟨g5, 0, none⟩ (.int .i64 0)).setCell ⟨g5, 1, none⟩ (.int .i64 0)).setCell ⟨g5, 2, none⟩ (.slice none 0 0)) = V2
          intro HB hS HT HP
          revert HB hS HT HP
          generalize V2 = V
          intro HB hS HT HP
          refine wpAnyH_ready (rs := [11]) (by kernel_rfl) (by simp) ?_
          refine AllReadyH.cons (o := { dst := none, op := .store 59 (.tmp 6) (.tmp 14), type := _, pos := _, after := _, guard := none }) rfl (fun K hK => ?_) AllReadyH.nil
          obtain ⟨q0, q1⟩ := cells2 HP.out.1
          have f5 : ∀ j, V.frozen? ⟨g6, j, none⟩ = false := fun j => frozen_of_heap HP.out.1
          have HB2 : Hid (Below V0.heap.size V0 ((V.setCell ⟨g6, 0, none⟩ (.slice none 0 0)).setCell ⟨g6, 1, none⟩ (.slice none 0 0))) := (HB.out.setCell HP.out.2 _).setCell HP.out.2 _
          have hS2 := HCD.out _ HB2.out
          have hne : g5 ≠ g6 := ty_ne HT.out.1 HP.out.1 (by decide)
          have HT2 : Hid (((V.setCell ⟨g6, 0, none⟩ (.slice none 0 0)).setCell ⟨g6, 1, none⟩ (.slice none 0 0)).heap[g5]? = some (.cells #[.int .i64 0, .int .i64 0, .slice none 0 0] 56 (0, 0)) ∧ V0.heap.size ≤ g5) := ⟨by rw [heap_setCell_other _ _ _ _ hne, heap_setCell_other _ _ _ _ hne]; exact HT.out.1, HT.out.2⟩
          have HP2 : Hid (((V.setCell ⟨g6, 0, none⟩ (.slice none 0 0)).setCell ⟨g6, 1, none⟩ (.slice none 0 0)).heap[g6]? = some (.cells #[.slice none 0 0, .slice none 0 0] 59 (0, 0)) ∧ V0.heap.size ≤ g6) := ⟨Tr.put2A HP.out.1, HP.out.2⟩
          clear HT HP HB
          go_simp
          refine hK.out _ _ hS2 (fun _ => ?_)
          clear hK K hS q0 q1 f5 hne
          (try simp only [Act.put])
          revert HB2 hS2 HT2 HP2
          generalize ((V.setCell ⟨g6, 0, none⟩ (.slice none 0 0)).setCell ⟨g6, 1, none⟩ (.slice none 0 0)) = V2
          intro HB hS HT HP
          revert HB hS HT HP
          generalize V2 = V
          intro HB hS HT HP
          refine wpAnyH_take (i := 12) (oi := { dst := some 7, op := .assign (.tmp 15), type := _, pos := _, after := _, guard := none }) (v := .int .i64 141) rfl (by kernel_rfl) (by kernel_rfl) (by kernel_rfl) (fun _ _ _ h => h) (Or.inl ⟨by rfl, by intro x _; go_simp⟩) hS ?_
          (try simp only [Act.put, List.setIfInBounds_toArray, List.set_cons_zero, List.set_cons_succ])
          refine wpAnyH_done (by kernel_rfl) ?_ _
          go_wp2_with fail
          go_meet
          exact ⟨g5, g6, rfl, rfl, rfl, ⟨HT.out.1, HP.out.1⟩, HB.out⟩
      · go_simp
        have hbA : Below V.heap.size V (V.alloc (.cells #[.slice none 0 0, .slice none 0 0] 59)) := (Below.refl _ _).alloc (Nat.le_refl _) _
        have HB2 : Hid (Below V0.heap.size V0 (V.alloc (.cells #[.slice none 0 0, .slice none 0 0] 59))) := below_on hbA HB.out
        have hS2 := HCD.out _ HB2.out
        have HSe2 : Hid (See (V.alloc (.cells #[.slice none 0 0, .slice none 0 0] 59)) 1 (.slice a9 n c9) n (scC P)) := HSe.out.below hbA
        have HP2 : Hid ((V.alloc (.cells #[.slice none 0 0, .slice none 0 0] 59)).heap[V.heap.size]? = some (.cells #[.slice none 0 0, .slice none 0 0] 59 (0, 0)) ∧ V0.heap.size ≤ V.heap.size) := ⟨heap_new V _, HB.out.size⟩
        refine hK.out _ _ hS2 (fun _ => ?_)
        clear hK K hS HB hbA HSe
        (try simp only [Act.put, List.setIfInBounds_toArray, List.set_cons_zero, List.set_cons_succ])
        revert HB2 hS2 HSe2 HP2
        generalize (V.alloc (.cells #[.slice none 0 0, .slice none 0 0] 59)) = V2
        generalize V.heap.size = g6
        intro HB hS HSe HP
        revert HB hS HSe HP
        generalize V2 = V
        intro HB hS HSe HP
        refine wpAnyH_ready (rs := [3, 8]) (by kernel_rfl) (by simp) ?_
        refine AllReadyH.cons (o := { dst := some 12, op := .call { callee := .value (.func 34), args := #[.tmp 9, .tmp 11], argTypes := #[23, 62] }, type := _, pos := _, after := _, guard := none }) rfl (fun K hK => ?_) (AllReadyH.cons (o := { dst := some 5, op := .alloc 56, type := _, pos := _, after := _, guard := none }) rfl (fun K hK => ?_) AllReadyH.nil)
        · go_simp
          refine (KD.out _ HB.out a9 c9 HSe.out).mono ?_
          rintro e w8 ⟨rfl, hbA⟩
          have HB2 : Hid (Below V0.heap.size V0 w8) := below_on hbA HB.out
          have hS2 := HCD.out _ HB2.out
          have HP2 : Hid (w8.heap[g6]? = some (.cells #[.slice none 0 0, .slice none 0 0] 59 (0, 0)) ∧ V0.heap.size ≤ g6) := ⟨(hbA.block _ (heap_lt HP.out.1)).trans HP.out.1, HP.out.2⟩
          refine hK.out _ _ hS2 (fun _ => ?_)
          clear hK K hS HB hbA HSe HP
          (try simp only [Act.put, List.setIfInBounds_toArray, List.set_cons_zero, List.set_cons_succ])
          revert HB2 hS2 HP2
          generalize w8 = V
          intro HB hS HP
          refine wpAnyH_take (i := 4) (oi := { dst := some 8, op := .move (.tmp 12), type := _, pos := _, after := _, guard := none }) (v := .tuple #[.agg #[.int .i64 0, .int .i64 0, .slice none 0 0], .agg #[.slice none 0 0, .slice none 0 0], .int .i64 141]) rfl (by kernel_rfl) (by kernel_rfl) (by kernel_rfl) (fun _ _ _ h => h) (Or.inl ⟨by rfl, by intro x _; go_simp⟩) hS ?_
          (try simp only [Act.put, List.setIfInBounds_toArray, List.set_cons_zero, List.set_cons_succ])
          refine wpAnyH_take (i := 5) (oi := { dst := some 13, op := .extract (.tmp 8) 0, type := _, pos := _, after := _, guard := none }) (v := .agg #[.int .i64 0, .int .i64 0, .slice none 0 0]) rfl (by kernel_rfl) (by kernel_rfl) (by kernel_rfl) (fun _ _ _ h => h) (Or.inl ⟨by rfl, by intro x _; go_simp⟩) hS ?_
          (try simp only [Act.put, List.setIfInBounds_toArray, List.set_cons_zero, List.set_cons_succ])
          refine wpAnyH_take (i := 6) (oi := { dst := some 14, op := .extract (.tmp 8) 1, type := _, pos := _, after := _, guard := none }) (v := .agg #[.slice none 0 0, .slice none 0 0]) rfl (by kernel_rfl) (by kernel_rfl) (by kernel_rfl) (fun _ _ _ h => h) (Or.inl ⟨by rfl, by intro x _; go_simp⟩) hS ?_
          (try simp only [Act.put, List.setIfInBounds_toArray, List.set_cons_zero, List.set_cons_succ])
          refine wpAnyH_take (i := 7) (oi := { dst := some 15, op := .extract (.tmp 8) 2, type := _, pos := _, after := _, guard := none }) (v := .int .i64 141) rfl (by kernel_rfl) (by kernel_rfl) (by kernel_rfl) (fun _ _ _ h => h) (Or.inl ⟨by rfl, by intro x _; go_simp⟩) hS ?_
          (try simp only [Act.put, List.setIfInBounds_toArray, List.set_cons_zero, List.set_cons_succ])
          refine wpAnyH_ready (rs := [8]) (by kernel_rfl) (by simp) ?_
          refine AllReadyH.cons (o := { dst := some 5, op := .alloc 56, type := _, pos := _, after := _, guard := none }) rfl (fun K hK => ?_) AllReadyH.nil
          go_simp
          have hbA : Below V.heap.size V (V.alloc (.cells #[.int .i64 0, .int .i64 0, .slice none 0 0] 56)) := (Below.refl _ _).alloc (Nat.le_refl _) _
          have HB2 : Hid (Below V0.heap.size V0 (V.alloc (.cells #[.int .i64 0, .int .i64 0, .slice none 0 0] 56))) := below_on hbA HB.out
          have hS2 := HCD.out _ HB2.out
          have HP2 : Hid ((V.alloc (.cells #[.int .i64 0, .int .i64 0, .slice none 0 0] 56)).heap[g6]? = some (.cells #[.slice none 0 0, .slice none 0 0] 59 (0, 0)) ∧ V0.heap.size ≤ g6) := ⟨(hbA.block _ (heap_lt HP.out.1)).trans HP.out.1, HP.out.2⟩
          have HT2 : Hid ((V.alloc (.cells #[.int .i64 0, .int .i64 0, .slice none 0 0] 56)).heap[V.heap.size]? = some (.cells #[.int .i64 0, .int .i64 0, .slice none 0 0] 56 (0, 0)) ∧ V0.heap.size ≤ V.heap.size) := ⟨heap_new V _, HB.out.size⟩
          refine hK.out _ _ hS2 (fun _ => ?_)
          clear hK K hS HB hbA HP
          (try simp only [Act.put, List.setIfInBounds_toArray, List.set_cons_zero, List.set_cons_succ])
          revert HB2 hS2 HP2 HT2
          generalize (V.alloc (.cells #[.int .i64 0, .int .i64 0, .slice none 0 0] 56)) = V2
          generalize V.heap.size = g5
          intro HB hS HP HT
          revert HB hS HP HT
          generalize V2 = V
          intro HB hS HP HT
          refine wpAnyH_ready (rs := [10]) (by kernel_rfl) (by simp) ?_
          refine AllReadyH.cons (o := { dst := none, op := .store 56 (.tmp 5) (.tmp 13), type := _, pos := _, after := _, guard := none }) rfl (fun K hK => ?_) AllReadyH.nil
          obtain ⟨q0, q1, q2⟩ := cells3 HT.out.1
          have f5 : ∀ j, V.frozen? ⟨g5, j, none⟩ = false := fun j => frozen_of_heap HT.out.1
          have HB2 : Hid (Below V0.heap.size V0 (((V.setCell ⟨g5, 0, none⟩ (.int .i64 0)).setCell ⟨g5, 1, none⟩ (.int .i64 0)).setCell ⟨g5, 2, none⟩ (.slice none 0 0))) := ((HB.out.setCell HT.out.2 _).setCell HT.out.2 _).setCell HT.out.2 _
          have hS2 := HCD.out _ HB2.out
          have HT2 : Hid ((((V.setCell ⟨g5, 0, none⟩ (.int .i64 0)).setCell ⟨g5, 1, none⟩ (.int .i64 0)).setCell ⟨g5, 2, none⟩ (.slice none 0 0)).heap[g5]? = some (.cells #[.int .i64 0, .int .i64 0, .slice none 0 0] 56 (0, 0)) ∧ V0.heap.size ≤ g5) := ⟨Tr.put3A HT.out.1, HT.out.2⟩
          have hne : g6 ≠ g5 := ty_ne HP.out.1 HT.out.1 (by decide)
          have HP2 : Hid ((((V.setCell ⟨g5, 0, none⟩ (.int .i64 0)).setCell ⟨g5, 1, none⟩ (.int .i64 0)).setCell ⟨g5, 2, none⟩ (.slice none 0 0)).heap[g6]? = some (.cells #[.slice none 0 0, .slice none 0 0] 59 (0, 0)) ∧ V0.heap.size ≤ g6) := ⟨by rw [heap_setCell_other _ _ _ _ hne, heap_setCell_other _ _ _ _ hne, heap_setCell_other _ _ _ _ hne]; exact HP.out.1, HP.out.2⟩
          clear HT HP HB
          go_simp
          refine hK.out _ _ hS2 (fun _ => ?_)
          clear hK K hS q0 q1 q2 f5 hne
          (try simp only [Act.put])
          revert HB2 hS2 HT2 HP2
          generalize (((V.setCell ⟨g5, 0, none⟩ (.int .i64 0)).setCell ⟨g5, 1, none⟩ (.int .i64 0)).setCell ⟨g5, 2, none⟩ (.slice none 0 0)) = V2
          intro HB hS HT HP
          revert HB hS HT HP
          generalize V2 = V
          intro HB hS HT HP
          refine wpAnyH_ready (rs := [11]) (by kernel_rfl) (by simp) ?_
          refine AllReadyH.cons (o := { dst := none, op := .store 59 (.tmp 6) (.tmp 14), type := _, pos := _, after := _, guard := none }) rfl (fun K hK => ?_) AllReadyH.nil
          obtain ⟨q0, q1⟩ := cells2 HP.out.1
          have f5 : ∀ j, V.frozen? ⟨g6, j, none⟩ = false := fun j => frozen_of_heap HP.out.1
          have HB2 : Hid (Below V0.heap.size V0 ((V.setCell ⟨g6, 0, none⟩ (.slice none 0 0)).setCell ⟨g6, 1, none⟩ (.slice none 0 0))) := (HB.out.setCell HP.out.2 _).setCell HP.out.2 _
          have hS2 := HCD.out _ HB2.out
          have hne : g5 ≠ g6 := ty_ne HT.out.1 HP.out.1 (by decide)
          have HT2 : Hid (((V.setCell ⟨g6, 0, none⟩ (.slice none 0 0)).setCell ⟨g6, 1, none⟩ (.slice none 0 0)).heap[g5]? = some (.cells #[.int .i64 0, .int .i64 0, .slice none 0 0] 56 (0, 0)) ∧ V0.heap.size ≤ g5) := ⟨by rw [heap_setCell_other _ _ _ _ hne, heap_setCell_other _ _ _ _ hne]; exact HT.out.1, HT.out.2⟩
          have HP2 : Hid (((V.setCell ⟨g6, 0, none⟩ (.slice none 0 0)).setCell ⟨g6, 1, none⟩ (.slice none 0 0)).heap[g6]? = some (.cells #[.slice none 0 0, .slice none 0 0] 59 (0, 0)) ∧ V0.heap.size ≤ g6) := ⟨Tr.put2A HP.out.1, HP.out.2⟩
          clear HT HP HB
          go_simp
          refine hK.out _ _ hS2 (fun _ => ?_)
          clear hK K hS q0 q1 f5 hne
          (try simp only [Act.put])
          revert HB2 hS2 HT2 HP2
          generalize ((V.setCell ⟨g6, 0, none⟩ (.slice none 0 0)).setCell ⟨g6, 1, none⟩ (.slice none 0 0)) = V2
          intro HB hS HT HP
          revert HB hS HT HP
          generalize V2 = V
          intro HB hS HT HP
          refine wpAnyH_take (i := 12) (oi := { dst := some 7, op := .assign (.tmp 15), type := _, pos := _, after := _, guard := none }) (v := .int .i64 141) rfl (by kernel_rfl) (by kernel_rfl) (by kernel_rfl) (fun _ _ _ h => h) (Or.inl ⟨by rfl, by intro x _; go_simp⟩) hS ?_
          (try simp only [Act.put, List.setIfInBounds_toArray, List.set_cons_zero, List.set_cons_succ])
          refine wpAnyH_done (by kernel_rfl) ?_ _
          go_wp2_with fail
          go_meet
          exact ⟨g5, g6, rfl, rfl, rfl, ⟨HT.out.1, HP.out.1⟩, HB.out⟩
        · go_simp
          have hbA : Below V.heap.size V (V.alloc (.cells #[.int .i64 0, .int .i64 0, .slice none 0 0] 56)) := (Below.refl _ _).alloc (Nat.le_refl _) _
          have HB2 : Hid (Below V0.heap.size V0 (V.alloc (.cells #[.int .i64 0, .int .i64 0, .slice none 0 0] 56))) := below_on hbA HB.out
          have hS2 := HCD.out _ HB2.out
          have HP2 : Hid ((V.alloc (.cells #[.int .i64 0, .int .i64 0, .slice none 0 0] 56)).heap[g6]? = some (.cells #[.slice none 0 0, .slice none 0 0] 59 (0, 0)) ∧ V0.heap.size ≤ g6) := ⟨(hbA.block _ (heap_lt HP.out.1)).trans HP.out.1, HP.out.2⟩
          have HSe2 : Hid (See (V.alloc (.cells #[.int .i64 0, .int .i64 0, .slice none 0 0] 56)) 1 (.slice a9 n c9) n (scC P)) := HSe.out.below hbA
          have HT2 : Hid ((V.alloc (.cells #[.int .i64 0, .int .i64 0, .slice none 0 0] 56)).heap[V.heap.size]? = some (.cells #[.int .i64 0, .int .i64 0, .slice none 0 0] 56 (0, 0)) ∧ V0.heap.size ≤ V.heap.size) := ⟨heap_new V _, HB.out.size⟩
          refine hK.out _ _ hS2 (fun _ => ?_)
          clear hK K hS HB hbA HP HSe
          (try simp only [Act.put, List.setIfInBounds_toArray, List.set_cons_zero, List.set_cons_succ])
          revert HB2 hS2 HP2 HSe2 HT2
          generalize (V.alloc (.cells #[.int .i64 0, .int .i64 0, .slice none 0 0] 56)) = V2
          generalize V.heap.size = g5
          intro HB hS HP HSe HT
          revert HB hS HP HSe HT
          generalize V2 = V
          intro HB hS HP HSe HT
          refine wpAnyH_ready (rs := [3]) (by kernel_rfl) (by simp) ?_
          refine AllReadyH.cons (o := { dst := some 12, op := .call { callee := .value (.func 34), args := #[.tmp 9, .tmp 11], argTypes := #[23, 62] }, type := _, pos := _, after := _, guard := none }) rfl (fun K hK => ?_) AllReadyH.nil
          go_simp
          refine (KD.out _ HB.out a9 c9 HSe.out).mono ?_
          rintro e w8 ⟨rfl, hbA⟩
          have HB2 : Hid (Below V0.heap.size V0 w8) := below_on hbA HB.out
          have hS2 := HCD.out _ HB2.out
          have HT2 : Hid (w8.heap[g5]? = some (.cells #[.int .i64 0, .int .i64 0, .slice none 0 0] 56 (0, 0)) ∧ V0.heap.size ≤ g5) := ⟨(hbA.block _ (heap_lt HT.out.1)).trans HT.out.1, HT.out.2⟩
          have HP2 : Hid (w8.heap[g6]? = some (.cells #[.slice none 0 0, .slice none 0 0] 59 (0, 0)) ∧ V0.heap.size ≤ g6) := ⟨(hbA.block _ (heap_lt HP.out.1)).trans HP.out.1, HP.out.2⟩
          refine hK.out _ _ hS2 (fun _ => ?_)
          clear hK K hS HB hbA HSe HT HP
          (try simp only [Act.put, List.setIfInBounds_toArray, List.set_cons_zero, List.set_cons_succ])
          revert HB2 hS2 HT2 HP2
          generalize w8 = V
          intro HB hS HT HP
          refine wpAnyH_take (i := 4) (oi := { dst := some 8, op := .move (.tmp 12), type := _, pos := _, after := _, guard := none }) (v := .tuple #[.agg #[.int .i64 0, .int .i64 0, .slice none 0 0], .agg #[.slice none 0 0, .slice none 0 0], .int .i64 141]) rfl (by kernel_rfl) (by kernel_rfl) (by kernel_rfl) (fun _ _ _ h => h) (Or.inl ⟨by rfl, by intro x _; go_simp⟩) hS ?_
          (try simp only [Act.put, List.setIfInBounds_toArray, List.set_cons_zero, List.set_cons_succ])
          refine wpAnyH_take (i := 5) (oi := { dst := some 13, op := .extract (.tmp 8) 0, type := _, pos := _, after := _, guard := none }) (v := .agg #[.int .i64 0, .int .i64 0, .slice none 0 0]) rfl (by kernel_rfl) (by kernel_rfl) (by kernel_rfl) (fun _ _ _ h => h) (Or.inl ⟨by rfl, by intro x _; go_simp⟩) hS ?_
          (try simp only [Act.put, List.setIfInBounds_toArray, List.set_cons_zero, List.set_cons_succ])
          refine wpAnyH_take (i := 6) (oi := { dst := some 14, op := .extract (.tmp 8) 1, type := _, pos := _, after := _, guard := none }) (v := .agg #[.slice none 0 0, .slice none 0 0]) rfl (by kernel_rfl) (by kernel_rfl) (by kernel_rfl) (fun _ _ _ h => h) (Or.inl ⟨by rfl, by intro x _; go_simp⟩) hS ?_
          (try simp only [Act.put, List.setIfInBounds_toArray, List.set_cons_zero, List.set_cons_succ])
          refine wpAnyH_take (i := 7) (oi := { dst := some 15, op := .extract (.tmp 8) 2, type := _, pos := _, after := _, guard := none }) (v := .int .i64 141) rfl (by kernel_rfl) (by kernel_rfl) (by kernel_rfl) (fun _ _ _ h => h) (Or.inl ⟨by rfl, by intro x _; go_simp⟩) hS ?_
          (try simp only [Act.put, List.setIfInBounds_toArray, List.set_cons_zero, List.set_cons_succ])
          refine wpAnyH_ready (rs := [10]) (by kernel_rfl) (by simp) ?_
          refine AllReadyH.cons (o := { dst := none, op := .store 56 (.tmp 5) (.tmp 13), type := _, pos := _, after := _, guard := none }) rfl (fun K hK => ?_) AllReadyH.nil
          obtain ⟨q0, q1, q2⟩ := cells3 HT.out.1
          have f5 : ∀ j, V.frozen? ⟨g5, j, none⟩ = false := fun j => frozen_of_heap HT.out.1
          have HB2 : Hid (Below V0.heap.size V0 (((V.setCell ⟨g5, 0, none⟩ (.int .i64 0)).setCell ⟨g5, 1, none⟩ (.int .i64 0)).setCell ⟨g5, 2, none⟩ (.slice none 0 0))) := ((HB.out.setCell HT.out.2 _).setCell HT.out.2 _).setCell HT.out.2 _
          have hS2 := HCD.out _ HB2.out
          have HT2 : Hid ((((V.setCell ⟨g5, 0, none⟩ (.int .i64 0)).setCell ⟨g5, 1, none⟩ (.int .i64 0)).setCell ⟨g5, 2, none⟩ (.slice none 0 0)).heap[g5]? = some (.cells #[.int .i64 0, .int .i64 0, .slice none 0 0] 56 (0, 0)) ∧ V0.heap.size ≤ g5) := ⟨Tr.put3A HT.out.1, HT.out.2⟩
          have hne : g6 ≠ g5 := ty_ne HP.out.1 HT.out.1 (by decide)
          have HP2 : Hid ((((V.setCell ⟨g5, 0, none⟩ (.int .i64 0)).setCell ⟨g5, 1, none⟩ (.int .i64 0)).setCell ⟨g5, 2, none⟩ (.slice none 0 0)).heap[g6]? = some (.cells #[.slice none 0 0, .slice none 0 0] 59 (0, 0)) ∧ V0.heap.size ≤ g6) := ⟨by rw [heap_setCell_other _ _ _ _ hne, heap_setCell_other _ _ _ _ hne, heap_setCell_other _ _ _ _ hne]; exact HP.out.1, HP.out.2⟩
          clear HT HP HB
          go_simp
          refine hK.out _ _ hS2 (fun _ => ?_)
          clear hK K hS q0 q1 q2 f5 hne
          (try simp only [Act.put])
          revert HB2 hS2 HT2 HP2
          generalize (((V.setCell ⟨g5, 0, none⟩ (.int .i64 0)).setCell ⟨g5, 1, none⟩ (.int .i64 0)).setCell ⟨g5, 2, none⟩ (.slice none 0 0)) = V2
          intro HB hS HT HP
          revert HB hS HT HP
          generalize V2 = V
          intro HB hS HT HP
          refine wpAnyH_ready (rs := [11]) (by kernel_rfl) (by simp) ?_
          refine AllReadyH.cons (o := { dst := none, op := .store 59 (.tmp 6) (.tmp 14), type := _, pos := _, after := _, guard := none }) rfl (fun K hK => ?_) AllReadyH.nil
          obtain ⟨q0, q1⟩ := cells2 HP.out.1
          have f5 : ∀ j, V.frozen? ⟨g6, j, none⟩ = false := fun j => frozen_of_heap HP.out.1
          have HB2 : Hid (Below V0.heap.size V0 ((V.setCell ⟨g6, 0, none⟩ (.slice none 0 0)).setCell ⟨g6, 1, none⟩ (.slice none 0 0))) := (HB.out.setCell HP.out.2 _).setCell HP.out.2 _
          have hS2 := HCD.out _ HB2.out
          have hne : g5 ≠ g6 := ty_ne HT.out.1 HP.out.1 (by decide)
          have HT2 : Hid (((V.setCell ⟨g6, 0, none⟩ (.slice none 0 0)).setCell ⟨g6, 1, none⟩ (.slice none 0 0)).heap[g5]? = some (.cells #[.int .i64 0, .int .i64 0, .slice none 0 0] 56 (0, 0)) ∧ V0.heap.size ≤ g5) := ⟨by rw [heap_setCell_other _ _ _ _ hne, heap_setCell_other _ _ _ _ hne]; exact HT.out.1, HT.out.2⟩
          have HP2 : Hid (((V.setCell ⟨g6, 0, none⟩ (.slice none 0 0)).setCell ⟨g6, 1, none⟩ (.slice none 0 0)).heap[g6]? = some (.cells #[.slice none 0 0, .slice none 0 0] 59 (0, 0)) ∧ V0.heap.size ≤ g6) := ⟨Tr.put2A HP.out.1, HP.out.2⟩
          clear HT HP HB
          go_simp
          refine hK.out _ _ hS2 (fun _ => ?_)
          clear hK K hS q0 q1 f5 hne
          (try simp only [Act.put])
          revert HB2 hS2 HT2 HP2
          generalize ((V.setCell ⟨g6, 0, none⟩ (.slice none 0 0)).setCell ⟨g6, 1, none⟩ (.slice none 0 0)) = V2
          intro HB hS HT HP
          revert HB hS HT HP
          generalize V2 = V
          intro HB hS HT HP
          refine wpAnyH_take (i := 12) (oi := { dst := some 7, op := .assign (.tmp 15), type := _, pos := _, after := _, guard := none }) (v := .int .i64 141) rfl (by kernel_rfl) (by kernel_rfl) (by kernel_rfl) (fun _ _ _ h => h) (Or.inl ⟨by rfl, by intro x _; go_simp⟩) hS ?_
          (try simp only [Act.put, List.setIfInBounds_toArray, List.set_cons_zero, List.set_cons_succ])
          refine wpAnyH_done (by kernel_rfl) ?_ _
          go_wp2_with fail
          go_meet
          exact ⟨g5, g6, rfl, rfl, rfl, ⟨HT.out.1, HP.out.1⟩, HB.out⟩
    · go_simp
      have hbA : Below V.heap.size V (V.alloc (.cells #[.int .i64 0, .int .i64 0, .slice none 0 0] 56)) := (Below.refl _ _).alloc (Nat.le_refl _) _
      have HB2 : Hid (Below V0.heap.size V0 (V.alloc (.cells #[.int .i64 0, .int .i64 0, .slice none 0 0] 56))) := below_on hbA HB.out
      have hS2 := HCD.out _ HB2.out
      have HT2 : Hid ((V.alloc (.cells #[.int .i64 0, .int .i64 0, .slice none 0 0] 56)).heap[V.heap.size]? = some (.cells #[.int .i64 0, .int .i64 0, .slice none 0 0] 56 (0, 0)) ∧ V0.heap.size ≤ V.heap.size) := ⟨heap_new V _, HB.out.size⟩
      refine hK.out _ _ hS2 (fun _ => ?_)
      clear hK K hS HB hbA 
      (try simp only [Act.put, List.setIfInBounds_toArray, List.set_cons_zero, List.set_cons_succ])
      revert HB2 hS2 HT2
      generalize (V.alloc (.cells #[.int .i64 0, .int .i64 0, .slice none 0 0] 56)) = V2
      generalize V.heap.size = g5
      intro HB hS HT
      revert HB hS HT
      generalize V2 = V
      intro HB hS HT
      refine wpAnyH_ready (rs := [2, 9]) (by kernel_rfl) (by simp) ?_
      refine AllReadyH.cons (o := { dst := some 11, op := .call { callee := .builtin .append, args := #[.const (.slice none 0 0), .tmp 10], argTypes := #[62, 62] }, type := _, pos := _, after := _, guard := none }) rfl (fun K hK => ?_) (AllReadyH.cons (o := { dst := some 6, op := .alloc 59, type := _, pos := _, after := _, guard := none }) rfl (fun K hK => ?_) AllReadyH.nil)
      · refine step_append_own rfl (.const (.slice none 0 0)) (.tmp 10) 62 rfl V.heap.size 9 i0 (.string { data := #[] }) 1 16 Tryd.underlying62 hi hz0 hz1 hz2 rfl (by decide) (.slice none 0 0) 0 [] (by simp [Act.eval]) (World.ownsRow_nil _ _ _ _) ⟨b, off, none⟩ n k (scC P) (by simp [Act.eval]) HPl.out (HPC.out V HB.out) (sc_one P) (by unfold maxLen; omega) (by omega) (Nat.le_refl _) ?_
        intro v9 w9 hown9 hg9
        have hbA : Below V.heap.size V w9 := grown_below hg9 (Nat.le_refl _) (World.ownsRow_nil V V.heap.size 9 1)
        rw [Nat.zero_add, List.nil_append] at hown9
        obtain ⟨a9, c9, rfl⟩ := owns_form hown9
        have HB2 : Hid (Below V0.heap.size V0 w9) := below_on hbA HB.out
        have hS2 := HCD.out _ HB2.out
        have HT2 : Hid (w9.heap[g5]? = some (.cells #[.int .i64 0, .int .i64 0, .slice none 0 0] 56 (0, 0)) ∧ V0.heap.size ≤ g5) := ⟨(hbA.block _ (heap_lt HT.out.1)).trans HT.out.1, HT.out.2⟩
        have HSe2 : Hid (See w9 1 (.slice a9 n c9) n (scC P)) := see_own hown9 (sc_one P)
        refine hK.out _ _ hS2 (fun _ => ?_)
        clear hK K hS HB hbA hown9 hg9 HT
        (try simp only [Act.put, List.setIfInBounds_toArray, List.set_cons_zero, List.set_cons_succ])
        revert HB2 hS2 HT2 HSe2
        generalize w9 = V
        intro HB hS HT HSe
        refine wpAnyH_ready (rs := [3, 9]) (by kernel_rfl) (by simp) ?_
        refine AllReadyH.cons (o := { dst := some 12, op := .call { callee := .value (.func 34), args := #[.tmp 9, .tmp 11], argTypes := #[23, 62] }, type := _, pos := _, after := _, guard := none }) rfl (fun K hK => ?_) (AllReadyH.cons (o := { dst := some 6, op := .alloc 59, type := _, pos := _, after := _, guard := none }) rfl (fun K hK => ?_) AllReadyH.nil)
        · go_simp
          refine (KD.out _ HB.out a9 c9 HSe.out).mono ?_
          rintro e w8 ⟨rfl, hbA⟩
          have HB2 : Hid (Below V0.heap.size V0 w8) := below_on hbA HB.out
          have hS2 := HCD.out _ HB2.out
          have HT2 : Hid (w8.heap[g5]? = some (.cells #[.int .i64 0, .int .i64 0, .slice none 0 0] 56 (0, 0)) ∧ V0.heap.size ≤ g5) := ⟨(hbA.block _ (heap_lt HT.out.1)).trans HT.out.1, HT.out.2⟩
          refine hK.out _ _ hS2 (fun _ => ?_)
          clear hK K hS HB hbA HSe HT
          (try simp only [Act.put, List.setIfInBounds_toArray, List.set_cons_zero, List.set_cons_succ])
          revert HB2 hS2 HT2
          generalize w8 = V
          intro HB hS HT
          refine wpAnyH_take (i := 4) (oi := { dst := some 8, op := .move (.tmp 12), type := _, pos := _, after := _, guard := none }) (v := .tuple #[.agg #[.int .i64 0, .int .i64 0, .slice none 0 0], .agg #[.slice none 0 0, .slice none 0 0], .int .i64 141]) rfl (by kernel_rfl) (by kernel_rfl) (by kernel_rfl) (fun _ _ _ h => h) (Or.inl ⟨by rfl, by intro x _; go_simp⟩) hS ?_
          (try simp only [Act.put, List.setIfInBounds_toArray, List.set_cons_zero, List.set_cons_succ])
          refine wpAnyH_take (i := 5) (oi := { dst := some 13, op := .extract (.tmp 8) 0, type := _, pos := _, after := _, guard := none }) (v := .agg #[.int .i64 0, .int .i64 0, .slice none 0 0]) rfl (by kernel_rfl) (by kernel_rfl) (by kernel_rfl) (fun _ _ _ h => h) (Or.inl ⟨by rfl, by intro x _; go_simp⟩) hS ?_
          (try simp only [Act.put, List.setIfInBounds_toArray, List.set_cons_zero, List.set_cons_succ])
          refine wpAnyH_take (i := 6) (oi := { dst := some 14, op := .extract (.tmp 8) 1, type := _, pos := _, after := _, guard := none }) (v := .agg #[.slice none 0 0, .slice none 0 0]) rfl (by kernel_rfl) (by kernel_rfl) (by kernel_rfl) (fun _ _ _ h => h) (Or.inl ⟨by rfl, by intro x _; go_simp⟩) hS ?_
          (try simp only [Act.put, List.setIfInBounds_toArray, List.set_cons_zero, List.set_cons_succ])
          refine wpAnyH_take (i := 7) (oi := { dst := some 15, op := .extract (.tmp 8) 2, type := _, pos := _, after := _, guard := none }) (v := .int .i64 141) rfl (by kernel_rfl) (by kernel_rfl) (by kernel_rfl) (fun _ _ _ h => h) (Or.inl ⟨by rfl, by intro x _; go_simp⟩) hS ?_
          (try simp only [Act.put, List.setIfInBounds_toArray, List.set_cons_zero, List.set_cons_succ])
          refine wpAnyH_ready (rs := [9]) (by kernel_rfl) (by simp) ?_
          refine AllReadyH.cons (o := { dst := some 6, op := .alloc 59, type := _, pos := _, after := _, guard := none }) rfl (fun K hK => ?_) AllReadyH.nil
          go_simp
          have hbA : Below V.heap.size V (V.alloc (.cells #[.slice none 0 0, .slice none 0 0] 59)) := (Below.refl _ _).alloc (Nat.le_refl _) _
          have HB2 : Hid (Below V0.heap.size V0 (V.alloc (.cells #[.slice none 0 0, .slice none 0 0] 59))) := below_on hbA HB.out
          have hS2 := HCD.out _ HB2.out
          have HT2 : Hid ((V.alloc (.cells #[.slice none 0 0, .slice none 0 0] 59)).heap[g5]? = some (.cells #[.int .i64 0, .int .i64 0, .slice none 0 0] 56 (0, 0)) ∧ V0.heap.size ≤ g5) := ⟨(hbA.block _ (heap_lt HT.out.1)).trans HT.out.1, HT.out.2⟩
          have HP2 : Hid ((V.alloc (.cells #[.slice none 0 0, .slice none 0 0] 59)).heap[V.heap.size]? = some (.cells #[.slice none 0 0, .slice none 0 0] 59 (0, 0)) ∧ V0.heap.size ≤ V.heap.size) := ⟨heap_new V _, HB.out.size⟩
          refine hK.out _ _ hS2 (fun _ => ?_)
          clear hK K hS HB hbA HT
          (try simp only [Act.put, List.setIfInBounds_toArray, List.set_cons_zero, List.set_cons_succ])
          revert HB2 hS2 HT2 HP2
          generalize (V.alloc (.cells #[.slice none 0 0, .slice none 0 0] 59)) = V2
          generalize V.heap.size = g6
          intro HB hS HT HP
          revert HB hS HT HP
          generalize V2 = V
          intro HB hS HT HP
          refine wpAnyH_ready (rs := [10]) (by kernel_rfl) (by simp) ?_
          refine AllReadyH.cons (o := { dst := none, op := .store 56 (.tmp 5) (.tmp 13), type := _, pos := _, after := _, guard := none }) rfl (fun K hK => ?_) AllReadyH.nil
          obtain ⟨q0, q1, q2⟩ := cells3 HT.out.1
          have f5 : ∀ j, V.frozen? ⟨g5, j, none⟩ = false := fun j => frozen_of_heap HT.out.1
          have HB2 : Hid (Below V0.heap.size V0 (((V.setCell ⟨g5, 0, none⟩ (.int .i64 0)).setCell ⟨g5, 1, none⟩ (.int .i64 0)).setCell ⟨g5, 2, none⟩ (.slice none 0 0))) := ((HB.out.setCell HT.out.2 _).setCell HT.out.2 _).setCell HT.out.2 _
          have hS2 := HCD.out _ HB2.out
          have HT2 : Hid ((((V.setCell ⟨g5, 0, none⟩ (.int .i64 0)).setCell ⟨g5, 1, none⟩ (.int .i64 0)).setCell ⟨g5, 2, none⟩ (.slice none 0 0)).heap[g5]? = some (.cells #[.int .i64 0, .int .i64 0, .slice none 0 0] 56 (0, 0)) ∧ V0.heap.size ≤ g5) := ⟨Tr.put3A HT.out.1, HT.out.2⟩
          have hne : g6 ≠ g5 := ty_ne HP.out.1 HT.out.1 (by decide)
          have HP2 : Hid ((((V.setCell ⟨g5, 0, none⟩ (.int .i64 0)).setCell ⟨g5, 1, none⟩ (.int .i64 0)).setCell ⟨g5, 2, none⟩ (.slice none 0 0)).heap[g6]? = some (.cells #[.slice none 0 0, .slice none 0 0] 59 (0, 0)) ∧ V0.heap.size ≤ g6) := ⟨by rw [heap_setCell_other _ _ _ _ hne, heap_setCell_other _ _ _ _ hne, heap_setCell_other _ _ _ _ hne]; exact HP.out.1, HP.out.2⟩
          clear HT HP HB
          go_simp
          refine hK.out _ _ hS2 (fun _ => ?_)
          clear hK K hS q0 q1 q2 f5 hne
          (try simp only [Act.put])
          revert HB2 hS2 HT2 HP2
          generalize (((V.setCell ⟨g5, 0, none⟩ (.int .i64 0)).setCell ⟨g5, 1, none⟩ (.int .i64 0)).setCell ⟨g5, 2, none⟩ (.slice none 0 0)) = V2
          intro HB hS HT HP
          revert HB hS HT HP
          generalize V2 = V
          intro HB hS HT HP
          refine wpAnyH_ready (rs := [11]) (by kernel_rfl) (by simp) ?_
          refine AllReadyH.cons (o := { dst := none, op := .store 59 (.tmp 6) (.tmp 14), type := _, pos := _, after := _, guard := none }) rfl (fun K hK => ?_) AllReadyH.nil
          obtain ⟨q0, q1⟩ := cells2 HP.out.1
          have f5 : ∀ j, V.frozen? ⟨g6, j, none⟩ = false := fun j => frozen_of_heap HP.out.1
          have HB2 : Hid (Below V0.heap.size V0 ((V.setCell ⟨g6, 0, none⟩ (.slice none 0 0)).setCell ⟨g6, 1, none⟩ (.slice none 0 0))) := (HB.out.setCell HP.out.2 _).setCell HP.out.2 _
          have hS2 := HCD.out _ HB2.out
          have hne : g5 ≠ g6 := ty_ne HT.out.1 HP.out.1 (by decide)
          have HT2 : Hid (((V.setCell ⟨g6, 0, none⟩ (.slice none 0 0)).setCell ⟨g6, 1, none⟩ (.slice none 0 0)).heap[g5]? = some (.cells #[.int .i64 0, .int .i64 0, .slice none 0 0] 56 (0, 0)) ∧ V0.heap.size ≤ g5) := ⟨by rw [heap_setCell_other _ _ _ _ hne, heap_setCell_other _ _ _ _ hne]; exact HT.out.1, HT.out.2⟩
          have HP2 : Hid (((V.setCell ⟨g6, 0, none⟩ (.slice none 0 0)).setCell ⟨g6, 1, none⟩ (.slice none 0 0)).heap[g6]? = some (.cells #[.slice none 0 0, .slice none 0 0] 59 (0, 0)) ∧ V0.heap.size ≤ g6) := ⟨Tr.put2A HP.out.1, HP.out.2⟩
          clear HT HP HB
          go_simp
          refine hK.out _ _ hS2 (fun _ => ?_)
          clear hK K hS q0 q1 f5 hne
          (try simp only [Act.put])
          revert HB2 hS2 HT2 HP2
          generalize ((V.setCell ⟨g6, 0, none⟩ (.slice none 0 0)).setCell ⟨g6, 1, none⟩ (.slice none 0 0)) = V2
          intro HB hS HT HP
          revert HB hS HT HP
          generalize V2 = V
          intro HB hS HT HP
          refine wpAnyH_take (i := 12) (oi := { dst := some 7, op := .assign (.tmp 15), type := _, pos := _, after := _, guard := none }) (v := .int .i64 141) rfl (by kernel_rfl) (by kernel_rfl) (by kernel_rfl) (fun _ _ _ h => h) (Or.inl ⟨by rfl, by intro x _; go_simp⟩) hS ?_
          (try simp only [Act.put, List.setIfInBounds_toArray, List.set_cons_zero, List.set_cons_succ])
          refine wpAnyH_done (by kernel_rfl) ?_ _
          go_wp2_with fail
          go_meet
          exact ⟨g5, g6, rfl, rfl, rfl, ⟨HT.out.1, HP.out.1⟩, HB.out⟩
        · go_simp
          have hbA : Below V.heap.size V (V.alloc (.cells #[.slice none 0 0, .slice none 0 0] 59)) := (Below.refl _ _).alloc (Nat.le_refl _) _
          have HB2 : Hid (Below V0.heap.size V0 (V.alloc (.cells #[.slice none 0 0, .slice none 0 0] 59))) := below_on hbA HB.out
          have hS2 := HCD.out _ HB2.out
          have HT2 : Hid ((V.alloc (.cells #[.slice none 0 0, .slice none 0 0] 59)).heap[g5]? = some (.cells #[.int .i64 0, .int .i64 0, .slice none 0 0] 56 (0, 0)) ∧ V0.heap.size ≤ g5) := ⟨(hbA.block _ (heap_lt HT.out.1)).trans HT.out.1, HT.out.2⟩
          have HSe2 : Hid (See (V.alloc (.cells #[.slice none 0 0, .slice none 0 0] 59)) 1 (.slice a9 n c9) n (scC P)) := HSe.out.below hbA
          have HP2 : Hid ((V.alloc (.cells #[.slice none 0 0, .slice none 0 0] 59)).heap[V.heap.size]? = some (.cells #[.slice none 0 0, .slice none 0 0] 59 (0, 0)) ∧ V0.heap.size ≤ V.heap.size) := ⟨heap_new V _, HB.out.size⟩
          refine hK.out _ _ hS2 (fun _ => ?_)
          clear hK K hS HB hbA HT HSe
          (try simp only [Act.put, List.setIfInBounds_toArray, List.set_cons_zero, List.set_cons_succ])
          revert HB2 hS2 HT2 HSe2 HP2
          generalize (V.alloc (.cells #[.slice none 0 0, .slice none 0 0] 59)) = V2
          generalize V.heap.size = g6
          intro HB hS HT HSe HP
          revert HB hS HT HSe HP
          generalize V2 = V
          intro HB hS HT HSe HP
          refine wpAnyH_ready (rs := [3]) (by kernel_rfl) (by simp) ?_
          refine AllReadyH.cons (o := { dst := some 12, op := .call { callee := .value (.func 34), args := #[.tmp 9, .tmp 11], argTypes := #[23, 62] }, type := _, pos := _, after := _, guard := none }) rfl (fun K hK => ?_) AllReadyH.nil
          go_simp
          refine (KD.out _ HB.out a9 c9 HSe.out).mono ?_
          rintro e w8 ⟨rfl, hbA⟩
          have HB2 : Hid (Below V0.heap.size V0 w8) := below_on hbA HB.out
          have hS2 := HCD.out _ HB2.out
          have HT2 : Hid (w8.heap[g5]? = some (.cells #[.int .i64 0, .int .i64 0, .slice none 0 0] 56 (0, 0)) ∧ V0.heap.size ≤ g5) := ⟨(hbA.block _ (heap_lt HT.out.1)).trans HT.out.1, HT.out.2⟩
          have HP2 : Hid (w8.heap[g6]? = some (.cells #[.slice none 0 0, .slice none 0 0] 59 (0, 0)) ∧ V0.heap.size ≤ g6) := ⟨(hbA.block _ (heap_lt HP.out.1)).trans HP.out.1, HP.out.2⟩
          refine hK.out _ _ hS2 (fun _ => ?_)
          clear hK K hS HB hbA HSe HT HP
          (try simp only [Act.put, List.setIfInBounds_toArray, List.set_cons_zero, List.set_cons_succ])
          revert HB2 hS2 HT2 HP2
          generalize w8 = V
          intro HB hS HT HP
          refine wpAnyH_take (i := 4) (oi := { dst := some 8, op := .move (.tmp 12), type := _, pos := _, after := _, guard := none }) (v := .tuple #[.agg #[.int .i64 0, .int .i64 0, .slice none 0 0], .agg #[.slice none 0 0, .slice none 0 0], .int .i64 141]) rfl (by kernel_rfl) (by kernel_rfl) (by kernel_rfl) (fun _ _ _ h => h) (Or.inl ⟨by rfl, by intro x _; go_simp⟩) hS ?_
          (try simp only [Act.put, List.setIfInBounds_toArray, List.set_cons_zero, List.set_cons_succ])
          refine wpAnyH_take (i := 5) (oi := { dst := some 13, op := .extract (.tmp 8) 0, type := _, pos := _, after := _, guard := none }) (v := .agg #[.int .i64 0, .int .i64 0, .slice none 0 0]) rfl (by kernel_rfl) (by kernel_rfl) (by kernel_rfl) (fun _ _ _ h => h) (Or.inl ⟨by rfl, by intro x _; go_simp⟩) hS ?_
          (try simp only [Act.put, List.setIfInBounds_toArray, List.set_cons_zero, List.set_cons_succ])
          refine wpAnyH_take (i := 6) (oi := { dst := some 14, op := .extract (.tmp 8) 1, type := _, pos := _, after := _, guard := none }) (v := .agg #[.slice none 0 0, .slice none 0 0]) rfl (by kernel_rfl) (by kernel_rfl) (by kernel_rfl) (fun _ _ _ h => h) (Or.inl ⟨by rfl, by intro x _; go_simp⟩) hS ?_
          (try simp only [Act.put, List.setIfInBounds_toArray, List.set_cons_zero, List.set_cons_succ])
          refine wpAnyH_take (i := 7) (oi := { dst := some 15, op := .extract (.tmp 8) 2, type := _, pos := _, after := _, guard := none }) (v := .int .i64 141) rfl (by kernel_rfl) (by kernel_rfl) (by kernel_rfl) (fun _ _ _ h => h) (Or.inl ⟨by rfl, by intro x _; go_simp⟩) hS ?_
          (try simp only [Act.put, List.setIfInBounds_toArray, List.set_cons_zero, List.set_cons_succ])
          refine wpAnyH_ready (rs := [10]) (by kernel_rfl) (by simp) ?_
          refine AllReadyH.cons (o := { dst := none, op := .store 56 (.tmp 5) (.tmp 13), type := _, pos := _, after := _, guard := none }) rfl (fun K hK => ?_) AllReadyH.nil
          obtain ⟨q0, q1, q2⟩ := cells3 HT.out.1
          have f5 : ∀ j, V.frozen? ⟨g5, j, none⟩ = false := fun j => frozen_of_heap HT.out.1
          have HB2 : Hid (Below V0.heap.size V0 (((V.setCell ⟨g5, 0, none⟩ (.int .i64 0)).setCell ⟨g5, 1, none⟩ (.int .i64 0)).setCell ⟨g5, 2, none⟩ (.slice none 0 0))) := ((HB.out.setCell HT.out.2 _).setCell HT.out.2 _).setCell HT.out.2 _
          have hS2 := HCD.out _ HB2.out
          have HT2 : Hid ((((V.setCell ⟨g5, 0, none⟩ (.int .i64 0)).setCell ⟨g5, 1, none⟩ (.int .i64 0)).setCell ⟨g5, 2, none⟩ (.slice none 0 0)).heap[g5]? = some (.cells #[.int .i64 0, .int .i64 0, .slice none 0 0] 56 (0, 0)) ∧ V0.heap.size ≤ g5) := ⟨Tr.put3A HT.out.1, HT.out.2⟩
          have hne : g6 ≠ g5 := ty_ne HP.out.1 HT.out.1 (by decide)
          have HP2 : Hid ((((V.setCell ⟨g5, 0, none⟩ (.int .i64 0)).setCell ⟨g5, 1, none⟩ (.int .i64 0)).setCell ⟨g5, 2, none⟩ (.slice none 0 0)).heap[g6]? = some (.cells #[.slice none 0 0, .slice none 0 0] 59 (0, 0)) ∧ V0.heap.size ≤ g6) := ⟨by rw [heap_setCell_other _ _ _ _ hne, heap_setCell_other _ _ _ _ hne, heap_setCell_other _ _ _ _ hne]; exact HP.out.1, HP.out.2⟩
          clear HT HP HB
          go_simp
          refine hK.out _ _ hS2 (fun _ => ?_)
          clear hK K hS q0 q1 q2 f5 hne
          (try simp only [Act.put])
          revert HB2 hS2 HT2 HP2
          generalize (((V.setCell ⟨g5, 0, none⟩ (.int .i64 0)).setCell ⟨g5, 1, none⟩ (.int .i64 0)).setCell ⟨g5, 2, none⟩ (.slice none 0 0)) = V2
          intro HB hS HT HP
          revert HB hS HT HP
          generalize V2 = V
          intro HB hS HT HP
          refine wpAnyH_ready (rs := [11]) (by kernel_rfl) (by simp) ?_
          refine AllReadyH.cons (o := { dst := none, op := .store 59 (.tmp 6) (.tmp 14), type := _, pos := _, after := _, guard := none }) rfl (fun K hK => ?_) AllReadyH.nil
          obtain ⟨q0, q1⟩ := cells2 HP.out.1
          have f5 : ∀ j, V.frozen? ⟨g6, j, none⟩ = false := fun j => frozen_of_heap HP.out.1
          have HB2 : Hid (Below V0.heap.size V0 ((V.setCell ⟨g6, 0, none⟩ (.slice none 0 0)).setCell ⟨g6, 1, none⟩ (.slice none 0 0))) := (HB.out.setCell HP.out.2 _).setCell HP.out.2 _
          have hS2 := HCD.out _ HB2.out
          have hne : g5 ≠ g6 := ty_ne HT.out.1 HP.out.1 (by decide)
          have HT2 : Hid (((V.setCell ⟨g6, 0, none⟩ (.slice none 0 0)).setCell ⟨g6, 1, none⟩ (.slice none 0 0)).heap[g5]? = some (.cells #[.int .i64 0, .int .i64 0, .slice none 0 0] 56 (0, 0)) ∧ V0.heap.size ≤ g5) := ⟨by rw [heap_setCell_other _ _ _ _ hne, heap_setCell_other _ _ _ _ hne]; exact HT.out.1, HT.out.2⟩
          have HP2 : Hid (((V.setCell ⟨g6, 0, none⟩ (.slice none 0 0)).setCell ⟨g6, 1, none⟩ (.slice none 0 0)).heap[g6]? = some (.cells #[.slice none 0 0, .slice none 0 0] 59 (0, 0)) ∧ V0.heap.size ≤ g6) := ⟨Tr.put2A HP.out.1, HP.out.2⟩
          clear HT HP HB
          go_simp
          refine hK.out _ _ hS2 (fun _ => ?_)
          clear hK K hS q0 q1 f5 hne
          (try simp only [Act.put])
          revert HB2 hS2 HT2 HP2
          generalize ((V.setCell ⟨g6, 0, none⟩ (.slice none 0 0)).setCell ⟨g6, 1, none⟩ (.slice none 0 0)) = V2
          intro HB hS HT HP
          revert HB hS HT HP
          generalize V2 = V
          intro HB hS HT HP
          refine wpAnyH_take (i := 12) (oi := { dst := some 7, op := .assign (.tmp 15), type := _, pos := _, after := _, guard := none }) (v := .int .i64 141) rfl (by kernel_rfl) (by kernel_rfl) (by kernel_rfl) (fun _ _ _ h => h) (Or.inl ⟨by rfl, by intro x _; go_simp⟩) hS ?_
          (try simp only [Act.put, List.setIfInBounds_toArray, List.set_cons_zero, List.set_cons_succ])
          refine wpAnyH_done (by kernel_rfl) ?_ _
          go_wp2_with fail
          go_meet
          exact ⟨g5, g6, rfl, rfl, rfl, ⟨HT.out.1, HP.out.1⟩, HB.out⟩
      · go_simp
        have hbA : Below V.heap.size V (V.alloc (.cells #[.slice none 0 0, .slice none 0 0] 59)) := (Below.refl _ _).alloc (Nat.le_refl _) _
        have HB2 : Hid (Below V0.heap.size V0 (V.alloc (.cells #[.slice none 0 0, .slice none 0 0] 59))) := below_on hbA HB.out
        have hS2 := HCD.out _ HB2.out
        have HT2 : Hid ((V.alloc (.cells #[.slice none 0 0, .slice none 0 0] 59)).heap[g5]? = some (.cells #[.int .i64 0, .int .i64 0, .slice none 0 0] 56 (0, 0)) ∧ V0.heap.size ≤ g5) := ⟨(hbA.block _ (heap_lt HT.out.1)).trans HT.out.1, HT.out.2⟩
        have HP2 : Hid ((V.alloc (.cells #[.slice none 0 0, .slice none 0 0] 59)).heap[V.heap.size]? = some (.cells #[.slice none 0 0, .slice none 0 0] 59 (0, 0)) ∧ V0.heap.size ≤ V.heap.size) := ⟨heap_new V _, HB.out.size⟩
        refine hK.out _ _ hS2 (fun _ => ?_)
        clear hK K hS HB hbA HT
        (try simp only [Act.put, List.setIfInBounds_toArray, List.set_cons_zero, List.set_cons_succ])
        revert HB2 hS2 HT2 HP2
        generalize (V.alloc (.cells #[.slice none 0 0, .slice none 0 0] 59)) = V2
        generalize V.heap.size = g6
        intro HB hS HT HP
        revert HB hS HT HP
        generalize V2 = V
        intro HB hS HT HP
        refine wpAnyH_ready (rs := [2]) (by kernel_rfl) (by simp) ?_
        refine AllReadyH.cons (o := { dst := some 11, op := .call { callee := .builtin .append, args := #[.const (.slice none 0 0), .tmp 10], argTypes := #[62, 62] }, type := _, pos := _, after := _, guard := none }) rfl (fun K hK => ?_) AllReadyH.nil
        refine step_append_own rfl (.const (.slice none 0 0)) (.tmp 10) 62 rfl V.heap.size 9 i0 (.string { data := #[] }) 1 16 Tryd.underlying62 hi hz0 hz1 hz2 rfl (by decide) (.slice none 0 0) 0 [] (by simp [Act.eval]) (World.ownsRow_nil _ _ _ _) ⟨b, off, none⟩ n k (scC P) (by simp [Act.eval]) HPl.out (HPC.out V HB.out) (sc_one P) (by unfold maxLen; omega) (by omega) (Nat.le_refl _) ?_
        intro v9 w9 hown9 hg9
        have hbA : Below V.heap.size V w9 := grown_below hg9 (Nat.le_refl _) (World.ownsRow_nil V V.heap.size 9 1)
        rw [Nat.zero_add, List.nil_append] at hown9
        obtain ⟨a9, c9, rfl⟩ := owns_form hown9
        have HB2 : Hid (Below V0.heap.size V0 w9) := below_on hbA HB.out
        have hS2 := HCD.out _ HB2.out
        have HT2 : Hid (w9.heap[g5]? = some (.cells #[.int .i64 0, .int .i64 0, .slice none 0 0] 56 (0, 0)) ∧ V0.heap.size ≤ g5) := ⟨(hbA.block _ (heap_lt HT.out.1)).trans HT.out.1, HT.out.2⟩
        have HP2 : Hid (w9.heap[g6]? = some (.cells #[.slice none 0 0, .slice none 0 0] 59 (0, 0)) ∧ V0.heap.size ≤ g6) := ⟨(hbA.block _ (heap_lt HP.out.1)).trans HP.out.1, HP.out.2⟩
        have HSe2 : Hid (See w9 1 (.slice a9 n c9) n (scC P)) := see_own hown9 (sc_one P)
        refine hK.out _ _ hS2 (fun _ => ?_)
        clear hK K hS HB hbA hown9 hg9 HT HP
        (try simp only [Act.put, List.setIfInBounds_toArray, List.set_cons_zero, List.set_cons_succ])
        revert HB2 hS2 HT2 HP2 HSe2
        generalize w9 = V
        intro HB hS HT HP HSe
        refine wpAnyH_ready (rs := [3]) (by kernel_rfl) (by simp) ?_
        refine AllReadyH.cons (o := { dst := some 12, op := .call { callee := .value (.func 34), args := #[.tmp 9, .tmp 11], argTypes := #[23, 62] }, type := _, pos := _, after := _, guard := none }) rfl (fun K hK => ?_) AllReadyH.nil
        go_simp
        refine (KD.out _ HB.out a9 c9 HSe.out).mono ?_
        rintro e w8 ⟨rfl, hbA⟩
        have HB2 : Hid (Below V0.heap.size V0 w8) := below_on hbA HB.out
        have hS2 := HCD.out _ HB2.out
        have HT2 : Hid (w8.heap[g5]? = some (.cells #[.int .i64 0, .int .i64 0, .slice none 0 0] 56 (0, 0)) ∧ V0.heap.size ≤ g5) := ⟨(hbA.block _ (heap_lt HT.out.1)).trans HT.out.1, HT.out.2⟩
        have HP2 : Hid (w8.heap[g6]? = some (.cells #[.slice none 0 0, .slice none 0 0] 59 (0, 0)) ∧ V0.heap.size ≤ g6) := ⟨(hbA.block _ (heap_lt HP.out.1)).trans HP.out.1, HP.out.2⟩
        refine hK.out _ _ hS2 (fun _ => ?_)
        clear hK K hS HB hbA HSe HT HP
        (try simp only [Act.put, List.setIfInBounds_toArray, List.set_cons_zero, List.set_cons_succ])
        revert HB2 hS2 HT2 HP2
        generalize w8 = V
        intro HB hS HT HP
        refine wpAnyH_take (i := 4) (oi := { dst := some 8, op := .move (.tmp 12), type := _, pos := _, after := _, guard := none }) (v := .tuple #[.agg #[.int .i64 0, .int .i64 0, .slice none 0 0], .agg #[.slice none 0 0, .slice none 0 0], .int .i64 141]) rfl (by kernel_rfl) (by kernel_rfl) (by kernel_rfl) (fun _ _ _ h => h) (Or.inl ⟨by rfl, by intro x _; go_simp⟩) hS ?_
        (try simp only [Act.put, List.setIfInBounds_toArray, List.set_cons_zero, List.set_cons_succ])
        refine wpAnyH_take (i := 5) (oi := { dst := some 13, op := .extract (.tmp 8) 0, type := _, pos := _, after := _, guard := none }) (v := .agg #[.int .i64 0, .int .i64 0, .slice none 0 0]) rfl (by kernel_rfl) (by kernel_rfl) (by kernel_rfl) (fun _ _ _ h => h) (Or.inl ⟨by rfl, by intro x _; go_simp⟩) hS ?_
        (try simp only [Act.put, List.setIfInBounds_toArray, List.set_cons_zero, List.set_cons_succ])
        refine wpAnyH_take (i := 6) (oi := { dst := some 14, op := .extract (.tmp 8) 1, type := _, pos := _, after := _, guard := none }) (v := .agg #[.slice none 0 0, .slice none 0 0]) rfl (by kernel_rfl) (by kernel_rfl) (by kernel_rfl) (fun _ _ _ h => h) (Or.inl ⟨by rfl, by intro x _; go_simp⟩) hS ?_
        (try simp only [Act.put, List.setIfInBounds_toArray, List.set_cons_zero, List.set_cons_succ])
        refine wpAnyH_take (i := 7) (oi := { dst := some 15, op := .extract (.tmp 8) 2, type := _, pos := _, after := _, guard := none }) (v := .int .i64 141) rfl (by kernel_rfl) (by kernel_rfl) (by kernel_rfl) (fun _ _ _ h => h) (Or.inl ⟨by rfl, by intro x _; go_simp⟩) hS ?_
        (try simp only [Act.put, List.setIfInBounds_toArray, List.set_cons_zero, List.set_cons_succ])
        refine wpAnyH_ready (rs := [10]) (by kernel_rfl) (by simp) ?_
        refine AllReadyH.cons (o := { dst := none, op := .store 56 (.tmp 5) (.tmp 13), type := _, pos := _, after := _, guard := none }) rfl (fun K hK => ?_) AllReadyH.nil
        obtain ⟨q0, q1, q2⟩ := cells3 HT.out.1
        have f5 : ∀ j, V.frozen? ⟨g5, j, none⟩ = false := fun j => frozen_of_heap HT.out.1
        have HB2 : Hid (Below V0.heap.size V0 (((V.setCell ⟨g5, 0, none⟩ (.int .i64 0)).setCell ⟨g5, 1, none⟩ (.int .i64 0)).setCell ⟨g5, 2, none⟩ (.slice none 0 0))) := ((HB.out.setCell HT.out.2 _).setCell HT.out.2 _).setCell HT.out.2 _
        have hS2 := HCD.out _ HB2.out
        have HT2 : Hid ((((V.setCell ⟨g5, 0, none⟩ (.int .i64 0)).setCell ⟨g5, 1, none⟩ (.int .i64 0)).setCell ⟨g5, 2, none⟩ (.slice none 0 0)).heap[g5]? = some (.cells #[.int .i64 0, .int .i64 0, .slice none 0 0] 56 (0, 0)) ∧ V0.heap.size ≤ g5) := ⟨Tr.put3A HT.out.1, HT.out.2⟩
        have hne : g6 ≠ g5 := ty_ne HP.out.1 HT.out.1 (by decide)
        have HP2 : Hid ((((V.setCell ⟨g5, 0, none⟩ (.int .i64 0)).setCell ⟨g5, 1, none⟩ (.int .i64 0)).setCell ⟨g5, 2, none⟩ (.slice none 0 0)).heap[g6]? = some (.cells #[.slice none 0 0, .slice none 0 0] 59 (0, 0)) ∧ V0.heap.size ≤ g6) := ⟨by rw [heap_setCell_other _ _ _ _ hne, heap_setCell_other _ _ _ _ hne, heap_setCell_other _ _ _ _ hne]; exact HP.out.1, HP.out.2⟩
        clear HT HP HB
        go_simp
        refine hK.out _ _ hS2 (fun _ => ?_)
        clear hK K hS q0 q1 q2 f5 hne
        (try simp only [Act.put])
        revert HB2 hS2 HT2 HP2
        generalize (((V.setCell ⟨g5, 0, none⟩ (.int .i64 0)).setCell ⟨g5, 1, none⟩ (.int .i64 0)).setCell ⟨g5, 2, none⟩ (.slice none 0 0)) = V2
        intro HB hS HT HP
        revert HB hS HT HP
        generalize V2 = V
        intro HB hS HT HP
        refine wpAnyH_ready (rs := [11]) (by kernel_rfl) (by simp) ?_
        refine AllReadyH.cons (o := { dst := none, op := .store 59 (.tmp 6) (.tmp 14), type := _, pos := _, after := _, guard := none }) rfl (fun K hK => ?_) AllReadyH.nil
        obtain ⟨q0, q1⟩ := cells2 HP.out.1
        have f5 : ∀ j, V.frozen? ⟨g6, j, none⟩ = false := fun j => frozen_of_heap HP.out.1
        have HB2 : Hid (Below V0.heap.size V0 ((V.setCell ⟨g6, 0, none⟩ (.slice none 0 0)).setCell ⟨g6, 1, none⟩ (.slice none 0 0))) := (HB.out.setCell HP.out.2 _).setCell HP.out.2 _
        have hS2 := HCD.out _ HB2.out
        have hne : g5 ≠ g6 := ty_ne HT.out.1 HP.out.1 (by decide)
        have HT2 : Hid (((V.setCell ⟨g6, 0, none⟩ (.slice none 0 0)).setCell ⟨g6, 1, none⟩ (.slice none 0 0)).heap[g5]? = some (.cells #[.int .i64 0, .int .i64 0, .slice none 0 0] 56 (0, 0)) ∧ V0.heap.size ≤ g5) := ⟨by rw [heap_setCell_other _ _ _ _ hne, heap_setCell_other _ _ _ _ hne]; exact HT.out.1, HT.out.2⟩
        have HP2 : Hid (((V.setCell ⟨g6, 0, none⟩ (.slice none 0 0)).setCell ⟨g6, 1, none⟩ (.slice none 0 0)).heap[g6]? = some (.cells #[.slice none 0 0, .slice none 0 0] 59 (0, 0)) ∧ V0.heap.size ≤ g6) := ⟨Tr.put2A HP.out.1, HP.out.2⟩
        clear HT HP HB
        go_simp
        refine hK.out _ _ hS2 (fun _ => ?_)
        clear hK K hS q0 q1 f5 hne
        (try simp only [Act.put])
        revert HB2 hS2 HT2 HP2
        generalize ((V.setCell ⟨g6, 0, none⟩ (.slice none 0 0)).setCell ⟨g6, 1, none⟩ (.slice none 0 0)) = V2
        intro HB hS HT HP
        revert HB hS HT HP
        generalize V2 = V
        intro HB hS HT HP
        refine wpAnyH_take (i := 12) (oi := { dst := some 7, op := .assign (.tmp 15), type := _, pos := _, after := _, guard := none }) (v := .int .i64 141) rfl (by kernel_rfl) (by kernel_rfl) (by kernel_rfl) (fun _ _ _ h => h) (Or.inl ⟨by rfl, by intro x _; go_simp⟩) hS ?_
        (try simp only [Act.put, List.setIfInBounds_toArray, List.set_cons_zero, List.set_cons_succ])
        refine wpAnyH_done (by kernel_rfl) ?_ _
        go_wp2_with fail
        go_meet
        exact ⟨g5, g6, rfl, rfl, rfl, ⟨HT.out.1, HP.out.1⟩, HB.out⟩
    · go_simp
      have hbA : Below V.heap.size V (V.alloc (.cells #[.slice none 0 0, .slice none 0 0] 59)) := (Below.refl _ _).alloc (Nat.le_refl _) _
      have HB2 : Hid (Below V0.heap.size V0 (V.alloc (.cells #[.slice none 0 0, .slice none 0 0] 59))) := below_on hbA HB.out
      have hS2 := HCD.out _ HB2.out
      have HP2 : Hid ((V.alloc (.cells #[.slice none 0 0, .slice none 0 0] 59)).heap[V.heap.size]? = some (.cells #[.slice none 0 0, .slice none 0 0] 59 (0, 0)) ∧ V0.heap.size ≤ V.heap.size) := ⟨heap_new V _, HB.out.size⟩
      refine hK.out _ _ hS2 (fun _ => ?_)
      clear hK K hS HB hbA 
      (try simp only [Act.put, List.setIfInBounds_toArray, List.set_cons_zero, List.set_cons_succ])
      revert HB2 hS2 HP2
      generalize (V.alloc (.cells #[.slice none 0 0, .slice none 0 0] 59)) = V2
      generalize V.heap.size = g6
      intro HB hS HP
      revert HB hS HP
      generalize V2 = V
      intro HB hS HP
      refine wpAnyH_ready (rs := [2, 8]) (by kernel_rfl) (by simp) ?_
      refine AllReadyH.cons (o := { dst := some 11, op := .call { callee := .builtin .append, args := #[.const (.slice none 0 0), .tmp 10], argTypes := #[62, 62] }, type := _, pos := _, after := _, guard := none }) rfl (fun K hK => ?_) (AllReadyH.cons (o := { dst := some 5, op := .alloc 56, type := _, pos := _, after := _, guard := none }) rfl (fun K hK => ?_) AllReadyH.nil)
      · refine step_append_own rfl (.const (.slice none 0 0)) (.tmp 10) 62 rfl V.heap.size 9 i0 (.string { data := #[] }) 1 16 Tryd.underlying62 hi hz0 hz1 hz2 rfl (by decide) (.slice none 0 0) 0 [] (by simp [Act.eval]) (World.ownsRow_nil _ _ _ _) ⟨b, off, none⟩ n k (scC P) (by simp [Act.eval]) HPl.out (HPC.out V HB.out) (sc_one P) (by unfold maxLen; omega) (by omega) (Nat.le_refl _) ?_
        intro v9 w9 hown9 hg9
        have hbA : Below V.heap.size V w9 := grown_below hg9 (Nat.le_refl _) (World.ownsRow_nil V V.heap.size 9 1)
        rw [Nat.zero_add, List.nil_append] at hown9
        obtain ⟨a9, c9, rfl⟩ := owns_form hown9
        have HB2 : Hid (Below V0.heap.size V0 w9) := below_on hbA HB.out
        have hS2 := HCD.out _ HB2.out
        have HP2 : Hid (w9.heap[g6]? = some (.cells #[.slice none 0 0, .slice none 0 0] 59 (0, 0)) ∧ V0.heap.size ≤ g6) := ⟨(hbA.block _ (heap_lt HP.out.1)).trans HP.out.1, HP.out.2⟩
        have HSe2 : Hid (See w9 1 (.slice a9 n c9) n (scC P)) := see_own hown9 (sc_one P)
        refine hK.out _ _ hS2 (fun _ => ?_)
        clear hK K hS HB hbA hown9 hg9 HP
        (try simp only [Act.put, List.setIfInBounds_toArray, List.set_cons_zero, List.set_cons_succ])
        revert HB2 hS2 HP2 HSe2
        generalize w9 = V
        intro HB hS HP HSe
        refine wpAnyH_ready (rs := [3, 8]) (by kernel_rfl) (by simp) ?_
        refine AllReadyH.cons (o := { dst := some 12, op := .call { callee := .value (.func 34), args := #[.tmp 9, .tmp 11], argTypes := #[23, 62] }, type := _, pos := _, after := _, guard := none }) rfl (fun K hK => ?_) (AllReadyH.cons (o := { dst := some 5, op := .alloc 56, type := _, pos := _, after := _, guard := none }) rfl (fun K hK => ?_) AllReadyH.nil)
        · go_simp
          refine (KD.out _ HB.out a9 c9 HSe.out).mono ?_
          rintro e w8 ⟨rfl, hbA⟩
          have HB2 : Hid (Below V0.heap.size V0 w8) := below_on hbA HB.out
          have hS2 := HCD.out _ HB2.out
          have HP2 : Hid (w8.heap[g6]? = some (.cells #[.slice none 0 0, .slice none 0 0] 59 (0, 0)) ∧ V0.heap.size ≤ g6) := ⟨(hbA.block _ (heap_lt HP.out.1)).trans HP.out.1, HP.out.2⟩
          refine hK.out _ _ hS2 (fun _ => ?_)
          clear hK K hS HB hbA HSe HP
          (try simp only [Act.put, List.setIfInBounds_toArray, List.set_cons_zero, List.set_cons_succ])
          revert HB2 hS2 HP2
          generalize w8 = V
          intro HB hS HP
          refine wpAnyH_take (i := 4) (oi := { dst := some 8, op := .move (.tmp 12), type := _, pos := _, after := _, guard := none }) (v := .tuple #[.agg #[.int .i64 0, .int .i64 0, .slice none 0 0], .agg #[.slice none 0 0, .slice none 0 0], .int .i64 141]) rfl (by kernel_rfl) (by kernel_rfl) (by kernel_rfl) (fun _ _ _ h => h) (Or.inl ⟨by rfl, by intro x _; go_simp⟩) hS ?_
          (try simp only [Act.put, List.setIfInBounds_toArray, List.set_cons_zero, List.set_cons_succ])
          refine wpAnyH_take (i := 5) (oi := { dst := some 13, op := .extract (.tmp 8) 0, type := _, pos := _, after := _, guard := none }) (v := .agg #[.int .i64 0, .int .i64 0, .slice none 0 0]) rfl (by kernel_rfl) (by kernel_rfl) (by kernel_rfl) (fun _ _ _ h => h) (Or.inl ⟨by rfl, by intro x _; go_simp⟩) hS ?_
          (try simp only [Act.put, List.setIfInBounds_toArray, List.set_cons_zero, List.set_cons_succ])
          refine wpAnyH_take (i := 6) (oi := { dst := some 14, op := .extract (.tmp 8) 1, type := _, pos := _, after := _, guard := none }) (v := .agg #[.slice none 0 0, .slice none 0 0]) rfl (by kernel_rfl) (by kernel_rfl) (by kernel_rfl) (fun _ _ _ h => h) (Or.inl ⟨by rfl, by intro x _; go_simp⟩) hS ?_
          (try simp only [Act.put, List.setIfInBounds_toArray, List.set_cons_zero, List.set_cons_succ])
          refine wpAnyH_take (i := 7) (oi := { dst := some 15, op := .extract (.tmp 8) 2, type := _, pos := _, after := _, guard := none }) (v := .int .i64 141) rfl (by kernel_rfl) (by kernel_rfl) (by kernel_rfl) (fun _ _ _ h => h) (Or.inl ⟨by rfl, by intro x _; go_simp⟩) hS ?_
          (try simp only [Act.put, List.setIfInBounds_toArray, List.set_cons_zero, List.set_cons_succ])
          refine wpAnyH_ready (rs := [8]) (by kernel_rfl) (by simp) ?_
          refine AllReadyH.cons (o := { dst := some 5, op := .alloc 56, type := _, pos := _, after := _, guard := none }) rfl (fun K hK => ?_) AllReadyH.nil
          go_simp
          have hbA : Below V.heap.size V (V.alloc (.cells #[.int .i64 0, .int .i64 0, .slice none 0 0] 56)) := (Below.refl _ _).alloc (Nat.le_refl _) _
          have HB2 : Hid (Below V0.heap.size V0 (V.alloc (.cells #[.int .i64 0, .int .i64 0, .slice none 0 0] 56))) := below_on hbA HB.out
          have hS2 := HCD.out _ HB2.out
          have HP2 : Hid ((V.alloc (.cells #[.int .i64 0, .int .i64 0, .slice none 0 0] 56)).heap[g6]? = some (.cells #[.slice none 0 0, .slice none 0 0] 59 (0, 0)) ∧ V0.heap.size ≤ g6) := ⟨(hbA.block _ (heap_lt HP.out.1)).trans HP.out.1, HP.out.2⟩
          have HT2 : Hid ((V.alloc (.cells #[.int .i64 0, .int .i64 0, .slice none 0 0] 56)).heap[V.heap.size]? = some (.cells #[.int .i64 0, .int .i64 0, .slice none 0 0] 56 (0, 0)) ∧ V0.heap.size ≤ V.heap.size) := ⟨heap_new V _, HB.out.size⟩
          refine hK.out _ _ hS2 (fun _ => ?_)
          clear hK K hS HB hbA HP
          (try simp only [Act.put, List.setIfInBounds_toArray, List.set_cons_zero, List.set_cons_succ])
          revert HB2 hS2 HP2 HT2
          generalize (V.alloc (.cells #[.int .i64 0, .int .i64 0, .slice none 0 0] 56)) = V2
          generalize V.heap.size = g5
          intro HB hS HP HT
          revert HB hS HP HT
          generalize V2 = V
          intro HB hS HP HT
          refine wpAnyH_ready (rs := [10]) (by kernel_rfl) (by simp) ?_
          refine AllReadyH.cons (o := { dst := none, op := .store 56 (.tmp 5) (.tmp 13), type := _, pos := _, after := _, guard := none }) rfl (fun K hK => ?_) AllReadyH.nil
          obtain ⟨q0, q1, q2⟩ := cells3 HT.out.1
          have f5 : ∀ j, V.frozen? ⟨g5, j, none⟩ = false := fun j => frozen_of_heap HT.out.1
          have HB2 : Hid (Below V0.heap.size V0 (((V.setCell ⟨g5, 0, none⟩ (.int .i64 0)).setCell ⟨g5, 1, none⟩ (.int .i64 0)).setCell ⟨g5, 2, none⟩ (.slice none 0 0))) := ((HB.out.setCell HT.out.2 _).setCell HT.out.2 _).setCell HT.out.2 _
          have hS2 := HCD.out _ HB2.out
          have HT2 : Hid ((((V.setCell ⟨g5, 0, none⟩ (.int .i64 0)).setCell ⟨g5, 1, none⟩ (.int .i64 0)).setCell ⟨g5, 2, none⟩ (.slice none 0 0)).heap[g5]? = some (.cells #[.int .i64 0, .int .i64 0, .slice none 0 0] 56 (0, 0)) ∧ V0.heap.size ≤ g5) := ⟨Tr.put3A HT.out.1, HT.out.2⟩
          have hne : g6 ≠ g5 := ty_ne HP.out.1 HT.out.1 (by decide)
          have HP2 : Hid ((((V.setCell ⟨g5, 0, none⟩ (.int .i64 0)).setCell ⟨g5, 1, none⟩ (.int .i64 0)).setCell ⟨g5, 2, none⟩ (.slice none 0 0)).heap[g6]? = some (.cells #[.slice none 0 0, .slice none 0 0] 59 (0, 0)) ∧ V0.heap.size ≤ g6) := ⟨by rw [heap_setCell_other _ _ _ _ hne, heap_setCell_other _ _ _ _ hne, heap_setCell_other _ _ _ _ hne]; exact HP.out.1, HP.out.2⟩
          clear HT HP HB
          go_simp
          refine hK.out _ _ hS2 (fun _ => ?_)
          clear hK K hS q0 q1 q2 f5 hne
          (try simp only [Act.put])
          revert HB2 hS2 HT2 HP2
          generalize (((V.setCell ⟨g5, 0, none⟩ (.int .i64 0)).setCell ⟨g5, 1, none⟩ (.int .i64 0)).setCell ⟨g5, 2, none⟩ (.slice none 0 0)) = V2
          intro HB hS HT HP
          revert HB hS HT HP
          generalize V2 = V
          intro HB hS HT HP
          refine wpAnyH_ready (rs := [11]) (by kernel_rfl) (by simp) ?_
          refine AllReadyH.cons (o := { dst := none, op := .store 59 (.tmp 6) (.tmp 14), type := _, pos := _, after := _, guard := none }) rfl (fun K hK => ?_) AllReadyH.nil
          obtain ⟨q0, q1⟩ := cells2 HP.out.1
          have f5 : ∀ j, V.frozen? ⟨g6, j, none⟩ = false := fun j => frozen_of_heap HP.out.1
          have HB2 : Hid (Below V0.heap.size V0 ((V.setCell ⟨g6, 0, none⟩ (.slice none 0 0)).setCell ⟨g6, 1, none⟩ (.slice none 0 0))) := (HB.out.setCell HP.out.2 _).setCell HP.out.2 _
          have hS2 := HCD.out _ HB2.out
          have hne : g5 ≠ g6 := ty_ne HT.out.1 HP.out.1 (by decide)
          have HT2 : Hid (((V.setCell ⟨g6, 0, none⟩ (.slice none 0 0)).setCell ⟨g6, 1, none⟩ (.slice none 0 0)).heap[g5]? = some (.cells #[.int .i64 0, .int .i64 0, .slice none 0 0] 56 (0, 0)) ∧ V0.heap.size ≤ g5) := ⟨by rw [heap_setCell_other _ _ _ _ hne, heap_setCell_other _ _ _ _ hne]; exact HT.out.1, HT.out.2⟩
          have HP2 : Hid (((V.setCell ⟨g6, 0, none⟩ (.slice none 0 0)).setCell ⟨g6, 1, none⟩ (.slice none 0 0)).heap[g6]? = some (.cells #[.slice none 0 0, .slice none 0 0] 59 (0, 0)) ∧ V0.heap.size ≤ g6) := ⟨Tr.put2A HP.out.1, HP.out.2⟩
          clear HT HP HB
          go_simp
          refine hK.out _ _ hS2 (fun _ => ?_)
          clear hK K hS q0 q1 f5 hne
          (try simp only [Act.put])
          revert HB2 hS2 HT2 HP2
          generalize ((V.setCell ⟨g6, 0, none⟩ (.slice none 0 0)).setCell ⟨g6, 1, none⟩ (.slice none 0 0)) = V2
          intro HB hS HT HP
          revert HB hS HT HP
          generalize V2 = V
          intro HB hS HT HP
          refine wpAnyH_take (i := 12) (oi := { dst := some 7, op := .assign (.tmp 15), type := _, pos := _, after := _, guard := none }) (v := .int .i64 141) rfl (by kernel_rfl) (by kernel_rfl) (by kernel_rfl) (fun _ _ _ h => h) (Or.inl ⟨by rfl, by intro x _; go_simp⟩) hS ?_
          (try simp only [Act.put, List.setIfInBounds_toArray, List.set_cons_zero, List.set_cons_succ])
          refine wpAnyH_done (by kernel_rfl) ?_ _
          go_wp2_with fail
          go_meet
          exact ⟨g5, g6, rfl, rfl, rfl, ⟨HT.out.1, HP.out.1⟩, HB.out⟩
        · go_simp
          have hbA : Below V.heap.size V (V.alloc (.cells #[.int .i64 0, .int .i64 0, .slice none 0 0] 56)) := (Below.refl _ _).alloc (Nat.le_refl _) _
          have HB2 : Hid (Below V0.heap.size V0 (V.alloc (.cells #[.int .i64 0, .int .i64 0, .slice none 0 0] 56))) := below_on hbA HB.out
          have hS2 := HCD.out _ HB2.out
          have HP2 : Hid ((V.alloc (.cells #[.int .i64 0, .int .i64 0, .slice none 0 0] 56)).heap[g6]? = some (.cells #[.slice none 0 0, .slice none 0 0] 59 (0, 0)) ∧ V0.heap.size ≤ g6) := ⟨(hbA.block _ (heap_lt HP.out.1)).trans HP.out.1, HP.out.2⟩
          have HSe2 : Hid (See (V.alloc (.cells #[.int .i64 0, .int .i64 0, .slice none 0 0] 56)) 1 (.slice a9 n c9) n (scC P)) := HSe.out.below hbA
          have HT2 : Hid ((V.alloc (.cells #[.int .i64 0, .int .i64 0, .slice none 0 0] 56)).heap[V.heap.size]? = some (.cells #[.int .i64 0, .int .i64 0, .slice none 0 0] 56 (0, 0)) ∧ V0.heap.size ≤ V.heap.size) := ⟨heap_new V _, HB.out.size⟩
          refine hK.out _ _ hS2 (fun _ => ?_)
          clear hK K hS HB hbA HP HSe
          (try simp only [Act.put, List.setIfInBounds_toArray, List.set_cons_zero, List.set_cons_succ])
          revert HB2 hS2 HP2 HSe2 HT2
          generalize (V.alloc (.cells #[.int .i64 0, .int .i64 0, .slice none 0 0] 56)) = V2
          generalize V.heap.size = g5
          intro HB hS HP HSe HT
          revert HB hS HP HSe HT
          generalize V2 = V
          intro HB hS HP HSe HT
          refine wpAnyH_ready (rs := [3]) (by kernel_rfl) (by simp) ?_
          refine AllReadyH.cons (o := { dst := some 12, op := .call { callee := .value (.func 34), args := #[.tmp 9, .tmp 11], argTypes := #[23, 62] }, type := _, pos := _, after := _, guard := none }) rfl (fun K hK => ?_) AllReadyH.nil
          go_simp
          refine (KD.out _ HB.out a9 c9 HSe.out).mono ?_
          rintro e w8 ⟨rfl, hbA⟩
          have HB2 : Hid (Below V0.heap.size V0 w8) := below_on hbA HB.out
          have hS2 := HCD.out _ HB2.out
          have HT2 : Hid (w8.heap[g5]? = some (.cells #[.int .i64 0, .int .i64 0, .slice none 0 0] 56 (0, 0)) ∧ V0.heap.size ≤ g5) := ⟨(hbA.block _ (heap_lt HT.out.1)).trans HT.out.1, HT.out.2⟩
          have HP2 : Hid (w8.heap[g6]? = some (.cells #[.slice none 0 0, .slice none 0 0] 59 (0, 0)) ∧ V0.heap.size ≤ g6) := ⟨(hbA.block _ (heap_lt HP.out.1)).trans HP.out.1, HP.out.2⟩
          refine hK.out _ _ hS2 (fun _ => ?_)
          clear hK K hS HB hbA HSe HT HP
          (try simp only [Act.put, List.setIfInBounds_toArray, List.set_cons_zero, List.set_cons_succ])
          revert HB2 hS2 HT2 HP2
          generalize w8 = V
          intro HB hS HT HP
          refine wpAnyH_take (i := 4) (oi := { dst := some 8, op := .move (.tmp 12), type := _, pos := _, after := _, guard := none }) (v := .tuple #[.agg #[.int .i64 0, .int .i64 0, .slice none 0 0], .agg #[.slice none 0 0, .slice none 0 0], .int .i64 141]) rfl (by kernel_rfl) (by kernel_rfl) (by kernel_rfl) (fun _ _ _ h => h) (Or.inl ⟨by rfl, by intro x _; go_simp⟩) hS ?_
          (try simp only [Act.put, List.setIfInBounds_toArray, List.set_cons_zero, List.set_cons_succ])
          refine wpAnyH_take (i := 5) (oi := { dst := some 13, op := .extract (.tmp 8) 0, type := _, pos := _, after := _, guard := none }) (v := .agg #[.int .i64 0, .int .i64 0, .slice none 0 0]) rfl (by kernel_rfl) (by kernel_rfl) (by kernel_rfl) (fun _ _ _ h => h) (Or.inl ⟨by rfl, by intro x _; go_simp⟩) hS ?_
          (try simp only [Act.put, List.setIfInBounds_toArray, List.set_cons_zero, List.set_cons_succ])
          refine wpAnyH_take (i := 6) (oi := { dst := some 14, op := .extract (.tmp 8) 1, type := _, pos := _, after := _, guard := none }) (v := .agg #[.slice none 0 0, .slice none 0 0]) rfl (by kernel_rfl) (by kernel_rfl) (by kernel_rfl) (fun _ _ _ h => h) (Or.inl ⟨by rfl, by intro x _; go_simp⟩) hS ?_
          (try simp only [Act.put, List.setIfInBounds_toArray, List.set_cons_zero, List.set_cons_succ])
          refine wpAnyH_take (i := 7) (oi := { dst := some 15, op := .extract (.tmp 8) 2, type := _, pos := _, after := _, guard := none }) (v := .int .i64 141) rfl (by kernel_rfl) (by kernel_rfl) (by kernel_rfl) (fun _ _ _ h => h) (Or.inl ⟨by rfl, by intro x _; go_simp⟩) hS ?_
          (try simp only [Act.put, List.setIfInBounds_toArray, List.set_cons_zero, List.set_cons_succ])
          refine wpAnyH_ready (rs := [10]) (by kernel_rfl) (by simp) ?_
          refine AllReadyH.cons (o := { dst := none, op := .store 56 (.tmp 5) (.tmp 13), type := _, pos := _, after := _, guard := none }) rfl (fun K hK => ?_) AllReadyH.nil
          obtain ⟨q0, q1, q2⟩ := cells3 HT.out.1
          have f5 : ∀ j, V.frozen? ⟨g5, j, none⟩ = false := fun j => frozen_of_heap HT.out.1
          have HB2 : Hid (Below V0.heap.size V0 (((V.setCell ⟨g5, 0, none⟩ (.int .i64 0)).setCell ⟨g5, 1, none⟩ (.int .i64 0)).setCell ⟨g5, 2, none⟩ (.slice none 0 0))) := ((HB.out.setCell HT.out.2 _).setCell HT.out.2 _).setCell HT.out.2 _
          have hS2 := HCD.out _ HB2.out
          have HT2 : Hid ((((V.setCell ⟨g5, 0, none⟩ (.int .i64 0)).setCell ⟨g5, 1, none⟩ (.int .i64 0)).setCell ⟨g5, 2, none⟩ (.slice none 0 0)).heap[g5]? = some (.cells #[.int .i64 0, .int .i64 0, .slice none 0 0] 56 (0, 0)) ∧ V0.heap.size ≤ g5) := ⟨Tr.put3A HT.out.1, HT.out.2⟩
          have hne : g6 ≠ g5 := ty_ne HP.out.1 HT.out.1 (by decide)
          have HP2 : Hid ((((V.setCell ⟨g5, 0, none⟩ (.int .i64 0)).setCell ⟨g5, 1, none⟩ (.int .i64 0)).setCell ⟨g5, 2, none⟩ (.slice none 0 0)).heap[g6]? = some (.cells #[.slice none 0 0, .slice none 0 0] 59 (0, 0)) ∧ V0.heap.size ≤ g6) := ⟨by rw [heap_setCell_other _ _ _ _ hne, heap_setCell_other _ _ _ _ hne, heap_setCell_other _ _ _ _ hne]; exact HP.out.1, HP.out.2⟩
          clear HT HP HB
          go_simp
          refine hK.out _ _ hS2 (fun _ => ?_)
          clear hK K hS q0 q1 q2 f5 hne
          (try simp only [Act.put])
          revert HB2 hS2 HT2 HP2
          generalize (((V.setCell ⟨g5, 0, none⟩ (.int .i64 0)).setCell ⟨g5, 1, none⟩ (.int .i64 0)).setCell ⟨g5, 2, none⟩ (.slice none 0 0)) = V2
          intro HB hS HT HP
          revert HB hS HT HP
          generalize V2 = V
          intro HB hS HT HP
          refine wpAnyH_ready (rs := [11]) (by kernel_rfl) (by simp) ?_
          refine AllReadyH.cons (o := { dst := none, op := .store 59 (.tmp 6) (.tmp 14), type := _, pos := _, after := _, guard := none }) rfl (fun K hK => ?_) AllReadyH.nil
          obtain ⟨q0, q1⟩ := cells2 HP.out.1
          have f5 : ∀ j, V.frozen? ⟨g6, j, none⟩ = false := fun j => frozen_of_heap HP.out.1
          have HB2 : Hid (Below V0.heap.size V0 ((V.setCell ⟨g6, 0, none⟩ (.slice none 0 0)).setCell ⟨g6, 1, none⟩ (.slice none 0 0))) := (HB.out.setCell HP.out.2 _).setCell HP.out.2 _
          have hS2 := HCD.out _ HB2.out
          have hne : g5 ≠ g6 := ty_ne HT.out.1 HP.out.1 (by decide)
          have HT2 : Hid (((V.setCell ⟨g6, 0, none⟩ (.slice none 0 0)).setCell ⟨g6, 1, none⟩ (.slice none 0 0)).heap[g5]? = some (.cells #[.int .i64 0, .int .i64 0, .slice none 0 0] 56 (0, 0)) ∧ V0.heap.size ≤ g5) := ⟨by rw [heap_setCell_other _ _ _ _ hne, heap_setCell_other _ _ _ _ hne]; exact HT.out.1, HT.out.2⟩
          have HP2 : Hid (((V.setCell ⟨g6, 0, none⟩ (.slice none 0 0)).setCell ⟨g6, 1, none⟩ (.slice none 0 0)).heap[g6]? = some (.cells #[.slice none 0 0, .slice none 0 0] 59 (0, 0)) ∧ V0.heap.size ≤ g6) := ⟨Tr.put2A HP.out.1, HP.out.2⟩
          clear HT HP HB
          go_simp
          refine hK.out _ _ hS2 (fun _ => ?_)
          clear hK K hS q0 q1 f5 hne
          (try simp only [Act.put])
          revert HB2 hS2 HT2 HP2
          generalize ((V.setCell ⟨g6, 0, none⟩ (.slice none 0 0)).setCell ⟨g6, 1, none⟩ (.slice none 0 0)) = V2
          intro HB hS HT HP
          revert HB hS HT HP
          generalize V2 = V
          intro HB hS HT HP
          refine wpAnyH_take (i := 12) (oi := { dst := some 7, op := .assign (.tmp 15), type := _, pos := _, after := _, guard := none }) (v := .int .i64 141) rfl (by kernel_rfl) (by kernel_rfl) (by kernel_rfl) (fun _ _ _ h => h) (Or.inl ⟨by rfl, by intro x _; go_simp⟩) hS ?_
          (try simp only [Act.put, List.setIfInBounds_toArray, List.set_cons_zero, List.set_cons_succ])
          refine wpAnyH_done (by kernel_rfl) ?_ _
          go_wp2_with fail
          go_meet
          exact ⟨g5, g6, rfl, rfl, rfl, ⟨HT.out.1, HP.out.1⟩, HB.out⟩
      · go_simp
        have hbA : Below V.heap.size V (V.alloc (.cells #[.int .i64 0, .int .i64 0, .slice none 0 0] 56)) := (Below.refl _ _).alloc (Nat.le_refl _) _
        have HB2 : Hid (Below V0.heap.size V0 (V.alloc (.cells #[.int .i64 0, .int .i64 0, .slice none 0 0] 56))) := below_on hbA HB.out
        have hS2 := HCD.out _ HB2.out
        have HP2 : Hid ((V.alloc (.cells #[.int .i64 0, .int .i64 0, .slice none 0 0] 56)).heap[g6]? = some (.cells #[.slice none 0 0, .slice none 0 0] 59 (0, 0)) ∧ V0.heap.size ≤ g6) := ⟨(hbA.block _ (heap_lt HP.out.1)).trans HP.out.1, HP.out.2⟩
        have HT2 : Hid ((V.alloc (.cells #[.int .i64 0, .int .i64 0, .slice none 0 0] 56)).heap[V.heap.size]? = some (.cells #[.int .i64 0, .int .i64 0, .slice none 0 0] 56 (0, 0)) ∧ V0.heap.size ≤ V.heap.size) := ⟨heap_new V _, HB.out.size⟩
        refine hK.out _ _ hS2 (fun _ => ?_)
        clear hK K hS HB hbA HP
        (try simp only [Act.put, List.setIfInBounds_toArray, List.set_cons_zero, List.set_cons_succ])
        revert HB2 hS2 HP2 HT2
        generalize (V.alloc (.cells #[.int .i64 0, .int .i64 0, .slice none 0 0] 56)) = V2
        generalize V.heap.size = g5
        intro HB hS HP HT
        revert HB hS HP HT
        generalize V2 = V
        intro HB hS HP HT
        refine wpAnyH_ready (rs := [2]) (by kernel_rfl) (by simp) ?_
        refine AllReadyH.cons (o := { dst := some 11, op := .call { callee := .builtin .append, args := #[.const (.slice none 0 0), .tmp 10], argTypes := #[62, 62] }, type := _, pos := _, after := _, guard := none }) rfl (fun K hK => ?_) AllReadyH.nil
        refine step_append_own rfl (.const (.slice none 0 0)) (.tmp 10) 62 rfl V.heap.size 9 i0 (.string { data := #[] }) 1 16 Tryd.underlying62 hi hz0 hz1 hz2 rfl (by decide) (.slice none 0 0) 0 [] (by simp [Act.eval]) (World.ownsRow_nil _ _ _ _) ⟨b, off, none⟩ n k (scC P) (by simp [Act.eval]) HPl.out (HPC.out V HB.out) (sc_one P) (by unfold maxLen; omega) (by omega) (Nat.le_refl _) ?_
        intro v9 w9 hown9 hg9
        have hbA : Below V.heap.size V w9 := grown_below hg9 (Nat.le_refl _) (World.ownsRow_nil V V.heap.size 9 1)
        rw [Nat.zero_add, List.nil_append] at hown9
        obtain ⟨a9, c9, rfl⟩ := owns_form hown9
        have HB2 : Hid (Below V0.heap.size V0 w9) := below_on hbA HB.out
        have hS2 := HCD.out _ HB2.out
        have HT2 : Hid (w9.heap[g5]? = some (.cells #[.int .i64 0, .int .i64 0, .slice none 0 0] 56 (0, 0)) ∧ V0.heap.size ≤ g5) := ⟨(hbA.block _ (heap_lt HT.out.1)).trans HT.out.1, HT.out.2⟩
        have HP2 : Hid (w9.heap[g6]? = some (.cells #[.slice none 0 0, .slice none 0 0] 59 (0, 0)) ∧ V0.heap.size ≤ g6) := ⟨(hbA.block _ (heap_lt HP.out.1)).trans HP.out.1, HP.out.2⟩
        have HSe2 : Hid (See w9 1 (.slice a9 n c9) n (scC P)) := see_own hown9 (sc_one P)
        refine hK.out _ _ hS2 (fun _ => ?_)
        clear hK K hS HB hbA hown9 hg9 HT HP
        (try simp only [Act.put, List.setIfInBounds_toArray, List.set_cons_zero, List.set_cons_succ])
        revert HB2 hS2 HT2 HP2 HSe2
        generalize w9 = V
        intro HB hS HT HP HSe
        refine wpAnyH_ready (rs := [3]) (by kernel_rfl) (by simp) ?_
        refine AllReadyH.cons (o := { dst := some 12, op := .call { callee := .value (.func 34), args := #[.tmp 9, .tmp 11], argTypes := #[23, 62] }, type := _, pos := _, after := _, guard := none }) rfl (fun K hK => ?_) AllReadyH.nil
        go_simp
        refine (KD.out _ HB.out a9 c9 HSe.out).mono ?_
        rintro e w8 ⟨rfl, hbA⟩
        have HB2 : Hid (Below V0.heap.size V0 w8) := below_on hbA HB.out
        have hS2 := HCD.out _ HB2.out
        have HT2 : Hid (w8.heap[g5]? = some (.cells #[.int .i64 0, .int .i64 0, .slice none 0 0] 56 (0, 0)) ∧ V0.heap.size ≤ g5) := ⟨(hbA.block _ (heap_lt HT.out.1)).trans HT.out.1, HT.out.2⟩
        have HP2 : Hid (w8.heap[g6]? = some (.cells #[.slice none 0 0, .slice none 0 0] 59 (0, 0)) ∧ V0.heap.size ≤ g6) := ⟨(hbA.block _ (heap_lt HP.out.1)).trans HP.out.1, HP.out.2⟩
        refine hK.out _ _ hS2 (fun _ => ?_)
        clear hK K hS HB hbA HSe HT HP
        (try simp only [Act.put, List.setIfInBounds_toArray, List.set_cons_zero, List.set_cons_succ])
        revert HB2 hS2 HT2 HP2
        generalize w8 = V
        intro HB hS HT HP
        refine wpAnyH_take (i := 4) (oi := { dst := some 8, op := .move (.tmp 12), type := _, pos := _, after := _, guard := none }) (v := .tuple #[.agg #[.int .i64 0, .int .i64 0, .slice none 0 0], .agg #[.slice none 0 0, .slice none 0 0], .int .i64 141]) rfl (by kernel_rfl) (by kernel_rfl) (by kernel_rfl) (fun _ _ _ h => h) (Or.inl ⟨by rfl, by intro x _; go_simp⟩) hS ?_
        (try simp only [Act.put, List.setIfInBounds_toArray, List.set_cons_zero, List.set_cons_succ])
        refine wpAnyH_take (i := 5) (oi := { dst := some 13, op := .extract (.tmp 8) 0, type := _, pos := _, after := _, guard := none }) (v := .agg #[.int .i64 0, .int .i64 0, .slice none 0 0]) rfl (by kernel_rfl) (by kernel_rfl) (by kernel_rfl) (fun _ _ _ h => h) (Or.inl ⟨by rfl, by intro x _; go_simp⟩) hS ?_
        (try simp only [Act.put, List.setIfInBounds_toArray, List.set_cons_zero, List.set_cons_succ])
        refine wpAnyH_take (i := 6) (oi := { dst := some 14, op := .extract (.tmp 8) 1, type := _, pos := _, after := _, guard := none }) (v := .agg #[.slice none 0 0, .slice none 0 0]) rfl (by kernel_rfl) (by kernel_rfl) (by kernel_rfl) (fun _ _ _ h => h) (Or.inl ⟨by rfl, by intro x _; go_simp⟩) hS ?_
        (try simp only [Act.put, List.setIfInBounds_toArray, List.set_cons_zero, List.set_cons_succ])
        refine wpAnyH_take (i := 7) (oi := { dst := some 15, op := .extract (.tmp 8) 2, type := _, pos := _, after := _, guard := none }) (v := .int .i64 141) rfl (by kernel_rfl) (by kernel_rfl) (by kernel_rfl) (fun _ _ _ h => h) (Or.inl ⟨by rfl, by intro x _; go_simp⟩) hS ?_
        (try simp only [Act.put, List.setIfInBounds_toArray, List.set_cons_zero, List.set_cons_succ])
        refine wpAnyH_ready (rs := [10]) (by kernel_rfl) (by simp) ?_
        refine AllReadyH.cons (o := { dst := none, op := .store 56 (.tmp 5) (.tmp 13), type := _, pos := _, after := _, guard := none }) rfl (fun K hK => ?_) AllReadyH.nil
        obtain ⟨q0, q1, q2⟩ := cells3 HT.out.1
        have f5 : ∀ j, V.frozen? ⟨g5, j, none⟩ = false := fun j => frozen_of_heap HT.out.1
        have HB2 : Hid (Below V0.heap.size V0 (((V.setCell ⟨g5, 0, none⟩ (.int .i64 0)).setCell ⟨g5, 1, none⟩ (.int .i64 0)).setCell ⟨g5, 2, none⟩ (.slice none 0 0))) := ((HB.out.setCell HT.out.2 _).setCell HT.out.2 _).setCell HT.out.2 _
        have hS2 := HCD.out _ HB2.out
        have HT2 : Hid ((((V.setCell ⟨g5, 0, none⟩ (.int .i64 0)).setCell ⟨g5, 1, none⟩ (.int .i64 0)).setCell ⟨g5, 2, none⟩ (.slice none 0 0)).heap[g5]? = some (.cells #[.int .i64 0, .int .i64 0, .slice none 0 0] 56 (0, 0)) ∧ V0.heap.size ≤ g5) := ⟨Tr.put3A HT.out.1, HT.out.2⟩
        have hne : g6 ≠ g5 := ty_ne HP.out.1 HT.out.1 (by decide)
        have HP2 : Hid ((((V.setCell ⟨g5, 0, none⟩ (.int .i64 0)).setCell ⟨g5, 1, none⟩ (.int .i64 0)).setCell ⟨g5, 2, none⟩ (.slice none 0 0)).heap[g6]? = some (.cells #[.slice none 0 0, .slice none 0 0] 59 (0, 0)) ∧ V0.heap.size ≤ g6) := ⟨by rw [heap_setCell_other _ _ _ _ hne, heap_setCell_other _ _ _ _ hne, heap_setCell_other _ _ _ _ hne]; exact HP.out.1, HP.out.2⟩
        clear HT HP HB
        go_simp
        refine hK.out _ _ hS2 (fun _ => ?_)
        clear hK K hS q0 q1 q2 f5 hne
        (try simp only [Act.put])
        revert HB2 hS2 HT2 HP2
        generalize (((V.setCell ⟨g5, 0, none⟩ (.int .i64 0)).setCell ⟨g5, 1, none⟩ (.int .i64 0)).setCell ⟨g5, 2, none⟩ (.slice none 0 0)) = V2
        intro HB hS HT HP
        revert HB hS HT HP
        generalize V2 = V
        intro HB hS HT HP
        refine wpAnyH_ready (rs := [11]) (by kernel_rfl) (by simp) ?_
        refine AllReadyH.cons (o := { dst := none, op := .store 59 (.tmp 6) (.tmp 14), type := _, pos := _, after := _, guard := none }) rfl (fun K hK => ?_) AllReadyH.nil
        obtain ⟨q0, q1⟩ := cells2 HP.out.1
        have f5 : ∀ j, V.frozen? ⟨g6, j, none⟩ = false := fun j => frozen_of_heap HP.out.1
        have HB2 : Hid (Below V0.heap.size V0 ((V.setCell ⟨g6, 0, none⟩ (.slice none 0 0)).setCell ⟨g6, 1, none⟩ (.slice none 0 0))) := (HB.out.setCell HP.out.2 _).setCell HP.out.2 _
        have hS2 := HCD.out _ HB2.out
        have hne : g5 ≠ g6 := ty_ne HT.out.1 HP.out.1 (by decide)
        have HT2 : Hid (((V.setCell ⟨g6, 0, none⟩ (.slice none 0 0)).setCell ⟨g6, 1, none⟩ (.slice none 0 0)).heap[g5]? = some (.cells #[.int .i64 0, .int .i64 0, .slice none 0 0] 56 (0, 0)) ∧ V0.heap.size ≤ g5) := ⟨by rw [heap_setCell_other _ _ _ _ hne, heap_setCell_other _ _ _ _ hne]; exact HT.out.1, HT.out.2⟩
        have HP2 : Hid (((V.setCell ⟨g6, 0, none⟩ (.slice none 0 0)).setCell ⟨g6, 1, none⟩ (.slice none 0 0)).heap[g6]? = some (.cells #[.slice none 0 0, .slice none 0 0] 59 (0, 0)) ∧ V0.heap.size ≤ g6) := ⟨Tr.put2A HP.out.1, HP.out.2⟩
        clear HT HP HB
        go_simp
        refine hK.out _ _ hS2 (fun _ => ?_)
        clear hK K hS q0 q1 f5 hne
        (try simp only [Act.put])
        revert HB2 hS2 HT2 HP2
        generalize ((V.setCell ⟨g6, 0, none⟩ (.slice none 0 0)).setCell ⟨g6, 1, none⟩ (.slice none 0 0)) = V2
        intro HB hS HT HP
        revert HB hS HT HP
        generalize V2 = V
        intro HB hS HT HP
        refine wpAnyH_take (i := 12) (oi := { dst := some 7, op := .assign (.tmp 15), type := _, pos := _, after := _, guard := none }) (v := .int .i64 141) rfl (by kernel_rfl) (by kernel_rfl) (by kernel_rfl) (fun _ _ _ h => h) (Or.inl ⟨by rfl, by intro x _; go_simp⟩) hS ?_
        (try simp only [Act.put, List.setIfInBounds_toArray, List.set_cons_zero, List.set_cons_succ])
        refine wpAnyH_done (by kernel_rfl) ?_ _
        go_wp2_with fail
        go_meet
        exact ⟨g5, g6, rfl, rfl, rfl, ⟨HT.out.1, HP.out.1⟩, HB.out⟩
  case rest =>
  obtain ⟨g5, g6, rfl, rfl, rfl, HG, HB⟩ := hcut
  obtain ⟨t0, t1, t2⟩ := cells3 HG.out.1
  obtain ⟨p0, p1⟩ := cells2 HG.out.2
  have HBw : Hid _ := HW.out _ HB.out
  clear y0 y1 y2 y3 y4 y5 hV HG HB
  go_wp2_with fail
  refine (num_any _ _).mono ?_
  rintro e w9 ⟨rfl, rfl⟩
  go_wp2
  go_ret
  exact ⟨rfl, HBw.out⟩
end Go.Proofs.YtckbbbcjpklnmaaDoor.Ix
