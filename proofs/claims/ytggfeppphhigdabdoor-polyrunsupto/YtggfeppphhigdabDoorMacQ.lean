import Derived.Test.YtggfeppphhigdabDoorMacP
import Derived.Test.YtggfeppphhigdabDoorStay
import Derived.Deep.RegionHeld
import Derived.Deep.Cut
namespace Go.Proofs.YtggfeppphhigdabDoor
open Go.RowKit Go.Lib Go.Deep

theorem only_below {S : List Nat} {w w' : World} (h : Below w.heap.size w w') : Only S w w' := ⟨h.os, h.tape, h.output, h.size, fun k hk _ => h.block k hk⟩
theorem Only.belowS {S : List Nat} {a w w' : World} (h : Only S a w) (hb : Below w.heap.size w w') : Only S a w' := h.trans (only_below hb)

set_option maxRecDepth 20000 in
set_option maxHeartbeats 400000 in
theorem endBlock_any {w : World} {p : Nat} {S B : List Nat} {n r a : Nat} (hP0 : Pm w p (lim r) S (lim a) B n) (hn : n ≤ 16) (hr : r < 1361129467683753853853498429727072845824) (ha : a < 1361129467683753853853498429727072845824)
    (blk : List UInt8) (hl : blk.length = 17) (hB : nat8 blk = B.set n 1) (hnum : numL blk < 1361129467683753853853498429727072845824) :
    Calls Tryd.prog 23 #[.pointer (some ⟨p, 0, none⟩)] w fun e w' => e = .returned (.tuple #[]) ∧ (∃ X, X < 1361129467683753853853498429727072845824 ∧ X % Pp = (a + numL blk) * r % Pp ∧ Pm w' p (lim r) S (lim X) (List.replicate 17 0) 0) ∧ Only [p] w w' := by
  have c33 := hP0.full
  have hf := hP0.frozen (16 + n)
  have cB := hP0.cB n (by omega)
  have hnI : (n : Int) < 17 := by omega
  have HP1 : Hid (Pm (w.setCell ⟨p, 16 + n, none⟩ (.int .u8 1)).drew p (lim r) S (lim a) (nat8 blk) n) := by rw [hB]; exact (hP0.putB n 1 (by omega)).drew
  have HO1 : Hid (Only [p] w (w.setCell ⟨p, 16 + n, none⟩ (.int .u8 1)).drew) := ((Only.refl [p] w).setCell (by simp) _).drew
  have HVL : Hid (vl 67108864 (List.zipWith (· + ·) (lim a) (lim (numL blk))) * vl 67108864 (lim r) = (a + numL blk) * r) := by
    show _ = _
    rw [vl_zip_add _ _ _ (by rw [lim_length, lim_length]), vl_lim _ ha, vl_lim _ hnum, vl_lim _ hr]
  have HNU : Hid (∀ W, Calls Tryd.prog 19 #[.agg (ns .u8 (nat8 blk))] W fun e w' => e = .returned (.agg (ns .u64 (lim (numL blk)))) ∧ Below W.heap.size W w') := fun W => number_any blk hl W
  have HPL : Hid (∀ W, Calls Tryd.prog 25 #[.agg (ns .u64 (lim a)), .agg (ns .u64 (lim (numL blk)))] W fun e w' => e = .returned (.agg (ns .u64 (List.zipWith (· + ·) (lim a) (lim (numL blk))))) ∧ Below W.heap.size W w') := fun W =>
    plus_any _ _ (lim_length _) (lim_length _) (fun i => by have := lim_at a i; omega) (fun i => by have := lim_at (numL blk) i; omega) W
  have HTI : Hid (∀ W, Calls Tryd.prog 32 #[.agg (ns .u64 (List.zipWith (· + ·) (lim a) (lim (numL blk)))), .agg (ns .u64 (lim r))] W fun e w' => (∃ X, e = .returned (.agg (ns .u64 (lim X))) ∧ X < 1361129467683753853853498429727072845824 ∧ X % Pp = vl 67108864 (List.zipWith (· + ·) (lim a) (lim (numL blk))) * vl 67108864 (lim r) % Pp) ∧ Below W.heap.size W w') := fun W =>
    times_any _ _ (by rw [List.length_zipWith, lim_length, lim_length]; rfl) (lim_length _) (zip_lt _ _ 67108864 (by omega) (lim_at a) (lim_at (numL blk))) (lim_at r) W
  have hzA : (Tryd.prog.info? 54).map (·.size) = some (nsL .u64 (lim a)).length := by rw [nsL_length, lim_length]; exact size46
  have hzR : (Tryd.prog.info? 54).map (·.size) = some (nsL .u64 (lim r)).length := by rw [nsL_length, lim_length]; exact size46
  have hzB : (Tryd.prog.info? 50).map (·.size) = some (nsL .u8 (nat8 blk)).length := by rw [nsL_length, nat8_length, hl]; exact size42
  clear hP0 hB
  have hla := lim_length a
  have hlr := lim_length r
  have hbn : (nat8 blk).length = 17 := by rw [nat8_length, hl]
  revert HP1 HVL HNU HPL HTI hzA hzR hzB hla hlr hbn
  generalize List.zipWith (· + ·) (lim a) (lim (numL blk)) = Lz
  generalize lim (numL blk) = Ln
  generalize nat8 blk = Bn
  generalize lim a = La
  generalize lim r = Lr
  intro HP1 HVL HNU HPL HTI hzA hzR hzB hla hlr hbn
  clear hnum hl hr ha
  generalize B.getD n 0 = z0 at cB
  have hbl0 : Tryd.prog.built 50 [] = some (ns .u8 (List.replicate 17 0)) := by kernel_rfl
  have hz0 : (Tryd.prog.info? 50).map (·.size) = some (ns .u8 (List.replicate 17 0)).size := size42
  have ho0 := ns_one .u8 (List.replicate 17 0)
  obtain ⟨C0, hC0⟩ : ∃ C0, ns .u8 (List.replicate 17 0) = C0 := ⟨_, rfl⟩
  have HC0 : Hid (nsL .u8 (List.replicate 17 0) = C0.toList ∧ C0.size = 17) := ⟨by rw [← hC0]; rfl, by rw [← hC0]; rfl⟩
  rw [hC0] at hbl0 hz0 ho0
  clear hC0
  go_enter Tryd.func23, Tryd.ntmps23
  go_wp2
  go_region
  refine with_world (R := fun W => Exit.then _ _ _ _ W) (Q := fun W => Pm W p Lr S La Bn n ∧ Only [p] w W) _ ⟨HP1.out, HO1.out⟩ ?_
  clear HP1 HO1 c33 hf cB hnI
  rintro w1 ⟨hP1, hb1⟩
  go_upto_region 1 with fail
  refine wp_region_held_drew (S := fun W => W.rangeAt p 1 (nsL .u64 Lr) ∧ W.rangeAt p 16 (nsL .u8 Bn)) (by kernel_rfl) ⟨hP1.drew.rR, hP1.drew.rB⟩ ?_
  intro hS
  have hP := hP1.drew
  have hbV := hb1.drew
  clear hP1 hb1
  revert hP hS hbV
  generalize w1.drew = V
  intro hS hP hbV
  refine wpAnyH_take (i := 0) (oi := { dst := some 10, op := .move (.tmp 0), type := _, pos := _, after := _, guard := none }) (v := .pointer (some ⟨p, 0, none⟩)) rfl (by kernel_rfl) (by kernel_rfl) (by kernel_rfl) (fun _ _ _ h => h) (Or.inl ⟨by rfl, by intro x _; go_simp⟩) hS ?_
  (try simp only [Act.put, List.setIfInBounds_toArray, List.set_cons_zero, List.set_cons_succ])
  refine wpAnyH_take (i := 1) (oi := { dst := some 11, op := .move (.tmp 0), type := _, pos := _, after := _, guard := none }) (v := .pointer (some ⟨p, 0, none⟩)) rfl (by kernel_rfl) (by kernel_rfl) (by kernel_rfl) (fun _ _ _ h => h) (Or.inl ⟨by rfl, by intro x _; go_simp⟩) hS ?_
  (try simp only [Act.put, List.setIfInBounds_toArray, List.set_cons_zero, List.set_cons_succ])
  refine wpAnyH_take (i := 2) (oi := { dst := some 12, op := .nilCheck (.tmp 11), type := _, pos := _, after := _, guard := none }) (v := .pointer (some ⟨p, 0, none⟩)) rfl (by kernel_rfl) (by kernel_rfl) (by kernel_rfl) (fun _ _ _ h => h) (Or.inl ⟨by rfl, by intro x _; go_simp⟩) hS ?_
  (try simp only [Act.put, List.setIfInBounds_toArray, List.set_cons_zero, List.set_cons_succ])
  refine wpAnyH_take (i := 3) (oi := { dst := some 13, op := .fieldAddr 57 (.tmp 12) 3, type := _, pos := _, after := _, guard := none }) (v := .pointer (some ⟨p, 11, none⟩)) rfl (by kernel_rfl) (by kernel_rfl) (by kernel_rfl) (fun _ _ _ h => h) (Or.inl ⟨by rfl, by intro x _; go_simp⟩) hS ?_
  (try simp only [Act.put, List.setIfInBounds_toArray, List.set_cons_zero, List.set_cons_succ])
  refine wpAnyH_take (i := 5) (oi := { dst := some 15, op := .move (.tmp 0), type := _, pos := _, after := _, guard := none }) (v := .pointer (some ⟨p, 0, none⟩)) rfl (by kernel_rfl) (by kernel_rfl) (by kernel_rfl) (fun _ _ _ h => h) (Or.inl ⟨by rfl, by intro x _; go_simp⟩) hS ?_
  (try simp only [Act.put, List.setIfInBounds_toArray, List.set_cons_zero, List.set_cons_succ])
  refine wpAnyH_take (i := 6) (oi := { dst := some 16, op := .nilCheck (.tmp 15), type := _, pos := _, after := _, guard := none }) (v := .pointer (some ⟨p, 0, none⟩)) rfl (by kernel_rfl) (by kernel_rfl) (by kernel_rfl) (fun _ _ _ h => h) (Or.inl ⟨by rfl, by intro x _; go_simp⟩) hS ?_
  (try simp only [Act.put, List.setIfInBounds_toArray, List.set_cons_zero, List.set_cons_succ])
  refine wpAnyH_take (i := 7) (oi := { dst := some 17, op := .fieldAddr 57 (.tmp 16) 4, type := _, pos := _, after := _, guard := none }) (v := .pointer (some ⟨p, 16, none⟩)) rfl (by kernel_rfl) (by kernel_rfl) (by kernel_rfl) (fun _ _ _ h => h) (Or.inl ⟨by rfl, by intro x _; go_simp⟩) hS ?_
  (try simp only [Act.put, List.setIfInBounds_toArray, List.set_cons_zero, List.set_cons_succ])
  refine wpAnyH_take (i := 8) (oi := { dst := some 18, op := .load 50 (.tmp 17), type := _, pos := _, after := _, guard := none }) (v := .agg (nsL .u8 Bn).toArray) rfl (by kernel_rfl) (by kernel_rfl) (by kernel_rfl) (fun _ _ _ h => h) (yieldsIf_load_mid (by rfl) 50 (.tmp 17) rfl p 16 (by simp [Act.eval]) (nsL .u8 Bn) _ (fun x hx => hx.2) Tryd.underlying50 rfl hzB) hS ?_
  (try simp only [Act.put, List.setIfInBounds_toArray, List.set_cons_zero, List.set_cons_succ])
  refine wpAnyH_take (i := 11) (oi := { dst := some 21, op := .move (.tmp 0), type := _, pos := _, after := _, guard := none }) (v := .pointer (some ⟨p, 0, none⟩)) rfl (by kernel_rfl) (by kernel_rfl) (by kernel_rfl) (fun _ _ _ h => h) (Or.inl ⟨by rfl, by intro x _; go_simp⟩) hS ?_
  (try simp only [Act.put, List.setIfInBounds_toArray, List.set_cons_zero, List.set_cons_succ])
  refine wpAnyH_take (i := 12) (oi := { dst := some 22, op := .nilCheck (.tmp 21), type := _, pos := _, after := _, guard := none }) (v := .pointer (some ⟨p, 0, none⟩)) rfl (by kernel_rfl) (by kernel_rfl) (by kernel_rfl) (fun _ _ _ h => h) (Or.inl ⟨by rfl, by intro x _; go_simp⟩) hS ?_
  (try simp only [Act.put, List.setIfInBounds_toArray, List.set_cons_zero, List.set_cons_succ])
  refine wpAnyH_take (i := 13) (oi := { dst := some 23, op := .fieldAddr 57 (.tmp 22) 1, type := _, pos := _, after := _, guard := none }) (v := .pointer (some ⟨p, 1, none⟩)) rfl (by kernel_rfl) (by kernel_rfl) (by kernel_rfl) (fun _ _ _ h => h) (Or.inl ⟨by rfl, by intro x _; go_simp⟩) hS ?_
  (try simp only [Act.put, List.setIfInBounds_toArray, List.set_cons_zero, List.set_cons_succ])
  refine wpAnyH_take (i := 14) (oi := { dst := some 24, op := .load 54 (.tmp 23), type := _, pos := _, after := _, guard := none }) (v := .agg (nsL .u64 Lr).toArray) rfl (by kernel_rfl) (by kernel_rfl) (by kernel_rfl) (fun _ _ _ h => h) (yieldsIf_load_mid (by rfl) 54 (.tmp 23) rfl p 1 (by simp [Act.eval]) (nsL .u64 Lr) _ (fun x hx => hx.1) Tryd.underlying54 rfl hzR) hS ?_
  (try simp only [Act.put, List.setIfInBounds_toArray, List.set_cons_zero, List.set_cons_succ])
  refine wpAnyH_ready (rs := [4, 9]) (by kernel_rfl) (by simp) ?_
  refine AllReadyH.cons (o := { dst := some 14, op := .load 54 (.tmp 13), type := _, pos := _, after := _, guard := none }) rfl (fun K hK => ?_) (AllReadyH.cons (o := { dst := some 19, op := .call { callee := .value (.func 19), args := #[.tmp 18], argTypes := #[50] }, type := _, pos := _, after := _, guard := none }) rfl (fun K hK => ?_) AllReadyH.nil)
  · refine step_load_mid rfl 54 (.tmp 13) rfl p 11 (by simp [Act.eval]) (nsL .u64 La) _ hP.rA Tryd.underlying54 rfl hzA ?_
    refine hK.out _ _ hS (fun _ => ?_)
    clear hK K
    (try simp only [Act.put, List.setIfInBounds_toArray, List.set_cons_zero, List.set_cons_succ])
    refine wpAnyH_ready (rs := [9]) (by kernel_rfl) (by simp) ?_
    refine AllReadyH.cons (o := { dst := some 19, op := .call { callee := .value (.func 19), args := #[.tmp 18], argTypes := #[50] }, type := _, pos := _, after := _, guard := none }) rfl (fun K hK => ?_) AllReadyH.nil
    go_simp
    refine (HNU.out V).mono ?_
    rintro e w2 ⟨rfl, hb2'⟩
    have hP2 := hP.below hb2' hP.lt
    have hS2 : w2.rangeAt p 1 (nsL .u64 Lr) ∧ w2.rangeAt p 16 (nsL .u8 Bn) := ⟨hP2.rR, hP2.rB⟩
    have hb2 := hbV.belowS hb2'
    refine hK.out _ _ hS2 (fun _ => ?_)
    clear hK K hb2'
    (try simp only [Act.put, List.setIfInBounds_toArray, List.set_cons_zero, List.set_cons_succ])
    revert hP2 hS2 hb2
    clear hP hS hbV
    generalize w2 = wA
    intro hP hS hbA
    refine wpAnyH_ready (rs := [10]) (by kernel_rfl) (by simp) ?_
    refine AllReadyH.cons (o := { dst := some 20, op := .call { callee := .value (.func 25), args := #[.tmp 14, .tmp 19], argTypes := #[54, 54] }, type := _, pos := _, after := _, guard := none }) rfl (fun K hK => ?_) AllReadyH.nil
    go_simp
    refine (HPL.out wA).mono ?_
    rintro e w3 ⟨rfl, hb3⟩
    have hP3 := hP.below hb3 hP.lt
    have hS3 : w3.rangeAt p 1 (nsL .u64 Lr) ∧ w3.rangeAt p 16 (nsL .u8 Bn) := ⟨hP3.rR, hP3.rB⟩
    have hbW3 := hbA.belowS hb3
    refine hK.out _ _ hS3 (fun _ => ?_)
    clear hK K hP hb3 hbA
    (try simp only [Act.put, List.setIfInBounds_toArray, List.set_cons_zero, List.set_cons_succ])
    refine wpAnyH_ready (rs := [15]) (by kernel_rfl) (by simp) ?_
    refine AllReadyH.cons (o := { dst := some 25, op := .call { callee := .value (.func 32), args := #[.tmp 20, .tmp 24], argTypes := #[54, 54] }, type := _, pos := _, after := _, guard := none }) rfl (fun K hK => ?_) AllReadyH.nil
    go_simp
    refine (HTI.out w3).mono ?_
    rintro e w4 ⟨⟨X, rfl, hX1, hX2⟩, hb4⟩
    have hP4 := hP3.below hb4 hP3.lt
    have hS4 : w4.rangeAt p 1 (nsL .u64 Lr) ∧ w4.rangeAt p 16 (nsL .u8 Bn) := ⟨hP4.rR, hP4.rB⟩
    have hbW4 := hbW3.belowS hb4
    refine hK.out _ _ hS4 (fun _ => ?_)
    clear hK K hP3 hb4 hbW3
    (try simp only [Act.put, List.setIfInBounds_toArray, List.set_cons_zero, List.set_cons_succ])
    have HX : Hid (X < 1361129467683753853853498429727072845824 ∧ X % Pp = (a + numL blk) * r % Pp) := ⟨hX1, HVL.out ▸ hX2⟩
    clear hX1 hX2
    have hlX := lim_length X
    obtain ⟨L, hL⟩ : ∃ L, lim X = L := ⟨_, rfl⟩
    rw [hL] at hlX ⊢
    have HLX : Hid (lim X = L) := hL
    clear hL
    refine wpAnyH_take (i := 16) (oi := { dst := some 26, op := .nilCheck (.tmp 10), type := _, pos := _, after := _, guard := none }) (v := .pointer (some ⟨p, 0, none⟩)) rfl (by kernel_rfl) (by kernel_rfl) (by kernel_rfl) (fun _ _ _ h => h) (Or.inl ⟨by rfl, by intro x _; go_simp⟩) hS4 ?_
    (try simp only [Act.put, List.setIfInBounds_toArray, List.set_cons_zero, List.set_cons_succ])
    refine wpAnyH_take (i := 17) (oi := { dst := some 27, op := .fieldAddr 57 (.tmp 26) 3, type := _, pos := _, after := _, guard := none }) (v := .pointer (some ⟨p, 11, none⟩)) rfl (by kernel_rfl) (by kernel_rfl) (by kernel_rfl) (fun _ _ _ h => h) (Or.inl ⟨by rfl, by intro x _; go_simp⟩) hS4 ?_
    (try simp only [Act.put, List.setIfInBounds_toArray, List.set_cons_zero, List.set_cons_succ])
    refine wpAnyH_ready (rs := [18]) (by kernel_rfl) (by simp) ?_
    refine AllReadyH.cons (o := { dst := none, op := .store 54 (.tmp 27) (.tmp 25), type := _, pos := _, after := _, guard := none }) rfl (fun K hK => ?_) AllReadyH.nil
    refine step_store_mid rfl 54 (.tmp 27) (.tmp 25) rfl p 11 (ns .u64 L) (by simp [Act.eval]) (by simp [Act.eval]) (hP4.there 11 _ (by rw [ns_size, hlX]; decide)) (ns5 L hlX) (ns_one .u64 L) ?_
    have hP5 : Pm (w4.setCells p 11 (ns .u64 L).toList) p Lr S L Bn n := by simpa [ns] using hP4.setA L hlX
    have hb5 : Only [p] w (w4.setCells p 11 (ns .u64 L).toList) := hbW4.setCells (by simp) _ _
    refine hK.out _ _ ⟨hP5.rR, hP5.rB⟩ (fun _ => ?_)
    clear hK K hP4 hbW4 hS4
    (try simp only [Act.put])
    refine wpAnyH_done (by kernel_rfl) ?_ _
    revert hP5 hb5
    generalize w4.setCells p 11 (ns .u64 L).toList = w5
    intro hP5 hb5
    have hP6 := hP5.setB (List.replicate 17 0) rfl
    have hP7 := hP6.setN 0
    have ht6 := hP5.there 16 17 (by omega)
    have c33 := hP6.full
    have f33 := hP6.frozen 33
    have hb7 : Only [p] w ((w5.setCells p 16 (nsL .u8 (List.replicate 17 0))).setCell ⟨p, 33, none⟩ (.int .i64 ((0 : Nat) : Int))) := (hb5.setCells (by simp) _ _).setCell (by simp) _
    rw [HC0.out.1] at hP7 hb7 c33 f33
    rw [← HC0.out.2] at ht6
    clear hP5 hP6 hb5
    go_wp2_with (first | (refine wpList_build_eq rfl 50 #[] rfl [] (by simp) C0 hbl0 ?_) | (refine wpList_store_mid rfl 50 (.tmp 32) (.tmp 30) rfl p 16 C0 rfl rfl ht6 hz0 ho0 ?_))
    go_end0
    exact ⟨rfl, ⟨X, HX.out.1, HX.out.2, by rw [HLX.out]; exact hP7⟩, hb7⟩
  · go_simp
    refine (HNU.out V).mono ?_
    rintro e w2 ⟨rfl, hb2'⟩
    have hP2 := hP.below hb2' hP.lt
    have hS2 : w2.rangeAt p 1 (nsL .u64 Lr) ∧ w2.rangeAt p 16 (nsL .u8 Bn) := ⟨hP2.rR, hP2.rB⟩
    have hb2 := hbV.belowS hb2'
    refine hK.out _ _ hS2 (fun _ => ?_)
    clear hK K hb2'
    (try simp only [Act.put, List.setIfInBounds_toArray, List.set_cons_zero, List.set_cons_succ])
    refine wpAnyH_ready (rs := [4]) (by kernel_rfl) (by simp) ?_
    refine AllReadyH.cons (o := { dst := some 14, op := .load 54 (.tmp 13), type := _, pos := _, after := _, guard := none }) rfl (fun K hK => ?_) AllReadyH.nil
    refine step_load_mid rfl 54 (.tmp 13) rfl p 11 (by simp [Act.eval]) (nsL .u64 La) _ hP2.rA Tryd.underlying54 rfl hzA ?_
    refine hK.out _ _ hS2 (fun _ => ?_)
    clear hK K
    (try simp only [Act.put, List.setIfInBounds_toArray, List.set_cons_zero, List.set_cons_succ])
    revert hP2 hS2 hb2
    clear hP hS hbV
    generalize w2 = wA
    intro hP hS hbA
    refine wpAnyH_ready (rs := [10]) (by kernel_rfl) (by simp) ?_
    refine AllReadyH.cons (o := { dst := some 20, op := .call { callee := .value (.func 25), args := #[.tmp 14, .tmp 19], argTypes := #[54, 54] }, type := _, pos := _, after := _, guard := none }) rfl (fun K hK => ?_) AllReadyH.nil
    go_simp
    refine (HPL.out wA).mono ?_
    rintro e w3 ⟨rfl, hb3⟩
    have hP3 := hP.below hb3 hP.lt
    have hS3 : w3.rangeAt p 1 (nsL .u64 Lr) ∧ w3.rangeAt p 16 (nsL .u8 Bn) := ⟨hP3.rR, hP3.rB⟩
    have hbW3 := hbA.belowS hb3
    refine hK.out _ _ hS3 (fun _ => ?_)
    clear hK K hP hb3 hbA
    (try simp only [Act.put, List.setIfInBounds_toArray, List.set_cons_zero, List.set_cons_succ])
    refine wpAnyH_ready (rs := [15]) (by kernel_rfl) (by simp) ?_
    refine AllReadyH.cons (o := { dst := some 25, op := .call { callee := .value (.func 32), args := #[.tmp 20, .tmp 24], argTypes := #[54, 54] }, type := _, pos := _, after := _, guard := none }) rfl (fun K hK => ?_) AllReadyH.nil
    go_simp
    refine (HTI.out w3).mono ?_
    rintro e w4 ⟨⟨X, rfl, hX1, hX2⟩, hb4⟩
    have hP4 := hP3.below hb4 hP3.lt
    have hS4 : w4.rangeAt p 1 (nsL .u64 Lr) ∧ w4.rangeAt p 16 (nsL .u8 Bn) := ⟨hP4.rR, hP4.rB⟩
    have hbW4 := hbW3.belowS hb4
    refine hK.out _ _ hS4 (fun _ => ?_)
    clear hK K hP3 hb4 hbW3
    (try simp only [Act.put, List.setIfInBounds_toArray, List.set_cons_zero, List.set_cons_succ])
    have HX : Hid (X < 1361129467683753853853498429727072845824 ∧ X % Pp = (a + numL blk) * r % Pp) := ⟨hX1, HVL.out ▸ hX2⟩
    clear hX1 hX2
    have hlX := lim_length X
    obtain ⟨L, hL⟩ : ∃ L, lim X = L := ⟨_, rfl⟩
    rw [hL] at hlX ⊢
    have HLX : Hid (lim X = L) := hL
    clear hL
    refine wpAnyH_take (i := 16) (oi := { dst := some 26, op := .nilCheck (.tmp 10), type := _, pos := _, after := _, guard := none }) (v := .pointer (some ⟨p, 0, none⟩)) rfl (by kernel_rfl) (by kernel_rfl) (by kernel_rfl) (fun _ _ _ h => h) (Or.inl ⟨by rfl, by intro x _; go_simp⟩) hS4 ?_
    (try simp only [Act.put, List.setIfInBounds_toArray, List.set_cons_zero, List.set_cons_succ])
    refine wpAnyH_take (i := 17) (oi := { dst := some 27, op := .fieldAddr 57 (.tmp 26) 3, type := _, pos := _, after := _, guard := none }) (v := .pointer (some ⟨p, 11, none⟩)) rfl (by kernel_rfl) (by kernel_rfl) (by kernel_rfl) (fun _ _ _ h => h) (Or.inl ⟨by rfl, by intro x _; go_simp⟩) hS4 ?_
    (try simp only [Act.put, List.setIfInBounds_toArray, List.set_cons_zero, List.set_cons_succ])
    refine wpAnyH_ready (rs := [18]) (by kernel_rfl) (by simp) ?_
    refine AllReadyH.cons (o := { dst := none, op := .store 54 (.tmp 27) (.tmp 25), type := _, pos := _, after := _, guard := none }) rfl (fun K hK => ?_) AllReadyH.nil
    refine step_store_mid rfl 54 (.tmp 27) (.tmp 25) rfl p 11 (ns .u64 L) (by simp [Act.eval]) (by simp [Act.eval]) (hP4.there 11 _ (by rw [ns_size, hlX]; decide)) (ns5 L hlX) (ns_one .u64 L) ?_
    have hP5 : Pm (w4.setCells p 11 (ns .u64 L).toList) p Lr S L Bn n := by simpa [ns] using hP4.setA L hlX
    have hb5 : Only [p] w (w4.setCells p 11 (ns .u64 L).toList) := hbW4.setCells (by simp) _ _
    refine hK.out _ _ ⟨hP5.rR, hP5.rB⟩ (fun _ => ?_)
    clear hK K hP4 hbW4 hS4
    (try simp only [Act.put])
    refine wpAnyH_done (by kernel_rfl) ?_ _
    revert hP5 hb5
    generalize w4.setCells p 11 (ns .u64 L).toList = w5
    intro hP5 hb5
    have hP6 := hP5.setB (List.replicate 17 0) rfl
    have hP7 := hP6.setN 0
    have ht6 := hP5.there 16 17 (by omega)
    have c33 := hP6.full
    have f33 := hP6.frozen 33
    have hb7 : Only [p] w ((w5.setCells p 16 (nsL .u8 (List.replicate 17 0))).setCell ⟨p, 33, none⟩ (.int .i64 ((0 : Nat) : Int))) := (hb5.setCells (by simp) _ _).setCell (by simp) _
    rw [HC0.out.1] at hP7 hb7 c33 f33
    rw [← HC0.out.2] at ht6
    clear hP5 hP6 hb5
    go_wp2_with (first | (refine wpList_build_eq rfl 50 #[] rfl [] (by simp) C0 hbl0 ?_) | (refine wpList_store_mid rfl 50 (.tmp 32) (.tmp 30) rfl p 16 C0 rfl rfl ht6 hz0 ho0 ?_))
    go_end0
    exact ⟨rfl, ⟨X, HX.out.1, HX.out.2, by rw [HLX.out]; exact hP7⟩, hb7⟩
end Go.Proofs.YtggfeppphhigdabDoor
