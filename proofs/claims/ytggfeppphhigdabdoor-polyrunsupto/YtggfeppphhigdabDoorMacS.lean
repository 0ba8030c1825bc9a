import Derived.Test.YtggfeppphhigdabDoorMacT
namespace Go.Proofs.YtggfeppphhigdabDoor
open Go.RowKit Go.Lib Go.Deep

def zero34 : Array Value := #[.bool false] ++ ns .u64 (List.replicate 15 0) ++ ns .u8 (List.replicate 17 0) ++ #[.int .i64 0]
theorem zero34_run (w : World) : (zeroValue 57).run Tryd.prog w = .ok (.agg zero34) w := by kernel_rfl
theorem wpList_alloc_zero {P : Program} {ops : Array Oper} {rest : List Oper} {o : Oper} {a : Act} {w : World} {Q : Exit → Act → World → Prop} (hg : o.guard = none) (t : TypeId) (z : Array Value) (ho : o.op = .alloc t)
    (hz : (zeroValue t).run P w = .ok (.agg z) w) (h : wpList P ops Q rest (a.put o.dst (.pointer (some ⟨w.heap.size, 0, none⟩))) (w.alloc (.cells z t))) : wpList P ops Q (o :: rest) a w := by
  refine wpList_plain hg fun K hK => ?_
  unfold Oper.wp execOp
  simp [ho, hz, Instr.alloc, Oper.upon, Result.andThen]
  exact hK _ _ h

/-- what comes of the limbs at the end -/
theorem end_contracts (X s acc : Nat) (hX : X < 1361129467683753853853498429727072845824) (hacc : X % Pp = acc) (hs : s < 340282366920938463463374607431768211456) :
    ∃ Z LV y, LV.length = 5 ∧ (∀ W, Calls Tryd.prog 24 #[.agg (ns .u64 (lim X))] W fun e w' => e = .returned (.agg (ns .u64 (lim acc))) ∧ Below W.heap.size W w')
      ∧ (∀ W, Calls Tryd.prog 25 #[.agg (ns .u64 (lim acc)), .agg (ns .u64 (lim s))] W fun e w' => e = .returned (.agg (ns .u64 Z)) ∧ Below W.heap.size W w')
      ∧ (∀ W, Calls Tryd.prog 26 #[.agg (ns .u64 Z)] W fun e w' => e = .returned (.tuple #[.agg (ns .u64 LV), .int .u64 ((y : Nat) : Int)]) ∧ Below W.heap.size W w')
      ∧ (∀ W, Calls Tryd.prog 27 #[.agg (ns .u64 LV)] W fun e w' => e = .returned (.string (str (bytL 16 (acc + s)))) ∧ Below W.heap.size W w') := by
  have hal : acc < 1361129467683753853853498429727072845824 := by rw [← hacc]; exact Nat.lt_of_le_of_lt (Nat.mod_le _ _) hX
  refine ⟨List.zipWith (· + ·) (lim acc) (lim s), lim (acc + s), (acc + s) / 1361129467683753853853498429727072845824, lim_length _, fun W => ?_, fun W => ?_, fun W => ?_, fun W => ?_⟩
  · have h := least_any X hX W
    rw [hacc] at h
    exact h
  · exact plus_any _ _ (lim_length _) (lim_length _) (fun i => by have := lim_at acc i; omega) (fun i => by have := lim_at s i; omega) W
  · have h := spread_any (List.zipWith (· + ·) (lim acc) (lim s)) (by rw [List.length_zipWith, lim_length, lim_length]; rfl) (fun i => by have := zip_lt _ _ 67108864 (by omega) (lim_at acc) (lim_at s) i; omega) W
    rw [vl_zip_add _ _ _ (by rw [lim_length, lim_length]), vl_lim _ hal, vl_lim s (by omega)] at h
    exact h
  · have e1 : lim (acc + s) = lim ((acc + s) % 1361129467683753853853498429727072845824) := (dg_mod 67108864 5 (acc + s) (by omega)).symm
    have e2 : bytL 16 (acc + s) = bytL 16 ((acc + s) % 1361129467683753853853498429727072845824) := by
      unfold bytL
      rw [← dg_mod 256 16 (acc + s) (by omega), ← dg_mod 256 16 (_ % 1361129467683753853853498429727072845824) (by omega)]
      congr 2
      simp only [Nat.reducePow]
      omega
    rw [e1, e2]
    exact text_any _ (Nat.mod_lt _ (by omega)) W

set_option maxRecDepth 20000 in
set_option maxHeartbeats 2000000 in
theorem sum_any {w : World} {p r s : Nat} {l : List UInt8} (hM : Mac w p r s l) (hr : r < 1361129467683753853853498429727072845824) (hs : s < 340282366920938463463374607431768211456) :
    Calls Tryd.prog 11 #[.pointer (some ⟨p, 0, none⟩)] w fun e w' => e = .returned (.string (str (bytL 16 (tagN r s l)))) ∧ Below w.heap.size w w' := by
  have hth := mthere_yes hM.made
  obtain ⟨A, hA1, hA2, hP0⟩ := hM.ex
  have hacc := acc_end r l
  have hls := lim_length s
  have hrest : (l.drop (16 * (l.length / 16))).length = l.length % 16 := by rw [List.length_drop]; omega
  have HTN : Hid (tagN r s l = accN r l ((l.length + 15) / 16) + s) := rfl
  revert hP0 hacc hrest
  generalize l.drop (16 * (l.length / 16)) = rest
  have hq16 : l.length % 16 < 16 := by omega
  generalize l.length % 16 = q at *
  intro hP0 hacc hrest
  have hheap := hP0.heap
  have hsz := hP0.size
  have hszM : (Tryd.prog.info? 57).map (·.size) = some (mcells (lim r) (lim s) (lim A) (fill 17 (nat8 rest)) q).toArray.size := by rw [hsz]; exact size49
  have hone : (mcells (lim r) (lim s) (lim A) (fill 17 (nat8 rest)) q).toArray.all (·.oneCell') = true := all_oneCell_toArray (by
    intro v hv
    simp only [mcells, List.mem_cons, List.mem_append, List.not_mem_nil, or_false] at hv
    rcases hv with rfl | ((((h | h) | h) | h) | rfl)
    · rfl
    · exact nsL_one _ _ v h
    · exact nsL_one _ _ v h
    · exact nsL_one _ _ v h
    · exact nsL_one _ _ v h
    · rfl)
  have HN : Hid (Pm ((w.alloc (.cells zero34 57)).setCells w.heap.size 0 (mcells (lim r) (lim s) (lim A) (fill 17 (nat8 rest)) q).toArray.toList) w.heap.size (lim r) (lim s) (lim A) (fill 17 (nat8 rest)) q
      ∧ Pm ((w.alloc (.cells zero34 57)).setCells w.heap.size 0 (mcells (lim r) (lim s) (lim A) (fill 17 (nat8 rest)) q).toArray.toList) p (lim r) (lim s) (lim A) (fill 17 (nat8 rest)) q
      ∧ Below w.heap.size w ((w.alloc (.cells zero34 57)).setCells w.heap.size 0 (mcells (lim r) (lim s) (lim A) (fill 17 (nat8 rest)) q).toArray.toList)) := by
    refine ⟨⟨?_, hP0.lr, hP0.ls, hP0.la, hP0.lb⟩, ?_, Below.setCells ((Below.refl _ _).alloc (Nat.le_refl _) _) (Nat.le_refl _) _ _⟩
    · have h := heap_setCells w.heap.size 57 (mcells (lim r) (lim s) (lim A) (fill 17 (nat8 rest)) q).toArray.toList 0 zero34 _ (heap_new w (.cells zero34 57))
      rw [setMany_all _ _ (by rw [Array.length_toList, hsz]; rfl), Array.toArray_toList] at h
      exact h
    · exact hP0.kept ((heap_setCells_other _ _ (by have := hP0.lt; omega) _ _ _).trans (Below.heap_alloc _ _ _ hP0.lt))
  have hplt := hP0.lt
  have hth34 : (w.alloc (.cells zero34 57)).there w.heap.size 0 (mcells (lim r) (lim s) (lim A) (fill 17 (nat8 rest)) q).toArray.size := there_of_heap (heap_new _ _) (by rw [hsz]; decide)
  have hzr := zero34_run w
  clear hP0 hM
  revert hheap hsz hszM hone HN hth34
  generalize (mcells (lim r) (lim s) (lim A) (fill 17 (nat8 rest)) q).toArray = C
  intro hheap hsz hszM hone HN hth34
  revert hzr HN hth34
  generalize zero34 = Z34
  intro hzr HN hth34
  go_enter Tryd.func11, Tryd.ntmps11
  go_wp2_with fail
  refine hth.mono ?_
  rintro e w' ⟨rfl, rfl⟩
  go_upto_region 4 with (first | (refine wpList_load_row rfl 57 (.tmp 10) rfl p rfl 57 _ (0, 0) _ hheap Tryd.underlying57 rfl hszM ?_) | (refine wpList_alloc_zero rfl 57 _ rfl hzr ?_) | (refine wpList_store_mid rfl 57 (.tmp 3) (.tmp 11) rfl w.heap.size 0 C rfl rfl hth34 hszM hone ?_))
  refine with_world (R := fun W => Code.wp _ _ _ _ W) (Q := fun W => Pm W w.heap.size (lim r) (lim s) (lim A) (fill 17 (nat8 rest)) q ∧ Pm W p (lim r) (lim s) (lim A) (fill 17 (nat8 rest)) q ∧ Below w.heap.size w W) _ HN.out ?_
  clear HN hth34 hheap hsz hszM hone hzr hth
  rintro w3 ⟨hG, hP, hb⟩
  have hpg : p ≠ w.heap.size := by omega
  have hgw : w.heap.size ≤ w.heap.size := Nat.le_refl _
  generalize hgg : w.heap.size = g at hG hpg ⊢
  have HG : Hid (w.heap.size = g) := hgg
  clear hgg hgw
  have c33 := hG.full
  by_cases hq0 : q = 0
  · subst hq0
    rw [if_pos rfl] at hacc
    rw [← hacc] at hA2
    obtain ⟨Z, LV, y, hlV, k1, k2, k3, k4⟩ := end_contracts A s _ hA1 hA2 hs
    rw [← HTN.out] at k4
    have HLE : Hid _ := k1
    have HPL : Hid _ := k2
    have HSP : Hid _ := k3
    have HTX : Hid _ := k4
    clear k1 k2 k3 k4 HTN hA2 hA1 hacc
    have hlX := lim_length A
    revert hG hP HLE HPL hlX hls
    generalize lim A = LX
    generalize lim s = LS
    generalize lim (accN r l ((l.length + 15) / 16)) = LA
    intro hlS hP hG HLE HPL hlX
    go_upto_region 6 with fail
    have hzX : (Tryd.prog.info? 54).map (·.size) = some (nsL .u64 LX).length := by rw [nsL_length, hlX]; exact size46
    have hzS : (Tryd.prog.info? 54).map (·.size) = some (nsL .u64 LS).length := by rw [nsL_length, hlS]; exact size46
    refine wp_region_held_drew (S := fun W => W.rangeAt g 11 (nsL .u64 LX) ∧ W.rangeAt p 6 (nsL .u64 LS)) (by kernel_rfl) ⟨hG.drew.rA, hP.drew.rS⟩ ?_
    intro hS
    have hGV := hG.drew
    have hPV := hP.drew
    have hbV := hb.drew
    clear hG hP hb
    revert hS hGV hPV hbV
    generalize w3.drew = V
    intro hS hGV hPV hbV
    refine wpAnyH_take (i := 0) (oi := { dst := some 17, op := .fieldAddr 57 (.tmp 3) 3, type := _, pos := _, after := _, guard := none }) (v := .pointer (some ⟨g, 11, none⟩)) rfl (by kernel_rfl) (by kernel_rfl) (by kernel_rfl) (fun _ _ _ h => h) (Or.inl ⟨by rfl, by intro x _; go_simp⟩) hS ?_
    (try simp only [Act.put, List.setIfInBounds_toArray, List.set_cons_zero, List.set_cons_succ])
    refine wpAnyH_take (i := 1) (oi := { dst := some 18, op := .load 54 (.tmp 17), type := _, pos := _, after := _, guard := none }) (v := .agg (nsL .u64 LX).toArray) rfl (by kernel_rfl) (by kernel_rfl) (by kernel_rfl) (fun _ _ _ h => h) (yieldsIf_load_mid (by rfl) 54 (.tmp 17) rfl g 11 (by simp [Act.eval]) (nsL .u64 LX) _ (fun x hx => hx.1) Tryd.underlying54 rfl hzX) hS ?_
    (try simp only [Act.put, List.setIfInBounds_toArray, List.set_cons_zero, List.set_cons_succ])
    refine wpAnyH_take (i := 3) (oi := { dst := some 20, op := .move (.tmp 0), type := _, pos := _, after := _, guard := none }) (v := .pointer (some ⟨p, 0, none⟩)) rfl (by kernel_rfl) (by kernel_rfl) (by kernel_rfl) (fun _ _ _ h => h) (Or.inl ⟨by rfl, by intro x _; go_simp⟩) hS ?_
    (try simp only [Act.put, List.setIfInBounds_toArray, List.set_cons_zero, List.set_cons_succ])
    refine wpAnyH_take (i := 4) (oi := { dst := some 21, op := .nilCheck (.tmp 20), type := _, pos := _, after := _, guard := none }) (v := .pointer (some ⟨p, 0, none⟩)) rfl (by kernel_rfl) (by kernel_rfl) (by kernel_rfl) (fun _ _ _ h => h) (Or.inl ⟨by rfl, by intro x _; go_simp⟩) hS ?_
    (try simp only [Act.put, List.setIfInBounds_toArray, List.set_cons_zero, List.set_cons_succ])
    refine wpAnyH_take (i := 5) (oi := { dst := some 22, op := .fieldAddr 57 (.tmp 21) 2, type := _, pos := _, after := _, guard := none }) (v := .pointer (some ⟨p, 6, none⟩)) rfl (by kernel_rfl) (by kernel_rfl) (by kernel_rfl) (fun _ _ _ h => h) (Or.inl ⟨by rfl, by intro x _; go_simp⟩) hS ?_
    (try simp only [Act.put, List.setIfInBounds_toArray, List.set_cons_zero, List.set_cons_succ])
    refine wpAnyH_take (i := 6) (oi := { dst := some 23, op := .load 54 (.tmp 22), type := _, pos := _, after := _, guard := none }) (v := .agg (nsL .u64 LS).toArray) rfl (by kernel_rfl) (by kernel_rfl) (by kernel_rfl) (fun _ _ _ h => h) (yieldsIf_load_mid (by rfl) 54 (.tmp 22) rfl p 6 (by simp [Act.eval]) (nsL .u64 LS) _ (fun x hx => hx.2) Tryd.underlying54 rfl hzS) hS ?_
    (try simp only [Act.put, List.setIfInBounds_toArray, List.set_cons_zero, List.set_cons_succ])
    refine wpAnyH_ready (rs := [2, 12]) (by kernel_rfl) (by simp) ?_
    refine AllReadyH.cons (o := { dst := some 19, op := .call { callee := .value (.func 24), args := #[.tmp 18], argTypes := #[54] }, type := _, pos := _, after := _, guard := none }) rfl (fun K hK => ?_) (AllReadyH.cons (o := { dst := some 4, op := .alloc 54, type := _, pos := _, after := _, guard := none }) rfl (fun K hK => ?_) AllReadyH.nil)
    · go_simp
      refine (HLE.out V).mono ?_
      rintro e W2 ⟨rfl, hbc⟩
      have hG2 := hGV.below hbc hGV.lt
      have hP2 := hPV.below hbc hPV.lt
      have hb2 := hbV.trans (hbc.mono hbV.size)
      have hS2 : W2.rangeAt g 11 (nsL .u64 LX) ∧ W2.rangeAt p 6 (nsL .u64 LS) := ⟨hG2.rA, hP2.rS⟩
      refine hK.out _ _ hS2 (fun _ => ?_)
      clear hK K
      (try simp only [Act.put, List.setIfInBounds_toArray, List.set_cons_zero, List.set_cons_succ])
      revert hG2 hP2 hb2 hS2
      clear hGV hPV hbV hbc hS
      generalize W2 = V
      intro hGV hPV hbV hS
      refine wpAnyH_ready (rs := [7, 12]) (by kernel_rfl) (by simp) ?_
      refine AllReadyH.cons (o := { dst := some 24, op := .call { callee := .value (.func 25), args := #[.tmp 19, .tmp 23], argTypes := #[54, 54] }, type := _, pos := _, after := _, guard := none }) rfl (fun K hK => ?_) (AllReadyH.cons (o := { dst := some 4, op := .alloc 54, type := _, pos := _, after := _, guard := none }) rfl (fun K hK => ?_) AllReadyH.nil)
      · go_simp
        refine (HPL.out V).mono ?_
        rintro e W2 ⟨rfl, hbc⟩
        have hG2 := hGV.below hbc hGV.lt
        have hP2 := hPV.below hbc hPV.lt
        have hb2 := hbV.trans (hbc.mono hbV.size)
        have hS2 : W2.rangeAt g 11 (nsL .u64 LX) ∧ W2.rangeAt p 6 (nsL .u64 LS) := ⟨hG2.rA, hP2.rS⟩
        refine hK.out _ _ hS2 (fun _ => ?_)
        clear hK K
        (try simp only [Act.put, List.setIfInBounds_toArray, List.set_cons_zero, List.set_cons_succ])
        revert hG2 hP2 hb2 hS2
        clear hGV hPV hbV hbc hS
        generalize W2 = V
        intro hGV hPV hbV hS
        refine wpAnyH_ready (rs := [8, 12]) (by kernel_rfl) (by simp) ?_
        refine AllReadyH.cons (o := { dst := some 25, op := .call { callee := .value (.func 26), args := #[.tmp 24], argTypes := #[54] }, type := _, pos := _, after := _, guard := none }) rfl (fun K hK => ?_) (AllReadyH.cons (o := { dst := some 4, op := .alloc 54, type := _, pos := _, after := _, guard := none }) rfl (fun K hK => ?_) AllReadyH.nil)
        · go_simp
          refine (HSP.out V).mono ?_
          rintro e W2 ⟨rfl, hbc⟩
          have hG2 := hGV.below hbc hGV.lt
          have hP2 := hPV.below hbc hPV.lt
          have hb2 := hbV.trans (hbc.mono hbV.size)
          have hS2 : W2.rangeAt g 11 (nsL .u64 LX) ∧ W2.rangeAt p 6 (nsL .u64 LS) := ⟨hG2.rA, hP2.rS⟩
          refine hK.out _ _ hS2 (fun _ => ?_)
          clear hK K
          (try simp only [Act.put, List.setIfInBounds_toArray, List.set_cons_zero, List.set_cons_succ])
          revert hG2 hP2 hb2 hS2
          clear hGV hPV hbV hbc hS
          generalize W2 = V
          intro hGV hPV hbV hS
          refine wpAnyH_take (i := 9) (oi := { dst := some 16, op := .move (.tmp 25), type := _, pos := _, after := _, guard := none }) (v := .tuple #[.agg (ns .u64 LV), .int .u64 (y : Int)]) rfl (by kernel_rfl) (by kernel_rfl) (by kernel_rfl) (fun _ _ _ h => h) (Or.inl ⟨by rfl, by intro x _; go_simp⟩) hS ?_
          (try simp only [Act.put, List.setIfInBounds_toArray, List.set_cons_zero, List.set_cons_succ])
          refine wpAnyH_take (i := 10) (oi := { dst := some 26, op := .extract (.tmp 16) 0, type := _, pos := _, after := _, guard := none }) (v := .agg (ns .u64 LV)) rfl (by kernel_rfl) (by kernel_rfl) (by kernel_rfl) (fun _ _ _ h => h) (Or.inl ⟨by rfl, by intro x _; go_simp⟩) hS ?_
          (try simp only [Act.put, List.setIfInBounds_toArray, List.set_cons_zero, List.set_cons_succ])
          refine wpAnyH_take (i := 11) (oi := { dst := some 27, op := .extract (.tmp 16) 1, type := _, pos := _, after := _, guard := none }) (v := .int .u64 (y : Int)) rfl (by kernel_rfl) (by kernel_rfl) (by kernel_rfl) (fun _ _ _ h => h) (Or.inl ⟨by rfl, by intro x _; go_simp⟩) hS ?_
          (try simp only [Act.put, List.setIfInBounds_toArray, List.set_cons_zero, List.set_cons_succ])
          refine wpAnyH_ready (rs := [12]) (by kernel_rfl) (by simp) ?_
          refine AllReadyH.cons (o := { dst := some 4, op := .alloc 54, type := _, pos := _, after := _, guard := none }) rfl (fun K hK => ?_) AllReadyH.nil
          go_simp
          have hG2 := hGV.kept (Below.heap_alloc V (.cells #[.int .u64 0, .int .u64 0, .int .u64 0, .int .u64 0, .int .u64 0] 54) _ hGV.lt)
          have hP2 := hPV.kept (Below.heap_alloc V (.cells #[.int .u64 0, .int .u64 0, .int .u64 0, .int .u64 0, .int .u64 0] 54) _ hPV.lt)
          have hn2 : Nb .u64 54 (V.alloc (.cells #[.int .u64 0, .int .u64 0, .int .u64 0, .int .u64 0, .int .u64 0] 54)) V.heap.size (List.replicate 5 0) := heap_new _ _
          have hb2 := hbV.alloc hbV.size (.cells #[.int .u64 0, .int .u64 0, .int .u64 0, .int .u64 0, .int .u64 0] 54)
          have hgx : g ≠ V.heap.size ∧ p ≠ V.heap.size ∧ w.heap.size ≤ V.heap.size := ⟨by have := hGV.lt; omega, by have := hPV.lt; omega, hbV.size⟩
          have hS2 : (V.alloc (.cells #[.int .u64 0, .int .u64 0, .int .u64 0, .int .u64 0, .int .u64 0] 54)).rangeAt g 11 (nsL .u64 LX) ∧ (V.alloc (.cells #[.int .u64 0, .int .u64 0, .int .u64 0, .int .u64 0, .int .u64 0] 54)).rangeAt p 6 (nsL .u64 LS) := ⟨hG2.rA, hP2.rS⟩
          refine hK.out _ _ hS2 (fun _ => ?_)
          clear hK K
          (try simp only [Act.put, List.setIfInBounds_toArray, List.set_cons_zero, List.set_cons_succ])
          revert hG2 hP2 hn2 hb2 hgx hS2
          clear hGV hPV hbV hS
          generalize V.alloc (.cells #[.int .u64 0, .int .u64 0, .int .u64 0, .int .u64 0, .int .u64 0] 54) = V2
          generalize V.heap.size = h
          intro hGV hPV hn hbV hgx hS
          revert hGV hPV hn hbV hgx hS
          generalize V2 = V
          intro hGV hPV hn hbV hgx hS
          refine wpAnyH_ready (rs := [13]) (by kernel_rfl) (by simp) ?_
          refine AllReadyH.cons (o := { dst := none, op := .store 54 (.tmp 4) (.tmp 26), type := _, pos := _, after := _, guard := none }) rfl (fun K hK => ?_) AllReadyH.nil
          refine step_store_mid rfl 54 (.tmp 4) (.tmp 26) rfl h 0 (ns .u64 LV) (by simp [Act.eval]) (by simp [Act.eval]) (hn.there _ (by rw [ns_size, hlV]; rfl)) (ns5 LV hlV) (ns_one .u64 LV) ?_
          have hG8 := hGV.kept (heap_setCells_other h g hgx.1 (ns .u64 LV).toList 0 V)
          have hP8 := hPV.kept (heap_setCells_other h p hgx.2.1 (ns .u64 LV).toList 0 V)
          have hn8 := hn.store LV (by rw [hlV]; rfl)
          have hb8 := Below.setCells hbV hgx.2.2 0 (ns .u64 LV).toList
          have hS8 : (V.setCells h 0 (ns .u64 LV).toList).rangeAt g 11 (nsL .u64 LX) ∧ (V.setCells h 0 (ns .u64 LV).toList).rangeAt p 6 (nsL .u64 LS) := ⟨hG8.rA, hP8.rS⟩
          refine hK.out _ _ hS8 (fun _ => ?_)
          clear hK K
          (try simp only [Act.put])
          refine wpAnyH_take (i := 14) (oi := { dst := some 5, op := .assign (.tmp 27), type := _, pos := _, after := _, guard := none }) (v := .int .u64 (y : Int)) rfl (by kernel_rfl) (by kernel_rfl) (by kernel_rfl) (fun _ _ _ h => h) (Or.inl ⟨by rfl, by intro x _; go_simp⟩) hS8 ?_
          (try simp only [Act.put, List.setIfInBounds_toArray, List.set_cons_zero, List.set_cons_succ])
          refine wpAnyH_done (by kernel_rfl) ?_ _
          revert hn8 hb8
          clear hS8 hG8 hP8
          generalize V.setCells h 0 (ns .u64 LV).toList = w8
          intro hn8 hb8
          have hszV := ns5 LV hlV
          have htx := HTX.out w8
          unfold Nb at hn8
          go_wp2_with (first | (refine wpList_load_row rfl 54 (.tmp 4) rfl h rfl 54 _ (0, 0) _ hn8 Tryd.underlying54 rfl hszV ?_) | (go_at_call 27; refine htx.mono ?_; rintro e w9 ⟨rfl, hb9⟩))
          go_ret
          exact ⟨rfl, hb8.trans (hb9.mono hb8.size)⟩
        · go_simp
          have hG2 := hGV.kept (Below.heap_alloc V (.cells #[.int .u64 0, .int .u64 0, .int .u64 0, .int .u64 0, .int .u64 0] 54) _ hGV.lt)
          have hP2 := hPV.kept (Below.heap_alloc V (.cells #[.int .u64 0, .int .u64 0, .int .u64 0, .int .u64 0, .int .u64 0] 54) _ hPV.lt)
          have hn2 : Nb .u64 54 (V.alloc (.cells #[.int .u64 0, .int .u64 0, .int .u64 0, .int .u64 0, .int .u64 0] 54)) V.heap.size (List.replicate 5 0) := heap_new _ _
          have hb2 := hbV.alloc hbV.size (.cells #[.int .u64 0, .int .u64 0, .int .u64 0, .int .u64 0, .int .u64 0] 54)
          have hgx : g ≠ V.heap.size ∧ p ≠ V.heap.size ∧ w.heap.size ≤ V.heap.size := ⟨by have := hGV.lt; omega, by have := hPV.lt; omega, hbV.size⟩
          have hS2 : (V.alloc (.cells #[.int .u64 0, .int .u64 0, .int .u64 0, .int .u64 0, .int .u64 0] 54)).rangeAt g 11 (nsL .u64 LX) ∧ (V.alloc (.cells #[.int .u64 0, .int .u64 0, .int .u64 0, .int .u64 0, .int .u64 0] 54)).rangeAt p 6 (nsL .u64 LS) := ⟨hG2.rA, hP2.rS⟩
          refine hK.out _ _ hS2 (fun _ => ?_)
          clear hK K
          (try simp only [Act.put, List.setIfInBounds_toArray, List.set_cons_zero, List.set_cons_succ])
          revert hG2 hP2 hn2 hb2 hgx hS2
          clear hGV hPV hbV hS
          generalize V.alloc (.cells #[.int .u64 0, .int .u64 0, .int .u64 0, .int .u64 0, .int .u64 0] 54) = V2
          generalize V.heap.size = h
          intro hGV hPV hn hbV hgx hS
          revert hGV hPV hn hbV hgx hS
          generalize V2 = V
          intro hGV hPV hn hbV hgx hS
          refine wpAnyH_ready (rs := [8]) (by kernel_rfl) (by simp) ?_
          refine AllReadyH.cons (o := { dst := some 25, op := .call { callee := .value (.func 26), args := #[.tmp 24], argTypes := #[54] }, type := _, pos := _, after := _, guard := none }) rfl (fun K hK => ?_) AllReadyH.nil
          go_simp
          refine (HSP.out V).mono ?_
          rintro e W2 ⟨rfl, hbc⟩
          have hG2 := hGV.below hbc hGV.lt
          have hP2 := hPV.below hbc hPV.lt
          have hb2 := hbV.trans (hbc.mono hbV.size)
          have hn2 := hn.below hbc hn.lt
          have hS2 : W2.rangeAt g 11 (nsL .u64 LX) ∧ W2.rangeAt p 6 (nsL .u64 LS) := ⟨hG2.rA, hP2.rS⟩
          refine hK.out _ _ hS2 (fun _ => ?_)
          clear hK K
          (try simp only [Act.put, List.setIfInBounds_toArray, List.set_cons_zero, List.set_cons_succ])
          revert hG2 hP2 hb2 hn2 hS2
          clear hGV hPV hbV hbc hS hn
          generalize W2 = V
          intro hGV hPV hbV hn hS
          refine wpAnyH_take (i := 9) (oi := { dst := some 16, op := .move (.tmp 25), type := _, pos := _, after := _, guard := none }) (v := .tuple #[.agg (ns .u64 LV), .int .u64 (y : Int)]) rfl (by kernel_rfl) (by kernel_rfl) (by kernel_rfl) (fun _ _ _ h => h) (Or.inl ⟨by rfl, by intro x _; go_simp⟩) hS ?_
          (try simp only [Act.put, List.setIfInBounds_toArray, List.set_cons_zero, List.set_cons_succ])
          refine wpAnyH_take (i := 10) (oi := { dst := some 26, op := .extract (.tmp 16) 0, type := _, pos := _, after := _, guard := none }) (v := .agg (ns .u64 LV)) rfl (by kernel_rfl) (by kernel_rfl) (by kernel_rfl) (fun _ _ _ h => h) (Or.inl ⟨by rfl, by intro x _; go_simp⟩) hS ?_
          (try simp only [Act.put, List.setIfInBounds_toArray, List.set_cons_zero, List.set_cons_succ])
          refine wpAnyH_take (i := 11) (oi := { dst := some 27, op := .extract (.tmp 16) 1, type := _, pos := _, after := _, guard := none }) (v := .int .u64 (y : Int)) rfl (by kernel_rfl) (by kernel_rfl) (by kernel_rfl) (fun _ _ _ h => h) (Or.inl ⟨by rfl, by intro x _; go_simp⟩) hS ?_
          (try simp only [Act.put, List.setIfInBounds_toArray, List.set_cons_zero, List.set_cons_succ])
          refine wpAnyH_ready (rs := [13]) (by kernel_rfl) (by simp) ?_
          refine AllReadyH.cons (o := { dst := none, op := .store 54 (.tmp 4) (.tmp 26), type := _, pos := _, after := _, guard := none }) rfl (fun K hK => ?_) AllReadyH.nil
          refine step_store_mid rfl 54 (.tmp 4) (.tmp 26) rfl h 0 (ns .u64 LV) (by simp [Act.eval]) (by simp [Act.eval]) (hn.there _ (by rw [ns_size, hlV]; rfl)) (ns5 LV hlV) (ns_one .u64 LV) ?_
          have hG8 := hGV.kept (heap_setCells_other h g hgx.1 (ns .u64 LV).toList 0 V)
          have hP8 := hPV.kept (heap_setCells_other h p hgx.2.1 (ns .u64 LV).toList 0 V)
          have hn8 := hn.store LV (by rw [hlV]; rfl)
          have hb8 := Below.setCells hbV hgx.2.2 0 (ns .u64 LV).toList
          have hS8 : (V.setCells h 0 (ns .u64 LV).toList).rangeAt g 11 (nsL .u64 LX) ∧ (V.setCells h 0 (ns .u64 LV).toList).rangeAt p 6 (nsL .u64 LS) := ⟨hG8.rA, hP8.rS⟩
          refine hK.out _ _ hS8 (fun _ => ?_)
          clear hK K
          (try simp only [Act.put])
          refine wpAnyH_take (i := 14) (oi := { dst := some 5, op := .assign (.tmp 27), type := _, pos := _, after := _, guard := none }) (v := .int .u64 (y : Int)) rfl (by kernel_rfl) (by kernel_rfl) (by kernel_rfl) (fun _ _ _ h => h) (Or.inl ⟨by rfl, by intro x _; go_simp⟩) hS8 ?_
          (try simp only [Act.put, List.setIfInBounds_toArray, List.set_cons_zero, List.set_cons_succ])
          refine wpAnyH_done (by kernel_rfl) ?_ _
          revert hn8 hb8
          clear hS8 hG8 hP8
          generalize V.setCells h 0 (ns .u64 LV).toList = w8
          intro hn8 hb8
          have hszV := ns5 LV hlV
          have htx := HTX.out w8
          unfold Nb at hn8
          go_wp2_with (first | (refine wpList_load_row rfl 54 (.tmp 4) rfl h rfl 54 _ (0, 0) _ hn8 Tryd.underlying54 rfl hszV ?_) | (go_at_call 27; refine htx.mono ?_; rintro e w9 ⟨rfl, hb9⟩))
          go_ret
          exact ⟨rfl, hb8.trans (hb9.mono hb8.size)⟩
      · go_simp
        have hG2 := hGV.kept (Below.heap_alloc V (.cells #[.int .u64 0, .int .u64 0, .int .u64 0, .int .u64 0, .int .u64 0] 54) _ hGV.lt)
        have hP2 := hPV.kept (Below.heap_alloc V (.cells #[.int .u64 0, .int .u64 0, .int .u64 0, .int .u64 0, .int .u64 0] 54) _ hPV.lt)
        have hn2 : Nb .u64 54 (V.alloc (.cells #[.int .u64 0, .int .u64 0, .int .u64 0, .int .u64 0, .int .u64 0] 54)) V.heap.size (List.replicate 5 0) := heap_new _ _
        have hb2 := hbV.alloc hbV.size (.cells #[.int .u64 0, .int .u64 0, .int .u64 0, .int .u64 0, .int .u64 0] 54)
        have hgx : g ≠ V.heap.size ∧ p ≠ V.heap.size ∧ w.heap.size ≤ V.heap.size := ⟨by have := hGV.lt; omega, by have := hPV.lt; omega, hbV.size⟩
        have hS2 : (V.alloc (.cells #[.int .u64 0, .int .u64 0, .int .u64 0, .int .u64 0, .int .u64 0] 54)).rangeAt g 11 (nsL .u64 LX) ∧ (V.alloc (.cells #[.int .u64 0, .int .u64 0, .int .u64 0, .int .u64 0, .int .u64 0] 54)).rangeAt p 6 (nsL .u64 LS) := ⟨hG2.rA, hP2.rS⟩
        refine hK.out _ _ hS2 (fun _ => ?_)
        clear hK K
        (try simp only [Act.put, List.setIfInBounds_toArray, List.set_cons_zero, List.set_cons_succ])
        revert hG2 hP2 hn2 hb2 hgx hS2
        clear hGV hPV hbV hS
        generalize V.alloc (.cells #[.int .u64 0, .int .u64 0, .int .u64 0, .int .u64 0, .int .u64 0] 54) = V2
        generalize V.heap.size = h
        intro hGV hPV hn hbV hgx hS
        revert hGV hPV hn hbV hgx hS
        generalize V2 = V
        intro hGV hPV hn hbV hgx hS
        refine wpAnyH_ready (rs := [7]) (by kernel_rfl) (by simp) ?_
        refine AllReadyH.cons (o := { dst := some 24, op := .call { callee := .value (.func 25), args := #[.tmp 19, .tmp 23], argTypes := #[54, 54] }, type := _, pos := _, after := _, guard := none }) rfl (fun K hK => ?_) AllReadyH.nil
        go_simp
        refine (HPL.out V).mono ?_
        rintro e W2 ⟨rfl, hbc⟩
        have hG2 := hGV.below hbc hGV.lt
        have hP2 := hPV.below hbc hPV.lt
        have hb2 := hbV.trans (hbc.mono hbV.size)
        have hn2 := hn.below hbc hn.lt
        have hS2 : W2.rangeAt g 11 (nsL .u64 LX) ∧ W2.rangeAt p 6 (nsL .u64 LS) := ⟨hG2.rA, hP2.rS⟩
        refine hK.out _ _ hS2 (fun _ => ?_)
        clear hK K
        (try simp only [Act.put, List.setIfInBounds_toArray, List.set_cons_zero, List.set_cons_succ])
        revert hG2 hP2 hb2 hn2 hS2
        clear hGV hPV hbV hbc hS hn
        generalize W2 = V
        intro hGV hPV hbV hn hS
        refine wpAnyH_ready (rs := [8]) (by kernel_rfl) (by simp) ?_
        refine AllReadyH.cons (o := { dst := some 25, op := .call { callee := .value (.func 26), args := #[.tmp 24], argTypes := #[54] }, type := _, pos := _, after := _, guard := none }) rfl (fun K hK => ?_) AllReadyH.nil
        go_simp
        refine (HSP.out V).mono ?_
        rintro e W2 ⟨rfl, hbc⟩
        have hG2 := hGV.below hbc hGV.lt
        have hP2 := hPV.below hbc hPV.lt
        have hb2 := hbV.trans (hbc.mono hbV.size)
        have hn2 := hn.below hbc hn.lt
        have hS2 : W2.rangeAt g 11 (nsL .u64 LX) ∧ W2.rangeAt p 6 (nsL .u64 LS) := ⟨hG2.rA, hP2.rS⟩
        refine hK.out _ _ hS2 (fun _ => ?_)
        clear hK K
        (try simp only [Act.put, List.setIfInBounds_toArray, List.set_cons_zero, List.set_cons_succ])
        revert hG2 hP2 hb2 hn2 hS2
        clear hGV hPV hbV hbc hS hn
        generalize W2 = V
        intro hGV hPV hbV hn hS
        refine wpAnyH_take (i := 9) (oi := { dst := some 16, op := .move (.tmp 25), type := _, pos := _, after := _, guard := none }) (v := .tuple #[.agg (ns .u64 LV), .int .u64 (y : Int)]) rfl (by kernel_rfl) (by kernel_rfl) (by kernel_rfl) (fun _ _ _ h => h) (Or.inl ⟨by rfl, by intro x _; go_simp⟩) hS ?_
        (try simp only [Act.put, List.setIfInBounds_toArray, List.set_cons_zero, List.set_cons_succ])
        refine wpAnyH_take (i := 10) (oi := { dst := some 26, op := .extract (.tmp 16) 0, type := _, pos := _, after := _, guard := none }) (v := .agg (ns .u64 LV)) rfl (by kernel_rfl) (by kernel_rfl) (by kernel_rfl) (fun _ _ _ h => h) (Or.inl ⟨by rfl, by intro x _; go_simp⟩) hS ?_
        (try simp only [Act.put, List.setIfInBounds_toArray, List.set_cons_zero, List.set_cons_succ])
        refine wpAnyH_take (i := 11) (oi := { dst := some 27, op := .extract (.tmp 16) 1, type := _, pos := _, after := _, guard := none }) (v := .int .u64 (y : Int)) rfl (by kernel_rfl) (by kernel_rfl) (by kernel_rfl) (fun _ _ _ h => h) (Or.inl ⟨by rfl, by intro x _; go_simp⟩) hS ?_
        (try simp only [Act.put, List.setIfInBounds_toArray, List.set_cons_zero, List.set_cons_succ])
        refine wpAnyH_ready (rs := [13]) (by kernel_rfl) (by simp) ?_
        refine AllReadyH.cons (o := { dst := none, op := .store 54 (.tmp 4) (.tmp 26), type := _, pos := _, after := _, guard := none }) rfl (fun K hK => ?_) AllReadyH.nil
        refine step_store_mid rfl 54 (.tmp 4) (.tmp 26) rfl h 0 (ns .u64 LV) (by simp [Act.eval]) (by simp [Act.eval]) (hn.there _ (by rw [ns_size, hlV]; rfl)) (ns5 LV hlV) (ns_one .u64 LV) ?_
        have hG8 := hGV.kept (heap_setCells_other h g hgx.1 (ns .u64 LV).toList 0 V)
        have hP8 := hPV.kept (heap_setCells_other h p hgx.2.1 (ns .u64 LV).toList 0 V)
        have hn8 := hn.store LV (by rw [hlV]; rfl)
        have hb8 := Below.setCells hbV hgx.2.2 0 (ns .u64 LV).toList
        have hS8 : (V.setCells h 0 (ns .u64 LV).toList).rangeAt g 11 (nsL .u64 LX) ∧ (V.setCells h 0 (ns .u64 LV).toList).rangeAt p 6 (nsL .u64 LS) := ⟨hG8.rA, hP8.rS⟩
        refine hK.out _ _ hS8 (fun _ => ?_)
        clear hK K
        (try simp only [Act.put])
        refine wpAnyH_take (i := 14) (oi := { dst := some 5, op := .assign (.tmp 27), type := _, pos := _, after := _, guard := none }) (v := .int .u64 (y : Int)) rfl (by kernel_rfl) (by kernel_rfl) (by kernel_rfl) (fun _ _ _ h => h) (Or.inl ⟨by rfl, by intro x _; go_simp⟩) hS8 ?_
        (try simp only [Act.put, List.setIfInBounds_toArray, List.set_cons_zero, List.set_cons_succ])
        refine wpAnyH_done (by kernel_rfl) ?_ _
        revert hn8 hb8
        clear hS8 hG8 hP8
        generalize V.setCells h 0 (ns .u64 LV).toList = w8
        intro hn8 hb8
        have hszV := ns5 LV hlV
        have htx := HTX.out w8
        unfold Nb at hn8
        go_wp2_with (first | (refine wpList_load_row rfl 54 (.tmp 4) rfl h rfl 54 _ (0, 0) _ hn8 Tryd.underlying54 rfl hszV ?_) | (go_at_call 27; refine htx.mono ?_; rintro e w9 ⟨rfl, hb9⟩))
        go_ret
        exact ⟨rfl, hb8.trans (hb9.mono hb8.size)⟩
    · go_simp
      have hG2 := hGV.kept (Below.heap_alloc V (.cells #[.int .u64 0, .int .u64 0, .int .u64 0, .int .u64 0, .int .u64 0] 54) _ hGV.lt)
      have hP2 := hPV.kept (Below.heap_alloc V (.cells #[.int .u64 0, .int .u64 0, .int .u64 0, .int .u64 0, .int .u64 0] 54) _ hPV.lt)
      have hn2 : Nb .u64 54 (V.alloc (.cells #[.int .u64 0, .int .u64 0, .int .u64 0, .int .u64 0, .int .u64 0] 54)) V.heap.size (List.replicate 5 0) := heap_new _ _
      have hb2 := hbV.alloc hbV.size (.cells #[.int .u64 0, .int .u64 0, .int .u64 0, .int .u64 0, .int .u64 0] 54)
      have hgx : g ≠ V.heap.size ∧ p ≠ V.heap.size ∧ w.heap.size ≤ V.heap.size := ⟨by have := hGV.lt; omega, by have := hPV.lt; omega, hbV.size⟩
      have hS2 : (V.alloc (.cells #[.int .u64 0, .int .u64 0, .int .u64 0, .int .u64 0, .int .u64 0] 54)).rangeAt g 11 (nsL .u64 LX) ∧ (V.alloc (.cells #[.int .u64 0, .int .u64 0, .int .u64 0, .int .u64 0, .int .u64 0] 54)).rangeAt p 6 (nsL .u64 LS) := ⟨hG2.rA, hP2.rS⟩
      refine hK.out _ _ hS2 (fun _ => ?_)
      clear hK K
      (try simp only [Act.put, List.setIfInBounds_toArray, List.set_cons_zero, List.set_cons_succ])
      revert hG2 hP2 hn2 hb2 hgx hS2
      clear hGV hPV hbV hS
      generalize V.alloc (.cells #[.int .u64 0, .int .u64 0, .int .u64 0, .int .u64 0, .int .u64 0] 54) = V2
      generalize V.heap.size = h
      intro hGV hPV hn hbV hgx hS
      revert hGV hPV hn hbV hgx hS
      generalize V2 = V
      intro hGV hPV hn hbV hgx hS
      refine wpAnyH_ready (rs := [2]) (by kernel_rfl) (by simp) ?_
      refine AllReadyH.cons (o := { dst := some 19, op := .call { callee := .value (.func 24), args := #[.tmp 18], argTypes := #[54] }, type := _, pos := _, after := _, guard := none }) rfl (fun K hK => ?_) AllReadyH.nil
      go_simp
      refine (HLE.out V).mono ?_
      rintro e W2 ⟨rfl, hbc⟩
      have hG2 := hGV.below hbc hGV.lt
      have hP2 := hPV.below hbc hPV.lt
      have hb2 := hbV.trans (hbc.mono hbV.size)
      have hn2 := hn.below hbc hn.lt
      have hS2 : W2.rangeAt g 11 (nsL .u64 LX) ∧ W2.rangeAt p 6 (nsL .u64 LS) := ⟨hG2.rA, hP2.rS⟩
      refine hK.out _ _ hS2 (fun _ => ?_)
      clear hK K
      (try simp only [Act.put, List.setIfInBounds_toArray, List.set_cons_zero, List.set_cons_succ])
      revert hG2 hP2 hb2 hn2 hS2
      clear hGV hPV hbV hbc hS hn
      generalize W2 = V
      intro hGV hPV hbV hn hS
      refine wpAnyH_ready (rs := [7]) (by kernel_rfl) (by simp) ?_
      refine AllReadyH.cons (o := { dst := some 24, op := .call { callee := .value (.func 25), args := #[.tmp 19, .tmp 23], argTypes := #[54, 54] }, type := _, pos := _, after := _, guard := none }) rfl (fun K hK => ?_) AllReadyH.nil
      go_simp
      refine (HPL.out V).mono ?_
      rintro e W2 ⟨rfl, hbc⟩
      have hG2 := hGV.below hbc hGV.lt
      have hP2 := hPV.below hbc hPV.lt
      have hb2 := hbV.trans (hbc.mono hbV.size)
      have hn2 := hn.below hbc hn.lt
      have hS2 : W2.rangeAt g 11 (nsL .u64 LX) ∧ W2.rangeAt p 6 (nsL .u64 LS) := ⟨hG2.rA, hP2.rS⟩
      refine hK.out _ _ hS2 (fun _ => ?_)
      clear hK K
      (try simp only [Act.put, List.setIfInBounds_toArray, List.set_cons_zero, List.set_cons_succ])
      revert hG2 hP2 hb2 hn2 hS2
      clear hGV hPV hbV hbc hS hn
      generalize W2 = V
      intro hGV hPV hbV hn hS
      refine wpAnyH_ready (rs := [8]) (by kernel_rfl) (by simp) ?_
      refine AllReadyH.cons (o := { dst := some 25, op := .call { callee := .value (.func 26), args := #[.tmp 24], argTypes := #[54] }, type := _, pos := _, after := _, guard := none }) rfl (fun K hK => ?_) AllReadyH.nil
      go_simp
      refine (HSP.out V).mono ?_
      rintro e W2 ⟨rfl, hbc⟩
      have hG2 := hGV.below hbc hGV.lt
      have hP2 := hPV.below hbc hPV.lt
      have hb2 := hbV.trans (hbc.mono hbV.size)
      have hn2 := hn.below hbc hn.lt
      have hS2 : W2.rangeAt g 11 (nsL .u64 LX) ∧ W2.rangeAt p 6 (nsL .u64 LS) := ⟨hG2.rA, hP2.rS⟩
      refine hK.out _ _ hS2 (fun _ => ?_)
      clear hK K
      (try simp only [Act.put, List.setIfInBounds_toArray, List.set_cons_zero, List.set_cons_succ])
      revert hG2 hP2 hb2 hn2 hS2
      clear hGV hPV hbV hbc hS hn
      generalize W2 = V
      intro hGV hPV hbV hn hS
      refine wpAnyH_take (i := 9) (oi := { dst := some 16, op := .move (.tmp 25), type := _, pos := _, after := _, guard := none }) (v := .tuple #[.agg (ns .u64 LV), .int .u64 (y : Int)]) rfl (by kernel_rfl) (by kernel_rfl) (by kernel_rfl) (fun _ _ _ h => h) (Or.inl ⟨by rfl, by intro x _; go_simp⟩) hS ?_
      (try simp only [Act.put, List.setIfInBounds_toArray, List.set_cons_zero, List.set_cons_succ])
      refine wpAnyH_take (i := 10) (oi := { dst := some 26, op := .extract (.tmp 16) 0, type := _, pos := _, after := _, guard := none }) (v := .agg (ns .u64 LV)) rfl (by kernel_rfl) (by kernel_rfl) (by kernel_rfl) (fun _ _ _ h => h) (Or.inl ⟨by rfl, by intro x _; go_simp⟩) hS ?_
      (try simp only [Act.put, List.setIfInBounds_toArray, List.set_cons_zero, List.set_cons_succ])
      refine wpAnyH_take (i := 11) (oi := { dst := some 27, op := .extract (.tmp 16) 1, type := _, pos := _, after := _, guard := none }) (v := .int .u64 (y : Int)) rfl (by kernel_rfl) (by kernel_rfl) (by kernel_rfl) (fun _ _ _ h => h) (Or.inl ⟨by rfl, by intro x _; go_simp⟩) hS ?_
      (try simp only [Act.put, List.setIfInBounds_toArray, List.set_cons_zero, List.set_cons_succ])
      refine wpAnyH_ready (rs := [13]) (by kernel_rfl) (by simp) ?_
      refine AllReadyH.cons (o := { dst := none, op := .store 54 (.tmp 4) (.tmp 26), type := _, pos := _, after := _, guard := none }) rfl (fun K hK => ?_) AllReadyH.nil
      refine step_store_mid rfl 54 (.tmp 4) (.tmp 26) rfl h 0 (ns .u64 LV) (by simp [Act.eval]) (by simp [Act.eval]) (hn.there _ (by rw [ns_size, hlV]; rfl)) (ns5 LV hlV) (ns_one .u64 LV) ?_
      have hG8 := hGV.kept (heap_setCells_other h g hgx.1 (ns .u64 LV).toList 0 V)
      have hP8 := hPV.kept (heap_setCells_other h p hgx.2.1 (ns .u64 LV).toList 0 V)
      have hn8 := hn.store LV (by rw [hlV]; rfl)
      have hb8 := Below.setCells hbV hgx.2.2 0 (ns .u64 LV).toList
      have hS8 : (V.setCells h 0 (ns .u64 LV).toList).rangeAt g 11 (nsL .u64 LX) ∧ (V.setCells h 0 (ns .u64 LV).toList).rangeAt p 6 (nsL .u64 LS) := ⟨hG8.rA, hP8.rS⟩
      refine hK.out _ _ hS8 (fun _ => ?_)
      clear hK K
      (try simp only [Act.put])
      refine wpAnyH_take (i := 14) (oi := { dst := some 5, op := .assign (.tmp 27), type := _, pos := _, after := _, guard := none }) (v := .int .u64 (y : Int)) rfl (by kernel_rfl) (by kernel_rfl) (by kernel_rfl) (fun _ _ _ h => h) (Or.inl ⟨by rfl, by intro x _; go_simp⟩) hS8 ?_
      (try simp only [Act.put, List.setIfInBounds_toArray, List.set_cons_zero, List.set_cons_succ])
      refine wpAnyH_done (by kernel_rfl) ?_ _
      revert hn8 hb8
      clear hS8 hG8 hP8
      generalize V.setCells h 0 (ns .u64 LV).toList = w8
      intro hn8 hb8
      have hszV := ns5 LV hlV
      have htx := HTX.out w8
      unfold Nb at hn8
      go_wp2_with (first | (refine wpList_load_row rfl 54 (.tmp 4) rfl h rfl 54 _ (0, 0) _ hn8 Tryd.underlying54 rfl hszV ?_) | (go_at_call 27; refine htx.mono ?_; rintro e w9 ⟨rfl, hb9⟩))
      go_ret
      exact ⟨rfl, hb8.trans (hb9.mono hb8.size)⟩
  · have hq0I : (0 : Int) < (q : Int) := by omega
    rw [if_neg hq0] at hacc
    have hnb := num_block rest (by omega)
    have hsb := set_block rest (by omega)
    rw [hrest] at hsb
    have hnp : numL (rest ++ [1] ++ List.replicate (16 - q) 0) = numL (rest ++ [1]) := numL_pad _ _
    have hend := endBlock_any hG (by omega) hr hA1 (rest ++ [1] ++ List.replicate (16 - q) 0) (by rw [List.length_append, List.length_append, List.length_replicate, hrest]; simp; omega) hsb (by rw [hnp]; exact hnb)
    rw [hnp, step_mod A _ r _ hA2, ← hacc] at hend
    go_upto_region 6 with (go_at_call 23; refine hend.mono ?_; rintro e w4 ⟨rfl, ⟨X, hX1, hX2, hX3⟩, hO4⟩)
    have hP4 := hP.kept (hO4.block p hP.lt (by simp; omega))
    have hb4 : Below w.heap.size w w4 := hb.trans (hO4.below hb.size (by have := HG.out; simp; omega))
    clear hG hP hb hend hO4 hnb hsb hnp c33
    revert hX3 hP4 hb4
    generalize w4 = w3
    intro hG hP hb
    obtain ⟨Z, LV, y, hlV, k1, k2, k3, k4⟩ := end_contracts X s _ hX1 hX2 hs
    rw [← HTN.out] at k4
    have HLE : Hid _ := k1
    have HPL : Hid _ := k2
    have HSP : Hid _ := k3
    have HTX : Hid _ := k4
    clear k1 k2 k3 k4 HTN hA2 hA1 hacc hX1 hX2
    have hlX := lim_length X
    revert hG hP HLE HPL hlX hls
    generalize lim X = LX
    generalize lim s = LS
    generalize lim (accN r l ((l.length + 15) / 16) % Pp) = LA
    intro hlS hG hP HLE HPL hlX
    have hzX : (Tryd.prog.info? 54).map (·.size) = some (nsL .u64 LX).length := by rw [nsL_length, hlX]; exact size46
    have hzS : (Tryd.prog.info? 54).map (·.size) = some (nsL .u64 LS).length := by rw [nsL_length, hlS]; exact size46
    refine wp_region_held_drew (S := fun W => W.rangeAt g 11 (nsL .u64 LX) ∧ W.rangeAt p 6 (nsL .u64 LS)) (by kernel_rfl) ⟨hG.drew.rA, hP.drew.rS⟩ ?_
    intro hS
    have hGV := hG.drew
    have hPV := hP.drew
    have hbV := hb.drew
    clear hG hP hb
    revert hS hGV hPV hbV
    generalize w3.drew = V
    intro hS hGV hPV hbV
    refine wpAnyH_take (i := 0) (oi := { dst := some 17, op := .fieldAddr 57 (.tmp 3) 3, type := _, pos := _, after := _, guard := none }) (v := .pointer (some ⟨g, 11, none⟩)) rfl (by kernel_rfl) (by kernel_rfl) (by kernel_rfl) (fun _ _ _ h => h) (Or.inl ⟨by rfl, by intro x _; go_simp⟩) hS ?_
    (try simp only [Act.put, List.setIfInBounds_toArray, List.set_cons_zero, List.set_cons_succ])
    refine wpAnyH_take (i := 1) (oi := { dst := some 18, op := .load 54 (.tmp 17), type := _, pos := _, after := _, guard := none }) (v := .agg (nsL .u64 LX).toArray) rfl (by kernel_rfl) (by kernel_rfl) (by kernel_rfl) (fun _ _ _ h => h) (yieldsIf_load_mid (by rfl) 54 (.tmp 17) rfl g 11 (by simp [Act.eval]) (nsL .u64 LX) _ (fun x hx => hx.1) Tryd.underlying54 rfl hzX) hS ?_
    (try simp only [Act.put, List.setIfInBounds_toArray, List.set_cons_zero, List.set_cons_succ])
    refine wpAnyH_take (i := 3) (oi := { dst := some 20, op := .move (.tmp 0), type := _, pos := _, after := _, guard := none }) (v := .pointer (some ⟨p, 0, none⟩)) rfl (by kernel_rfl) (by kernel_rfl) (by kernel_rfl) (fun _ _ _ h => h) (Or.inl ⟨by rfl, by intro x _; go_simp⟩) hS ?_
    (try simp only [Act.put, List.setIfInBounds_toArray, List.set_cons_zero, List.set_cons_succ])
    refine wpAnyH_take (i := 4) (oi := { dst := some 21, op := .nilCheck (.tmp 20), type := _, pos := _, after := _, guard := none }) (v := .pointer (some ⟨p, 0, none⟩)) rfl (by kernel_rfl) (by kernel_rfl) (by kernel_rfl) (fun _ _ _ h => h) (Or.inl ⟨by rfl, by intro x _; go_simp⟩) hS ?_
    (try simp only [Act.put, List.setIfInBounds_toArray, List.set_cons_zero, List.set_cons_succ])
    refine wpAnyH_take (i := 5) (oi := { dst := some 22, op := .fieldAddr 57 (.tmp 21) 2, type := _, pos := _, after := _, guard := none }) (v := .pointer (some ⟨p, 6, none⟩)) rfl (by kernel_rfl) (by kernel_rfl) (by kernel_rfl) (fun _ _ _ h => h) (Or.inl ⟨by rfl, by intro x _; go_simp⟩) hS ?_
    (try simp only [Act.put, List.setIfInBounds_toArray, List.set_cons_zero, List.set_cons_succ])
    refine wpAnyH_take (i := 6) (oi := { dst := some 23, op := .load 54 (.tmp 22), type := _, pos := _, after := _, guard := none }) (v := .agg (nsL .u64 LS).toArray) rfl (by kernel_rfl) (by kernel_rfl) (by kernel_rfl) (fun _ _ _ h => h) (yieldsIf_load_mid (by rfl) 54 (.tmp 22) rfl p 6 (by simp [Act.eval]) (nsL .u64 LS) _ (fun x hx => hx.2) Tryd.underlying54 rfl hzS) hS ?_
    (try simp only [Act.put, List.setIfInBounds_toArray, List.set_cons_zero, List.set_cons_succ])
    refine wpAnyH_ready (rs := [2, 12]) (by kernel_rfl) (by simp) ?_
    refine AllReadyH.cons (o := { dst := some 19, op := .call { callee := .value (.func 24), args := #[.tmp 18], argTypes := #[54] }, type := _, pos := _, after := _, guard := none }) rfl (fun K hK => ?_) (AllReadyH.cons (o := { dst := some 4, op := .alloc 54, type := _, pos := _, after := _, guard := none }) rfl (fun K hK => ?_) AllReadyH.nil)
    · go_simp
      refine (HLE.out V).mono ?_
      rintro e W2 ⟨rfl, hbc⟩
      have hG2 := hGV.below hbc hGV.lt
      have hP2 := hPV.below hbc hPV.lt
      have hb2 := hbV.trans (hbc.mono hbV.size)
      have hS2 : W2.rangeAt g 11 (nsL .u64 LX) ∧ W2.rangeAt p 6 (nsL .u64 LS) := ⟨hG2.rA, hP2.rS⟩
      refine hK.out _ _ hS2 (fun _ => ?_)
      clear hK K
      (try simp only [Act.put, List.setIfInBounds_toArray, List.set_cons_zero, List.set_cons_succ])
      revert hG2 hP2 hb2 hS2
      clear hGV hPV hbV hbc hS
      generalize W2 = V
      intro hGV hPV hbV hS
      refine wpAnyH_ready (rs := [7, 12]) (by kernel_rfl) (by simp) ?_
      refine AllReadyH.cons (o := { dst := some 24, op := .call { callee := .value (.func 25), args := #[.tmp 19, .tmp 23], argTypes := #[54, 54] }, type := _, pos := _, after := _, guard := none }) rfl (fun K hK => ?_) (AllReadyH.cons (o := { dst := some 4, op := .alloc 54, type := _, pos := _, after := _, guard := none }) rfl (fun K hK => ?_) AllReadyH.nil)
      · go_simp
        refine (HPL.out V).mono ?_
        rintro e W2 ⟨rfl, hbc⟩
        have hG2 := hGV.below hbc hGV.lt
        have hP2 := hPV.below hbc hPV.lt
        have hb2 := hbV.trans (hbc.mono hbV.size)
        have hS2 : W2.rangeAt g 11 (nsL .u64 LX) ∧ W2.rangeAt p 6 (nsL .u64 LS) := ⟨hG2.rA, hP2.rS⟩
        refine hK.out _ _ hS2 (fun _ => ?_)
        clear hK K
        (try simp only [Act.put, List.setIfInBounds_toArray, List.set_cons_zero, List.set_cons_succ])
        revert hG2 hP2 hb2 hS2
        clear hGV hPV hbV hbc hS
        generalize W2 = V
        intro hGV hPV hbV hS
        refine wpAnyH_ready (rs := [8, 12]) (by kernel_rfl) (by simp) ?_
        refine AllReadyH.cons (o := { dst := some 25, op := .call { callee := .value (.func 26), args := #[.tmp 24], argTypes := #[54] }, type := _, pos := _, after := _, guard := none }) rfl (fun K hK => ?_) (AllReadyH.cons (o := { dst := some 4, op := .alloc 54, type := _, pos := _, after := _, guard := none }) rfl (fun K hK => ?_) AllReadyH.nil)
        · go_simp
          refine (HSP.out V).mono ?_
          rintro e W2 ⟨rfl, hbc⟩
          have hG2 := hGV.below hbc hGV.lt
          have hP2 := hPV.below hbc hPV.lt
          have hb2 := hbV.trans (hbc.mono hbV.size)
          have hS2 : W2.rangeAt g 11 (nsL .u64 LX) ∧ W2.rangeAt p 6 (nsL .u64 LS) := ⟨hG2.rA, hP2.rS⟩
          refine hK.out _ _ hS2 (fun _ => ?_)
          clear hK K
          (try simp only [Act.put, List.setIfInBounds_toArray, List.set_cons_zero, List.set_cons_succ])
          revert hG2 hP2 hb2 hS2
          clear hGV hPV hbV hbc hS
          generalize W2 = V
          intro hGV hPV hbV hS
          refine wpAnyH_take (i := 9) (oi := { dst := some 16, op := .move (.tmp 25), type := _, pos := _, after := _, guard := none }) (v := .tuple #[.agg (ns .u64 LV), .int .u64 (y : Int)]) rfl (by kernel_rfl) (by kernel_rfl) (by kernel_rfl) (fun _ _ _ h => h) (Or.inl ⟨by rfl, by intro x _; go_simp⟩) hS ?_
          (try simp only [Act.put, List.setIfInBounds_toArray, List.set_cons_zero, List.set_cons_succ])
          refine wpAnyH_take (i := 10) (oi := { dst := some 26, op := .extract (.tmp 16) 0, type := _, pos := _, after := _, guard := none }) (v := .agg (ns .u64 LV)) rfl (by kernel_rfl) (by kernel_rfl) (by kernel_rfl) (fun _ _ _ h => h) (Or.inl ⟨by rfl, by intro x _; go_simp⟩) hS ?_
          (try simp only [Act.put, List.setIfInBounds_toArray, List.set_cons_zero, List.set_cons_succ])
          refine wpAnyH_take (i := 11) (oi := { dst := some 27, op := .extract (.tmp 16) 1, type := _, pos := _, after := _, guard := none }) (v := .int .u64 (y : Int)) rfl (by kernel_rfl) (by kernel_rfl) (by kernel_rfl) (fun _ _ _ h => h) (Or.inl ⟨by rfl, by intro x _; go_simp⟩) hS ?_
          (try simp only [Act.put, List.setIfInBounds_toArray, List.set_cons_zero, List.set_cons_succ])
          refine wpAnyH_ready (rs := [12]) (by kernel_rfl) (by simp) ?_
          refine AllReadyH.cons (o := { dst := some 4, op := .alloc 54, type := _, pos := _, after := _, guard := none }) rfl (fun K hK => ?_) AllReadyH.nil
          go_simp
          have hG2 := hGV.kept (Below.heap_alloc V (.cells #[.int .u64 0, .int .u64 0, .int .u64 0, .int .u64 0, .int .u64 0] 54) _ hGV.lt)
          have hP2 := hPV.kept (Below.heap_alloc V (.cells #[.int .u64 0, .int .u64 0, .int .u64 0, .int .u64 0, .int .u64 0] 54) _ hPV.lt)
          have hn2 : Nb .u64 54 (V.alloc (.cells #[.int .u64 0, .int .u64 0, .int .u64 0, .int .u64 0, .int .u64 0] 54)) V.heap.size (List.replicate 5 0) := heap_new _ _
          have hb2 := hbV.alloc hbV.size (.cells #[.int .u64 0, .int .u64 0, .int .u64 0, .int .u64 0, .int .u64 0] 54)
          have hgx : g ≠ V.heap.size ∧ p ≠ V.heap.size ∧ w.heap.size ≤ V.heap.size := ⟨by have := hGV.lt; omega, by have := hPV.lt; omega, hbV.size⟩
          have hS2 : (V.alloc (.cells #[.int .u64 0, .int .u64 0, .int .u64 0, .int .u64 0, .int .u64 0] 54)).rangeAt g 11 (nsL .u64 LX) ∧ (V.alloc (.cells #[.int .u64 0, .int .u64 0, .int .u64 0, .int .u64 0, .int .u64 0] 54)).rangeAt p 6 (nsL .u64 LS) := ⟨hG2.rA, hP2.rS⟩
          refine hK.out _ _ hS2 (fun _ => ?_)
          clear hK K
          (try simp only [Act.put, List.setIfInBounds_toArray, List.set_cons_zero, List.set_cons_succ])
          revert hG2 hP2 hn2 hb2 hgx hS2
          clear hGV hPV hbV hS
          generalize V.alloc (.cells #[.int .u64 0, .int .u64 0, .int .u64 0, .int .u64 0, .int .u64 0] 54) = V2
          generalize V.heap.size = h
          intro hGV hPV hn hbV hgx hS
          revert hGV hPV hn hbV hgx hS
          generalize V2 = V
          intro hGV hPV hn hbV hgx hS
          refine wpAnyH_ready (rs := [13]) (by kernel_rfl) (by simp) ?_
          refine AllReadyH.cons (o := { dst := none, op := .store 54 (.tmp 4) (.tmp 26), type := _, pos := _, after := _, guard := none }) rfl (fun K hK => ?_) AllReadyH.nil
          refine step_store_mid rfl 54 (.tmp 4) (.tmp 26) rfl h 0 (ns .u64 LV) (by simp [Act.eval]) (by simp [Act.eval]) (hn.there _ (by rw [ns_size, hlV]; rfl)) (ns5 LV hlV) (ns_one .u64 LV) ?_
          have hG8 := hGV.kept (heap_setCells_other h g hgx.1 (ns .u64 LV).toList 0 V)
          have hP8 := hPV.kept (heap_setCells_other h p hgx.2.1 (ns .u64 LV).toList 0 V)
          have hn8 := hn.store LV (by rw [hlV]; rfl)
          have hb8 := Below.setCells hbV hgx.2.2 0 (ns .u64 LV).toList
          have hS8 : (V.setCells h 0 (ns .u64 LV).toList).rangeAt g 11 (nsL .u64 LX) ∧ (V.setCells h 0 (ns .u64 LV).toList).rangeAt p 6 (nsL .u64 LS) := ⟨hG8.rA, hP8.rS⟩
          refine hK.out _ _ hS8 (fun _ => ?_)
          clear hK K
          (try simp only [Act.put])
          refine wpAnyH_take (i := 14) (oi := { dst := some 5, op := .assign (.tmp 27), type := _, pos := _, after := _, guard := none }) (v := .int .u64 (y : Int)) rfl (by kernel_rfl) (by kernel_rfl) (by kernel_rfl) (fun _ _ _ h => h) (Or.inl ⟨by rfl, by intro x _; go_simp⟩) hS8 ?_
          (try simp only [Act.put, List.setIfInBounds_toArray, List.set_cons_zero, List.set_cons_succ])
          refine wpAnyH_done (by kernel_rfl) ?_ _
          revert hn8 hb8
          clear hS8 hG8 hP8
          generalize V.setCells h 0 (ns .u64 LV).toList = w8
          intro hn8 hb8
          have hszV := ns5 LV hlV
          have htx := HTX.out w8
          unfold Nb at hn8
          go_wp2_with (first | (refine wpList_load_row rfl 54 (.tmp 4) rfl h rfl 54 _ (0, 0) _ hn8 Tryd.underlying54 rfl hszV ?_) | (go_at_call 27; refine htx.mono ?_; rintro e w9 ⟨rfl, hb9⟩))
          go_ret
          exact ⟨rfl, hb8.trans (hb9.mono hb8.size)⟩
        · go_simp
          have hG2 := hGV.kept (Below.heap_alloc V (.cells #[.int .u64 0, .int .u64 0, .int .u64 0, .int .u64 0, .int .u64 0] 54) _ hGV.lt)
          have hP2 := hPV.kept (Below.heap_alloc V (.cells #[.int .u64 0, .int .u64 0, .int .u64 0, .int .u64 0, .int .u64 0] 54) _ hPV.lt)
          have hn2 : Nb .u64 54 (V.alloc (.cells #[.int .u64 0, .int .u64 0, .int .u64 0, .int .u64 0, .int .u64 0] 54)) V.heap.size (List.replicate 5 0) := heap_new _ _
          have hb2 := hbV.alloc hbV.size (.cells #[.int .u64 0, .int .u64 0, .int .u64 0, .int .u64 0, .int .u64 0] 54)
          have hgx : g ≠ V.heap.size ∧ p ≠ V.heap.size ∧ w.heap.size ≤ V.heap.size := ⟨by have := hGV.lt; omega, by have := hPV.lt; omega, hbV.size⟩
          have hS2 : (V.alloc (.cells #[.int .u64 0, .int .u64 0, .int .u64 0, .int .u64 0, .int .u64 0] 54)).rangeAt g 11 (nsL .u64 LX) ∧ (V.alloc (.cells #[.int .u64 0, .int .u64 0, .int .u64 0, .int .u64 0, .int .u64 0] 54)).rangeAt p 6 (nsL .u64 LS) := ⟨hG2.rA, hP2.rS⟩
          refine hK.out _ _ hS2 (fun _ => ?_)
          clear hK K
          (try simp only [Act.put, List.setIfInBounds_toArray, List.set_cons_zero, List.set_cons_succ])
          revert hG2 hP2 hn2 hb2 hgx hS2
          clear hGV hPV hbV hS
          generalize V.alloc (.cells #[.int .u64 0, .int .u64 0, .int .u64 0, .int .u64 0, .int .u64 0] 54) = V2
          generalize V.heap.size = h
          intro hGV hPV hn hbV hgx hS
          revert hGV hPV hn hbV hgx hS
          generalize V2 = V
          intro hGV hPV hn hbV hgx hS
          refine wpAnyH_ready (rs := [8]) (by kernel_rfl) (by simp) ?_
          refine AllReadyH.cons (o := { dst := some 25, op := .call { callee := .value (.func 26), args := #[.tmp 24], argTypes := #[54] }, type := _, pos := _, after := _, guard := none }) rfl (fun K hK => ?_) AllReadyH.nil
          go_simp
          refine (HSP.out V).mono ?_
          rintro e W2 ⟨rfl, hbc⟩
          have hG2 := hGV.below hbc hGV.lt
          have hP2 := hPV.below hbc hPV.lt
          have hb2 := hbV.trans (hbc.mono hbV.size)
          have hn2 := hn.below hbc hn.lt
          have hS2 : W2.rangeAt g 11 (nsL .u64 LX) ∧ W2.rangeAt p 6 (nsL .u64 LS) := ⟨hG2.rA, hP2.rS⟩
          refine hK.out _ _ hS2 (fun _ => ?_)
          clear hK K
          (try simp only [Act.put, List.setIfInBounds_toArray, List.set_cons_zero, List.set_cons_succ])
          revert hG2 hP2 hb2 hn2 hS2
          clear hGV hPV hbV hbc hS hn
          generalize W2 = V
          intro hGV hPV hbV hn hS
          refine wpAnyH_take (i := 9) (oi := { dst := some 16, op := .move (.tmp 25), type := _, pos := _, after := _, guard := none }) (v := .tuple #[.agg (ns .u64 LV), .int .u64 (y : Int)]) rfl (by kernel_rfl) (by kernel_rfl) (by kernel_rfl) (fun _ _ _ h => h) (Or.inl ⟨by rfl, by intro x _; go_simp⟩) hS ?_
          (try simp only [Act.put, List.setIfInBounds_toArray, List.set_cons_zero, List.set_cons_succ])
          refine wpAnyH_take (i := 10) (oi := { dst := some 26, op := .extract (.tmp 16) 0, type := _, pos := _, after := _, guard := none }) (v := .agg (ns .u64 LV)) rfl (by kernel_rfl) (by kernel_rfl) (by kernel_rfl) (fun _ _ _ h => h) (Or.inl ⟨by rfl, by intro x _; go_simp⟩) hS ?_
          (try simp only [Act.put, List.setIfInBounds_toArray, List.set_cons_zero, List.set_cons_succ])
          refine wpAnyH_take (i := 11) (oi := { dst := some 27, op := .extract (.tmp 16) 1, type := _, pos := _, after := _, guard := none }) (v := .int .u64 (y : Int)) rfl (by kernel_rfl) (by kernel_rfl) (by kernel_rfl) (fun _ _ _ h => h) (Or.inl ⟨by rfl, by intro x _; go_simp⟩) hS ?_
          (try simp only [Act.put, List.setIfInBounds_toArray, List.set_cons_zero, List.set_cons_succ])
          refine wpAnyH_ready (rs := [13]) (by kernel_rfl) (by simp) ?_
          refine AllReadyH.cons (o := { dst := none, op := .store 54 (.tmp 4) (.tmp 26), type := _, pos := _, after := _, guard := none }) rfl (fun K hK => ?_) AllReadyH.nil
          refine step_store_mid rfl 54 (.tmp 4) (.tmp 26) rfl h 0 (ns .u64 LV) (by simp [Act.eval]) (by simp [Act.eval]) (hn.there _ (by rw [ns_size, hlV]; rfl)) (ns5 LV hlV) (ns_one .u64 LV) ?_
          have hG8 := hGV.kept (heap_setCells_other h g hgx.1 (ns .u64 LV).toList 0 V)
          have hP8 := hPV.kept (heap_setCells_other h p hgx.2.1 (ns .u64 LV).toList 0 V)
          have hn8 := hn.store LV (by rw [hlV]; rfl)
          have hb8 := Below.setCells hbV hgx.2.2 0 (ns .u64 LV).toList
          have hS8 : (V.setCells h 0 (ns .u64 LV).toList).rangeAt g 11 (nsL .u64 LX) ∧ (V.setCells h 0 (ns .u64 LV).toList).rangeAt p 6 (nsL .u64 LS) := ⟨hG8.rA, hP8.rS⟩
          refine hK.out _ _ hS8 (fun _ => ?_)
          clear hK K
          (try simp only [Act.put])
          refine wpAnyH_take (i := 14) (oi := { dst := some 5, op := .assign (.tmp 27), type := _, pos := _, after := _, guard := none }) (v := .int .u64 (y : Int)) rfl (by kernel_rfl) (by kernel_rfl) (by kernel_rfl) (fun _ _ _ h => h) (Or.inl ⟨by rfl, by intro x _; go_simp⟩) hS8 ?_
          (try simp only [Act.put, List.setIfInBounds_toArray, List.set_cons_zero, List.set_cons_succ])
          refine wpAnyH_done (by kernel_rfl) ?_ _
          revert hn8 hb8
          clear hS8 hG8 hP8
          generalize V.setCells h 0 (ns .u64 LV).toList = w8
          intro hn8 hb8
          have hszV := ns5 LV hlV
          have htx := HTX.out w8
          unfold Nb at hn8
          go_wp2_with (first | (refine wpList_load_row rfl 54 (.tmp 4) rfl h rfl 54 _ (0, 0) _ hn8 Tryd.underlying54 rfl hszV ?_) | (go_at_call 27; refine htx.mono ?_; rintro e w9 ⟨rfl, hb9⟩))
          go_ret
          exact ⟨rfl, hb8.trans (hb9.mono hb8.size)⟩
      · go_simp
        have hG2 := hGV.kept (Below.heap_alloc V (.cells #[.int .u64 0, .int .u64 0, .int .u64 0, .int .u64 0, .int .u64 0] 54) _ hGV.lt)
        have hP2 := hPV.kept (Below.heap_alloc V (.cells #[.int .u64 0, .int .u64 0, .int .u64 0, .int .u64 0, .int .u64 0] 54) _ hPV.lt)
        have hn2 : Nb .u64 54 (V.alloc (.cells #[.int .u64 0, .int .u64 0, .int .u64 0, .int .u64 0, .int .u64 0] 54)) V.heap.size (List.replicate 5 0) := heap_new _ _
        have hb2 := hbV.alloc hbV.size (.cells #[.int .u64 0, .int .u64 0, .int .u64 0, .int .u64 0, .int .u64 0] 54)
        have hgx : g ≠ V.heap.size ∧ p ≠ V.heap.size ∧ w.heap.size ≤ V.heap.size := ⟨by have := hGV.lt; omega, by have := hPV.lt; omega, hbV.size⟩
        have hS2 : (V.alloc (.cells #[.int .u64 0, .int .u64 0, .int .u64 0, .int .u64 0, .int .u64 0] 54)).rangeAt g 11 (nsL .u64 LX) ∧ (V.alloc (.cells #[.int .u64 0, .int .u64 0, .int .u64 0, .int .u64 0, .int .u64 0] 54)).rangeAt p 6 (nsL .u64 LS) := ⟨hG2.rA, hP2.rS⟩
        refine hK.out _ _ hS2 (fun _ => ?_)
        clear hK K
        (try simp only [Act.put, List.setIfInBounds_toArray, List.set_cons_zero, List.set_cons_succ])
        revert hG2 hP2 hn2 hb2 hgx hS2
        clear hGV hPV hbV hS
        generalize V.alloc (.cells #[.int .u64 0, .int .u64 0, .int .u64 0, .int .u64 0, .int .u64 0] 54) = V2
        generalize V.heap.size = h
        intro hGV hPV hn hbV hgx hS
        revert hGV hPV hn hbV hgx hS
        generalize V2 = V
        intro hGV hPV hn hbV hgx hS
        refine wpAnyH_ready (rs := [7]) (by kernel_rfl) (by simp) ?_
        refine AllReadyH.cons (o := { dst := some 24, op := .call { callee := .value (.func 25), args := #[.tmp 19, .tmp 23], argTypes := #[54, 54] }, type := _, pos := _, after := _, guard := none }) rfl (fun K hK => ?_) AllReadyH.nil
        go_simp
        refine (HPL.out V).mono ?_
        rintro e W2 ⟨rfl, hbc⟩
        have hG2 := hGV.below hbc hGV.lt
        have hP2 := hPV.below hbc hPV.lt
        have hb2 := hbV.trans (hbc.mono hbV.size)
        have hn2 := hn.below hbc hn.lt
        have hS2 : W2.rangeAt g 11 (nsL .u64 LX) ∧ W2.rangeAt p 6 (nsL .u64 LS) := ⟨hG2.rA, hP2.rS⟩
        refine hK.out _ _ hS2 (fun _ => ?_)
        clear hK K
        (try simp only [Act.put, List.setIfInBounds_toArray, List.set_cons_zero, List.set_cons_succ])
        revert hG2 hP2 hb2 hn2 hS2
        clear hGV hPV hbV hbc hS hn
        generalize W2 = V
        intro hGV hPV hbV hn hS
        refine wpAnyH_ready (rs := [8]) (by kernel_rfl) (by simp) ?_
        refine AllReadyH.cons (o := { dst := some 25, op := .call { callee := .value (.func 26), args := #[.tmp 24], argTypes := #[54] }, type := _, pos := _, after := _, guard := none }) rfl (fun K hK => ?_) AllReadyH.nil
        go_simp
        refine (HSP.out V).mono ?_
        rintro e W2 ⟨rfl, hbc⟩
        have hG2 := hGV.below hbc hGV.lt
        have hP2 := hPV.below hbc hPV.lt
        have hb2 := hbV.trans (hbc.mono hbV.size)
        have hn2 := hn.below hbc hn.lt
        have hS2 : W2.rangeAt g 11 (nsL .u64 LX) ∧ W2.rangeAt p 6 (nsL .u64 LS) := ⟨hG2.rA, hP2.rS⟩
        refine hK.out _ _ hS2 (fun _ => ?_)
        clear hK K
        (try simp only [Act.put, List.setIfInBounds_toArray, List.set_cons_zero, List.set_cons_succ])
        revert hG2 hP2 hb2 hn2 hS2
        clear hGV hPV hbV hbc hS hn
        generalize W2 = V
        intro hGV hPV hbV hn hS
        refine wpAnyH_take (i := 9) (oi := { dst := some 16, op := .move (.tmp 25), type := _, pos := _, after := _, guard := none }) (v := .tuple #[.agg (ns .u64 LV), .int .u64 (y : Int)]) rfl (by kernel_rfl) (by kernel_rfl) (by kernel_rfl) (fun _ _ _ h => h) (Or.inl ⟨by rfl, by intro x _; go_simp⟩) hS ?_
        (try simp only [Act.put, List.setIfInBounds_toArray, List.set_cons_zero, List.set_cons_succ])
        refine wpAnyH_take (i := 10) (oi := { dst := some 26, op := .extract (.tmp 16) 0, type := _, pos := _, after := _, guard := none }) (v := .agg (ns .u64 LV)) rfl (by kernel_rfl) (by kernel_rfl) (by kernel_rfl) (fun _ _ _ h => h) (Or.inl ⟨by rfl, by intro x _; go_simp⟩) hS ?_
        (try simp only [Act.put, List.setIfInBounds_toArray, List.set_cons_zero, List.set_cons_succ])
        refine wpAnyH_take (i := 11) (oi := { dst := some 27, op := .extract (.tmp 16) 1, type := _, pos := _, after := _, guard := none }) (v := .int .u64 (y : Int)) rfl (by kernel_rfl) (by kernel_rfl) (by kernel_rfl) (fun _ _ _ h => h) (Or.inl ⟨by rfl, by intro x _; go_simp⟩) hS ?_
        (try simp only [Act.put, List.setIfInBounds_toArray, List.set_cons_zero, List.set_cons_succ])
        refine wpAnyH_ready (rs := [13]) (by kernel_rfl) (by simp) ?_
        refine AllReadyH.cons (o := { dst := none, op := .store 54 (.tmp 4) (.tmp 26), type := _, pos := _, after := _, guard := none }) rfl (fun K hK => ?_) AllReadyH.nil
        refine step_store_mid rfl 54 (.tmp 4) (.tmp 26) rfl h 0 (ns .u64 LV) (by simp [Act.eval]) (by simp [Act.eval]) (hn.there _ (by rw [ns_size, hlV]; rfl)) (ns5 LV hlV) (ns_one .u64 LV) ?_
        have hG8 := hGV.kept (heap_setCells_other h g hgx.1 (ns .u64 LV).toList 0 V)
        have hP8 := hPV.kept (heap_setCells_other h p hgx.2.1 (ns .u64 LV).toList 0 V)
        have hn8 := hn.store LV (by rw [hlV]; rfl)
        have hb8 := Below.setCells hbV hgx.2.2 0 (ns .u64 LV).toList
        have hS8 : (V.setCells h 0 (ns .u64 LV).toList).rangeAt g 11 (nsL .u64 LX) ∧ (V.setCells h 0 (ns .u64 LV).toList).rangeAt p 6 (nsL .u64 LS) := ⟨hG8.rA, hP8.rS⟩
        refine hK.out _ _ hS8 (fun _ => ?_)
        clear hK K
        (try simp only [Act.put])
        refine wpAnyH_take (i := 14) (oi := { dst := some 5, op := .assign (.tmp 27), type := _, pos := _, after := _, guard := none }) (v := .int .u64 (y : Int)) rfl (by kernel_rfl) (by kernel_rfl) (by kernel_rfl) (fun _ _ _ h => h) (Or.inl ⟨by rfl, by intro x _; go_simp⟩) hS8 ?_
        (try simp only [Act.put, List.setIfInBounds_toArray, List.set_cons_zero, List.set_cons_succ])
        refine wpAnyH_done (by kernel_rfl) ?_ _
        revert hn8 hb8
        clear hS8 hG8 hP8
        generalize V.setCells h 0 (ns .u64 LV).toList = w8
        intro hn8 hb8
        have hszV := ns5 LV hlV
        have htx := HTX.out w8
        unfold Nb at hn8
        go_wp2_with (first | (refine wpList_load_row rfl 54 (.tmp 4) rfl h rfl 54 _ (0, 0) _ hn8 Tryd.underlying54 rfl hszV ?_) | (go_at_call 27; refine htx.mono ?_; rintro e w9 ⟨rfl, hb9⟩))
        go_ret
        exact ⟨rfl, hb8.trans (hb9.mono hb8.size)⟩
    · go_simp
      have hG2 := hGV.kept (Below.heap_alloc V (.cells #[.int .u64 0, .int .u64 0, .int .u64 0, .int .u64 0, .int .u64 0] 54) _ hGV.lt)
      have hP2 := hPV.kept (Below.heap_alloc V (.cells #[.int .u64 0, .int .u64 0, .int .u64 0, .int .u64 0, .int .u64 0] 54) _ hPV.lt)
      have hn2 : Nb .u64 54 (V.alloc (.cells #[.int .u64 0, .int .u64 0, .int .u64 0, .int .u64 0, .int .u64 0] 54)) V.heap.size (List.replicate 5 0) := heap_new _ _
      have hb2 := hbV.alloc hbV.size (.cells #[.int .u64 0, .int .u64 0, .int .u64 0, .int .u64 0, .int .u64 0] 54)
      have hgx : g ≠ V.heap.size ∧ p ≠ V.heap.size ∧ w.heap.size ≤ V.heap.size := ⟨by have := hGV.lt; omega, by have := hPV.lt; omega, hbV.size⟩
      have hS2 : (V.alloc (.cells #[.int .u64 0, .int .u64 0, .int .u64 0, .int .u64 0, .int .u64 0] 54)).rangeAt g 11 (nsL .u64 LX) ∧ (V.alloc (.cells #[.int .u64 0, .int .u64 0, .int .u64 0, .int .u64 0, .int .u64 0] 54)).rangeAt p 6 (nsL .u64 LS) := ⟨hG2.rA, hP2.rS⟩
      refine hK.out _ _ hS2 (fun _ => ?_)
      clear hK K
      (try simp only [Act.put, List.setIfInBounds_toArray, List.set_cons_zero, List.set_cons_succ])
      revert hG2 hP2 hn2 hb2 hgx hS2
      clear hGV hPV hbV hS
      generalize V.alloc (.cells #[.int .u64 0, .int .u64 0, .int .u64 0, .int .u64 0, .int .u64 0] 54) = V2
      generalize V.heap.size = h
      intro hGV hPV hn hbV hgx hS
      revert hGV hPV hn hbV hgx hS
      generalize V2 = V
      intro hGV hPV hn hbV hgx hS
      refine wpAnyH_ready (rs := [2]) (by kernel_rfl) (by simp) ?_
      refine AllReadyH.cons (o := { dst := some 19, op := .call { callee := .value (.func 24), args := #[.tmp 18], argTypes := #[54] }, type := _, pos := _, after := _, guard := none }) rfl (fun K hK => ?_) AllReadyH.nil
      go_simp
      refine (HLE.out V).mono ?_
      rintro e W2 ⟨rfl, hbc⟩
      have hG2 := hGV.below hbc hGV.lt
      have hP2 := hPV.below hbc hPV.lt
      have hb2 := hbV.trans (hbc.mono hbV.size)
      have hn2 := hn.below hbc hn.lt
      have hS2 : W2.rangeAt g 11 (nsL .u64 LX) ∧ W2.rangeAt p 6 (nsL .u64 LS) := ⟨hG2.rA, hP2.rS⟩
      refine hK.out _ _ hS2 (fun _ => ?_)
      clear hK K
      (try simp only [Act.put, List.setIfInBounds_toArray, List.set_cons_zero, List.set_cons_succ])
      revert hG2 hP2 hb2 hn2 hS2
      clear hGV hPV hbV hbc hS hn
      generalize W2 = V
      intro hGV hPV hbV hn hS
      refine wpAnyH_ready (rs := [7]) (by kernel_rfl) (by simp) ?_
      refine AllReadyH.cons (o := { dst := some 24, op := .call { callee := .value (.func 25), args := #[.tmp 19, .tmp 23], argTypes := #[54, 54] }, type := _, pos := _, after := _, guard := none }) rfl (fun K hK => ?_) AllReadyH.nil
      go_simp
      refine (HPL.out V).mono ?_
      rintro e W2 ⟨rfl, hbc⟩
      have hG2 := hGV.below hbc hGV.lt
      have hP2 := hPV.below hbc hPV.lt
      have hb2 := hbV.trans (hbc.mono hbV.size)
      have hn2 := hn.below hbc hn.lt
      have hS2 : W2.rangeAt g 11 (nsL .u64 LX) ∧ W2.rangeAt p 6 (nsL .u64 LS) := ⟨hG2.rA, hP2.rS⟩
      refine hK.out _ _ hS2 (fun _ => ?_)
      clear hK K
      (try simp only [Act.put, List.setIfInBounds_toArray, List.set_cons_zero, List.set_cons_succ])
      revert hG2 hP2 hb2 hn2 hS2
      clear hGV hPV hbV hbc hS hn
      generalize W2 = V
      intro hGV hPV hbV hn hS
      refine wpAnyH_ready (rs := [8]) (by kernel_rfl) (by simp) ?_
      refine AllReadyH.cons (o := { dst := some 25, op := .call { callee := .value (.func 26), args := #[.tmp 24], argTypes := #[54] }, type := _, pos := _, after := _, guard := none }) rfl (fun K hK => ?_) AllReadyH.nil
      go_simp
      refine (HSP.out V).mono ?_
      rintro e W2 ⟨rfl, hbc⟩
      have hG2 := hGV.below hbc hGV.lt
      have hP2 := hPV.below hbc hPV.lt
      have hb2 := hbV.trans (hbc.mono hbV.size)
      have hn2 := hn.below hbc hn.lt
      have hS2 : W2.rangeAt g 11 (nsL .u64 LX) ∧ W2.rangeAt p 6 (nsL .u64 LS) := ⟨hG2.rA, hP2.rS⟩
      refine hK.out _ _ hS2 (fun _ => ?_)
      clear hK K
      (try simp only [Act.put, List.setIfInBounds_toArray, List.set_cons_zero, List.set_cons_succ])
      revert hG2 hP2 hb2 hn2 hS2
      clear hGV hPV hbV hbc hS hn
      generalize W2 = V
      intro hGV hPV hbV hn hS
      refine wpAnyH_take (i := 9) (oi := { dst := some 16, op := .move (.tmp 25), type := _, pos := _, after := _, guard := none }) (v := .tuple #[.agg (ns .u64 LV), .int .u64 (y : Int)]) rfl (by kernel_rfl) (by kernel_rfl) (by kernel_rfl) (fun _ _ _ h => h) (Or.inl ⟨by rfl, by intro x _; go_simp⟩) hS ?_
      (try simp only [Act.put, List.setIfInBounds_toArray, List.set_cons_zero, List.set_cons_succ])
      refine wpAnyH_take (i := 10) (oi := { dst := some 26, op := .extract (.tmp 16) 0, type := _, pos := _, after := _, guard := none }) (v := .agg (ns .u64 LV)) rfl (by kernel_rfl) (by kernel_rfl) (by kernel_rfl) (fun _ _ _ h => h) (Or.inl ⟨by rfl, by intro x _; go_simp⟩) hS ?_
      (try simp only [Act.put, List.setIfInBounds_toArray, List.set_cons_zero, List.set_cons_succ])
      refine wpAnyH_take (i := 11) (oi := { dst := some 27, op := .extract (.tmp 16) 1, type := _, pos := _, after := _, guard := none }) (v := .int .u64 (y : Int)) rfl (by kernel_rfl) (by kernel_rfl) (by kernel_rfl) (fun _ _ _ h => h) (Or.inl ⟨by rfl, by intro x _; go_simp⟩) hS ?_
      (try simp only [Act.put, List.setIfInBounds_toArray, List.set_cons_zero, List.set_cons_succ])
      refine wpAnyH_ready (rs := [13]) (by kernel_rfl) (by simp) ?_
      refine AllReadyH.cons (o := { dst := none, op := .store 54 (.tmp 4) (.tmp 26), type := _, pos := _, after := _, guard := none }) rfl (fun K hK => ?_) AllReadyH.nil
      refine step_store_mid rfl 54 (.tmp 4) (.tmp 26) rfl h 0 (ns .u64 LV) (by simp [Act.eval]) (by simp [Act.eval]) (hn.there _ (by rw [ns_size, hlV]; rfl)) (ns5 LV hlV) (ns_one .u64 LV) ?_
      have hG8 := hGV.kept (heap_setCells_other h g hgx.1 (ns .u64 LV).toList 0 V)
      have hP8 := hPV.kept (heap_setCells_other h p hgx.2.1 (ns .u64 LV).toList 0 V)
      have hn8 := hn.store LV (by rw [hlV]; rfl)
      have hb8 := Below.setCells hbV hgx.2.2 0 (ns .u64 LV).toList
      have hS8 : (V.setCells h 0 (ns .u64 LV).toList).rangeAt g 11 (nsL .u64 LX) ∧ (V.setCells h 0 (ns .u64 LV).toList).rangeAt p 6 (nsL .u64 LS) := ⟨hG8.rA, hP8.rS⟩
      refine hK.out _ _ hS8 (fun _ => ?_)
      clear hK K
      (try simp only [Act.put])
      refine wpAnyH_take (i := 14) (oi := { dst := some 5, op := .assign (.tmp 27), type := _, pos := _, after := _, guard := none }) (v := .int .u64 (y : Int)) rfl (by kernel_rfl) (by kernel_rfl) (by kernel_rfl) (fun _ _ _ h => h) (Or.inl ⟨by rfl, by intro x _; go_simp⟩) hS8 ?_
      (try simp only [Act.put, List.setIfInBounds_toArray, List.set_cons_zero, List.set_cons_succ])
      refine wpAnyH_done (by kernel_rfl) ?_ _
      revert hn8 hb8
      clear hS8 hG8 hP8
      generalize V.setCells h 0 (ns .u64 LV).toList = w8
      intro hn8 hb8
      have hszV := ns5 LV hlV
      have htx := HTX.out w8
      unfold Nb at hn8
      go_wp2_with (first | (refine wpList_load_row rfl 54 (.tmp 4) rfl h rfl 54 _ (0, 0) _ hn8 Tryd.underlying54 rfl hszV ?_) | (go_at_call 27; refine htx.mono ?_; rintro e w9 ⟨rfl, hb9⟩))
      go_ret
      exact ⟨rfl, hb8.trans (hb9.mono hb8.size)⟩

end Go.Proofs.YtggfeppphhigdabDoor
