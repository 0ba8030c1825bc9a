import Derived.Test.YtjcmpfnndjlpkabDoorBkA
namespace Go.Proofs.YtjcmpfnndjlpkabDoor
open Go.RowKit Go.Lib Go.Deep

set_option maxRecDepth 40000 in
set_option maxHeartbeats 8000000 in
theorem back_long (key nonce data d : ByteArray) (n cut : Int) (hk : key.size ≤ maxLen) (hn : nonce.size ≤ maxLen) (hdm : data.size ≤ maxLen) (hd : d.size ≤ 65536) (hsl : ∀ W, (Instr.slice 9 (.string data) none (some (.int .i64 65536)) none).run Tryd.prog W = .ok (.string d) W) (hcut : 65536 < data.size) (w : World) (hT : CTabs w) (h3 : 3 ≤ w.heap.size) :
    Calls Tryd.prog 3 #[.string key, .int .i64 n, .string nonce, .string data, .int .i64 cut] w fun e w' => e = .returned (.bool true) ∧ Below w.heap.size w w' := by
  have hcI : (65536 : Int) < (data.size : Int) := by omega
  clear hcut
  have hkn := known_any w hT h3
  have hkm : key.size ≤ 9223372036854775807 := hk
  have hnm : nonce.size ≤ 9223372036854775807 := hn
  have hdx := hdm
  unfold maxLen at hdx
  have HKT : Hid (∀ W, Below w.heap.size w W → CTabs W ∧ 3 ≤ W.heap.size) := fun W h => ⟨hT.below h h3, by have := h.size; omega⟩
  have hs32 := fun W => sized_any key 32 (by omega) W
  have hs12 := fun W => sized_any nonce 12 (by omega) W
  have hs24 := fun W => sized_any nonce 24 (by omega) W
  have l1 : (str (szL key.data.toList 32)).size = 32 := by rw [str_size, szL_length]
  have l2 : (str (szL nonce.data.toList 12)).size = 12 := by rw [str_size, szL_length]
  have l3 : (str (szL nonce.data.toList 24)).size = 24 := by rw [str_size, szL_length]
  revert hs32 hs12 hs24 l1 l2 l3
  generalize str (szL key.data.toList 32) = yk
  generalize str (szL nonce.data.toList 12) = y12
  generalize str (szL nonce.data.toList 24) = y24
  intro hs32 hs12 hs24 l1 l2 l3
  obtain ⟨nb, hnb⟩ : ∃ nb, (d.size + 63) / 64 = nb := ⟨_, rfl⟩
  have hctr := fun W => counter_any n d.size (by omega) W
  rw [hnb] at hctr
  obtain ⟨q0, q1, q2⟩ := ctr_ok n (4294967296 - (nb : Int)) (by omega) (by omega)
  obtain ⟨c, hc⟩ := Int.eq_ofNat_of_zero_le q0
  rw [hc] at hctr q1 q2
  have hcw : c < 4294967296 := by omega
  have hroom : c + nb ≤ 4294967296 := by omega
  have hx1 := fun W hT h3 => xor_yes yk y12 d c l1 l2 (by omega) hcw (by rw [hnb]; exact hroom) W hT h3
  have hS1z : (str (overL yk.data.toList c y12.data.toList d.data.toList)).size = d.size := by rw [str_size, overL_length, ← size_eq]
  have hx2 := fun W hT h3 => xor_yes yk y12 (str (overL yk.data.toList c y12.data.toList d.data.toList)) c l1 l2 (by omega) hcw (by rw [hS1z, hnb]; exact hroom) W hT h3
  rw [str_data, overL_twice, str_of] at hx2
  have hx3 := fun W hT h3 => xxor_of yk y24 d (c : Int) l1 l3 W hT h3 (.string (str (overL (hchL yk.data.toList (y24.data.toList.take 16)) c ([0, 0, 0, 0] ++ y24.data.toList.drop 16) d.data.toList))) 0 (fun k2 n2 hk2 hn2 hk3 hn3 V hT h3 => by
    have h := xor_yes k2 n2 d c hk3 hn3 (by omega) hcw (by rw [hnb]; exact hroom) V hT h3
    rwa [hk2, hn2] at h)
  have hX1z : (str (overL (hchL yk.data.toList (y24.data.toList.take 16)) c ([0, 0, 0, 0] ++ y24.data.toList.drop 16) d.data.toList)).size = d.size := by rw [str_size, overL_length, ← size_eq]
  have hx4 := fun W hT h3 => xxor_of yk y24 (str (overL (hchL yk.data.toList (y24.data.toList.take 16)) c ([0, 0, 0, 0] ++ y24.data.toList.drop 16) d.data.toList)) (c : Int) l1 l3 W hT h3 (.string d) 0 (fun k2 n2 hk2 hn2 hk3 hn3 V hT h3 => by
    have h := xor_yes k2 n2 (str (overL (hchL yk.data.toList (y24.data.toList.take 16)) c ([0, 0, 0, 0] ++ y24.data.toList.drop 16) d.data.toList)) c hk3 hn3 (by omega) hcw (by rw [hX1z, hnb]; exact hroom) V hT h3
    rwa [hk2, hn2, str_data, overL_twice, str_of] at h)
  obtain ⟨S1, hS1⟩ : ∃ S1, str (overL yk.data.toList c y12.data.toList d.data.toList) = S1 := ⟨_, rfl⟩
  have HS : Hid (str (overL yk.data.toList c y12.data.toList d.data.toList) = S1) := hS1
  rw [hS1] at hx1 hx2 hS1z
  clear hS1
  revert hx3 hx4 hX1z
  generalize str (overL (hchL yk.data.toList (y24.data.toList.take 16)) c ([0, 0, 0, 0] ++ y24.data.toList.drop 16) d.data.toList) = X1
  intro hx3 hX1z hx4
  obtain ⟨B, hB⟩ : ∃ B, d.size / 64 = B := ⟨_, rfl⟩
  have hqB : (d.size : Int) / 64 = (B : Int) := by omega
  have hqB2 : (d.size : Int).tdiv 64 = (B : Int) := by rw [Int.tdiv_eq_ediv_of_nonneg (by omega)]; exact hqB
  have hBb : (B : Int) ≤ 1024 := by omega
  have hB0 : (0 : Int) ≤ (B : Int) := by omega
  obtain ⟨t1, t2⟩ := tmod_bounds cut (B : Int) hB0
  obtain ⟨t, ht⟩ : ∃ t, cut.tmod ((B : Int) + 1) = t := ⟨_, rfl⟩
  rw [ht] at t1 t2
  have hwB : IntKind.i64.wrap ((B : Int) + 1) = (B : Int) + 1 := by rw [IntKind.wrap_i64]; omega
  have hne : (((B : Int) + 1) == (0 : Int)) = false := by simp; omega
  have hne2 : ¬ ((B : Int) + 1 = 0) := by omega
  obtain ⟨a, ha, haB⟩ : ∃ a : Nat, (if t < 0 then t + (B : Int) + 1 else t) = (a : Int) ∧ a ≤ B := by
    by_cases htn : t < 0
    · exact ⟨(t + (B : Int) + 1).toNat, by rw [if_pos htn]; omega, by omega⟩
    · exact ⟨t.toNat, by rw [if_neg htn]; omega, by omega⟩
  have HBK : Hid (64 * a ≤ d.size) := by show _ ≤ _; omega
  have HNB : Hid (c + nb ≤ 4294967296 ∧ (d.size + 63) / 64 = nb) := ⟨hroom, hnb⟩
  have HS1 : Hid (∃ d1 : ByteArray, (∀ W, (Instr.slice 9 (.string d) none (some (.int .i64 (64 * (a : Int)))) none).run Tryd.prog W = .ok (.string d1) W) ∧ d1.size = 64 * a ∧ d1.data.toList = d.data.toList.take (64 * a)) := by
    refine ⟨d.extract 0 (64 * a), fun W => ?_, by simp; omega, by rw [extract_data, List.drop_zero, Nat.sub_zero]⟩
    have h := run_slice_string_h (P := Tryd.prog) W 9 d Tryd.underlying9 .i64 (64 * (a : Int)) (by omega) (by omega)
    rwa [show (64 * (a : Int)).toNat = 64 * a by omega] at h
  have HS2 : Hid (∃ d2 : ByteArray, (∀ W, (Instr.slice 9 (.string d) (some (.int .i64 (64 * (a : Int)))) none none).run Tryd.prog W = .ok (.string d2) W) ∧ d2.size = d.size - 64 * a ∧ d2.data.toList = d.data.toList.drop (64 * a)) := by
    refine ⟨d.extract (64 * a) d.size, fun W => ?_, by simp, by rw [extract_data, List.take_of_length_le (by rw [List.length_drop, ← size_eq]; omega)]⟩
    have h := run_slice_string_l (P := Tryd.prog) W 9 d Tryd.underlying9 .i64 (64 * (a : Int)) (by omega) (by omega)
    rwa [show (64 * (a : Int)).toNat = 64 * a by omega] at h
  have hwa : IntKind.i64.wrap (64 * (a : Int)) = 64 * (a : Int) := by rw [IntKind.wrap_i64]; omega
  clear hB q0 q1 q2 hc hnb hroom hT
  go_enter Tryd.func3, Tryd.ntmps3
  go_wp2_with fail
  refine hkn.mono ?_
  rintro e w1 ⟨rfl, hb⟩
  go_wp2_with fail
  refine (hs32 w1).mono ?_
  rintro e w2 ⟨rfl, hbn⟩
  have hb := hb.trans (hbn.mono hb.size)
  clear hbn
  go_wp2_with fail
  refine (hctr w2).mono ?_
  rintro e w3 ⟨rfl, rfl⟩
  go_wp2_with fail
  refine (hs12 w2).mono ?_
  rintro e w4 ⟨rfl, hbn⟩
  have hb := hb.trans (hbn.mono hb.size)
  clear hbn
  obtain ⟨hTn, h3n⟩ := HKT.out w4 hb
  have hxn := hx1 w4 hTn h3n
  go_wp2_with fail
  refine hxn.mono ?_
  rintro e w5 ⟨rfl, hbn⟩
  have hb := hb.trans (hbn.mono hb.size)
  clear hbn hxn hTn h3n
  go_wp2_with fail
  refine (hs12 w5).mono ?_
  rintro e w6 ⟨rfl, hbn⟩
  have hb := hb.trans (hbn.mono hb.size)
  clear hbn
  obtain ⟨hTn, h3n⟩ := HKT.out w6 hb
  have hxn := hx2 w6 hTn h3n
  go_wp2_with fail
  refine hxn.mono ?_
  rintro e w7 ⟨rfl, hbn⟩
  have hb := hb.trans (hbn.mono hb.size)
  clear hbn hxn hTn h3n
  go_wp2_with fail
  refine (num_any 0 w7).mono ?_
  rintro e w7' ⟨rfl, rfl⟩
  go_wp2_with fail
  refine (num_any 0 w7).mono ?_
  rintro e w7' ⟨rfl, rfl⟩
  go_wp2_with fail
  refine (hs24 w7).mono ?_
  rintro e w8 ⟨rfl, hbn⟩
  have hb := hb.trans (hbn.mono hb.size)
  clear hbn
  obtain ⟨hTn, h3n⟩ := HKT.out w8 hb
  have hxn := hx3 w8 hTn h3n
  go_wp2_with fail
  refine hxn.mono ?_
  rintro e w9 ⟨rfl, hbn⟩
  have hb := hb.trans (hbn.mono hb.size)
  clear hbn hxn hTn h3n
  go_wp2_with fail
  refine (hs24 w9).mono ?_
  rintro e w10 ⟨rfl, hbn⟩
  have hb := hb.trans (hbn.mono hb.size)
  clear hbn
  obtain ⟨hTn, h3n⟩ := HKT.out w10 hb
  have hxn := hx4 w10 hTn h3n
  go_wp2_with fail
  refine hxn.mono ?_
  rintro e w11 ⟨rfl, hbn⟩
  have hb := hb.trans (hbn.mono hb.size)
  clear hbn hxn hTn h3n
  go_wp2_with fail
  refine (num_any 0 w11).mono ?_
  rintro e w11' ⟨rfl, rfl⟩
  go_upto_region 17 with (go_at_call 11; refine (num_any 0 w11).mono ?_; rintro e w11' ⟨rfl, rfl⟩)
  clear hx1 hx2 hx3 hx4 hs32 hs24 hctr hkn
  by_cases htn : t < 0
  · rw [if_pos htn] at ha
    have hwt : IntKind.i64.wrap (t + (B : Int)) = t + (B : Int) := by rw [IntKind.wrap_i64]; omega
    by_cases h64 : 64 * a = d.size
    · have h64I : 64 * (a : Int) = (d.size : Int) := by omega
      go_wp2
      go_ret
      exact ⟨rfl, hb⟩
    · have h64I : ¬ (64 * (a : Int) = (d.size : Int)) := by omega
      have h64B : (64 * (a : Int) == (d.size : Int)) = false := by simp; omega
      have hal : 64 * a < d.size := by have h1 := HBK.out; omega
      obtain ⟨d1, hsl1, hd1s, hd1l⟩ := HS1.out
      obtain ⟨d2, hsl2, hd2s, hd2l⟩ := HS2.out
      have hca : c + a < 4294967296 := by have h1 := HNB.out; omega
      have hxa := fun W hT h3 => xor_yes yk y12 d1 c l1 l2 (by omega) hcw (by have h1 := HNB.out; omega) W hT h3
      have hxb := fun W hT h3 => xor_yes yk y12 d2 (c + a) l1 l2 (by omega) hca (by have h1 := HNB.out; omega) W hT h3
      have HAB : Hid (str (overL yk.data.toList c y12.data.toList d1.data.toList) ++ str (overL yk.data.toList (c + a) y12.data.toList d2.data.toList) = S1) := by
        show _ = _
        rw [str_append, ← overL_append _ _ _ _ _ a (by rw [← size_eq, hd1s]), hd1l, hd2l, List.take_append_drop, HS.out]
      have hzA : (str (overL yk.data.toList c y12.data.toList d1.data.toList)).size + (str (overL yk.data.toList (c + a) y12.data.toList d2.data.toList)).size ≤ 9223372036854775807 := by rw [str_size, str_size, overL_length, overL_length, ← size_eq, ← size_eq]; omega
      rw [show ((c + a : Nat) : Int) = (c : Int) + (a : Int) by omega] at hxb
      revert hxa hxb HAB hzA
      generalize str (overL yk.data.toList c y12.data.toList d1.data.toList) = yA
      generalize str (overL yk.data.toList (c + a) y12.data.toList d2.data.toList) = yB
      intro hxa hxb HAB hzA
      have hwc : IntKind.i64.wrap ((c : Int) + (a : Int)) = (c : Int) + (a : Int) := by rw [IntKind.wrap_i64]; omega
      clear HS HS1 HS2 hd1l hd2l HBK HNB
      go_upto_region 23 with fail
      refine wp_region_held_drew (S := fun _ => True) (by kernel_rfl) trivial ?_
      intro _
      have hcV := hb.drew
      clear hb
      revert hcV
      generalize World.drew _ = V0
      intro hcV
      refine wpAnyH_take (i := 0) (oi := { dst := some 139, op := .move (.tmp 12), type := _, pos := _, after := _, guard := none }) (v := .string yk) rfl (by kernel_rfl) (by kernel_rfl) (by kernel_rfl) (fun _ _ _ h => h) (Or.inl ⟨by rfl, by intro x _; go_simp⟩) trivial ?_
      (try simp only [Act.put, List.setIfInBounds_toArray, List.set_cons_zero, List.set_cons_succ])
      refine wpAnyH_take (i := 1) (oi := { dst := some 140, op := .move (.tmp 14), type := _, pos := _, after := _, guard := none }) (v := .int .i64 (c : Int)) rfl (by kernel_rfl) (by kernel_rfl) (by kernel_rfl) (fun _ _ _ h => h) (Or.inl ⟨by rfl, by intro x _; go_simp⟩) trivial ?_
      (try simp only [Act.put, List.setIfInBounds_toArray, List.set_cons_zero, List.set_cons_succ])
      refine wpAnyH_take (i := 2) (oi := { dst := some 141, op := .move (.tmp 2), type := _, pos := _, after := _, guard := none }) (v := .string nonce) rfl (by kernel_rfl) (by kernel_rfl) (by kernel_rfl) (fun _ _ _ h => h) (Or.inl ⟨by rfl, by intro x _; go_simp⟩) trivial ?_
      (try simp only [Act.put, List.setIfInBounds_toArray, List.set_cons_zero, List.set_cons_succ])
      refine wpAnyH_take (i := 4) (oi := { dst := some 143, op := .move (.tmp 13), type := _, pos := _, after := _, guard := none }) (v := .string d) rfl (by kernel_rfl) (by kernel_rfl) (by kernel_rfl) (fun _ _ _ h => h) (Or.inl ⟨by rfl, by intro x _; go_simp⟩) trivial ?_
      (try simp only [Act.put, List.setIfInBounds_toArray, List.set_cons_zero, List.set_cons_succ])
      refine wpAnyH_take (i := 5) (oi := { dst := some 144, op := .move (.tmp 24), type := _, pos := _, after := _, guard := none }) (v := .int .i64 (a : Int)) rfl (by kernel_rfl) (by kernel_rfl) (by kernel_rfl) (fun _ _ _ h => h) (Or.inl ⟨by rfl, by intro x _; go_simp⟩) trivial ?_
      (try simp only [Act.put, List.setIfInBounds_toArray, List.set_cons_zero, List.set_cons_succ])
      refine wpAnyH_take (i := 6) (oi := { dst := some 145, op := .binOp .mul 3 (.const (.int .i64 64)) (.tmp 144) 3, type := _, pos := _, after := _, guard := none }) (v := .int .i64 (64 * (a : Int))) rfl (by kernel_rfl) (by kernel_rfl) (by kernel_rfl) (fun _ _ _ h => h) (Or.inl ⟨by rfl, by intro x _; go_simp⟩) trivial ?_
      (try simp only [Act.put, List.setIfInBounds_toArray, List.set_cons_zero, List.set_cons_succ])
      refine wpAnyH_take (i := 7) (oi := { dst := some 146, op := .slice 9 (.tmp 143) none (some (.tmp 145)) none, type := _, pos := _, after := _, guard := none }) (v := .string d1) rfl (by kernel_rfl) (by kernel_rfl) (by kernel_rfl) (fun _ _ _ h => h) (Or.inl ⟨by rfl, by intro x _; go_simp⟩) trivial ?_
      (try simp only [Act.put, List.setIfInBounds_toArray, List.set_cons_zero, List.set_cons_succ])
      refine wpAnyH_ready (rs := [3]) (by kernel_rfl) (by simp) ?_
      refine AllReadyH.cons (o := { dst := some 142, op := .call { callee := .value (.func 8), args := #[.tmp 141, .const (.int .i64 12)], argTypes := #[9, 3] }, type := _, pos := _, after := _, guard := none }) rfl (fun K hK => ?_) AllReadyH.nil
      go_simp
      refine (hs12 _).mono ?_
      rintro e v1 ⟨rfl, hc1'⟩
      have hc1 := hcV.trans (hc1'.mono hcV.size)
      obtain ⟨hT1, h31⟩ := HKT.out v1 hc1
      have hx1 := hxa v1 hT1 h31
      refine hK.out _ _ trivial (fun _ => ?_)
      clear hK K
      (try simp only [Act.put, List.setIfInBounds_toArray, List.set_cons_zero, List.set_cons_succ])
      refine wpAnyH_ready (rs := [8]) (by kernel_rfl) (by simp) ?_
      refine AllReadyH.cons (o := { dst := some 147, op := .call { callee := .value (.func 10), args := #[.tmp 139, .tmp 140, .tmp 142, .tmp 146], argTypes := #[9, 3, 9, 9] }, type := _, pos := _, after := _, guard := none }) rfl (fun K hK => ?_) AllReadyH.nil
      go_simp
      refine hx1.mono ?_
      rintro e v2 ⟨rfl, hc2'⟩
      have hc2 := hc1.trans (hc2'.mono hc1.size)
      refine hK.out _ _ trivial (fun _ => ?_)
      clear hK K
      (try simp only [Act.put, List.setIfInBounds_toArray, List.set_cons_zero, List.set_cons_succ])
      refine wpAnyH_take (i := 9) (oi := { dst := some 138, op := .move (.tmp 147), type := _, pos := _, after := _, guard := none }) (v := .tuple #[.string yA, .int .i64 0]) rfl (by kernel_rfl) (by kernel_rfl) (by kernel_rfl) (fun _ _ _ h => h) (Or.inl ⟨by rfl, by intro x _; go_simp⟩) trivial ?_
      (try simp only [Act.put, List.setIfInBounds_toArray, List.set_cons_zero, List.set_cons_succ])
      refine wpAnyH_take (i := 10) (oi := { dst := some 148, op := .extract (.tmp 138) 0, type := _, pos := _, after := _, guard := none }) (v := .string yA) rfl (by kernel_rfl) (by kernel_rfl) (by kernel_rfl) (fun _ _ _ h => h) (Or.inl ⟨by rfl, by intro x _; go_simp⟩) trivial ?_
      (try simp only [Act.put, List.setIfInBounds_toArray, List.set_cons_zero, List.set_cons_succ])
      refine wpAnyH_take (i := 11) (oi := { dst := some 149, op := .extract (.tmp 138) 1, type := _, pos := _, after := _, guard := none }) (v := .int .i64 0) rfl (by kernel_rfl) (by kernel_rfl) (by kernel_rfl) (fun _ _ _ h => h) (Or.inl ⟨by rfl, by intro x _; go_simp⟩) trivial ?_
      (try simp only [Act.put, List.setIfInBounds_toArray, List.set_cons_zero, List.set_cons_succ])
      refine wpAnyH_take (i := 12) (oi := { dst := some 25, op := .assign (.tmp 148), type := _, pos := _, after := _, guard := none }) (v := .string yA) rfl (by kernel_rfl) (by kernel_rfl) (by kernel_rfl) (fun _ _ _ h => h) (Or.inl ⟨by rfl, by intro x _; go_simp⟩) trivial ?_
      (try simp only [Act.put, List.setIfInBounds_toArray, List.set_cons_zero, List.set_cons_succ])
      refine wpAnyH_take (i := 13) (oi := { dst := some 26, op := .assign (.tmp 149), type := _, pos := _, after := _, guard := none }) (v := .int .i64 0) rfl (by kernel_rfl) (by kernel_rfl) (by kernel_rfl) (fun _ _ _ h => h) (Or.inl ⟨by rfl, by intro x _; go_simp⟩) trivial ?_
      (try simp only [Act.put, List.setIfInBounds_toArray, List.set_cons_zero, List.set_cons_succ])
      refine wpAnyH_done (by kernel_rfl) ?_ _
      refine with_world (R := fun W => Exit.then _ _ _ _ W) (Q := fun W => Below w.heap.size w W) _ hc2 ?_
      clear hc2 hc2' hc1 hc1' hx1 hT1 h31 hcV
      intro V hV
      go_upto_region 24 with fail
      refine wp_region_held_drew (S := fun _ => True) (by kernel_rfl) trivial ?_
      intro _
      have hcV := hV.drew
      clear hV
      revert hcV
      generalize V.drew = V1
      intro hcV
      refine wpAnyH_take (i := 0) (oi := { dst := some 151, op := .move (.tmp 12), type := _, pos := _, after := _, guard := none }) (v := .string yk) rfl (by kernel_rfl) (by kernel_rfl) (by kernel_rfl) (fun _ _ _ h => h) (Or.inl ⟨by rfl, by intro x _; go_simp⟩) trivial ?_
      (try simp only [Act.put, List.setIfInBounds_toArray, List.set_cons_zero, List.set_cons_succ])
      refine wpAnyH_take (i := 1) (oi := { dst := some 152, op := .move (.tmp 14), type := _, pos := _, after := _, guard := none }) (v := .int .i64 (c : Int)) rfl (by kernel_rfl) (by kernel_rfl) (by kernel_rfl) (fun _ _ _ h => h) (Or.inl ⟨by rfl, by intro x _; go_simp⟩) trivial ?_
      (try simp only [Act.put, List.setIfInBounds_toArray, List.set_cons_zero, List.set_cons_succ])
      refine wpAnyH_take (i := 2) (oi := { dst := some 153, op := .move (.tmp 24), type := _, pos := _, after := _, guard := none }) (v := .int .i64 (a : Int)) rfl (by kernel_rfl) (by kernel_rfl) (by kernel_rfl) (fun _ _ _ h => h) (Or.inl ⟨by rfl, by intro x _; go_simp⟩) trivial ?_
      (try simp only [Act.put, List.setIfInBounds_toArray, List.set_cons_zero, List.set_cons_succ])
      refine wpAnyH_take (i := 3) (oi := { dst := some 154, op := .binOp .add 3 (.tmp 152) (.tmp 153) 3, type := _, pos := _, after := _, guard := none }) (v := .int .i64 ((c : Int) + (a : Int))) rfl (by kernel_rfl) (by kernel_rfl) (by kernel_rfl) (fun _ _ _ h => h) (Or.inl ⟨by rfl, by intro x _; go_simp⟩) trivial ?_
      (try simp only [Act.put, List.setIfInBounds_toArray, List.set_cons_zero, List.set_cons_succ])
      refine wpAnyH_take (i := 4) (oi := { dst := some 155, op := .move (.tmp 2), type := _, pos := _, after := _, guard := none }) (v := .string nonce) rfl (by kernel_rfl) (by kernel_rfl) (by kernel_rfl) (fun _ _ _ h => h) (Or.inl ⟨by rfl, by intro x _; go_simp⟩) trivial ?_
      (try simp only [Act.put, List.setIfInBounds_toArray, List.set_cons_zero, List.set_cons_succ])
      refine wpAnyH_take (i := 6) (oi := { dst := some 157, op := .move (.tmp 13), type := _, pos := _, after := _, guard := none }) (v := .string d) rfl (by kernel_rfl) (by kernel_rfl) (by kernel_rfl) (fun _ _ _ h => h) (Or.inl ⟨by rfl, by intro x _; go_simp⟩) trivial ?_
      (try simp only [Act.put, List.setIfInBounds_toArray, List.set_cons_zero, List.set_cons_succ])
      refine wpAnyH_take (i := 7) (oi := { dst := some 158, op := .move (.tmp 24), type := _, pos := _, after := _, guard := none }) (v := .int .i64 (a : Int)) rfl (by kernel_rfl) (by kernel_rfl) (by kernel_rfl) (fun _ _ _ h => h) (Or.inl ⟨by rfl, by intro x _; go_simp⟩) trivial ?_
      (try simp only [Act.put, List.setIfInBounds_toArray, List.set_cons_zero, List.set_cons_succ])
      refine wpAnyH_take (i := 8) (oi := { dst := some 159, op := .binOp .mul 3 (.const (.int .i64 64)) (.tmp 158) 3, type := _, pos := _, after := _, guard := none }) (v := .int .i64 (64 * (a : Int))) rfl (by kernel_rfl) (by kernel_rfl) (by kernel_rfl) (fun _ _ _ h => h) (Or.inl ⟨by rfl, by intro x _; go_simp⟩) trivial ?_
      (try simp only [Act.put, List.setIfInBounds_toArray, List.set_cons_zero, List.set_cons_succ])
      refine wpAnyH_take (i := 9) (oi := { dst := some 160, op := .slice 9 (.tmp 157) (some (.tmp 159)) none none, type := _, pos := _, after := _, guard := none }) (v := .string d2) rfl (by kernel_rfl) (by kernel_rfl) (by kernel_rfl) (fun _ _ _ h => h) (Or.inl ⟨by rfl, by intro x _; go_simp⟩) trivial ?_
      (try simp only [Act.put, List.setIfInBounds_toArray, List.set_cons_zero, List.set_cons_succ])
      refine wpAnyH_ready (rs := [5]) (by kernel_rfl) (by simp) ?_
      refine AllReadyH.cons (o := { dst := some 156, op := .call { callee := .value (.func 8), args := #[.tmp 155, .const (.int .i64 12)], argTypes := #[9, 3] }, type := _, pos := _, after := _, guard := none }) rfl (fun K hK => ?_) AllReadyH.nil
      go_simp
      refine (hs12 _).mono ?_
      rintro e v1 ⟨rfl, hc1'⟩
      have hc1 := hcV.trans (hc1'.mono hcV.size)
      obtain ⟨hT1, h31⟩ := HKT.out v1 hc1
      have hx1 := hxb v1 hT1 h31
      refine hK.out _ _ trivial (fun _ => ?_)
      clear hK K
      (try simp only [Act.put, List.setIfInBounds_toArray, List.set_cons_zero, List.set_cons_succ])
      refine wpAnyH_ready (rs := [10]) (by kernel_rfl) (by simp) ?_
      refine AllReadyH.cons (o := { dst := some 161, op := .call { callee := .value (.func 10), args := #[.tmp 151, .tmp 154, .tmp 156, .tmp 160], argTypes := #[9, 3, 9, 9] }, type := _, pos := _, after := _, guard := none }) rfl (fun K hK => ?_) AllReadyH.nil
      go_simp
      refine hx1.mono ?_
      rintro e v2 ⟨rfl, hc2'⟩
      have hc2 := hc1.trans (hc2'.mono hc1.size)
      refine hK.out _ _ trivial (fun _ => ?_)
      clear hK K
      (try simp only [Act.put, List.setIfInBounds_toArray, List.set_cons_zero, List.set_cons_succ])
      refine wpAnyH_take (i := 11) (oi := { dst := some 150, op := .move (.tmp 161), type := _, pos := _, after := _, guard := none }) (v := .tuple #[.string yB, .int .i64 0]) rfl (by kernel_rfl) (by kernel_rfl) (by kernel_rfl) (fun _ _ _ h => h) (Or.inl ⟨by rfl, by intro x _; go_simp⟩) trivial ?_
      (try simp only [Act.put, List.setIfInBounds_toArray, List.set_cons_zero, List.set_cons_succ])
      refine wpAnyH_take (i := 12) (oi := { dst := some 162, op := .extract (.tmp 150) 0, type := _, pos := _, after := _, guard := none }) (v := .string yB) rfl (by kernel_rfl) (by kernel_rfl) (by kernel_rfl) (fun _ _ _ h => h) (Or.inl ⟨by rfl, by intro x _; go_simp⟩) trivial ?_
      (try simp only [Act.put, List.setIfInBounds_toArray, List.set_cons_zero, List.set_cons_succ])
      refine wpAnyH_take (i := 13) (oi := { dst := some 163, op := .extract (.tmp 150) 1, type := _, pos := _, after := _, guard := none }) (v := .int .i64 0) rfl (by kernel_rfl) (by kernel_rfl) (by kernel_rfl) (fun _ _ _ h => h) (Or.inl ⟨by rfl, by intro x _; go_simp⟩) trivial ?_
      (try simp only [Act.put, List.setIfInBounds_toArray, List.set_cons_zero, List.set_cons_succ])
      refine wpAnyH_take (i := 14) (oi := { dst := some 27, op := .assign (.tmp 162), type := _, pos := _, after := _, guard := none }) (v := .string yB) rfl (by kernel_rfl) (by kernel_rfl) (by kernel_rfl) (fun _ _ _ h => h) (Or.inl ⟨by rfl, by intro x _; go_simp⟩) trivial ?_
      (try simp only [Act.put, List.setIfInBounds_toArray, List.set_cons_zero, List.set_cons_succ])
      refine wpAnyH_take (i := 15) (oi := { dst := some 28, op := .assign (.tmp 163), type := _, pos := _, after := _, guard := none }) (v := .int .i64 0) rfl (by kernel_rfl) (by kernel_rfl) (by kernel_rfl) (fun _ _ _ h => h) (Or.inl ⟨by rfl, by intro x _; go_simp⟩) trivial ?_
      (try simp only [Act.put, List.setIfInBounds_toArray, List.set_cons_zero, List.set_cons_succ])
      refine wpAnyH_done (by kernel_rfl) ?_ _
      refine with_world (R := fun W => Exit.then _ _ _ _ W) (Q := fun W => Below w.heap.size w W) _ hc2 ?_
      clear hc2 hc2' hc1 hc1' hx1 hT1 h31 hcV
      intro V hV
      go_wp2_with (go_at_call 11; refine (num_any _ _).mono ?_; rintro e w8 ⟨rfl, rfl⟩)
      go_ret
      exact ⟨by simp [HAB.out], hV⟩
  · rw [if_neg htn] at ha
    subst ha
    by_cases h64 : 64 * a = d.size
    · have h64I : 64 * (a : Int) = (d.size : Int) := by omega
      go_wp2
      go_ret
      exact ⟨rfl, hb⟩
    · have h64I : ¬ (64 * (a : Int) = (d.size : Int)) := by omega
      have h64B : (64 * (a : Int) == (d.size : Int)) = false := by simp; omega
      have hal : 64 * a < d.size := by have h1 := HBK.out; omega
      obtain ⟨d1, hsl1, hd1s, hd1l⟩ := HS1.out
      obtain ⟨d2, hsl2, hd2s, hd2l⟩ := HS2.out
      have hca : c + a < 4294967296 := by have h1 := HNB.out; omega
      have hxa := fun W hT h3 => xor_yes yk y12 d1 c l1 l2 (by omega) hcw (by have h1 := HNB.out; omega) W hT h3
      have hxb := fun W hT h3 => xor_yes yk y12 d2 (c + a) l1 l2 (by omega) hca (by have h1 := HNB.out; omega) W hT h3
      have HAB : Hid (str (overL yk.data.toList c y12.data.toList d1.data.toList) ++ str (overL yk.data.toList (c + a) y12.data.toList d2.data.toList) = S1) := by
        show _ = _
        rw [str_append, ← overL_append _ _ _ _ _ a (by rw [← size_eq, hd1s]), hd1l, hd2l, List.take_append_drop, HS.out]
      have hzA : (str (overL yk.data.toList c y12.data.toList d1.data.toList)).size + (str (overL yk.data.toList (c + a) y12.data.toList d2.data.toList)).size ≤ 9223372036854775807 := by rw [str_size, str_size, overL_length, overL_length, ← size_eq, ← size_eq]; omega
      rw [show ((c + a : Nat) : Int) = (c : Int) + (a : Int) by omega] at hxb
      revert hxa hxb HAB hzA
      generalize str (overL yk.data.toList c y12.data.toList d1.data.toList) = yA
      generalize str (overL yk.data.toList (c + a) y12.data.toList d2.data.toList) = yB
      intro hxa hxb HAB hzA
      have hwc : IntKind.i64.wrap ((c : Int) + (a : Int)) = (c : Int) + (a : Int) := by rw [IntKind.wrap_i64]; omega
      clear HS HS1 HS2 hd1l hd2l HBK HNB
      go_upto_region 23 with fail
      refine wp_region_held_drew (S := fun _ => True) (by kernel_rfl) trivial ?_
      intro _
      have hcV := hb.drew
      clear hb
      revert hcV
      generalize World.drew _ = V0
      intro hcV
      refine wpAnyH_take (i := 0) (oi := { dst := some 139, op := .move (.tmp 12), type := _, pos := _, after := _, guard := none }) (v := .string yk) rfl (by kernel_rfl) (by kernel_rfl) (by kernel_rfl) (fun _ _ _ h => h) (Or.inl ⟨by rfl, by intro x _; go_simp⟩) trivial ?_
      (try simp only [Act.put, List.setIfInBounds_toArray, List.set_cons_zero, List.set_cons_succ])
      refine wpAnyH_take (i := 1) (oi := { dst := some 140, op := .move (.tmp 14), type := _, pos := _, after := _, guard := none }) (v := .int .i64 (c : Int)) rfl (by kernel_rfl) (by kernel_rfl) (by kernel_rfl) (fun _ _ _ h => h) (Or.inl ⟨by rfl, by intro x _; go_simp⟩) trivial ?_
      (try simp only [Act.put, List.setIfInBounds_toArray, List.set_cons_zero, List.set_cons_succ])
      refine wpAnyH_take (i := 2) (oi := { dst := some 141, op := .move (.tmp 2), type := _, pos := _, after := _, guard := none }) (v := .string nonce) rfl (by kernel_rfl) (by kernel_rfl) (by kernel_rfl) (fun _ _ _ h => h) (Or.inl ⟨by rfl, by intro x _; go_simp⟩) trivial ?_
      (try simp only [Act.put, List.setIfInBounds_toArray, List.set_cons_zero, List.set_cons_succ])
      refine wpAnyH_take (i := 4) (oi := { dst := some 143, op := .move (.tmp 13), type := _, pos := _, after := _, guard := none }) (v := .string d) rfl (by kernel_rfl) (by kernel_rfl) (by kernel_rfl) (fun _ _ _ h => h) (Or.inl ⟨by rfl, by intro x _; go_simp⟩) trivial ?_
      (try simp only [Act.put, List.setIfInBounds_toArray, List.set_cons_zero, List.set_cons_succ])
      refine wpAnyH_take (i := 5) (oi := { dst := some 144, op := .move (.tmp 24), type := _, pos := _, after := _, guard := none }) (v := .int .i64 (a : Int)) rfl (by kernel_rfl) (by kernel_rfl) (by kernel_rfl) (fun _ _ _ h => h) (Or.inl ⟨by rfl, by intro x _; go_simp⟩) trivial ?_
      (try simp only [Act.put, List.setIfInBounds_toArray, List.set_cons_zero, List.set_cons_succ])
      refine wpAnyH_take (i := 6) (oi := { dst := some 145, op := .binOp .mul 3 (.const (.int .i64 64)) (.tmp 144) 3, type := _, pos := _, after := _, guard := none }) (v := .int .i64 (64 * (a : Int))) rfl (by kernel_rfl) (by kernel_rfl) (by kernel_rfl) (fun _ _ _ h => h) (Or.inl ⟨by rfl, by intro x _; go_simp⟩) trivial ?_
      (try simp only [Act.put, List.setIfInBounds_toArray, List.set_cons_zero, List.set_cons_succ])
      refine wpAnyH_take (i := 7) (oi := { dst := some 146, op := .slice 9 (.tmp 143) none (some (.tmp 145)) none, type := _, pos := _, after := _, guard := none }) (v := .string d1) rfl (by kernel_rfl) (by kernel_rfl) (by kernel_rfl) (fun _ _ _ h => h) (Or.inl ⟨by rfl, by intro x _; go_simp⟩) trivial ?_
      (try simp only [Act.put, List.setIfInBounds_toArray, List.set_cons_zero, List.set_cons_succ])
      refine wpAnyH_ready (rs := [3]) (by kernel_rfl) (by simp) ?_
      refine AllReadyH.cons (o := { dst := some 142, op := .call { callee := .value (.func 8), args := #[.tmp 141, .const (.int .i64 12)], argTypes := #[9, 3] }, type := _, pos := _, after := _, guard := none }) rfl (fun K hK => ?_) AllReadyH.nil
      go_simp
      refine (hs12 _).mono ?_
      rintro e v1 ⟨rfl, hc1'⟩
      have hc1 := hcV.trans (hc1'.mono hcV.size)
      obtain ⟨hT1, h31⟩ := HKT.out v1 hc1
      have hx1 := hxa v1 hT1 h31
      refine hK.out _ _ trivial (fun _ => ?_)
      clear hK K
      (try simp only [Act.put, List.setIfInBounds_toArray, List.set_cons_zero, List.set_cons_succ])
      refine wpAnyH_ready (rs := [8]) (by kernel_rfl) (by simp) ?_
      refine AllReadyH.cons (o := { dst := some 147, op := .call { callee := .value (.func 10), args := #[.tmp 139, .tmp 140, .tmp 142, .tmp 146], argTypes := #[9, 3, 9, 9] }, type := _, pos := _, after := _, guard := none }) rfl (fun K hK => ?_) AllReadyH.nil
      go_simp
      refine hx1.mono ?_
      rintro e v2 ⟨rfl, hc2'⟩
      have hc2 := hc1.trans (hc2'.mono hc1.size)
      refine hK.out _ _ trivial (fun _ => ?_)
      clear hK K
      (try simp only [Act.put, List.setIfInBounds_toArray, List.set_cons_zero, List.set_cons_succ])
      refine wpAnyH_take (i := 9) (oi := { dst := some 138, op := .move (.tmp 147), type := _, pos := _, after := _, guard := none }) (v := .tuple #[.string yA, .int .i64 0]) rfl (by kernel_rfl) (by kernel_rfl) (by kernel_rfl) (fun _ _ _ h => h) (Or.inl ⟨by rfl, by intro x _; go_simp⟩) trivial ?_
      (try simp only [Act.put, List.setIfInBounds_toArray, List.set_cons_zero, List.set_cons_succ])
      refine wpAnyH_take (i := 10) (oi := { dst := some 148, op := .extract (.tmp 138) 0, type := _, pos := _, after := _, guard := none }) (v := .string yA) rfl (by kernel_rfl) (by kernel_rfl) (by kernel_rfl) (fun _ _ _ h => h) (Or.inl ⟨by rfl, by intro x _; go_simp⟩) trivial ?_
      (try simp only [Act.put, List.setIfInBounds_toArray, List.set_cons_zero, List.set_cons_succ])
      refine wpAnyH_take (i := 11) (oi := { dst := some 149, op := .extract (.tmp 138) 1, type := _, pos := _, after := _, guard := none }) (v := .int .i64 0) rfl (by kernel_rfl) (by kernel_rfl) (by kernel_rfl) (fun _ _ _ h => h) (Or.inl ⟨by rfl, by intro x _; go_simp⟩) trivial ?_
      (try simp only [Act.put, List.setIfInBounds_toArray, List.set_cons_zero, List.set_cons_succ])
      refine wpAnyH_take (i := 12) (oi := { dst := some 25, op := .assign (.tmp 148), type := _, pos := _, after := _, guard := none }) (v := .string yA) rfl (by kernel_rfl) (by kernel_rfl) (by kernel_rfl) (fun _ _ _ h => h) (Or.inl ⟨by rfl, by intro x _; go_simp⟩) trivial ?_
      (try simp only [Act.put, List.setIfInBounds_toArray, List.set_cons_zero, List.set_cons_succ])
      refine wpAnyH_take (i := 13) (oi := { dst := some 26, op := .assign (.tmp 149), type := _, pos := _, after := _, guard := none }) (v := .int .i64 0) rfl (by kernel_rfl) (by kernel_rfl) (by kernel_rfl) (fun _ _ _ h => h) (Or.inl ⟨by rfl, by intro x _; go_simp⟩) trivial ?_
      (try simp only [Act.put, List.setIfInBounds_toArray, List.set_cons_zero, List.set_cons_succ])
      refine wpAnyH_done (by kernel_rfl) ?_ _
      refine with_world (R := fun W => Exit.then _ _ _ _ W) (Q := fun W => Below w.heap.size w W) _ hc2 ?_
      clear hc2 hc2' hc1 hc1' hx1 hT1 h31 hcV
      intro V hV
      go_upto_region 24 with fail
      refine wp_region_held_drew (S := fun _ => True) (by kernel_rfl) trivial ?_
      intro _
      have hcV := hV.drew
      clear hV
      revert hcV
      generalize V.drew = V1
      intro hcV
      refine wpAnyH_take (i := 0) (oi := { dst := some 151, op := .move (.tmp 12), type := _, pos := _, after := _, guard := none }) (v := .string yk) rfl (by kernel_rfl) (by kernel_rfl) (by kernel_rfl) (fun _ _ _ h => h) (Or.inl ⟨by rfl, by intro x _; go_simp⟩) trivial ?_
      (try simp only [Act.put, List.setIfInBounds_toArray, List.set_cons_zero, List.set_cons_succ])
      refine wpAnyH_take (i := 1) (oi := { dst := some 152, op := .move (.tmp 14), type := _, pos := _, after := _, guard := none }) (v := .int .i64 (c : Int)) rfl (by kernel_rfl) (by kernel_rfl) (by kernel_rfl) (fun _ _ _ h => h) (Or.inl ⟨by rfl, by intro x _; go_simp⟩) trivial ?_
      (try simp only [Act.put, List.setIfInBounds_toArray, List.set_cons_zero, List.set_cons_succ])
      refine wpAnyH_take (i := 2) (oi := { dst := some 153, op := .move (.tmp 24), type := _, pos := _, after := _, guard := none }) (v := .int .i64 (a : Int)) rfl (by kernel_rfl) (by kernel_rfl) (by kernel_rfl) (fun _ _ _ h => h) (Or.inl ⟨by rfl, by intro x _; go_simp⟩) trivial ?_
      (try simp only [Act.put, List.setIfInBounds_toArray, List.set_cons_zero, List.set_cons_succ])
      refine wpAnyH_take (i := 3) (oi := { dst := some 154, op := .binOp .add 3 (.tmp 152) (.tmp 153) 3, type := _, pos := _, after := _, guard := none }) (v := .int .i64 ((c : Int) + (a : Int))) rfl (by kernel_rfl) (by kernel_rfl) (by kernel_rfl) (fun _ _ _ h => h) (Or.inl ⟨by rfl, by intro x _; go_simp⟩) trivial ?_
      (try simp only [Act.put, List.setIfInBounds_toArray, List.set_cons_zero, List.set_cons_succ])
      refine wpAnyH_take (i := 4) (oi := { dst := some 155, op := .move (.tmp 2), type := _, pos := _, after := _, guard := none }) (v := .string nonce) rfl (by kernel_rfl) (by kernel_rfl) (by kernel_rfl) (fun _ _ _ h => h) (Or.inl ⟨by rfl, by intro x _; go_simp⟩) trivial ?_
      (try simp only [Act.put, List.setIfInBounds_toArray, List.set_cons_zero, List.set_cons_succ])
      refine wpAnyH_take (i := 6) (oi := { dst := some 157, op := .move (.tmp 13), type := _, pos := _, after := _, guard := none }) (v := .string d) rfl (by kernel_rfl) (by kernel_rfl) (by kernel_rfl) (fun _ _ _ h => h) (Or.inl ⟨by rfl, by intro x _; go_simp⟩) trivial ?_
      (try simp only [Act.put, List.setIfInBounds_toArray, List.set_cons_zero, List.set_cons_succ])
      refine wpAnyH_take (i := 7) (oi := { dst := some 158, op := .move (.tmp 24), type := _, pos := _, after := _, guard := none }) (v := .int .i64 (a : Int)) rfl (by kernel_rfl) (by kernel_rfl) (by kernel_rfl) (fun _ _ _ h => h) (Or.inl ⟨by rfl, by intro x _; go_simp⟩) trivial ?_
      (try simp only [Act.put, List.setIfInBounds_toArray, List.set_cons_zero, List.set_cons_succ])
      refine wpAnyH_take (i := 8) (oi := { dst := some 159, op := .binOp .mul 3 (.const (.int .i64 64)) (.tmp 158) 3, type := _, pos := _, after := _, guard := none }) (v := .int .i64 (64 * (a : Int))) rfl (by kernel_rfl) (by kernel_rfl) (by kernel_rfl) (fun _ _ _ h => h) (Or.inl ⟨by rfl, by intro x _; go_simp⟩) trivial ?_
      (try simp only [Act.put, List.setIfInBounds_toArray, List.set_cons_zero, List.set_cons_succ])
      refine wpAnyH_take (i := 9) (oi := { dst := some 160, op := .slice 9 (.tmp 157) (some (.tmp 159)) none none, type := _, pos := _, after := _, guard := none }) (v := .string d2) rfl (by kernel_rfl) (by kernel_rfl) (by kernel_rfl) (fun _ _ _ h => h) (Or.inl ⟨by rfl, by intro x _; go_simp⟩) trivial ?_
      (try simp only [Act.put, List.setIfInBounds_toArray, List.set_cons_zero, List.set_cons_succ])
      refine wpAnyH_ready (rs := [5]) (by kernel_rfl) (by simp) ?_
      refine AllReadyH.cons (o := { dst := some 156, op := .call { callee := .value (.func 8), args := #[.tmp 155, .const (.int .i64 12)], argTypes := #[9, 3] }, type := _, pos := _, after := _, guard := none }) rfl (fun K hK => ?_) AllReadyH.nil
      go_simp
      refine (hs12 _).mono ?_
      rintro e v1 ⟨rfl, hc1'⟩
      have hc1 := hcV.trans (hc1'.mono hcV.size)
      obtain ⟨hT1, h31⟩ := HKT.out v1 hc1
      have hx1 := hxb v1 hT1 h31
      refine hK.out _ _ trivial (fun _ => ?_)
      clear hK K
      (try simp only [Act.put, List.setIfInBounds_toArray, List.set_cons_zero, List.set_cons_succ])
      refine wpAnyH_ready (rs := [10]) (by kernel_rfl) (by simp) ?_
      refine AllReadyH.cons (o := { dst := some 161, op := .call { callee := .value (.func 10), args := #[.tmp 151, .tmp 154, .tmp 156, .tmp 160], argTypes := #[9, 3, 9, 9] }, type := _, pos := _, after := _, guard := none }) rfl (fun K hK => ?_) AllReadyH.nil
      go_simp
      refine hx1.mono ?_
      rintro e v2 ⟨rfl, hc2'⟩
      have hc2 := hc1.trans (hc2'.mono hc1.size)
      refine hK.out _ _ trivial (fun _ => ?_)
      clear hK K
      (try simp only [Act.put, List.setIfInBounds_toArray, List.set_cons_zero, List.set_cons_succ])
      refine wpAnyH_take (i := 11) (oi := { dst := some 150, op := .move (.tmp 161), type := _, pos := _, after := _, guard := none }) (v := .tuple #[.string yB, .int .i64 0]) rfl (by kernel_rfl) (by kernel_rfl) (by kernel_rfl) (fun _ _ _ h => h) (Or.inl ⟨by rfl, by intro x _; go_simp⟩) trivial ?_
      (try simp only [Act.put, List.setIfInBounds_toArray, List.set_cons_zero, List.set_cons_succ])
      refine wpAnyH_take (i := 12) (oi := { dst := some 162, op := .extract (.tmp 150) 0, type := _, pos := _, after := _, guard := none }) (v := .string yB) rfl (by kernel_rfl) (by kernel_rfl) (by kernel_rfl) (fun _ _ _ h => h) (Or.inl ⟨by rfl, by intro x _; go_simp⟩) trivial ?_
      (try simp only [Act.put, List.setIfInBounds_toArray, List.set_cons_zero, List.set_cons_succ])
      refine wpAnyH_take (i := 13) (oi := { dst := some 163, op := .extract (.tmp 150) 1, type := _, pos := _, after := _, guard := none }) (v := .int .i64 0) rfl (by kernel_rfl) (by kernel_rfl) (by kernel_rfl) (fun _ _ _ h => h) (Or.inl ⟨by rfl, by intro x _; go_simp⟩) trivial ?_
      (try simp only [Act.put, List.setIfInBounds_toArray, List.set_cons_zero, List.set_cons_succ])
      refine wpAnyH_take (i := 14) (oi := { dst := some 27, op := .assign (.tmp 162), type := _, pos := _, after := _, guard := none }) (v := .string yB) rfl (by kernel_rfl) (by kernel_rfl) (by kernel_rfl) (fun _ _ _ h => h) (Or.inl ⟨by rfl, by intro x _; go_simp⟩) trivial ?_
      (try simp only [Act.put, List.setIfInBounds_toArray, List.set_cons_zero, List.set_cons_succ])
      refine wpAnyH_take (i := 15) (oi := { dst := some 28, op := .assign (.tmp 163), type := _, pos := _, after := _, guard := none }) (v := .int .i64 0) rfl (by kernel_rfl) (by kernel_rfl) (by kernel_rfl) (fun _ _ _ h => h) (Or.inl ⟨by rfl, by intro x _; go_simp⟩) trivial ?_
      (try simp only [Act.put, List.setIfInBounds_toArray, List.set_cons_zero, List.set_cons_succ])
      refine wpAnyH_done (by kernel_rfl) ?_ _
      refine with_world (R := fun W => Exit.then _ _ _ _ W) (Q := fun W => Below w.heap.size w W) _ hc2 ?_
      clear hc2 hc2' hc1 hc1' hx1 hT1 h31 hcV
      intro V hV
      go_wp2_with (go_at_call 11; refine (num_any _ _).mono ?_; rintro e w8 ⟨rfl, rfl⟩)
      go_ret
      exact ⟨by simp [HAB.out], hV⟩

theorem back_walk (key nonce data : ByteArray) (n cut : Int) (hk : key.size ≤ maxLen) (hn : nonce.size ≤ maxLen) (hdm : data.size ≤ maxLen) (w : World) (hT : CTabs w) (h3 : 3 ≤ w.heap.size) :
    Calls Tryd.prog 3 #[.string key, .int .i64 n, .string nonce, .string data, .int .i64 cut] w fun e w' => e = .returned (.bool true) ∧ Below w.heap.size w w' := by
  obtain ⟨d, hd, hd1, hd2⟩ := cut_any data
  by_cases h : data.size ≤ 65536
  · exact back_short key nonce data d n cut hk hn hdm hd (hd1 h) h w hT h3
  · exact back_long key nonce data d n cut hk hn hdm hd (hd2 (by omega)) (by omega) w hT h3

end Go.Proofs.YtjcmpfnndjlpkabDoor
