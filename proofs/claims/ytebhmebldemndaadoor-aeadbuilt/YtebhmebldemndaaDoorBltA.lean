import Derived.Test.YtebhmebldemndaaDoorAe6S
import Derived.Test.YtebhmebldemndaaDoorSz6B
import Derived.Test.YtebhmebldemndaaDoorChaR
import Derived.Test.YtebhmebldemndaaDoorChaO
import Derived.Test.YtebhmebldemndaaDoorMacX
namespace Go.Proofs.YtebhmebldemndaaDoor.Ae
open Go.RowKit Go.Lib Go.Deep
open Cha (CTabs)

set_option maxRecDepth 20000 in
set_option maxHeartbeats 8000000 in
theorem aeadBuilt_walk (hS : SealC) (key nonce aad plain : ByteArray) (w : World) (b0 : key.size ≤ 140737488351232) (b1 : nonce.size ≤ 140737488351232) (b2 : aad.size ≤ 140737488351232) (b3 : plain.size ≤ 140737488351232) (hT : ATabs w) :
    Calls Tryd.prog 7 #[.string key, .string nonce, .string aad, .string plain] w fun e w' => e = .returned (.bool true) ∧ Below w.heap.size w w' := by
  by_cases h1 : 100000 < aad.size
  · have i1 : (100000 : Int) < (aad.size : Int) := by omega
    go_enter Tryd.func7, Tryd.ntmps7
    go_wp2
    go_ret
    exact ⟨rfl, Below.refl _ _⟩
  have i1 : ¬ (100000 : Int) < (aad.size : Int) := by omega
  by_cases h2 : 100000 < plain.size
  · have i2 : (100000 : Int) < (plain.size : Int) := by omega
    go_enter Tryd.func7, Tryd.ntmps7
    go_wp2
    go_ret
    exact ⟨rfl, Below.refl _ _⟩
  have i2 : ¬ (100000 : Int) < (plain.size : Int) := by omega
  have HTT : Hid (∀ W, Below w.heap.size w W → ATabs W) := fun W h => hT.below h
  have hk := fun W => sized6_any key 32 (by omega) b0 W
  have hn := fun W => sized6_any nonce 12 (by omega) b1 W
  obtain ⟨yk, hyk⟩ : ∃ y, str (szZ key.data.toList 32) = y := ⟨_, rfl⟩
  obtain ⟨yn, hyn⟩ : ∃ y, str (szZ nonce.data.toList 12) = y := ⟨_, rfl⟩
  have sk : yk.size = 32 := by rw [← hyk, str_size, szZ_length]
  have sn : yn.size = 12 := by rw [← hyn, str_size, szZ_length]
  rw [hyk] at hk
  rw [hyn] at hn
  clear hyk hyn hT
  have hln : yn.data.toList.length = 12 := by rw [← size_eq]; exact sn
  have hse := fun W k => hS yk yn aad plain W (by omega) (by omega) (by omega) (by omega) k
  rw [(sealE_yes sk (.inl sn) (by omega) (by omega)).1, (sealE_yes sk (.inl sn) (by omega) (by omega)).2, sealL, keyL, nonL, if_pos hln, if_pos hln] at hse
  have hxo := fun W (k : ATabs W) => Cha.xor_yes yk yn plain 1 sk sn (by omega) (by omega) (by omega) W k.c k.s
  have hbl := fun W (k : ATabs W) => Cha.block_yes yk yn 0 sk sn (by omega) W k.c k.s
  obtain ⟨C, hC⟩ : ∃ C, Cha.overL yk.data.toList 1 yn.data.toList plain.data.toList = C := ⟨_, rfl⟩
  have hCl : C.length = plain.size := by rw [← hC, Cha.overL_length, ← size_eq]
  rw [hC] at hxo
  rw [sealS, hC, tagA] at hse
  clear hC
  obtain ⟨B, hB⟩ : ∃ B, Cha.blockL yk.data.toList 0 yn.data.toList = B := ⟨_, rfl⟩
  have hBl : B.length = 64 := by rw [← hB, Cha.blockL_length]
  rw [hB] at hbl hse
  clear hB
  have hsl : (str B).extract 0 32 = str (B.take 32) := by rw [← str_of ((str B).extract 0 32), extract_data, str_data, List.drop_zero, Nat.sub_zero]
  have hsb : (str B).size = 64 := by rw [str_size, hBl]
  have hla : aad.data.toList.length = aad.size := (size_eq aad).symm
  have hf1 := fun W => filled_any aad (by omega) W
  have hf2 := fun W => filled_any (str C) (by rw [str_size]; omega) W
  have he1 := fun W => leight_any aad.size (by omega) W
  have he2 := fun W => leight_any (str C).size (by rw [str_size]; omega) W
  rw [str_data] at hf2
  rw [str_size] at he2
  have hmac : (str (aad.data.toList ++ fillZ aad.data.toList.length) ++ str (C ++ fillZ C.length) ++ str (le8 aad.size) ++ str (le8 C.length)).data.toList = macL aad.data.toList C := by
    simp only [ByteArray.data_append, Array.toList_append, str_data, macL, hla, List.append_assoc]
  have hz1 : (str (aad.data.toList ++ fillZ aad.data.toList.length)).size ≤ 100016 := by rw [str_size, List.length_append, fillZ_length]; have := fillN_lt aad.data.toList.length; omega
  have hz2 : (str (C ++ fillZ C.length)).size ≤ 100016 := by rw [str_size, List.length_append, fillZ_length]; have := fillN_lt C.length; omega
  have hz3 : (str (le8 aad.size)).size ≤ 8 := by rw [str_size]; exact Nat.le_of_eq (leN_length _ _)
  have hz4 : (str (le8 C.length)).size ≤ 8 := by rw [str_size]; exact Nat.le_of_eq (leN_length _ _)
  have htg := fun W (k : ATabs W) => Pol.tag_yes (str (B.take 32)) (str (aad.data.toList ++ fillZ aad.data.toList.length) ++ str (C ++ fillZ C.length) ++ str (le8 aad.size) ++ str (le8 C.length)) (by rw [str_size, List.length_take, hBl]; rfl) (by simp only [ByteArray.size_append]; omega) W k.k (by have := k.s; omega)
  rw [hmac, str_data] at htg
  obtain ⟨Tg, hTg⟩ : ∃ Tg, Pol.tagL (B.take 32) (macL aad.data.toList C) = Tg := ⟨_, rfl⟩
  have hTl : (str Tg).size = 16 := by rw [← hTg, str_size, Pol.tagL_length]
  rw [hTg] at htg hse
  have hcat : str C ++ str Tg = str (C ++ Tg) := by rw [← str_of (str C ++ _), ByteArray.data_append, Array.toList_append, str_data, str_data]
  have hcs : (str C).size + (str Tg).size ≤ 9223372036854775807 := by rw [str_size, hTl]; omega
  have hsC : (str C).size = C.length := str_size C
  clear hmac hTg
  generalize str (C ++ Tg) = Y at hse hcat
  generalize str Tg = yt at htg hcat hTl hcs
  generalize str (B.take 32) = yb32 at hsl htg
  generalize str B = yb at hbl hsl hsb
  generalize str (aad.data.toList ++ fillZ aad.data.toList.length) = f1 at hf1 htg hz1
  generalize str (C ++ fillZ C.length) = f2 at hf2 htg hz2
  generalize str (le8 aad.size) = f3 at he1 htg hz3
  generalize str (le8 C.length) = f4 at he2 htg hz4
  generalize str C = yc at hxo hf2 hcat hcs hsC
  have a1 : f1.size + f2.size ≤ 9223372036854775807 := by omega
  have a2 : f1.size + f2.size + f3.size ≤ 9223372036854775807 := by omega
  have a3 : f1.size + f2.size + f3.size + f4.size ≤ 9223372036854775807 := by omega
  rw [← hsC] at he2
  clear hsC hBl hCl hla hln hz1 hz2 hz3 hz4 hS
  go_enter Tryd.func7, Tryd.ntmps7
  go_wp2_with fail
  refine (hk w).mono ?_
  rintro e w1 ⟨rfl, hb1⟩
  go_wp2_with fail
  refine (hn w1).mono ?_
  rintro e w2 ⟨rfl, hb2'⟩
  have hb2 := hb1.trans (hb2'.mono hb1.size)
  clear hb1 hb2'
  have hse2 := hse w2 (HTT.out _ hb2)
  go_wp2_with fail
  refine hse2.mono ?_
  rintro e w3 ⟨rfl, hb3'⟩
  have hb3 := hb2.trans (hb3'.mono hb2.size)
  clear hb2 hb3' hse2
  have hxo2 := hxo w3 (HTT.out _ hb3)
  go_wp2_with fail
  refine hxo2.mono ?_
  rintro e w4 ⟨rfl, hb4'⟩
  have hb4 := hb3.trans (hb4'.mono hb3.size)
  clear hb3 hb4' hxo2
  have hbl2 := hbl w4 (HTT.out _ hb4)
  go_wp2_with fail
  refine hbl2.mono ?_
  rintro e w5 ⟨rfl, hb5'⟩
  have hb5 := hb4.trans (hb5'.mono hb4.size)
  clear hb4 hb5' hbl2
  go_wp2_with (go_at_call 11; refine (lnum_any _ _).mono ?_; rintro e w' ⟨rfl, rfl⟩)
  -- REGION
  have hS0 : Below w.heap.size w w5.drew := hb5.drew
  clear hb5
  refine wp_region_held_drew (S := fun W => Below w.heap.size w W) (by kernel_rfl) hS0 ?_
  intro hS
  clear hS0
  revert hS
  generalize w5.drew = V
  intro hS
  refine wpAnyH_take (i := 0) (oi := { dst := some 71, op := .move (.tmp 15), type := _, pos := _, after := _, guard := none }) (v := .string yb) rfl (by kernel_rfl) (by kernel_rfl) (by kernel_rfl) (fun _ _ _ h => h) (Or.inl ⟨by rfl, by intro x _; go_simp⟩) hS ?_
  (try simp only [Act.put, List.setIfInBounds_toArray, List.set_cons_zero, List.set_cons_succ])
  refine wpAnyH_take (i := 1) (oi := { dst := some 72, op := .slice 9 (.tmp 71) none (some (.const (.int .i64 32))) none, type := _, pos := _, after := _, guard := none }) (v := .string yb32) rfl (by kernel_rfl) (by kernel_rfl) (by kernel_rfl) (fun _ _ _ h => h) (Or.inl ⟨by rfl, by intro x _; go_simp⟩) hS ?_
  (try simp only [Act.put, List.setIfInBounds_toArray, List.set_cons_zero, List.set_cons_succ])
  refine wpAnyH_take (i := 2) (oi := { dst := some 73, op := .move (.tmp 2), type := _, pos := _, after := _, guard := none }) (v := .string aad) rfl (by kernel_rfl) (by kernel_rfl) (by kernel_rfl) (fun _ _ _ h => h) (Or.inl ⟨by rfl, by intro x _; go_simp⟩) hS ?_
  (try simp only [Act.put, List.setIfInBounds_toArray, List.set_cons_zero, List.set_cons_succ])
  refine wpAnyH_take (i := 4) (oi := { dst := some 75, op := .move (.tmp 13), type := _, pos := _, after := _, guard := none }) (v := .string yc) rfl (by kernel_rfl) (by kernel_rfl) (by kernel_rfl) (fun _ _ _ h => h) (Or.inl ⟨by rfl, by intro x _; go_simp⟩) hS ?_
  (try simp only [Act.put, List.setIfInBounds_toArray, List.set_cons_zero, List.set_cons_succ])
  refine wpAnyH_take (i := 7) (oi := { dst := some 78, op := .move (.tmp 2), type := _, pos := _, after := _, guard := none }) (v := .string aad) rfl (by kernel_rfl) (by kernel_rfl) (by kernel_rfl) (fun _ _ _ h => h) (Or.inl ⟨by rfl, by intro x _; go_simp⟩) hS ?_
  (try simp only [Act.put, List.setIfInBounds_toArray, List.set_cons_zero, List.set_cons_succ])
  refine wpAnyH_take (i := 8) (oi := { dst := some 79, op := .call { callee := .builtin .len, args := #[.tmp 78], argTypes := #[9] }, type := _, pos := _, after := _, guard := none }) (v := .int .i64 (aad.size : Int)) rfl (by kernel_rfl) (by kernel_rfl) (by kernel_rfl) (fun _ _ _ h => h) (Or.inl ⟨by rfl, by intro x _; go_simp⟩) hS ?_
  (try simp only [Act.put, List.setIfInBounds_toArray, List.set_cons_zero, List.set_cons_succ])
  refine wpAnyH_take (i := 11) (oi := { dst := some 82, op := .move (.tmp 13), type := _, pos := _, after := _, guard := none }) (v := .string yc) rfl (by kernel_rfl) (by kernel_rfl) (by kernel_rfl) (fun _ _ _ h => h) (Or.inl ⟨by rfl, by intro x _; go_simp⟩) hS ?_
  (try simp only [Act.put, List.setIfInBounds_toArray, List.set_cons_zero, List.set_cons_succ])
  refine wpAnyH_take (i := 12) (oi := { dst := some 83, op := .call { callee := .builtin .len, args := #[.tmp 82], argTypes := #[9] }, type := _, pos := _, after := _, guard := none }) (v := .int .i64 (yc.size : Int)) rfl (by kernel_rfl) (by kernel_rfl) (by kernel_rfl) (fun _ _ _ h => h) (Or.inl ⟨by rfl, by intro x _; go_simp⟩) hS ?_
  (try simp only [Act.put, List.setIfInBounds_toArray, List.set_cons_zero, List.set_cons_succ])
  refine wpAnyH_ready (rs := [3]) (by kernel_rfl) (by simp) ?_
  refine AllReadyH.cons (o := { dst := some 74, op := .call { callee := .value (.func 20), args := #[.tmp 73], argTypes := #[9] }, type := _, pos := _, after := _, guard := none }) rfl (fun K hK => ?_) AllReadyH.nil
  go_simp
  refine (hf1 V).mono ?_
  rintro e W2 ⟨rfl, hbc⟩
  have hS2 := hS.trans (hbc.mono hS.size)
  refine hK.out _ _ hS2 (fun _ => ?_)
  clear hK K
  (try simp only [Act.put, List.setIfInBounds_toArray, List.set_cons_zero, List.set_cons_succ])
  revert hS2
  clear hS hbc
  generalize W2 = V
  intro hS
  refine wpAnyH_ready (rs := [5]) (by kernel_rfl) (by simp) ?_
  refine AllReadyH.cons (o := { dst := some 76, op := .call { callee := .value (.func 20), args := #[.tmp 75], argTypes := #[9] }, type := _, pos := _, after := _, guard := none }) rfl (fun K hK => ?_) AllReadyH.nil
  go_simp
  refine (hf2 V).mono ?_
  rintro e W2 ⟨rfl, hbc⟩
  have hS2 := hS.trans (hbc.mono hS.size)
  refine hK.out _ _ hS2 (fun _ => ?_)
  clear hK K
  (try simp only [Act.put, List.setIfInBounds_toArray, List.set_cons_zero, List.set_cons_succ])
  revert hS2
  clear hS hbc
  generalize W2 = V
  intro hS
  refine wpAnyH_take (i := 6) (oi := { dst := some 77, op := .binOp .add 9 (.tmp 74) (.tmp 76) 9, type := _, pos := _, after := _, guard := none }) (v := .string (f1 ++ f2)) rfl (by kernel_rfl) (by kernel_rfl) (by kernel_rfl) (fun _ _ _ h => h) (Or.inl ⟨by rfl, by intro x _; go_simp⟩) hS ?_
  (try simp only [Act.put, List.setIfInBounds_toArray, List.set_cons_zero, List.set_cons_succ])
  refine wpAnyH_ready (rs := [9]) (by kernel_rfl) (by simp) ?_
  refine AllReadyH.cons (o := { dst := some 80, op := .call { callee := .value (.func 21), args := #[.tmp 79], argTypes := #[3] }, type := _, pos := _, after := _, guard := none }) rfl (fun K hK => ?_) AllReadyH.nil
  go_simp
  refine (he1 V).mono ?_
  rintro e W2 ⟨rfl, hbc⟩
  have hS2 := hS.trans (hbc.mono hS.size)
  refine hK.out _ _ hS2 (fun _ => ?_)
  clear hK K
  (try simp only [Act.put, List.setIfInBounds_toArray, List.set_cons_zero, List.set_cons_succ])
  revert hS2
  clear hS hbc
  generalize W2 = V
  intro hS
  refine wpAnyH_take (i := 10) (oi := { dst := some 81, op := .binOp .add 9 (.tmp 77) (.tmp 80) 9, type := _, pos := _, after := _, guard := none }) (v := .string (f1 ++ f2 ++ f3)) rfl (by kernel_rfl) (by kernel_rfl) (by kernel_rfl) (fun _ _ _ h => h) (Or.inl ⟨by rfl, by intro x _; go_simp⟩) hS ?_
  (try simp only [Act.put, List.setIfInBounds_toArray, List.set_cons_zero, List.set_cons_succ])
  refine wpAnyH_ready (rs := [13]) (by kernel_rfl) (by simp) ?_
  refine AllReadyH.cons (o := { dst := some 84, op := .call { callee := .value (.func 21), args := #[.tmp 83], argTypes := #[3] }, type := _, pos := _, after := _, guard := none }) rfl (fun K hK => ?_) AllReadyH.nil
  go_simp
  refine (he2 V).mono ?_
  rintro e W2 ⟨rfl, hbc⟩
  have hS2 := hS.trans (hbc.mono hS.size)
  refine hK.out _ _ hS2 (fun _ => ?_)
  clear hK K
  (try simp only [Act.put, List.setIfInBounds_toArray, List.set_cons_zero, List.set_cons_succ])
  revert hS2
  clear hS hbc
  generalize W2 = V
  intro hS
  refine wpAnyH_take (i := 14) (oi := { dst := some 85, op := .binOp .add 9 (.tmp 81) (.tmp 84) 9, type := _, pos := _, after := _, guard := none }) (v := .string (f1 ++ f2 ++ f3 ++ f4)) rfl (by kernel_rfl) (by kernel_rfl) (by kernel_rfl) (fun _ _ _ h => h) (Or.inl ⟨by rfl, by intro x _; go_simp⟩) hS ?_
  (try simp only [Act.put, List.setIfInBounds_toArray, List.set_cons_zero, List.set_cons_succ])
  refine wpAnyH_ready (rs := [15]) (by kernel_rfl) (by simp) ?_
  refine AllReadyH.cons (o := { dst := some 86, op := .call { callee := .value (.func 19), args := #[.tmp 72, .tmp 85], argTypes := #[9, 9] }, type := _, pos := _, after := _, guard := none }) rfl (fun K hK => ?_) AllReadyH.nil
  go_simp
  refine (htg V (HTT.out V hS)).mono ?_
  rintro e W2 ⟨rfl, hbc⟩
  have hS2 := hS.trans (hbc.mono hS.size)
  refine hK.out _ _ hS2 (fun _ => ?_)
  clear hK K
  (try simp only [Act.put, List.setIfInBounds_toArray, List.set_cons_zero, List.set_cons_succ])
  revert hS2
  clear hS hbc
  generalize W2 = V
  intro hS
  refine wpAnyH_take (i := 16) (oi := { dst := some 70, op := .move (.tmp 86), type := _, pos := _, after := _, guard := none }) (v := .tuple #[.string yt, .int .i64 0]) rfl (by kernel_rfl) (by kernel_rfl) (by kernel_rfl) (fun _ _ _ h => h) (Or.inl ⟨by rfl, by intro x _; go_simp⟩) hS ?_
  (try simp only [Act.put, List.setIfInBounds_toArray, List.set_cons_zero, List.set_cons_succ])
  refine wpAnyH_take (i := 17) (oi := { dst := some 87, op := .extract (.tmp 70) 0, type := _, pos := _, after := _, guard := none }) (v := .string yt) rfl (by kernel_rfl) (by kernel_rfl) (by kernel_rfl) (fun _ _ _ h => h) (Or.inl ⟨by rfl, by intro x _; go_simp⟩) hS ?_
  (try simp only [Act.put, List.setIfInBounds_toArray, List.set_cons_zero, List.set_cons_succ])
  refine wpAnyH_take (i := 18) (oi := { dst := some 88, op := .extract (.tmp 70) 1, type := _, pos := _, after := _, guard := none }) (v := .int .i64 0) rfl (by kernel_rfl) (by kernel_rfl) (by kernel_rfl) (fun _ _ _ h => h) (Or.inl ⟨by rfl, by intro x _; go_simp⟩) hS ?_
  (try simp only [Act.put, List.setIfInBounds_toArray, List.set_cons_zero, List.set_cons_succ])
  refine wpAnyH_take (i := 19) (oi := { dst := some 17, op := .assign (.tmp 87), type := _, pos := _, after := _, guard := none }) (v := .string yt) rfl (by kernel_rfl) (by kernel_rfl) (by kernel_rfl) (fun _ _ _ h => h) (Or.inl ⟨by rfl, by intro x _; go_simp⟩) hS ?_
  (try simp only [Act.put, List.setIfInBounds_toArray, List.set_cons_zero, List.set_cons_succ])
  refine wpAnyH_take (i := 20) (oi := { dst := some 18, op := .assign (.tmp 88), type := _, pos := _, after := _, guard := none }) (v := .int .i64 0) rfl (by kernel_rfl) (by kernel_rfl) (by kernel_rfl) (fun _ _ _ h => h) (Or.inl ⟨by rfl, by intro x _; go_simp⟩) hS ?_
  (try simp only [Act.put, List.setIfInBounds_toArray, List.set_cons_zero, List.set_cons_succ])
  refine wpAnyH_done (by kernel_rfl) ?_ _
  go_wp2_with (go_at_call 11; refine (lnum_any _ _).mono ?_; rintro e w' ⟨rfl, rfl⟩)
  go_ret
  exact ⟨rfl, hS⟩
  -- END

end Go.Proofs.YtebhmebldemndaaDoor.Ae
