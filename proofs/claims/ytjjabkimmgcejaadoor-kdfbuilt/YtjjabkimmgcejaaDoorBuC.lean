import Derived.Test.YtjjabkimmgcejaaDoorBuB
import Derived.Test.YtjjabkimmgcejaaDoorExtA
namespace Go.Proofs.YtjjabkimmgcejaaDoor
open Go.RowKit Go.Lib

theorem str_extract (l : List UInt8) (a b : Nat) : (str l).extract a b = str ((l.drop a).take (b - a)) := by
  apply ByteArray.ext
  apply Array.ext'
  rw [extract_data, str_data, str_data]
theorem expL_mul (k t : List UInt8) (j : Nat) : expL k t (32 * j) = expAll k t j := by
  rw [expL, show (32 * j + 31) / 32 = j by omega]
  exact List.take_of_length_le (by rw [expAll_length]; omega)
theorem pasL_mul (k t : List UInt8) (R j : Nat) : pasL k t R (32 * j) = pasAll k t R j := by
  rw [pasL, show (32 * j + 31) / 32 = j by omega]
  exact List.take_of_length_le (by rw [pasAll_length]; omega)
theorem pasL_len (k t : List UInt8) (R n : Nat) : (pasL k t R n).length = n := by
  rw [pasL, List.length_take, pasAll_length]
  omega
theorem exp_tail (k t : List UInt8) (i p1 N : Nat) (h : 1 ≤ i) (hp : p1 = 32 * (i - 1)) (hN : N = 32 * i) : (str (expL k t N)).extract p1 N = str (expLast k t i) := by
  obtain ⟨j, rfl⟩ : ∃ j, i = j + 1 := ⟨i - 1, by omega⟩
  obtain rfl : p1 = 32 * j := by omega
  subst hN
  rw [str_extract, expL_mul, expAll, List.drop_left' (expAll_length k t j), List.take_of_length_le (by have := expLast_le k t (j + 1); omega)]
theorem exp_ahead (k t : List UInt8) (i p1 p2 N : Nat) (h : 2 ≤ i) (hp : p1 = 32 * (i - 1)) (hp2 : p2 = 32 * (i - 2)) (hN : N = 32 * i) : (str (expL k t N)).extract p2 p1 = str (expLast k t (i - 1)) := by
  obtain ⟨j, rfl⟩ : ∃ j, i = j + 2 := ⟨i - 2, by omega⟩
  obtain rfl : p1 = 32 * (j + 1) := by omega
  obtain rfl : p2 = 32 * j := by omega
  subst hN
  rw [str_extract, expL_mul, expAll, List.drop_append_of_le_length (by rw [expAll_length]; omega), expAll, List.drop_left' (expAll_length k t j), List.take_left' (by rw [expLast, hmacL_length]; omega)]
  rfl
theorem pas_tail (k t : List UInt8) (R i p1 N : Nat) (h : 1 ≤ i) (hp : p1 = 32 * (i - 1)) (hN : N = 32 * i) : (str (pasL k t R N)).extract p1 N = str (pasF k (t ++ [0, 0, 0, UInt8.ofNat i]) R) := by
  obtain ⟨j, rfl⟩ : ∃ j, i = j + 1 := ⟨i - 1, by omega⟩
  obtain rfl : p1 = 32 * j := by omega
  subst hN
  rw [str_extract, pasL_mul, pasAll, List.drop_left' (pasAll_length k t R j), List.take_of_length_le (by rw [pasF_length]; omega)]
theorem exp_step (k t : List UInt8) (i : Nat) (h : 1 ≤ i) : expLast k t i = hmacL k (expLast k t (i - 1) ++ (t ++ [UInt8.ofNat i])) := by
  obtain ⟨j, rfl⟩ : ∃ j, i = j + 1 := ⟨i - 1, by omega⟩
  rfl

set_option maxRecDepth 40000 in
set_option maxHeartbeats 4000000 in
theorem kdfBuilt_walk (key text : ByteArray) (att rounds : Int) (w : World) (b0 : key.size ≤ 140737488351232) (b1 : text.size ≤ 140737488351232) (ht : Tabs w) (h4 : 4 ≤ w.heap.size) :
    Calls Tryd.prog 6 #[.string key, .string text, .int .i64 att, .int .i64 rounds] w fun e w' => e = .returned (.bool true) ∧ Below w.heap.size w w' := by
  have HT : Hid (∀ W, Below w.heap.size w W → Tabs W ∧ 4 ≤ W.heap.size) := fun W h => ⟨ht.below h (by omega), by have := h.size; omega⟩
  have c1 := lkeyed_any key text b0 (by omega) w ht h4
  have c2 := fun W hT h4 => hmac_one key text (by omega) (by omega) W hT h4
  have c3 := fun W hT h4 => kextract_any key text b0 b1 W hT h4
  have sh : (str (hmacL key.data.toList text.data.toList)).size = 32 := by rw [str_size, hmacL_length]
  clear ht
  revert c1 c2 c3 sh
  generalize str (hmacL key.data.toList text.data.toList) = yh
  intro c1 c2 c3 sh
  go_enter Tryd.func6, Tryd.ntmps6
  go_wp2_with fail
  refine c1.mono ?_
  rintro e w1 ⟨rfl, hb1⟩
  clear c1
  go_wp2_with fail
  refine (c2 w1 (HT.out w1 hb1).1 (HT.out w1 hb1).2).mono ?_
  rintro e w2 ⟨rfl, hb2'⟩
  have hb2 := hb1.trans (hb2'.mono hb1.size)
  clear hb1 hb2' c2
  go_wp2_with fail
  refine (c3 w2 (HT.out w2 hb2).1 (HT.out w2 hb2).2).mono ?_
  rintro e w3 ⟨rfl, hb3'⟩
  have hb3 := hb2.trans (hb3'.mono hb2.size)
  clear hb2 hb3' c3 sh
  go_wp2_with fail
  refine (clipped_any att 1 16 (by omega) (by omega) w3).mono ?_
  rintro e w' ⟨⟨i, rfl, hi1, hi2⟩, rfl⟩
  obtain ⟨a1, ha1⟩ : ∃ a, i - 1 = a := ⟨_, rfl⟩
  obtain ⟨p1, hp1⟩ : ∃ p, 32 * (i - 1) = p := ⟨_, rfl⟩
  obtain ⟨N, hN⟩ : ∃ N, 32 * i = N := ⟨_, rfl⟩
  have HN : Hid (1 ≤ i ∧ p1 = 32 * (i - 1) ∧ N = 32 * i) := ⟨hi1, hp1.symm, hN.symm⟩
  have vN : IntKind.i64.wrap (32 * (i : Int)) = (N : Int) := by rw [IntKind.wrap_i64]; omega
  have va1 : IntKind.i64.wrap ((i : Int) - 1) = (a1 : Int) := by rw [IntKind.wrap_i64]; omega
  have vp1 : IntKind.i64.wrap (32 * (a1 : Int)) = (p1 : Int) := by rw [IntKind.wrap_i64]; omega
  have hpN : (p1 : Int) ≤ (N : Int) := by omega
  have hN512 : N ≤ 512 := by omega
  have vu8 : IntKind.u8.wrap (i : Int) = (i : Int) := by rw [IntKind.wrap_u8]; omega
  have hi256 : (i : Int) % 256 = (i : Int) := by omega
  have kE := kexpand_any key text (N : Int) b0 b1 (by omega) (by omega)
  rw [Int.toNat_natCast] at kE
  have sE : (str (expL key.data.toList text.data.toList N)).size = N := by rw [str_size, expL_length]
  have x1 := exp_tail key.data.toList text.data.toList i p1 N hi1 hp1.symm hN.symm
  obtain ⟨yb, hyb⟩ : ∃ y, str [UInt8.ofNat i] = y := ⟨_, rfl⟩
  obtain ⟨yb4, hyb4⟩ : ∃ y, str [0, 0, 0, UInt8.ofNat i] = y := ⟨_, rfl⟩
  have sb : yb.size = 1 := by rw [← hyb, str_size]; rfl
  have sb4 : yb4.size = 4 := by rw [← hyb4, str_size]; rfl
  obtain ⟨F0, hF0⟩ : ∃ F, text.data.toList ++ [0, 0, 0, UInt8.ofNat i] = F := ⟨_, rfl⟩
  have HF : Hid (F0 = text.data.toList ++ [0, 0, 0, UInt8.ofNat i]) := hF0.symm
  obtain ⟨td, htd⟩ : ∃ t, text ++ yb4 = t := ⟨_, rfl⟩
  have a3 : text.size + yb4.size ≤ 9223372036854775807 := by omega
  have HK4 : Hid (∀ W, Below w.heap.size w W → Calls Tryd.prog 21 #[.string key, .string td] W fun e w' => e = .returned (.string (str (pasU key.data.toList F0 0))) ∧ Below W.heap.size W w') := fun W h => by
    have hd : td.data.toList = F0 := by rw [← htd, ← hyb4, ByteArray.data_append, Array.toList_append, str_data, hF0]
    have hs : td.size ≤ 281474976710656 := by rw [← htd, ByteArray.size_append]; omega
    have hh := lkeyed_any key td b0 hs W (HT.out W h).1 (HT.out W h).2
    rw [hd] at hh
    exact hh
  have HU : Hid (∀ r W, Below w.heap.size w W → Calls Tryd.prog 21 #[.string key, .string (str (pasU key.data.toList F0 r))] W fun e w' => e = .returned (.string (str (pasU key.data.toList F0 (r + 1)))) ∧ Below W.heap.size W w') := fun r W h => by
    have hh := lkeyed_any key (str (pasU key.data.toList F0 r)) b0 (by rw [str_size, pasU_length]; omega) W (HT.out W h).1 (HT.out W h).2
    rw [str_data] at hh
    exact hh
  have HX : Hid (∀ r W, Calls Tryd.prog 23 #[.string (str (pasF key.data.toList F0 r)), .string (str (pasU key.data.toList F0 (r + 1)))] W fun e w' => e = .returned (.string (str (pasF key.data.toList F0 (r + 1)))) ∧ Below W.heap.size W w') := fun r W => by
    have h := lxored_any (str (pasF key.data.toList F0 r)) (str (pasU key.data.toList F0 (r + 1))) (by rw [str_size, pasF_length]) (by rw [str_size, pasU_length]) W
    rw [str_data, str_data] at h
    exact h
  have HF0' : Hid (str (pasU key.data.toList F0 0) = str (pasU key.data.toList F0 0) ∧ str (pasU key.data.toList F0 0) = str (pasF key.data.toList F0 0)) := ⟨rfl, rfl⟩
  obtain ⟨y0, hy0⟩ : ∃ y, str (pasU key.data.toList F0 0) = y := ⟨_, rfl⟩
  have HF0 : Hid (y0 = str (pasU key.data.toList F0 0) ∧ y0 = str (pasF key.data.toList F0 0)) := ⟨hy0.symm, hy0.symm⟩
  rw [hy0] at HK4
  clear hy0 hF0 HF0'
  have HAH : ∀ ah : ByteArray, ah.data.toList = expLast key.data.toList text.data.toList (i - 1) → ∀ ta tb, ah ++ text = ta → ta ++ yb = tb → ∀ W, Below w.heap.size w W → Calls Tryd.prog 21 #[.string key, .string tb] W fun e w' => e = .returned (.string (str (expLast key.data.toList text.data.toList i))) ∧ Below W.heap.size W w' := fun ah hah ta tb hta htb W h => by
    have hd : tb.data.toList = expLast key.data.toList text.data.toList (i - 1) ++ (text.data.toList ++ [UInt8.ofNat i]) := by rw [← htb, ← hta, ← hyb, ByteArray.data_append, Array.toList_append, ByteArray.data_append, Array.toList_append, str_data, hah, List.append_assoc]
    have hs : tb.size ≤ 281474976710656 := by
      have := expLast_le key.data.toList text.data.toList (i - 1)
      rw [size_eq, hd, List.length_append, List.length_append, ← size_eq]
      simp only [List.length_cons, List.length_nil]
      omega
    have hh := lkeyed_any key tb b0 hs W (HT.out W h).1 (HT.out W h).2
    rw [hd, ← exp_step _ _ _ hi1] at hh
    exact hh
  by_cases hgt : 1 < i
  · have hgI : (1 : Int) < (i : Int) := by omega
    obtain ⟨a2, ha2⟩ : ∃ a, i - 2 = a := ⟨_, rfl⟩
    obtain ⟨p2, hp2⟩ : ∃ p, 32 * (i - 2) = p := ⟨_, rfl⟩
    have va2 : IntKind.i64.wrap ((i : Int) - 2) = (a2 : Int) := by rw [IntKind.wrap_i64]; omega
    have vp2 : IntKind.i64.wrap (32 * (a2 : Int)) = (p2 : Int) := by rw [IntKind.wrap_i64]; omega
    have hp21 : (p2 : Int) ≤ (p1 : Int) := by omega
    have x2 := exp_ahead key.data.toList text.data.toList i p1 p2 N (by omega) hp1.symm hp2.symm hN.symm
    obtain ⟨ah, hah⟩ : ∃ a, str (expLast key.data.toList text.data.toList (i - 1)) = a := ⟨_, rfl⟩
    have hahd : ah.data.toList = expLast key.data.toList text.data.toList (i - 1) := by rw [← hah, str_data]
    rw [hah] at x2
    clear hah ha2 hp2
    have sah : ah.size ≤ 32 := by rw [size_eq, hahd]; exact expLast_le _ _ _
    obtain ⟨ta, hta⟩ : ∃ t, ah ++ text = t := ⟨_, rfl⟩
    obtain ⟨tb, htb⟩ : ∃ t, ta ++ yb = t := ⟨_, rfl⟩
    have HK2 : Hid (∀ W, Below w.heap.size w W → Calls Tryd.prog 21 #[.string key, .string tb] W fun e w' => e = .returned (.string (str (expLast key.data.toList text.data.toList i))) ∧ Below W.heap.size W w') := HAH ah hahd ta tb hta htb
    have sta : ta.size = ah.size + text.size := by rw [← hta, ByteArray.size_append]
    have aa1 : ah.size + text.size ≤ 9223372036854775807 := by omega
    have aa2 : ta.size + yb.size ≤ 9223372036854775807 := by omega
    clear HAH hahd sah ha1 hp1 hN sb sb4 sta
    revert kE sE x1 x2 HK2
    generalize str (expL key.data.toList text.data.toList N) = yE
    generalize str (expLast key.data.toList text.data.toList i) = yL
    intro kE sE x1 x2 HK2
    go_wp2_with fail
    refine (kE w3 (HT.out w3 hb3).1 (HT.out w3 hb3).2).mono ?_
    rintro e w4 ⟨rfl, hb4'⟩
    have hb4 := hb3.trans (hb4'.mono hb3.size)
    clear hb3 hb4' kE
    go_wp2_with fail
    refine (num3_any _ _).mono ?_
    rintro e w' ⟨rfl, rfl⟩
    go_upto_region 11 with fail
    refine wp_region_held_drew (S := fun _ => True) (by kernel_rfl) trivial ?_
    intro _
    have hbV := hb4.drew
    clear hb4
    revert hbV
    generalize World.drew _ = V0
    intro hbV
    have hob := one_byte i V0
    rw [hi256, hyb] at hob
    refine wpAnyH_take (i := 0) (oi := { dst := some 71, op := .move (.tmp 11), type := _, pos := _, after := _, guard := none }) (v := .string yE) rfl (by kernel_rfl) (by kernel_rfl) (by kernel_rfl) (fun _ _ _ h => h) (Or.inl ⟨by rfl, by intro x _; go_simp⟩) trivial ?_
    (try simp only [Act.put, List.setIfInBounds_toArray, List.set_cons_zero, List.set_cons_succ])
    refine wpAnyH_take (i := 1) (oi := { dst := some 72, op := .move (.tmp 10), type := _, pos := _, after := _, guard := none }) (v := .int .i64 (i : Int)) rfl (by kernel_rfl) (by kernel_rfl) (by kernel_rfl) (fun _ _ _ h => h) (Or.inl ⟨by rfl, by intro x _; go_simp⟩) trivial ?_
    (try simp only [Act.put, List.setIfInBounds_toArray, List.set_cons_zero, List.set_cons_succ])
    refine wpAnyH_take (i := 2) (oi := { dst := some 73, op := .binOp .sub 3 (.tmp 72) (.const (.int .i64 1)) 3, type := _, pos := _, after := _, guard := none }) (v := .int .i64 (a1 : Int)) rfl (by kernel_rfl) (by kernel_rfl) (by kernel_rfl) (fun _ _ _ h => h) (Or.inl ⟨by rfl, by intro x _; go_simp⟩) trivial ?_
    (try simp only [Act.put, List.setIfInBounds_toArray, List.set_cons_zero, List.set_cons_succ])
    refine wpAnyH_take (i := 3) (oi := { dst := some 74, op := .binOp .mul 3 (.const (.int .i64 32)) (.tmp 73) 3, type := _, pos := _, after := _, guard := none }) (v := .int .i64 (p1 : Int)) rfl (by kernel_rfl) (by kernel_rfl) (by kernel_rfl) (fun _ _ _ h => h) (Or.inl ⟨by rfl, by intro x _; go_simp⟩) trivial ?_
    (try simp only [Act.put, List.setIfInBounds_toArray, List.set_cons_zero, List.set_cons_succ])
    refine wpAnyH_take (i := 4) (oi := { dst := some 75, op := .slice 9 (.tmp 71) (some (.tmp 74)) none none, type := _, pos := _, after := _, guard := none }) (v := .string yL) rfl (by kernel_rfl) (by kernel_rfl) (by kernel_rfl) (fun _ _ _ h => h) (Or.inl ⟨by rfl, by intro x _; go_simp⟩) trivial ?_
    (try simp only [Act.put, List.setIfInBounds_toArray, List.set_cons_zero, List.set_cons_succ])
    refine wpAnyH_take (i := 5) (oi := { dst := some 76, op := .move (.tmp 0), type := _, pos := _, after := _, guard := none }) (v := .string key) rfl (by kernel_rfl) (by kernel_rfl) (by kernel_rfl) (fun _ _ _ h => h) (Or.inl ⟨by rfl, by intro x _; go_simp⟩) trivial ?_
    (try simp only [Act.put, List.setIfInBounds_toArray, List.set_cons_zero, List.set_cons_succ])
    refine wpAnyH_take (i := 6) (oi := { dst := some 77, op := .move (.tmp 13), type := _, pos := _, after := _, guard := none }) (v := .string ah) rfl (by kernel_rfl) (by kernel_rfl) (by kernel_rfl) (fun _ _ _ h => h) (Or.inl ⟨by rfl, by intro x _; go_simp⟩) trivial ?_
    (try simp only [Act.put, List.setIfInBounds_toArray, List.set_cons_zero, List.set_cons_succ])
    refine wpAnyH_take (i := 7) (oi := { dst := some 78, op := .move (.tmp 1), type := _, pos := _, after := _, guard := none }) (v := .string text) rfl (by kernel_rfl) (by kernel_rfl) (by kernel_rfl) (fun _ _ _ h => h) (Or.inl ⟨by rfl, by intro x _; go_simp⟩) trivial ?_
    (try simp only [Act.put, List.setIfInBounds_toArray, List.set_cons_zero, List.set_cons_succ])
    refine wpAnyH_take (i := 8) (oi := { dst := some 79, op := .binOp .add 9 (.tmp 77) (.tmp 78) 9, type := _, pos := _, after := _, guard := none }) (v := .string ta) rfl (by kernel_rfl) (by kernel_rfl) (by kernel_rfl) (fun _ _ _ h => h) (Or.inl ⟨by rfl, by intro x _; go_simp⟩) trivial ?_
    (try simp only [Act.put, List.setIfInBounds_toArray, List.set_cons_zero, List.set_cons_succ])
    refine wpAnyH_take (i := 9) (oi := { dst := some 80, op := .move (.tmp 10), type := _, pos := _, after := _, guard := none }) (v := .int .i64 (i : Int)) rfl (by kernel_rfl) (by kernel_rfl) (by kernel_rfl) (fun _ _ _ h => h) (Or.inl ⟨by rfl, by intro x _; go_simp⟩) trivial ?_
    (try simp only [Act.put, List.setIfInBounds_toArray, List.set_cons_zero, List.set_cons_succ])
    refine wpAnyH_take (i := 10) (oi := { dst := some 81, op := .convert 3 5 (.tmp 80), type := _, pos := _, after := _, guard := none }) (v := .int .u8 (i : Int)) rfl (by kernel_rfl) (by kernel_rfl) (by kernel_rfl) (fun _ _ _ h => h) (Or.inl ⟨by rfl, by intro x _; go_simp⟩) trivial ?_
    (try simp only [Act.put, List.setIfInBounds_toArray, List.set_cons_zero, List.set_cons_succ])
    refine wpAnyH_ready (rs := [11]) (by kernel_rfl) (by simp) ?_
    refine AllReadyH.cons (o := { dst := some 82, op := .buildSlice 42 1 #[(0, .tmp 81)], type := _, pos := _, after := _, guard := none }) rfl (fun K hK => ?_) AllReadyH.nil
    go_simp
    refine hK.out _ _ trivial (fun _ => ?_)
    clear hK K
    (try simp only [Act.put, List.setIfInBounds_toArray, List.set_cons_zero, List.set_cons_succ])
    refine wpAnyH_ready (rs := [12]) (by kernel_rfl) (by simp) ?_
    refine AllReadyH.cons (o := { dst := some 83, op := .convert 42 9 (.tmp 82), type := _, pos := _, after := _, guard := none }) rfl (fun K hK => ?_) AllReadyH.nil
    go_simp
    refine hK.out _ _ trivial (fun _ => ?_)
    clear hK K
    (try simp only [Act.put, List.setIfInBounds_toArray, List.set_cons_zero, List.set_cons_succ])
    refine wpAnyH_take (i := 13) (oi := { dst := some 84, op := .binOp .add 9 (.tmp 79) (.tmp 83) 9, type := _, pos := _, after := _, guard := none }) (v := .string tb) rfl (by kernel_rfl) (by kernel_rfl) (by kernel_rfl) (fun _ _ _ h => h) (Or.inl ⟨by rfl, by intro x _; go_simp⟩) trivial ?_
    (try simp only [Act.put, List.setIfInBounds_toArray, List.set_cons_zero, List.set_cons_succ])
    refine wpAnyH_ready (rs := [14]) (by kernel_rfl) (by simp) ?_
    refine AllReadyH.cons (o := { dst := some 85, op := .call { callee := .value (.func 21), args := #[.tmp 76, .tmp 84], argTypes := #[9, 9] }, type := _, pos := _, after := _, guard := none }) rfl (fun K hK => ?_) AllReadyH.nil
    go_simp
    refine (HK2.out _ (hbV.alloc hbV.size _)).mono ?_
    rintro e w5 ⟨rfl, hb5'⟩
    have hb5 := (hbV.alloc hbV.size _).trans (hb5'.mono (hbV.alloc hbV.size _).size)
    refine hK.out _ _ trivial (fun _ => ?_)
    clear hK K hb5'
    (try simp only [Act.put, List.setIfInBounds_toArray, List.set_cons_zero, List.set_cons_succ])
    refine wpAnyH_take (i := 15) (oi := { dst := some 86, op := .binOp .neq 9 (.tmp 75) (.tmp 85) 9, type := _, pos := _, after := _, guard := none }) (v := .bool false) rfl (by kernel_rfl) (by kernel_rfl) (by kernel_rfl) (fun _ _ _ h => h) (Or.inl ⟨by rfl, by intro x _; go_simp⟩) trivial ?_
    (try simp only [Act.put, List.setIfInBounds_toArray, List.set_cons_zero, List.set_cons_succ])
    refine wpAnyH_done (by kernel_rfl) ?_ _
    clear hob hbV HK2
    go_wp2_with fail
    refine (clipped_any rounds 1 40 (by omega) (by omega) w5).mono ?_
    rintro e w' ⟨⟨r, rfl, hr1, hr2⟩, rfl⟩
    obtain ⟨R, rfl⟩ : ∃ R, r = R + 1 := ⟨r - 1, by omega⟩
    have hrI : ((R + 1 : Nat) : Int) = (R : Int) + 1 := by omega
    have kP := kpbkdf_any key text ((R : Int) + 1) (N : Int) b0 b1 (by omega) (by omega) (by omega) (by omega)
    rw [Int.toNat_natCast, show ((R : Int) + 1).toNat - 1 = R by omega] at kP
    have sP : (str (pasL key.data.toList text.data.toList R N)).size = N := by rw [str_size, pasL_len]
    have HX3 : Hid ((str (pasL key.data.toList text.data.toList R N)).extract p1 N = str (pasF key.data.toList F0 R)) := by
      show _ = _
      rw [HF.out]
      exact pas_tail _ _ R i p1 N HN.out.1 HN.out.2.1 HN.out.2.2
    revert kP sP HX3
    generalize str (pasL key.data.toList text.data.toList R N) = yP
    intro kP sP HX3
    rw [hrI]
    clear hrI
    go_wp2_with fail
    refine (kP w5 (HT.out w5 hb5).1 (HT.out w5 hb5).2).mono ?_
    rintro e w6 ⟨rfl, hb6'⟩
    have hb6 := hb5.trans (hb6'.mono hb5.size)
    clear hb5 hb6' kP
    go_wp2_with fail
    refine (num3_any _ _).mono ?_
    rintro e w' ⟨rfl, rfl⟩
    have hob4 := four_bytes i w6
    rw [hi256, hyb4] at hob4
    have hk4 := HK4.out (w6.alloc (.cells #[.int .u8 0, .int .u8 0, .int .u8 0, .int .u8 (i : Int)] 5)) (hb6.alloc hb6.size _)
    go_wp2_with fail
    refine hk4.mono ?_
    rintro e w7 ⟨rfl, hb7'⟩
    have hb7 := (hb6.alloc hb6.size _).trans (hb7'.mono (hb6.alloc hb6.size _).size)
    clear hob4 hk4 hb6 hb7' HK4
    go_wp2
    go_loopg [17, 18, 19] R (fun gj u f i wr => ∃ r : Nat, r + gj = R ∧ i = .int .i64 ((r : Int) + 1) ∧ u = .string (str (pasU key.data.toList F0 r)) ∧ f = .string (str (pasF key.data.toList F0 r)) ∧ Below w.heap.size w wr)
    case atStart => exact ⟨0, by omega, rfl, by rw [HF0.out.1], by rw [HF0.out.2], hb7⟩
    case round =>
      clear hb7 HF0
      obtain ⟨r, hrr, rfl, rfl, rfl, hbel⟩ := hrel
      have HRR : Hid (r + gk = R) := hrr
      have hr' : r ≤ R := by omega
      clear hrr
      have zz := hbel.size
      by_cases hlt : r < R
      · have hltI : (r : Int) + 1 < (R : Int) + 1 := by omega
        have hu := HU.out r wr hbel
        have hx := HX.out r
        revert hu hx
        obtain ⟨yF', hF'⟩ : ∃ y, str (pasF key.data.toList F0 (r + 1)) = y := ⟨_, rfl⟩
        obtain ⟨yU', hU'⟩ : ∃ y, str (pasU key.data.toList F0 (r + 1)) = y := ⟨_, rfl⟩
        have HF' : Hid (str (pasF key.data.toList F0 (r + 1)) = yF') := hF'
        have HU' : Hid (str (pasU key.data.toList F0 (r + 1)) = yU') := hU'
        rw [hF', hU']
        clear hF' hU'
        generalize str (pasF key.data.toList F0 r) = yF
        generalize str (pasU key.data.toList F0 r) = yU
        intro hu hx
        have w1 : IntKind.i64.wrap ((r : Int) + 1 + 1) = (r : Int) + 1 + 1 := by rw [IntKind.wrap_i64]; omega
        go_wp2_with fail
        refine hu.mono ?_
        rintro e w8 ⟨rfl, hb8'⟩
        have hb8 := hbel.trans (hb8'.mono zz)
        clear hb8' hbel hu
        have z8 := hb8.size
        go_wp2_with fail
        refine (hx w8).mono ?_
        rintro e w9 ⟨rfl, hb9'⟩
        have hb9 := hb8.trans (hb9'.mono z8)
        clear hb9' hb8 hx
        go_wp2
        go_roundg (gk - 1)
        case measure => have := HRR.out; omega
        case rel => exact ⟨r + 1, by have := HRR.out; omega, by go_num, by rw [HU'.out], by rw [HF'.out], hb9⟩
      · obtain rfl : r = R := by omega
        have hltI : ¬ (r : Int) + 1 < (r : Int) + 1 := by omega
        have x3 := HX3.out
        clear HX3 HU HX
        revert x3
        generalize str (pasF key.data.toList F0 r) = yF
        generalize str (pasU key.data.toList F0 r) = yU
        intro x3
        go_wp2
        go_ret
        exact ⟨rfl, hbel⟩
  · have hgI : ¬ (1 : Int) < (i : Int) := by omega
    obtain ⟨ah, hah⟩ : ∃ a : ByteArray, ({ data := #[] } : ByteArray) = a := ⟨_, rfl⟩
    have hahd : ah.data.toList = expLast key.data.toList text.data.toList (i - 1) := by rw [← hah, show i - 1 = 0 by omega]; rfl
    have HAE : Hid (({ data := #[] } : ByteArray) = ah) := hah
    clear hah
    have sah : ah.size ≤ 32 := by rw [size_eq, hahd]; exact expLast_le _ _ _
    obtain ⟨ta, hta⟩ : ∃ t, ah ++ text = t := ⟨_, rfl⟩
    obtain ⟨tb, htb⟩ : ∃ t, ta ++ yb = t := ⟨_, rfl⟩
    have HK2 : Hid (∀ W, Below w.heap.size w W → Calls Tryd.prog 21 #[.string key, .string tb] W fun e w' => e = .returned (.string (str (expLast key.data.toList text.data.toList i))) ∧ Below W.heap.size W w') := HAH ah hahd ta tb hta htb
    have sta : ta.size = ah.size + text.size := by rw [← hta, ByteArray.size_append]
    have aa1 : ah.size + text.size ≤ 9223372036854775807 := by omega
    have aa2 : ta.size + yb.size ≤ 9223372036854775807 := by omega
    clear HAH hahd sah ha1 hp1 hN sb sb4 sta
    revert kE sE x1 HK2
    generalize str (expL key.data.toList text.data.toList N) = yE
    generalize str (expLast key.data.toList text.data.toList i) = yL
    intro kE sE x1 HK2
    go_wp2_with fail
    refine (kE w3 (HT.out w3 hb3).1 (HT.out w3 hb3).2).mono ?_
    rintro e w4 ⟨rfl, hb4'⟩
    have hb4 := hb3.trans (hb4'.mono hb3.size)
    clear hb3 hb4' kE
    go_wp2_with fail
    refine (num3_any _ _).mono ?_
    rintro e w' ⟨rfl, rfl⟩
    go_upto_region 11 with fail
    rw [HAE.out]
    refine wp_region_held_drew (S := fun _ => True) (by kernel_rfl) trivial ?_
    intro _
    have hbV := hb4.drew
    clear hb4
    revert hbV
    generalize World.drew _ = V0
    intro hbV
    have hob := one_byte i V0
    rw [hi256, hyb] at hob
    refine wpAnyH_take (i := 0) (oi := { dst := some 71, op := .move (.tmp 11), type := _, pos := _, after := _, guard := none }) (v := .string yE) rfl (by kernel_rfl) (by kernel_rfl) (by kernel_rfl) (fun _ _ _ h => h) (Or.inl ⟨by rfl, by intro x _; go_simp⟩) trivial ?_
    (try simp only [Act.put, List.setIfInBounds_toArray, List.set_cons_zero, List.set_cons_succ])
    refine wpAnyH_take (i := 1) (oi := { dst := some 72, op := .move (.tmp 10), type := _, pos := _, after := _, guard := none }) (v := .int .i64 (i : Int)) rfl (by kernel_rfl) (by kernel_rfl) (by kernel_rfl) (fun _ _ _ h => h) (Or.inl ⟨by rfl, by intro x _; go_simp⟩) trivial ?_
    (try simp only [Act.put, List.setIfInBounds_toArray, List.set_cons_zero, List.set_cons_succ])
    refine wpAnyH_take (i := 2) (oi := { dst := some 73, op := .binOp .sub 3 (.tmp 72) (.const (.int .i64 1)) 3, type := _, pos := _, after := _, guard := none }) (v := .int .i64 (a1 : Int)) rfl (by kernel_rfl) (by kernel_rfl) (by kernel_rfl) (fun _ _ _ h => h) (Or.inl ⟨by rfl, by intro x _; go_simp⟩) trivial ?_
    (try simp only [Act.put, List.setIfInBounds_toArray, List.set_cons_zero, List.set_cons_succ])
    refine wpAnyH_take (i := 3) (oi := { dst := some 74, op := .binOp .mul 3 (.const (.int .i64 32)) (.tmp 73) 3, type := _, pos := _, after := _, guard := none }) (v := .int .i64 (p1 : Int)) rfl (by kernel_rfl) (by kernel_rfl) (by kernel_rfl) (fun _ _ _ h => h) (Or.inl ⟨by rfl, by intro x _; go_simp⟩) trivial ?_
    (try simp only [Act.put, List.setIfInBounds_toArray, List.set_cons_zero, List.set_cons_succ])
    refine wpAnyH_take (i := 4) (oi := { dst := some 75, op := .slice 9 (.tmp 71) (some (.tmp 74)) none none, type := _, pos := _, after := _, guard := none }) (v := .string yL) rfl (by kernel_rfl) (by kernel_rfl) (by kernel_rfl) (fun _ _ _ h => h) (Or.inl ⟨by rfl, by intro x _; go_simp⟩) trivial ?_
    (try simp only [Act.put, List.setIfInBounds_toArray, List.set_cons_zero, List.set_cons_succ])
    refine wpAnyH_take (i := 5) (oi := { dst := some 76, op := .move (.tmp 0), type := _, pos := _, after := _, guard := none }) (v := .string key) rfl (by kernel_rfl) (by kernel_rfl) (by kernel_rfl) (fun _ _ _ h => h) (Or.inl ⟨by rfl, by intro x _; go_simp⟩) trivial ?_
    (try simp only [Act.put, List.setIfInBounds_toArray, List.set_cons_zero, List.set_cons_succ])
    refine wpAnyH_take (i := 6) (oi := { dst := some 77, op := .move (.tmp 13), type := _, pos := _, after := _, guard := none }) (v := .string ah) rfl (by kernel_rfl) (by kernel_rfl) (by kernel_rfl) (fun _ _ _ h => h) (Or.inl ⟨by rfl, by intro x _; go_simp⟩) trivial ?_
    (try simp only [Act.put, List.setIfInBounds_toArray, List.set_cons_zero, List.set_cons_succ])
    refine wpAnyH_take (i := 7) (oi := { dst := some 78, op := .move (.tmp 1), type := _, pos := _, after := _, guard := none }) (v := .string text) rfl (by kernel_rfl) (by kernel_rfl) (by kernel_rfl) (fun _ _ _ h => h) (Or.inl ⟨by rfl, by intro x _; go_simp⟩) trivial ?_
    (try simp only [Act.put, List.setIfInBounds_toArray, List.set_cons_zero, List.set_cons_succ])
    refine wpAnyH_take (i := 8) (oi := { dst := some 79, op := .binOp .add 9 (.tmp 77) (.tmp 78) 9, type := _, pos := _, after := _, guard := none }) (v := .string ta) rfl (by kernel_rfl) (by kernel_rfl) (by kernel_rfl) (fun _ _ _ h => h) (Or.inl ⟨by rfl, by intro x _; go_simp⟩) trivial ?_
    (try simp only [Act.put, List.setIfInBounds_toArray, List.set_cons_zero, List.set_cons_succ])
    refine wpAnyH_take (i := 9) (oi := { dst := some 80, op := .move (.tmp 10), type := _, pos := _, after := _, guard := none }) (v := .int .i64 (i : Int)) rfl (by kernel_rfl) (by kernel_rfl) (by kernel_rfl) (fun _ _ _ h => h) (Or.inl ⟨by rfl, by intro x _; go_simp⟩) trivial ?_
    (try simp only [Act.put, List.setIfInBounds_toArray, List.set_cons_zero, List.set_cons_succ])
    refine wpAnyH_take (i := 10) (oi := { dst := some 81, op := .convert 3 5 (.tmp 80), type := _, pos := _, after := _, guard := none }) (v := .int .u8 (i : Int)) rfl (by kernel_rfl) (by kernel_rfl) (by kernel_rfl) (fun _ _ _ h => h) (Or.inl ⟨by rfl, by intro x _; go_simp⟩) trivial ?_
    (try simp only [Act.put, List.setIfInBounds_toArray, List.set_cons_zero, List.set_cons_succ])
    refine wpAnyH_ready (rs := [11]) (by kernel_rfl) (by simp) ?_
    refine AllReadyH.cons (o := { dst := some 82, op := .buildSlice 42 1 #[(0, .tmp 81)], type := _, pos := _, after := _, guard := none }) rfl (fun K hK => ?_) AllReadyH.nil
    go_simp
    refine hK.out _ _ trivial (fun _ => ?_)
    clear hK K
    (try simp only [Act.put, List.setIfInBounds_toArray, List.set_cons_zero, List.set_cons_succ])
    refine wpAnyH_ready (rs := [12]) (by kernel_rfl) (by simp) ?_
    refine AllReadyH.cons (o := { dst := some 83, op := .convert 42 9 (.tmp 82), type := _, pos := _, after := _, guard := none }) rfl (fun K hK => ?_) AllReadyH.nil
    go_simp
    refine hK.out _ _ trivial (fun _ => ?_)
    clear hK K
    (try simp only [Act.put, List.setIfInBounds_toArray, List.set_cons_zero, List.set_cons_succ])
    refine wpAnyH_take (i := 13) (oi := { dst := some 84, op := .binOp .add 9 (.tmp 79) (.tmp 83) 9, type := _, pos := _, after := _, guard := none }) (v := .string tb) rfl (by kernel_rfl) (by kernel_rfl) (by kernel_rfl) (fun _ _ _ h => h) (Or.inl ⟨by rfl, by intro x _; go_simp⟩) trivial ?_
    (try simp only [Act.put, List.setIfInBounds_toArray, List.set_cons_zero, List.set_cons_succ])
    refine wpAnyH_ready (rs := [14]) (by kernel_rfl) (by simp) ?_
    refine AllReadyH.cons (o := { dst := some 85, op := .call { callee := .value (.func 21), args := #[.tmp 76, .tmp 84], argTypes := #[9, 9] }, type := _, pos := _, after := _, guard := none }) rfl (fun K hK => ?_) AllReadyH.nil
    go_simp
    refine (HK2.out _ (hbV.alloc hbV.size _)).mono ?_
    rintro e w5 ⟨rfl, hb5'⟩
    have hb5 := (hbV.alloc hbV.size _).trans (hb5'.mono (hbV.alloc hbV.size _).size)
    refine hK.out _ _ trivial (fun _ => ?_)
    clear hK K hb5'
    (try simp only [Act.put, List.setIfInBounds_toArray, List.set_cons_zero, List.set_cons_succ])
    refine wpAnyH_take (i := 15) (oi := { dst := some 86, op := .binOp .neq 9 (.tmp 75) (.tmp 85) 9, type := _, pos := _, after := _, guard := none }) (v := .bool false) rfl (by kernel_rfl) (by kernel_rfl) (by kernel_rfl) (fun _ _ _ h => h) (Or.inl ⟨by rfl, by intro x _; go_simp⟩) trivial ?_
    (try simp only [Act.put, List.setIfInBounds_toArray, List.set_cons_zero, List.set_cons_succ])
    refine wpAnyH_done (by kernel_rfl) ?_ _
    clear hob hbV HK2
    go_wp2_with fail
    refine (clipped_any rounds 1 40 (by omega) (by omega) w5).mono ?_
    rintro e w' ⟨⟨r, rfl, hr1, hr2⟩, rfl⟩
    obtain ⟨R, rfl⟩ : ∃ R, r = R + 1 := ⟨r - 1, by omega⟩
    have hrI : ((R + 1 : Nat) : Int) = (R : Int) + 1 := by omega
    have kP := kpbkdf_any key text ((R : Int) + 1) (N : Int) b0 b1 (by omega) (by omega) (by omega) (by omega)
    rw [Int.toNat_natCast, show ((R : Int) + 1).toNat - 1 = R by omega] at kP
    have sP : (str (pasL key.data.toList text.data.toList R N)).size = N := by rw [str_size, pasL_len]
    have HX3 : Hid ((str (pasL key.data.toList text.data.toList R N)).extract p1 N = str (pasF key.data.toList F0 R)) := by
      show _ = _
      rw [HF.out]
      exact pas_tail _ _ R i p1 N HN.out.1 HN.out.2.1 HN.out.2.2
    revert kP sP HX3
    generalize str (pasL key.data.toList text.data.toList R N) = yP
    intro kP sP HX3
    rw [hrI]
    clear hrI
    go_wp2_with fail
    refine (kP w5 (HT.out w5 hb5).1 (HT.out w5 hb5).2).mono ?_
    rintro e w6 ⟨rfl, hb6'⟩
    have hb6 := hb5.trans (hb6'.mono hb5.size)
    clear hb5 hb6' kP
    go_wp2_with fail
    refine (num3_any _ _).mono ?_
    rintro e w' ⟨rfl, rfl⟩
    have hob4 := four_bytes i w6
    rw [hi256, hyb4] at hob4
    have hk4 := HK4.out (w6.alloc (.cells #[.int .u8 0, .int .u8 0, .int .u8 0, .int .u8 (i : Int)] 5)) (hb6.alloc hb6.size _)
    go_wp2_with fail
    refine hk4.mono ?_
    rintro e w7 ⟨rfl, hb7'⟩
    have hb7 := (hb6.alloc hb6.size _).trans (hb7'.mono (hb6.alloc hb6.size _).size)
    clear hob4 hk4 hb6 hb7' HK4
    go_wp2
    go_loopg [17, 18, 19] R (fun gj u f i wr => ∃ r : Nat, r + gj = R ∧ i = .int .i64 ((r : Int) + 1) ∧ u = .string (str (pasU key.data.toList F0 r)) ∧ f = .string (str (pasF key.data.toList F0 r)) ∧ Below w.heap.size w wr)
    case atStart => exact ⟨0, by omega, rfl, by rw [HF0.out.1], by rw [HF0.out.2], hb7⟩
    case round =>
      clear hb7 HF0
      obtain ⟨r, hrr, rfl, rfl, rfl, hbel⟩ := hrel
      have HRR : Hid (r + gk = R) := hrr
      have hr' : r ≤ R := by omega
      clear hrr
      have zz := hbel.size
      by_cases hlt : r < R
      · have hltI : (r : Int) + 1 < (R : Int) + 1 := by omega
        have hu := HU.out r wr hbel
        have hx := HX.out r
        revert hu hx
        obtain ⟨yF', hF'⟩ : ∃ y, str (pasF key.data.toList F0 (r + 1)) = y := ⟨_, rfl⟩
        obtain ⟨yU', hU'⟩ : ∃ y, str (pasU key.data.toList F0 (r + 1)) = y := ⟨_, rfl⟩
        have HF' : Hid (str (pasF key.data.toList F0 (r + 1)) = yF') := hF'
        have HU' : Hid (str (pasU key.data.toList F0 (r + 1)) = yU') := hU'
        rw [hF', hU']
        clear hF' hU'
        generalize str (pasF key.data.toList F0 r) = yF
        generalize str (pasU key.data.toList F0 r) = yU
        intro hu hx
        have w1 : IntKind.i64.wrap ((r : Int) + 1 + 1) = (r : Int) + 1 + 1 := by rw [IntKind.wrap_i64]; omega
        go_wp2_with fail
        refine hu.mono ?_
        rintro e w8 ⟨rfl, hb8'⟩
        have hb8 := hbel.trans (hb8'.mono zz)
        clear hb8' hbel hu
        have z8 := hb8.size
        go_wp2_with fail
        refine (hx w8).mono ?_
        rintro e w9 ⟨rfl, hb9'⟩
        have hb9 := hb8.trans (hb9'.mono z8)
        clear hb9' hb8 hx
        go_wp2
        go_roundg (gk - 1)
        case measure => have := HRR.out; omega
        case rel => exact ⟨r + 1, by have := HRR.out; omega, by go_num, by rw [HU'.out], by rw [HF'.out], hb9⟩
      · obtain rfl : r = R := by omega
        have hltI : ¬ (r : Int) + 1 < (r : Int) + 1 := by omega
        have x3 := HX3.out
        clear HX3 HU HX
        revert x3
        generalize str (pasF key.data.toList F0 r) = yF
        generalize str (pasU key.data.toList F0 r) = yU
        intro x3
        go_wp2
        go_ret
        exact ⟨rfl, hbel⟩

end Go.Proofs.YtjjabkimmgcejaaDoor
