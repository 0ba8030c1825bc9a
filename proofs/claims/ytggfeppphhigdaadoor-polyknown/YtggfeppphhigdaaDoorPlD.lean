import Derived.Test.YtggfeppphhigdaaDoorPlC
namespace Go.Proofs.YtggfeppphhigdaaDoor
open Go.RowKit Go.Lib Go.Deep

set_option maxRecDepth 20000 in
set_option maxHeartbeats 1000000 in
theorem hex_any (s : ByteArray) (n : Nat) (hs : s.size = 2 * n) (hn : n ≤ 100) (hd : ∀ c ∈ s.data.toList, isDig c = true) (w : World) :
    Calls Tryd.prog 15 #[.string s] w fun e w' => e = .returned (.string (str (unL s.data.toList))) ∧ Below w.heap.size w w' := by
  obtain ⟨i0, hi, hz0, hz1, hz2⟩ := info_parts info5
  have hsl : s.data.toList.length = 2 * n := by rw [← size_eq]; exact hs
  have HD : Hid (∀ c ∈ s.data.toList, isDig c = true) := hd
  clear hd
  go_enter Tryd.func15, Tryd.ntmps15
  go_wp2
  go_loopg [3, 4] n (fun gk v i wr => ∃ k : Nat, k + gk = n ∧ i = .int .i64 (2 * (k : Int)) ∧ wr.ownsRow w.heap.size 5 1 v k (Lib.byteCells (unL (s.data.toList.take (2 * k)))) ∧ Below w.heap.size w wr)
  case atStart => exact ⟨0, by omega, rfl, World.ownsRow_nil _ _ _ _, Below.refl _ _⟩
  case round =>
    obtain ⟨k, hk, rfl, hown, hbel⟩ := hrel
    have HK : Hid (k + gk = n) := hk
    have hk' : k ≤ n := by omega
    clear hk
    by_cases hlt : k < n
    · have hltI : 2 * (k : Int) + 1 < (s.size : Int) := by omega
      have hml : k + 1 ≤ maxLen := by unfold maxLen; omega
      obtain ⟨a, ha⟩ : ∃ a, s.data.toList[2 * k]? = some a := ⟨_, List.getElem?_eq_getElem (by omega)⟩
      obtain ⟨b, hb⟩ : ∃ b, s.data.toList[2 * k + 1]? = some b := ⟨_, List.getElem?_eq_getElem (by omega)⟩
      have hda := HD.out a (List.mem_of_getElem? ha)
      have hdb := HD.out b (List.mem_of_getElem? hb)
      have h1 := fun W => digit_any a hda W
      have h2 := fun W => digit_any b hdb W
      have va := val_lt a hda
      have vb := val_lt b hdb
      have hix := fun W => rindex_at (P := Tryd.prog) W 9 s .i64 (2 * (k : Int)) (2 * k) a Tryd.underlying9 (by omega) ha
      have hiy := fun W => rindex_at (P := Tryd.prog) W 9 s .i64 (2 * (k : Int) + 1) (2 * k + 1) b Tryd.underlying9 (by omega) hb
      have HS : Hid (Lib.byteCells (unL (s.data.toList.take (2 * (k + 1)))) = Lib.byteCells (unL (s.data.toList.take (2 * k))) ++ [.int .u8 ((16 * digVal a + digVal b : Nat) : Int)]) := by
        show _ = _
        rw [unL_take _ k a b ha hb, byteCells_append]
        congr 1
        simp only [Lib.byteCells, List.map_cons, List.map_nil]
        rw [ofNat_toNat _ (by omega)]
      clear ha hb hda hdb
      have e1 : (16 * (digVal a : Int) + (digVal b : Int)) % 256 = ((16 * digVal a + digVal b : Nat) : Int) := by omega
      have e2 : ((16 * digVal a + digVal b : Nat) : Int) = 16 * (digVal a : Int) + (digVal b : Int) := by omega
      rw [e2] at HS
      have hone : ∀ u ∈ [Value.int .u8 (16 * (digVal a : Int) + (digVal b : Int))], u.oneCell' = true := by intro u hu; simp only [List.mem_singleton] at hu; subst hu; rfl
      have hwr : IntKind.u8.wrap (16 * (digVal a : Int) + (digVal b : Int)) = 16 * (digVal a : Int) + (digVal b : Int) := by rw [IntKind.wrap_u8]; omega
      clear e1 e2
      have hw1 : IntKind.i64.wrap (2 * (k : Int) + 1) = 2 * (k : Int) + 1 := by rw [IntKind.wrap_i64]; omega
      have hw2 : IntKind.i64.wrap (16 * (digVal a : Int)) = 16 * (digVal a : Int) := by rw [IntKind.wrap_i64]; omega
      have hw3 : IntKind.i64.wrap (16 * (digVal a : Int) + (digVal b : Int)) = 16 * (digVal a : Int) + (digVal b : Int) := by rw [IntKind.wrap_i64]; omega
      obtain ⟨cs, hcs⟩ : ∃ cs, Lib.byteCells (unL (s.data.toList.take (2 * k))) = cs := ⟨_, rfl⟩
      rw [hcs] at HS hown
      clear hcs
      revert h1 h2 va vb HS hone hwr hix hiy hw2 hw3
      generalize digVal a = x
      generalize digVal b = y
      generalize (a.toNat : Int) = ai
      generalize (b.toNat : Int) = bi
      intro h1 h2 va vb hix hiy hone hwr hw2 hw3 HS
      go_wp2_with fail
      refine wp_region_held_drew (S := fun _ => True) (by kernel_rfl) trivial ?_
      intro _
      have hownV : wr.drew.ownsRow w.heap.size 5 1 u3 k cs := hown
      have hbV := hbel.drew
      clear hown hbel
      revert hownV hbV
      generalize wr.drew = V
      intro hownV hbV
      refine wpAnyH_take (i := 0) (oi := { dst := some 12, op := .move (.tmp 3), type := _, pos := _, after := _, guard := none }) (v := u3) rfl (by kernel_rfl) (by kernel_rfl) (by kernel_rfl) (fun _ _ _ h => h) (Or.inl ⟨by rfl, by intro x _; go_simp⟩) trivial ?_
      (try simp only [Act.put, List.setIfInBounds_toArray, List.set_cons_zero, List.set_cons_succ])
      refine wpAnyH_take (i := 1) (oi := { dst := some 13, op := .move (.tmp 0), type := _, pos := _, after := _, guard := none }) (v := .string s) rfl (by kernel_rfl) (by kernel_rfl) (by kernel_rfl) (fun _ _ _ h => h) (Or.inl ⟨by rfl, by intro x _; go_simp⟩) trivial ?_
      (try simp only [Act.put, List.setIfInBounds_toArray, List.set_cons_zero, List.set_cons_succ])
      refine wpAnyH_take (i := 2) (oi := { dst := some 14, op := .move (.tmp 4), type := _, pos := _, after := _, guard := none }) (v := .int .i64 (2 * (k : Int))) rfl (by kernel_rfl) (by kernel_rfl) (by kernel_rfl) (fun _ _ _ h => h) (Or.inl ⟨by rfl, by intro x _; go_simp⟩) trivial ?_
      (try simp only [Act.put, List.setIfInBounds_toArray, List.set_cons_zero, List.set_cons_succ])
      refine wpAnyH_take (i := 3) (oi := { dst := some 15, op := .index 9 (.tmp 13) (.tmp 14), type := _, pos := _, after := _, guard := none }) (v := .int .u8 ai) rfl (by kernel_rfl) (by kernel_rfl) (by kernel_rfl) (fun _ _ _ h => h) (Or.inl ⟨by rfl, by intro x _; go_simp⟩) trivial ?_
      (try simp only [Act.put, List.setIfInBounds_toArray, List.set_cons_zero, List.set_cons_succ])
      refine wpAnyH_take (i := 6) (oi := { dst := some 18, op := .move (.tmp 0), type := _, pos := _, after := _, guard := none }) (v := .string s) rfl (by kernel_rfl) (by kernel_rfl) (by kernel_rfl) (fun _ _ _ h => h) (Or.inl ⟨by rfl, by intro x _; go_simp⟩) trivial ?_
      (try simp only [Act.put, List.setIfInBounds_toArray, List.set_cons_zero, List.set_cons_succ])
      refine wpAnyH_take (i := 7) (oi := { dst := some 19, op := .move (.tmp 4), type := _, pos := _, after := _, guard := none }) (v := .int .i64 (2 * (k : Int))) rfl (by kernel_rfl) (by kernel_rfl) (by kernel_rfl) (fun _ _ _ h => h) (Or.inl ⟨by rfl, by intro x _; go_simp⟩) trivial ?_
      (try simp only [Act.put, List.setIfInBounds_toArray, List.set_cons_zero, List.set_cons_succ])
      refine wpAnyH_take (i := 8) (oi := { dst := some 20, op := .binOp .add 3 (.tmp 19) (.const (.int .i64 1)) 3, type := _, pos := _, after := _, guard := none }) (v := .int .i64 (2 * (k : Int) + 1)) rfl (by kernel_rfl) (by kernel_rfl) (by kernel_rfl) (fun _ _ _ h => h) (Or.inl ⟨by rfl, by intro x _; go_simp⟩) trivial ?_
      (try simp only [Act.put, List.setIfInBounds_toArray, List.set_cons_zero, List.set_cons_succ])
      refine wpAnyH_take (i := 9) (oi := { dst := some 21, op := .index 9 (.tmp 18) (.tmp 20), type := _, pos := _, after := _, guard := none }) (v := .int .u8 bi) rfl (by kernel_rfl) (by kernel_rfl) (by kernel_rfl) (fun _ _ _ h => h) (Or.inl ⟨by rfl, by intro x _; go_simp⟩) trivial ?_
      (try simp only [Act.put, List.setIfInBounds_toArray, List.set_cons_zero, List.set_cons_succ])
      refine wpAnyH_ready (rs := [4]) (by kernel_rfl) (by simp) ?_
      refine AllReadyH.cons (o := { dst := some 16, op := .call { callee := .value (.func 26), args := #[.tmp 15], argTypes := #[5] }, type := _, pos := _, after := _, guard := none }) rfl (fun K hK => ?_) AllReadyH.nil
      go_simp
      refine (h1 _).mono ?_
      rintro e w'' ⟨rfl, rfl⟩
      refine hK.out _ _ trivial (fun _ => ?_)
      clear hK K
      (try simp only [Act.put, List.setIfInBounds_toArray, List.set_cons_zero, List.set_cons_succ])
      refine wpAnyH_take (i := 5) (oi := { dst := some 17, op := .binOp .mul 3 (.const (.int .i64 16)) (.tmp 16) 3, type := _, pos := _, after := _, guard := none }) (v := .int .i64 (16 * (x : Int))) rfl (by kernel_rfl) (by kernel_rfl) (by kernel_rfl) (fun _ _ _ h => h) (Or.inl ⟨by rfl, by intro x _; go_simp⟩) trivial ?_
      (try simp only [Act.put, List.setIfInBounds_toArray, List.set_cons_zero, List.set_cons_succ])
      refine wpAnyH_ready (rs := [10]) (by kernel_rfl) (by simp) ?_
      refine AllReadyH.cons (o := { dst := some 22, op := .call { callee := .value (.func 26), args := #[.tmp 21], argTypes := #[5] }, type := _, pos := _, after := _, guard := none }) rfl (fun K hK => ?_) AllReadyH.nil
      go_simp
      refine (h2 _).mono ?_
      rintro e w'' ⟨rfl, rfl⟩
      refine hK.out _ _ trivial (fun _ => ?_)
      clear hK K
      (try simp only [Act.put, List.setIfInBounds_toArray, List.set_cons_zero, List.set_cons_succ])
      refine wpAnyH_take (i := 11) (oi := { dst := some 23, op := .binOp .add 3 (.tmp 17) (.tmp 22) 3, type := _, pos := _, after := _, guard := none }) (v := .int .i64 (16 * (x : Int) + (y : Int))) rfl (by kernel_rfl) (by kernel_rfl) (by kernel_rfl) (fun _ _ _ h => h) (Or.inl ⟨by rfl, by intro x _; go_simp⟩) trivial ?_
      (try simp only [Act.put, List.setIfInBounds_toArray, List.set_cons_zero, List.set_cons_succ])
      refine wpAnyH_take (i := 12) (oi := { dst := some 24, op := .convert 3 5 (.tmp 23), type := _, pos := _, after := _, guard := none }) (v := .int .u8 (16 * (x : Int) + (y : Int))) rfl (by kernel_rfl) (by kernel_rfl) (by kernel_rfl) (fun _ _ _ h => h) (Or.inl ⟨by rfl, by intro x _; go_simp⟩) trivial ?_
      (try simp only [Act.put, List.setIfInBounds_toArray, List.set_cons_zero, List.set_cons_succ])
      refine wpAnyH_ready (rs := [13]) (by kernel_rfl) (by simp) ?_
      refine AllReadyH.cons (o := { dst := some 25, op := .buildSlice 34 1 #[(0, .tmp 24)], type := _, pos := _, after := _, guard := none }) rfl (fun K hK => ?_) AllReadyH.nil
      go_simp
      refine hK.out _ _ trivial (fun _ => ?_)
      clear hK K
      (try simp only [Act.put, List.setIfInBounds_toArray, List.set_cons_zero, List.set_cons_succ])
      refine wpAnyH_ready (rs := [14]) (by kernel_rfl) (by simp) ?_
      refine AllReadyH.cons (o := { dst := some 26, op := .call { callee := .builtin .append, args := #[.tmp 12, .tmp 25], argTypes := #[34, 34] }, type := _, pos := _, after := _, guard := none }) rfl (fun K hK => ?_) AllReadyH.nil
      refine step_append_own rfl (.tmp 12) (.tmp 25) 34 rfl w.heap.size 5 i0 (.int .u8 0) 1 1 Tryd.underlying34 hi hz0 hz1 hz2 rfl (by decide) u3 k cs (by simp [Act.eval]) (hownV.alloc _) ⟨V.heap.size, 0, none⟩ 1 1 [.int .u8 (16 * (x : Int) + (y : Int))] (by simp [Act.eval]) rfl (by intro i u h; exact cells_new V #[.int .u8 (16 * (x : Int) + (y : Int))] 5 i u (by simpa using h)) hone hml (by omega) (by have := hbV.size; simp; omega) ?_
      intro v' w' hown' hgrow'
      refine hK.out _ _ trivial (fun _ => ?_)
      clear hK K
      (try simp only [Act.put, List.setIfInBounds_toArray, List.set_cons_zero, List.set_cons_succ])
      refine wpAnyH_take (i := 15) (oi := { dst := some 3, op := .assign (.tmp 26), type := _, pos := _, after := _, guard := none }) (v := v') rfl (by kernel_rfl) (by kernel_rfl) (by kernel_rfl) (fun _ _ _ h => h) (Or.inl ⟨by rfl, by intro x _; go_simp⟩) trivial ?_
      (try simp only [Act.put, List.setIfInBounds_toArray, List.set_cons_zero, List.set_cons_succ])
      refine wpAnyH_done (by kernel_rfl) ?_ _
      have R : w'.ownsRow w.heap.size 5 1 v' (k + 1) (Lib.byteCells (unL (s.data.toList.take (2 * (k + 1))))) := by rw [HS.out]; exact hown'
      have hb' : Below w.heap.size w w' := by
        have h1 := hbV.alloc hbV.size (.cells #[.int .u8 (16 * (x : Int) + (y : Int))] 5)
        exact h1.trans (grown_below hgrow' h1.size (hownV.alloc _))
      clear hown' hgrow' hownV hix hiy h1 h2
      go_wp2
      go_roundg (gk - 1)
      case measure => have := HK.out; omega
      case rel => exact ⟨k + 1, by have := HK.out; omega, by go_num, R, hb'⟩
    · obtain rfl : k = n := by omega
      have hltI : ¬ 2 * (k : Int) + 1 < (s.size : Int) := by omega
      rw [List.take_of_length_le (by omega)] at hown
      have hcv := convert_own (P := Tryd.prog) wr 34 9 5 w.heap.size _ (unL s.data.toList) Tryd.underlying34 Tryd.underlying5 Tryd.underlying9 (by rw [unL_length, hsl, Nat.mul_div_cancel_left _ (by omega)]; exact hown)
      clear hown
      go_wp2
      go_ret
      exact ⟨rfl, hbel⟩

end Go.Proofs.YtggfeppphhigdaaDoor
