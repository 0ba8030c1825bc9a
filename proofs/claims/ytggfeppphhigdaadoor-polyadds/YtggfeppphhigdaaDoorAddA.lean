import Derived.Test.YtggfeppphhigdaaDoorPlC
namespace Go.Proofs.YtggfeppphhigdaaDoor
open Go.RowKit Go.Lib Go.Deep

set_option maxRecDepth 20000 in
set_option maxHeartbeats 1000000 in
theorem polyAdds_walk (key text : ByteArray) (h63 : text.size ≤ 9223372036854775807) (w : World) (hT : KTab w) (h1 : 0 < w.heap.size) :
    Calls Tryd.prog 6 #[.string key, .string text] w fun e w' => e = .returned (.bool true) ∧ Below w.heap.size w w' := by
  have hky := keyed_any key w
  have hkl := keyL_length key.data.toList
  revert hky hkl
  generalize keyL key.data.toList = K
  intro hky hkl
  have ha : (K.take 16).length = 16 := by rw [List.length_take, hkl]; rfl
  have hs : (K.drop 16).length = 16 := by rw [List.length_drop, hkl]
  have HTT : Hid (∀ W, Below w.heap.size w W → KTab W ∧ 0 < W.heap.size) := fun W h => ⟨hT.below h h1, by have := h.size; omega⟩
  have hs1 : ∀ W : World, (Instr.slice 9 (.string (str K)) none (some (.int .i64 16)) none).run Tryd.prog W = .ok (.string (str (K.take 16))) W := fun W => slice_head (P := Tryd.prog) W 9 Tryd.underlying9 K _ 16 (by omega) rfl
  have hs2 : ∀ W : World, (Instr.slice 9 (.string (str K)) (some (.int .i64 16)) none none).run Tryd.prog W = .ok (.string (str (K.drop 16))) W := fun W => slice_tail (P := Tryd.prog) W 9 Tryd.underlying9 K _ 16 (by omega) rfl
  have hz16 : ∀ W, Calls Tryd.prog 16 #[.int .i64 16] W fun e w' => e = .returned (.string (str (List.replicate 16 0))) ∧ Below W.heap.size W w' := fun W => zeros_any 16 (by omega) W
  have hc1 : str (K.take 16) ++ str (List.replicate 16 0) = str (K.take 16 ++ List.replicate 16 0) := cat_strs _ _
  have hc2 : str (List.replicate 16 0) ++ str (K.drop 16) = str (List.replicate 16 0 ++ K.drop 16) := cat_strs _ _
  have hza : (str (K.take 16)).size = 16 := by rw [str_size, ha]
  have hzs : (str (K.drop 16)).size = 16 := by rw [str_size, hs]
  have hzz : (str (List.replicate 16 0)).size = 16 := by rw [str_size]; rfl
  have hzb : (str (tagL (K.take 16 ++ List.replicate 16 0) text.data.toList)).size = 16 := by rw [str_size, tagL_length]
  have HTG : Hid (∀ W, Below w.heap.size w W → Calls Tryd.prog 12 #[.string (str (K.take 16 ++ List.replicate 16 0)), .string text] W fun e w' => e = .returned (.tuple #[.string (str (tagL (K.take 16 ++ List.replicate 16 0) text.data.toList)), .int .i64 0]) ∧ Below W.heap.size W w') := fun W hb => by
    have h := tag_yes (str (K.take 16 ++ List.replicate 16 0)) text (by rw [str_size, List.length_append, ha]; rfl) h63 W (HTT.out W hb).1 (HTT.out W hb).2
    rw [str_data] at h
    exact h
  have HPL : Hid (∀ W, Calls Tryd.prog 17 #[.string (str (tagL (K.take 16 ++ List.replicate 16 0) text.data.toList)), .string (str (K.drop 16))] W fun e w' => e = .returned (.string (str (tagL K text.data.toList))) ∧ Below W.heap.size W w') := fun W => by
    have h := plusL_any (str (tagL (K.take 16 ++ List.replicate 16 0) text.data.toList)) (str (K.drop 16)) hzb hzs W
    rw [str_data, str_data, adds_one K _ hkl] at h
    exact h
  have HT1 : Hid (∀ W, Below w.heap.size w W → Calls Tryd.prog 14 #[.string (str K), .string text, .string (str (tagL K text.data.toList))] W fun e w' => e = .returned (.bool true) ∧ Below W.heap.size W w') := fun W hb =>
    tagged_any _ _ _ (by rw [str_size, hkl]) h63 W (HTT.out W hb).1 (HTT.out W hb).2 (by rw [str_data])
  have HT2 : Hid (∀ W, Below w.heap.size w W → Calls Tryd.prog 14 #[.string (str (List.replicate 16 0 ++ K.drop 16)), .string text, .string (str (K.drop 16))] W fun e w' => e = .returned (.bool true) ∧ Below W.heap.size W w') := fun W hb =>
    tagged_any _ _ _ (by rw [str_size, List.length_append, hs]; rfl) h63 W (HTT.out W hb).1 (HTT.out W hb).2 (by rw [str_data, adds_two _ _ hs])
  clear hT HTT ha hs
  revert hky hs1 hs2 hz16 hc1 hc2 hza hzs hzz hzb HTG HPL HT1 HT2
  generalize str (tagL (K.take 16 ++ List.replicate 16 0) text.data.toList) = yb
  generalize str (K.take 16 ++ List.replicate 16 0) = ykz
  generalize str (List.replicate 16 0 ++ K.drop 16) = yzs
  generalize str (List.replicate 16 0) = y16
  generalize str (K.take 16) = ya
  generalize str (K.drop 16) = ys
  generalize str (tagL K text.data.toList) = yt
  generalize str K = yk
  intro hky hs1 hs2 hz16 hc1 hc2 hza hzs hzz hzb HTG HPL HT1 HT2
  go_enter Tryd.func6, Tryd.ntmps6
  go_wp2_with fail
  refine hky.mono ?_
  rintro e w1 ⟨rfl, hb1⟩
  clear hky
  go_upto_region 2 with fail
  refine wp_region_held_drew (S := fun _ => True) (by kernel_rfl) trivial ?_
  intro _
  have hb2 := hb1.drew
  clear hb1
  revert hb2
  generalize w1.drew = w2
  intro hb2
  refine wpAnyH_take (i := 0) (oi := { dst := some 11, op := .move (.tmp 5), type := _, pos := _, after := _, guard := none }) (v := .string yk) rfl (by kernel_rfl) (by kernel_rfl) (by kernel_rfl) (fun _ _ _ h => h) (Or.inl ⟨by rfl, by intro x _; go_simp⟩) trivial ?_
  (try simp only [Act.put, List.setIfInBounds_toArray, List.set_cons_zero, List.set_cons_succ])
  refine wpAnyH_take (i := 1) (oi := { dst := some 12, op := .slice 9 (.tmp 11) none (some (.const (.int .i64 16))) none, type := _, pos := _, after := _, guard := none }) (v := .string ya) rfl (by kernel_rfl) (by kernel_rfl) (by kernel_rfl) (fun _ _ _ h => h) (Or.inl ⟨by rfl, by intro x _; go_simp⟩) trivial ?_
  (try simp only [Act.put, List.setIfInBounds_toArray, List.set_cons_zero, List.set_cons_succ])
  refine wpAnyH_take (i := 4) (oi := { dst := some 15, op := .move (.tmp 1), type := _, pos := _, after := _, guard := none }) (v := .string text) rfl (by kernel_rfl) (by kernel_rfl) (by kernel_rfl) (fun _ _ _ h => h) (Or.inl ⟨by rfl, by intro x _; go_simp⟩) trivial ?_
  (try simp only [Act.put, List.setIfInBounds_toArray, List.set_cons_zero, List.set_cons_succ])
  refine wpAnyH_ready (rs := [2]) (by kernel_rfl) (by simp) ?_
  refine AllReadyH.cons (o := { dst := some 13, op := .call { callee := .value (.func 16), args := #[.const (.int .i64 16)], argTypes := #[3] }, type := _, pos := _, after := _, guard := none }) rfl (fun K hK => ?_) AllReadyH.nil
  go_simp
  refine (hz16 w2).mono ?_
  rintro e w3 ⟨rfl, hbn⟩
  have hb3 := hb2.trans (hbn.mono hb2.size)
  refine hK.out _ _ trivial (fun _ => ?_)
  clear hK K hbn hb2
  (try simp only [Act.put, List.setIfInBounds_toArray, List.set_cons_zero, List.set_cons_succ])
  refine wpAnyH_take (i := 3) (oi := { dst := some 14, op := .binOp .add 9 (.tmp 12) (.tmp 13) 9, type := _, pos := _, after := _, guard := none }) (v := .string ykz) rfl (by kernel_rfl) (by kernel_rfl) (by kernel_rfl) (fun _ _ _ h => h) (Or.inl ⟨by rfl, by intro x _; go_simp⟩) trivial ?_
  (try simp only [Act.put, List.setIfInBounds_toArray, List.set_cons_zero, List.set_cons_succ])
  refine wpAnyH_ready (rs := [5]) (by kernel_rfl) (by simp) ?_
  refine AllReadyH.cons (o := { dst := some 16, op := .call { callee := .value (.func 12), args := #[.tmp 14, .tmp 15], argTypes := #[9, 9] }, type := _, pos := _, after := _, guard := none }) rfl (fun K hK => ?_) AllReadyH.nil
  go_simp
  refine (HTG.out w3 hb3).mono ?_
  rintro e w4 ⟨rfl, hbn⟩
  have hb4 := hb3.trans (hbn.mono hb3.size)
  refine hK.out _ _ trivial (fun _ => ?_)
  clear hK K hbn hb3
  (try simp only [Act.put, List.setIfInBounds_toArray, List.set_cons_zero, List.set_cons_succ])
  refine wpAnyH_take (i := 6) (oi := { dst := some 10, op := .move (.tmp 16), type := _, pos := _, after := _, guard := none }) (v := .tuple #[.string yb, .int .i64 0]) rfl (by kernel_rfl) (by kernel_rfl) (by kernel_rfl) (fun _ _ _ h => h) (Or.inl ⟨by rfl, by intro x _; go_simp⟩) trivial ?_
  (try simp only [Act.put, List.setIfInBounds_toArray, List.set_cons_zero, List.set_cons_succ])
  refine wpAnyH_take (i := 7) (oi := { dst := some 17, op := .extract (.tmp 10) 0, type := _, pos := _, after := _, guard := none }) (v := .string yb) rfl (by kernel_rfl) (by kernel_rfl) (by kernel_rfl) (fun _ _ _ h => h) (Or.inl ⟨by rfl, by intro x _; go_simp⟩) trivial ?_
  (try simp only [Act.put, List.setIfInBounds_toArray, List.set_cons_zero, List.set_cons_succ])
  refine wpAnyH_take (i := 8) (oi := { dst := some 18, op := .extract (.tmp 10) 1, type := _, pos := _, after := _, guard := none }) (v := .int .i64 0) rfl (by kernel_rfl) (by kernel_rfl) (by kernel_rfl) (fun _ _ _ h => h) (Or.inl ⟨by rfl, by intro x _; go_simp⟩) trivial ?_
  (try simp only [Act.put, List.setIfInBounds_toArray, List.set_cons_zero, List.set_cons_succ])
  refine wpAnyH_take (i := 9) (oi := { dst := some 6, op := .assign (.tmp 17), type := _, pos := _, after := _, guard := none }) (v := .string yb) rfl (by kernel_rfl) (by kernel_rfl) (by kernel_rfl) (fun _ _ _ h => h) (Or.inl ⟨by rfl, by intro x _; go_simp⟩) trivial ?_
  (try simp only [Act.put, List.setIfInBounds_toArray, List.set_cons_zero, List.set_cons_succ])
  refine wpAnyH_take (i := 10) (oi := { dst := some 7, op := .assign (.tmp 18), type := _, pos := _, after := _, guard := none }) (v := .int .i64 0) rfl (by kernel_rfl) (by kernel_rfl) (by kernel_rfl) (fun _ _ _ h => h) (Or.inl ⟨by rfl, by intro x _; go_simp⟩) trivial ?_
  (try simp only [Act.put, List.setIfInBounds_toArray, List.set_cons_zero, List.set_cons_succ])
  refine wpAnyH_done (by kernel_rfl) ?_ _
  clear HTG
  go_wp2_with fail
  refine (num_any 0 w4).mono ?_
  rintro e w5 ⟨rfl, rfl⟩
  go_upto_region 5 with fail
  refine wp_region_held_drew (S := fun _ => True) (by kernel_rfl) trivial ?_
  intro _
  have hb5 := hb4.drew
  clear hb4
  revert hb5
  generalize w4.drew = w5
  intro hb5
  refine wpAnyH_take (i := 0) (oi := { dst := some 27, op := .move (.tmp 5), type := _, pos := _, after := _, guard := none }) (v := .string yk) rfl (by kernel_rfl) (by kernel_rfl) (by kernel_rfl) (fun _ _ _ h => h) (Or.inl ⟨by rfl, by intro x _; go_simp⟩) trivial ?_
  (try simp only [Act.put, List.setIfInBounds_toArray, List.set_cons_zero, List.set_cons_succ])
  refine wpAnyH_take (i := 1) (oi := { dst := some 28, op := .move (.tmp 1), type := _, pos := _, after := _, guard := none }) (v := .string text) rfl (by kernel_rfl) (by kernel_rfl) (by kernel_rfl) (fun _ _ _ h => h) (Or.inl ⟨by rfl, by intro x _; go_simp⟩) trivial ?_
  (try simp only [Act.put, List.setIfInBounds_toArray, List.set_cons_zero, List.set_cons_succ])
  refine wpAnyH_take (i := 2) (oi := { dst := some 29, op := .move (.tmp 6), type := _, pos := _, after := _, guard := none }) (v := .string yb) rfl (by kernel_rfl) (by kernel_rfl) (by kernel_rfl) (fun _ _ _ h => h) (Or.inl ⟨by rfl, by intro x _; go_simp⟩) trivial ?_
  (try simp only [Act.put, List.setIfInBounds_toArray, List.set_cons_zero, List.set_cons_succ])
  refine wpAnyH_take (i := 3) (oi := { dst := some 30, op := .move (.tmp 5), type := _, pos := _, after := _, guard := none }) (v := .string yk) rfl (by kernel_rfl) (by kernel_rfl) (by kernel_rfl) (fun _ _ _ h => h) (Or.inl ⟨by rfl, by intro x _; go_simp⟩) trivial ?_
  (try simp only [Act.put, List.setIfInBounds_toArray, List.set_cons_zero, List.set_cons_succ])
  refine wpAnyH_take (i := 4) (oi := { dst := some 31, op := .slice 9 (.tmp 30) (some (.const (.int .i64 16))) none none, type := _, pos := _, after := _, guard := none }) (v := .string ys) rfl (by kernel_rfl) (by kernel_rfl) (by kernel_rfl) (fun _ _ _ h => h) (Or.inl ⟨by rfl, by intro x _; go_simp⟩) trivial ?_
  (try simp only [Act.put, List.setIfInBounds_toArray, List.set_cons_zero, List.set_cons_succ])
  refine wpAnyH_ready (rs := [5]) (by kernel_rfl) (by simp) ?_
  refine AllReadyH.cons (o := { dst := some 32, op := .call { callee := .value (.func 17), args := #[.tmp 29, .tmp 31], argTypes := #[9, 9] }, type := _, pos := _, after := _, guard := none }) rfl (fun K hK => ?_) AllReadyH.nil
  go_simp
  refine (HPL.out w5).mono ?_
  rintro e w6 ⟨rfl, hbn⟩
  have hb6 := hb5.trans (hbn.mono hb5.size)
  refine hK.out _ _ trivial (fun _ => ?_)
  clear hK K hbn hb5
  (try simp only [Act.put, List.setIfInBounds_toArray, List.set_cons_zero, List.set_cons_succ])
  refine wpAnyH_ready (rs := [6]) (by kernel_rfl) (by simp) ?_
  refine AllReadyH.cons (o := { dst := some 33, op := .call { callee := .value (.func 14), args := #[.tmp 27, .tmp 28, .tmp 32], argTypes := #[9, 9, 9] }, type := _, pos := _, after := _, guard := none }) rfl (fun K hK => ?_) AllReadyH.nil
  go_simp
  refine (HT1.out w6 hb6).mono ?_
  rintro e w7 ⟨rfl, hbn⟩
  have hb7 := hb6.trans (hbn.mono hb6.size)
  refine hK.out _ _ trivial (fun _ => ?_)
  clear hK K hbn hb6
  (try simp only [Act.put, List.setIfInBounds_toArray, List.set_cons_zero, List.set_cons_succ])
  refine wpAnyH_take (i := 7) (oi := { dst := some 34, op := .move (.tmp 33), type := _, pos := _, after := _, guard := none }) (v := .bool true) rfl (by kernel_rfl) (by kernel_rfl) (by kernel_rfl) (fun _ _ _ h => h) (Or.inl ⟨by rfl, by intro x _; go_simp⟩) trivial ?_
  (try simp only [Act.put, List.setIfInBounds_toArray, List.set_cons_zero, List.set_cons_succ])
  refine wpAnyH_take (i := 9) (oi := { dst := some 36, op := .move (.tmp 5), type := _, pos := _, after := _, guard := some (7, true) }) (v := .string yk) rfl (by kernel_rfl) (by kernel_rfl) (by kernel_rfl) (fun _ _ _ h => h) (Or.inl ⟨by rfl, by intro x _; go_simp⟩) trivial ?_
  (try simp only [Act.put, List.setIfInBounds_toArray, List.set_cons_zero, List.set_cons_succ])
  refine wpAnyH_take (i := 10) (oi := { dst := some 37, op := .slice 9 (.tmp 36) (some (.const (.int .i64 16))) none none, type := _, pos := _, after := _, guard := some (7, true) }) (v := .string ys) rfl (by kernel_rfl) (by kernel_rfl) (by kernel_rfl) (fun _ _ _ h => h) (Or.inl ⟨by rfl, by intro x _; go_simp⟩) trivial ?_
  (try simp only [Act.put, List.setIfInBounds_toArray, List.set_cons_zero, List.set_cons_succ])
  refine wpAnyH_take (i := 12) (oi := { dst := some 39, op := .move (.tmp 1), type := _, pos := _, after := _, guard := some (7, true) }) (v := .string text) rfl (by kernel_rfl) (by kernel_rfl) (by kernel_rfl) (fun _ _ _ h => h) (Or.inl ⟨by rfl, by intro x _; go_simp⟩) trivial ?_
  (try simp only [Act.put, List.setIfInBounds_toArray, List.set_cons_zero, List.set_cons_succ])
  refine wpAnyH_take (i := 13) (oi := { dst := some 40, op := .move (.tmp 5), type := _, pos := _, after := _, guard := some (7, true) }) (v := .string yk) rfl (by kernel_rfl) (by kernel_rfl) (by kernel_rfl) (fun _ _ _ h => h) (Or.inl ⟨by rfl, by intro x _; go_simp⟩) trivial ?_
  (try simp only [Act.put, List.setIfInBounds_toArray, List.set_cons_zero, List.set_cons_succ])
  refine wpAnyH_take (i := 14) (oi := { dst := some 41, op := .slice 9 (.tmp 40) (some (.const (.int .i64 16))) none none, type := _, pos := _, after := _, guard := some (7, true) }) (v := .string ys) rfl (by kernel_rfl) (by kernel_rfl) (by kernel_rfl) (fun _ _ _ h => h) (Or.inl ⟨by rfl, by intro x _; go_simp⟩) trivial ?_
  (try simp only [Act.put, List.setIfInBounds_toArray, List.set_cons_zero, List.set_cons_succ])
  refine wpAnyH_ready (rs := [8]) (by kernel_rfl) (by simp) ?_
  refine AllReadyH.cons (o := { dst := some 35, op := .call { callee := .value (.func 16), args := #[.const (.int .i64 16)], argTypes := #[3] }, type := _, pos := _, after := _, guard := some (7, true) }) rfl (fun K hK => ?_) AllReadyH.nil
  go_simp
  refine (hz16 w7).mono ?_
  rintro e w8 ⟨rfl, hbn⟩
  have hb8 := hb7.trans (hbn.mono hb7.size)
  refine hK.out _ _ trivial (fun _ => ?_)
  clear hK K hbn hb7
  (try simp only [Act.put, List.setIfInBounds_toArray, List.set_cons_zero, List.set_cons_succ])
  refine wpAnyH_take (i := 11) (oi := { dst := some 38, op := .binOp .add 9 (.tmp 35) (.tmp 37) 9, type := _, pos := _, after := _, guard := some (7, true) }) (v := .string yzs) rfl (by kernel_rfl) (by kernel_rfl) (by kernel_rfl) (fun _ _ _ h => h) (Or.inl ⟨by rfl, by intro x _; go_simp⟩) trivial ?_
  (try simp only [Act.put, List.setIfInBounds_toArray, List.set_cons_zero, List.set_cons_succ])
  refine wpAnyH_ready (rs := [15]) (by kernel_rfl) (by simp) ?_
  refine AllReadyH.cons (o := { dst := some 42, op := .call { callee := .value (.func 14), args := #[.tmp 38, .tmp 39, .tmp 41], argTypes := #[9, 9, 9] }, type := _, pos := _, after := _, guard := some (7, true) }) rfl (fun K hK => ?_) AllReadyH.nil
  go_simp
  refine (HT2.out w8 hb8).mono ?_
  rintro e w9 ⟨rfl, hbn⟩
  have hb9 := hb8.trans (hbn.mono hb8.size)
  refine hK.out _ _ trivial (fun _ => ?_)
  clear hK K hbn hb8
  (try simp only [Act.put, List.setIfInBounds_toArray, List.set_cons_zero, List.set_cons_succ])
  refine wpAnyH_take (i := 16) (oi := { dst := some 43, op := .pick (.tmp 34) (.tmp 42) (.const (.bool false)), type := _, pos := _, after := _, guard := none }) (v := .bool true) rfl (by kernel_rfl) (by kernel_rfl) (by kernel_rfl) (fun _ _ _ h => h) (Or.inl ⟨by rfl, by intro x _; go_simp⟩) trivial ?_
  (try simp only [Act.put, List.setIfInBounds_toArray, List.set_cons_zero, List.set_cons_succ])
  refine wpAnyH_take (i := 17) (oi := { dst := some 4, op := .assign (.tmp 43), type := _, pos := _, after := _, guard := none }) (v := .bool true) rfl (by kernel_rfl) (by kernel_rfl) (by kernel_rfl) (fun _ _ _ h => h) (Or.inl ⟨by rfl, by intro x _; go_simp⟩) trivial ?_
  (try simp only [Act.put, List.setIfInBounds_toArray, List.set_cons_zero, List.set_cons_succ])
  refine wpAnyH_done (by kernel_rfl) ?_ _
  go_wp2
  go_ret
  exact ⟨rfl, hb9⟩

end Go.Proofs.YtggfeppphhigdaaDoor
