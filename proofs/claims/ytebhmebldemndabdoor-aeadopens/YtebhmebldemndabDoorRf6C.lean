import Derived.Test.YtebhmebldemndabDoorRf6B
namespace Go.Proofs.YtebhmebldemndabDoor.Ae
open Go.RowKit Go.Lib Go.Deep
open Cha (PTabs)

theorem ropen_no (key nonce aad box : ByteArray) (hk : key.size ≤ 9223372036854775807) (hn : nonce.size ≤ 9223372036854775807) (h : ¬ (key.size = 32 ∧ (nonce.size = 12 ∨ nonce.size = 24))) (w : World) :
    Calls Tryd.prog 5 #[.string key, .string nonce, .string aad, .string box] w fun e w' => e = .returned (.tuple #[.string { data := #[] }, .int .i64 (askN key nonce)]) ∧ w = w' := by
  have ha := rasked_any key nonce hk hn w
  change Calls _ _ _ _ fun e w' => e = .returned (.int .i64 (askN key nonce)) ∧ w = w' at ha
  have h0 : ¬ askN key nonce = 0 := by rcases askN_no h with e | e <;> rw [e] <;> decide
  generalize askN key nonce = x at ha h0 ⊢
  go_enter Tryd.func5, Tryd.ntmps5
  go_wp2_with fail
  refine ha.mono ?_
  rintro e w' ⟨rfl, rfl⟩
  go_wp2
  go_ret2
  exact ⟨rfl, rfl⟩
theorem ropen_big (key nonce aad box : ByteArray) (h1 : key.size = 32) (h2 : nonce.size = 12 ∨ nonce.size = 24) (hb : 1048576 < aad.size ∨ 1048592 < box.size) (w : World) :
    Calls Tryd.prog 5 #[.string key, .string nonce, .string aad, .string box] w fun e w' => e = .returned (.tuple #[.string { data := #[] }, .int .i64 3]) ∧ w = w' := by
  have ha := rasked_any key nonce (by omega) (by omega) w
  change Calls _ _ _ _ fun e w' => e = .returned (.int .i64 (askN key nonce)) ∧ w = w' at ha
  rw [askN_ok h1 h2] at ha
  by_cases hb1 : 1048576 < aad.size
  · have i1 : (1048576 : Int) < (aad.size : Int) := by omega
    go_enter Tryd.func5, Tryd.ntmps5
    go_wp2_with fail
    refine ha.mono ?_
    rintro e w' ⟨rfl, rfl⟩
    go_wp2
    go_ret2
    exact ⟨rfl, rfl⟩
  · have i1 : ¬ (1048576 : Int) < (aad.size : Int) := by omega
    have i2 : (1048592 : Int) < (box.size : Int) := by omega
    go_enter Tryd.func5, Tryd.ntmps5
    go_wp2_with fail
    refine ha.mono ?_
    rintro e w' ⟨rfl, rfl⟩
    go_wp2
    go_ret2
    exact ⟨rfl, rfl⟩
theorem ropen_short (key nonce aad box : ByteArray) (h1 : key.size = 32) (h2 : nonce.size = 12 ∨ nonce.size = 24) (h3 : aad.size ≤ 1048576) (h4 : box.size < 16) (w : World) :
    Calls Tryd.prog 5 #[.string key, .string nonce, .string aad, .string box] w fun e w' => e = .returned (.tuple #[.string { data := #[] }, .int .i64 60]) ∧ w = w' := by
  have ha := rasked_any key nonce (by omega) (by omega) w
  change Calls _ _ _ _ fun e w' => e = .returned (.int .i64 (askN key nonce)) ∧ w = w' at ha
  rw [askN_ok h1 h2] at ha
  have i1 : ¬ (1048576 : Int) < (aad.size : Int) := by omega
  have i2 : ¬ (1048592 : Int) < (box.size : Int) := by omega
  have i3 : (box.size : Int) < 16 := by omega
  go_enter Tryd.func5, Tryd.ntmps5
  go_wp2_with fail
  refine ha.mono ?_
  rintro e w' ⟨rfl, rfl⟩
  go_wp2
  go_ret2
  exact ⟨rfl, rfl⟩

set_option maxRecDepth 20000 in
set_option maxHeartbeats 2000000 in
theorem ropen_fit (key nonce aad box : ByteArray) (hk : key.size = 32) (hn : nonce.size = 12 ∨ nonce.size = 24) (ha : aad.size ≤ 1048576) (h4 : 16 ≤ box.size) (h5 : box.size ≤ 1048592) (w : World) (hP : PTabs w) (h3 : 4 ≤ w.heap.size) :
    Calls Tryd.prog 5 #[.string key, .string nonce, .string aad, .string box] w fun e w' => e = .returned (.tuple #[.string (openY key nonce aad box), .int .i64 (openE key nonce aad box)]) ∧ Below w.heap.size w w' := by
  have hask := rasked_any key nonce (by omega) (by omega) w
  change Calls _ _ _ _ fun e w' => e = .returned (.int .i64 (askN key nonce)) ∧ w = w' at hask
  rw [askN_ok hk hn] at hask
  have i1 : ¬ (1048576 : Int) < (aad.size : Int) := by omega
  have i2 : ¬ (1048592 : Int) < (box.size : Int) := by omega
  have i3 : ¬ (box.size : Int) < 16 := by omega
  have hsh := rshort_any key nonce hk hn w hP h3
  have hlk : key.data.toList.length = 32 := by rw [← size_eq]; exact hk
  have hln : nonce.data.toList.length = 12 ∨ nonce.data.toList.length = 24 := by rw [← size_eq]; exact hn
  obtain ⟨yk, hyk⟩ : ∃ y, str (keyL key.data.toList nonce.data.toList) = y := ⟨_, rfl⟩
  obtain ⟨yn, hyn⟩ : ∃ y, str (nonL nonce.data.toList) = y := ⟨_, rfl⟩
  have hsk : yk.size = 32 := by rw [← hyk, str_size, keyL_length _ _ hlk]
  have hsn : yn.size = 12 := by rw [← hyn, str_size, nonL_length _ hln]
  have ek : keyL key.data.toList nonce.data.toList = yk.data.toList := by rw [← hyk, str_data]
  have en : nonL nonce.data.toList = yn.data.toList := by rw [← hyn, str_data]
  rw [hyk, hyn] at hsh
  clear hyk hyn hlk hln
  have HTT : Hid (∀ W, Below w.heap.size w W → PTabs W ∧ 4 ≤ W.heap.size) := fun W h => ⟨hP.below h h3, by have := h.size; omega⟩
  obtain ⟨n, hnn⟩ : ∃ n, box.size - 16 = n := ⟨_, rfl⟩
  have hbl : box.data.toList.length - 16 = n := by rw [← size_eq]; exact hnn
  obtain ⟨yc, hyc⟩ : ∃ y, box.extract 0 n = y := ⟨_, rfl⟩
  obtain ⟨yt, hyt⟩ : ∃ y, box.extract n (n + 16) = y := ⟨_, rfl⟩
  have hcd : yc.data.toList = box.data.toList.take n := by rw [← hyc, extract_data, List.drop_zero, Nat.sub_zero]
  have htd : yt.data.toList = box.data.toList.drop n := by rw [← hyt, extract_data, List.take_of_length_le (by rw [List.length_drop, ← size_eq]; omega)]
  have hcs : yc.size ≤ 1048576 := by rw [size_eq, hcd, List.length_take]; omega
  have htg := fun W (k1 : PTabs W) (k2 : 4 ≤ W.heap.size) => rtag_any yk yn aad yc hsk hsn (by omega) (by omega) W k1 k2
  have hxo := fun W (k1 : PTabs W) (k2 : 4 ≤ W.heap.size) => Cha.rxor_yes yk yn yc 1 hsk hsn (by omega) (by omega) (by omega) W k1 k2
  have hri : right key.data.toList nonce.data.toList aad.data.toList box.data.toList = (tagA yk.data.toList yn.data.toList aad.data.toList yc.data.toList == yt.data.toList) := by
    unfold right
    rw [hbl, ek, en, hcd, htd]
  have hol : openL key.data.toList nonce.data.toList box.data.toList = Cha.overL yk.data.toList 1 yn.data.toList yc.data.toList := by
    unfold openL
    rw [hbl, ek, en, hcd]
  have hE : openE key nonce aad box = if (tagA yk.data.toList yn.data.toList aad.data.toList yc.data.toList == yt.data.toList) then 0 else 61 := by
    unfold openE
    rw [askN_ok hk hn, if_neg (by simp), if_neg (by omega), if_neg (by omega), hri]
  have hY : openY key nonce aad box = if openE key nonce aad box = 0 then str (Cha.overL yk.data.toList 1 yn.data.toList yc.data.toList) else { data := #[] } := by
    unfold openY
    rw [hol]
  clear ek en hcd htd hri hol hP hbl
  have hnI : (box.size : Int) - 16 = (n : Int) := by omega
  have hwn : IntKind.i64.wrap (n : Int) = (n : Int) := by rw [IntKind.wrap_i64]; omega
  have hbs : box.size = n + 16 := by omega
  obtain ⟨yg, hyg⟩ : ∃ y, str (tagA yk.data.toList yn.data.toList aad.data.toList yc.data.toList) = y := ⟨_, rfl⟩
  have hgd : tagA yk.data.toList yn.data.toList aad.data.toList yc.data.toList = yg.data.toList := by rw [← hyg, str_data]
  rw [hyg] at htg
  rw [hgd] at hE
  generalize str (Cha.overL yk.data.toList 1 yn.data.toList yc.data.toList) = yp at hxo hY
  clear hyg hgd
  generalize openE key nonce aad box = E at hE hY ⊢
  generalize openY key nonce aad box = Y at hY ⊢
  have hi6 : (n : Int) ≤ (n : Int) + 16 := by omega
  have hi7 : ¬ (n : Int) + 16 < (n : Int) := by omega
  have hi8 : n ≤ n + 16 := by omega
  -- WALK
  by_cases hq : yg = yt
  · rw [hq, beq_self_eq_true, if_pos rfl] at hE
    subst hE
    rw [if_pos rfl] at hY
    subst hY
    subst hq
    go_enter Tryd.func5, Tryd.ntmps5
    go_wp2_with fail
    refine hask.mono ?_
    rintro e w' ⟨rfl, rfl⟩
    go_wp2_with fail
    refine hsh.mono ?_
    rintro e w1 ⟨rfl, hb1⟩
    have hb2 := hb1.alloc hb1.size (.cells #[.string yk, .string yn] 39)
    have hA : (w1.alloc (.cells #[.string yk, .string yn] 39)).heap[w1.heap.size]? = some (.cells #[.string yk, .string yn] 39 (0, 0)) := heap_new _ _
    go_wp2_with fail
    have HKS : Hid (∀ V W : World, (V.rangeAt w1.heap.size 0 [.string yk, .string yn] ∧ Below w.heap.size w V) → Below V.heap.size V W → (W.rangeAt w1.heap.size 0 [.string yk, .string yn] ∧ Below w.heap.size w W)) := fun V W k hb => by
      have hp : w1.heap.size < V.heap.size := by have := block_lt_of_cell (k.1 0 _ rfl); simpa using this
      exact ⟨fun d v hv => (hb.cell (p := ⟨w1.heap.size, 0 + d, none⟩) hp).trans (k.1 d v hv), k.2.trans (hb.mono k.2.size)⟩
    have hS0 : (w1.alloc (.cells #[.string yk, .string yn] 39)).drew.rangeAt w1.heap.size 0 [.string yk, .string yn] ∧ Below w.heap.size w (w1.alloc (.cells #[.string yk, .string yn] 39)).drew := ⟨range_of_heap (pre := []) (post := []) hA rfl, hb2.drew⟩
    clear hA hb1 hb2
    refine wp_region_held_drew (S := fun W => W.rangeAt w1.heap.size 0 [.string yk, .string yn] ∧ Below w.heap.size w W) (by kernel_rfl) hS0 ?_
    intro hS
    clear hS0
    revert hS HKS
    generalize (w1.alloc (.cells #[.string yk, .string yn] 39)).drew = V
    generalize w1.heap.size = g
    intro HKS hS
    refine wpAnyH_take (i := 0) (oi := { dst := some 38, op := .load 39 (.tmp 11), type := _, pos := _, after := _, guard := none }) (v := .agg ([.string yk, .string yn]).toArray) rfl (by kernel_rfl) (by kernel_rfl) (by kernel_rfl) (fun _ _ _ h => h) (yieldsIf_load_mid (by rfl) 39 (.tmp 11) rfl g 0 (by simp [Act.eval]) ([.string yk, .string yn]) _ (fun x hx => hx.1) Tryd.underlying39 rfl sizePair) hS ?_
    (try simp only [Act.put, List.setIfInBounds_toArray, List.set_cons_zero, List.set_cons_succ])
    refine wpAnyH_take (i := 1) (oi := { dst := some 39, op := .move (.tmp 2), type := _, pos := _, after := _, guard := none }) (v := .string aad) rfl (by kernel_rfl) (by kernel_rfl) (by kernel_rfl) (fun _ _ _ h => h) (Or.inl ⟨by rfl, by intro x _; go_simp⟩) hS ?_
    (try simp only [Act.put, List.setIfInBounds_toArray, List.set_cons_zero, List.set_cons_succ])
    refine wpAnyH_take (i := 2) (oi := { dst := some 40, op := .move (.tmp 3), type := _, pos := _, after := _, guard := none }) (v := .string box) rfl (by kernel_rfl) (by kernel_rfl) (by kernel_rfl) (fun _ _ _ h => h) (Or.inl ⟨by rfl, by intro x _; go_simp⟩) hS ?_
    (try simp only [Act.put, List.setIfInBounds_toArray, List.set_cons_zero, List.set_cons_succ])
    refine wpAnyH_take (i := 3) (oi := { dst := some 41, op := .move (.tmp 12), type := _, pos := _, after := _, guard := none }) (v := .int .i64 (n : Int)) rfl (by kernel_rfl) (by kernel_rfl) (by kernel_rfl) (fun _ _ _ h => h) (Or.inl ⟨by rfl, by intro x _; go_simp⟩) hS ?_
    (try simp only [Act.put, List.setIfInBounds_toArray, List.set_cons_zero, List.set_cons_succ])
    refine wpAnyH_take (i := 4) (oi := { dst := some 42, op := .slice 9 (.tmp 40) none (some (.tmp 41)) none, type := _, pos := _, after := _, guard := none }) (v := .string yc) rfl (by kernel_rfl) (by kernel_rfl) (by kernel_rfl) (fun _ _ _ h => h) (Or.inl ⟨by rfl, by intro x _; go_simp⟩) hS ?_
    (try simp only [Act.put, List.setIfInBounds_toArray, List.set_cons_zero, List.set_cons_succ])
    refine wpAnyH_take (i := 6) (oi := { dst := some 44, op := .move (.tmp 3), type := _, pos := _, after := _, guard := none }) (v := .string box) rfl (by kernel_rfl) (by kernel_rfl) (by kernel_rfl) (fun _ _ _ h => h) (Or.inl ⟨by rfl, by intro x _; go_simp⟩) hS ?_
    (try simp only [Act.put, List.setIfInBounds_toArray, List.set_cons_zero, List.set_cons_succ])
    refine wpAnyH_take (i := 7) (oi := { dst := some 45, op := .move (.tmp 12), type := _, pos := _, after := _, guard := none }) (v := .int .i64 (n : Int)) rfl (by kernel_rfl) (by kernel_rfl) (by kernel_rfl) (fun _ _ _ h => h) (Or.inl ⟨by rfl, by intro x _; go_simp⟩) hS ?_
    (try simp only [Act.put, List.setIfInBounds_toArray, List.set_cons_zero, List.set_cons_succ])
    refine wpAnyH_take (i := 8) (oi := { dst := some 46, op := .slice 9 (.tmp 44) (some (.tmp 45)) none none, type := _, pos := _, after := _, guard := none }) (v := .string yg) rfl (by kernel_rfl) (by kernel_rfl) (by kernel_rfl) (fun _ _ _ h => h) (Or.inl ⟨by rfl, by intro x _; go_simp⟩) hS ?_
    (try simp only [Act.put, List.setIfInBounds_toArray, List.set_cons_zero, List.set_cons_succ])
    refine wpAnyH_ready (rs := [5]) (by kernel_rfl) (by simp) ?_
    refine AllReadyH.cons (o := { dst := some 43, op := .call { callee := .value (.func 14), args := #[.tmp 38, .tmp 39, .tmp 42], argTypes := #[39, 9, 9] }, type := _, pos := _, after := _, guard := none }) rfl (fun K hK => ?_) AllReadyH.nil
    go_simp
    refine (htg V (HTT.out V hS.2).1 (HTT.out V hS.2).2).mono ?_
    rintro e W2 ⟨rfl, hbc⟩
    have hS2 := HKS.out V W2 hS hbc
    refine hK.out _ _ hS2 (fun _ => ?_)
    clear hK K
    (try simp only [Act.put, List.setIfInBounds_toArray, List.set_cons_zero, List.set_cons_succ])
    revert hS2
    clear hS hbc
    generalize W2 = V
    intro hS
    refine wpAnyH_take (i := 9) (oi := { dst := some 47, op := .binOp .neq 9 (.tmp 43) (.tmp 46) 9, type := _, pos := _, after := _, guard := none }) (v := .bool false) rfl (by kernel_rfl) (by kernel_rfl) (by kernel_rfl) (fun _ _ _ h => h) (Or.inl ⟨by rfl, by intro x _; go_simp⟩) hS ?_
    (try simp only [Act.put, List.setIfInBounds_toArray, List.set_cons_zero, List.set_cons_succ])
    refine wpAnyH_done (by kernel_rfl) ?_ _
    go_wp2_with fail
    refine wp_region_held_drew (S := fun W => W.rangeAt g 0 [.string yk, .string yn] ∧ Below w.heap.size w W) (by kernel_rfl) ⟨hS.1, hS.2.drew⟩ ?_
    clear hS
    generalize V.drew = V
    intro hS
    refine wpAnyH_take (i := 0) (oi := { dst := some 49, op := .fieldAddr 39 (.tmp 11) 0, type := _, pos := _, after := _, guard := none }) (v := .pointer (some ⟨g, 0, none⟩)) rfl (by kernel_rfl) (by kernel_rfl) (by kernel_rfl) (fun _ _ _ h => h) (Or.inl ⟨by rfl, by intro x _; go_simp⟩) hS ?_
    (try simp only [Act.put, List.setIfInBounds_toArray, List.set_cons_zero, List.set_cons_succ])
    refine wpAnyH_take (i := 1) (oi := { dst := some 50, op := .load 9 (.tmp 49), type := _, pos := _, after := _, guard := none }) (v := .string yk) rfl (by kernel_rfl) (by kernel_rfl) (by kernel_rfl) (fun _ _ _ h => h) (Or.inl ⟨by rfl, by intro x hx; have h1 : x.cell? ⟨g, 0, none⟩ = some (.string yk) := hx.1 0 _ rfl; go_simp⟩) hS ?_
    (try simp only [Act.put, List.setIfInBounds_toArray, List.set_cons_zero, List.set_cons_succ])
    refine wpAnyH_take (i := 2) (oi := { dst := some 51, op := .fieldAddr 39 (.tmp 11) 1, type := _, pos := _, after := _, guard := none }) (v := .pointer (some ⟨g, 1, none⟩)) rfl (by kernel_rfl) (by kernel_rfl) (by kernel_rfl) (fun _ _ _ h => h) (Or.inl ⟨by rfl, by intro x _; go_simp⟩) hS ?_
    (try simp only [Act.put, List.setIfInBounds_toArray, List.set_cons_zero, List.set_cons_succ])
    refine wpAnyH_take (i := 3) (oi := { dst := some 52, op := .load 9 (.tmp 51), type := _, pos := _, after := _, guard := none }) (v := .string yn) rfl (by kernel_rfl) (by kernel_rfl) (by kernel_rfl) (fun _ _ _ h => h) (Or.inl ⟨by rfl, by intro x hx; have h1 : x.cell? ⟨g, 1, none⟩ = some (.string yn) := hx.1 1 _ rfl; go_simp⟩) hS ?_
    (try simp only [Act.put, List.setIfInBounds_toArray, List.set_cons_zero, List.set_cons_succ])
    refine wpAnyH_take (i := 4) (oi := { dst := some 53, op := .move (.tmp 3), type := _, pos := _, after := _, guard := none }) (v := .string box) rfl (by kernel_rfl) (by kernel_rfl) (by kernel_rfl) (fun _ _ _ h => h) (Or.inl ⟨by rfl, by intro x _; go_simp⟩) hS ?_
    (try simp only [Act.put, List.setIfInBounds_toArray, List.set_cons_zero, List.set_cons_succ])
    refine wpAnyH_take (i := 5) (oi := { dst := some 54, op := .move (.tmp 12), type := _, pos := _, after := _, guard := none }) (v := .int .i64 (n : Int)) rfl (by kernel_rfl) (by kernel_rfl) (by kernel_rfl) (fun _ _ _ h => h) (Or.inl ⟨by rfl, by intro x _; go_simp⟩) hS ?_
    (try simp only [Act.put, List.setIfInBounds_toArray, List.set_cons_zero, List.set_cons_succ])
    refine wpAnyH_take (i := 6) (oi := { dst := some 55, op := .slice 9 (.tmp 53) none (some (.tmp 54)) none, type := _, pos := _, after := _, guard := none }) (v := .string yc) rfl (by kernel_rfl) (by kernel_rfl) (by kernel_rfl) (fun _ _ _ h => h) (Or.inl ⟨by rfl, by intro x _; go_simp⟩) hS ?_
    (try simp only [Act.put, List.setIfInBounds_toArray, List.set_cons_zero, List.set_cons_succ])
    refine wpAnyH_ready (rs := [7]) (by kernel_rfl) (by simp) ?_
    refine AllReadyH.cons (o := { dst := some 56, op := .call { callee := .value (.func 15), args := #[.tmp 50, .const (.int .i64 1), .tmp 52, .tmp 55], argTypes := #[9, 3, 9, 9] }, type := _, pos := _, after := _, guard := none }) rfl (fun K hK => ?_) AllReadyH.nil
    go_simp
    refine (hxo V (HTT.out V hS.2).1 (HTT.out V hS.2).2).mono ?_
    rintro e W2 ⟨rfl, hbc⟩
    have hS2 := HKS.out V W2 hS hbc
    refine hK.out _ _ hS2 (fun _ => ?_)
    clear hK K
    (try simp only [Act.put, List.setIfInBounds_toArray, List.set_cons_zero, List.set_cons_succ])
    revert hS2
    clear hS hbc
    generalize W2 = V
    intro hS
    refine wpAnyH_take (i := 8) (oi := { dst := some 48, op := .move (.tmp 56), type := _, pos := _, after := _, guard := none }) (v := .tuple #[.string Y, .int .i64 0]) rfl (by kernel_rfl) (by kernel_rfl) (by kernel_rfl) (fun _ _ _ h => h) (Or.inl ⟨by rfl, by intro x _; go_simp⟩) hS ?_
    (try simp only [Act.put, List.setIfInBounds_toArray, List.set_cons_zero, List.set_cons_succ])
    refine wpAnyH_take (i := 9) (oi := { dst := some 57, op := .extract (.tmp 48) 0, type := _, pos := _, after := _, guard := none }) (v := .string Y) rfl (by kernel_rfl) (by kernel_rfl) (by kernel_rfl) (fun _ _ _ h => h) (Or.inl ⟨by rfl, by intro x _; go_simp⟩) hS ?_
    (try simp only [Act.put, List.setIfInBounds_toArray, List.set_cons_zero, List.set_cons_succ])
    refine wpAnyH_take (i := 10) (oi := { dst := some 58, op := .extract (.tmp 48) 1, type := _, pos := _, after := _, guard := none }) (v := .int .i64 0) rfl (by kernel_rfl) (by kernel_rfl) (by kernel_rfl) (fun _ _ _ h => h) (Or.inl ⟨by rfl, by intro x _; go_simp⟩) hS ?_
    (try simp only [Act.put, List.setIfInBounds_toArray, List.set_cons_zero, List.set_cons_succ])
    refine wpAnyH_take (i := 11) (oi := { dst := some 13, op := .assign (.tmp 57), type := _, pos := _, after := _, guard := none }) (v := .string Y) rfl (by kernel_rfl) (by kernel_rfl) (by kernel_rfl) (fun _ _ _ h => h) (Or.inl ⟨by rfl, by intro x _; go_simp⟩) hS ?_
    (try simp only [Act.put, List.setIfInBounds_toArray, List.set_cons_zero, List.set_cons_succ])
    refine wpAnyH_take (i := 12) (oi := { dst := some 14, op := .assign (.tmp 58), type := _, pos := _, after := _, guard := none }) (v := .int .i64 0) rfl (by kernel_rfl) (by kernel_rfl) (by kernel_rfl) (fun _ _ _ h => h) (Or.inl ⟨by rfl, by intro x _; go_simp⟩) hS ?_
    (try simp only [Act.put, List.setIfInBounds_toArray, List.set_cons_zero, List.set_cons_succ])
    refine wpAnyH_done (by kernel_rfl) ?_ _
    go_wp2
    go_ret2
    exact ⟨rfl, hS.2⟩
  · have hnb : (yg.toList == yt.toList) = false := by
      apply beq_eq_false_iff_ne.2
      intro e
      apply hq
      rw [toList_data, toList_data] at e
      rw [← str_of yg, ← str_of yt, e]
    have hnd : (yg.data.toList == yt.data.toList) = false := by rw [← toList_data, ← toList_data]; exact hnb
    rw [hnd, if_neg (by simp)] at hE
    subst hE
    rw [if_neg (by decide)] at hY
    subst hY
    go_enter Tryd.func5, Tryd.ntmps5
    go_wp2_with fail
    refine hask.mono ?_
    rintro e w' ⟨rfl, rfl⟩
    go_wp2_with fail
    refine hsh.mono ?_
    rintro e w1 ⟨rfl, hb1⟩
    have hb2 := hb1.alloc hb1.size (.cells #[.string yk, .string yn] 39)
    have hA : (w1.alloc (.cells #[.string yk, .string yn] 39)).heap[w1.heap.size]? = some (.cells #[.string yk, .string yn] 39 (0, 0)) := heap_new _ _
    go_wp2_with fail
    have HKS : Hid (∀ V W : World, (V.rangeAt w1.heap.size 0 [.string yk, .string yn] ∧ Below w.heap.size w V) → Below V.heap.size V W → (W.rangeAt w1.heap.size 0 [.string yk, .string yn] ∧ Below w.heap.size w W)) := fun V W k hb => by
      have hp : w1.heap.size < V.heap.size := by have := block_lt_of_cell (k.1 0 _ rfl); simpa using this
      exact ⟨fun d v hv => (hb.cell (p := ⟨w1.heap.size, 0 + d, none⟩) hp).trans (k.1 d v hv), k.2.trans (hb.mono k.2.size)⟩
    have hS0 : (w1.alloc (.cells #[.string yk, .string yn] 39)).drew.rangeAt w1.heap.size 0 [.string yk, .string yn] ∧ Below w.heap.size w (w1.alloc (.cells #[.string yk, .string yn] 39)).drew := ⟨range_of_heap (pre := []) (post := []) hA rfl, hb2.drew⟩
    clear hA hb1 hb2
    refine wp_region_held_drew (S := fun W => W.rangeAt w1.heap.size 0 [.string yk, .string yn] ∧ Below w.heap.size w W) (by kernel_rfl) hS0 ?_
    intro hS
    clear hS0
    revert hS HKS
    generalize (w1.alloc (.cells #[.string yk, .string yn] 39)).drew = V
    generalize w1.heap.size = g
    intro HKS hS
    refine wpAnyH_take (i := 0) (oi := { dst := some 38, op := .load 39 (.tmp 11), type := _, pos := _, after := _, guard := none }) (v := .agg ([.string yk, .string yn]).toArray) rfl (by kernel_rfl) (by kernel_rfl) (by kernel_rfl) (fun _ _ _ h => h) (yieldsIf_load_mid (by rfl) 39 (.tmp 11) rfl g 0 (by simp [Act.eval]) ([.string yk, .string yn]) _ (fun x hx => hx.1) Tryd.underlying39 rfl sizePair) hS ?_
    (try simp only [Act.put, List.setIfInBounds_toArray, List.set_cons_zero, List.set_cons_succ])
    refine wpAnyH_take (i := 1) (oi := { dst := some 39, op := .move (.tmp 2), type := _, pos := _, after := _, guard := none }) (v := .string aad) rfl (by kernel_rfl) (by kernel_rfl) (by kernel_rfl) (fun _ _ _ h => h) (Or.inl ⟨by rfl, by intro x _; go_simp⟩) hS ?_
    (try simp only [Act.put, List.setIfInBounds_toArray, List.set_cons_zero, List.set_cons_succ])
    refine wpAnyH_take (i := 2) (oi := { dst := some 40, op := .move (.tmp 3), type := _, pos := _, after := _, guard := none }) (v := .string box) rfl (by kernel_rfl) (by kernel_rfl) (by kernel_rfl) (fun _ _ _ h => h) (Or.inl ⟨by rfl, by intro x _; go_simp⟩) hS ?_
    (try simp only [Act.put, List.setIfInBounds_toArray, List.set_cons_zero, List.set_cons_succ])
    refine wpAnyH_take (i := 3) (oi := { dst := some 41, op := .move (.tmp 12), type := _, pos := _, after := _, guard := none }) (v := .int .i64 (n : Int)) rfl (by kernel_rfl) (by kernel_rfl) (by kernel_rfl) (fun _ _ _ h => h) (Or.inl ⟨by rfl, by intro x _; go_simp⟩) hS ?_
    (try simp only [Act.put, List.setIfInBounds_toArray, List.set_cons_zero, List.set_cons_succ])
    refine wpAnyH_take (i := 4) (oi := { dst := some 42, op := .slice 9 (.tmp 40) none (some (.tmp 41)) none, type := _, pos := _, after := _, guard := none }) (v := .string yc) rfl (by kernel_rfl) (by kernel_rfl) (by kernel_rfl) (fun _ _ _ h => h) (Or.inl ⟨by rfl, by intro x _; go_simp⟩) hS ?_
    (try simp only [Act.put, List.setIfInBounds_toArray, List.set_cons_zero, List.set_cons_succ])
    refine wpAnyH_take (i := 6) (oi := { dst := some 44, op := .move (.tmp 3), type := _, pos := _, after := _, guard := none }) (v := .string box) rfl (by kernel_rfl) (by kernel_rfl) (by kernel_rfl) (fun _ _ _ h => h) (Or.inl ⟨by rfl, by intro x _; go_simp⟩) hS ?_
    (try simp only [Act.put, List.setIfInBounds_toArray, List.set_cons_zero, List.set_cons_succ])
    refine wpAnyH_take (i := 7) (oi := { dst := some 45, op := .move (.tmp 12), type := _, pos := _, after := _, guard := none }) (v := .int .i64 (n : Int)) rfl (by kernel_rfl) (by kernel_rfl) (by kernel_rfl) (fun _ _ _ h => h) (Or.inl ⟨by rfl, by intro x _; go_simp⟩) hS ?_
    (try simp only [Act.put, List.setIfInBounds_toArray, List.set_cons_zero, List.set_cons_succ])
    refine wpAnyH_take (i := 8) (oi := { dst := some 46, op := .slice 9 (.tmp 44) (some (.tmp 45)) none none, type := _, pos := _, after := _, guard := none }) (v := .string yt) rfl (by kernel_rfl) (by kernel_rfl) (by kernel_rfl) (fun _ _ _ h => h) (Or.inl ⟨by rfl, by intro x _; go_simp⟩) hS ?_
    (try simp only [Act.put, List.setIfInBounds_toArray, List.set_cons_zero, List.set_cons_succ])
    refine wpAnyH_ready (rs := [5]) (by kernel_rfl) (by simp) ?_
    refine AllReadyH.cons (o := { dst := some 43, op := .call { callee := .value (.func 14), args := #[.tmp 38, .tmp 39, .tmp 42], argTypes := #[39, 9, 9] }, type := _, pos := _, after := _, guard := none }) rfl (fun K hK => ?_) AllReadyH.nil
    go_simp
    refine (htg V (HTT.out V hS.2).1 (HTT.out V hS.2).2).mono ?_
    rintro e W2 ⟨rfl, hbc⟩
    have hS2 := HKS.out V W2 hS hbc
    refine hK.out _ _ hS2 (fun _ => ?_)
    clear hK K
    (try simp only [Act.put, List.setIfInBounds_toArray, List.set_cons_zero, List.set_cons_succ])
    revert hS2
    clear hS hbc
    generalize W2 = V
    intro hS
    refine wpAnyH_take (i := 9) (oi := { dst := some 47, op := .binOp .neq 9 (.tmp 43) (.tmp 46) 9, type := _, pos := _, after := _, guard := none }) (v := .bool true) rfl (by kernel_rfl) (by kernel_rfl) (by kernel_rfl) (fun _ _ _ h => h) (Or.inl ⟨by rfl, by intro x _; go_simp⟩) hS ?_
    (try simp only [Act.put, List.setIfInBounds_toArray, List.set_cons_zero, List.set_cons_succ])
    refine wpAnyH_done (by kernel_rfl) ?_ _
    go_wp2
    go_ret2
    exact ⟨rfl, hS.2⟩

end Go.Proofs.YtebhmebldemndabDoor.Ae
