import Derived.Test.YtnfddiabhpandaaGreatDoorKqM
import Derived.Test.YtnfddiabhpandaaGreatDoorKcM
import Derived.Test.YtnfddiabhpandaaGreatDoorPbX
import Derived.Deep.DeepCutAuto
namespace Go.Proofs.YtnfddiabhpandaaGreatDoor.Tr
open Go.RowKit Go.Lib Go.Deep

theorem nameE_ok {n : ByteArray} (h : Pa.nm n = true) : Pa.nameE n = 0 := by
  unfold Pa.nameE
  simp [h]
set_option maxRecDepth 20000 in
set_option maxHeartbeats 2000000 in
theorem enterD_any (w : World) (q : Nat) (F : List Nat) (nn : Nat) (T : Ts) (hL : Lay w q F nn T) (xn xp : Nat) (xm : ByteArray) (hn : Pa.nm xm = true) (hx : T.D.length ≤ xn) (hME : T.M xn = fun _ => none) (hr : xn < T.dr) :
    Calls Tryz.prog 77 #[.pointer (some ⟨q, 0, none⟩), .agg #[.int .i64 1, .int .i64 (xn : Int), .int .i64 (xp : Int), .string xm, .int .i64 0]] w fun e w' => e = .returned (.bool true) ∧ Turn F w w' q nn { T with D := gapL T.D xn (some (xp, xm)) } := by
  obtain ⟨W, hW, hb, k0⟩ := one_new w #[.int .i64 1, .int .i64 (xn : Int), .int .i64 (xp : Int), .string xm, .int .i64 0] 50
  have hnm := Pa.name_any xm W
  rw [nameE_ok hn] at hnm
  have HCL : Hid (∀ V : World, Calls Tryz.prog 120 #[.string xm] V fun e w' => e = .returned (.string xm) ∧ Below V.heap.size V w') := fun V => Pa.clone_any xm (by have := nm_size hn; omega) V
  have HK : Hid (∀ V, Below W.heap.size W V → V.heap[w.heap.size]? = some (.cells #[.int .i64 1, .int .i64 (xn : Int), .int .i64 (xp : Int), .string xm, .int .i64 0] 50 (0, 0))) := fun V hV => (hV.block _ (heap_lt k0)).trans k0
  have HSK : Hid (∀ V, Below W.heap.size W V → V.cell? ⟨w.heap.size, 2, none⟩ = some (.int .i64 (xp : Int)) ∧ V.cell? ⟨w.heap.size, 3, none⟩ = some (.string xm)) := fun V hV => ⟨(cell_of_heap (HK.out V hV)).trans rfl, (cell_of_heap (HK.out V hV)).trans rfl⟩
  have HB : Hid (Below w.heap.size w W) := hb
  have HFL : Hid (∀ k, k ∈ F → k < w.heap.size) := hL.lt
  have HCD : Hid (∀ (V : World) (m : Nat), Below w.heap.size w V → w.heap.size ≤ m → V.ownsMap Tryz.prog 9 nodeR m 0 (.map []) → Calls Tryz.prog 73 #[.pointer (some ⟨q, 0, none⟩), .int .i64 (xn : Int), .agg #[.int .i64 (xp : Int), .string xm, .map (some m)]] V fun e w' => e = .returned (.bool true) ∧ Turn F w w' q nn { T with D := gapL T.D xn (some (xp, xm)) } ∧ Only F V w') := fun V m h1 h2 h3 => claimD_any w V q m F nn T hL h1 h2 h3 xn hx hME hr xp xm
  have HND : Hid (∀ V : World, Calls Tryz.prog 74 #[.agg #[.int .i64 (xp : Int), .string xm]] V fun e w' => ∃ m, e = .returned (.agg #[.int .i64 (xp : Int), .string xm, .map (some m)]) ∧ V.heap.size ≤ m ∧ w'.ownsMap Tryz.prog 9 nodeR m 0 (.map []) ∧ Below V.heap.size V w') := fun V => newDir_any V xp xm
  have x3 : W.cell? ⟨w.heap.size, 3, none⟩ = some (.string xm) := (cell_of_heap k0).trans rfl
  clear hL hn hx hME hr k0 hb
  go_enter Tryz.func77, Tryz.ntmps77
  go_wp2_with fail
  refine hnm.mono ?_
  rintro e w2 ⟨rfl, hb2⟩
  have HB2 : Hid (Below W.heap.size W w2) := hb2
  obtain ⟨x2, x3'⟩ := HSK.out _ hb2
  clear hnm hb2 x3
  go_upto_region 3 with fail
  go_cut [5] (fun u wx => ∃ g, u = .pointer (some ⟨g, 0, none⟩) ∧ Hid (wx.heap[g]? = some (.cells #[.int .i64 (xp : Int), .string xm] 128 (0, 0)) ∧ W.heap.size ≤ g ∧ Below W.heap.size W wx))
  case first =>
    refine wp_region_held_drew (S := fun V => V.cell? ⟨w.heap.size, 2, none⟩ = some (.int .i64 (xp : Int)) ∧ V.cell? ⟨w.heap.size, 3, none⟩ = some (.string xm)) (by kernel_rfl) ⟨x2, x3'⟩ ?_
    intro hS
    have HBV : Hid (Below W.heap.size W w2.drew) := HB2.out.drew
    clear x2 x3' hW HB2
    revert hS HBV
    generalize w2.drew = V
    intro hS HBV
    refine wpAnyH_take (i := 0) (oi := { dst := some 10, op := .fieldAddr 50 (.tmp 3) 2, type := _, pos := _, after := _, guard := none }) (v := .pointer (some ⟨w.heap.size, 2, none⟩)) rfl (by kernel_rfl) (by kernel_rfl) (by kernel_rfl) (fun _ _ _ h => h) (Or.inl ⟨by rfl, by intro x _; go_simp⟩) hS ?_
    (try simp only [Act.put, List.setIfInBounds_toArray, List.set_cons_zero, List.set_cons_succ])
    refine wpAnyH_take (i := 1) (oi := { dst := some 11, op := .load 3 (.tmp 10), type := _, pos := _, after := _, guard := none }) (v := .int .i64 (xp : Int)) rfl (by kernel_rfl) (by kernel_rfl) (by kernel_rfl) (fun _ _ _ h => h) (Or.inl ⟨by rfl, by intro x hx; have h1 := hx.1; go_simp⟩) hS ?_
    (try simp only [Act.put, List.setIfInBounds_toArray, List.set_cons_zero, List.set_cons_succ])
    refine wpAnyH_take (i := 2) (oi := { dst := some 12, op := .fieldAddr 50 (.tmp 3) 3, type := _, pos := _, after := _, guard := none }) (v := .pointer (some ⟨w.heap.size, 3, none⟩)) rfl (by kernel_rfl) (by kernel_rfl) (by kernel_rfl) (fun _ _ _ h => h) (Or.inl ⟨by rfl, by intro x _; go_simp⟩) hS ?_
    (try simp only [Act.put, List.setIfInBounds_toArray, List.set_cons_zero, List.set_cons_succ])
    refine wpAnyH_take (i := 3) (oi := { dst := some 13, op := .load 9 (.tmp 12), type := _, pos := _, after := _, guard := none }) (v := .string xm) rfl (by kernel_rfl) (by kernel_rfl) (by kernel_rfl) (fun _ _ _ h => h) (Or.inl ⟨by rfl, by intro x hx; have h1 := hx.2; go_simp⟩) hS ?_
    (try simp only [Act.put, List.setIfInBounds_toArray, List.set_cons_zero, List.set_cons_succ])
    refine wpAnyH_ready (rs := [4, 6]) (by kernel_rfl) (by simp) ?_
    refine AllReadyH.cons (o := { dst := some 14, op := .call { callee := .value (.func 120), args := #[.tmp 13], argTypes := #[9] }, type := _, pos := _, after := _, guard := none }) rfl (fun K hK => ?_) (AllReadyH.cons (o := { dst := some 5, op := .alloc 128, type := _, pos := _, after := _, guard := none }) rfl (fun K hK => ?_) AllReadyH.nil)
    · go_simp
      refine (HCL.out _).mono ?_
      rintro e W2 ⟨rfl, hbA⟩
      have HB2 : Hid (Below W.heap.size W W2) := below_on hbA HBV.out
      have hS2 := HSK.out _ HB2.out
      refine hK.out _ _ hS2 (fun _ => ?_)
      clear hK K hS HBV hbA 
      (try simp only [Act.put, List.setIfInBounds_toArray, List.set_cons_zero, List.set_cons_succ])
      revert HB2 hS2 
      generalize W2 = V
      intro HBV hS 
      refine wpAnyH_take (i := 5) (oi := { dst := some 15, op := .build 128 #[(0, .tmp 11), (1, .tmp 14)], type := _, pos := _, after := _, guard := none }) (v := .agg #[.int .i64 (xp : Int), .string xm]) rfl (by kernel_rfl) (by kernel_rfl) (by kernel_rfl) (fun _ _ _ h => h) (Or.inl ⟨by rfl, by intro x _; go_simp⟩) hS ?_
      (try simp only [Act.put, List.setIfInBounds_toArray, List.set_cons_zero, List.set_cons_succ])
      refine wpAnyH_ready (rs := [6]) (by kernel_rfl) (by simp) ?_
      refine AllReadyH.cons (o := { dst := some 5, op := .alloc 128, type := _, pos := _, after := _, guard := none }) rfl (fun K hK => ?_) AllReadyH.nil
      go_simp
      have hbA : Below V.heap.size V (V.alloc (.cells #[.int .i64 0, .string { data := #[] }] 128)) := (Below.refl _ _).alloc (Nat.le_refl _) _
      have HB2 : Hid (Below W.heap.size W (V.alloc (.cells #[.int .i64 0, .string { data := #[] }] 128))) := below_on hbA HBV.out
      have hS2 := HSK.out _ HB2.out
      have HT2 : Hid ((V.alloc (.cells #[.int .i64 0, .string { data := #[] }] 128)).heap[V.heap.size]? = some (.cells #[.int .i64 0, .string { data := #[] }] 128 (0, 0)) ∧ W.heap.size ≤ V.heap.size) := ⟨heap_new V _, HBV.out.size⟩
      refine hK.out _ _ hS2 (fun _ => ?_)
      clear hK K hS HBV hbA
      (try simp only [Act.put, List.setIfInBounds_toArray, List.set_cons_zero, List.set_cons_succ])
      revert HB2 hS2 HT2
      generalize (V.alloc (.cells #[.int .i64 0, .string { data := #[] }] 128)) = V2
      generalize V.heap.size = g
      intro HBV hS HT
      revert HBV hS HT
      generalize V2 = V
      intro HBV hS HT
      refine wpAnyH_ready (rs := [7]) (by kernel_rfl) (by simp) ?_
      refine AllReadyH.cons (o := { dst := none, op := .store 128 (.tmp 5) (.tmp 15), type := _, pos := _, after := _, guard := none }) rfl (fun K hK => ?_) AllReadyH.nil
      refine step_store_row rfl 128 (.tmp 5) (.tmp 15) rfl g #[.int .i64 (xp : Int), .string xm] (by simp [Act.eval]) (by simp [Act.eval]) 128 _ HT.out.1 sizePlace rfl (by simp [Value.oneCell']) ?_
      have HB2 : Hid (Below W.heap.size W (V.setRow g #[.int .i64 (xp : Int), .string xm])) := setRow_below HBV.out HT.out.2 _
      have hS2 := HSK.out _ HB2.out
      have HT2 : Hid ((V.setRow g #[.int .i64 (xp : Int), .string xm]).heap[g]? = some (.cells #[.int .i64 (xp : Int), .string xm] 128 (0, 0)) ∧ W.heap.size ≤ g) := ⟨setRow_heap _ _ _ _ _ _ HT.out.1, HT.out.2⟩
      refine hK.out _ _ hS2 (fun _ => ?_)
      clear hK K hS HT HBV
      (try simp only [Act.put])
      revert HB2 hS2 HT2
      generalize (V.setRow g #[.int .i64 (xp : Int), .string xm]) = V2
      intro HBV hS HT
      revert HBV hS HT
      generalize V2 = V
      intro HBV hS HT
      refine wpAnyH_done (by kernel_rfl) ?_ _
      go_wp2_with fail
      go_meet
      exact ⟨g, rfl, ⟨HT.out.1, HT.out.2, HBV.out⟩⟩
    · go_simp
      have hbA : Below V.heap.size V (V.alloc (.cells #[.int .i64 0, .string { data := #[] }] 128)) := (Below.refl _ _).alloc (Nat.le_refl _) _
      have HB2 : Hid (Below W.heap.size W (V.alloc (.cells #[.int .i64 0, .string { data := #[] }] 128))) := below_on hbA HBV.out
      have hS2 := HSK.out _ HB2.out
      have HT2 : Hid ((V.alloc (.cells #[.int .i64 0, .string { data := #[] }] 128)).heap[V.heap.size]? = some (.cells #[.int .i64 0, .string { data := #[] }] 128 (0, 0)) ∧ W.heap.size ≤ V.heap.size) := ⟨heap_new V _, HBV.out.size⟩
      refine hK.out _ _ hS2 (fun _ => ?_)
      clear hK K hS HBV hbA
      (try simp only [Act.put, List.setIfInBounds_toArray, List.set_cons_zero, List.set_cons_succ])
      revert HB2 hS2 HT2
      generalize (V.alloc (.cells #[.int .i64 0, .string { data := #[] }] 128)) = V2
      generalize V.heap.size = g
      intro HBV hS HT
      revert HBV hS HT
      generalize V2 = V
      intro HBV hS HT
      refine wpAnyH_ready (rs := [4]) (by kernel_rfl) (by simp) ?_
      refine AllReadyH.cons (o := { dst := some 14, op := .call { callee := .value (.func 120), args := #[.tmp 13], argTypes := #[9] }, type := _, pos := _, after := _, guard := none }) rfl (fun K hK => ?_) AllReadyH.nil
      go_simp
      refine (HCL.out _).mono ?_
      rintro e W2 ⟨rfl, hbA⟩
      have HB2 : Hid (Below W.heap.size W W2) := below_on hbA HBV.out
      have hS2 := HSK.out _ HB2.out
      have HT2 : Hid (W2.heap[g]? = some (.cells #[.int .i64 0, .string { data := #[] }] 128 (0, 0)) ∧ W.heap.size ≤ g) := ⟨(hbA.block _ (heap_lt HT.out.1)).trans HT.out.1, HT.out.2⟩
      refine hK.out _ _ hS2 (fun _ => ?_)
      clear hK K hS HBV hbA HT
      (try simp only [Act.put, List.setIfInBounds_toArray, List.set_cons_zero, List.set_cons_succ])
      revert HB2 hS2 HT2
      generalize W2 = V
      intro HBV hS HT
      refine wpAnyH_take (i := 5) (oi := { dst := some 15, op := .build 128 #[(0, .tmp 11), (1, .tmp 14)], type := _, pos := _, after := _, guard := none }) (v := .agg #[.int .i64 (xp : Int), .string xm]) rfl (by kernel_rfl) (by kernel_rfl) (by kernel_rfl) (fun _ _ _ h => h) (Or.inl ⟨by rfl, by intro x _; go_simp⟩) hS ?_
      (try simp only [Act.put, List.setIfInBounds_toArray, List.set_cons_zero, List.set_cons_succ])
      refine wpAnyH_ready (rs := [7]) (by kernel_rfl) (by simp) ?_
      refine AllReadyH.cons (o := { dst := none, op := .store 128 (.tmp 5) (.tmp 15), type := _, pos := _, after := _, guard := none }) rfl (fun K hK => ?_) AllReadyH.nil
      refine step_store_row rfl 128 (.tmp 5) (.tmp 15) rfl g #[.int .i64 (xp : Int), .string xm] (by simp [Act.eval]) (by simp [Act.eval]) 128 _ HT.out.1 sizePlace rfl (by simp [Value.oneCell']) ?_
      have HB2 : Hid (Below W.heap.size W (V.setRow g #[.int .i64 (xp : Int), .string xm])) := setRow_below HBV.out HT.out.2 _
      have hS2 := HSK.out _ HB2.out
      have HT2 : Hid ((V.setRow g #[.int .i64 (xp : Int), .string xm]).heap[g]? = some (.cells #[.int .i64 (xp : Int), .string xm] 128 (0, 0)) ∧ W.heap.size ≤ g) := ⟨setRow_heap _ _ _ _ _ _ HT.out.1, HT.out.2⟩
      refine hK.out _ _ hS2 (fun _ => ?_)
      clear hK K hS HT HBV
      (try simp only [Act.put])
      revert HB2 hS2 HT2
      generalize (V.setRow g #[.int .i64 (xp : Int), .string xm]) = V2
      intro HBV hS HT
      revert HBV hS HT
      generalize V2 = V
      intro HBV hS HT
      refine wpAnyH_done (by kernel_rfl) ?_ _
      go_wp2_with fail
      go_meet
      exact ⟨g, rfl, ⟨HT.out.1, HT.out.2, HBV.out⟩⟩
  case rest =>
  obtain ⟨g, rfl, HL⟩ := hcut
  clear x2 x3' hW HB2 HCL
  obtain ⟨l1, l2, l3⟩ := HL.out
  have k3 := HK.out _ l3
  have y0 : wc.cell? ⟨w.heap.size, 0, none⟩ = some (.int .i64 1) := (cell_of_heap k3).trans rfl
  have y1 : wc.cell? ⟨w.heap.size, 1, none⟩ = some (.int .i64 (xn : Int)) := (cell_of_heap k3).trans rfl
  have y4 : wc.cell? ⟨w.heap.size, 4, none⟩ = some (.int .i64 0) := (cell_of_heap k3).trans rfl
  have z0 : wc.cell? ⟨g, 0, none⟩ = some (.int .i64 (xp : Int)) := (cell_of_heap l1).trans rfl
  have z1 : wc.cell? ⟨g, 1, none⟩ = some (.string xm) := (cell_of_heap l1).trans rfl
  have HS6 : Hid (∀ V : World, (∀ k, w.heap.size ≤ k → k < wc.heap.size → V.heap[k]? = wc.heap[k]?) → V.cell? ⟨w.heap.size, 1, none⟩ = some (.int .i64 (xn : Int)) ∧ V.cell? ⟨w.heap.size, 4, none⟩ = some (.int .i64 0) ∧ V.cell? ⟨g, 0, none⟩ = some (.int .i64 (xp : Int)) ∧ V.cell? ⟨g, 1, none⟩ = some (.string xm)) := fun V hV => by
    have j3 := (hV _ (Nat.le_refl _) (heap_lt k3)).trans k3
    have j1 := (hV _ (Nat.le_trans HB.out.size l2) (heap_lt l1)).trans l1
    exact ⟨(cell_of_heap j3).trans rfl, (cell_of_heap j3).trans rfl, (cell_of_heap j1).trans rfl, (cell_of_heap j1).trans rfl⟩
  have HBC : Hid (Below w.heap.size w wc) := below_on l3 HB.out
  have hbd : Below wc.heap.size wc wc.drew := (Below.refl _ _).drew
  clear l1 l2 l3 k3
  go_wp2_with fail
  skip
  go_region_held_law (fun V => V.cell? ⟨w.heap.size, 1, none⟩ = some (.int .i64 (xn : Int)) ∧ V.cell? ⟨w.heap.size, 4, none⟩ = some (.int .i64 0) ∧ V.cell? ⟨g, 0, none⟩ = some (.int .i64 (xp : Int)) ∧ V.cell? ⟨g, 1, none⟩ = some (.string xm)) (first | exact HS6.out _ (fun _ _ _ => rfl) | exact HS6.out _ hk8 | exact HS6.out _ hk9) (first | (go_at_call 73; refine (HCD.out w8 m hbw8 hm8 ho8).mono ?_; rintro e w9 ⟨rfl, ht9, hy9⟩; have HT9 : Hid _ := ht9; have hk9 : ∀ k, w.heap.size ≤ k → k < wc.heap.size → w9.heap[k]? = wc.heap[k]? := fun k h1 h2 => (hy9.block k (Nat.lt_of_lt_of_le h2 hb8.size) (fun hm => by have := HFL.out k hm; omega)).trans (hk8 k h1 h2)) | (go_at_call 74; refine (HND.out _).mono ?_; rintro e w8 ⟨m, rfl, hm8', ho8, hb8'⟩; have hb8 : Below wc.heap.size wc w8 := hbd.trans hb8'; have hm8 : w.heap.size ≤ m := Nat.le_trans HBC.out.size hm8'; have hbw8 : Below w.heap.size w w8 := below_on hb8 HBC.out; have hk8 : ∀ k, w.heap.size ≤ k → k < wc.heap.size → w8.heap[k]? = wc.heap[k]? := fun k _ h2 => hb8.block k h2))
  go_wp2
  go_ret
  exact ⟨rfl, HT9.out⟩
set_option maxRecDepth 20000 in
set_option maxHeartbeats 2000000 in
theorem enterF_any (w : World) (q : Nat) (F : List Nat) (nn : Nat) (T : Ts) (hL : Lay w q F nn T) (xn xp : Nat) (xm : ByteArray) (hn : Pa.nm xm = true) (xs : Nat) (hs : xs ≤ T.most) (hx : T.F.length ≤ xn) (hr : xn < T.fr) :
    Calls Tryz.prog 77 #[.pointer (some ⟨q, 0, none⟩), .agg #[.int .i64 2, .int .i64 (xn : Int), .int .i64 (xp : Int), .string xm, .int .i64 (xs : Int)]] w fun e w' => e = .returned (.bool true) ∧ Turn F w w' q nn { T with F := gapL T.F xn (some (xp, xm, xs)) } := by
  obtain ⟨W, hW, hb, k0⟩ := one_new w #[.int .i64 2, .int .i64 (xn : Int), .int .i64 (xp : Int), .string xm, .int .i64 (xs : Int)] 50
  have hnm := Pa.name_any xm W
  rw [nameE_ok hn] at hnm
  have HCL : Hid (∀ V : World, Calls Tryz.prog 120 #[.string xm] V fun e w' => e = .returned (.string xm) ∧ Below V.heap.size V w') := fun V => Pa.clone_any xm (by have := nm_size hn; omega) V
  have HK : Hid (∀ V, Below W.heap.size W V → V.heap[w.heap.size]? = some (.cells #[.int .i64 2, .int .i64 (xn : Int), .int .i64 (xp : Int), .string xm, .int .i64 (xs : Int)] 50 (0, 0))) := fun V hV => (hV.block _ (heap_lt k0)).trans k0
  have HSK : Hid (∀ V, Below W.heap.size W V → V.cell? ⟨w.heap.size, 2, none⟩ = some (.int .i64 (xp : Int)) ∧ V.cell? ⟨w.heap.size, 3, none⟩ = some (.string xm)) := fun V hV => ⟨(cell_of_heap (HK.out V hV)).trans rfl, (cell_of_heap (HK.out V hV)).trans rfl⟩
  have HB : Hid (Below w.heap.size w W) := hb
  have HFL : Hid (∀ k, k ∈ F → k < w.heap.size) := hL.lt
  have HCF : Hid (∀ V : World, Below w.heap.size w V → Calls Tryz.prog 125 #[.pointer (some ⟨q, 3, none⟩), .int .i64 (xn : Int), .agg #[.int .i64 (xp : Int), .string xm, .int .i64 (xs : Int)]] V fun e w' => e = .returned (.bool true) ∧ Turn F w w' q nn { T with F := gapL T.F xn (some (xp, xm, xs)) } ∧ Only F V w') := fun V h1 => (claimF_any V q F nn T (hL.below h1) xn hx hr xp xs xm).mono fun e w' ⟨a1, a2, a3⟩ => ⟨a1, Turn.ahead h1 a2, a3⟩
  have HMO : Hid (∀ V, Below W.heap.size W V → V.cell? ⟨q, 6, none⟩ = some (.int .i64 (T.most : Int))) := fun V hV => by
    obtain ⟨dv, fv, ld, lf, ms, -, hI⟩ := (hL.below hb).below hV
    exact (cell_of_heap hI.hq).trans rfl
  have hsI : (xs : Int) ≤ (T.most : Int) := by omega
  have hs0 : (0 : Int) ≤ (xs : Int) := by omega
  obtain ⟨mo, hmo⟩ : ∃ mo, T.most = mo := ⟨_, rfl⟩
  have HMQ : Hid (∀ w', Turn F w w' q nn { T with F := gapL T.F xn (some (xp, xm, xs)) } → w'.cell? ⟨q, 6, none⟩ = some (.int .i64 (mo : Int))) := fun w' ht => by
    obtain ⟨_, F', ⟨dv, fv, ld, lf, ms, -, hI⟩, _⟩ := ht
    rw [← hmo]
    exact (cell_of_heap hI.hq).trans rfl
  rw [hmo] at hsI HMO
  clear hmo
  have x3 : W.cell? ⟨w.heap.size, 3, none⟩ = some (.string xm) := (cell_of_heap k0).trans rfl
  clear hL hn hx hs hr k0 hb
  go_enter Tryz.func77, Tryz.ntmps77
  go_wp2_with fail
  refine hnm.mono ?_
  rintro e w2 ⟨rfl, hb2⟩
  have HB2 : Hid (Below W.heap.size W w2) := hb2
  obtain ⟨x2, x3'⟩ := HSK.out _ hb2
  clear hnm hb2 x3
  go_upto_region 3 with fail
  go_cut [5] (fun u wx => ∃ g, u = .pointer (some ⟨g, 0, none⟩) ∧ Hid (wx.heap[g]? = some (.cells #[.int .i64 (xp : Int), .string xm] 128 (0, 0)) ∧ W.heap.size ≤ g ∧ Below W.heap.size W wx))
  case first =>
    refine wp_region_held_drew (S := fun V => V.cell? ⟨w.heap.size, 2, none⟩ = some (.int .i64 (xp : Int)) ∧ V.cell? ⟨w.heap.size, 3, none⟩ = some (.string xm)) (by kernel_rfl) ⟨x2, x3'⟩ ?_
    intro hS
    have HBV : Hid (Below W.heap.size W w2.drew) := HB2.out.drew
    clear x2 x3' hW HB2
    revert hS HBV
    generalize w2.drew = V
    intro hS HBV
    refine wpAnyH_take (i := 0) (oi := { dst := some 10, op := .fieldAddr 50 (.tmp 3) 2, type := _, pos := _, after := _, guard := none }) (v := .pointer (some ⟨w.heap.size, 2, none⟩)) rfl (by kernel_rfl) (by kernel_rfl) (by kernel_rfl) (fun _ _ _ h => h) (Or.inl ⟨by rfl, by intro x _; go_simp⟩) hS ?_
    (try simp only [Act.put, List.setIfInBounds_toArray, List.set_cons_zero, List.set_cons_succ])
    refine wpAnyH_take (i := 1) (oi := { dst := some 11, op := .load 3 (.tmp 10), type := _, pos := _, after := _, guard := none }) (v := .int .i64 (xp : Int)) rfl (by kernel_rfl) (by kernel_rfl) (by kernel_rfl) (fun _ _ _ h => h) (Or.inl ⟨by rfl, by intro x hx; have h1 := hx.1; go_simp⟩) hS ?_
    (try simp only [Act.put, List.setIfInBounds_toArray, List.set_cons_zero, List.set_cons_succ])
    refine wpAnyH_take (i := 2) (oi := { dst := some 12, op := .fieldAddr 50 (.tmp 3) 3, type := _, pos := _, after := _, guard := none }) (v := .pointer (some ⟨w.heap.size, 3, none⟩)) rfl (by kernel_rfl) (by kernel_rfl) (by kernel_rfl) (fun _ _ _ h => h) (Or.inl ⟨by rfl, by intro x _; go_simp⟩) hS ?_
    (try simp only [Act.put, List.setIfInBounds_toArray, List.set_cons_zero, List.set_cons_succ])
    refine wpAnyH_take (i := 3) (oi := { dst := some 13, op := .load 9 (.tmp 12), type := _, pos := _, after := _, guard := none }) (v := .string xm) rfl (by kernel_rfl) (by kernel_rfl) (by kernel_rfl) (fun _ _ _ h => h) (Or.inl ⟨by rfl, by intro x hx; have h1 := hx.2; go_simp⟩) hS ?_
    (try simp only [Act.put, List.setIfInBounds_toArray, List.set_cons_zero, List.set_cons_succ])
    refine wpAnyH_ready (rs := [4, 6]) (by kernel_rfl) (by simp) ?_
    refine AllReadyH.cons (o := { dst := some 14, op := .call { callee := .value (.func 120), args := #[.tmp 13], argTypes := #[9] }, type := _, pos := _, after := _, guard := none }) rfl (fun K hK => ?_) (AllReadyH.cons (o := { dst := some 5, op := .alloc 128, type := _, pos := _, after := _, guard := none }) rfl (fun K hK => ?_) AllReadyH.nil)
    · go_simp
      refine (HCL.out _).mono ?_
      rintro e W2 ⟨rfl, hbA⟩
      have HB2 : Hid (Below W.heap.size W W2) := below_on hbA HBV.out
      have hS2 := HSK.out _ HB2.out
      refine hK.out _ _ hS2 (fun _ => ?_)
      clear hK K hS HBV hbA 
      (try simp only [Act.put, List.setIfInBounds_toArray, List.set_cons_zero, List.set_cons_succ])
      revert HB2 hS2 
      generalize W2 = V
      intro HBV hS 
      refine wpAnyH_take (i := 5) (oi := { dst := some 15, op := .build 128 #[(0, .tmp 11), (1, .tmp 14)], type := _, pos := _, after := _, guard := none }) (v := .agg #[.int .i64 (xp : Int), .string xm]) rfl (by kernel_rfl) (by kernel_rfl) (by kernel_rfl) (fun _ _ _ h => h) (Or.inl ⟨by rfl, by intro x _; go_simp⟩) hS ?_
      (try simp only [Act.put, List.setIfInBounds_toArray, List.set_cons_zero, List.set_cons_succ])
      refine wpAnyH_ready (rs := [6]) (by kernel_rfl) (by simp) ?_
      refine AllReadyH.cons (o := { dst := some 5, op := .alloc 128, type := _, pos := _, after := _, guard := none }) rfl (fun K hK => ?_) AllReadyH.nil
      go_simp
      have hbA : Below V.heap.size V (V.alloc (.cells #[.int .i64 0, .string { data := #[] }] 128)) := (Below.refl _ _).alloc (Nat.le_refl _) _
      have HB2 : Hid (Below W.heap.size W (V.alloc (.cells #[.int .i64 0, .string { data := #[] }] 128))) := below_on hbA HBV.out
      have hS2 := HSK.out _ HB2.out
      have HT2 : Hid ((V.alloc (.cells #[.int .i64 0, .string { data := #[] }] 128)).heap[V.heap.size]? = some (.cells #[.int .i64 0, .string { data := #[] }] 128 (0, 0)) ∧ W.heap.size ≤ V.heap.size) := ⟨heap_new V _, HBV.out.size⟩
      refine hK.out _ _ hS2 (fun _ => ?_)
      clear hK K hS HBV hbA
      (try simp only [Act.put, List.setIfInBounds_toArray, List.set_cons_zero, List.set_cons_succ])
      revert HB2 hS2 HT2
      generalize (V.alloc (.cells #[.int .i64 0, .string { data := #[] }] 128)) = V2
      generalize V.heap.size = g
      intro HBV hS HT
      revert HBV hS HT
      generalize V2 = V
      intro HBV hS HT
      refine wpAnyH_ready (rs := [7]) (by kernel_rfl) (by simp) ?_
      refine AllReadyH.cons (o := { dst := none, op := .store 128 (.tmp 5) (.tmp 15), type := _, pos := _, after := _, guard := none }) rfl (fun K hK => ?_) AllReadyH.nil
      refine step_store_row rfl 128 (.tmp 5) (.tmp 15) rfl g #[.int .i64 (xp : Int), .string xm] (by simp [Act.eval]) (by simp [Act.eval]) 128 _ HT.out.1 sizePlace rfl (by simp [Value.oneCell']) ?_
      have HB2 : Hid (Below W.heap.size W (V.setRow g #[.int .i64 (xp : Int), .string xm])) := setRow_below HBV.out HT.out.2 _
      have hS2 := HSK.out _ HB2.out
      have HT2 : Hid ((V.setRow g #[.int .i64 (xp : Int), .string xm]).heap[g]? = some (.cells #[.int .i64 (xp : Int), .string xm] 128 (0, 0)) ∧ W.heap.size ≤ g) := ⟨setRow_heap _ _ _ _ _ _ HT.out.1, HT.out.2⟩
      refine hK.out _ _ hS2 (fun _ => ?_)
      clear hK K hS HT HBV
      (try simp only [Act.put])
      revert HB2 hS2 HT2
      generalize (V.setRow g #[.int .i64 (xp : Int), .string xm]) = V2
      intro HBV hS HT
      revert HBV hS HT
      generalize V2 = V
      intro HBV hS HT
      refine wpAnyH_done (by kernel_rfl) ?_ _
      go_wp2_with fail
      go_meet
      exact ⟨g, rfl, ⟨HT.out.1, HT.out.2, HBV.out⟩⟩
    · go_simp
      have hbA : Below V.heap.size V (V.alloc (.cells #[.int .i64 0, .string { data := #[] }] 128)) := (Below.refl _ _).alloc (Nat.le_refl _) _
      have HB2 : Hid (Below W.heap.size W (V.alloc (.cells #[.int .i64 0, .string { data := #[] }] 128))) := below_on hbA HBV.out
      have hS2 := HSK.out _ HB2.out
      have HT2 : Hid ((V.alloc (.cells #[.int .i64 0, .string { data := #[] }] 128)).heap[V.heap.size]? = some (.cells #[.int .i64 0, .string { data := #[] }] 128 (0, 0)) ∧ W.heap.size ≤ V.heap.size) := ⟨heap_new V _, HBV.out.size⟩
      refine hK.out _ _ hS2 (fun _ => ?_)
      clear hK K hS HBV hbA
      (try simp only [Act.put, List.setIfInBounds_toArray, List.set_cons_zero, List.set_cons_succ])
      revert HB2 hS2 HT2
      generalize (V.alloc (.cells #[.int .i64 0, .string { data := #[] }] 128)) = V2
      generalize V.heap.size = g
      intro HBV hS HT
      revert HBV hS HT
      generalize V2 = V
      intro HBV hS HT
      refine wpAnyH_ready (rs := [4]) (by kernel_rfl) (by simp) ?_
      refine AllReadyH.cons (o := { dst := some 14, op := .call { callee := .value (.func 120), args := #[.tmp 13], argTypes := #[9] }, type := _, pos := _, after := _, guard := none }) rfl (fun K hK => ?_) AllReadyH.nil
      go_simp
      refine (HCL.out _).mono ?_
      rintro e W2 ⟨rfl, hbA⟩
      have HB2 : Hid (Below W.heap.size W W2) := below_on hbA HBV.out
      have hS2 := HSK.out _ HB2.out
      have HT2 : Hid (W2.heap[g]? = some (.cells #[.int .i64 0, .string { data := #[] }] 128 (0, 0)) ∧ W.heap.size ≤ g) := ⟨(hbA.block _ (heap_lt HT.out.1)).trans HT.out.1, HT.out.2⟩
      refine hK.out _ _ hS2 (fun _ => ?_)
      clear hK K hS HBV hbA HT
      (try simp only [Act.put, List.setIfInBounds_toArray, List.set_cons_zero, List.set_cons_succ])
      revert HB2 hS2 HT2
      generalize W2 = V
      intro HBV hS HT
      refine wpAnyH_take (i := 5) (oi := { dst := some 15, op := .build 128 #[(0, .tmp 11), (1, .tmp 14)], type := _, pos := _, after := _, guard := none }) (v := .agg #[.int .i64 (xp : Int), .string xm]) rfl (by kernel_rfl) (by kernel_rfl) (by kernel_rfl) (fun _ _ _ h => h) (Or.inl ⟨by rfl, by intro x _; go_simp⟩) hS ?_
      (try simp only [Act.put, List.setIfInBounds_toArray, List.set_cons_zero, List.set_cons_succ])
      refine wpAnyH_ready (rs := [7]) (by kernel_rfl) (by simp) ?_
      refine AllReadyH.cons (o := { dst := none, op := .store 128 (.tmp 5) (.tmp 15), type := _, pos := _, after := _, guard := none }) rfl (fun K hK => ?_) AllReadyH.nil
      refine step_store_row rfl 128 (.tmp 5) (.tmp 15) rfl g #[.int .i64 (xp : Int), .string xm] (by simp [Act.eval]) (by simp [Act.eval]) 128 _ HT.out.1 sizePlace rfl (by simp [Value.oneCell']) ?_
      have HB2 : Hid (Below W.heap.size W (V.setRow g #[.int .i64 (xp : Int), .string xm])) := setRow_below HBV.out HT.out.2 _
      have hS2 := HSK.out _ HB2.out
      have HT2 : Hid ((V.setRow g #[.int .i64 (xp : Int), .string xm]).heap[g]? = some (.cells #[.int .i64 (xp : Int), .string xm] 128 (0, 0)) ∧ W.heap.size ≤ g) := ⟨setRow_heap _ _ _ _ _ _ HT.out.1, HT.out.2⟩
      refine hK.out _ _ hS2 (fun _ => ?_)
      clear hK K hS HT HBV
      (try simp only [Act.put])
      revert HB2 hS2 HT2
      generalize (V.setRow g #[.int .i64 (xp : Int), .string xm]) = V2
      intro HBV hS HT
      revert HBV hS HT
      generalize V2 = V
      intro HBV hS HT
      refine wpAnyH_done (by kernel_rfl) ?_ _
      go_wp2_with fail
      go_meet
      exact ⟨g, rfl, ⟨HT.out.1, HT.out.2, HBV.out⟩⟩
  case rest =>
  obtain ⟨g, rfl, HL⟩ := hcut
  clear x2 x3' hW HB2 HCL
  obtain ⟨l1, l2, l3⟩ := HL.out
  have k3 := HK.out _ l3
  have y0 : wc.cell? ⟨w.heap.size, 0, none⟩ = some (.int .i64 2) := (cell_of_heap k3).trans rfl
  have y1 : wc.cell? ⟨w.heap.size, 1, none⟩ = some (.int .i64 (xn : Int)) := (cell_of_heap k3).trans rfl
  have y4 : wc.cell? ⟨w.heap.size, 4, none⟩ = some (.int .i64 (xs : Int)) := (cell_of_heap k3).trans rfl
  have z0 : wc.cell? ⟨g, 0, none⟩ = some (.int .i64 (xp : Int)) := (cell_of_heap l1).trans rfl
  have z1 : wc.cell? ⟨g, 1, none⟩ = some (.string xm) := (cell_of_heap l1).trans rfl
  have HS6 : Hid (∀ V : World, (∀ k, w.heap.size ≤ k → k < wc.heap.size → V.heap[k]? = wc.heap[k]?) → V.cell? ⟨w.heap.size, 1, none⟩ = some (.int .i64 (xn : Int)) ∧ V.cell? ⟨w.heap.size, 4, none⟩ = some (.int .i64 (xs : Int)) ∧ V.cell? ⟨g, 0, none⟩ = some (.int .i64 (xp : Int)) ∧ V.cell? ⟨g, 1, none⟩ = some (.string xm)) := fun V hV => by
    have j3 := (hV _ (Nat.le_refl _) (heap_lt k3)).trans k3
    have j1 := (hV _ (Nat.le_trans HB.out.size l2) (heap_lt l1)).trans l1
    exact ⟨(cell_of_heap j3).trans rfl, (cell_of_heap j3).trans rfl, (cell_of_heap j1).trans rfl, (cell_of_heap j1).trans rfl⟩
  have HBC : Hid (Below w.heap.size w wc) := below_on l3 HB.out
  have hbd : Below wc.heap.size wc wc.drew := (Below.refl _ _).drew
  have HM6 : Hid (∀ V, Below wc.heap.size wc V → V.cell? ⟨q, 6, none⟩ = some (.int .i64 (mo : Int))) := fun V hV => HMO.out V (below_on hV l3)
  clear l1 l2 l3 k3
  go_wp2_with fail
  skip
  go_region_held_law (fun V => (V.cell? ⟨w.heap.size, 1, none⟩ = some (.int .i64 (xn : Int)) ∧ V.cell? ⟨w.heap.size, 4, none⟩ = some (.int .i64 (xs : Int)) ∧ V.cell? ⟨g, 0, none⟩ = some (.int .i64 (xp : Int)) ∧ V.cell? ⟨g, 1, none⟩ = some (.string xm)) ∧ V.cell? ⟨q, 6, none⟩ = some (.int .i64 (mo : Int))) (first | exact ⟨HS6.out _ (fun _ _ _ => rfl), HM6.out _ hbd⟩ | exact ⟨HS6.out _ hk9, HMQ.out _ HT9.out⟩) (first | (go_at_call 125; refine (HCF.out wc.drew HBC.out.drew).mono ?_; rintro e w9 ⟨rfl, ht9, hy9⟩; have HT9 : Hid (Turn F w w9 q nn { T with F := gapL T.F xn (some (xp, xm, xs)) }) := ht9; have hk9 : ∀ k, w.heap.size ≤ k → k < wc.heap.size → w9.heap[k]? = wc.heap[k]? := fun k h1 h2 => hy9.block k h2 (fun hm => by have := HFL.out k hm; omega)))
  go_wp2
  go_ret
  exact ⟨rfl, HT9.out⟩

end Go.Proofs.YtnfddiabhpandaaGreatDoor.Tr
