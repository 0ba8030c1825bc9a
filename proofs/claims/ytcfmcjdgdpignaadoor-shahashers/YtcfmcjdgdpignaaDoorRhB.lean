import Derived.Test.YtcfmcjdgdpignaaDoorRhA
import Derived.Deep.MidRow
namespace Go.Proofs.YtcfmcjdgdpignaaDoor
open Go.RowKit Go.Lib

theorem rbuilt : Tryd.prog.built 73 [(0, Value.agg (i64s first.list))] = some (rcells first 0 { data := #[] }) := by kernel_rfl

theorem rnewh_any (w : World) :
    Calls Tryd.prog 25 #[] w fun e w' => (∃ q, e = .returned (.pointer (some ⟨q, 0, none⟩)) ∧ w.heap.size ≤ q ∧ Rh w' q first 0 { data := #[] }) ∧ Below w.heap.size w w' := by
  have hfi := rfirst_any
  have hbl := rbuilt
  have HR : Hid (∀ W : World, Rh (W.alloc (.cells (rcells first 0 { data := #[] }) 73)) W.heap.size first 0 { data := #[] }) := fun W => heap_new _ _
  revert hfi hbl HR
  generalize rcells first 0 { data := #[] } = C
  generalize i64s first.list = D
  intro hfi hbl HR
  go_enter Tryd.func25, Tryd.ntmps25
  go_wp2_with fail
  refine (hfi _).mono ?_
  rintro e w1 ⟨rfl, hb1⟩
  go_wp2_with (refine wpList_build_eq rfl 73 #[(0, .tmp 1)] rfl [(0, Value.agg D)] (by simp [Act.eval, Act.put]) C hbl ?_)
  go_ret
  exact ⟨⟨w1.heap.size, rfl, hb1.size, HR.out w1⟩, hb1.alloc hb1.size _⟩

/-- what is kept while the reference's sum is asked -/
def RS (w : World) (p : Nat) (FL : List Value) (ah : Nat) (t : ByteArray) (W : World) : Prop := W.rangeAt p 0 FL ∧ W.cell? ⟨p, 8, none⟩ = some (.int .i64 (ah : Int)) ∧ W.cell? ⟨p, 9, none⟩ = some (.string t) ∧ Below w.heap.size w W
section
variable {w V W : World} {p ah : Nat} {FL : List Value} {t : ByteArray}
theorem RS.below (h : RS w p FL ah t V) (hb : Below V.heap.size V W) : RS w p FL ah t W := by
  have hp : p < V.heap.size := by have := block_lt_of_cell h.2.1; simpa using this
  exact ⟨fun d v hv => (hb.cell (p := ⟨p, 0 + d, none⟩) hp).trans (h.1 d v hv), (hb.cell (p := ⟨p, 8, none⟩) hp).trans h.2.1, (hb.cell (p := ⟨p, 9, none⟩) hp).trans h.2.2.1, h.2.2.2.trans (hb.mono h.2.2.2.size)⟩
theorem range_below8 {b : Nat} {l : List Value} (h : V.rangeAt b 0 l) (hn : 0 < l.length) (hb : Below V.heap.size V W) : W.rangeAt b 0 l := by
  have hp : b < V.heap.size := by have := block_lt_of_cell (h 0 _ (List.getElem?_eq_getElem hn)); simpa using this
  exact fun d v hv => (hb.cell (p := ⟨b, 0 + d, none⟩) hp).trans (h d v hv)
theorem RS.set (k : RS w p FL ah t V) (h : Nat) (vs : List Value) (hx : p ≠ h) (hw : w.heap.size ≤ h) : RS w p FL ah t (V.setCells h 0 vs) := by
  have e : (V.setCells h 0 vs).heap[p]? = V.heap[p]? := heap_setCells_other h p hx vs 0 V
  have ce : ∀ j, (V.setCells h 0 vs).cell? ⟨p, j, none⟩ = V.cell? ⟨p, j, none⟩ := fun j => by unfold World.cell?; rw [e]
  exact ⟨fun d v hv => (ce _).trans (k.1 d v hv), (ce _).trans k.2.1, (ce _).trans k.2.2.1, Below.setCells k.2.2.2 hw 0 vs⟩
end

set_option maxRecDepth 20000 in
set_option maxHeartbeats 2000000 in
theorem rsumh_any {w : World} {p ah : Nat} {f : W8} {t : ByteArray} (hh : Rh w p f ah t) (hf : f.OK) (hs : ah + t.size ≤ 1099511627776) (hr : RTabs w) (h4 : 4 ≤ w.heap.size) :
    Calls Tryd.prog 30 #[.pointer (some ⟨p, 0, none⟩)] w fun e w' => e = .returned (.string (str (wtext (eat f (t.data.toList ++ endL (ah + t.size))).1))) ∧ Below w.heap.size w w' := by
  have hl : t.data.toList.length = t.size := (size_eq t).symm
  have hend : (str (endL (ah + t.size))).size ≤ 200 := by rw [str_size]; simp [endL, zeros, be8]; omega
  have hadd : t.size + (str (endL (ah + t.size))).size ≤ 9223372036854775807 := by omega
  have hcat : (t ++ str (endL (ah + t.size))).data.toList = t.data.toList ++ endL (ah + t.size) := by rw [ByteArray.data_append, Array.toList_append, str_data]
  have hcs : (t ++ str (endL (ah + t.size))).size ≤ 4611686018427387904 := by rw [size_eq, hcat, List.length_append, hl, ← str_size]; omega
  have hbl := fun W (k : RTabs W) (k4 : 4 ≤ W.heap.size) => rblocks_any f hf (t ++ str (endL (ah + t.size))) hcs W k k4
  have hta := fun W => tail_any (ah + t.size) (by omega) W
  rw [hcat] at hbl
  have hok := eat_OK f (t.data.toList ++ endL (ah + t.size)) hf
  revert hbl hok
  generalize (eat f (t.data.toList ++ endL (ah + t.size))).1 = st
  intro hbl hok
  have hto := told_any st hok
  have hst := esize st
  have hone := eone st
  have H8 : Hid ((i64s st.list).size = 8) := e8 st
  have hS0 : RS w p (i64L f.list) ah t w.drew := ⟨hh.from_, hh.ahead, hh.text, (Below.refl _ _).drew⟩
  have hzF : (Tryd.prog.info? 70).map (·.size) = some (i64L f.list).length := by rw [show (i64L f.list).length = 8 from rfl]; exact isize8
  have HTT : Hid (∀ W, Below w.heap.size w W → RTabs W ∧ 4 ≤ W.heap.size) := fun W h => ⟨hr.below h h4, by have := h.size; omega⟩
  clear hh hok hcat hcs hr
  generalize i64s st.list = D at hbl hto hst hone H8
  unfold i64s at hbl
  generalize i64L f.list = FL at hbl hS0 hzF
  generalize str (endL (ah + t.size)) = y at hadd hta hbl hend
  have hwr : IntKind.i64.wrap ((ah : Int) + (t.size : Int)) = (ah : Int) + (t.size : Int) := by rw [IntKind.wrap_i64]; omega
  have HTA : Hid (∀ W, RS w p FL ah t W → Calls Tryd.prog 39 #[.int .i64 ((ah + t.size : Nat) : Int)] W fun e w' => e = .returned (.string y) ∧ Below W.heap.size W w') := fun W _ => hta W
  have HBL : Hid (∀ W, RS w p FL ah t W → Calls Tryd.prog 36 #[.agg FL.toArray, .string (t ++ y)] W fun e w' => e = .returned (.agg D) ∧ Below W.heap.size W w') := fun W k => hbl W (HTT.out W k.2.2.2).1 (HTT.out W k.2.2.2).2
  have HTO : Hid _ := hto
  have HK : Hid (∀ V W, RS w p FL ah t V → Below V.heap.size V W → RS w p FL ah t W) := fun V W h hb => h.below hb
  have HQ : Hid (∀ V h vs, RS w p FL ah t V → p ≠ h ∧ w.heap.size ≤ h → RS w p FL ah t (V.setCells h 0 vs)) := fun V h vs k hx => k.set h vs hx.1 hx.2
  clear hta hbl hto HTT hend hl
  go_enter Tryd.func30, Tryd.ntmps30
  go_wp2_with fail
  refine wp_region_held_drew (S := fun W => RS w p FL ah t W) (by kernel_rfl) hS0 ?_
  intro hS
  clear hS0
  revert hS
  generalize w.drew = V
  intro hS
  refine wpAnyH_take (i := 0) (oi := { dst := some 4, op := .move (.tmp 0), type := _, pos := _, after := _, guard := none }) (v := .pointer (some ⟨p, 0, none⟩)) rfl (by kernel_rfl) (by kernel_rfl) (by kernel_rfl) (fun _ _ _ h => h) (Or.inl ⟨by rfl, by intro x _; go_simp⟩) hS ?_
  (try simp only [Act.put, List.setIfInBounds_toArray, List.set_cons_zero, List.set_cons_succ])
  refine wpAnyH_take (i := 1) (oi := { dst := some 5, op := .nilCheck (.tmp 4), type := _, pos := _, after := _, guard := none }) (v := .pointer (some ⟨p, 0, none⟩)) rfl (by kernel_rfl) (by kernel_rfl) (by kernel_rfl) (fun _ _ _ h => h) (Or.inl ⟨by rfl, by intro x _; go_simp⟩) hS ?_
  (try simp only [Act.put, List.setIfInBounds_toArray, List.set_cons_zero, List.set_cons_succ])
  refine wpAnyH_take (i := 2) (oi := { dst := some 6, op := .fieldAddr 73 (.tmp 5) 0, type := _, pos := _, after := _, guard := none }) (v := .pointer (some ⟨p, 0, none⟩)) rfl (by kernel_rfl) (by kernel_rfl) (by kernel_rfl) (fun _ _ _ h => h) (Or.inl ⟨by rfl, by intro x _; go_simp⟩) hS ?_
  (try simp only [Act.put, List.setIfInBounds_toArray, List.set_cons_zero, List.set_cons_succ])
  refine wpAnyH_take (i := 3) (oi := { dst := some 7, op := .load 70 (.tmp 6), type := _, pos := _, after := _, guard := none }) (v := .agg (FL).toArray) rfl (by kernel_rfl) (by kernel_rfl) (by kernel_rfl) (fun _ _ _ h => h) (yieldsIf_load_mid (by rfl) 70 (.tmp 6) rfl p 0 (by simp [Act.eval]) (FL) _ (fun x hx => hx.1) Tryd.underlying70 rfl hzF) hS ?_
  (try simp only [Act.put, List.setIfInBounds_toArray, List.set_cons_zero, List.set_cons_succ])
  refine wpAnyH_take (i := 4) (oi := { dst := some 8, op := .move (.tmp 0), type := _, pos := _, after := _, guard := none }) (v := .pointer (some ⟨p, 0, none⟩)) rfl (by kernel_rfl) (by kernel_rfl) (by kernel_rfl) (fun _ _ _ h => h) (Or.inl ⟨by rfl, by intro x _; go_simp⟩) hS ?_
  (try simp only [Act.put, List.setIfInBounds_toArray, List.set_cons_zero, List.set_cons_succ])
  refine wpAnyH_take (i := 5) (oi := { dst := some 9, op := .nilCheck (.tmp 8), type := _, pos := _, after := _, guard := none }) (v := .pointer (some ⟨p, 0, none⟩)) rfl (by kernel_rfl) (by kernel_rfl) (by kernel_rfl) (fun _ _ _ h => h) (Or.inl ⟨by rfl, by intro x _; go_simp⟩) hS ?_
  (try simp only [Act.put, List.setIfInBounds_toArray, List.set_cons_zero, List.set_cons_succ])
  refine wpAnyH_take (i := 6) (oi := { dst := some 10, op := .fieldAddr 73 (.tmp 9) 2, type := _, pos := _, after := _, guard := none }) (v := .pointer (some ⟨p, 9, none⟩)) rfl (by kernel_rfl) (by kernel_rfl) (by kernel_rfl) (fun _ _ _ h => h) (Or.inl ⟨by rfl, by intro x _; go_simp⟩) hS ?_
  (try simp only [Act.put, List.setIfInBounds_toArray, List.set_cons_zero, List.set_cons_succ])
  refine wpAnyH_take (i := 7) (oi := { dst := some 11, op := .load 9 (.tmp 10), type := _, pos := _, after := _, guard := none }) (v := .string t) rfl (by kernel_rfl) (by kernel_rfl) (by kernel_rfl) (fun _ _ _ h => h) (Or.inl ⟨by rfl, by intro x hx; have h1 := hx.2.2.1; go_simp⟩) hS ?_
  (try simp only [Act.put, List.setIfInBounds_toArray, List.set_cons_zero, List.set_cons_succ])
  refine wpAnyH_take (i := 8) (oi := { dst := some 12, op := .move (.tmp 0), type := _, pos := _, after := _, guard := none }) (v := .pointer (some ⟨p, 0, none⟩)) rfl (by kernel_rfl) (by kernel_rfl) (by kernel_rfl) (fun _ _ _ h => h) (Or.inl ⟨by rfl, by intro x _; go_simp⟩) hS ?_
  (try simp only [Act.put, List.setIfInBounds_toArray, List.set_cons_zero, List.set_cons_succ])
  refine wpAnyH_take (i := 9) (oi := { dst := some 13, op := .nilCheck (.tmp 12), type := _, pos := _, after := _, guard := none }) (v := .pointer (some ⟨p, 0, none⟩)) rfl (by kernel_rfl) (by kernel_rfl) (by kernel_rfl) (fun _ _ _ h => h) (Or.inl ⟨by rfl, by intro x _; go_simp⟩) hS ?_
  (try simp only [Act.put, List.setIfInBounds_toArray, List.set_cons_zero, List.set_cons_succ])
  refine wpAnyH_take (i := 10) (oi := { dst := some 14, op := .fieldAddr 73 (.tmp 13) 1, type := _, pos := _, after := _, guard := none }) (v := .pointer (some ⟨p, 8, none⟩)) rfl (by kernel_rfl) (by kernel_rfl) (by kernel_rfl) (fun _ _ _ h => h) (Or.inl ⟨by rfl, by intro x _; go_simp⟩) hS ?_
  (try simp only [Act.put, List.setIfInBounds_toArray, List.set_cons_zero, List.set_cons_succ])
  refine wpAnyH_take (i := 11) (oi := { dst := some 15, op := .load 3 (.tmp 14), type := _, pos := _, after := _, guard := none }) (v := .int .i64 (ah : Int)) rfl (by kernel_rfl) (by kernel_rfl) (by kernel_rfl) (fun _ _ _ h => h) (Or.inl ⟨by rfl, by intro x hx; have h1 := hx.2.1; go_simp⟩) hS ?_
  (try simp only [Act.put, List.setIfInBounds_toArray, List.set_cons_zero, List.set_cons_succ])
  refine wpAnyH_take (i := 12) (oi := { dst := some 16, op := .move (.tmp 0), type := _, pos := _, after := _, guard := none }) (v := .pointer (some ⟨p, 0, none⟩)) rfl (by kernel_rfl) (by kernel_rfl) (by kernel_rfl) (fun _ _ _ h => h) (Or.inl ⟨by rfl, by intro x _; go_simp⟩) hS ?_
  (try simp only [Act.put, List.setIfInBounds_toArray, List.set_cons_zero, List.set_cons_succ])
  refine wpAnyH_take (i := 13) (oi := { dst := some 17, op := .nilCheck (.tmp 16), type := _, pos := _, after := _, guard := none }) (v := .pointer (some ⟨p, 0, none⟩)) rfl (by kernel_rfl) (by kernel_rfl) (by kernel_rfl) (fun _ _ _ h => h) (Or.inl ⟨by rfl, by intro x _; go_simp⟩) hS ?_
  (try simp only [Act.put, List.setIfInBounds_toArray, List.set_cons_zero, List.set_cons_succ])
  refine wpAnyH_take (i := 14) (oi := { dst := some 18, op := .fieldAddr 73 (.tmp 17) 2, type := _, pos := _, after := _, guard := none }) (v := .pointer (some ⟨p, 9, none⟩)) rfl (by kernel_rfl) (by kernel_rfl) (by kernel_rfl) (fun _ _ _ h => h) (Or.inl ⟨by rfl, by intro x _; go_simp⟩) hS ?_
  (try simp only [Act.put, List.setIfInBounds_toArray, List.set_cons_zero, List.set_cons_succ])
  refine wpAnyH_take (i := 15) (oi := { dst := some 19, op := .load 9 (.tmp 18), type := _, pos := _, after := _, guard := none }) (v := .string t) rfl (by kernel_rfl) (by kernel_rfl) (by kernel_rfl) (fun _ _ _ h => h) (Or.inl ⟨by rfl, by intro x hx; have h1 := hx.2.2.1; go_simp⟩) hS ?_
  (try simp only [Act.put, List.setIfInBounds_toArray, List.set_cons_zero, List.set_cons_succ])
  refine wpAnyH_take (i := 16) (oi := { dst := some 20, op := .call { callee := .builtin .len, args := #[.tmp 19], argTypes := #[9] }, type := _, pos := _, after := _, guard := none }) (v := .int .i64 (t.size : Int)) rfl (by kernel_rfl) (by kernel_rfl) (by kernel_rfl) (fun _ _ _ h => h) (Or.inl ⟨by rfl, by intro x _; go_simp⟩) hS ?_
  (try simp only [Act.put, List.setIfInBounds_toArray, List.set_cons_zero, List.set_cons_succ])
  refine wpAnyH_take (i := 17) (oi := { dst := some 21, op := .binOp .add 3 (.tmp 15) (.tmp 20) 3, type := _, pos := _, after := _, guard := none }) (v := .int .i64 ((ah + t.size : Nat) : Int)) rfl (by kernel_rfl) (by kernel_rfl) (by kernel_rfl) (fun _ _ _ h => h) (Or.inl ⟨by rfl, by intro x _; go_simp⟩) hS ?_
  (try simp only [Act.put, List.setIfInBounds_toArray, List.set_cons_zero, List.set_cons_succ])
  refine wpAnyH_ready (rs := [18, 21]) (by kernel_rfl) (by simp) ?_
  refine AllReadyH.cons (o := { dst := some 22, op := .call { callee := .value (.func 39), args := #[.tmp 21], argTypes := #[3] }, type := _, pos := _, after := _, guard := none }) rfl (fun K hK => ?_) (AllReadyH.cons (o := { dst := some 3, op := .alloc 70, type := _, pos := _, after := _, guard := none }) rfl (fun K hK => ?_) AllReadyH.nil)
  · go_simp
    refine (HTA.out V hS).mono ?_
    rintro e W2 ⟨rfl, hbc⟩
    have hS2 := HK.out V W2 hS hbc
    refine hK.out _ _ hS2 (fun _ => ?_)
    clear hK K
    (try simp only [Act.put, List.setIfInBounds_toArray, List.set_cons_zero, List.set_cons_succ])
    revert hS2
    clear hS hbc
    generalize W2 = V
    intro hS
    refine wpAnyH_take (i := 19) (oi := { dst := some 23, op := .binOp .add 9 (.tmp 11) (.tmp 22) 9, type := _, pos := _, after := _, guard := none }) (v := .string (t ++ y)) rfl (by kernel_rfl) (by kernel_rfl) (by kernel_rfl) (fun _ _ _ h => h) (Or.inl ⟨by rfl, by intro x _; go_simp⟩) hS ?_
    (try simp only [Act.put, List.setIfInBounds_toArray, List.set_cons_zero, List.set_cons_succ])
    refine wpAnyH_ready (rs := [20, 21]) (by kernel_rfl) (by simp) ?_
    refine AllReadyH.cons (o := { dst := some 24, op := .call { callee := .value (.func 36), args := #[.tmp 7, .tmp 23], argTypes := #[70, 9] }, type := _, pos := _, after := _, guard := none }) rfl (fun K hK => ?_) (AllReadyH.cons (o := { dst := some 3, op := .alloc 70, type := _, pos := _, after := _, guard := none }) rfl (fun K hK => ?_) AllReadyH.nil)
    · go_simp
      refine (HBL.out V hS).mono ?_
      rintro e W2 ⟨rfl, hbc⟩
      have hS2 := HK.out V W2 hS hbc
      refine hK.out _ _ hS2 (fun _ => ?_)
      clear hK K
      (try simp only [Act.put, List.setIfInBounds_toArray, List.set_cons_zero, List.set_cons_succ])
      revert hS2
      clear hS hbc
      generalize W2 = V
      intro hS
      refine wpAnyH_ready (rs := [21]) (by kernel_rfl) (by simp) ?_
      refine AllReadyH.cons (o := { dst := some 3, op := .alloc 70, type := _, pos := _, after := _, guard := none }) rfl (fun K hK => ?_) AllReadyH.nil
      go_simp
      have hn2 : (V.alloc (.cells #[.int .i64 0, .int .i64 0, .int .i64 0, .int .i64 0, .int .i64 0, .int .i64 0, .int .i64 0, .int .i64 0] 70)).heap[V.heap.size]? = some (.cells #[.int .i64 0, .int .i64 0, .int .i64 0, .int .i64 0, .int .i64 0, .int .i64 0, .int .i64 0, .int .i64 0] 70) := heap_new _ _
      have hS2 := HK.out V (V.alloc (.cells #[.int .i64 0, .int .i64 0, .int .i64 0, .int .i64 0, .int .i64 0, .int .i64 0, .int .i64 0, .int .i64 0] 70)) hS ((Below.refl _ _).alloc (Nat.le_refl _) _)
      have hgx : p ≠ V.heap.size ∧ w.heap.size ≤ V.heap.size := ⟨by have := block_lt_of_cell hS.2.1; simp at this; omega, hS.2.2.2.size⟩
      refine hK.out _ _ hS2 (fun _ => ?_)
      clear hK K
      (try simp only [Act.put, List.setIfInBounds_toArray, List.set_cons_zero, List.set_cons_succ])
      revert hn2 hS2 hgx
      clear hS
      generalize V.alloc (.cells #[.int .i64 0, .int .i64 0, .int .i64 0, .int .i64 0, .int .i64 0, .int .i64 0, .int .i64 0, .int .i64 0] 70) = V2
      generalize V.heap.size = h
      intro hn hS hgx
      revert hn hS
      generalize V2 = V
      intro hn hS
      refine wpAnyH_ready (rs := [22]) (by kernel_rfl) (by simp) ?_
      refine AllReadyH.cons (o := { dst := none, op := .store 70 (.tmp 3) (.tmp 24), type := _, pos := _, after := _, guard := none }) rfl (fun K hK => ?_) AllReadyH.nil
      refine step_store_mid rfl 70 (.tmp 3) (.tmp 24) rfl h 0 D (by simp [Act.eval]) (by simp [Act.eval]) (there_of_heap hn (by rw [H8.out]; exact Nat.le_refl 8)) hst hone ?_
      have hn8 := heap_setCells h 70 D.toList 0 _ _ hn
      rw [setMany_all _ _ (by rw [Array.length_toList, H8.out]; rfl), Array.toArray_toList] at hn8
      have hS8 := HQ.out V h D.toList hS hgx
      refine hK.out _ _ hS8 (fun _ => ?_)
      clear hK K
      (try simp only [Act.put])
      revert hn8 hS8
      clear hS hn
      generalize V.setCells h 0 D.toList = V3
      intro hn hS
      revert hn hS
      generalize V3 = V
      intro hn hS
      refine wpAnyH_done (by kernel_rfl) ?_ _
      have hto2 := HTO.out V
      go_wp2_with (first | (refine wpList_load_row rfl 70 (.tmp 3) rfl h rfl 70 _ (0, 0) _ hn Tryd.underlying70 rfl hst ?_) | (go_at_call 37; refine hto2.mono ?_; rintro e w9 ⟨rfl, hb9⟩))
      go_ret
      exact ⟨rfl, hS.2.2.2.trans (hb9.mono hS.2.2.2.size)⟩
    · go_simp
      have hn2 : (V.alloc (.cells #[.int .i64 0, .int .i64 0, .int .i64 0, .int .i64 0, .int .i64 0, .int .i64 0, .int .i64 0, .int .i64 0] 70)).heap[V.heap.size]? = some (.cells #[.int .i64 0, .int .i64 0, .int .i64 0, .int .i64 0, .int .i64 0, .int .i64 0, .int .i64 0, .int .i64 0] 70) := heap_new _ _
      have hS2 := HK.out V (V.alloc (.cells #[.int .i64 0, .int .i64 0, .int .i64 0, .int .i64 0, .int .i64 0, .int .i64 0, .int .i64 0, .int .i64 0] 70)) hS ((Below.refl _ _).alloc (Nat.le_refl _) _)
      have hgx : p ≠ V.heap.size ∧ w.heap.size ≤ V.heap.size := ⟨by have := block_lt_of_cell hS.2.1; simp at this; omega, hS.2.2.2.size⟩
      refine hK.out _ _ hS2 (fun _ => ?_)
      clear hK K
      (try simp only [Act.put, List.setIfInBounds_toArray, List.set_cons_zero, List.set_cons_succ])
      revert hn2 hS2 hgx
      clear hS
      generalize V.alloc (.cells #[.int .i64 0, .int .i64 0, .int .i64 0, .int .i64 0, .int .i64 0, .int .i64 0, .int .i64 0, .int .i64 0] 70) = V2
      generalize V.heap.size = h
      intro hn hS hgx
      revert hn hS
      generalize V2 = V
      intro hn hS
      refine wpAnyH_ready (rs := [20]) (by kernel_rfl) (by simp) ?_
      refine AllReadyH.cons (o := { dst := some 24, op := .call { callee := .value (.func 36), args := #[.tmp 7, .tmp 23], argTypes := #[70, 9] }, type := _, pos := _, after := _, guard := none }) rfl (fun K hK => ?_) AllReadyH.nil
      go_simp
      refine (HBL.out V hS).mono ?_
      rintro e W2 ⟨rfl, hbc⟩
      have hS2 := HK.out V W2 hS hbc
      have hn2 := (hbc.block h (heap_lt hn)).trans hn
      refine hK.out _ _ hS2 (fun _ => ?_)
      clear hK K
      (try simp only [Act.put, List.setIfInBounds_toArray, List.set_cons_zero, List.set_cons_succ])
      revert hS2 hn2
      clear hS hbc hn
      generalize W2 = V
      intro hS hn
      refine wpAnyH_ready (rs := [22]) (by kernel_rfl) (by simp) ?_
      refine AllReadyH.cons (o := { dst := none, op := .store 70 (.tmp 3) (.tmp 24), type := _, pos := _, after := _, guard := none }) rfl (fun K hK => ?_) AllReadyH.nil
      refine step_store_mid rfl 70 (.tmp 3) (.tmp 24) rfl h 0 D (by simp [Act.eval]) (by simp [Act.eval]) (there_of_heap hn (by rw [H8.out]; exact Nat.le_refl 8)) hst hone ?_
      have hn8 := heap_setCells h 70 D.toList 0 _ _ hn
      rw [setMany_all _ _ (by rw [Array.length_toList, H8.out]; rfl), Array.toArray_toList] at hn8
      have hS8 := HQ.out V h D.toList hS hgx
      refine hK.out _ _ hS8 (fun _ => ?_)
      clear hK K
      (try simp only [Act.put])
      revert hn8 hS8
      clear hS hn
      generalize V.setCells h 0 D.toList = V3
      intro hn hS
      revert hn hS
      generalize V3 = V
      intro hn hS
      refine wpAnyH_done (by kernel_rfl) ?_ _
      have hto2 := HTO.out V
      go_wp2_with (first | (refine wpList_load_row rfl 70 (.tmp 3) rfl h rfl 70 _ (0, 0) _ hn Tryd.underlying70 rfl hst ?_) | (go_at_call 37; refine hto2.mono ?_; rintro e w9 ⟨rfl, hb9⟩))
      go_ret
      exact ⟨rfl, hS.2.2.2.trans (hb9.mono hS.2.2.2.size)⟩
  · go_simp
    have hn2 : (V.alloc (.cells #[.int .i64 0, .int .i64 0, .int .i64 0, .int .i64 0, .int .i64 0, .int .i64 0, .int .i64 0, .int .i64 0] 70)).heap[V.heap.size]? = some (.cells #[.int .i64 0, .int .i64 0, .int .i64 0, .int .i64 0, .int .i64 0, .int .i64 0, .int .i64 0, .int .i64 0] 70) := heap_new _ _
    have hS2 := HK.out V (V.alloc (.cells #[.int .i64 0, .int .i64 0, .int .i64 0, .int .i64 0, .int .i64 0, .int .i64 0, .int .i64 0, .int .i64 0] 70)) hS ((Below.refl _ _).alloc (Nat.le_refl _) _)
    have hgx : p ≠ V.heap.size ∧ w.heap.size ≤ V.heap.size := ⟨by have := block_lt_of_cell hS.2.1; simp at this; omega, hS.2.2.2.size⟩
    refine hK.out _ _ hS2 (fun _ => ?_)
    clear hK K
    (try simp only [Act.put, List.setIfInBounds_toArray, List.set_cons_zero, List.set_cons_succ])
    revert hn2 hS2 hgx
    clear hS
    generalize V.alloc (.cells #[.int .i64 0, .int .i64 0, .int .i64 0, .int .i64 0, .int .i64 0, .int .i64 0, .int .i64 0, .int .i64 0] 70) = V2
    generalize V.heap.size = h
    intro hn hS hgx
    revert hn hS
    generalize V2 = V
    intro hn hS
    refine wpAnyH_ready (rs := [18]) (by kernel_rfl) (by simp) ?_
    refine AllReadyH.cons (o := { dst := some 22, op := .call { callee := .value (.func 39), args := #[.tmp 21], argTypes := #[3] }, type := _, pos := _, after := _, guard := none }) rfl (fun K hK => ?_) AllReadyH.nil
    go_simp
    refine (HTA.out V hS).mono ?_
    rintro e W2 ⟨rfl, hbc⟩
    have hS2 := HK.out V W2 hS hbc
    have hn2 := (hbc.block h (heap_lt hn)).trans hn
    refine hK.out _ _ hS2 (fun _ => ?_)
    clear hK K
    (try simp only [Act.put, List.setIfInBounds_toArray, List.set_cons_zero, List.set_cons_succ])
    revert hS2 hn2
    clear hS hbc hn
    generalize W2 = V
    intro hS hn
    refine wpAnyH_take (i := 19) (oi := { dst := some 23, op := .binOp .add 9 (.tmp 11) (.tmp 22) 9, type := _, pos := _, after := _, guard := none }) (v := .string (t ++ y)) rfl (by kernel_rfl) (by kernel_rfl) (by kernel_rfl) (fun _ _ _ h => h) (Or.inl ⟨by rfl, by intro x _; go_simp⟩) hS ?_
    (try simp only [Act.put, List.setIfInBounds_toArray, List.set_cons_zero, List.set_cons_succ])
    refine wpAnyH_ready (rs := [20]) (by kernel_rfl) (by simp) ?_
    refine AllReadyH.cons (o := { dst := some 24, op := .call { callee := .value (.func 36), args := #[.tmp 7, .tmp 23], argTypes := #[70, 9] }, type := _, pos := _, after := _, guard := none }) rfl (fun K hK => ?_) AllReadyH.nil
    go_simp
    refine (HBL.out V hS).mono ?_
    rintro e W2 ⟨rfl, hbc⟩
    have hS2 := HK.out V W2 hS hbc
    have hn2 := (hbc.block h (heap_lt hn)).trans hn
    refine hK.out _ _ hS2 (fun _ => ?_)
    clear hK K
    (try simp only [Act.put, List.setIfInBounds_toArray, List.set_cons_zero, List.set_cons_succ])
    revert hS2 hn2
    clear hS hbc hn
    generalize W2 = V
    intro hS hn
    refine wpAnyH_ready (rs := [22]) (by kernel_rfl) (by simp) ?_
    refine AllReadyH.cons (o := { dst := none, op := .store 70 (.tmp 3) (.tmp 24), type := _, pos := _, after := _, guard := none }) rfl (fun K hK => ?_) AllReadyH.nil
    refine step_store_mid rfl 70 (.tmp 3) (.tmp 24) rfl h 0 D (by simp [Act.eval]) (by simp [Act.eval]) (there_of_heap hn (by rw [H8.out]; exact Nat.le_refl 8)) hst hone ?_
    have hn8 := heap_setCells h 70 D.toList 0 _ _ hn
    rw [setMany_all _ _ (by rw [Array.length_toList, H8.out]; rfl), Array.toArray_toList] at hn8
    have hS8 := HQ.out V h D.toList hS hgx
    refine hK.out _ _ hS8 (fun _ => ?_)
    clear hK K
    (try simp only [Act.put])
    revert hn8 hS8
    clear hS hn
    generalize V.setCells h 0 D.toList = V3
    intro hn hS
    revert hn hS
    generalize V3 = V
    intro hn hS
    refine wpAnyH_done (by kernel_rfl) ?_ _
    have hto2 := HTO.out V
    go_wp2_with (first | (refine wpList_load_row rfl 70 (.tmp 3) rfl h rfl 70 _ (0, 0) _ hn Tryd.underlying70 rfl hst ?_) | (go_at_call 37; refine hto2.mono ?_; rintro e w9 ⟨rfl, hb9⟩))
    go_ret
    exact ⟨rfl, hS.2.2.2.trans (hb9.mono hS.2.2.2.size)⟩

set_option maxRecDepth 20000 in
set_option maxHeartbeats 2000000 in
theorem rstateh_any {w : World} {p ah : Nat} {f : W8} {t : ByteArray} (hh : Rh w p f ah t) (hf : f.OK) (hs : ah + t.size ≤ 1099511627776) (hr : RTabs w) (h4 : 4 ≤ w.heap.size) :
    Calls Tryd.prog 27 #[.pointer (some ⟨p, 0, none⟩)] w fun e w' => e = .returned (.string (str (stateL (eat f t.data.toList).1 (eat f t.data.toList).2 (ah + t.size)))) ∧ Below w.heap.size w w' := by
  have hl : t.data.toList.length = t.size := (size_eq t).symm
  have hbl := fun W (k : RTabs W) (k4 : 4 ≤ W.heap.size) => rblocks_any f hf t (by omega) W k k4
  have hei := fun W => eight_any (ah + t.size) (by omega) W
  have hok := eat_OK f t.data.toList hf
  have hre : (eat f t.data.toList).2 = t.data.toList.drop (64 * (t.size / 64)) := by rw [eat, eatN_rest, hl]
  rw [hre]
  generalize (eat f t.data.toList).1 = st at hbl hok
  have hto := told_any st hok
  have hst := esize st
  have hone := eone st
  have H8 : Hid ((i64s st.list).size = 8) := e8 st
  have hS0 : RS w p (i64L f.list) ah t w.drew := ⟨hh.from_, hh.ahead, hh.text, (Below.refl _ _).drew⟩
  have hzF : (Tryd.prog.info? 70).map (·.size) = some (i64L f.list).length := by rw [show (i64L f.list).length = 8 from rfl]; exact isize8
  have HTT : Hid (∀ W, Below w.heap.size w W → RTabs W ∧ 4 ≤ W.heap.size) := fun W h => ⟨hr.below h h4, by have := h.size; omega⟩
  clear hh hok hr
  generalize i64s st.list = D at hbl hto hst hone H8
  unfold i64s at hbl
  generalize i64L f.list = FL at hbl hS0 hzF
  have hwr : IntKind.i64.wrap ((ah : Int) + (t.size : Int)) = (ah : Int) + (t.size : Int) := by rw [IntKind.wrap_i64]; omega
  have HBL : Hid (∀ W, RS w p FL ah t W → Calls Tryd.prog 36 #[.agg FL.toArray, .string t] W fun e w' => e = .returned (.agg D) ∧ Below W.heap.size W w') := fun W k => hbl W (HTT.out W k.2.2.2).1 (HTT.out W k.2.2.2).2
  have hm : (t.size : Int).tmod 64 = ((t.size % 64 : Nat) : Int) := by rw [Int.tmod_eq_emod_of_nonneg (by omega)]; omega
  have hk : (t.size : Int) - ((t.size % 64 : Nat) : Int) = ((64 * (t.size / 64) : Nat) : Int) := by omega
  have hwm : IntKind.i64.wrap ((t.size % 64 : Nat) : Int) = ((t.size % 64 : Nat) : Int) := by rw [IntKind.wrap_i64]; omega
  have hwk : IntKind.i64.wrap ((64 * (t.size / 64) : Nat) : Int) = ((64 * (t.size / 64) : Nat) : Int) := by rw [IntKind.wrap_i64]; omega
  have hsl : ∀ W, (Instr.slice 9 (.string t) (some (.int .i64 ((64 * (t.size / 64) : Nat) : Int))) none none).run Tryd.prog W = .ok (.string (str (t.data.toList.drop (64 * (t.size / 64))))) W := fun W => by
    rw [run_slice_string_l (P := Tryd.prog) W 9 t Tryd.underlying9 .i64 _ (by omega) (by omega), Int.toNat_natCast]
    congr 2
    rw [← str_of (t.extract _ t.size), extract_data, List.take_of_length_le (by rw [List.length_drop]; omega)]
  have hs1 : (str (wtext st)).size + (str (be8 (ah + t.size))).size ≤ 9223372036854775807 := by rw [str_size, str_size, wtext_length, be8_length]; omega
  have hs2 : (str (wtext st)).size + (str (be8 (ah + t.size))).size + (str (t.data.toList.drop (64 * (t.size / 64)))).size ≤ 9223372036854775807 := by rw [str_size, str_size, str_size, wtext_length, be8_length, List.length_drop]; omega
  have HFIN : Hid (str (wtext st) ++ str (be8 (ah + t.size)) ++ str (t.data.toList.drop (64 * (t.size / 64))) = str (stateL st (t.data.toList.drop (64 * (t.size / 64))) (ah + t.size))) := by
    show _ = _
    rw [← str_of (str (wtext st) ++ _ ++ _), ByteArray.data_append, ByteArray.data_append, Array.toList_append, Array.toList_append, str_data, str_data, str_data, List.append_assoc]
    rfl
  generalize str (stateL st (t.data.toList.drop (64 * (t.size / 64))) (ah + t.size)) = YY at HFIN ⊢
  generalize str (wtext st) = ya at hto hs1 hs2 HFIN
  generalize str (be8 (ah + t.size)) = yb at hei hs1 hs2 HFIN
  generalize str (t.data.toList.drop (64 * (t.size / 64))) = yr at hsl hs2 HFIN
  generalize t.size % 64 = m at hm hk hwm
  generalize 64 * (t.size / 64) = k at hk hwk hsl hre
  have HTO : Hid _ := hto
  have HEI : Hid _ := hei
  clear hre
  have HK : Hid (∀ V W, RS w p FL ah t V → Below V.heap.size V W → RS w p FL ah t W) := fun V W h hb => h.below hb
  have HQ : Hid (∀ V h vs, RS w p FL ah t V → p ≠ h ∧ w.heap.size ≤ h → RS w p FL ah t (V.setCells h 0 vs)) := fun V h vs k hx => k.set h vs hx.1 hx.2
  clear hbl hto hei HTT hl
  go_enter Tryd.func27, Tryd.ntmps27
  go_wp2_with fail
  refine wp_region_held_drew (S := fun W => RS w p FL ah t W) (by kernel_rfl) hS0 ?_
  intro hS
  clear hS0
  revert hS
  generalize w.drew = V
  intro hS
  refine wpAnyH_take (i := 0) (oi := { dst := some 5, op := .move (.tmp 0), type := _, pos := _, after := _, guard := none }) (v := .pointer (some ⟨p, 0, none⟩)) rfl (by kernel_rfl) (by kernel_rfl) (by kernel_rfl) (fun _ _ _ h => h) (Or.inl ⟨by rfl, by intro x _; go_simp⟩) hS ?_
  (try simp only [Act.put, List.setIfInBounds_toArray, List.set_cons_zero, List.set_cons_succ])
  refine wpAnyH_take (i := 1) (oi := { dst := some 6, op := .nilCheck (.tmp 5), type := _, pos := _, after := _, guard := none }) (v := .pointer (some ⟨p, 0, none⟩)) rfl (by kernel_rfl) (by kernel_rfl) (by kernel_rfl) (fun _ _ _ h => h) (Or.inl ⟨by rfl, by intro x _; go_simp⟩) hS ?_
  (try simp only [Act.put, List.setIfInBounds_toArray, List.set_cons_zero, List.set_cons_succ])
  refine wpAnyH_take (i := 2) (oi := { dst := some 7, op := .fieldAddr 73 (.tmp 6) 0, type := _, pos := _, after := _, guard := none }) (v := .pointer (some ⟨p, 0, none⟩)) rfl (by kernel_rfl) (by kernel_rfl) (by kernel_rfl) (fun _ _ _ h => h) (Or.inl ⟨by rfl, by intro x _; go_simp⟩) hS ?_
  (try simp only [Act.put, List.setIfInBounds_toArray, List.set_cons_zero, List.set_cons_succ])
  refine wpAnyH_take (i := 3) (oi := { dst := some 8, op := .load 70 (.tmp 7), type := _, pos := _, after := _, guard := none }) (v := .agg (FL).toArray) rfl (by kernel_rfl) (by kernel_rfl) (by kernel_rfl) (fun _ _ _ h => h) (yieldsIf_load_mid (by rfl) 70 (.tmp 7) rfl p 0 (by simp [Act.eval]) (FL) _ (fun x hx => hx.1) Tryd.underlying70 rfl hzF) hS ?_
  (try simp only [Act.put, List.setIfInBounds_toArray, List.set_cons_zero, List.set_cons_succ])
  refine wpAnyH_take (i := 4) (oi := { dst := some 9, op := .move (.tmp 0), type := _, pos := _, after := _, guard := none }) (v := .pointer (some ⟨p, 0, none⟩)) rfl (by kernel_rfl) (by kernel_rfl) (by kernel_rfl) (fun _ _ _ h => h) (Or.inl ⟨by rfl, by intro x _; go_simp⟩) hS ?_
  (try simp only [Act.put, List.setIfInBounds_toArray, List.set_cons_zero, List.set_cons_succ])
  refine wpAnyH_take (i := 5) (oi := { dst := some 10, op := .nilCheck (.tmp 9), type := _, pos := _, after := _, guard := none }) (v := .pointer (some ⟨p, 0, none⟩)) rfl (by kernel_rfl) (by kernel_rfl) (by kernel_rfl) (fun _ _ _ h => h) (Or.inl ⟨by rfl, by intro x _; go_simp⟩) hS ?_
  (try simp only [Act.put, List.setIfInBounds_toArray, List.set_cons_zero, List.set_cons_succ])
  refine wpAnyH_take (i := 6) (oi := { dst := some 11, op := .fieldAddr 73 (.tmp 10) 2, type := _, pos := _, after := _, guard := none }) (v := .pointer (some ⟨p, 9, none⟩)) rfl (by kernel_rfl) (by kernel_rfl) (by kernel_rfl) (fun _ _ _ h => h) (Or.inl ⟨by rfl, by intro x _; go_simp⟩) hS ?_
  (try simp only [Act.put, List.setIfInBounds_toArray, List.set_cons_zero, List.set_cons_succ])
  refine wpAnyH_take (i := 7) (oi := { dst := some 12, op := .load 9 (.tmp 11), type := _, pos := _, after := _, guard := none }) (v := .string t) rfl (by kernel_rfl) (by kernel_rfl) (by kernel_rfl) (fun _ _ _ h => h) (Or.inl ⟨by rfl, by intro x hx; have h1 := hx.2.2.1; go_simp⟩) hS ?_
  (try simp only [Act.put, List.setIfInBounds_toArray, List.set_cons_zero, List.set_cons_succ])
  refine wpAnyH_ready (rs := [8, 9]) (by kernel_rfl) (by simp) ?_
  refine AllReadyH.cons (o := { dst := some 13, op := .call { callee := .value (.func 36), args := #[.tmp 8, .tmp 12], argTypes := #[70, 9] }, type := _, pos := _, after := _, guard := none }) rfl (fun K hK => ?_) (AllReadyH.cons (o := { dst := some 3, op := .alloc 70, type := _, pos := _, after := _, guard := none }) rfl (fun K hK => ?_) AllReadyH.nil)
  · go_simp
    refine (HBL.out V hS).mono ?_
    rintro e W2 ⟨rfl, hbc⟩
    have hS2 := HK.out V W2 hS hbc
    refine hK.out _ _ hS2 (fun _ => ?_)
    clear hK K
    (try simp only [Act.put, List.setIfInBounds_toArray, List.set_cons_zero, List.set_cons_succ])
    revert hS2
    clear hS hbc
    generalize W2 = V
    intro hS
    refine wpAnyH_ready (rs := [9]) (by kernel_rfl) (by simp) ?_
    refine AllReadyH.cons (o := { dst := some 3, op := .alloc 70, type := _, pos := _, after := _, guard := none }) rfl (fun K hK => ?_) AllReadyH.nil
    go_simp
    have hn2 : (V.alloc (.cells #[.int .i64 0, .int .i64 0, .int .i64 0, .int .i64 0, .int .i64 0, .int .i64 0, .int .i64 0, .int .i64 0] 70)).heap[V.heap.size]? = some (.cells #[.int .i64 0, .int .i64 0, .int .i64 0, .int .i64 0, .int .i64 0, .int .i64 0, .int .i64 0, .int .i64 0] 70) := heap_new _ _
    have hS2 := HK.out V (V.alloc (.cells #[.int .i64 0, .int .i64 0, .int .i64 0, .int .i64 0, .int .i64 0, .int .i64 0, .int .i64 0, .int .i64 0] 70)) hS ((Below.refl _ _).alloc (Nat.le_refl _) _)
    have hgx : p ≠ V.heap.size ∧ w.heap.size ≤ V.heap.size := ⟨by have := block_lt_of_cell hS.2.1; simp at this; omega, hS.2.2.2.size⟩
    refine hK.out _ _ hS2 (fun _ => ?_)
    clear hK K
    (try simp only [Act.put, List.setIfInBounds_toArray, List.set_cons_zero, List.set_cons_succ])
    revert hn2 hS2 hgx
    clear hS
    generalize V.alloc (.cells #[.int .i64 0, .int .i64 0, .int .i64 0, .int .i64 0, .int .i64 0, .int .i64 0, .int .i64 0, .int .i64 0] 70) = V2
    generalize V.heap.size = h
    intro hn hS hgx
    revert hn hS
    generalize V2 = V
    intro hn hS
    refine wpAnyH_ready (rs := [10]) (by kernel_rfl) (by simp) ?_
    refine AllReadyH.cons (o := { dst := none, op := .store 70 (.tmp 3) (.tmp 13), type := _, pos := _, after := _, guard := none }) rfl (fun K hK => ?_) AllReadyH.nil
    refine step_store_mid rfl 70 (.tmp 3) (.tmp 13) rfl h 0 D (by simp [Act.eval]) (by simp [Act.eval]) (there_of_heap hn (by rw [H8.out]; exact Nat.le_refl 8)) hst hone ?_
    have hn8 := heap_setCells h 70 D.toList 0 _ _ hn
    rw [setMany_all _ _ (by rw [Array.length_toList, H8.out]; rfl), Array.toArray_toList] at hn8
    have hS8 := HQ.out V h D.toList hS hgx
    refine hK.out _ _ hS8 (fun _ => ?_)
    clear hK K
    (try simp only [Act.put])
    revert hn8 hS8
    clear hS hn
    generalize V.setCells h 0 D.toList = V3
    intro hn hS
    revert hn hS
    generalize V3 = V
    intro hn hS
    refine wpAnyH_done (by kernel_rfl) ?_ _
    have c9 := hS.2.2.1
    go_wp2_with fail
    clear c9
    obtain ⟨DL, rfl⟩ : ∃ DL : List Value, D = DL.toArray := ⟨D.toList, by simp⟩
    have hst3 : (Tryd.prog.info? 70).map (·.size) = some DL.length := hst
    have HK3 : Hid (∀ V W, (RS w p FL ah t V ∧ V.rangeAt h 0 DL) → Below V.heap.size V W → (RS w p FL ah t W ∧ W.rangeAt h 0 DL)) := fun V W k hb => ⟨k.1.below hb, range_below8 k.2 (by rw [show DL.length = 8 from H8.out]; omega) hb⟩
    have hS0 : RS w p FL ah t V.drew ∧ V.drew.rangeAt h 0 DL := ⟨hS.below (Below.refl _ _).drew, range_of_heap (pre := []) (post := []) hn (by simp)⟩
    clear hS hn
    refine wp_region_held_drew (S := fun W => RS w p FL ah t W ∧ W.rangeAt h 0 DL) (by kernel_rfl) hS0 ?_
    intro hS
    clear hS0
    revert hS
    generalize V.drew = V3
    intro hS
    revert hS
    clear HBL HK HQ hgx
    generalize V3 = V
    intro hS
    refine wpAnyH_take (i := 0) (oi := { dst := some 19, op := .load 70 (.tmp 3), type := _, pos := _, after := _, guard := none }) (v := .agg (DL).toArray) rfl (by kernel_rfl) (by kernel_rfl) (by kernel_rfl) (fun _ _ _ h => h) (yieldsIf_load_mid (by rfl) 70 (.tmp 3) rfl h 0 (by simp [Act.eval]) (DL) _ (fun x hx => hx.2) Tryd.underlying70 rfl hst3) hS ?_
    (try simp only [Act.put, List.setIfInBounds_toArray, List.set_cons_zero, List.set_cons_succ])
    refine wpAnyH_take (i := 2) (oi := { dst := some 21, op := .move (.tmp 0), type := _, pos := _, after := _, guard := none }) (v := .pointer (some ⟨p, 0, none⟩)) rfl (by kernel_rfl) (by kernel_rfl) (by kernel_rfl) (fun _ _ _ h => h) (Or.inl ⟨by rfl, by intro x _; go_simp⟩) hS ?_
    (try simp only [Act.put, List.setIfInBounds_toArray, List.set_cons_zero, List.set_cons_succ])
    refine wpAnyH_take (i := 3) (oi := { dst := some 22, op := .nilCheck (.tmp 21), type := _, pos := _, after := _, guard := none }) (v := .pointer (some ⟨p, 0, none⟩)) rfl (by kernel_rfl) (by kernel_rfl) (by kernel_rfl) (fun _ _ _ h => h) (Or.inl ⟨by rfl, by intro x _; go_simp⟩) hS ?_
    (try simp only [Act.put, List.setIfInBounds_toArray, List.set_cons_zero, List.set_cons_succ])
    refine wpAnyH_take (i := 4) (oi := { dst := some 23, op := .fieldAddr 73 (.tmp 22) 1, type := _, pos := _, after := _, guard := none }) (v := .pointer (some ⟨p, 8, none⟩)) rfl (by kernel_rfl) (by kernel_rfl) (by kernel_rfl) (fun _ _ _ h => h) (Or.inl ⟨by rfl, by intro x _; go_simp⟩) hS ?_
    (try simp only [Act.put, List.setIfInBounds_toArray, List.set_cons_zero, List.set_cons_succ])
    refine wpAnyH_take (i := 5) (oi := { dst := some 24, op := .load 3 (.tmp 23), type := _, pos := _, after := _, guard := none }) (v := .int .i64 (ah : Int)) rfl (by kernel_rfl) (by kernel_rfl) (by kernel_rfl) (fun _ _ _ h => h) (Or.inl ⟨by rfl, by intro x hx; have h1 := hx.1.2.1; go_simp⟩) hS ?_
    (try simp only [Act.put, List.setIfInBounds_toArray, List.set_cons_zero, List.set_cons_succ])
    refine wpAnyH_take (i := 6) (oi := { dst := some 25, op := .move (.tmp 4), type := _, pos := _, after := _, guard := none }) (v := .int .i64 (t.size : Int)) rfl (by kernel_rfl) (by kernel_rfl) (by kernel_rfl) (fun _ _ _ h => h) (Or.inl ⟨by rfl, by intro x _; go_simp⟩) hS ?_
    (try simp only [Act.put, List.setIfInBounds_toArray, List.set_cons_zero, List.set_cons_succ])
    refine wpAnyH_take (i := 7) (oi := { dst := some 26, op := .binOp .add 3 (.tmp 24) (.tmp 25) 3, type := _, pos := _, after := _, guard := none }) (v := .int .i64 ((ah + t.size : Nat) : Int)) rfl (by kernel_rfl) (by kernel_rfl) (by kernel_rfl) (fun _ _ _ h => h) (Or.inl ⟨by rfl, by intro x _; go_simp⟩) hS ?_
    (try simp only [Act.put, List.setIfInBounds_toArray, List.set_cons_zero, List.set_cons_succ])
    refine wpAnyH_take (i := 10) (oi := { dst := some 29, op := .move (.tmp 0), type := _, pos := _, after := _, guard := none }) (v := .pointer (some ⟨p, 0, none⟩)) rfl (by kernel_rfl) (by kernel_rfl) (by kernel_rfl) (fun _ _ _ h => h) (Or.inl ⟨by rfl, by intro x _; go_simp⟩) hS ?_
    (try simp only [Act.put, List.setIfInBounds_toArray, List.set_cons_zero, List.set_cons_succ])
    refine wpAnyH_take (i := 11) (oi := { dst := some 30, op := .nilCheck (.tmp 29), type := _, pos := _, after := _, guard := none }) (v := .pointer (some ⟨p, 0, none⟩)) rfl (by kernel_rfl) (by kernel_rfl) (by kernel_rfl) (fun _ _ _ h => h) (Or.inl ⟨by rfl, by intro x _; go_simp⟩) hS ?_
    (try simp only [Act.put, List.setIfInBounds_toArray, List.set_cons_zero, List.set_cons_succ])
    refine wpAnyH_take (i := 12) (oi := { dst := some 31, op := .fieldAddr 73 (.tmp 30) 2, type := _, pos := _, after := _, guard := none }) (v := .pointer (some ⟨p, 9, none⟩)) rfl (by kernel_rfl) (by kernel_rfl) (by kernel_rfl) (fun _ _ _ h => h) (Or.inl ⟨by rfl, by intro x _; go_simp⟩) hS ?_
    (try simp only [Act.put, List.setIfInBounds_toArray, List.set_cons_zero, List.set_cons_succ])
    refine wpAnyH_take (i := 13) (oi := { dst := some 32, op := .load 9 (.tmp 31), type := _, pos := _, after := _, guard := none }) (v := .string t) rfl (by kernel_rfl) (by kernel_rfl) (by kernel_rfl) (fun _ _ _ h => h) (Or.inl ⟨by rfl, by intro x hx; have h1 := hx.1.2.2.1; go_simp⟩) hS ?_
    (try simp only [Act.put, List.setIfInBounds_toArray, List.set_cons_zero, List.set_cons_succ])
    refine wpAnyH_take (i := 14) (oi := { dst := some 33, op := .move (.tmp 4), type := _, pos := _, after := _, guard := none }) (v := .int .i64 (t.size : Int)) rfl (by kernel_rfl) (by kernel_rfl) (by kernel_rfl) (fun _ _ _ h => h) (Or.inl ⟨by rfl, by intro x _; go_simp⟩) hS ?_
    (try simp only [Act.put, List.setIfInBounds_toArray, List.set_cons_zero, List.set_cons_succ])
    refine wpAnyH_take (i := 15) (oi := { dst := some 34, op := .move (.tmp 4), type := _, pos := _, after := _, guard := none }) (v := .int .i64 (t.size : Int)) rfl (by kernel_rfl) (by kernel_rfl) (by kernel_rfl) (fun _ _ _ h => h) (Or.inl ⟨by rfl, by intro x _; go_simp⟩) hS ?_
    (try simp only [Act.put, List.setIfInBounds_toArray, List.set_cons_zero, List.set_cons_succ])
    refine wpAnyH_take (i := 16) (oi := { dst := some 35, op := .binOp .rem 3 (.tmp 34) (.const (.int .i64 64)) 3, type := _, pos := _, after := _, guard := none }) (v := .int .i64 (m : Int)) rfl (by kernel_rfl) (by kernel_rfl) (by kernel_rfl) (fun _ _ _ h => h) (Or.inl ⟨by rfl, by intro x _; go_simp⟩) hS ?_
    (try simp only [Act.put, List.setIfInBounds_toArray, List.set_cons_zero, List.set_cons_succ])
    refine wpAnyH_take (i := 17) (oi := { dst := some 36, op := .binOp .sub 3 (.tmp 33) (.tmp 35) 3, type := _, pos := _, after := _, guard := none }) (v := .int .i64 (k : Int)) rfl (by kernel_rfl) (by kernel_rfl) (by kernel_rfl) (fun _ _ _ h => h) (Or.inl ⟨by rfl, by intro x _; go_simp⟩) hS ?_
    (try simp only [Act.put, List.setIfInBounds_toArray, List.set_cons_zero, List.set_cons_succ])
    refine wpAnyH_take (i := 18) (oi := { dst := some 37, op := .slice 9 (.tmp 32) (some (.tmp 36)) none none, type := _, pos := _, after := _, guard := none }) (v := .string yr) rfl (by kernel_rfl) (by kernel_rfl) (by kernel_rfl) (fun _ _ _ h => h) (Or.inl ⟨by rfl, by intro x _; go_simp⟩) hS ?_
    (try simp only [Act.put, List.setIfInBounds_toArray, List.set_cons_zero, List.set_cons_succ])
    refine wpAnyH_ready (rs := [1]) (by kernel_rfl) (by simp) ?_
    refine AllReadyH.cons (o := { dst := some 20, op := .call { callee := .value (.func 37), args := #[.tmp 19], argTypes := #[70] }, type := _, pos := _, after := _, guard := none }) rfl (fun K hK => ?_) AllReadyH.nil
    go_simp
    refine (HTO.out V).mono ?_
    rintro e W2 ⟨rfl, hbc⟩
    have hS2 := HK3.out V W2 hS hbc
    refine hK.out _ _ hS2 (fun _ => ?_)
    clear hK K
    (try simp only [Act.put, List.setIfInBounds_toArray, List.set_cons_zero, List.set_cons_succ])
    revert hS2
    clear hS hbc
    generalize W2 = V
    intro hS
    refine wpAnyH_ready (rs := [8]) (by kernel_rfl) (by simp) ?_
    refine AllReadyH.cons (o := { dst := some 27, op := .call { callee := .value (.func 38), args := #[.tmp 26], argTypes := #[3] }, type := _, pos := _, after := _, guard := none }) rfl (fun K hK => ?_) AllReadyH.nil
    go_simp
    refine (HEI.out V).mono ?_
    rintro e W2 ⟨rfl, hbc⟩
    have hS2 := HK3.out V W2 hS hbc
    refine hK.out _ _ hS2 (fun _ => ?_)
    clear hK K
    (try simp only [Act.put, List.setIfInBounds_toArray, List.set_cons_zero, List.set_cons_succ])
    revert hS2
    clear hS hbc
    generalize W2 = V
    intro hS
    refine wpAnyH_take (i := 9) (oi := { dst := some 28, op := .binOp .add 9 (.tmp 20) (.tmp 27) 9, type := _, pos := _, after := _, guard := none }) (v := .string (ya ++ yb)) rfl (by kernel_rfl) (by kernel_rfl) (by kernel_rfl) (fun _ _ _ h => h) (Or.inl ⟨by rfl, by intro x _; go_simp⟩) hS ?_
    (try simp only [Act.put, List.setIfInBounds_toArray, List.set_cons_zero, List.set_cons_succ])
    refine wpAnyH_take (i := 19) (oi := { dst := some 38, op := .binOp .add 9 (.tmp 28) (.tmp 37) 9, type := _, pos := _, after := _, guard := none }) (v := .string (ya ++ yb ++ yr)) rfl (by kernel_rfl) (by kernel_rfl) (by kernel_rfl) (fun _ _ _ h => h) (Or.inl ⟨by rfl, by intro x _; go_simp⟩) hS ?_
    (try simp only [Act.put, List.setIfInBounds_toArray, List.set_cons_zero, List.set_cons_succ])
    refine wpAnyH_take (i := 20) (oi := { dst := some 2, op := .assign (.tmp 38), type := _, pos := _, after := _, guard := none }) (v := .string (ya ++ yb ++ yr)) rfl (by kernel_rfl) (by kernel_rfl) (by kernel_rfl) (fun _ _ _ h => h) (Or.inl ⟨by rfl, by intro x _; go_simp⟩) hS ?_
    (try simp only [Act.put, List.setIfInBounds_toArray, List.set_cons_zero, List.set_cons_succ])
    refine wpAnyH_done (by kernel_rfl) ?_ _
    go_wp2
    go_ret
    exact ⟨by rw [HFIN.out]; rfl, hS.1.2.2.2⟩
  · go_simp
    have hn2 : (V.alloc (.cells #[.int .i64 0, .int .i64 0, .int .i64 0, .int .i64 0, .int .i64 0, .int .i64 0, .int .i64 0, .int .i64 0] 70)).heap[V.heap.size]? = some (.cells #[.int .i64 0, .int .i64 0, .int .i64 0, .int .i64 0, .int .i64 0, .int .i64 0, .int .i64 0, .int .i64 0] 70) := heap_new _ _
    have hS2 := HK.out V (V.alloc (.cells #[.int .i64 0, .int .i64 0, .int .i64 0, .int .i64 0, .int .i64 0, .int .i64 0, .int .i64 0, .int .i64 0] 70)) hS ((Below.refl _ _).alloc (Nat.le_refl _) _)
    have hgx : p ≠ V.heap.size ∧ w.heap.size ≤ V.heap.size := ⟨by have := block_lt_of_cell hS.2.1; simp at this; omega, hS.2.2.2.size⟩
    refine hK.out _ _ hS2 (fun _ => ?_)
    clear hK K
    (try simp only [Act.put, List.setIfInBounds_toArray, List.set_cons_zero, List.set_cons_succ])
    revert hn2 hS2 hgx
    clear hS
    generalize V.alloc (.cells #[.int .i64 0, .int .i64 0, .int .i64 0, .int .i64 0, .int .i64 0, .int .i64 0, .int .i64 0, .int .i64 0] 70) = V2
    generalize V.heap.size = h
    intro hn hS hgx
    revert hn hS
    generalize V2 = V
    intro hn hS
    refine wpAnyH_ready (rs := [8]) (by kernel_rfl) (by simp) ?_
    refine AllReadyH.cons (o := { dst := some 13, op := .call { callee := .value (.func 36), args := #[.tmp 8, .tmp 12], argTypes := #[70, 9] }, type := _, pos := _, after := _, guard := none }) rfl (fun K hK => ?_) AllReadyH.nil
    go_simp
    refine (HBL.out V hS).mono ?_
    rintro e W2 ⟨rfl, hbc⟩
    have hS2 := HK.out V W2 hS hbc
    have hn2 := (hbc.block h (heap_lt hn)).trans hn
    refine hK.out _ _ hS2 (fun _ => ?_)
    clear hK K
    (try simp only [Act.put, List.setIfInBounds_toArray, List.set_cons_zero, List.set_cons_succ])
    revert hS2 hn2
    clear hS hbc hn
    generalize W2 = V
    intro hS hn
    refine wpAnyH_ready (rs := [10]) (by kernel_rfl) (by simp) ?_
    refine AllReadyH.cons (o := { dst := none, op := .store 70 (.tmp 3) (.tmp 13), type := _, pos := _, after := _, guard := none }) rfl (fun K hK => ?_) AllReadyH.nil
    refine step_store_mid rfl 70 (.tmp 3) (.tmp 13) rfl h 0 D (by simp [Act.eval]) (by simp [Act.eval]) (there_of_heap hn (by rw [H8.out]; exact Nat.le_refl 8)) hst hone ?_
    have hn8 := heap_setCells h 70 D.toList 0 _ _ hn
    rw [setMany_all _ _ (by rw [Array.length_toList, H8.out]; rfl), Array.toArray_toList] at hn8
    have hS8 := HQ.out V h D.toList hS hgx
    refine hK.out _ _ hS8 (fun _ => ?_)
    clear hK K
    (try simp only [Act.put])
    revert hn8 hS8
    clear hS hn
    generalize V.setCells h 0 D.toList = V3
    intro hn hS
    revert hn hS
    generalize V3 = V
    intro hn hS
    refine wpAnyH_done (by kernel_rfl) ?_ _
    have c9 := hS.2.2.1
    go_wp2_with fail
    clear c9
    obtain ⟨DL, rfl⟩ : ∃ DL : List Value, D = DL.toArray := ⟨D.toList, by simp⟩
    have hst3 : (Tryd.prog.info? 70).map (·.size) = some DL.length := hst
    have HK3 : Hid (∀ V W, (RS w p FL ah t V ∧ V.rangeAt h 0 DL) → Below V.heap.size V W → (RS w p FL ah t W ∧ W.rangeAt h 0 DL)) := fun V W k hb => ⟨k.1.below hb, range_below8 k.2 (by rw [show DL.length = 8 from H8.out]; omega) hb⟩
    have hS0 : RS w p FL ah t V.drew ∧ V.drew.rangeAt h 0 DL := ⟨hS.below (Below.refl _ _).drew, range_of_heap (pre := []) (post := []) hn (by simp)⟩
    clear hS hn
    refine wp_region_held_drew (S := fun W => RS w p FL ah t W ∧ W.rangeAt h 0 DL) (by kernel_rfl) hS0 ?_
    intro hS
    clear hS0
    revert hS
    generalize V.drew = V3
    intro hS
    revert hS
    clear HBL HK HQ hgx
    generalize V3 = V
    intro hS
    refine wpAnyH_take (i := 0) (oi := { dst := some 19, op := .load 70 (.tmp 3), type := _, pos := _, after := _, guard := none }) (v := .agg (DL).toArray) rfl (by kernel_rfl) (by kernel_rfl) (by kernel_rfl) (fun _ _ _ h => h) (yieldsIf_load_mid (by rfl) 70 (.tmp 3) rfl h 0 (by simp [Act.eval]) (DL) _ (fun x hx => hx.2) Tryd.underlying70 rfl hst3) hS ?_
    (try simp only [Act.put, List.setIfInBounds_toArray, List.set_cons_zero, List.set_cons_succ])
    refine wpAnyH_take (i := 2) (oi := { dst := some 21, op := .move (.tmp 0), type := _, pos := _, after := _, guard := none }) (v := .pointer (some ⟨p, 0, none⟩)) rfl (by kernel_rfl) (by kernel_rfl) (by kernel_rfl) (fun _ _ _ h => h) (Or.inl ⟨by rfl, by intro x _; go_simp⟩) hS ?_
    (try simp only [Act.put, List.setIfInBounds_toArray, List.set_cons_zero, List.set_cons_succ])
    refine wpAnyH_take (i := 3) (oi := { dst := some 22, op := .nilCheck (.tmp 21), type := _, pos := _, after := _, guard := none }) (v := .pointer (some ⟨p, 0, none⟩)) rfl (by kernel_rfl) (by kernel_rfl) (by kernel_rfl) (fun _ _ _ h => h) (Or.inl ⟨by rfl, by intro x _; go_simp⟩) hS ?_
    (try simp only [Act.put, List.setIfInBounds_toArray, List.set_cons_zero, List.set_cons_succ])
    refine wpAnyH_take (i := 4) (oi := { dst := some 23, op := .fieldAddr 73 (.tmp 22) 1, type := _, pos := _, after := _, guard := none }) (v := .pointer (some ⟨p, 8, none⟩)) rfl (by kernel_rfl) (by kernel_rfl) (by kernel_rfl) (fun _ _ _ h => h) (Or.inl ⟨by rfl, by intro x _; go_simp⟩) hS ?_
    (try simp only [Act.put, List.setIfInBounds_toArray, List.set_cons_zero, List.set_cons_succ])
    refine wpAnyH_take (i := 5) (oi := { dst := some 24, op := .load 3 (.tmp 23), type := _, pos := _, after := _, guard := none }) (v := .int .i64 (ah : Int)) rfl (by kernel_rfl) (by kernel_rfl) (by kernel_rfl) (fun _ _ _ h => h) (Or.inl ⟨by rfl, by intro x hx; have h1 := hx.1.2.1; go_simp⟩) hS ?_
    (try simp only [Act.put, List.setIfInBounds_toArray, List.set_cons_zero, List.set_cons_succ])
    refine wpAnyH_take (i := 6) (oi := { dst := some 25, op := .move (.tmp 4), type := _, pos := _, after := _, guard := none }) (v := .int .i64 (t.size : Int)) rfl (by kernel_rfl) (by kernel_rfl) (by kernel_rfl) (fun _ _ _ h => h) (Or.inl ⟨by rfl, by intro x _; go_simp⟩) hS ?_
    (try simp only [Act.put, List.setIfInBounds_toArray, List.set_cons_zero, List.set_cons_succ])
    refine wpAnyH_take (i := 7) (oi := { dst := some 26, op := .binOp .add 3 (.tmp 24) (.tmp 25) 3, type := _, pos := _, after := _, guard := none }) (v := .int .i64 ((ah + t.size : Nat) : Int)) rfl (by kernel_rfl) (by kernel_rfl) (by kernel_rfl) (fun _ _ _ h => h) (Or.inl ⟨by rfl, by intro x _; go_simp⟩) hS ?_
    (try simp only [Act.put, List.setIfInBounds_toArray, List.set_cons_zero, List.set_cons_succ])
    refine wpAnyH_take (i := 10) (oi := { dst := some 29, op := .move (.tmp 0), type := _, pos := _, after := _, guard := none }) (v := .pointer (some ⟨p, 0, none⟩)) rfl (by kernel_rfl) (by kernel_rfl) (by kernel_rfl) (fun _ _ _ h => h) (Or.inl ⟨by rfl, by intro x _; go_simp⟩) hS ?_
    (try simp only [Act.put, List.setIfInBounds_toArray, List.set_cons_zero, List.set_cons_succ])
    refine wpAnyH_take (i := 11) (oi := { dst := some 30, op := .nilCheck (.tmp 29), type := _, pos := _, after := _, guard := none }) (v := .pointer (some ⟨p, 0, none⟩)) rfl (by kernel_rfl) (by kernel_rfl) (by kernel_rfl) (fun _ _ _ h => h) (Or.inl ⟨by rfl, by intro x _; go_simp⟩) hS ?_
    (try simp only [Act.put, List.setIfInBounds_toArray, List.set_cons_zero, List.set_cons_succ])
    refine wpAnyH_take (i := 12) (oi := { dst := some 31, op := .fieldAddr 73 (.tmp 30) 2, type := _, pos := _, after := _, guard := none }) (v := .pointer (some ⟨p, 9, none⟩)) rfl (by kernel_rfl) (by kernel_rfl) (by kernel_rfl) (fun _ _ _ h => h) (Or.inl ⟨by rfl, by intro x _; go_simp⟩) hS ?_
    (try simp only [Act.put, List.setIfInBounds_toArray, List.set_cons_zero, List.set_cons_succ])
    refine wpAnyH_take (i := 13) (oi := { dst := some 32, op := .load 9 (.tmp 31), type := _, pos := _, after := _, guard := none }) (v := .string t) rfl (by kernel_rfl) (by kernel_rfl) (by kernel_rfl) (fun _ _ _ h => h) (Or.inl ⟨by rfl, by intro x hx; have h1 := hx.1.2.2.1; go_simp⟩) hS ?_
    (try simp only [Act.put, List.setIfInBounds_toArray, List.set_cons_zero, List.set_cons_succ])
    refine wpAnyH_take (i := 14) (oi := { dst := some 33, op := .move (.tmp 4), type := _, pos := _, after := _, guard := none }) (v := .int .i64 (t.size : Int)) rfl (by kernel_rfl) (by kernel_rfl) (by kernel_rfl) (fun _ _ _ h => h) (Or.inl ⟨by rfl, by intro x _; go_simp⟩) hS ?_
    (try simp only [Act.put, List.setIfInBounds_toArray, List.set_cons_zero, List.set_cons_succ])
    refine wpAnyH_take (i := 15) (oi := { dst := some 34, op := .move (.tmp 4), type := _, pos := _, after := _, guard := none }) (v := .int .i64 (t.size : Int)) rfl (by kernel_rfl) (by kernel_rfl) (by kernel_rfl) (fun _ _ _ h => h) (Or.inl ⟨by rfl, by intro x _; go_simp⟩) hS ?_
    (try simp only [Act.put, List.setIfInBounds_toArray, List.set_cons_zero, List.set_cons_succ])
    refine wpAnyH_take (i := 16) (oi := { dst := some 35, op := .binOp .rem 3 (.tmp 34) (.const (.int .i64 64)) 3, type := _, pos := _, after := _, guard := none }) (v := .int .i64 (m : Int)) rfl (by kernel_rfl) (by kernel_rfl) (by kernel_rfl) (fun _ _ _ h => h) (Or.inl ⟨by rfl, by intro x _; go_simp⟩) hS ?_
    (try simp only [Act.put, List.setIfInBounds_toArray, List.set_cons_zero, List.set_cons_succ])
    refine wpAnyH_take (i := 17) (oi := { dst := some 36, op := .binOp .sub 3 (.tmp 33) (.tmp 35) 3, type := _, pos := _, after := _, guard := none }) (v := .int .i64 (k : Int)) rfl (by kernel_rfl) (by kernel_rfl) (by kernel_rfl) (fun _ _ _ h => h) (Or.inl ⟨by rfl, by intro x _; go_simp⟩) hS ?_
    (try simp only [Act.put, List.setIfInBounds_toArray, List.set_cons_zero, List.set_cons_succ])
    refine wpAnyH_take (i := 18) (oi := { dst := some 37, op := .slice 9 (.tmp 32) (some (.tmp 36)) none none, type := _, pos := _, after := _, guard := none }) (v := .string yr) rfl (by kernel_rfl) (by kernel_rfl) (by kernel_rfl) (fun _ _ _ h => h) (Or.inl ⟨by rfl, by intro x _; go_simp⟩) hS ?_
    (try simp only [Act.put, List.setIfInBounds_toArray, List.set_cons_zero, List.set_cons_succ])
    refine wpAnyH_ready (rs := [1]) (by kernel_rfl) (by simp) ?_
    refine AllReadyH.cons (o := { dst := some 20, op := .call { callee := .value (.func 37), args := #[.tmp 19], argTypes := #[70] }, type := _, pos := _, after := _, guard := none }) rfl (fun K hK => ?_) AllReadyH.nil
    go_simp
    refine (HTO.out V).mono ?_
    rintro e W2 ⟨rfl, hbc⟩
    have hS2 := HK3.out V W2 hS hbc
    refine hK.out _ _ hS2 (fun _ => ?_)
    clear hK K
    (try simp only [Act.put, List.setIfInBounds_toArray, List.set_cons_zero, List.set_cons_succ])
    revert hS2
    clear hS hbc
    generalize W2 = V
    intro hS
    refine wpAnyH_ready (rs := [8]) (by kernel_rfl) (by simp) ?_
    refine AllReadyH.cons (o := { dst := some 27, op := .call { callee := .value (.func 38), args := #[.tmp 26], argTypes := #[3] }, type := _, pos := _, after := _, guard := none }) rfl (fun K hK => ?_) AllReadyH.nil
    go_simp
    refine (HEI.out V).mono ?_
    rintro e W2 ⟨rfl, hbc⟩
    have hS2 := HK3.out V W2 hS hbc
    refine hK.out _ _ hS2 (fun _ => ?_)
    clear hK K
    (try simp only [Act.put, List.setIfInBounds_toArray, List.set_cons_zero, List.set_cons_succ])
    revert hS2
    clear hS hbc
    generalize W2 = V
    intro hS
    refine wpAnyH_take (i := 9) (oi := { dst := some 28, op := .binOp .add 9 (.tmp 20) (.tmp 27) 9, type := _, pos := _, after := _, guard := none }) (v := .string (ya ++ yb)) rfl (by kernel_rfl) (by kernel_rfl) (by kernel_rfl) (fun _ _ _ h => h) (Or.inl ⟨by rfl, by intro x _; go_simp⟩) hS ?_
    (try simp only [Act.put, List.setIfInBounds_toArray, List.set_cons_zero, List.set_cons_succ])
    refine wpAnyH_take (i := 19) (oi := { dst := some 38, op := .binOp .add 9 (.tmp 28) (.tmp 37) 9, type := _, pos := _, after := _, guard := none }) (v := .string (ya ++ yb ++ yr)) rfl (by kernel_rfl) (by kernel_rfl) (by kernel_rfl) (fun _ _ _ h => h) (Or.inl ⟨by rfl, by intro x _; go_simp⟩) hS ?_
    (try simp only [Act.put, List.setIfInBounds_toArray, List.set_cons_zero, List.set_cons_succ])
    refine wpAnyH_take (i := 20) (oi := { dst := some 2, op := .assign (.tmp 38), type := _, pos := _, after := _, guard := none }) (v := .string (ya ++ yb ++ yr)) rfl (by kernel_rfl) (by kernel_rfl) (by kernel_rfl) (fun _ _ _ h => h) (Or.inl ⟨by rfl, by intro x _; go_simp⟩) hS ?_
    (try simp only [Act.put, List.setIfInBounds_toArray, List.set_cons_zero, List.set_cons_succ])
    refine wpAnyH_done (by kernel_rfl) ?_ _
    go_wp2
    go_ret
    exact ⟨by rw [HFIN.out]; rfl, hS.1.2.2.2⟩

end Go.Proofs.YtcfmcjdgdpignaaDoor
