import Derived.Test.YthfpodbbmeannaaDoorTlC
import Derived.Test.YthfpodbbmeannaaDoorHmacA
import Derived.Deep.RegionHeld
import Derived.Deep.Cut
namespace Go.Proofs.YthfpodbbmeannaaDoor
open Go.RowKit Go.Lib

theorem sumB_eat (t : List UInt8) : sumB (eat first t).1 (eat first t).2 t.length = shaL t := by
  rw [shaL, eat_append]
  rfl
theorem exec_buildM {P : Program} {a : Act} {o : Oper} {w : World} (t : TypeId) (parts : Array (Nat × Operand)) (ho : o.op = .build t parts) (vals : List (Nat × Value)) (hv : (parts.map fun (i, x) => (i, a.eval x)).toList = vals) (C : Array Value) (hc : P.built t vals = some C) :
    (execOp a.eval o).run P w = .ok (.value (.agg C)) w := by
  subst hv
  unfold execOp
  simp only [ho, Sem.run_bind, run_build w t _ C hc, Result.andThen_ok]
  rfl

/-- the block that holds the two blocks of the key -/
def Kc (w : World) (p : Nat) (yi yo : ByteArray) : Prop := w.heap[p]? = some (.cells #[.string yi, .string yo] 44 (0, 0))
theorem Kc.below {w w' : World} {B p : Nat} {yi yo : ByteArray} (h : Kc w p yi yo) (hb : Below B w w') (hp : p < B) : Kc w' p yi yo := (hb.block p hp).trans h

/-- a keyed sum that took a text -/
def Mc (w : World) (p : Nat) (key l : List UInt8) : Prop := Ht [.string (str (outerL key))] 57 w p (eat first (innerL key ++ l)).1 (eat first (innerL key ++ l)).2 (innerL key ++ l).length
theorem Mc.kept {w w' : World} {p : Nat} {key l : List UInt8} (h : Mc w p key l) (hk : w'.heap[p]? = w.heap[p]?) : Mc w' p key l := Ht.kept h hk
theorem Mc.lt {w : World} {p : Nat} {key l : List UInt8} (h : Mc w p key l) : p < w.heap.size := Ht.lt h
theorem Mc.below {w w' : World} {B p : Nat} {key l : List UInt8} (h : Mc w p key l) (hb : Below B w w') (hp : p < B) : Mc w' p key l := h.kept (hb.block p hp)
theorem Mc.only {w w' : World} {S : List Nat} {p : Nat} {key l : List UInt8} (h : Mc w p key l) (hb : Only S w w') (hp : p ∉ S) : Mc w' p key l := h.kept (hb.block p h.lt hp)

theorem mthere_yes {w : World} {p : Nat} {yo : ByteArray} (h : w.cell? ⟨p, 74, none⟩ = some (.string yo)) (hy : yo.size = 64) :
    Calls Tryd.prog 19 #[.pointer (some ⟨p, 0, none⟩)] w fun e w' => e = .returned (.bool true) ∧ w = w' := by
  have hemp : yo.toList.isEmpty = false := by
    rw [toList_data, List.isEmpty_eq_false_iff]
    intro h0
    rw [size_eq, h0] at hy
    cases hy
  go_enter Tryd.func19, Tryd.ntmps19
  go_wp2
  go_ret
  exact ⟨rfl, rfl⟩

theorem mwrite_any {w : World} {p : Nat} {key l : List UInt8} (h : Mc w p key l) (ht : Tabs w) (data : ByteArray) (hb : (innerL key ++ l).length + data.size ≤ 1099511627776) :
    Calls Tryd.prog 6 #[.pointer (some ⟨p, 0, none⟩), .string data] w fun e w' => e = .returned (.int .i64 0) ∧ Mc w' p key (l ++ data.data.toList) ∧ Only [p] w w' ∧ Tabs w' := by
  have hth := mthere_yes (Ht.tail h) (by rw [str_size, outerL_length])
  have hw := write_tl h ht data hb
  rw [← eat_append] at hw
  have HM : Hid (∀ w', Ht [.string (str (outerL key))] 57 w' p (eat first (innerL key ++ l ++ data.data.toList)).1 (eat first (innerL key ++ l ++ data.data.toList)).2 ((innerL key ++ l).length + data.size) → Mc w' p key (l ++ data.data.toList)) := fun w' h => by
    rw [size_eq, ← List.length_append, List.append_assoc] at h
    exact h
  clear h
  go_enter Tryd.func6, Tryd.ntmps6
  go_wp2_with fail
  refine hth.mono ?_
  rintro e w' ⟨rfl, rfl⟩
  go_wp2_with fail
  refine hw.mono ?_
  rintro e w1 ⟨rfl, h1, h2, h3⟩
  have h1' := HM.out w1 h1
  clear h1 HM hw hth
  go_wp2
  go_ret
  exact ⟨rfl, h1', h2, h3⟩

set_option maxRecDepth 20000 in
set_option maxHeartbeats 1000000 in
theorem msum_any {w : World} {p : Nat} {key l : List UInt8} (h : Mc w p key l) (ht : Tabs w) (hb : (innerL key ++ l).length < 1152921504606846976) :
    Calls Tryd.prog 8 #[.pointer (some ⟨p, 0, none⟩)] w fun e w' => e = .returned (.string (str (hmacL key l))) ∧ Below w.heap.size w w' := by
  have hyo : (str (outerL key)).size = 64 := by rw [str_size, outerL_length]
  have hth := mthere_yes (Ht.tail h) hyo
  have h4 : 4 ≤ w.heap.size := by have := Ht.own h; have := Ht.lt h; omega
  have HTT : Hid (∀ W, Below w.heap.size w W → Tabs W ∧ 4 ≤ W.heap.size) := fun W h => ⟨ht.below h (by omega), by have := h.size; omega⟩
  have hS0 : w.drew.cell? ⟨p, 74, none⟩ = some (.string (str (outerL key))) := Ht.tail (Ht.kept (w' := w.drew) h rfl)
  have hp : p < w.heap.size := Ht.lt h
  have hsu := hsum_tl (w := w.drew) (Ht.kept h rfl) ⟨ht.fw, ht.sw⟩ hb
  rw [sumB_eat] at hsu
  have HY : Hid (str (shaL ((str (outerL key)).data.toList ++ (str (shaL (innerL key ++ l))).data.toList)) = str (hmacL key l)) := by
    show _ = _
    rw [str_data, str_data]
    rfl
  have hsz : (str (outerL key)).size + (str (shaL (innerL key ++ l))).size < 1099511627776 := by rw [hyo, str_size, shaL_length]; omega
  clear h ht hb
  revert hth hS0 hsu HY hsz hyo
  generalize str (outerL key) = yo
  generalize str (shaL (innerL key ++ l)) = ys
  generalize str (hmacL key l) = yz
  intro hyo hth hS0 hsu HY hsz
  go_enter Tryd.func8, Tryd.ntmps8
  go_wp2_with fail
  refine hth.mono ?_
  rintro e w' ⟨rfl, rfl⟩
  go_upto_region 3 with fail
  refine wp_region_held_drew (S := fun W => W.cell? ⟨p, 74, none⟩ = some (.string yo)) (by kernel_rfl) hS0 ?_
  intro hS
  have hbV : Below w.heap.size w w.drew := (Below.refl _ _).drew
  have hpV : p < w.drew.heap.size := hp
  clear hS0 hth
  revert hS hbV hpV hsu
  generalize w.drew = V
  intro hsu hS hbV hpV
  refine wpAnyH_take (i := 0) (oi := { dst := some 6, op := .move (.tmp 0), type := _, pos := _, after := _, guard := none }) (v := .pointer (some ⟨p, 0, none⟩)) rfl (by kernel_rfl) (by kernel_rfl) (by kernel_rfl) (fun _ _ _ h => h) (Or.inl ⟨by rfl, by intro x _; go_simp⟩) hS ?_
  (try simp only [Act.put, List.setIfInBounds_toArray, List.set_cons_zero, List.set_cons_succ])
  refine wpAnyH_take (i := 1) (oi := { dst := some 7, op := .nilCheck (.tmp 6), type := _, pos := _, after := _, guard := none }) (v := .pointer (some ⟨p, 0, none⟩)) rfl (by kernel_rfl) (by kernel_rfl) (by kernel_rfl) (fun _ _ _ h => h) (Or.inl ⟨by rfl, by intro x _; go_simp⟩) hS ?_
  (try simp only [Act.put, List.setIfInBounds_toArray, List.set_cons_zero, List.set_cons_succ])
  refine wpAnyH_take (i := 2) (oi := { dst := some 8, op := .fieldAddr 57 (.tmp 7) 1, type := _, pos := _, after := _, guard := none }) (v := .pointer (some ⟨p, 74, none⟩)) rfl (by kernel_rfl) (by kernel_rfl) (by kernel_rfl) (fun _ _ _ h => h) (Or.inl ⟨by rfl, by intro x _; go_simp⟩) hS ?_
  (try simp only [Act.put, List.setIfInBounds_toArray, List.set_cons_zero, List.set_cons_succ])
  refine wpAnyH_take (i := 3) (oi := { dst := some 9, op := .load 9 (.tmp 8), type := _, pos := _, after := _, guard := none }) (v := .string yo) rfl (by kernel_rfl) (by kernel_rfl) (by kernel_rfl) (fun _ _ _ h => h) (Or.inl ⟨by rfl, by intro x hx; go_simp⟩) hS ?_
  (try simp only [Act.put, List.setIfInBounds_toArray, List.set_cons_zero, List.set_cons_succ])
  refine wpAnyH_take (i := 4) (oi := { dst := some 10, op := .move (.tmp 0), type := _, pos := _, after := _, guard := none }) (v := .pointer (some ⟨p, 0, none⟩)) rfl (by kernel_rfl) (by kernel_rfl) (by kernel_rfl) (fun _ _ _ h => h) (Or.inl ⟨by rfl, by intro x _; go_simp⟩) hS ?_
  (try simp only [Act.put, List.setIfInBounds_toArray, List.set_cons_zero, List.set_cons_succ])
  refine wpAnyH_take (i := 5) (oi := { dst := some 11, op := .nilCheck (.tmp 10), type := _, pos := _, after := _, guard := none }) (v := .pointer (some ⟨p, 0, none⟩)) rfl (by kernel_rfl) (by kernel_rfl) (by kernel_rfl) (fun _ _ _ h => h) (Or.inl ⟨by rfl, by intro x _; go_simp⟩) hS ?_
  (try simp only [Act.put, List.setIfInBounds_toArray, List.set_cons_zero, List.set_cons_succ])
  refine wpAnyH_take (i := 6) (oi := { dst := some 12, op := .fieldAddr 57 (.tmp 11) 0, type := _, pos := _, after := _, guard := none }) (v := .pointer (some ⟨p, 0, none⟩)) rfl (by kernel_rfl) (by kernel_rfl) (by kernel_rfl) (fun _ _ _ h => h) (Or.inl ⟨by rfl, by intro x _; go_simp⟩) hS ?_
  (try simp only [Act.put, List.setIfInBounds_toArray, List.set_cons_zero, List.set_cons_succ])
  refine wpAnyH_ready (rs := [7]) (by kernel_rfl) (by simp) ?_
  refine AllReadyH.cons (o := { dst := some 13, op := .call { callee := .value (.func 21), args := #[.tmp 12], argTypes := #[53] }, type := _, pos := _, after := _, guard := none }) rfl (fun K hK => ?_) AllReadyH.nil
  go_simp
  refine hsu.mono ?_
  rintro e w1 ⟨rfl, hb1'⟩
  have hb1 : Below w.heap.size w w1 := hbV.trans (hb1'.mono hbV.size)
  have hS1 : w1.cell? ⟨p, 74, none⟩ = some (.string yo) := (hb1'.cell (p := ⟨p, 74, none⟩) hpV).trans hS
  have h2 := sum_two yo ys w1 (HTT.out w1 hb1).1 (HTT.out w1 hb1).2 hsz
  rw [HY.out] at h2
  refine hK.out _ _ hS1 (fun _ => ?_)
  clear hK K hb1' hsu
  (try simp only [Act.put, List.setIfInBounds_toArray, List.set_cons_zero, List.set_cons_succ])
  refine wpAnyH_ready (rs := [8]) (by kernel_rfl) (by simp) ?_
  refine AllReadyH.cons (o := { dst := some 14, op := .buildSlice 22 2 #[(0, .tmp 9), (1, .tmp 13)], type := _, pos := _, after := _, guard := none }) rfl (fun K hK => ?_) AllReadyH.nil
  go_simp
  have hS2 : (w1.alloc (.cells #[.string yo, .string ys] 9)).cell? ⟨p, 74, none⟩ = some (.string yo) := by rw [Below.cell (B := w1.heap.size) ((Below.refl _ _).alloc (Nat.le_refl _) _) (p := ⟨p, 74, none⟩) (by have := hb1.size; show p < w1.heap.size; omega)]; exact hS1
  refine hK.out _ _ hS2 (fun _ => ?_)
  clear hK K
  (try simp only [Act.put, List.setIfInBounds_toArray, List.set_cons_zero, List.set_cons_succ])
  refine wpAnyH_ready (rs := [9]) (by kernel_rfl) (by simp) ?_
  refine AllReadyH.cons (o := { dst := some 15, op := .call { callee := .value (.func 20), args := #[.tmp 14], argTypes := #[22] }, type := _, pos := _, after := _, guard := none }) rfl (fun K hK => ?_) AllReadyH.nil
  go_simp
  refine h2.mono ?_
  rintro e w2 ⟨rfl, hb2'⟩
  have hb2 := hb1.trans (hb2'.mono hb1.size)
  have hS3 : w2.cell? ⟨p, 74, none⟩ = some (.string yo) := by rw [hb2'.cell (p := ⟨p, 74, none⟩) (by have := hb1.size; show p < w1.heap.size; omega)]; exact hS1
  refine hK.out _ _ hS3 (fun _ => ?_)
  clear hK K hb2'
  (try simp only [Act.put, List.setIfInBounds_toArray, List.set_cons_zero, List.set_cons_succ])
  refine wpAnyH_take (i := 10) (oi := { dst := some 2, op := .assign (.tmp 15), type := _, pos := _, after := _, guard := none }) (v := .string yz) rfl (by kernel_rfl) (by kernel_rfl) (by kernel_rfl) (fun _ _ _ h => h) (Or.inl ⟨by rfl, by intro x _; go_simp⟩) hS3 ?_
  (try simp only [Act.put, List.setIfInBounds_toArray, List.set_cons_zero, List.set_cons_succ])
  refine wpAnyH_done (by kernel_rfl) ?_ _
  go_wp2
  go_ret
  exact ⟨rfl, hb2⟩

set_option maxRecDepth 20000 in
set_option maxHeartbeats 2000000 in
theorem newmac_any (key : ByteArray) (hk : key.size ≤ 1048576) (w : World) (ht : Tabs w) (h4 : 4 ≤ w.heap.size) :
    Calls Tryd.prog 5 #[.string key] w fun e w' => (∃ p, e = .returned (.pointer (some ⟨p, 0, none⟩)) ∧ w.heap.size ≤ p ∧ Mc w' p key.data.toList []) ∧ Below w.heap.size w w' := by
  have hbl := blocksOf_any key (by omega) w ht h4
  have HI : Hid ((str (innerL key.data.toList)).size = 64 ∧ (str (outerL key.data.toList)).size = 64) := ⟨by rw [str_size, innerL_length], by rw [str_size, outerL_length]⟩
  have HM : Hid (∀ W m, Ht [.string (str (outerL key.data.toList))] 57 W m (eat first ([] ++ (str (innerL key.data.toList)).data.toList)).1 (eat first ([] ++ (str (innerL key.data.toList)).data.toList)).2 (0 + (str (innerL key.data.toList)).size) → Mc W m key.data.toList []) := fun W m h => by
    rw [List.nil_append, Nat.zero_add, str_size, str_data] at h
    unfold Mc
    rw [List.append_nil]
    exact h
  have HTT : Hid (∀ W, Below w.heap.size w W → Tabs W ∧ 4 ≤ W.heap.size) := fun W h => ⟨ht.below h (by omega), by have := h.size; omega⟩
  revert hbl HI HM
  generalize str (innerL key.data.toList) = yi
  generalize str (outerL key.data.toList) = yo
  intro hbl HI HM
  have hbl2 : Tryd.prog.built 57 [(0, Value.agg (hcells first [] 0).toArray), (1, Value.string yo)] = some (tcells [.string yo] first [] 0).toArray := by kernel_rfl
  obtain ⟨D, hD⟩ : ∃ D, (tcells [.string yo] first [] 0).toArray = D := ⟨_, rfl⟩
  obtain ⟨C, hC⟩ : ∃ C, hcells first [] 0 = C := ⟨_, rfl⟩
  rw [hD, hC] at hbl2
  have hst : (Tryd.prog.info? 53).map (·.size) = some C.length := by rw [← hC]; exact size74
  go_enter Tryd.func5, Tryd.ntmps5
  go_wp2_with fail
  refine hbl.mono ?_
  clear hbl
  rintro e w1 ⟨rfl, hb1⟩
  have z1 := hb1.size
  have hth : ∀ z : Array Value, z.size = 2 → (w1.alloc (.cells z 44)).there w1.heap.size 0 (#[Value.string yi, .string yo] : Array Value).size := fun z hz => there_of_heap (heap_new _ _) (by rw [hz]; exact Nat.le_refl 2)
  have hone2 : (#[Value.string yi, .string yo] : Array Value).all (·.oneCell') = true := all_oneCell_toArray (cs := [Value.string yi, .string yo]) (strCells_one [yi, yo])
  have hr2 : ∀ z : Array Value, z.size = 2 → Kc ((w1.alloc (.cells z 44)).setCells w1.heap.size 0 [Value.string yi, .string yo]) w1.heap.size yi yo := fun z hz => by
    have h := heap_setCells w1.heap.size 44 [Value.string yi, .string yo] 0 z _ (heap_new w1 (.cells z 44))
    rw [setMany_all _ _ (by rw [hz]; rfl)] at h
    exact h
  have hbz : ∀ z : Array Value, Below w.heap.size w ((w1.alloc (.cells z 44)).setCells w1.heap.size 0 [Value.string yi, .string yo]) := fun z => Below.setCells (hb1.alloc z1 _) z1 _ _
  go_upto_region 2 with (refine wpList_store_mid rfl 44 (.tmp 3) (.tmp 6) rfl w1.heap.size 0 #[Value.string yi, .string yo] rfl rfl (hth _ rfl) size2 hone2 ?_)
  refine with_world (R := fun W => Code.wp _ _ _ _ W) (Q := fun W => Kc W w1.heap.size yi yo ∧ Below w.heap.size w W) _ ⟨hr2 _ rfl, hbz _⟩ ?_
  clear hth hone2 hr2 hbz hb1
  obtain ⟨q, hq⟩ : ∃ q, w1.heap.size = q := ⟨_, rfl⟩
  rw [hq] at z1 ⊢
  clear hq
  rintro w2 ⟨HK2, hb2⟩
  refine wp_region_held_drew (S := fun W => Kc W q yi yo) (by kernel_rfl) (show Kc w2.drew q yi yo from HK2) ?_
  intro hS
  have hbV := hb2.drew
  clear hb2 HK2
  revert hS hbV
  generalize w2.drew = V
  intro hS hbV
  obtain ⟨htV, h4V⟩ := HTT.out V hbV
  refine wpAnyH_take (i := 3) (oi := { dst := some 10, op := .fieldAddr 44 (.tmp 3) 1, type := _, pos := _, after := _, guard := none }) (v := .pointer (some ⟨q, 1, none⟩)) rfl (by kernel_rfl) (by kernel_rfl) (by kernel_rfl) (fun _ _ _ h => h) (Or.inl ⟨by rfl, by intro x _; go_simp⟩) hS ?_
  (try simp only [Act.put, List.setIfInBounds_toArray, List.set_cons_zero, List.set_cons_succ])
  refine wpAnyH_take (i := 4) (oi := { dst := some 11, op := .load 9 (.tmp 10), type := _, pos := _, after := _, guard := none }) (v := .string yo) rfl (by kernel_rfl) (by kernel_rfl) (by kernel_rfl) (fun _ _ _ h => h) (Or.inl ⟨by rfl, by intro x hx; have h1 : x.cell? ⟨q, 1, none⟩ = some (.string yo) := (cell_of_heap hx).trans rfl; go_simp⟩) hS ?_
  (try simp only [Act.put, List.setIfInBounds_toArray, List.set_cons_zero, List.set_cons_succ])
  refine wpAnyH_ready (rs := [0]) (by kernel_rfl) (by simp) ?_
  refine AllReadyH.cons (o := { dst := some 7, op := .call { callee := .value (.func 17), args := #[], argTypes := #[] }, type := _, pos := _, after := _, guard := none }) rfl (fun K hK => ?_) AllReadyH.nil
  go_simp
  refine (new_any V htV h4V).mono ?_
  rintro e w3 ⟨rfl, hs3, hb3', _, ht3⟩
  have hb3 := hbV.trans (hb3'.mono hbV.size)
  have hS3 : Kc w3 q yi yo := Kc.below hS hb3' (heap_lt hS)
  have hwh : w3.rangeAt V.heap.size 0 (hcells first [] 0) := range_of_heap (pre := []) (post := []) hs3.heap (by simp)
  have hlt3 := hs3.lt
  refine hK.out _ _ hS3 (fun _ => ?_)
  clear hK K hb3' hS
  (try simp only [Act.put, List.setIfInBounds_toArray, List.set_cons_zero, List.set_cons_succ])
  revert hwh hlt3
  generalize V.heap.size = g
  rw [hC]
  intro hwh hlt3
  refine wpAnyH_take (i := 1) (oi := { dst := some 8, op := .nilCheck (.tmp 7), type := _, pos := _, after := _, guard := none }) (v := .pointer (some ⟨g, 0, none⟩)) rfl (by kernel_rfl) (by kernel_rfl) (by kernel_rfl) (fun _ _ _ h => h) (Or.inl ⟨by rfl, by intro x _; go_simp⟩) hS3 ?_
  (try simp only [Act.put, List.setIfInBounds_toArray, List.set_cons_zero, List.set_cons_succ])
  refine wpAnyH_ready (rs := [2]) (by kernel_rfl) (by simp) ?_
  refine AllReadyH.cons (o := { dst := some 9, op := .load 53 (.tmp 8), type := _, pos := _, after := _, guard := none }) rfl (fun K hK => ?_) AllReadyH.nil
  refine step_load_mid rfl 53 (.tmp 8) rfl g 0 (by simp [Act.eval]) C _ hwh Tryd.underlying53 rfl hst ?_
  refine hK.out _ _ hS3 (fun _ => ?_)
  clear hK K
  (try simp only [Act.put, List.setIfInBounds_toArray, List.set_cons_zero, List.set_cons_succ])
  refine wpAnyH_take (i := 5) (oi := { dst := some 12, op := .build 57 #[(0, .tmp 9), (1, .tmp 11)], type := _, pos := _, after := _, guard := none }) (v := .agg D) rfl (by kernel_rfl) (by kernel_rfl) (by kernel_rfl) (fun _ _ _ h => h) (Or.inl ⟨by rfl, by intro x _; exact exec_buildM _ _ rfl _ (by simp [Act.eval]) _ hbl2⟩) hS3 ?_
  (try simp only [Act.put, List.setIfInBounds_toArray, List.set_cons_zero, List.set_cons_succ])
  refine wpAnyH_ready (rs := [6]) (by kernel_rfl) (by simp) ?_
  refine AllReadyH.cons (o := { dst := some 13, op := .box 57 (.tmp 12), type := _, pos := _, after := _, guard := none }) rfl (fun K hK => ?_) AllReadyH.nil
  go_simp
  have hb4 := hb3.alloc hb3.size (.cells D 57)
  have hS4 : Kc (w3.alloc (.cells D 57)) q yi yo := (Below.heap_alloc _ _ _ (heap_lt hS3)).trans hS3
  refine hK.out _ _ hS4 (fun _ => ?_)
  clear hK K
  (try simp only [Act.put, List.setIfInBounds_toArray, List.set_cons_zero, List.set_cons_succ])
  refine wpAnyH_take (i := 7) (oi := { dst := some 4, op := .assign (.tmp 13), type := _, pos := _, after := _, guard := none }) (v := .pointer (some ⟨w3.heap.size, 0, none⟩)) rfl (by kernel_rfl) (by kernel_rfl) (by kernel_rfl) (fun _ _ _ h => h) (Or.inl ⟨by rfl, by intro x _; go_simp⟩) hS4 ?_
  (try simp only [Act.put, List.setIfInBounds_toArray, List.set_cons_zero, List.set_cons_succ])
  refine wpAnyH_done (by kernel_rfl) ?_ _
  have hqm : q < w3.heap.size := heap_lt hS3
  have h43 : 4 ≤ w3.heap.size := (HTT.out w3 hb3).2
  have HT4 : Ht [.string yo] 57 (w3.alloc (.cells D 57)) w3.heap.size first [] 0 := by
    refine ⟨?_, first_OK, rfl, by omega, h43⟩
    rw [hD]
    exact heap_new _ _
  refine with_world (R := fun W => Exit.then _ _ _ _ W) (Q := fun W => Ht [.string yo] 57 W w3.heap.size first [] 0 ∧ Kc W q yi yo ∧ Below w.heap.size w W) _ ⟨HT4, hS4, hb4⟩ ?_
  clear HT4 hb4 hS4 hwh hlt3 hs3 ht3 hS3
  have hm0 := hb3.size
  clear hb3
  obtain ⟨m, hm⟩ : ∃ m, w3.heap.size = m := ⟨_, rfl⟩
  rw [hm] at hm0 hqm ⊢
  clear hm hbl2 hD hC hst
  rintro w4 ⟨hm4, hK4, hb4⟩
  go_upto_region 3 with fail
  refine wp_region_held_drew (S := fun W => Kc W q yi yo) (by kernel_rfl) (show Kc w4.drew q yi yo from hK4) ?_
  intro hS
  have hbV2 := hb4.drew
  have hmV : Ht [.string yo] 57 w4.drew m first [] 0 := hm4.kept rfl
  clear hb4 hK4 hm4
  revert hS hbV2 hmV
  generalize w4.drew = V2
  intro hS hbV2 hmV
  have htV2 := (HTT.out V2 hbV2).1
  refine wpAnyH_take (i := 0) (oi := { dst := some 14, op := .move (.tmp 4), type := _, pos := _, after := _, guard := none }) (v := .pointer (some ⟨m, 0, none⟩)) rfl (by kernel_rfl) (by kernel_rfl) (by kernel_rfl) (fun _ _ _ h => h) (Or.inl ⟨by rfl, by intro x _; go_simp⟩) hS ?_
  (try simp only [Act.put, List.setIfInBounds_toArray, List.set_cons_zero, List.set_cons_succ])
  refine wpAnyH_take (i := 1) (oi := { dst := some 15, op := .nilCheck (.tmp 14), type := _, pos := _, after := _, guard := none }) (v := .pointer (some ⟨m, 0, none⟩)) rfl (by kernel_rfl) (by kernel_rfl) (by kernel_rfl) (fun _ _ _ h => h) (Or.inl ⟨by rfl, by intro x _; go_simp⟩) hS ?_
  (try simp only [Act.put, List.setIfInBounds_toArray, List.set_cons_zero, List.set_cons_succ])
  refine wpAnyH_take (i := 2) (oi := { dst := some 16, op := .fieldAddr 57 (.tmp 15) 0, type := _, pos := _, after := _, guard := none }) (v := .pointer (some ⟨m, 0, none⟩)) rfl (by kernel_rfl) (by kernel_rfl) (by kernel_rfl) (fun _ _ _ h => h) (Or.inl ⟨by rfl, by intro x _; go_simp⟩) hS ?_
  (try simp only [Act.put, List.setIfInBounds_toArray, List.set_cons_zero, List.set_cons_succ])
  refine wpAnyH_take (i := 3) (oi := { dst := some 17, op := .fieldAddr 44 (.tmp 3) 0, type := _, pos := _, after := _, guard := none }) (v := .pointer (some ⟨q, 0, none⟩)) rfl (by kernel_rfl) (by kernel_rfl) (by kernel_rfl) (fun _ _ _ h => h) (Or.inl ⟨by rfl, by intro x _; go_simp⟩) hS ?_
  (try simp only [Act.put, List.setIfInBounds_toArray, List.set_cons_zero, List.set_cons_succ])
  refine wpAnyH_take (i := 4) (oi := { dst := some 18, op := .load 9 (.tmp 17), type := _, pos := _, after := _, guard := none }) (v := .string yi) rfl (by kernel_rfl) (by kernel_rfl) (by kernel_rfl) (fun _ _ _ h => h) (Or.inl ⟨by rfl, by intro x hx; have h1 : x.cell? ⟨q, 0, none⟩ = some (.string yi) := (cell_of_heap hx).trans rfl; go_simp⟩) hS ?_
  (try simp only [Act.put, List.setIfInBounds_toArray, List.set_cons_zero, List.set_cons_succ])
  refine wpAnyH_ready (rs := [5]) (by kernel_rfl) (by simp) ?_
  refine AllReadyH.cons (o := { dst := some 19, op := .call { callee := .value (.func 18), args := #[.tmp 16, .tmp 18], argTypes := #[53, 9] }, type := _, pos := _, after := _, guard := none }) rfl (fun K hK => ?_) AllReadyH.nil
  go_simp
  refine (write_tl hmV htV2 yi (by have := HI.out.1; omega)).mono ?_
  rintro e w6 ⟨rfl, hm6, ho6, ht6⟩
  have hS6 : Kc w6 q yi yo := (ho6.block q (heap_lt hS) (by simp; omega)).trans hS
  refine hK.out _ _ hS6 (fun _ => ?_)
  clear hK K
  (try simp only [Act.put, List.setIfInBounds_toArray, List.set_cons_zero, List.set_cons_succ])
  refine wpAnyH_done (by kernel_rfl) ?_ _
  have hb6 : Below w.heap.size w w6 := hbV2.trans (ho6.below hbV2.size (by simp; omega))
  have hM := HM.out w6 m hm6
  clear hm6 HM ho6 hS6 hbV2 hmV hS
  go_wp2
  go_ret
  exact ⟨⟨m, rfl, hm0, hM⟩, hb6⟩

end Go.Proofs.YthfpodbbmeannaaDoor
