import Derived.Test.YthfpodbbmeannaaDoorMaA
import Derived.Test.YthfpodbbmeannaaDoorTxtA
import Derived.Test.YthfpodbbmeannaaDoorRef3A
import Derived.Deep.RegionHeld
import Derived.Deep.Cut
namespace Go.Proofs.YthfpodbbmeannaaDoor
open Go.RowKit Go.Lib

/-- the reference's Mac: its key, its text -/
def Rm (w : World) (p : Nat) (k t : ByteArray) : Prop := w.heap[p]? = some (.cells #[.string k, .string t] 61 (0, 0))
theorem Rm.below {w w' : World} {B p : Nat} {k t : ByteArray} (h : Rm w p k t) (hb : Below B w w') (hp : p < B) : Rm w' p k t := (hb.block p hp).trans h
theorem Rm.only {w w' : World} {S : List Nat} {p : Nat} {k t : ByteArray} (h : Rm w p k t) (hb : Only S w w') (hp : p ∉ S) : Rm w' p k t := (hb.block p (heap_lt h) hp).trans h
theorem Rm.lt {w : World} {p : Nat} {k t : ByteArray} (h : Rm w p k t) : p < w.heap.size := heap_lt h
theorem Rm.key {w : World} {p : Nat} {k t : ByteArray} (h : Rm w p k t) : w.cell? ⟨p, 0, none⟩ = some (.string k) := (cell_of_heap h).trans rfl
theorem Rm.text {w : World} {p : Nat} {k t : ByteArray} (h : Rm w p k t) : w.cell? ⟨p, 1, none⟩ = some (.string t) := (cell_of_heap h).trans rfl

theorem rnew_any (key : ByteArray) (w : World) :
    Calls Tryd.prog 12 #[.string key] w fun e w' => e = .returned (.pointer (some ⟨w.heap.size, 0, none⟩)) ∧ Rm w' w.heap.size key { data := #[] } ∧ Below w.heap.size w w' := by
  go_enter Tryd.func12, Tryd.ntmps12
  go_wp2
  go_ret
  exact ⟨rfl, heap_new w _, (Below.refl _ _).alloc (Nat.le_refl _) _⟩

theorem rwrite_any {w : World} {p : Nat} {k t : ByteArray} (h : Rm w p k t) (s : ByteArray) (hs : t.size + s.size ≤ 1099511627712) :
    Calls Tryd.prog 14 #[.pointer (some ⟨p, 0, none⟩), .string s] w fun e w' => e = .returned (.int .i64 0) ∧ Rm w' p k (t ++ s) ∧ Only [p] w w' := by
  have c1 := h.text
  have f1 : w.frozen? ⟨p, 1, none⟩ = false := frozen_of_heap h
  have h1 : ¬ (1099511627712 : Int) - (t.size : Int) < (s.size : Int) := by omega
  have h2 : t.size + s.size ≤ 9223372036854775807 := by omega
  have HM : Hid (Rm (w.setCell ⟨p, 1, none⟩ (.string (t ++ s))) p k (t ++ s) ∧ Only [p] w (w.setCell ⟨p, 1, none⟩ (.string (t ++ s)))) := by
    refine ⟨?_, (Only.refl _ _).setCell (by simp) _⟩
    have e := heap_setCell_same _ _ 1 _ _ (.string (t ++ s)) h
    exact e
  clear h hs
  go_enter Tryd.func14, Tryd.ntmps14
  go_wp2
  go_ret
  exact ⟨rfl, HM.out⟩

theorem mwrite_nil (s : ByteArray) (w : World) :
    Calls Tryd.prog 6 #[.pointer none, .string s] w fun e w' => e = .returned (.int .i64 2) ∧ w = w' := by
  have hth : Calls Tryd.prog 19 #[.pointer none] w fun e w' => e = .returned (.bool false) ∧ w = w' := by
    go_enter Tryd.func19, Tryd.ntmps19
    go_wp2
    go_ret
    exact ⟨rfl, rfl⟩
  go_enter Tryd.func6, Tryd.ntmps6
  go_wp2_with fail
  refine hth.mono ?_
  rintro e w' ⟨rfl, rfl⟩
  go_wp2
  go_ret
  exact ⟨rfl, rfl⟩
theorem msum_nil (w : World) :
    Calls Tryd.prog 8 #[.pointer none] w fun e w' => e = .returned (.string { data := #[] }) ∧ w = w' := by
  have hth : Calls Tryd.prog 19 #[.pointer none] w fun e w' => e = .returned (.bool false) ∧ w = w' := by
    go_enter Tryd.func19, Tryd.ntmps19
    go_wp2
    go_ret
    exact ⟨rfl, rfl⟩
  go_enter Tryd.func8, Tryd.ntmps8
  go_wp2_with fail
  refine hth.mono ?_
  rintro e w' ⟨rfl, rfl⟩
  go_wp2
  go_ret
  exact ⟨rfl, rfl⟩

/-- which of the two a number means -/
theorem place_any (n : Int) (w : World) : Calls Tryd.prog 13 #[.int .i64 n] w fun e w' => (∃ j : Nat, e = .returned (.int .i64 (j : Int)) ∧ j < 2) ∧ w = w' := by
  obtain ⟨m, hm⟩ : ∃ m, n.tmod 2 = m := ⟨_, rfl⟩
  have hm1 : m < 2 := by rw [← hm]; exact Int.tmod_lt_of_pos n (by omega)
  have hm2 : -2 < m := by rw [← hm]; exact Int.lt_tmod_of_pos n (by omega)
  have v1 : IntKind.i64.wrap m = m := by rw [IntKind.wrap_i64]; omega
  have v2 : IntKind.i64.wrap (m + 2) = m + 2 := by rw [IntKind.wrap_i64]; omega
  obtain ⟨j, hj, hj2⟩ : ∃ j : Nat, (m + 2).tmod 2 = (j : Int) ∧ j < 2 := ⟨((m + 2).tmod 2).toNat, by
    rw [Int.tmod_eq_emod_of_nonneg (by omega)]; omega, by rw [Int.tmod_eq_emod_of_nonneg (by omega)]; omega⟩
  have v3 : IntKind.i64.wrap (j : Int) = (j : Int) := by rw [IntKind.wrap_i64]; omega
  go_enter Tryd.func13, Tryd.ntmps13
  go_wp2
  go_ret
  exact ⟨⟨j, rfl, hj2⟩, rfl⟩

set_option maxRecDepth 20000 in
set_option maxHeartbeats 1000000 in
theorem rmsum_any {w : World} {p : Nat} {k t : ByteArray} (h : Rm w p k t) (hr : RTabs w) (h4 : 4 ≤ w.heap.size) (hk : k.size ≤ 1048576) (ht : t.size ≤ 4194304) :
    Calls Tryd.prog 15 #[.pointer (some ⟨p, 0, none⟩)] w fun e w' => e = .returned (.string (str (hmacL k.data.toList t.data.toList))) ∧ Below w.heap.size w w' := by
  have hbV : Below w.heap.size w w.drew := (Below.refl _ _).drew
  have hke := keyed_any k t (by omega) (by omega) w.drew (hr.below hbV h4) h4
  have hS0 : Rm w.drew p k t := h
  clear h hr
  revert hke
  generalize str (hmacL k.data.toList t.data.toList) = yz
  intro hke
  go_enter Tryd.func15, Tryd.ntmps15
  go_upto_region 3 with fail
  refine wp_region_held_drew (S := fun W => Rm W p k t) (by kernel_rfl) hS0 ?_
  intro hS
  clear hS0
  revert hS hbV hke
  generalize w.drew = V
  intro hbV hke hS
  refine wpAnyH_take (i := 0) (oi := { dst := some 5, op := .move (.tmp 0), type := _, pos := _, after := _, guard := none }) (v := .pointer (some ⟨p, 0, none⟩)) rfl (by kernel_rfl) (by kernel_rfl) (by kernel_rfl) (fun _ _ _ h => h) (Or.inl ⟨by rfl, by intro x _; go_simp⟩) hS ?_
  (try simp only [Act.put, List.setIfInBounds_toArray, List.set_cons_zero, List.set_cons_succ])
  refine wpAnyH_take (i := 1) (oi := { dst := some 6, op := .nilCheck (.tmp 5), type := _, pos := _, after := _, guard := none }) (v := .pointer (some ⟨p, 0, none⟩)) rfl (by kernel_rfl) (by kernel_rfl) (by kernel_rfl) (fun _ _ _ h => h) (Or.inl ⟨by rfl, by intro x _; go_simp⟩) hS ?_
  (try simp only [Act.put, List.setIfInBounds_toArray, List.set_cons_zero, List.set_cons_succ])
  refine wpAnyH_take (i := 2) (oi := { dst := some 7, op := .fieldAddr 61 (.tmp 6) 0, type := _, pos := _, after := _, guard := none }) (v := .pointer (some ⟨p, 0, none⟩)) rfl (by kernel_rfl) (by kernel_rfl) (by kernel_rfl) (fun _ _ _ h => h) (Or.inl ⟨by rfl, by intro x _; go_simp⟩) hS ?_
  (try simp only [Act.put, List.setIfInBounds_toArray, List.set_cons_zero, List.set_cons_succ])
  refine wpAnyH_take (i := 3) (oi := { dst := some 8, op := .load 9 (.tmp 7), type := _, pos := _, after := _, guard := none }) (v := .string k) rfl (by kernel_rfl) (by kernel_rfl) (by kernel_rfl) (fun _ _ _ h => h) (Or.inl ⟨by rfl, by intro x hx; have h1 := Rm.key hx; go_simp⟩) hS ?_
  (try simp only [Act.put, List.setIfInBounds_toArray, List.set_cons_zero, List.set_cons_succ])
  refine wpAnyH_take (i := 4) (oi := { dst := some 9, op := .move (.tmp 0), type := _, pos := _, after := _, guard := none }) (v := .pointer (some ⟨p, 0, none⟩)) rfl (by kernel_rfl) (by kernel_rfl) (by kernel_rfl) (fun _ _ _ h => h) (Or.inl ⟨by rfl, by intro x _; go_simp⟩) hS ?_
  (try simp only [Act.put, List.setIfInBounds_toArray, List.set_cons_zero, List.set_cons_succ])
  refine wpAnyH_take (i := 5) (oi := { dst := some 10, op := .nilCheck (.tmp 9), type := _, pos := _, after := _, guard := none }) (v := .pointer (some ⟨p, 0, none⟩)) rfl (by kernel_rfl) (by kernel_rfl) (by kernel_rfl) (fun _ _ _ h => h) (Or.inl ⟨by rfl, by intro x _; go_simp⟩) hS ?_
  (try simp only [Act.put, List.setIfInBounds_toArray, List.set_cons_zero, List.set_cons_succ])
  refine wpAnyH_take (i := 6) (oi := { dst := some 11, op := .fieldAddr 61 (.tmp 10) 1, type := _, pos := _, after := _, guard := none }) (v := .pointer (some ⟨p, 1, none⟩)) rfl (by kernel_rfl) (by kernel_rfl) (by kernel_rfl) (fun _ _ _ h => h) (Or.inl ⟨by rfl, by intro x _; go_simp⟩) hS ?_
  (try simp only [Act.put, List.setIfInBounds_toArray, List.set_cons_zero, List.set_cons_succ])
  refine wpAnyH_take (i := 7) (oi := { dst := some 12, op := .load 9 (.tmp 11), type := _, pos := _, after := _, guard := none }) (v := .string t) rfl (by kernel_rfl) (by kernel_rfl) (by kernel_rfl) (fun _ _ _ h => h) (Or.inl ⟨by rfl, by intro x hx; have h1 := Rm.text hx; go_simp⟩) hS ?_
  (try simp only [Act.put, List.setIfInBounds_toArray, List.set_cons_zero, List.set_cons_succ])
  refine wpAnyH_ready (rs := [8]) (by kernel_rfl) (by simp) ?_
  refine AllReadyH.cons (o := { dst := some 13, op := .call { callee := .value (.func 23), args := #[.tmp 8, .tmp 12], argTypes := #[9, 9] }, type := _, pos := _, after := _, guard := none }) rfl (fun K hK => ?_) AllReadyH.nil
  go_simp
  refine hke.mono ?_
  rintro e w1 ⟨rfl, hb1'⟩
  have hb1 : Below w.heap.size w w1 := hbV.trans (hb1'.mono hbV.size)
  have hS1 : Rm w1 p k t := hS.below hb1' (heap_lt hS)
  refine hK.out _ _ hS1 (fun _ => ?_)
  clear hK K hb1' hke
  (try simp only [Act.put, List.setIfInBounds_toArray, List.set_cons_zero, List.set_cons_succ])
  refine wpAnyH_take (i := 9) (oi := { dst := some 2, op := .assign (.tmp 13), type := _, pos := _, after := _, guard := none }) (v := .string yz) rfl (by kernel_rfl) (by kernel_rfl) (by kernel_rfl) (fun _ _ _ h => h) (Or.inl ⟨by rfl, by intro x _; go_simp⟩) hS1 ?_
  (try simp only [Act.put, List.setIfInBounds_toArray, List.set_cons_zero, List.set_cons_succ])
  refine wpAnyH_done (by kernel_rfl) ?_ _
  go_wp2
  go_ret
  exact ⟨rfl, hb1⟩

end Go.Proofs.YthfpodbbmeannaaDoor
