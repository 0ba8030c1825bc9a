import Derived.Test.YtggfeppphhigdabDoorTgsA
import Derived.Deep.RegionHeld
import Derived.Deep.Cut
namespace Go.Proofs.YtggfeppphhigdabDoor
open Go.RowKit Go.Lib Go.Deep

/-- the document's Mac: its key, its text -/
def Rm5 (w : World) (p : Nat) (k t : ByteArray) : Prop := w.heap[p]? = some (.cells #[.string k, .string t] 59 (0, 0))
theorem Rm5.below {w w' : World} {B p : Nat} {k t : ByteArray} (h : Rm5 w p k t) (hb : Below B w w') (hp : p < B) : Rm5 w' p k t := (hb.block p hp).trans h
theorem Rm5.only {w w' : World} {S : List Nat} {p : Nat} {k t : ByteArray} (h : Rm5 w p k t) (hb : Only S w w') (hp : p ∉ S) : Rm5 w' p k t := (hb.block p (heap_lt h) hp).trans h
theorem Rm5.lt {w : World} {p : Nat} {k t : ByteArray} (h : Rm5 w p k t) : p < w.heap.size := heap_lt h
theorem Rm5.key {w : World} {p : Nat} {k t : ByteArray} (h : Rm5 w p k t) : w.cell? ⟨p, 0, none⟩ = some (.string k) := (cell_of_heap h).trans rfl
theorem Rm5.text {w : World} {p : Nat} {k t : ByteArray} (h : Rm5 w p k t) : w.cell? ⟨p, 1, none⟩ = some (.string t) := (cell_of_heap h).trans rfl

theorem r5new_yes (key : ByteArray) (hk : key.size = 32) (w : World) :
    Calls Tryd.prog 9 #[.string key] w fun e w' => e = .returned (.tuple #[.pointer (some ⟨w.heap.size, 0, none⟩), .int .i64 0]) ∧ Rm5 w' w.heap.size key { data := #[] } ∧ Below w.heap.size w w' := by
  have hkI : (key.size : Int) = 32 := by omega
  go_enter Tryd.func9, Tryd.ntmps9
  go_wp2
  go_ret2
  exact ⟨rfl, heap_new w _, (Below.refl _ _).alloc (Nat.le_refl _) _⟩
theorem r5new_no (key : ByteArray) (hk : key.size ≠ 32) (w : World) :
    Calls Tryd.prog 9 #[.string key] w fun e w' => e = .returned (.tuple #[.pointer none, .int .i64 40]) ∧ w = w' := by
  have hkI : ¬ (key.size : Int) = 32 := by omega
  go_enter Tryd.func9, Tryd.ntmps9
  go_wp2
  go_ret2
  exact ⟨rfl, rfl⟩
theorem r5write_any {w : World} {p : Nat} {k t : ByteArray} (h : Rm5 w p k t) (s : ByteArray) (hs : t.size + s.size ≤ 9223372036854775807) :
    Calls Tryd.prog 21 #[.pointer (some ⟨p, 0, none⟩), .string s] w fun e w' => e = .returned (.int .i64 0) ∧ Rm5 w' p k (t ++ s) ∧ Only [p] w w' := by
  have c1 := h.text
  have f1 : w.frozen? ⟨p, 1, none⟩ = false := frozen_of_heap h
  have HM : Hid (Rm5 (w.setCell ⟨p, 1, none⟩ (.string (t ++ s))) p k (t ++ s) ∧ Only [p] w (w.setCell ⟨p, 1, none⟩ (.string (t ++ s)))) := by
    refine ⟨?_, (Only.refl _ _).setCell (by simp) _⟩
    have e := heap_setCell_same _ _ 1 _ _ (.string (t ++ s)) h
    exact e
  clear h
  go_enter Tryd.func21, Tryd.ntmps21
  go_wp2
  go_ret
  exact ⟨rfl, HM.out⟩
theorem r5write_nil (s : ByteArray) (w : World) : Calls Tryd.prog 21 #[.pointer none, .string s] w fun e w' => e = .returned (.int .i64 2) ∧ w = w' := by
  go_enter Tryd.func21, Tryd.ntmps21
  go_wp2
  go_ret
  exact ⟨rfl, rfl⟩
theorem r5sum_nil (w : World) : Calls Tryd.prog 12 #[.pointer none] w fun e w' => e = .returned (.string (str [])) ∧ w = w' := by
  go_enter Tryd.func12, Tryd.ntmps12
  go_wp2
  go_ret
  exact ⟨rfl, rfl⟩
set_option maxRecDepth 20000 in
set_option maxHeartbeats 1000000 in
theorem r5sum_any {w : World} {p : Nat} {k t : ByteArray} (h : Rm5 w p k t) (hk : k.size = 32) (ht : t.size ≤ 9223372036854775000) :
    Calls Tryd.prog 12 #[.pointer (some ⟨p, 0, none⟩)] w fun e w' => e = .returned (.string (str (tagL k.data.toList t.data.toList))) ∧ Below w.heap.size w w' := by
  have htg := fun W => rtag_yes k t hk ht W
  revert htg
  generalize str (tagL k.data.toList t.data.toList) = y
  generalize (0 : Int) = z
  intro htg
  go_enter Tryd.func12, Tryd.ntmps12
  go_upto_region 3 with fail
  refine wp_region_held_drew (S := fun W => Rm5 W p k t) (by kernel_rfl) (show Rm5 w.drew p k t from h) ?_
  intro hS
  have hbV : Below w.heap.size w w.drew := (Below.refl _ _).drew
  clear h
  revert hS hbV
  generalize w.drew = V
  intro hS hbV
  refine wpAnyH_take (i := 0) (oi := { dst := some 8, op := .move (.tmp 0), type := _, pos := _, after := _, guard := none }) (v := .pointer (some ⟨p, 0, none⟩)) rfl (by kernel_rfl) (by kernel_rfl) (by kernel_rfl) (fun _ _ _ h => h) (Or.inl ⟨by rfl, by intro x _; go_simp⟩) hS ?_
  (try simp only [Act.put, List.setIfInBounds_toArray, List.set_cons_zero, List.set_cons_succ])
  refine wpAnyH_take (i := 1) (oi := { dst := some 9, op := .nilCheck (.tmp 8), type := _, pos := _, after := _, guard := none }) (v := .pointer (some ⟨p, 0, none⟩)) rfl (by kernel_rfl) (by kernel_rfl) (by kernel_rfl) (fun _ _ _ h => h) (Or.inl ⟨by rfl, by intro x _; go_simp⟩) hS ?_
  (try simp only [Act.put, List.setIfInBounds_toArray, List.set_cons_zero, List.set_cons_succ])
  refine wpAnyH_take (i := 2) (oi := { dst := some 10, op := .fieldAddr 59 (.tmp 9) 0, type := _, pos := _, after := _, guard := none }) (v := .pointer (some ⟨p, 0, none⟩)) rfl (by kernel_rfl) (by kernel_rfl) (by kernel_rfl) (fun _ _ _ h => h) (Or.inl ⟨by rfl, by intro x _; go_simp⟩) hS ?_
  (try simp only [Act.put, List.setIfInBounds_toArray, List.set_cons_zero, List.set_cons_succ])
  refine wpAnyH_take (i := 3) (oi := { dst := some 11, op := .load 9 (.tmp 10), type := _, pos := _, after := _, guard := none }) (v := .string k) rfl (by kernel_rfl) (by kernel_rfl) (by kernel_rfl) (fun _ _ _ h => h) (Or.inl ⟨by rfl, by intro x hx; have h1 := Rm5.key hx; go_simp⟩) hS ?_
  (try simp only [Act.put, List.setIfInBounds_toArray, List.set_cons_zero, List.set_cons_succ])
  refine wpAnyH_take (i := 4) (oi := { dst := some 12, op := .move (.tmp 0), type := _, pos := _, after := _, guard := none }) (v := .pointer (some ⟨p, 0, none⟩)) rfl (by kernel_rfl) (by kernel_rfl) (by kernel_rfl) (fun _ _ _ h => h) (Or.inl ⟨by rfl, by intro x _; go_simp⟩) hS ?_
  (try simp only [Act.put, List.setIfInBounds_toArray, List.set_cons_zero, List.set_cons_succ])
  refine wpAnyH_take (i := 5) (oi := { dst := some 13, op := .nilCheck (.tmp 12), type := _, pos := _, after := _, guard := none }) (v := .pointer (some ⟨p, 0, none⟩)) rfl (by kernel_rfl) (by kernel_rfl) (by kernel_rfl) (fun _ _ _ h => h) (Or.inl ⟨by rfl, by intro x _; go_simp⟩) hS ?_
  (try simp only [Act.put, List.setIfInBounds_toArray, List.set_cons_zero, List.set_cons_succ])
  refine wpAnyH_take (i := 6) (oi := { dst := some 14, op := .fieldAddr 59 (.tmp 13) 1, type := _, pos := _, after := _, guard := none }) (v := .pointer (some ⟨p, 1, none⟩)) rfl (by kernel_rfl) (by kernel_rfl) (by kernel_rfl) (fun _ _ _ h => h) (Or.inl ⟨by rfl, by intro x _; go_simp⟩) hS ?_
  (try simp only [Act.put, List.setIfInBounds_toArray, List.set_cons_zero, List.set_cons_succ])
  refine wpAnyH_take (i := 7) (oi := { dst := some 15, op := .load 9 (.tmp 14), type := _, pos := _, after := _, guard := none }) (v := .string t) rfl (by kernel_rfl) (by kernel_rfl) (by kernel_rfl) (fun _ _ _ h => h) (Or.inl ⟨by rfl, by intro x hx; have h1 := Rm5.text hx; go_simp⟩) hS ?_
  (try simp only [Act.put, List.setIfInBounds_toArray, List.set_cons_zero, List.set_cons_succ])
  refine wpAnyH_ready (rs := [8]) (by kernel_rfl) (by simp) ?_
  refine AllReadyH.cons (o := { dst := some 16, op := .call { callee := .value (.func 6), args := #[.tmp 11, .tmp 15], argTypes := #[9, 9] }, type := _, pos := _, after := _, guard := none }) rfl (fun K hK => ?_) AllReadyH.nil
  go_simp
  refine (htg V).mono ?_
  rintro e w1 ⟨rfl, hb1'⟩
  have hb1 := hbV.trans (hb1'.mono hbV.size)
  have hS1 : Rm5 w1 p k t := hS.below hb1' hS.lt
  refine hK.out _ _ hS1 (fun _ => ?_)
  clear hK K hb1' hbV hS htg
  (try simp only [Act.put, List.setIfInBounds_toArray, List.set_cons_zero, List.set_cons_succ])
  refine wpAnyH_take (i := 9) (oi := { dst := some 7, op := .move (.tmp 16), type := _, pos := _, after := _, guard := none }) (v := .tuple #[.string y, .int .i64 z]) rfl (by kernel_rfl) (by kernel_rfl) (by kernel_rfl) (fun _ _ _ h => h) (Or.inl ⟨by rfl, by intro x _; go_simp⟩) hS1 ?_
  (try simp only [Act.put, List.setIfInBounds_toArray, List.set_cons_zero, List.set_cons_succ])
  refine wpAnyH_take (i := 10) (oi := { dst := some 17, op := .extract (.tmp 7) 0, type := _, pos := _, after := _, guard := none }) (v := .string y) rfl (by kernel_rfl) (by kernel_rfl) (by kernel_rfl) (fun _ _ _ h => h) (Or.inl ⟨by rfl, by intro x _; go_simp⟩) hS1 ?_
  (try simp only [Act.put, List.setIfInBounds_toArray, List.set_cons_zero, List.set_cons_succ])
  refine wpAnyH_take (i := 11) (oi := { dst := some 18, op := .extract (.tmp 7) 1, type := _, pos := _, after := _, guard := none }) (v := .int .i64 z) rfl (by kernel_rfl) (by kernel_rfl) (by kernel_rfl) (fun _ _ _ h => h) (Or.inl ⟨by rfl, by intro x _; go_simp⟩) hS1 ?_
  (try simp only [Act.put, List.setIfInBounds_toArray, List.set_cons_zero, List.set_cons_succ])
  refine wpAnyH_take (i := 12) (oi := { dst := some 3, op := .assign (.tmp 17), type := _, pos := _, after := _, guard := none }) (v := .string y) rfl (by kernel_rfl) (by kernel_rfl) (by kernel_rfl) (fun _ _ _ h => h) (Or.inl ⟨by rfl, by intro x _; go_simp⟩) hS1 ?_
  (try simp only [Act.put, List.setIfInBounds_toArray, List.set_cons_zero, List.set_cons_succ])
  refine wpAnyH_take (i := 13) (oi := { dst := some 4, op := .assign (.tmp 18), type := _, pos := _, after := _, guard := none }) (v := .int .i64 z) rfl (by kernel_rfl) (by kernel_rfl) (by kernel_rfl) (fun _ _ _ h => h) (Or.inl ⟨by rfl, by intro x _; go_simp⟩) hS1 ?_
  (try simp only [Act.put, List.setIfInBounds_toArray, List.set_cons_zero, List.set_cons_succ])
  refine wpAnyH_done (by kernel_rfl) ?_ _
  go_wp2
  go_ret
  exact ⟨rfl, hb1⟩

/-- a Mac each side, or none -/
def Pair (w : World) (key : ByteArray) (l : List UInt8) : Option (Nat × Nat) → Prop
  | none => True
  | some (p, q) => key.size = 32 ∧ Mac w p (rOf key.data.toList) (sOf key.data.toList) l ∧ Rm5 w q key (str l) ∧ p ≠ q
def blks : Option (Nat × Nat) → List Nat
  | none => []
  | some (p, q) => [p, q]
def pv : Option (Nat × Nat) → Value
  | none => .pointer none
  | some (p, _) => .pointer (some ⟨p, 0, none⟩)
def qv : Option (Nat × Nat) → Value
  | none => .pointer none
  | some (_, q) => .pointer (some ⟨q, 0, none⟩)
theorem Pair.only {w w' : World} {key : ByteArray} {l : List UInt8} {o : Option (Nat × Nat)} {S : List Nat} (h : Pair w key l o) (hb : Only S w w') (hd : ∀ k ∈ blks o, k ∉ S) : Pair w' key l o := by
  match o, h with
  | none, _ => trivial
  | some (p, q), ⟨h1, h2, h3, h4⟩ => exact ⟨h1, h2.only hb (hd p (by simp [blks])), h3.only hb (hd q (by simp [blks])), h4⟩
theorem Pair.below {w w' : World} {key : ByteArray} {l : List UInt8} {o : Option (Nat × Nat)} (h : Pair w key l o) (hb : Below w.heap.size w w') : Pair w' key l o := by
  match o, h with
  | none, _ => trivial
  | some (p, q), ⟨h1, h2, h3, h4⟩ => exact ⟨h1, h2.below hb h2.lt, h3.below hb h3.lt, h4⟩

/-- what both sides tell -/
theorem pair_sums {w : World} {key : ByteArray} {l : List UInt8} {o : Option (Nat × Nat)} (h : Pair w key l o) (hl : l.length ≤ 9223372036854775000) :
    ∃ y : ByteArray, (∀ W, Pair W key l o → Calls Tryd.prog 11 #[pv o] W fun e w' => e = .returned (.string y) ∧ Below W.heap.size W w') ∧ (∀ W, Pair W key l o → Calls Tryd.prog 12 #[qv o] W fun e w' => e = .returned (.string y) ∧ Below W.heap.size W w') := by
  match o, h with
  | none, _ => exact ⟨str [], fun W _ => (sum_nil W).mono (by rintro e w' ⟨rfl, rfl⟩; exact ⟨rfl, Below.refl _ _⟩), fun W _ => (r5sum_nil W).mono (by rintro e w' ⟨rfl, rfl⟩; exact ⟨rfl, Below.refl _ _⟩)⟩
  | some (p, q), ⟨hk, _, _, _⟩ =>
    have hkl : key.data.toList.length = 32 := by rw [← size_eq]; exact hk
    refine ⟨str (tagL key.data.toList l), fun W hW => sum_any hW.2.1 (by have := rOf_lt key.data.toList (by omega); omega) (sOf_lt _ hkl), fun W hW => ?_⟩
    have h5 := r5sum_any hW.2.2.1 hk (by rw [str_size]; exact hl)
    rw [str_data] at h5
    exact h5
/-- both sides take a text -/
theorem pair_writes (key text : ByteArray) (o : Option (Nat × Nat)) (l : List UInt8) (hl : l.length + text.size ≤ 9223372036854775000) :
    ∃ z : Int, (∀ W, Pair W key l o → Calls Tryd.prog 20 #[pv o, .string text] W fun e w' => e = .returned (.int .i64 z) ∧ Only (blks o) W w' ∧ (∃ P : World → Prop, P w' ∧ ∀ W3, P W3 → Calls Tryd.prog 21 #[qv o, .string text] W3 fun e w' => e = .returned (.int .i64 z) ∧ Pair w' key (l ++ text.data.toList) o ∧ Only (blks o) W3 w')) := by
  match o with
  | none =>
    refine ⟨2, fun W _ => (write_nil text W).mono ?_⟩
    rintro e w' ⟨rfl, rfl⟩
    refine ⟨rfl, Only.refl _ _, fun _ => True, trivial, fun W3 _ => (r5write_nil text W3).mono ?_⟩
    rintro e w' ⟨rfl, rfl⟩
    exact ⟨rfl, trivial, Only.refl _ _⟩
  | some (p, q) =>
    refine ⟨0, fun W hW => ?_⟩
    obtain ⟨hk, hM, hR, hne⟩ := hW
    have hkl : key.data.toList.length = 32 := by rw [← size_eq]; exact hk
    refine (write_any hM (by have := rOf_lt key.data.toList (by omega); omega) text (by omega)).mono ?_
    rintro e w' ⟨rfl, hM', hO⟩
    have hR' := hR.only hO (by simp; omega)
    refine ⟨rfl, ⟨hO.os, hO.tape, hO.output, hO.size, fun k hk hn => hO.block k hk (by simp [blks] at hn; simp; exact hn.1)⟩, fun W3 => Mac W3 p (rOf key.data.toList) (sOf key.data.toList) (l ++ text.data.toList) ∧ Rm5 W3 q key (str l), ⟨hM', hR'⟩, fun W3 ⟨h1, h2⟩ => ?_⟩
    refine (r5write_any h2 text (by rw [str_size]; omega)).mono ?_
    rintro e w4 ⟨rfl, h3, h4⟩
    have e1 : str l ++ text = str (l ++ text.data.toList) := by
      conv => lhs; rw [← str_of text]
      apply ByteArray.ext
      simp [str]
    rw [e1] at h3
    exact ⟨rfl, ⟨hk, h1.only h4 (by simp; omega), h3, hne⟩, ⟨h4.os, h4.tape, h4.output, h4.size, fun k hk hn => h4.block k hk (by simp [blks] at hn; simp; exact hn.2)⟩⟩

/-- one step -/
theorem step_any (key text : ByteArray) (at0 : Int) (ask : Bool) (o : Option (Nat × Nat)) (l : List UInt8) (w : World) (h : Pair w key l o) (hl : l.length + text.size ≤ 9223372036854775000) (ho : ∀ k ∈ blks o, k < w.heap.size) :
    Calls Tryd.prog 10 #[pv o, qv o, .agg #[.int .i64 at0, .bool ask, .string text]] w fun e w' => e = .returned (.bool true) ∧ (∃ l', l'.length ≤ l.length + text.size ∧ Pair w' key l' o) ∧ Only (blks o) w w' := by
  have hO1 : Only (blks o) w (w.alloc (.cells #[.int .i64 at0, .bool ask, .string text] 37)) := only_below ((Below.refl _ _).alloc (Nat.le_refl _) _)
  have h1 := h.below (w' := w.alloc (.cells #[.int .i64 at0, .bool ask, .string text] 37)) ((Below.refl _ _).alloc (Nat.le_refl _) _)
  obtain ⟨y, s1, s2⟩ := pair_sums h1 (by omega)
  obtain ⟨z, w1'⟩ := pair_writes key text o l hl
  have S1 : Hid _ := s1
  have S2 : Hid _ := s2
  have W1 : Hid _ := w1'
  clear s1 s2 w1'
  have hs1 := S1.out _ h1
  have hw1 := W1.out _ h1
  have HC : Hid (∀ W, Only (blks o) w W → (w.alloc (.cells #[.int .i64 at0, .bool ask, .string text] 37)).heap.size ≤ W.heap.size → W.heap[w.heap.size]? = (w.alloc (.cells #[.int .i64 at0, .bool ask, .string text] 37)).heap[w.heap.size]? → W.cell? ⟨w.heap.size, 2, none⟩ = some (.string text)) := fun W _ _ hk => (cell_of_heap (hk.trans (heap_new _ _))).trans rfl
  have hlo : ∀ k ∈ blks o, k ≠ w.heap.size := fun k hk => by have := ho k hk; omega
  have HB : Hid (w.heap.size ∉ blks o) := fun hk => hlo _ hk rfl
  clear hlo ho h
  revert hs1 hw1
  generalize hpv : pv o = v1
  generalize hqv : qv o = v2
  intro hs1 hw1
  rw [hqv] at S2
  clear hpv hqv S1 W1
  cases ask with
  | true =>
    go_enter Tryd.func10, Tryd.ntmps10
    go_wp2_with fail
    refine hs1.mono ?_
    rintro e w2 ⟨rfl, hb2⟩
    have h2 := h1.below hb2
    have hO2 := hO1.belowS hb2
    clear hs1 hw1 HC
    have hs2 := S2.out w2 h2
    go_wp2_with fail
    refine hs2.mono ?_
    rintro e w3 ⟨rfl, hb3⟩
    have h3 := h2.below hb3
    have hO3 := hO2.belowS hb3
    clear hs2 hO2 h2 hb2 hb3 hO1 h1 S2
    go_wp2
    go_ret
    exact ⟨by simp, ⟨l, by omega, h3⟩, hO3⟩
  | false =>
    go_enter Tryd.func10, Tryd.ntmps10
    go_wp2_with fail
    refine hw1.mono ?_
    rintro e w2 ⟨rfl, hO2, P, hP, hcont⟩
    have HCO : Hid _ := hcont
    have hc2 := HC.out w2 (hO1.trans hO2) hO2.size (hO2.block _ (by simp) HB.out)
    clear hw1 hcont HC S2 hs1
    have hw2 := HCO.out w2 hP
    have hO3 := hO1.trans hO2
    clear hO1 hO2 h1
    go_wp2_with fail
    refine hw2.mono ?_
    rintro e w3 ⟨rfl, h3, hO4⟩
    have hO5 := hO3.trans hO4
    clear hw2 hO3 hO4 HCO hc2
    go_wp2_with (go_at_call 7; refine (num_any _ _).mono ?_; rintro e w4 ⟨rfl, rfl⟩)
    go_ret
    exact ⟨by simp, ⟨l ++ text.data.toList, by rw [List.length_append, ← size_eq]; omega, h3⟩, hO5⟩

end Go.Proofs.YtggfeppphhigdabDoor
