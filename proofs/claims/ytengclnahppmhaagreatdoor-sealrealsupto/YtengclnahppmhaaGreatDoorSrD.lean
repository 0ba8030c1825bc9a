import Derived.Test.YtengclnahppmhaaGreatDoorSrC
import Derived.OwnWalk
import Derived.Test.YtengclnahppmhaaGreatDoorSrM
namespace Go.Proofs.YtengclnahppmhaaGreatDoor.Sr
open Go.RowKit Go.Lib Go.Deep

/-- what both sealers answer -/
structure Ans where
  sE : Int → ByteArray → ByteArray → ByteArray → Int
  sY : Int → ByteArray → ByteArray → ByteArray → ByteArray
  oE : Int → ByteArray → ByteArray → Int
  oY : Int → ByteArray → ByteArray → ByteArray
  cN : Int → Int
  fB : ByteArray → Bool
def bnd47 (s : ByteArray) : Prop := s.size ≤ 140737488355328
structure Two (w : World) (sp rp : Option Addr) (A : Ans) : Prop where
  ps : ∀ W, Below w.heap.size w W → ∀ k n t c, bnd47 n → bnd47 t → bnd47 c → Calls Tryz.prog 56 #[.pointer sp, .int .i64 k, .string n, .string t, .string c] W fun e w' => e = .returned (.tuple #[.string (A.sY k n t c), .int .i64 (A.sE k n t c)]) ∧ Below W.heap.size W w'
  rs : ∀ W, Below w.heap.size w W → ∀ k n t c, bnd47 n → bnd47 t → bnd47 c → Calls Tryz.prog 14 #[.pointer rp, .int .i64 k, .string n, .string t, .string c] W fun e w' => e = .returned (.tuple #[.string (A.sY k n t c), .int .i64 (A.sE k n t c)]) ∧ Below W.heap.size W w'
  po : ∀ W, Below w.heap.size w W → ∀ k n c, bnd47 c → Calls Tryz.prog 58 #[.pointer sp, .int .i64 k, .string n, .string c] W fun e w' => e = .returned (.tuple #[.string (A.oY k n c), .int .i64 (A.oE k n c)]) ∧ Below W.heap.size W w'
  ro : ∀ W, Below w.heap.size w W → ∀ k n c, bnd47 c → Calls Tryz.prog 34 #[.pointer rp, .int .i64 k, .string n, .string c] W fun e w' => e = .returned (.tuple #[.string (A.oY k n c), .int .i64 (A.oE k n c)]) ∧ Below W.heap.size W w'
  pc : ∀ W, Below w.heap.size w W → ∀ n, Calls Tryz.prog 62 #[.pointer sp, .int .i64 n] W fun e w' => e = .returned (.int .i64 (A.cN n)) ∧ Below W.heap.size W w'
  rc : ∀ W, Below w.heap.size w W → ∀ n, Calls Tryz.prog 26 #[.pointer rp, .int .i64 n] W fun e w' => e = .returned (.int .i64 (A.cN n)) ∧ Below W.heap.size W w'
  pf : ∀ W, Below w.heap.size w W → ∀ c, Calls Tryz.prog 63 #[.pointer sp, .string c] W fun e w' => e = .returned (.bool (A.fB c)) ∧ Below W.heap.size W w'
  rf : ∀ W, Below w.heap.size w W → ∀ c, Calls Tryz.prog 27 #[.pointer rp, .string c] W fun e w' => e = .returned (.bool (A.fB c)) ∧ Below W.heap.size W w'
  sz : ∀ k n t c, A.sE k n t c = 0 → (A.sY k n t c).size ≤ 1048616

theorem same_below {P : Program} {f : Nat} {args : Array Value} {w : World} {x : Value} (h : Calls P f args w fun e w' => e = .returned x ∧ w' = w) : Calls P f args w fun e w' => e = .returned x ∧ Below w.heap.size w w' := h.mono (by
  rintro e w' ⟨rfl, rfl⟩
  exact ⟨rfl, Below.refl _ _⟩)
theorem two_nil (w : World) : Two w none none ⟨fun _ _ _ _ => 2, fun _ _ _ _ => { data := #[] }, fun _ _ _ => 2, fun _ _ _ => { data := #[] }, fun _ => 0, fun _ => false⟩ :=
  ⟨fun W _ k n t c _ _ _ => same_below (Rr.pseal_nil k n t c W), fun W _ k n t c _ _ _ => same_below (Rr.rseal_nil k n t c W), fun W _ k n c _ => same_below (Rr.popen_nil k n c W), fun W _ k n c _ => same_below (Rr.ropen_nil k n c W), fun W _ n => same_below (Rr.pcoins_nil n W), fun W _ n => same_below (Rr.rcoins_nil n W), fun W _ c => same_below (Rr.pfresh_nil c W), fun W _ c => same_below (Rr.rfresh_nil c W), fun _ _ _ _ h => by cases h⟩
theorem two_some (w : World) (pr rb : Nat) (M : ByteArray) (hR : Rs.Rl w pr (Rs.ky M 1) (Rs.ky M 2) (Rs.ky M 3)) (hQ : Rr.Rq w rb M) : Two w (some ⟨pr, 0, none⟩) (some ⟨rb, 0, none⟩) ⟨Rs.raskE, Rs.rsealY [Rs.ky M 1, Rs.ky M 2, Rs.ky M 3], Rs.ropenE [Rs.ky M 1, Rs.ky M 2, Rs.ky M 3], Rs.ropenY [Rs.ky M 1, Rs.ky M 2, Rs.ky M 3], Rs.rcN, fun c => decide (24 ≤ c.size ∧ c.size ≤ 24)⟩ :=
  ⟨fun W hb k n t c h1 h2 h3 => Rs.seal_any W pr _ _ _ k n t c h1 h2 h3 (hR.below hb), fun W hb k n t c h1 h2 h3 => Rr.rseal_any W rb M k n t c h1 h2 h3 (hQ.below hb), fun W hb k n c h => Rs.open_any W pr _ _ _ k n c h (hR.below hb), fun W hb k n c h => Rr.ropen_any W rb M k n c h (hQ.below hb), fun W hb n => Rs.coins_any W pr _ _ _ n (hR.below hb), fun W hb n => same_below (Rr.rcoins_any W rb M n (hQ.below hb)), fun W hb c => Rs.fresh_any W pr _ _ _ c (hR.below hb), fun W hb c => same_below (Rr.rfresh_any W rb M c (hQ.below hb)), fun k n t c h => by
    obtain ⟨g1, g2, g3, g4, g5⟩ := Rs.rask_0 h
    have hkz := Rs.kS_size (Rs.ky_size M 1) (Rs.ky_size M 2) (Rs.ky_size M 3) ⟨g1, g2⟩
    have hbz := Rs.bnd_size k n
    obtain ⟨z1, z2⟩ := Rs.aseal_0 (key := Rs.kS [Rs.ky M 1, Rs.ky M 2, Rs.ky M 3] k) (nonce := c) (aad := Rs.bnd k n) (plain := t) hkz g5 (by omega) g4
    have e1 : Rs.rsealY [Rs.ky M 1, Rs.ky M 2, Rs.ky M 3] k n t c = c ++ Ae.sealY (Rs.kS [Rs.ky M 1, Rs.ky M 2, Rs.ky M 3] k) c (Rs.bnd k n) t := if_pos h
    show (Rs.rsealY [Rs.ky M 1, Rs.ky M 2, Rs.ky M 3] k n t c).size ≤ _
    rw [e1, ByteArray.size_append, size_eq (Ae.sealY _ _ _ _), z2, Ae.sealL_length, ← size_eq]
    omega⟩

set_option maxRecDepth 20000 in
set_option maxHeartbeats 1000000 in
theorem seals_any (o : Stp) (c : ByteArray) (pb : Nat) (sp rp : Option Addr) (bv : Value) (A : Ans) (w1 w : World) (hw : Wl w pb sp rp bv) (h2 : Two w1 sp rp A) (hb : Below w1.heap.size w1 w) (hn : bnd47 o.name) (ht : bnd47 o.text) (hc : bnd47 c) :
    Calls Tryz.prog 32 #[.pointer (some ⟨pb, 0, none⟩), .agg (stpA o), .string c] w fun e w' => e = .returned (.tuple #[.string (A.sY o.n o.name o.text c), .int .i64 (A.sE o.n o.name o.text c)]) ∧ Below w.heap.size w w' := by
  obtain ⟨oc, on, onm, ot, oco, ou, oa, ob⟩ := o
  unfold stpA
  dsimp only at *
  obtain ⟨W0, hW0⟩ : ∃ W, w.alloc (.cells #[.int .i64 oc, .int .i64 on, .string onm, .string ot, .string oco, .int .i64 ou, .int .i64 oa, .int .i64 ob] 64) = W := ⟨_, rfl⟩
  have hq0 : W0.heap[w.heap.size]? = some (.cells #[.int .i64 oc, .int .i64 on, .string onm, .string ot, .string oco, .int .i64 ou, .int .i64 oa, .int .i64 ob] 64 (0, 0)) := by rw [← hW0]; exact heap_new _ _
  have hb0 : Below w.heap.size w W0 := by rw [← hW0]; exact (Below.refl _ _).alloc (Nat.le_refl _) _
  have HC : Hid (∀ W, Below W0.heap.size W0 W → (W.cell? ⟨pb, 0, none⟩ = some (.bool false) ∧ W.cell? ⟨pb, 1, none⟩ = some (.pointer sp)) ∧ (W.cell? ⟨w.heap.size, 1, none⟩ = some (.int .i64 on) ∧ W.cell? ⟨w.heap.size, 2, none⟩ = some (.string onm) ∧ W.cell? ⟨w.heap.size, 3, none⟩ = some (.string ot))) := fun W h => by
    have hh := (h.block _ (heap_lt hq0)).trans hq0
    obtain ⟨x0, x1, _⟩ := hw.cells.out W (hb0.trans (h.mono hb0.size))
    exact ⟨⟨x0, x1⟩, (cell_of_heap hh).trans rfl, (cell_of_heap hh).trans rfl, (cell_of_heap hh).trans rfl⟩
  have HK : Hid (∀ W, Below W0.heap.size W0 W → Calls Tryz.prog 56 #[.pointer sp, .int .i64 on, .string onm, .string ot, .string c] W fun e w' => e = .returned (.tuple #[.string (A.sY on onm ot c), .int .i64 (A.sE on onm ot c)]) ∧ Below W0.heap.size W0 w') := fun W h => by
    have hW : Below w1.heap.size w1 W := hb.trans ((hb0.trans (h.mono hb0.size)).mono hb.size)
    refine (h2.ps W hW on onm ot c hn ht hc).mono ?_
    rintro e w' ⟨rfl, hb'⟩
    exact ⟨rfl, h.trans (hb'.mono h.size)⟩
  have hnum := fun W x => num_any x W
  obtain ⟨⟨c0, c1⟩, z1, z2, z3⟩ := HC.out W0 (Below.refl _ _)
  generalize A.sY on onm ot c = Y at *
  generalize A.sE on onm ot c = E at *
  have HB0 : Hid (Below w.heap.size w W0) := hb0
  clear hq0 hb0 hw h2 hb
  go_enter Tryz.func32, Tryz.ntmps32
  go_wp2_with fail
  go_region_held_law (fun W => W.cell? ⟨pb, 1, none⟩ = some (.pointer sp) ∧ W.cell? ⟨w.heap.size, 1, none⟩ = some (.int .i64 on) ∧ W.cell? ⟨w.heap.size, 2, none⟩ = some (.string onm) ∧ W.cell? ⟨w.heap.size, 3, none⟩ = some (.string ot)) (first | exact ⟨(HC.out _ (bdN _ 1)).1.2, (HC.out _ (bdN _ 1)).2⟩ | exact ⟨(HC.out _ hb5).1.2, (HC.out _ hb5).2⟩ | go_keep) (first | (go_at_call 56; refine (HK.out _ (bdN _ 1)).mono ?_; rintro e w5 ⟨rfl, hb5⟩))
  all_goals
    go_wp2_with fail
    refine (hnum _ _).mono ?_
    rintro e w6 ⟨rfl, rfl⟩
    go_wp2
    go_ret2
    exact ⟨rfl, HB0.out.trans (hb5.mono HB0.out.size)⟩
set_option maxRecDepth 20000 in
set_option maxHeartbeats 1000000 in
theorem opens_any (o : Stp) (c : ByteArray) (pb : Nat) (sp rp : Option Addr) (bv : Value) (A : Ans) (w1 w : World) (hw : Wl w pb sp rp bv) (h2 : Two w1 sp rp A) (hb : Below w1.heap.size w1 w) (hc : bnd47 c) :
    Calls Tryz.prog 33 #[.pointer (some ⟨pb, 0, none⟩), .agg (stpA o), .string c] w fun e w' => e = .returned (.tuple #[.string (A.oY o.n o.name c), .int .i64 (A.oE o.n o.name c)]) ∧ Below w.heap.size w w' := by
  obtain ⟨oc, on, onm, ot, oco, ou, oa, ob⟩ := o
  unfold stpA
  dsimp only at *
  obtain ⟨W0, hW0⟩ : ∃ W, w.alloc (.cells #[.int .i64 oc, .int .i64 on, .string onm, .string ot, .string oco, .int .i64 ou, .int .i64 oa, .int .i64 ob] 64) = W := ⟨_, rfl⟩
  have hq0 : W0.heap[w.heap.size]? = some (.cells #[.int .i64 oc, .int .i64 on, .string onm, .string ot, .string oco, .int .i64 ou, .int .i64 oa, .int .i64 ob] 64 (0, 0)) := by rw [← hW0]; exact heap_new _ _
  have hb0 : Below w.heap.size w W0 := by rw [← hW0]; exact (Below.refl _ _).alloc (Nat.le_refl _) _
  have HC : Hid (∀ W, Below W0.heap.size W0 W → (W.cell? ⟨pb, 0, none⟩ = some (.bool false) ∧ W.cell? ⟨pb, 1, none⟩ = some (.pointer sp)) ∧ (W.cell? ⟨w.heap.size, 1, none⟩ = some (.int .i64 on) ∧ W.cell? ⟨w.heap.size, 2, none⟩ = some (.string onm) ∧ W.cell? ⟨w.heap.size, 3, none⟩ = some (.string ot))) := fun W h => by
    have hh := (h.block _ (heap_lt hq0)).trans hq0
    obtain ⟨x0, x1, _⟩ := hw.cells.out W (hb0.trans (h.mono hb0.size))
    exact ⟨⟨x0, x1⟩, (cell_of_heap hh).trans rfl, (cell_of_heap hh).trans rfl, (cell_of_heap hh).trans rfl⟩
  have HK : Hid (∀ W, Below W0.heap.size W0 W → Calls Tryz.prog 58 #[.pointer sp, .int .i64 on, .string onm, .string c] W fun e w' => e = .returned (.tuple #[.string (A.oY on onm c), .int .i64 (A.oE on onm c)]) ∧ Below W0.heap.size W0 w') := fun W h => by
    have hW : Below w1.heap.size w1 W := hb.trans ((hb0.trans (h.mono hb0.size)).mono hb.size)
    refine (h2.po W hW on onm c hc).mono ?_
    rintro e w' ⟨rfl, hb'⟩
    exact ⟨rfl, h.trans (hb'.mono h.size)⟩
  have hnum := fun W x => num_any x W
  obtain ⟨⟨c0, c1⟩, z1, z2, z3⟩ := HC.out W0 (Below.refl _ _)
  generalize A.oY on onm c = Y at *
  generalize A.oE on onm c = E at *
  have HB0 : Hid (Below w.heap.size w W0) := hb0
  clear hq0 hb0 hw h2 hb
  go_enter Tryz.func33, Tryz.ntmps33
  go_wp2_with fail
  go_region_held_law (fun W => W.cell? ⟨pb, 1, none⟩ = some (.pointer sp) ∧ W.cell? ⟨w.heap.size, 1, none⟩ = some (.int .i64 on) ∧ W.cell? ⟨w.heap.size, 2, none⟩ = some (.string onm) ∧ W.cell? ⟨w.heap.size, 3, none⟩ = some (.string ot)) (first | exact ⟨(HC.out _ (bdN _ 1)).1.2, (HC.out _ (bdN _ 1)).2⟩ | exact ⟨(HC.out _ hb5).1.2, (HC.out _ hb5).2⟩ | go_keep) (first | (go_at_call 58; refine (HK.out _ (bdN _ 1)).mono ?_; rintro e w5 ⟨rfl, hb5⟩))
  all_goals
    go_wp2_with fail
    refine (hnum _ _).mono ?_
    rintro e w6 ⟨rfl, rfl⟩
    go_wp2
    go_ret2
    exact ⟨rfl, HB0.out.trans (hb5.mono HB0.out.size)⟩
set_option maxRecDepth 20000 in
set_option maxHeartbeats 1000000 in
theorem asks_any (n : Int) (c : ByteArray) (pb : Nat) (sp rp : Option Addr) (bv : Value) (A : Ans) (w1 w : World) (hw : Wl w pb sp rp bv) (h2 : Two w1 sp rp A) (hb : Below w1.heap.size w1 w) :
    Calls Tryz.prog 35 #[.pointer (some ⟨pb, 0, none⟩), .int .i64 n, .string c] w fun e w' => e = .returned (.tuple #[.int .i64 (A.cN n), .bool (A.fB c)]) ∧ Below w.heap.size w w' := by
  have HP : Hid (∀ W, Below w.heap.size w W → Calls Tryz.prog 62 #[.pointer sp, .int .i64 n] W fun e w' => e = .returned (.int .i64 (A.cN n)) ∧ Below w.heap.size w w') := fun W h => (h2.pc W (hb.trans (h.mono hb.size)) n).mono (by
    rintro e w' ⟨rfl, hb'⟩
    exact ⟨rfl, h.trans (hb'.mono h.size)⟩)
  have HF : Hid (∀ W, Below w.heap.size w W → Calls Tryz.prog 63 #[.pointer sp, .string c] W fun e w' => e = .returned (.bool (A.fB c)) ∧ Below w.heap.size w w') := fun W h => (h2.pf W (hb.trans (h.mono hb.size)) c).mono (by
    rintro e w' ⟨rfl, hb'⟩
    exact ⟨rfl, h.trans (hb'.mono h.size)⟩)
  have HC := hw.cells
  obtain ⟨c0, c1, _⟩ := HC.out w (Below.refl _ _)
  generalize A.cN n = N at *
  generalize A.fB c = Fb at *
  clear h2 hb hw
  go_enter Tryz.func35, Tryz.ntmps35
  go_wp2_with fail
  go_region_held_law (fun W => W.cell? ⟨pb, 1, none⟩ = some (.pointer sp)) (first | exact (HC.out _ (bdN _ 1)).2.1 | exact (HC.out _ hb5).2.1 | exact (HC.out _ hb6).2.1 | go_keep) (first | (go_at_call 62; refine (HP.out _ (bdN _ 1)).mono ?_; rintro e w5 ⟨rfl, hb5⟩) | (go_at_call 63; refine (HF.out _ hb5).mono ?_; rintro e w6 ⟨rfl, hb6⟩))
  all_goals
    go_wp2
    go_ret2
    exact ⟨rfl, hb6⟩
end Go.Proofs.YtengclnahppmhaaGreatDoor.Sr
