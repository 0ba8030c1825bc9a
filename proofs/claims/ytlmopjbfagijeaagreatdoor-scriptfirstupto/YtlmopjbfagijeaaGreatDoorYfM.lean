import Derived.Deep.Cut
import Derived.BigQuiet
import Derived.Test.YtlmopjbfagijeaaGreatDoorYeM
import Derived.Deep.RegionHeldLaw
import Derived.Test.YtlmopjbfagijeaaGreatDoorYdM
namespace Go.Proofs.YtlmopjbfagijeaaGreatDoor.Sc
open Go.RowKit Go.Lib Go.Deep

theorem bdN0 (w : World) (n : Nat) : Below w.heap.size w (w.drewN n) := ⟨rfl, rfl, rfl, Nat.le_refl _, fun _ _ => rfl⟩
set_option maxRecDepth 20000 in
set_option maxHeartbeats 1000000 in
theorem sameOps_any (a a' : Option Addr) (c c' : Nat) (L : List OpR) (w : World) (h : SeeO w a L) (h' : SeeO w a' L) (hll : L.length ≤ 1152921504606846976) : Calls Tryz.prog 30 #[.slice a L.length c, .slice a' L.length c'] w fun e w' => e = .returned (.bool true) ∧ Below w.heap.size w w' := by
  have HA : Hid (SeeO w a L) := h
  have HB : Hid (SeeO w a' L) := h'
  obtain ⟨n, hn⟩ : ∃ n, L.length = n := ⟨_, rfl⟩
  have HN : Hid (L.length = n) := hn
  rw [hn] at hll ⊢
  clear hn h h'
  go_enter Tryz.func30, Tryz.ntmps30
  go_wp2_with fail
  go_loopg [5] n (fun gk i wr => ∃ j : Nat, j + gk = n ∧ i = .int .i64 (j : Int) ∧ Hid (Below w.heap.size w wr))
  case atStart => exact ⟨0, by omega, rfl, Below.refl _ _⟩
  case round =>
    obtain ⟨j, hj, rfl, HW⟩ := hrel
    by_cases hlt : j < n
    · have hltI : (j : Int) < (n : Int) := by omega
      obtain ⟨o, ho⟩ : ∃ o, L[j]? = some o := ⟨_, List.getElem?_eq_getElem (by rw [HN.out]; omega)⟩
      obtain ⟨b, off, rfl, hbl, hcells⟩ := HA.out (by intro e; rw [e] at ho; cases ho)
      obtain ⟨b', off', rfl, hbl', hcells'⟩ := HB.out (by intro e; rw [e] at ho; cases ho)
      obtain ⟨c0, c1, c2, c3, c4, c5⟩ := (hcells j o ho).below HW.out hbl
      obtain ⟨d0, d1, d2, d3, d4, d5⟩ := (hcells' j o ho).below HW.out hbl'
      clear hcells hcells' ho hbl hbl'
      go_wp2_with fail
      go_quiet (fail)
      go_wp2
      go_roundg (gk - 1)
      case measure => omega
      case rel => exact ⟨j + 1, by omega, by go_num, HW.out.trans ((bdN0 _ _).mono HW.out.size)⟩
    · obtain rfl : j = n := by omega
      have hltI : ¬ (j : Int) < (j : Int) := by omega
      go_wp2
      go_ret
      exact ⟨rfl, HW.out⟩
set_option maxRecDepth 20000 in
set_option maxHeartbeats 1000000 in
theorem sameAct_any (o : ActR) (a : Option Addr) (c : Nat) (L : List OpR) (hn : L.length = o.nops) (hll : L.length ≤ 1048576) (w : World) (h : SeeO w a L) (h' : SeeO w o.ops L) :
    Calls Tryz.prog 38 #[ActR.val { o with ops := a, cops := c }, o.val] w fun e w' => e = .returned (.bool true) ∧ Below w.heap.size w w' := by
  obtain ⟨W, hW⟩ : ∃ W, (w.alloc (.cells (ActR.cells { o with ops := a, cops := c }) 36)).alloc (.cells o.cells 36) = W := ⟨_, rfl⟩
  have hbW : Below w.heap.size w W := by rw [← hW]; exact ((Below.refl _ _).alloc (Nat.le_refl _) _).alloc (by simp) _
  have h1 : ActAt W w.heap.size { o with ops := a, cops := c } := by
    rw [← hW]
    exact (Lib.alloc_old _ _ _ (by simp)).trans (heap_alloc_new _ _)
  have h2 : ActAt W (w.heap.size + 1) o := by
    have h := heap_alloc_new (w.alloc (.cells (ActR.cells { o with ops := a, cops := c }) 36)) (.cells o.cells 36)
    rw [hW, show (w.alloc (.cells (ActR.cells { o with ops := a, cops := c }) 36)).heap.size = w.heap.size + 1 by simp] at h
    exact h
  have hs := sameOps_any a o.ops c o.cops L W (h.below hbW) (h'.below hbW) (by omega)
  rw [hn] at hs
  obtain ⟨c0, c1, c2, c3, c4, c5, c6, c7, c8⟩ := h1.nine
  obtain ⟨d0, d1, d2, d3, d4, d5, d6, d7, d8⟩ := h2.nine
  unfold ActR.val ActR.cells at *
  have HW : Hid (Unit → _ = W) := fun _ => hW
  have HB : Hid (Below w.heap.size w W) := hbW
  clear hW h1 h2 hbW h h' hn
  dsimp only at *
  go_enter Tryz.func38, Tryz.ntmps38
  go_upto_region 1 with fail
  rw [HW.out ()]
  clear HW
  go_wp2_with (go_at_call 30; refine hs.mono ?_; rintro e w2 ⟨rfl, hb2⟩; clear hs)
  go_ret
  exact ⟨rfl, HB.out.trans (hb2.mono HB.out.size)⟩
end Go.Proofs.YtlmopjbfagijeaaGreatDoor.Sc

namespace Go.Proofs.YtlmopjbfagijeaaGreatDoor.Sc
open Go.RowKit Go.Lib Go.Deep

/-- a play -/
structure PlR where
  s : Int
  f : Int
  d : Int
  m : Int
  l : Int
  p : Int
  ideal : Bool
  master : ByteArray
  tape : ByteArray
  acts : Option Addr
  nacts : Nat
  cacts : Nat
def PlR.cells (p : PlR) : Array Value := #[.int .i64 p.s, .int .i64 p.f, .int .i64 p.d, .int .i64 p.m, .int .i64 p.l, .int .i64 p.p, .bool p.ideal, .string p.master, .string p.tape, .slice p.acts p.nacts p.cacts]
/-- the first ten cells of a block hold a play -/
def PlAt (w : World) (g : Nat) (p : PlR) : Prop := ∀ j x, p.cells[j]? = some x → w.cell? ⟨g, j, none⟩ = some x
theorem PlAt.ten {w : World} {g : Nat} {p : PlR} (h : PlAt w g p) : w.cell? ⟨g, 0, none⟩ = some (.int .i64 p.s) ∧ w.cell? ⟨g, 1, none⟩ = some (.int .i64 p.f) ∧ w.cell? ⟨g, 2, none⟩ = some (.int .i64 p.d) ∧ w.cell? ⟨g, 3, none⟩ = some (.int .i64 p.m) ∧ w.cell? ⟨g, 4, none⟩ = some (.int .i64 p.l) ∧ w.cell? ⟨g, 5, none⟩ = some (.int .i64 p.p) ∧ w.cell? ⟨g, 6, none⟩ = some (.bool p.ideal) ∧ w.cell? ⟨g, 7, none⟩ = some (.string p.master) ∧ w.cell? ⟨g, 8, none⟩ = some (.string p.tape) ∧ w.cell? ⟨g, 9, none⟩ = some (.slice p.acts p.nacts p.cacts) :=
  ⟨h 0 _ rfl, h 1 _ rfl, h 2 _ rfl, h 3 _ rfl, h 4 _ rfl, h 5 _ rfl, h 6 _ rfl, h 7 _ rfl, h 8 _ rfl, h 9 _ rfl⟩
theorem plAt_of {w : World} {g : Nat} {p : PlR} {t : TypeId} (h : w.heap[g]? = some (.cells p.cells t (0, 0))) : PlAt w g p := fun j x hx => by rw [Lib.cell_of_heap h]; exact hx
theorem PlAt.below {w w' : World} {g B : Nat} {p : PlR} (h : PlAt w g p) (hb : Below B w w') (hg : g < B) : PlAt w' g p := fun j x hx => (hb.cell (p := ⟨g, j, none⟩) hg).trans (h j x hx)
/-- an act's nine cells, from a place on -/
def NineAt (w : World) (b p : Nat) (o : ActR) : Prop := w.cell? ⟨b, p, none⟩ = some (.int .i64 o.kind) ∧ w.cell? ⟨b, p + 1, none⟩ = some (.slice o.ops o.nops o.cops) ∧ w.cell? ⟨b, p + 2, none⟩ = some (.int .i64 o.i) ∧ w.cell? ⟨b, p + 3, none⟩ = some (.int .i64 o.before) ∧ w.cell? ⟨b, p + 4, none⟩ = some (.int .i64 o.ek) ∧ w.cell? ⟨b, p + 5, none⟩ = some (.int .i64 o.put) ∧ w.cell? ⟨b, p + 6, none⟩ = some (.int .i64 o.frm) ∧ w.cell? ⟨b, p + 7, none⟩ = some (.string o.name) ∧ w.cell? ⟨b, p + 8, none⟩ = some (.string o.blob)
theorem NineAt.below {w w' : World} {B b p : Nat} {o : ActR} (h : NineAt w b p o) (hb : Below B w w') (hlt : b < B) : NineAt w' b p o := by
  unfold NineAt at h ⊢
  simp only [World.cell?, hb.block b hlt] at h ⊢
  exact h
def SeeA (w : World) (a : Option Addr) (L : List ActR) : Prop := L ≠ [] → ∃ b off, a = some ⟨b, off, none⟩ ∧ b < w.heap.size ∧ ∀ (i : Nat) o, L[i]? = some o → NineAt w b (off + i * 9) o
theorem SeeA.below {w w' : World} {a : Option Addr} {L : List ActR} (h : SeeA w a L) (hb : Below w.heap.size w w') : SeeA w' a L := fun hne => by
  obtain ⟨b, off, e, hlt, hc⟩ := h hne
  exact ⟨b, off, e, Nat.lt_of_lt_of_le hlt hb.size, fun i o ho => (hc i o ho).below hb hlt⟩
abbrev ActV := ActR × List OpR
/-- a play's acts as they can be read -/
structure SeeV (w : World) (a : Option Addr) (V : List ActV) : Prop where
  acts : SeeA w a (V.map (·.1))
  ops : ∀ (i : Nat) x, V[i]? = some x → SeeO w x.1.ops x.2
theorem SeeV.below {w w' : World} {a : Option Addr} {V : List ActV} (h : SeeV w a V) (hb : Below w.heap.size w w') : SeeV w' a V := ⟨h.acts.below hb, fun i x hx => (h.ops i x hx).below hb⟩
theorem SeeV.at {w : World} {a : Option Addr} {V : List ActV} (h : SeeV w a V) {i : Nat} {x : ActV} (hx : V[i]? = some x) : ∃ b off, a = some ⟨b, off, none⟩ ∧ b < w.heap.size ∧ NineAt w b (off + i * 9) x.1 ∧ SeeO w x.1.ops x.2 := by
  obtain ⟨b, off, e, hlt, hc⟩ := h.acts (by intro e; rw [List.map_eq_nil_iff] at e; rw [e] at hx; cases hx)
  exact ⟨b, off, e, hlt, hc i x.1 (by rw [List.getElem?_map, hx]; rfl), h.ops i x hx⟩
structure VOk (V : List ActV) : Prop where
  each : ∀ x ∈ V, x.1.Ok ∧ (∀ o ∈ x.2, o.Ok) ∧ x.2.length = x.1.nops ∧ x.2.length ≤ 1048576
  len : V.length ≤ 1048576
/-- the same acts, their lists elsewhere -/
def Moved (V V' : List ActV) : Prop := V'.length = V.length ∧ ∀ (i : Nat) x, V[i]? = some x → ∃ a c, V'[i]? = some ({ x.1 with ops := a, cops := c }, x.2)

set_option maxRecDepth 20000 in
set_option maxHeartbeats 2000000 in
theorem samePlay_any (p : PlR) (a : Option Addr) (c : Nat) (V V' : List ActV) (hok : VOk V) (hn : V.length = p.nacts) (hm : Moved V V') (w : World) (h : SeeV w p.acts V) (h' : SeeV w a V') :
    Calls Tryz.prog 16 #[.agg (PlR.cells { p with acts := a, cacts := c }), .agg p.cells] w fun e w' => e = .returned (.bool true) ∧ Below w.heap.size w w' := by
  obtain ⟨W, hW⟩ : ∃ W, (w.alloc (.cells (PlR.cells { p with acts := a, cacts := c }) 26)).alloc (.cells p.cells 26) = W := ⟨_, rfl⟩
  have hbW : Below w.heap.size w W := by rw [← hW]; exact ((Below.refl _ _).alloc (Nat.le_refl _) _).alloc (by simp) _
  have h1 : PlAt W w.heap.size { p with acts := a, cacts := c } := by
    apply plAt_of
    rw [← hW]
    exact (Lib.alloc_old _ _ _ (by simp)).trans (heap_alloc_new _ _)
  have h2 : PlAt W (w.heap.size + 1) p := by
    apply plAt_of
    have h := heap_alloc_new (w.alloc (.cells (PlR.cells { p with acts := a, cacts := c }) 26)) (.cells p.cells 26)
    rw [hW, show (w.alloc (.cells (PlR.cells { p with acts := a, cacts := c }) 26)).heap.size = w.heap.size + 1 by simp] at h
    exact h
  have hWs : W.heap.size = w.heap.size + 1 + 1 := by rw [← hW]; simp
  obtain ⟨n, hnn⟩ : ∃ n, p.nacts = n := ⟨_, rfl⟩
  have HN : Hid (V.length = n) := hn.trans hnn
  have H1 : Hid (PlAt W w.heap.size { p with acts := a, cacts := c }) := h1
  have H2 : Hid (PlAt W (w.heap.size + 1) p) := h2
  have HNP : Hid (p.nacts = n) := hnn
  obtain ⟨c0, c1, c2, c3, c4, c5, c6, c7, c8, c9⟩ := h1.ten
  obtain ⟨d0, d1, d2, d3, d4, d5, d6, d7, d8, d9⟩ := h2.ten
  dsimp only at c0 c1 c2 c3 c4 c5 c6 c7 c8 c9
  rw [hnn] at c9 d9
  have HV : Hid (SeeV W p.acts V) := h.below hbW
  have HV' : Hid (SeeV W a V') := h'.below hbW
  have HM : Hid (Moved V V') := hm
  have HOK : Hid (VOk V) := hok
  have hnb : n ≤ 1048576 := by rw [← HN.out]; exact hok.len
  have HB : Hid (Below w.heap.size w W) := hbW
  have HWs : Hid (W.heap.size = w.heap.size + 1 + 1) := hWs
  unfold PlR.cells at *
  have HW : Hid (Unit → _ = W) := fun _ => hW
  clear hW h1 h2 hbW h h' hn hnn hm hok hWs
  dsimp only at *
  go_enter Tryz.func16, Tryz.ntmps16
  go_upto_region 1 with fail
  rw [HW.out ()]
  clear HW
  obtain ⟨pc, hpc⟩ : ∃ pc, p.cacts = pc := ⟨_, rfl⟩
  rw [hpc] at d9
  have HPC : Hid (p.cacts = pc) := hpc
  clear hpc
  go_wp2_with fail
  go_loopg [5] n (fun gk i wr => ∃ j : Nat, j + gk = n ∧ i = .int .i64 (j : Int) ∧ Hid (Below W.heap.size W wr))
  case atStart => exact ⟨0, by omega, rfl, Below.refl _ _⟩
  case round =>
    clear c0 c1 c2 c3 c4 c5 c6 c7 c8 c9 d0 d1 d2 d3 d4 d5 d6 d7 d8 d9
    obtain ⟨j, hj, rfl, HI⟩ := hrel
    have c9 : wr.cell? ⟨w.heap.size, 9, none⟩ = some (.slice a n c) := by
      have h := (HI.out.cell (p := ⟨w.heap.size, 9, none⟩) (by have := HWs.out; show w.heap.size < _; omega)).trans (H1.out 9 _ rfl)
      rw [show ({ p with acts := a, cacts := c } : PlR).nacts = n from HNP.out] at h
      exact h
    have d9 : wr.cell? ⟨w.heap.size + 1, 9, none⟩ = some (.slice p.acts n pc) := by
      have h : wr.cell? ⟨w.heap.size + 1, 9, none⟩ = some (.slice p.acts p.nacts p.cacts) := (HI.out.cell (p := ⟨w.heap.size + 1, 9, none⟩) (by have := HWs.out; show w.heap.size + 1 < _; omega)).trans (H2.out 9 _ rfl)
      rw [HNP.out, HPC.out] at h
      exact h
    by_cases hlt : j < n
    · have hltI : (j : Int) < (n : Int) := by omega
      obtain ⟨x, hx⟩ : ∃ x, V[j]? = some x := ⟨_, List.getElem?_eq_getElem (by rw [HN.out]; omega)⟩
      obtain ⟨a1, c1, hx'⟩ := HM.out.2 j x hx
      obtain ⟨b, off, hpa, hbl, hnine, hops⟩ := HV.out.at hx
      obtain ⟨b', off', hpa', hbl', hnine', hops'⟩ := HV'.out.at hx'
      rw [hpa] at d9
      subst hpa'
      obtain ⟨hxok, -, hxn, hxl⟩ := HOK.out.each x (List.mem_of_getElem? hx)
      have hbd : Below wr.heap.size wr wr.drew := bd1 wr
      have HC : Hid (∀ U, Below wr.heap.size wr U → U.cell? ⟨w.heap.size, 9, none⟩ = some (.slice (some ⟨b', off', none⟩) n c) ∧ U.cell? ⟨w.heap.size + 1, 9, none⟩ = some (.slice (some ⟨b, off, none⟩) n pc) ∧ U.cell? ⟨b', off' + j * 9, none⟩ = some (.int .i64 x.1.kind) ∧ U.cell? ⟨b', off' + j * 9 + 1, none⟩ = some (.slice a1 x.1.nops c1) ∧ U.cell? ⟨b', off' + j * 9 + 2, none⟩ = some (.int .i64 x.1.i) ∧ U.cell? ⟨b', off' + j * 9 + 3, none⟩ = some (.int .i64 x.1.before) ∧ U.cell? ⟨b', off' + j * 9 + 4, none⟩ = some (.int .i64 x.1.ek) ∧ U.cell? ⟨b', off' + j * 9 + 5, none⟩ = some (.int .i64 x.1.put) ∧ U.cell? ⟨b', off' + j * 9 + 6, none⟩ = some (.int .i64 x.1.frm) ∧ U.cell? ⟨b', off' + j * 9 + 7, none⟩ = some (.string x.1.name) ∧ U.cell? ⟨b', off' + j * 9 + 8, none⟩ = some (.string x.1.blob) ∧ U.cell? ⟨b, off + j * 9, none⟩ = some (.int .i64 x.1.kind) ∧ U.cell? ⟨b, off + j * 9 + 1, none⟩ = some (.slice x.1.ops x.1.nops x.1.cops) ∧ U.cell? ⟨b, off + j * 9 + 2, none⟩ = some (.int .i64 x.1.i) ∧ U.cell? ⟨b, off + j * 9 + 3, none⟩ = some (.int .i64 x.1.before) ∧ U.cell? ⟨b, off + j * 9 + 4, none⟩ = some (.int .i64 x.1.ek) ∧ U.cell? ⟨b, off + j * 9 + 5, none⟩ = some (.int .i64 x.1.put) ∧ U.cell? ⟨b, off + j * 9 + 6, none⟩ = some (.int .i64 x.1.frm) ∧ U.cell? ⟨b, off + j * 9 + 7, none⟩ = some (.string x.1.name) ∧ U.cell? ⟨b, off + j * 9 + 8, none⟩ = some (.string x.1.blob)) := fun U hb => by
        have hW := HI.out.trans (hb.mono HI.out.size)
        have h1 := (hb.cell (p := ⟨w.heap.size, 9, none⟩) (by have := HWs.out; have := HI.out.size; show w.heap.size < _; omega)).trans c9
        have h2 := (hb.cell (p := ⟨w.heap.size + 1, 9, none⟩) (by have := HWs.out; have := HI.out.size; show w.heap.size + 1 < _; omega)).trans d9
        obtain ⟨k0, k1, k2, k3, k4, k5, k6, k7, k8⟩ := hnine'.below hW hbl'
        obtain ⟨m0, m1, m2, m3, m4, m5, m6, m7, m8⟩ := hnine.below hW hbl
        exact ⟨h1, h2, k0, k1, k2, k3, k4, k5, k6, k7, k8, m0, m1, m2, m3, m4, m5, m6, m7, m8⟩
      have hsa := sameAct_any x.1 a1 c1 x.2 hxn hxl wr.drew (hops'.below (HI.out.trans (hbd.mono HI.out.size))) (hops.below (HI.out.trans (hbd.mono HI.out.size)))
      unfold ActR.val ActR.cells at hsa
      dsimp only at hsa
      have hs0 := HC.out _ (Below.refl _ _)
      clear hx hx' hnine hnine' hops hops' hxok hxn hxl hpa hbl hbl' c9 d9
      go_wp2_with fail
      go_region_held_law (fun U => U.cell? ⟨w.heap.size, 9, none⟩ = some (.slice (some ⟨b', off', none⟩) n c) ∧ U.cell? ⟨w.heap.size + 1, 9, none⟩ = some (.slice (some ⟨b, off, none⟩) n pc) ∧ U.cell? ⟨b', off' + j * 9, none⟩ = some (.int .i64 x.1.kind) ∧ U.cell? ⟨b', off' + j * 9 + 1, none⟩ = some (.slice a1 x.1.nops c1) ∧ U.cell? ⟨b', off' + j * 9 + 2, none⟩ = some (.int .i64 x.1.i) ∧ U.cell? ⟨b', off' + j * 9 + 3, none⟩ = some (.int .i64 x.1.before) ∧ U.cell? ⟨b', off' + j * 9 + 4, none⟩ = some (.int .i64 x.1.ek) ∧ U.cell? ⟨b', off' + j * 9 + 5, none⟩ = some (.int .i64 x.1.put) ∧ U.cell? ⟨b', off' + j * 9 + 6, none⟩ = some (.int .i64 x.1.frm) ∧ U.cell? ⟨b', off' + j * 9 + 7, none⟩ = some (.string x.1.name) ∧ U.cell? ⟨b', off' + j * 9 + 8, none⟩ = some (.string x.1.blob) ∧ U.cell? ⟨b, off + j * 9, none⟩ = some (.int .i64 x.1.kind) ∧ U.cell? ⟨b, off + j * 9 + 1, none⟩ = some (.slice x.1.ops x.1.nops x.1.cops) ∧ U.cell? ⟨b, off + j * 9 + 2, none⟩ = some (.int .i64 x.1.i) ∧ U.cell? ⟨b, off + j * 9 + 3, none⟩ = some (.int .i64 x.1.before) ∧ U.cell? ⟨b, off + j * 9 + 4, none⟩ = some (.int .i64 x.1.ek) ∧ U.cell? ⟨b, off + j * 9 + 5, none⟩ = some (.int .i64 x.1.put) ∧ U.cell? ⟨b, off + j * 9 + 6, none⟩ = some (.int .i64 x.1.frm) ∧ U.cell? ⟨b, off + j * 9 + 7, none⟩ = some (.string x.1.name) ∧ U.cell? ⟨b, off + j * 9 + 8, none⟩ = some (.string x.1.blob)) (first | exact HC.out _ hbd | exact HC.out _ hb2x | go_keep) (first | (go_at_call 38; refine hsa.mono ?_; rintro e w2 ⟨rfl, hb2⟩; have hb2x : Below wr.heap.size wr w2 := hbd.trans hb2; clear hsa))
      go_wp2
      go_roundg (gk - 1)
      case measure => omega
      case rel => exact ⟨j + 1, by omega, by go_num, HI.out.trans (hb2x.mono HI.out.size)⟩
    · obtain rfl : j = n := by omega
      have hltI : ¬ (j : Int) < (j : Int) := by omega
      go_wp2
      go_ret
      exact ⟨rfl, HB.out.trans (HI.out.mono HB.out.size)⟩
end Go.Proofs.YtlmopjbfagijeaaGreatDoor.Sc

namespace Go.Proofs.YtlmopjbfagijeaaGreatDoor.Sc
open Go.RowKit Go.Lib Go.Deep
open Go.Proofs.YtlmopjbfagijeaaGreatDoor.Sq (See wpList_app see_own see_one owns_form owns_form2 one_new grown_base owns_keep owns_below owns_base owns_block own_cap)

theorem infoAct : (Tryz.prog.info? 36).map (fun i => (i.zero, i.size, i.bytes)) = some (some (.agg #[.int .i64 0, .slice none 0 0, .int .i64 0, .int .i64 0, .int .i64 0, .int .i64 0, .int .i64 0, .string { data := #[] }, .string { data := #[] }]), 9, 104) := by kernel_rfl
theorem infoSl : (Tryz.prog.info? 32).map (fun i => (i.zero, i.size, i.bytes)) = some (some (.slice none 0 0), 1, 24) := by kernel_rfl

/-- blocks of operations stay -/
def KT (w w' : World) : Prop := ∀ (k : Nat) cs, w.heap[k]? = some (.cells cs 54 (0, 0)) → w'.heap[k]? = some (.cells cs 54 (0, 0))
theorem KT.trans {a b c : World} (h : KT a b) (h' : KT b c) : KT a c := fun k cs h0 => h' k cs (h k cs h0)
theorem KT.below {w w' : World} (h : Below w.heap.size w w') : KT w w' := fun k _ h0 => (h.block k (heap_lt h0)).trans h0
theorem owns_type {w : World} {B e sz n B2 e2 sz2 n2 : Nat} {v v2 : Value} {xs xs2 : List Value} (h : w.ownsRow B e sz v n xs) (h2 : w.ownsRow B2 e2 sz2 v2 n2 xs2) (hne : e ≠ e2) {g : Nat} (hg : v.ownBlock = some g) : some g ≠ v2.ownBlock := fun e1 => by
  obtain ⟨c1, q1⟩ := owns_block h hg
  obtain ⟨c2, q2⟩ := owns_block h2 e1.symm
  rw [q1] at q2
  injection q2 with q2
  injection q2 with _ q3 _
  exact hne q3
theorem KT.grown {w w' : World} {B e sz n : Nat} {v : Value} {xs : List Value} (hg : w.grownBy w' v.ownBlock) (h : w.ownsRow B e sz v n xs) (hne : e ≠ 54) : KT w w' := fun k cs h0 => (hg.block k (heap_lt h0) (fun e1 => by
  obtain ⟨c2, q2⟩ := owns_block h e1.symm
  rw [h0] at q2
  injection q2 with q2
  injection q2 with _ q3 _
  exact hne q3.symm)).trans h0
theorem KT.set {w : World} {g i : Nat} {v : Value} {T : TypeId} {cs : Array Value} (hg : w.heap[g]? = some (.cells cs T (0, 0))) (hT : T ≠ 54) : KT w (w.setCell ⟨g, i, none⟩ v) := fun k cs' h0 => (Below.heap_setCell _ _ _ _ (fun e => by
  subst e
  rw [hg] at h0
  injection h0 with h0
  injection h0 with _ q3 _
  exact hT q3)).trans h0
theorem owns_grown {w w' : World} {B e sz n B2 e2 sz2 n2 : Nat} {v v2 : Value} {xs xs2 : List Value} (h : w.ownsRow B e sz v n xs) (hg : w.grownBy w' v2.ownBlock) (h2 : w.ownsRow B2 e2 sz2 v2 n2 xs2) (hne : e ≠ e2) : w'.ownsRow B e sz v n xs :=
  owns_keep h fun g hv => hg.block g (h.lt g hv).2 (owns_type h h2 hne hv)
theorem owns_set {w : World} {B e sz n g i : Nat} {v u : Value} {xs : List Value} {T : TypeId} {cs : Array Value} (h : w.ownsRow B e sz v n xs) (hg : w.heap[g]? = some (.cells cs T (0, 0))) (hT : e ≠ T) : (w.setCell ⟨g, i, none⟩ u).ownsRow B e sz v n xs :=
  owns_keep h fun k hv => Below.heap_setCell _ _ _ _ (fun e1 => by
    subst e1
    obtain ⟨c2, q2⟩ := owns_block h hv
    rw [hg] at q2
    injection q2 with q2
    injection q2 with _ q3 _
    exact hT q3.symm)
theorem owns_kt {w w' : World} {B sz n : Nat} {v : Value} {xs : List Value} (h : w.ownsRow B 54 sz v n xs) (hk : KT w w') : w'.ownsRow B 54 sz v n xs :=
  owns_keep h fun g hv => by
    obtain ⟨c, q⟩ := owns_block h hv
    rw [hk g c q, q]

def hd (x : ActV) (gc : Nat × Nat) : ActR := { x.1 with ops := some ⟨gc.1, 0, none⟩, cops := gc.2 }
def actsC (L : List ActR) : List Value := L.flatMap fun o => o.cells.toList
def slC (V : List ActV) (G : List (Nat × Nat)) : List Value := List.zipWith (fun x gc => Value.slice (some ⟨gc.1, 0, none⟩) (x.2.length + 8) gc.2) V G
theorem zip_snoc {α β γ : Type} (f : α → β → γ) : ∀ (V : List α) (G : List β) (x : α) (g : β), V[G.length]? = some x → List.zipWith f V (G ++ [g]) = List.zipWith f V G ++ [f x g]
  | [], G, x, g, h => by cases h
  | a :: V, [], x, g, h => by
    obtain rfl : a = x := by simpa using h
    simp
  | a :: V, b :: G, x, g, h => by
    have := zip_snoc f V G x g (by simpa using h)
    simp [this]
theorem zip_get {α β γ : Type} (f : α → β → γ) (V : List α) (G : List β) (i : Nat) (x : α) (g : β) (hx : V[i]? = some x) (hg : G[i]? = some g) : (List.zipWith f V G)[i]? = some (f x g) := by
  rw [List.getElem?_zipWith, hx, hg]
theorem actsC_snoc (L : List ActR) (o : ActR) : actsC (L ++ [o]) = actsC L ++ o.cells.toList := by unfold actsC; simp
theorem actsC_one (L : List ActR) : ∀ u ∈ actsC L, u.oneCell' = true := by
  intro u hu
  unfold actsC at hu
  obtain ⟨o, _, ho⟩ := List.mem_flatMap.1 hu
  simp [ActR.cells] at ho
  rcases ho with rfl | rfl | rfl | rfl | rfl | rfl | rfl | rfl | rfl <;> rfl
theorem acells_one (o : ActR) : ∀ u ∈ o.cells.toList, u.oneCell' = true := fun u hu => actsC_one [o] u (by unfold actsC; simpa using hu)
def markA : ActR := ⟨77, none, 0, 0, 0, 0, 0, 0, 0, nil_, nil_⟩
/-- the copy of a play that is handed in -/
def handC (p : PlR) (acts full ops : Value) : Array Value := #[.int .i64 p.s, .int .i64 p.f, .int .i64 p.d, .int .i64 p.m, .int .i64 p.l, .int .i64 p.p, .bool p.ideal, .string p.master, .string p.tape, acts, full, ops]
def HandAt (w : World) (g : Nat) (p : PlR) (acts full ops : Value) : Prop := w.heap[g]? = some (.cells (handC p acts full ops) 39 (0, 0))
theorem HandAt.set9 {w : World} {g : Nat} {p : PlR} {x y z : Value} (h : HandAt w g p x y z) (u : Value) : HandAt (w.setCell ⟨g, 9, none⟩ u) g p u y z := by
  unfold HandAt at h ⊢
  simp [World.setCell, Array.getElem?_modify, h, handC]
theorem HandAt.set10 {w : World} {g : Nat} {p : PlR} {x y z : Value} (h : HandAt w g p x y z) (u : Value) : HandAt (w.setCell ⟨g, 10, none⟩ u) g p x u z := by
  unfold HandAt at h ⊢
  simp [World.setCell, Array.getElem?_modify, h, handC]
theorem HandAt.set11 {w : World} {g : Nat} {p : PlR} {x y z : Value} (h : HandAt w g p x y z) (u : Value) : HandAt (w.setCell ⟨g, 11, none⟩ u) g p x y u := by
  unfold HandAt at h ⊢
  simp [World.setCell, Array.getElem?_modify, h, handC]
/-- what hand's loop has made -/
structure Made (w : World) (B hb : Nat) (p : PlR) (V : List ActV) (G : List (Nat × Nat)) (acts fv ov : Value) (m : Nat) : Prop where
  hand : HandAt w hb p acts fv ov
  lt : hb < B
  full : w.ownsRow B 36 9 fv (G.length + m) (actsC (List.zipWith hd V G ++ List.replicate m markA))
  ops : w.ownsRow B 32 1 ov G.length (slC V G)
  rows : ∀ (i : Nat) x gc, V[i]? = some x → G[i]? = some gc → w.ownsRow B 54 6 (.slice (some ⟨gc.1, 0, none⟩) (x.2.length + 8) gc.2) (x.2.length + 8) (opsC (twinL x.2))
theorem Made.below {w w' : World} {B hb : Nat} {p : PlR} {V : List ActV} {G : List (Nat × Nat)} {acts fv ov : Value} {m : Nat} (h : Made w B hb p V G acts fv ov m) (hb' : Below w.heap.size w w') : Made w' B hb p V G acts fv ov m :=
  ⟨(hb'.block _ (heap_lt h.hand)).trans h.hand, h.lt, owns_below h.full hb', owns_below h.ops hb', fun i x gc hx hg => owns_below (h.rows i x gc hx hg) hb'⟩

theorem hand_grown {w w' : World} {g : Nat} {p : PlR} {x y z : Value} {B e sz n : Nat} {v : Value} {xs : List Value} (h : HandAt w g p x y z) (hg : w.grownBy w' v.ownBlock) (ho : w.ownsRow B e sz v n xs) (hne : e ≠ 39) : HandAt w' g p x y z :=
  (hg.block g (heap_lt h) (fun e1 => by
    obtain ⟨c2, q2⟩ := owns_block ho e1.symm
    have h0 : w.heap[g]? = _ := h
    rw [q2] at h0
    injection h0 with h0
    injection h0 with _ q3 _
    exact hne q3)).trans h
/-- between the two appends of a round -/
structure Half (w : World) (B hb : Nat) (p : PlR) (V : List ActV) (G : List (Nat × Nat)) (gc : Nat × Nat) (acts fv ov : Value) : Prop where
  hand : HandAt w hb p acts fv ov
  lt : hb < B
  full : w.ownsRow B 36 9 fv G.length (actsC (List.zipWith hd V G))
  ops : w.ownsRow B 32 1 ov (G ++ [gc]).length (slC V (G ++ [gc]))
  rows : ∀ (i : Nat) x gc', V[i]? = some x → (G ++ [gc])[i]? = some gc' → w.ownsRow B 54 6 (.slice (some ⟨gc'.1, 0, none⟩) (x.2.length + 8) gc'.2) (x.2.length + 8) (opsC (twinL x.2))
theorem Half.below {w w' : World} {B hb : Nat} {p : PlR} {V : List ActV} {G : List (Nat × Nat)} {gc : Nat × Nat} {acts fv ov : Value} (h : Half w B hb p V G gc acts fv ov) (hb' : Below w.heap.size w w') : Half w' B hb p V G gc acts fv ov :=
  ⟨(hb'.block _ (heap_lt h.hand)).trans h.hand, h.lt, owns_below h.full hb', owns_below h.ops hb', fun i x gc hx hg => owns_below (h.rows i x gc hx hg) hb'⟩
theorem Half.seta {w : World} {B hb ab : Nat} {p : PlR} {V : List ActV} {G : List (Nat × Nat)} {gc : Nat × Nat} {acts fv ov : Value} {o : ActR} (h : Half w B hb p V G gc acts fv ov) (ha : ActAt w ab o) (hf : ∀ g, fv.ownBlock = some g → g ≠ ab) (i : Nat) (u : Value) : Half (w.setCell ⟨ab, i, none⟩ u) B hb p V G gc acts fv ov :=
  ⟨(Below.heap_setCell _ _ _ _ (fun e => by
      subst e
      have h0 : w.heap[_]? = _ := h.hand
      rw [show w.heap[hb]? = _ from ha] at h0
      injection h0 with h0
      injection h0 with _ q3 _
      revert q3
      decide)).trans h.hand, h.lt, owns_keep h.full fun k hv => Below.heap_setCell _ _ _ _ (hf k hv), owns_set h.ops ha (by decide), fun j x gc hx hg => owns_set (h.rows j x gc hx hg) ha (by decide)⟩
theorem Made.step1 {w3 w4 : World} {B hb : Nat} {p : PlR} {V : List ActV} {G : List (Nat × Nat)} {acts fv ov : Value} (h : Made w3 B hb p V G acts fv ov 0) (x : ActV) (hx : V[G.length]? = some x) (g c' : Nat)
    (hrow : w3.ownsRow B 54 6 (.slice (some ⟨g, 0, none⟩) (x.2.length + 8) c') (x.2.length + 8) (opsC (twinL x.2))) (v' : Value)
    (hown : w4.ownsRow B 32 1 v' (G.length + 1) (slC V G ++ [.slice (some ⟨g, 0, none⟩) (x.2.length + 8) c'])) (hg : w3.grownBy w4 ov.ownBlock) : Half (w4.setCell ⟨hb, 11, none⟩ v') B hb p V G (g, c') acts fv v' := by
  have h4 := hand_grown h.hand hg h.ops (by decide)
  have hk := (KT.grown hg h.ops (by decide)).trans (KT.set (i := 11) (v := v') h4 (by decide))
  refine ⟨h4.set11 v', h.lt, owns_set (i := 11) (u := v') ?_ h4 (by decide), owns_set (i := 11) (u := v') ?_ h4 (by decide), fun i y gc hy hgc => owns_kt ?_ hk⟩
  · have := owns_grown h.full hg h.ops (by decide)
    simpa using this
  · have e : slC V (G ++ [(g, c')]) = slC V G ++ [.slice (some ⟨g, 0, none⟩) (x.2.length + 8) c'] := zip_snoc _ V G x (g, c') hx
    rw [e, List.length_append]
    exact hown
  · by_cases hi : i < G.length
    · rw [List.getElem?_append_left hi] at hgc
      exact h.rows i y gc hy hgc
    · have hi2 : i = G.length := by
        have := (List.getElem?_eq_some_iff.1 hgc).1
        rw [List.length_append] at this
        simp only [List.length_cons, List.length_nil] at this
        omega
      subst hi2
      rw [List.getElem?_append_right (Nat.le_refl _), Nat.sub_self] at hgc
      obtain rfl : (g, c') = gc := by simpa using hgc
      rw [hx] at hy
      obtain rfl := Option.some.inj hy
      exact hrow
theorem Half.step2 {w7 w8 : World} {B hb : Nat} {p : PlR} {V : List ActV} {G : List (Nat × Nat)} {gc : Nat × Nat} {acts fv ov : Value} (h : Half w7 B hb p V G gc acts fv ov) (x : ActV) (hx : V[G.length]? = some x) (v' : Value)
    (hown : w8.ownsRow B 36 9 v' (G.length + 1) (actsC (List.zipWith hd V G) ++ (hd x gc).cells.toList)) (hg : w7.grownBy w8 fv.ownBlock) : Made (w8.setCell ⟨hb, 10, none⟩ v') B hb p V (G ++ [gc]) acts v' ov 0 := by
  have h4 := hand_grown h.hand hg h.full (by decide)
  have hk := (KT.grown hg h.full (by decide)).trans (KT.set (i := 10) (v := v') h4 (by decide))
  refine ⟨h4.set10 v', h.lt, owns_set (i := 10) (u := v') ?_ h4 (by decide), owns_set (i := 10) (u := v') (owns_grown h.ops hg h.full (by decide)) h4 (by decide), fun i y gc hy hgc => owns_kt (h.rows i y gc hy hgc) hk⟩
  rw [zip_snoc hd V G x gc hx, List.replicate_zero, List.append_nil, actsC_snoc, List.length_append]
  exact hown
theorem Made.step3 {w7 w8 : World} {B hb : Nat} {p : PlR} {V : List ActV} {G : List (Nat × Nat)} {acts fv ov : Value} {m : Nat} (h : Made w7 B hb p V G acts fv ov m) (v' : Value)
    (hown : w8.ownsRow B 36 9 v' (G.length + m + 1) (actsC (List.zipWith hd V G ++ List.replicate m markA) ++ markA.cells.toList)) (hg : w7.grownBy w8 fv.ownBlock) : Made (w8.setCell ⟨hb, 10, none⟩ v') B hb p V G acts v' ov (m + 1) := by
  have h4 := hand_grown h.hand hg h.full (by decide)
  have hk := (KT.grown hg h.full (by decide)).trans (KT.set (i := 10) (v := v') h4 (by decide))
  refine ⟨h4.set10 v', h.lt, owns_set (i := 10) (u := v') ?_ h4 (by decide), owns_set (i := 10) (u := v') (owns_grown h.ops hg h.full (by decide)) h4 (by decide), fun i y gc hy hgc => owns_kt (h.rows i y gc hy hgc) hk⟩
  rw [List.replicate_succ', ← List.append_assoc, actsC_snoc]
  exact hown
theorem Made.acts {w : World} {B hb : Nat} {p : PlR} {V : List ActV} {G : List (Nat × Nat)} {acts fv ov : Value} {m : Nat} (h : Made w B hb p V G acts fv ov m) (u : Value) : Made (w.setCell ⟨hb, 9, none⟩ u) B hb p V G u fv ov m :=
  ⟨h.hand.set9 u, h.lt, owns_set h.full h.hand (by decide), owns_set h.ops h.hand (by decide), fun i y gc hy hgc => owns_set (h.rows i y gc hy hgc) h.hand (by decide)⟩
end Go.Proofs.YtlmopjbfagijeaaGreatDoor.Sc
