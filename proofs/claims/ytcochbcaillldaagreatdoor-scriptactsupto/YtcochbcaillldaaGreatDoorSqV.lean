import Derived.Deep.RegionHeldLaw
import Derived.Test.YtcochbcaillldaaGreatDoorSqU
import Derived.Test.YtcochbcaillldaaGreatDoorSpD
namespace Go.Proofs.YtcochbcaillldaaGreatDoor.Sc
open Go.RowKit Go.Lib Go.Deep

/-- a play -/
structure PlR where
  s : Int
  f : Int
  d : Int
  m : Int
  l : Int
  p : Int
  ideal : Bool
  master : ByteArray
  tape : ByteArray
  acts : Option Addr
  nacts : Nat
  cacts : Nat
def PlR.cells (p : PlR) : Array Value := #[.int .i64 p.s, .int .i64 p.f, .int .i64 p.d, .int .i64 p.m, .int .i64 p.l, .int .i64 p.p, .bool p.ideal, .string p.master, .string p.tape, .slice p.acts p.nacts p.cacts]
/-- the first ten cells of a block hold a play -/
def PlAt (w : World) (g : Nat) (p : PlR) : Prop := ∀ j x, p.cells[j]? = some x → w.cell? ⟨g, j, none⟩ = some x
theorem PlAt.ten {w : World} {g : Nat} {p : PlR} (h : PlAt w g p) : w.cell? ⟨g, 0, none⟩ = some (.int .i64 p.s) ∧ w.cell? ⟨g, 1, none⟩ = some (.int .i64 p.f) ∧ w.cell? ⟨g, 2, none⟩ = some (.int .i64 p.d) ∧ w.cell? ⟨g, 3, none⟩ = some (.int .i64 p.m) ∧ w.cell? ⟨g, 4, none⟩ = some (.int .i64 p.l) ∧ w.cell? ⟨g, 5, none⟩ = some (.int .i64 p.p) ∧ w.cell? ⟨g, 6, none⟩ = some (.bool p.ideal) ∧ w.cell? ⟨g, 7, none⟩ = some (.string p.master) ∧ w.cell? ⟨g, 8, none⟩ = some (.string p.tape) ∧ w.cell? ⟨g, 9, none⟩ = some (.slice p.acts p.nacts p.cacts) :=
  ⟨h 0 _ rfl, h 1 _ rfl, h 2 _ rfl, h 3 _ rfl, h 4 _ rfl, h 5 _ rfl, h 6 _ rfl, h 7 _ rfl, h 8 _ rfl, h 9 _ rfl⟩
theorem plAt_of {w : World} {g : Nat} {p : PlR} {t : TypeId} (h : w.heap[g]? = some (.cells p.cells t (0, 0))) : PlAt w g p := fun j x hx => by rw [Lib.cell_of_heap h]; exact hx
theorem PlAt.below {w w' : World} {g B : Nat} {p : PlR} (h : PlAt w g p) (hb : Below B w w') (hg : g < B) : PlAt w' g p := fun j x hx => (hb.cell (p := ⟨g, j, none⟩) hg).trans (h j x hx)
/-- an act's nine cells, from a place on -/
def NineAt (w : World) (b p : Nat) (o : ActR) : Prop := w.cell? ⟨b, p, none⟩ = some (.int .i64 o.kind) ∧ w.cell? ⟨b, p + 1, none⟩ = some (.slice o.ops o.nops o.cops) ∧ w.cell? ⟨b, p + 2, none⟩ = some (.int .i64 o.i) ∧ w.cell? ⟨b, p + 3, none⟩ = some (.int .i64 o.before) ∧ w.cell? ⟨b, p + 4, none⟩ = some (.int .i64 o.ek) ∧ w.cell? ⟨b, p + 5, none⟩ = some (.int .i64 o.put) ∧ w.cell? ⟨b, p + 6, none⟩ = some (.int .i64 o.frm) ∧ w.cell? ⟨b, p + 7, none⟩ = some (.string o.name) ∧ w.cell? ⟨b, p + 8, none⟩ = some (.string o.blob)
theorem NineAt.below {w w' : World} {B b p : Nat} {o : ActR} (h : NineAt w b p o) (hb : Below B w w') (hlt : b < B) : NineAt w' b p o := by
  unfold NineAt at h ⊢
  simp only [World.cell?, hb.block b hlt] at h ⊢
  exact h
def SeeA (w : World) (a : Option Addr) (L : List ActR) : Prop := L ≠ [] → ∃ b off, a = some ⟨b, off, none⟩ ∧ b < w.heap.size ∧ ∀ (i : Nat) o, L[i]? = some o → NineAt w b (off + i * 9) o
theorem SeeA.below {w w' : World} {a : Option Addr} {L : List ActR} (h : SeeA w a L) (hb : Below w.heap.size w w') : SeeA w' a L := fun hne => by
  obtain ⟨b, off, e, hlt, hc⟩ := h hne
  exact ⟨b, off, e, Nat.lt_of_lt_of_le hlt hb.size, fun i o ho => (hc i o ho).below hb hlt⟩
abbrev ActV := ActR × List OpR
/-- a play's acts as they can be read -/
structure SeeV (w : World) (a : Option Addr) (V : List ActV) : Prop where
  acts : SeeA w a (V.map (·.1))
  ops : ∀ (i : Nat) x, V[i]? = some x → SeeO w x.1.ops x.2
theorem SeeV.below {w w' : World} {a : Option Addr} {V : List ActV} (h : SeeV w a V) (hb : Below w.heap.size w w') : SeeV w' a V := ⟨h.acts.below hb, fun i x hx => (h.ops i x hx).below hb⟩
theorem SeeV.at {w : World} {a : Option Addr} {V : List ActV} (h : SeeV w a V) {i : Nat} {x : ActV} (hx : V[i]? = some x) : ∃ b off, a = some ⟨b, off, none⟩ ∧ b < w.heap.size ∧ NineAt w b (off + i * 9) x.1 ∧ SeeO w x.1.ops x.2 := by
  obtain ⟨b, off, e, hlt, hc⟩ := h.acts (by intro e; rw [List.map_eq_nil_iff] at e; rw [e] at hx; cases hx)
  exact ⟨b, off, e, hlt, hc i x.1 (by rw [List.getElem?_map, hx]; rfl), h.ops i x hx⟩
structure VOk (V : List ActV) : Prop where
  each : ∀ x ∈ V, x.1.Ok ∧ (∀ o ∈ x.2, o.Ok) ∧ x.2.length = x.1.nops ∧ x.2.length ≤ 1048576
  len : V.length ≤ 1048576
/-- the same acts, their lists elsewhere -/
def Moved (V V' : List ActV) : Prop := V'.length = V.length ∧ ∀ (i : Nat) x, V[i]? = some x → ∃ a c, V'[i]? = some ({ x.1 with ops := a, cops := c }, x.2)

set_option maxRecDepth 20000 in
set_option maxHeartbeats 2000000 in
theorem samePlay_any (p : PlR) (a : Option Addr) (c : Nat) (V V' : List ActV) (hok : VOk V) (hn : V.length = p.nacts) (hm : Moved V V') (w : World) (h : SeeV w p.acts V) (h' : SeeV w a V') :
    Calls Tryz.prog 16 #[.agg (PlR.cells { p with acts := a, cacts := c }), .agg p.cells] w fun e w' => e = .returned (.bool true) ∧ Below w.heap.size w w' := by
  obtain ⟨W, hW⟩ : ∃ W, (w.alloc (.cells (PlR.cells { p with acts := a, cacts := c }) 26)).alloc (.cells p.cells 26) = W := ⟨_, rfl⟩
  have hbW : Below w.heap.size w W := by rw [← hW]; exact ((Below.refl _ _).alloc (Nat.le_refl _) _).alloc (by simp) _
  have h1 : PlAt W w.heap.size { p with acts := a, cacts := c } := by
    apply plAt_of
    rw [← hW]
    exact (Lib.alloc_old _ _ _ (by simp)).trans (heap_alloc_new _ _)
  have h2 : PlAt W (w.heap.size + 1) p := by
    apply plAt_of
    have h := heap_alloc_new (w.alloc (.cells (PlR.cells { p with acts := a, cacts := c }) 26)) (.cells p.cells 26)
    rw [hW, show (w.alloc (.cells (PlR.cells { p with acts := a, cacts := c }) 26)).heap.size = w.heap.size + 1 by simp] at h
    exact h
  have hWs : W.heap.size = w.heap.size + 1 + 1 := by rw [← hW]; simp
  obtain ⟨n, hnn⟩ : ∃ n, p.nacts = n := ⟨_, rfl⟩
  have HN : Hid (V.length = n) := hn.trans hnn
  have H1 : Hid (PlAt W w.heap.size { p with acts := a, cacts := c }) := h1
  have H2 : Hid (PlAt W (w.heap.size + 1) p) := h2
  have HNP : Hid (p.nacts = n) := hnn
  obtain ⟨c0, c1, c2, c3, c4, c5, c6, c7, c8, c9⟩ := h1.ten
  obtain ⟨d0, d1, d2, d3, d4, d5, d6, d7, d8, d9⟩ := h2.ten
  dsimp only at c0 c1 c2 c3 c4 c5 c6 c7 c8 c9
  rw [hnn] at c9 d9
  have HV : Hid (SeeV W p.acts V) := h.below hbW
  have HV' : Hid (SeeV W a V') := h'.below hbW
  have HM : Hid (Moved V V') := hm
  have HOK : Hid (VOk V) := hok
  have hnb : n ≤ 1048576 := by rw [← HN.out]; exact hok.len
  have HB : Hid (Below w.heap.size w W) := hbW
  have HWs : Hid (W.heap.size = w.heap.size + 1 + 1) := hWs
  unfold PlR.cells at *
  have HW : Hid (Unit → _ = W) := fun _ => hW
  clear hW h1 h2 hbW h h' hn hnn hm hok hWs
  dsimp only at *
  go_enter Tryz.func16, Tryz.ntmps16
  go_upto_region 1 with fail
  rw [HW.out ()]
  clear HW
  obtain ⟨pc, hpc⟩ : ∃ pc, p.cacts = pc := ⟨_, rfl⟩
  rw [hpc] at d9
  have HPC : Hid (p.cacts = pc) := hpc
  clear hpc
  go_wp2_with fail
  go_loopg [5] n (fun gk i wr => ∃ j : Nat, j + gk = n ∧ i = .int .i64 (j : Int) ∧ Hid (Below W.heap.size W wr))
  case atStart => exact ⟨0, by omega, rfl, Below.refl _ _⟩
  case round =>
    clear c0 c1 c2 c3 c4 c5 c6 c7 c8 c9 d0 d1 d2 d3 d4 d5 d6 d7 d8 d9
    obtain ⟨j, hj, rfl, HI⟩ := hrel
    have c9 : wr.cell? ⟨w.heap.size, 9, none⟩ = some (.slice a n c) := by
      have h := (HI.out.cell (p := ⟨w.heap.size, 9, none⟩) (by have := HWs.out; show w.heap.size < _; omega)).trans (H1.out 9 _ rfl)
      rw [show ({ p with acts := a, cacts := c } : PlR).nacts = n from HNP.out] at h
      exact h
    have d9 : wr.cell? ⟨w.heap.size + 1, 9, none⟩ = some (.slice p.acts n pc) := by
      have h : wr.cell? ⟨w.heap.size + 1, 9, none⟩ = some (.slice p.acts p.nacts p.cacts) := (HI.out.cell (p := ⟨w.heap.size + 1, 9, none⟩) (by have := HWs.out; show w.heap.size + 1 < _; omega)).trans (H2.out 9 _ rfl)
      rw [HNP.out, HPC.out] at h
      exact h
    by_cases hlt : j < n
    · have hltI : (j : Int) < (n : Int) := by omega
      obtain ⟨x, hx⟩ : ∃ x, V[j]? = some x := ⟨_, List.getElem?_eq_getElem (by rw [HN.out]; omega)⟩
      obtain ⟨a1, c1, hx'⟩ := HM.out.2 j x hx
      obtain ⟨b, off, hpa, hbl, hnine, hops⟩ := HV.out.at hx
      obtain ⟨b', off', hpa', hbl', hnine', hops'⟩ := HV'.out.at hx'
      rw [hpa] at d9
      subst hpa'
      obtain ⟨hxok, -, hxn, hxl⟩ := HOK.out.each x (List.mem_of_getElem? hx)
      have hbd : Below wr.heap.size wr wr.drew := bd1 wr
      have HC : Hid (∀ U, Below wr.heap.size wr U → U.cell? ⟨w.heap.size, 9, none⟩ = some (.slice (some ⟨b', off', none⟩) n c) ∧ U.cell? ⟨w.heap.size + 1, 9, none⟩ = some (.slice (some ⟨b, off, none⟩) n pc) ∧ U.cell? ⟨b', off' + j * 9, none⟩ = some (.int .i64 x.1.kind) ∧ U.cell? ⟨b', off' + j * 9 + 1, none⟩ = some (.slice a1 x.1.nops c1) ∧ U.cell? ⟨b', off' + j * 9 + 2, none⟩ = some (.int .i64 x.1.i) ∧ U.cell? ⟨b', off' + j * 9 + 3, none⟩ = some (.int .i64 x.1.before) ∧ U.cell? ⟨b', off' + j * 9 + 4, none⟩ = some (.int .i64 x.1.ek) ∧ U.cell? ⟨b', off' + j * 9 + 5, none⟩ = some (.int .i64 x.1.put) ∧ U.cell? ⟨b', off' + j * 9 + 6, none⟩ = some (.int .i64 x.1.frm) ∧ U.cell? ⟨b', off' + j * 9 + 7, none⟩ = some (.string x.1.name) ∧ U.cell? ⟨b', off' + j * 9 + 8, none⟩ = some (.string x.1.blob) ∧ U.cell? ⟨b, off + j * 9, none⟩ = some (.int .i64 x.1.kind) ∧ U.cell? ⟨b, off + j * 9 + 1, none⟩ = some (.slice x.1.ops x.1.nops x.1.cops) ∧ U.cell? ⟨b, off + j * 9 + 2, none⟩ = some (.int .i64 x.1.i) ∧ U.cell? ⟨b, off + j * 9 + 3, none⟩ = some (.int .i64 x.1.before) ∧ U.cell? ⟨b, off + j * 9 + 4, none⟩ = some (.int .i64 x.1.ek) ∧ U.cell? ⟨b, off + j * 9 + 5, none⟩ = some (.int .i64 x.1.put) ∧ U.cell? ⟨b, off + j * 9 + 6, none⟩ = some (.int .i64 x.1.frm) ∧ U.cell? ⟨b, off + j * 9 + 7, none⟩ = some (.string x.1.name) ∧ U.cell? ⟨b, off + j * 9 + 8, none⟩ = some (.string x.1.blob)) := fun U hb => by
        have hW := HI.out.trans (hb.mono HI.out.size)
        have h1 := (hb.cell (p := ⟨w.heap.size, 9, none⟩) (by have := HWs.out; have := HI.out.size; show w.heap.size < _; omega)).trans c9
        have h2 := (hb.cell (p := ⟨w.heap.size + 1, 9, none⟩) (by have := HWs.out; have := HI.out.size; show w.heap.size + 1 < _; omega)).trans d9
        obtain ⟨k0, k1, k2, k3, k4, k5, k6, k7, k8⟩ := hnine'.below hW hbl'
        obtain ⟨m0, m1, m2, m3, m4, m5, m6, m7, m8⟩ := hnine.below hW hbl
        exact ⟨h1, h2, k0, k1, k2, k3, k4, k5, k6, k7, k8, m0, m1, m2, m3, m4, m5, m6, m7, m8⟩
      have hsa := sameAct_any x.1 a1 c1 x.2 hxn hxl wr.drew (hops'.below (HI.out.trans (hbd.mono HI.out.size))) (hops.below (HI.out.trans (hbd.mono HI.out.size)))
      unfold ActR.val ActR.cells at hsa
      dsimp only at hsa
      have hs0 := HC.out _ (Below.refl _ _)
      clear hx hx' hnine hnine' hops hops' hxok hxn hxl hpa hbl hbl' c9 d9
      go_wp2_with fail
      go_region_held_law (fun U => U.cell? ⟨w.heap.size, 9, none⟩ = some (.slice (some ⟨b', off', none⟩) n c) ∧ U.cell? ⟨w.heap.size + 1, 9, none⟩ = some (.slice (some ⟨b, off, none⟩) n pc) ∧ U.cell? ⟨b', off' + j * 9, none⟩ = some (.int .i64 x.1.kind) ∧ U.cell? ⟨b', off' + j * 9 + 1, none⟩ = some (.slice a1 x.1.nops c1) ∧ U.cell? ⟨b', off' + j * 9 + 2, none⟩ = some (.int .i64 x.1.i) ∧ U.cell? ⟨b', off' + j * 9 + 3, none⟩ = some (.int .i64 x.1.before) ∧ U.cell? ⟨b', off' + j * 9 + 4, none⟩ = some (.int .i64 x.1.ek) ∧ U.cell? ⟨b', off' + j * 9 + 5, none⟩ = some (.int .i64 x.1.put) ∧ U.cell? ⟨b', off' + j * 9 + 6, none⟩ = some (.int .i64 x.1.frm) ∧ U.cell? ⟨b', off' + j * 9 + 7, none⟩ = some (.string x.1.name) ∧ U.cell? ⟨b', off' + j * 9 + 8, none⟩ = some (.string x.1.blob) ∧ U.cell? ⟨b, off + j * 9, none⟩ = some (.int .i64 x.1.kind) ∧ U.cell? ⟨b, off + j * 9 + 1, none⟩ = some (.slice x.1.ops x.1.nops x.1.cops) ∧ U.cell? ⟨b, off + j * 9 + 2, none⟩ = some (.int .i64 x.1.i) ∧ U.cell? ⟨b, off + j * 9 + 3, none⟩ = some (.int .i64 x.1.before) ∧ U.cell? ⟨b, off + j * 9 + 4, none⟩ = some (.int .i64 x.1.ek) ∧ U.cell? ⟨b, off + j * 9 + 5, none⟩ = some (.int .i64 x.1.put) ∧ U.cell? ⟨b, off + j * 9 + 6, none⟩ = some (.int .i64 x.1.frm) ∧ U.cell? ⟨b, off + j * 9 + 7, none⟩ = some (.string x.1.name) ∧ U.cell? ⟨b, off + j * 9 + 8, none⟩ = some (.string x.1.blob)) (first | exact HC.out _ hbd | exact HC.out _ hb2x | go_keep) (first | (go_at_call 38; refine hsa.mono ?_; rintro e w2 ⟨rfl, hb2⟩; have hb2x : Below wr.heap.size wr w2 := hbd.trans hb2; clear hsa))
      go_wp2
      go_roundg (gk - 1)
      case measure => omega
      case rel => exact ⟨j + 1, by omega, by go_num, HI.out.trans (hb2x.mono HI.out.size)⟩
    · obtain rfl : j = n := by omega
      have hltI : ¬ (j : Int) < (j : Int) := by omega
      go_wp2
      go_ret
      exact ⟨rfl, HB.out.trans (HI.out.mono HB.out.size)⟩
end Go.Proofs.YtcochbcaillldaaGreatDoor.Sc
