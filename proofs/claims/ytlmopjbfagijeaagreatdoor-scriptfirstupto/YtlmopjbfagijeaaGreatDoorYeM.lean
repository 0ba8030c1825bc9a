import Derived.Test.YtlmopjbfagijeaaGreatDoorSpG
import Derived.Test.YtlmopjbfagijeaaGreatDoorBaseM
import Derived.Deep.Cut
import Derived.Test.YtlmopjbfagijeaaGreatDoorYbM
import Derived.Test.YtlmopjbfagijeaaGreatDoorYcM
namespace Go.Proofs.YtlmopjbfagijeaaGreatDoor.Sc
open Go.RowKit Go.Lib Go.Deep

/-- an act -/
structure ActR where
  kind : Int
  ops : Option Addr
  nops : Nat
  cops : Nat
  i : Int
  before : Int
  ek : Int
  put : Int
  frm : Int
  name : ByteArray
  blob : ByteArray
def ActR.cells (a : ActR) : Array Value := #[.int .i64 a.kind, .slice a.ops a.nops a.cops, .int .i64 a.i, .int .i64 a.before, .int .i64 a.ek, .int .i64 a.put, .int .i64 a.frm, .string a.name, .string a.blob]
def ActR.val (a : ActR) : Value := .agg a.cells
def ActR.ed (a : ActR) : Array Value := #[.int .i64 a.before, .int .i64 a.ek, .int .i64 a.put, .int .i64 a.frm, .string a.name, .string a.blob]
structure ActR.Ok (a : ActR) : Prop where
  kind : I64 a.kind
  i : I64 a.i
  before : I64 a.before
  ek : I64 a.ek
  put : I64 a.put
  frm : I64 a.frm
  name : a.name.size ≤ 1048576
  blob : a.blob.size ≤ 1048576
/-- an act in a block of its own -/
def ActAt (w : World) (g : Nat) (a : ActR) : Prop := w.heap[g]? = some (.cells a.cells 36 (0, 0))
theorem ActAt.nine {w : World} {g : Nat} {a : ActR} (h : ActAt w g a) : w.cell? ⟨g, 0, none⟩ = some (.int .i64 a.kind) ∧ w.cell? ⟨g, 1, none⟩ = some (.slice a.ops a.nops a.cops) ∧ w.cell? ⟨g, 2, none⟩ = some (.int .i64 a.i) ∧ w.cell? ⟨g, 3, none⟩ = some (.int .i64 a.before) ∧ w.cell? ⟨g, 4, none⟩ = some (.int .i64 a.ek) ∧ w.cell? ⟨g, 5, none⟩ = some (.int .i64 a.put) ∧ w.cell? ⟨g, 6, none⟩ = some (.int .i64 a.frm) ∧ w.cell? ⟨g, 7, none⟩ = some (.string a.name) ∧ w.cell? ⟨g, 8, none⟩ = some (.string a.blob) := by
  refine ⟨?_, ?_, ?_, ?_, ?_, ?_, ?_, ?_, ?_⟩ <;> (rw [Lib.cell_of_heap h]; rfl)
theorem ActAt.frozen {w : World} {g : Nat} {a : ActR} (h : ActAt w g a) (j : Nat) : w.frozen? ⟨g, j, none⟩ = false := Lib.frozen_of_heap h j
theorem ActAt.below {w w' : World} {g B : Nat} {a : ActR} (h : ActAt w g a) (hb : Below B w w') (hg : g < B) : ActAt w' g a := (hb.block _ hg).trans h
theorem ActAt.lt {w : World} {g : Nat} {a : ActR} (h : ActAt w g a) : g < w.heap.size := (Array.getElem?_eq_some_iff.1 h).1
theorem ActAt.set1 {w : World} {g : Nat} {a : ActR} (h : ActAt w g a) : ActAt (w.setCell ⟨g, 1, none⟩ (.slice none 0 0)) g { a with ops := none, nops := 0, cops := 0 } := by
  unfold ActAt at h ⊢
  simp [World.setCell, Array.getElem?_modify, h, ActR.cells]
theorem ActAt.set2 {w : World} {g : Nat} {a : ActR} (h : ActAt w g a) : ActAt (w.setCell ⟨g, 2, none⟩ (.int .i64 0)) g { a with i := 0 } := by
  unfold ActAt at h ⊢
  simp [World.setCell, Array.getElem?_modify, h, ActR.cells]
def ActR.noEdit (a : ActR) : ActR := { a with before := 0, ek := 0, put := 0, frm := 0, name := nil_, blob := nil_ }
theorem ActAt.set6 {w : World} {g : Nat} {a : ActR} (h : ActAt w g a) : ActAt ((((((w.setCell ⟨g, 3, none⟩ (.int .i64 0)).setCell ⟨g, 4, none⟩ (.int .i64 0)).setCell ⟨g, 5, none⟩ (.int .i64 0)).setCell ⟨g, 6, none⟩ (.int .i64 0)).setCell ⟨g, 7, none⟩ (.string { data := #[] })).setCell ⟨g, 8, none⟩ (.string { data := #[] })) g a.noEdit := by
  unfold ActAt at h ⊢
  simp [World.setCell, Array.getElem?_modify, h, ActR.cells, ActR.noEdit, nil_]
/-- a line stays where another block's cell is set -/
theorem LnS.setA {x : Bool × List UInt8} {b g i : Nat} {w : World} {o : ActR} {v : Value} (h : LnS x b w) (ho : ActAt w g o) (hg : g ≠ b) : LnS x b (w.setCell ⟨g, i, none⟩ v) := by
  have key : ∀ p, BuAt 125 [.bool x.1] b b p x.2 w → BuAt 125 [.bool x.1] b b p x.2 (w.setCell ⟨g, i, none⟩ v) := fun p h => by
    obtain ⟨hB, v', hb, hown, hne, hn0⟩ := h
    refine ⟨hB, v', (Below.heap_setCell _ _ _ _ (Ne.symm hg)).trans hb, ?_, hne, hn0⟩
    refine hown.kept (row := some g) ⟨rfl, rfl, rfl, by simp [World.setCell], fun k _ hk => Below.heap_setCell _ _ _ _ (fun e => hk (by simp [e]))⟩ (Or.inr ?_)
    exact ownBlock_ne hown ho (by decide)
  exact h.elim (fun x => .inl (key _ x)) (fun x => .inr (key _ x))

set_option maxRecDepth 20000 in
set_option maxHeartbeats 1000000 in
theorem takeO_any (b o : Nat) (a : Option Addr) (n c : Nat) (w : World) (h : w.cell? ⟨b, o, none⟩ = some (.slice a n c)) (hf : w.frozen? ⟨b, o, none⟩ = false) :
    Calls Tryz.prog 98 #[.pointer (some ⟨b, o, none⟩)] w fun e w' => e = .returned (.slice a n c) ∧ w' = w.setCell ⟨b, o, none⟩ (.slice none 0 0) := by
  go_enter Tryz.func98, Tryz.ntmps98
  go_wp2
  go_ret
  exact ⟨rfl, rfl⟩

def actTab : List Fm := [⟨1, { data := #[102, 111, 114, 109, 97, 116] }, 1, 54, 55⟩, ⟨2, { data := #[114, 101, 99, 111, 118, 101, 114] }, 1, 54, 55⟩, ⟨5, { data := #[112, 111, 119, 101, 114] }, 1, 54, 55⟩, ⟨3, { data := #[98, 97, 116, 99, 104] }, 1, 56, 55⟩, ⟨4, { data := #[102, 117, 115, 101] }, 2, 57, 58⟩, ⟨6, { data := #[101, 100, 105, 116] }, 7, 59, 60⟩]

set_option maxRecDepth 20000 in
set_option maxHeartbeats 1000000 in
theorem acts_any (w : World) :
    Calls Tryz.prog 25 #[] w fun e w' => e = .returned (.slice (some ⟨w.heap.size, 0, none⟩) 6 6) ∧ w' = w.alloc (.cells (tabC actTab) 110) := by
  go_enter Tryz.func25, Tryz.ntmps25
  go_wp2_with fail
  go_ret
  exact ⟨rfl, rfl⟩

/-- what the functions that write an act's line say -/
def WrA (f : FuncId) (g : ActR → Bool × List UInt8 → Bool × List UInt8) (r : ActR → ActR) : Prop :=
  ∀ (o : ActR) (x : Bool × List UInt8) (b v : Nat) (w : World), o.Ok → LnS x b w → ActAt w v o → v < b → ITab w → 3 < v → x.2.length ≤ 1048576 →
    Calls Tryz.prog f #[.pointer (some ⟨b, 0, none⟩), .pointer (some ⟨v, 0, none⟩)] w fun e w' => e = .returned (.tuple #[]) ∧ LnS (g o x) b w' ∧ ActAt w' v (r o) ∧ Below v w w'

set_option maxRecDepth 20000 in
set_option maxHeartbeats 1000000 in
theorem writeAlone_any : WrA 54 (fun _ x => x) (fun o => o) := by
  intro o x b v w hok hl ho hvb ht hg hx
  go_enter Tryz.func54, Tryz.ntmps54
  go_wp2
  go_end0
  exact ⟨rfl, hl, ho, Below.refl _ _⟩

set_option maxRecDepth 20000 in
set_option maxHeartbeats 1000000 in
theorem writeBatch_any : WrA 56 (fun _ x => x) (fun o => { o with ops := none, nops := 0, cops := 0 }) := by
  intro o x b v w hok hl ho hvb ht hg hx
  obtain ⟨c0, c1, c2, c3, c4, c5, c6, c7, c8⟩ := ho.nine
  have h1 := takeO_any v 1 o.ops o.nops o.cops w c1 (ho.frozen 1)
  have hl2 := hl.setA (i := 1) (v := .slice none 0 0) ho (Nat.ne_of_lt hvb)
  have ho2 := ho.set1
  have hb1 : Below v w (w.setCell ⟨v, 1, none⟩ (.slice none 0 0)) := (Below.refl v w).setCell (p := ⟨v, 1, none⟩) (Nat.le_refl _) _
  clear c0 c1 c2 c3 c4 c5 c6 c7 c8
  go_enter Tryz.func56, Tryz.ntmps56
  go_wp2_with (go_at_call 98; refine h1.mono ?_; rintro e w1 ⟨rfl, rfl⟩; clear h1)
  go_wp2
  go_end0
  exact ⟨rfl, hl2, ho2, hb1⟩

set_option maxRecDepth 20000 in
set_option maxHeartbeats 1000000 in
theorem writeFuse_any : WrA 57 (fun o x => stN x [o.i]) (fun o => { o with i := 0 }) := by
  intro o x b v w hok hl ho hvb ht hg hx
  obtain ⟨c0, c1, c2, c3, c4, c5, c6, c7, c8⟩ := ho.nine
  have hT := takeI_any v 2 o.i w c2 (ho.frozen 2)
  have hl2 := hl.setA (i := 2) (v := .int .i64 0) ho (Nat.ne_of_lt hvb)
  have ho2 := ho.set2
  have hb1 : Below v w (w.setCell ⟨v, 2, none⟩ (.int .i64 0)) := (Below.refl v w).setCell (p := ⟨v, 2, none⟩) (Nat.le_refl _) _
  have ht2 := ht.below hb1 hg
  obtain ⟨W, hW⟩ : ∃ W, w.setCell ⟨v, 2, none⟩ (.int .i64 0) = W := ⟨_, rfl⟩
  rw [hW] at hT hl2 ho2 hb1 ht2
  have hA := (Below.refl W.heap.size W).alloc (Nat.le_refl _) (.cells #[.int .i64 o.i] 3)
  have hN := numbers_any x.1 b W.heap.size 1 1 [o.i] x.2 _ (hl2.below hA) (ht2.below hA ht2.lt) (Nat.lt_trans hg hvb) (Nat.ne_of_gt hl2.lt) (heap_alloc_new _ _) rfl (by simp; exact hok.i) (by decide) (by omega)
  clear c0 c1 c2 c3 c4 c5 c6 c7 c8 hl ho hW
  go_enter Tryz.func57, Tryz.ntmps57
  go_wp2_with (first | (go_at_call 70; refine hN'.mono ?_; rintro e w3 ⟨rfl, ⟨hu3, hb3⟩, ho3⟩; clear hN') | (go_at_call 99; refine hT.mono ?_; rintro e w2 ⟨rfl, rfl⟩; clear hT; have hN' := hN))
  go_wp2
  go_end0
  exact ⟨rfl, hu3, (ho2.below hA ho2.lt).below hb3 hvb, hb1.trans ((hA.mono (Nat.le_of_lt ho2.lt)).trans (hb3.mono (Nat.le_of_lt hvb)))⟩
end Go.Proofs.YtlmopjbfagijeaaGreatDoor.Sc

namespace Go.Proofs.YtlmopjbfagijeaaGreatDoor.Sc
open Go.RowKit Go.Lib Go.Deep

theorem results_cell1 {P : Program} {fn : Func} {p : Tmp} {ty : TypeId} (h : fn.results = #[.cell p ty]) (tmps : Array Value) (w : World) (g : Nat) (t : TypeId) (cs : Array Value) (fr : Nat × Nat) (d : TypeDesc)
    (hp : tmps.getD p undef = .pointer (some ⟨g, 0, none⟩)) (hg : w.heap[g]? = some (.cells cs t fr)) (hu : P.underlying ty = some d) (hd : (match d with | .struct _ | .array _ _ => true | _ => false) = true) (hi : (P.info? ty).map (·.size) = some cs.size) :
    (results fn tmps).run P w = .ok (.agg cs) w := by
  have hp' : tmps[p]?.getD undef = .pointer (some ⟨g, 0, none⟩) := by simpa using hp
  simp [results, h, hp', asAddr, run_loadVar_row w g t ty cs fr d hg hu hd hi]
theorem results_tcell {P : Program} {fn : Func} {p u : Tmp} {ty : TypeId} (h : fn.results = #[.tmp u, .cell p ty]) (tmps : Array Value) (w : World) (g : Nat) (t : TypeId) (cs : Array Value) (fr : Nat × Nat) (d : TypeDesc)
    (hp : tmps.getD p undef = .pointer (some ⟨g, 0, none⟩)) (hg : w.heap[g]? = some (.cells cs t fr)) (hu : P.underlying ty = some d) (hd : (match d with | .struct _ | .array _ _ => true | _ => false) = true) (hi : (P.info? ty).map (·.size) = some cs.size) :
    (results fn tmps).run P w = .ok (.tuple #[tmps.getD u undef, .agg cs]) w := by
  have hp' : tmps[p]?.getD undef = .pointer (some ⟨g, 0, none⟩) := by simpa using hp
  simp [results, h, hp', asAddr, run_loadVar_row w g t ty cs fr d hg hu hd hi]
end Go.Proofs.YtlmopjbfagijeaaGreatDoor.Sc

namespace Go.Proofs.YtlmopjbfagijeaaGreatDoor.Sc
open Go.RowKit Go.Lib Go.Deep

/-- a block of a type -/
def HasT (w : World) (g : Nat) (T : TypeId) : Prop := ∃ cs, w.heap[g]? = some (.cells cs T (0, 0))
theorem HasT.set {w : World} {g : Nat} {T : TypeId} (h : HasT w g T) (k i : Nat) (v : Value) : HasT (w.setCell ⟨k, i, none⟩ v) g T := by
  obtain ⟨cs, h⟩ := h
  by_cases e : g = k
  · subst e
    exact ⟨cs.setIfInBounds i v, by simp [World.setCell, Array.getElem?_modify, h]⟩
  · exact ⟨cs, (Below.heap_setCell _ _ _ _ e).trans h⟩
theorem LnS.setT {x : Bool × List UInt8} {b g i : Nat} {w : World} {T : TypeId} {v : Value} (h : LnS x b w) (ho : HasT w g T) (hT : T ≠ 5) (hg : g ≠ b) : LnS x b (w.setCell ⟨g, i, none⟩ v) := by
  obtain ⟨cs, ho⟩ := ho
  have key : ∀ p, BuAt 125 [.bool x.1] b b p x.2 w → BuAt 125 [.bool x.1] b b p x.2 (w.setCell ⟨g, i, none⟩ v) := fun p h => by
    obtain ⟨hB, v', hb, hown, hne, hn0⟩ := h
    refine ⟨hB, v', (Below.heap_setCell _ _ _ _ (Ne.symm hg)).trans hb, ?_, hne, hn0⟩
    refine hown.kept (row := some g) ⟨rfl, rfl, rfl, by simp [World.setCell], fun k _ hk => Below.heap_setCell _ _ _ _ (fun e => hk (by simp [e]))⟩ (Or.inr ?_)
    exact ownBlock_ne hown ho hT
  exact h.elim (fun x => .inl (key _ x)) (fun x => .inr (key _ x))
def six (w : World) (g p : Nat) (v0 v1 v2 v3 v4 v5 : Value) : World := (((((w.setCell ⟨g, p, none⟩ v0).setCell ⟨g, p + 1, none⟩ v1).setCell ⟨g, p + 2, none⟩ v2).setCell ⟨g, p + 3, none⟩ v3).setCell ⟨g, p + 4, none⟩ v4).setCell ⟨g, p + 5, none⟩ v5
theorem LnS.six {x : Bool × List UInt8} {b g p : Nat} {w : World} {T : TypeId} {v0 v1 v2 v3 v4 v5 : Value} (h : LnS x b w) (ho : HasT w g T) (hT : T ≠ 5) (hg : g ≠ b) : LnS x b (six w g p v0 v1 v2 v3 v4 v5) := by
  have h0 := h.setT (i := p) (v := v0) ho hT hg
  have o0 := ho.set g p v0
  have h1 := h0.setT (i := p + 1) (v := v1) o0 hT hg
  have o1 := o0.set g (p + 1) v1
  have h2 := h1.setT (i := p + 2) (v := v2) o1 hT hg
  have o2 := o1.set g (p + 2) v2
  have h3 := h2.setT (i := p + 3) (v := v3) o2 hT hg
  have o3 := o2.set g (p + 3) v3
  have h4 := h3.setT (i := p + 4) (v := v4) o3 hT hg
  have o4 := o3.set g (p + 4) v4
  exact h4.setT (i := p + 5) (v := v5) o4 hT hg
theorem below_six {B g p : Nat} {a w : World} {v0 v1 v2 v3 v4 v5 : Value} (h : Below B a w) (hg : B ≤ g) : Below B a (six w g p v0 v1 v2 v3 v4 v5) :=
  (((((h.setCell (p := ⟨g, p, none⟩) hg _).setCell (p := ⟨g, p + 1, none⟩) hg _).setCell (p := ⟨g, p + 2, none⟩) hg _).setCell (p := ⟨g, p + 3, none⟩) hg _).setCell (p := ⟨g, p + 4, none⟩) hg _).setCell (p := ⟨g, p + 5, none⟩) hg _
theorem six_other (w : World) (g p k : Nat) (v0 v1 v2 v3 v4 v5 : Value) (hk : k ≠ g) : (six w g p v0 v1 v2 v3 v4 v5).heap[k]? = w.heap[k]? := by
  unfold six
  rw [Below.heap_setCell _ _ _ _ hk, Below.heap_setCell _ _ _ _ hk, Below.heap_setCell _ _ _ _ hk, Below.heap_setCell _ _ _ _ hk, Below.heap_setCell _ _ _ _ hk, Below.heap_setCell _ _ _ _ hk]
theorem sizeEd : (Tryz.prog.info? 34).map (·.size) = some 6 := by kernel_rfl
def zeroE : Array Value := #[.int .i64 0, .int .i64 0, .int .i64 0, .int .i64 0, .string { data := #[] }, .string { data := #[] }]
set_option maxRecDepth 20000 in
set_option maxHeartbeats 2000000 in
theorem takeE_any (g : Nat) (o : ActR) (w : World) (h : ActAt w g o) :
    Calls Tryz.prog 101 #[.pointer (some ⟨g, 3, none⟩)] w fun e w' => e = .returned (.agg o.ed) ∧ ActAt w' g o.noEdit ∧ Below g w w' ∧ (∀ x b, LnS x b w → g ≠ b → LnS x b w') := by
  have hA := h.below ((Below.refl _ _).alloc (Nat.le_refl _) (.cells zeroE 34)) h.lt
  obtain ⟨c0, c1, c2, c3, c4, c5, c6, c7, c8⟩ := hA.nine
  obtain ⟨W, hW⟩ : ∃ W, ((w.alloc (.cells zeroE 34)).alloc (.cells o.ed 34)).alloc (.cells zeroE 34) = W := ⟨_, rfl⟩
  have hbW : Below w.heap.size w W := by rw [← hW]; exact (((Below.refl _ _).alloc (Nat.le_refl _) _).alloc (by simp) _).alloc (by simp; omega) _
  have hgW := h.below hbW h.lt
  have hrW : W.heap[w.heap.size]? = some (.cells zeroE 34 (0, 0)) := by
    rw [← hW]
    exact (Lib.alloc_old _ _ _ (by simp; omega)).trans ((Lib.alloc_old _ _ _ (by simp)).trans (heap_alloc_new _ _))
  have hvW : W.heap[w.heap.size + 1]? = some (.cells o.ed 34 (0, 0)) := by
    rw [← hW]
    exact (Lib.alloc_old _ _ _ (by simp)).trans (by have h := heap_alloc_new (w.alloc (.cells zeroE 34)) (.cells o.ed 34); rw [show (w.alloc (.cells zeroE 34)).heap.size = w.heap.size + 1 by simp] at h; exact h)
  have hzW : W.heap[w.heap.size + 1 + 1]? = some (.cells zeroE 34 (0, 0)) := by
    have h := heap_alloc_new ((w.alloc (.cells zeroE 34)).alloc (.cells o.ed 34)) (.cells zeroE 34)
    rw [hW] at h
    rw [show ((w.alloc (.cells zeroE 34)).alloc (.cells o.ed 34)).heap.size = w.heap.size + 1 + 1 by simp] at h
    exact h
  have y0 : W.cell? ⟨w.heap.size + 1 + 1, 0, none⟩ = some (.int .i64 0) := by rw [Lib.cell_of_heap hzW]; rfl
  have y1 : W.cell? ⟨w.heap.size + 1 + 1, 1, none⟩ = some (.int .i64 0) := by rw [Lib.cell_of_heap hzW]; rfl
  have y2 : W.cell? ⟨w.heap.size + 1 + 1, 2, none⟩ = some (.int .i64 0) := by rw [Lib.cell_of_heap hzW]; rfl
  have y3 : W.cell? ⟨w.heap.size + 1 + 1, 3, none⟩ = some (.int .i64 0) := by rw [Lib.cell_of_heap hzW]; rfl
  have y4 : W.cell? ⟨w.heap.size + 1 + 1, 4, none⟩ = some (.string { data := #[] }) := by rw [Lib.cell_of_heap hzW]; rfl
  have y5 : W.cell? ⟨w.heap.size + 1 + 1, 5, none⟩ = some (.string { data := #[] }) := by rw [Lib.cell_of_heap hzW]; rfl
  obtain ⟨d0, d1, d2, d3, d4, d5, d6, d7, d8⟩ := hgW.nine
  have df := hgW.frozen
  have hV6 := hgW.set6
  have hgl := h.lt
  have hL : ∀ x b, LnS x b w → g ≠ b → LnS x b (six W g 3 (.int .i64 0) (.int .i64 0) (.int .i64 0) (.int .i64 0) (.string { data := #[] }) (.string { data := #[] })) ∧ w.heap.size ≠ b := fun x b hl hne => ⟨LnS.six (Bu.below hl hbW) ⟨_, hgW⟩ (by decide) hne, Nat.ne_of_gt hl.lt⟩
  have hB : Below g w (six W g 3 (.int .i64 0) (.int .i64 0) (.int .i64 0) (.int .i64 0) (.string { data := #[] }) (.string { data := #[] })) := below_six (hbW.mono (Nat.le_of_lt hgl)) (Nat.le_refl _)
  have e1 : w.heap.size ≠ g := Nat.ne_of_gt hgl
  have e2 : w.heap.size + 1 ≠ g := by omega
  have hR : (six W g 3 (.int .i64 0) (.int .i64 0) (.int .i64 0) (.int .i64 0) (.string { data := #[] }) (.string { data := #[] })).heap[w.heap.size]? = some (.cells zeroE 34 (0, 0)) := (six_other _ _ _ _ _ _ _ _ _ _ e1).trans hrW
  have hVV : (six W g 3 (.int .i64 0) (.int .i64 0) (.int .i64 0) (.int .i64 0) (.string { data := #[] }) (.string { data := #[] })).heap[w.heap.size + 1]? = some (.cells o.ed 34 (0, 0)) := (six_other _ _ _ _ _ _ _ _ _ _ e2).trans hvW
  obtain ⟨V, hVe⟩ : ∃ V, six W g 3 (.int .i64 0) (.int .i64 0) (.int .i64 0) (.int .i64 0) (.string { data := #[] }) (.string { data := #[] }) = V := ⟨_, rfl⟩
  rw [hVe] at hR hVV hB
  have hV : ActAt V g o.noEdit := by rw [← hVe]; exact hV6
  rw [hVe] at hL
  have HVE : Hid (Unit → six W g 3 (.int .i64 0) (.int .i64 0) (.int .i64 0) (.int .i64 0) (.string { data := #[] }) (.string { data := #[] }) = V) := fun _ => hVe
  have HW : Hid (Unit → _ = W) := fun _ => hW
  have HL : Hid _ := hL
  have HB : Hid _ := hB
  have HR : Hid _ := hR
  have HVV : Hid _ := hVV
  have HV : Hid _ := hV
  clear hrW hvW hzW hW hA e1 e2 h hgW hV hV6 hL hB hR hVV hVe hbW
  unfold ActR.ed zeroE at *
  go_enter Tryz.func101, Tryz.ntmps101
  go_upto_region 3 with fail
  rw [HW.out ()]
  clear HW c0 c1 c2 c3 c4 c5 c6 c7 c8
  go_upto_region 4 with fail
  have hh := HVE.out ()
  unfold six at hh
  rw [hh]
  clear hh HVE y0 y1 y2 y3 y4 y5 d0 d1 d2 d3 d4 d5 d6 d7 d8 df
  have hvv := HVV.out
  have x0 : V.cell? ⟨w.heap.size + 1, 0, none⟩ = some (.int .i64 o.before) := by rw [Lib.cell_of_heap hvv]; rfl
  have x1 : V.cell? ⟨w.heap.size + 1, 1, none⟩ = some (.int .i64 o.ek) := by rw [Lib.cell_of_heap hvv]; rfl
  have x2 : V.cell? ⟨w.heap.size + 1, 2, none⟩ = some (.int .i64 o.put) := by rw [Lib.cell_of_heap hvv]; rfl
  have x3 : V.cell? ⟨w.heap.size + 1, 3, none⟩ = some (.int .i64 o.frm) := by rw [Lib.cell_of_heap hvv]; rfl
  have x4 : V.cell? ⟨w.heap.size + 1, 4, none⟩ = some (.string o.name) := by rw [Lib.cell_of_heap hvv]; rfl
  have x5 : V.cell? ⟨w.heap.size + 1, 5, none⟩ = some (.string o.blob) := by rw [Lib.cell_of_heap hvv]; rfl
  have hrr := HR.out
  have r0 : V.cell? ⟨w.heap.size, 0, none⟩ = some (.int .i64 0) := by rw [Lib.cell_of_heap hrr]; rfl
  have r1 : V.cell? ⟨w.heap.size, 1, none⟩ = some (.int .i64 0) := by rw [Lib.cell_of_heap hrr]; rfl
  have r2 : V.cell? ⟨w.heap.size, 2, none⟩ = some (.int .i64 0) := by rw [Lib.cell_of_heap hrr]; rfl
  have r3 : V.cell? ⟨w.heap.size, 3, none⟩ = some (.int .i64 0) := by rw [Lib.cell_of_heap hrr]; rfl
  have r4 : V.cell? ⟨w.heap.size, 4, none⟩ = some (.string { data := #[] }) := by rw [Lib.cell_of_heap hrr]; rfl
  have r5 : V.cell? ⟨w.heap.size, 5, none⟩ = some (.string { data := #[] }) := by rw [Lib.cell_of_heap hrr]; rfl
  have rf : ∀ j, V.frozen? ⟨w.heap.size, j, none⟩ = false := fun j => Lib.frozen_of_heap hrr j
  have HF : Hid ((six V w.heap.size 0 (.int .i64 o.before) (.int .i64 o.ek) (.int .i64 o.put) (.int .i64 o.frm) (.string o.name) (.string o.blob)).heap[w.heap.size]? = some (.cells #[.int .i64 o.before, .int .i64 o.ek, .int .i64 o.put, .int .i64 o.frm, .string o.name, .string o.blob] 34 (0, 0))) := by
    show _ = _
    simp [six, World.setCell, Array.getElem?_modify, hrr]
  have HFF : Hid (Unit → ActAt (six V w.heap.size 0 (.int .i64 o.before) (.int .i64 o.ek) (.int .i64 o.put) (.int .i64 o.frm) (.string o.name) (.string o.blob)) g o.noEdit ∧ Below g w (six V w.heap.size 0 (.int .i64 o.before) (.int .i64 o.ek) (.int .i64 o.put) (.int .i64 o.frm) (.string o.name) (.string o.blob)) ∧ ∀ x b, LnS x b w → g ≠ b → LnS x b (six V w.heap.size 0 (.int .i64 o.before) (.int .i64 o.ek) (.int .i64 o.put) (.int .i64 o.frm) (.string o.name) (.string o.blob))) := fun _ =>
    ⟨(six_other _ _ _ _ _ _ _ _ _ _ (Nat.ne_of_lt hgl)).trans HV.out, below_six HB.out (Nat.le_of_lt hgl), fun x b hl hne => LnS.six (HL.out x b hl hne).1 ⟨_, hrr⟩ (by decide) (HL.out x b hl hne).2⟩
  clear hrr hvv
  go_wp2
  refine bodyPost_ret (results_cell1 rfl _ _ w.heap.size 34 _ (0, 0) _ rfl HF.out Tryz.underlying34 rfl sizeEd) rfl ?_
  exact ⟨rfl, HFF.out ()⟩

theorem stN_len (x : Bool × List UInt8) (L : List Int) (h : ∀ n ∈ L, I64 n) : (stN x L).2.length ≤ x.2.length + 21 * L.length := by
  have := nmL_len L h
  simp only [stN, List.length_append]
  omega
set_option maxRecDepth 20000 in
set_option maxHeartbeats 2000000 in
theorem writeEdit_any : WrA 59 (fun o x => stB (stB (stN x [o.before, o.ek, o.put, o.frm]) o.name) o.blob) (fun o => o.noEdit) := by
  intro o x b v w hok hl ho hvb ht hg hx
  have hT := takeE_any v o w ho
  have HE4 : Hid (∀ n ∈ [o.before, o.ek, o.put, o.frm], I64 n) := by
    show ∀ n ∈ _, _
    simp
    exact ⟨hok.before, hok.ek, hok.put, hok.frm⟩
  have hns := hok.name
  have hbs := hok.blob
  have HL0 : Hid (LnS x b w) := hl
  have HT0 : Hid (ITab w) := ht
  unfold ActR.ed at hT
  have h4l := stN_len x [o.before, o.ek, o.put, o.frm] HE4.out
  simp only [List.length_cons, List.length_nil] at h4l
  dsimp only
  obtain ⟨y, hy⟩ : ∃ y, stN x [o.before, o.ek, o.put, o.frm] = y := ⟨_, rfl⟩
  rw [hy] at h4l ⊢
  have hsl := stB_len y o.name
  obtain ⟨z, hz⟩ : ∃ z, stB y o.name = z := ⟨_, rfl⟩
  rw [hz] at hsl ⊢
  have HY : Hid (stN x [o.before, o.ek, o.put, o.frm] = y) := hy
  have HZ : Hid (stB y o.name = z) := hz
  clear hl ho ht hok hy hz
  go_enter Tryz.func59, Tryz.ntmps59
  go_wp2_with (go_at_call 101; refine hT.mono ?_)
  rintro e w1 ⟨rfl, ho1, hb1, hln1⟩
  clear hT
  have hl1 := hln1 x b HL0.out (Nat.ne_of_lt hvb)
  have ht1 := HT0.out.below hb1 hg
  clear hln1
  obtain ⟨W, hW⟩ : ∃ W, w1.alloc (.cells #[.int .i64 o.before, .int .i64 o.ek, .int .i64 o.put, .int .i64 o.frm, .string o.name, .string o.blob] 34) = W := ⟨_, rfl⟩
  have hA : Below w1.heap.size w1 W := by rw [← hW]; exact (Below.refl _ _).alloc (Nat.le_refl _) _
  have hWe : W.heap[w1.heap.size]? = some (.cells #[.int .i64 o.before, .int .i64 o.ek, .int .i64 o.put, .int .i64 o.frm, .string o.name, .string o.blob] 34 (0, 0)) := by rw [← hW]; exact heap_alloc_new _ _
  have hl2 := Bu.below hl1 hA
  have ho2 := ho1.below hA ho1.lt
  have ht2 := ht1.below hA ht1.lt
  have HB2 : Hid (Below v w W) := hb1.trans (hA.mono (Nat.le_of_lt ho1.lt))
  have hbw1 : b < w1.heap.size := hl1.lt
  have HW : Hid (Unit → _ = W) := fun _ => hW
  clear hW hl1 ht1 ho1
  have hWs : W.heap.size = w1.heap.size + 1 := by rw [← HW.out ()]; simp
  have hN := numbers_any x.1 b (w1.heap.size + 1) 4 4 [o.before, o.ek, o.put, o.frm] x.2 (W.alloc (.cells #[.int .i64 o.before, .int .i64 o.ek, .int .i64 o.put, .int .i64 o.frm] 3)) (Bu.below hl2 ((Below.refl W.heap.size W).alloc (Nat.le_refl _) _)) (ht2.below ((Below.refl W.heap.size W).alloc (Nat.le_refl _) _) ht2.lt) (Nat.lt_trans hg hvb) (by omega) (by have h := heap_alloc_new W (.cells #[.int .i64 o.before, .int .i64 o.ek, .int .i64 o.put, .int .i64 o.frm] 3); rw [hWs] at h; exact h) rfl HE4.out (by decide) (by omega)
  have hbA := (Below.refl W.heap.size W).alloc (Nat.le_refl _) (.cells #[.int .i64 o.before, .int .i64 o.ek, .int .i64 o.put, .int .i64 o.frm] 3)
  have ho3 := ho2.below hbA ho2.lt
  have hWe3 := (Lib.alloc_old W (.cells #[.int .i64 o.before, .int .i64 o.ek, .int .i64 o.put, .int .i64 o.frm] 3) w1.heap.size (by omega)).trans hWe
  have HB3 : Hid (Below v w (W.alloc (.cells #[.int .i64 o.before, .int .i64 o.ek, .int .i64 o.put, .int .i64 o.frm] 3))) := HB2.out.trans (hbA.mono (Nat.le_of_lt ho2.lt))
  have HO3 : Hid (ActAt _ v o.noEdit) := ho3
  have HWe3 : Hid _ := hWe3
  clear hbA ho3 hWe3 hWe hl2 ht2 ho2 hA
  go_upto_region 3 with fail
  rw [HW.out ()]
  clear HW
  refine hN.mono ?_
  rintro e w3 ⟨rfl, ⟨hu3, hb3⟩, hoth3⟩
  clear hN
  have hu3 : LnS y b w3 := by rw [← HY.out]; exact hu3
  have ho4 := HO3.out.below hb3 hvb
  have hWe4 := hoth3.cells (Nat.ne_of_gt hbw1) (by decide) HWe3.out
  have HB4 : Hid (Below v w w3) := HB3.out.trans (hb3.mono (Nat.le_of_lt hvb))
  have x4 : w3.cell? ⟨w1.heap.size, 4, none⟩ = some (.string o.name) := by rw [Lib.cell_of_heap hWe4]; rfl
  have hM := lbytes_any y.1 b y.2 o.name w3 hu3 (by omega) (by omega)
  have HWe4 : Hid _ := hWe4
  have HO4 : Hid (ActAt _ v o.noEdit) := ho4
  clear hWe4 ho4 hoth3 HB3 HO3 HWe3 HB2 HE4
  go_wp2_with (go_at_call 102; refine hM.mono ?_)
  rintro e w5 ⟨rfl, ⟨hu5, hb5⟩, hoth5⟩
  clear hM x4
  have hWe5 := hoth5.cells (Nat.ne_of_gt hbw1) (by decide) HWe4.out
  have x5 : w5.cell? ⟨w1.heap.size, 5, none⟩ = some (.string o.blob) := by rw [Lib.cell_of_heap hWe5]; rfl
  have hu5 : LnS z b w5 := by rw [← HZ.out]; exact hu5
  have HO5 : Hid (ActAt _ v o.noEdit) := HO4.out.below hb5 hvb
  have HB5 : Hid (Below v w w5) := HB4.out.trans (hb5.mono (Nat.le_of_lt hvb))
  have hM := lbytes_any z.1 b z.2 o.blob w5 hu5 (by omega) (by omega)
  clear hWe5 hoth5 HWe4 HO4
  go_wp2_with (go_at_call 102; refine hM.mono ?_)
  rintro e w6 ⟨rfl, ⟨hu6, hb6⟩, hoth6⟩
  clear hM
  go_wp2
  go_end0
  exact ⟨rfl, hu6, HO5.out.below hb6 hvb, HB5.out.trans (hb6.mono (Nat.le_of_lt hvb))⟩
end Go.Proofs.YtlmopjbfagijeaaGreatDoor.Sc

namespace Go.Proofs.YtlmopjbfagijeaaGreatDoor.Sc
open Go.RowKit Go.Lib Go.Deep
open Go.Proofs.YtlmopjbfagijeaaGreatDoor.Sq (See wpList_app see_own see_one owns_form owns_form2 one_new grown_base)

theorem infoOp : (Tryz.prog.info? 54).map (fun i => (i.zero, i.size, i.bytes)) = some (some (.agg #[.int .i64 0, .string { data := #[] }, .string { data := #[] }, .int .i64 0, .int .i64 0, .string { data := #[] }]), 6, 72) := by kernel_rfl
def opsC (L : List OpR) : List Value := L.flatMap fun o => o.cells.toList
def markO : OpR := ⟨77, { data := #[109, 97, 114, 107] }, nil_, 0, 0, nil_⟩
def twinL (L : List OpR) : List OpR := L ++ List.replicate 8 markO
theorem opsC_snoc (L : List OpR) (o : OpR) : opsC (L ++ [o]) = opsC L ++ o.cells.toList := by unfold opsC; simp
theorem opsC_one (L : List OpR) : ∀ u ∈ opsC L, u.oneCell' = true := by
  intro u hu
  unfold opsC at hu
  obtain ⟨o, _, ho⟩ := List.mem_flatMap.1 hu
  simp [OpR.cells] at ho
  rcases ho with rfl | rfl | rfl | rfl | rfl | rfl <;> rfl
theorem cells_one (o : OpR) : ∀ u ∈ o.cells.toList, u.oneCell' = true := fun u hu => opsC_one [o] u (by unfold opsC; simpa using hu)
set_option maxRecDepth 20000 in
set_option maxHeartbeats 1000000 in
theorem twinOps_any (a : Option Addr) (c : Nat) (L : List OpR) (hll : L.length ≤ 1048576) (w : World) (hs : SeeO w a L) : Calls Tryz.prog 23 #[.slice a L.length c] w fun e w' => ∃ g c', e = .returned (.slice (some ⟨g, 0, none⟩) (L.length + 8) c') ∧ w'.ownsRow w.heap.size 54 6 (.slice (some ⟨g, 0, none⟩) (L.length + 8) c') (L.length + 8) (opsC (twinL L)) ∧ Below w.heap.size w w' := by
  have HS : Hid (SeeO w a L) := hs
  obtain ⟨n, hn⟩ : ∃ n, L.length = n := ⟨_, rfl⟩
  have HN : Hid (L.length = n) := hn
  rw [hn] at hll ⊢
  clear hn hs
  go_enter Tryz.func23, Tryz.ntmps23
  go_wp2_with fail
  go_loopg [3, 4] n (fun gk bv iv wr => ∃ (k : Nat) (ba : Option Addr) (bc : Nat), k + gk = n ∧ iv = .int .i64 (k : Int) ∧ bv = .slice ba k bc ∧ Hid (wr.ownsRow w.heap.size 54 6 (.slice ba k bc) k (opsC (L.take k))) ∧ Hid (Below w.heap.size w wr))
  case atStart => exact ⟨0, none, 0, by omega, rfl, rfl, ⟨by simp [opsC], .inl ⟨rfl, rfl⟩⟩, Below.refl _ _⟩
  case round =>
    obtain ⟨k, ba, bc, hk, rfl, rfl, HB, HW⟩ := hrel
    have HKG : Hid (k + gk = n) := hk
    have hkn : k ≤ n := by omega
    clear hk
    by_cases hlt : k < n
    · have hltI : (k : Int) < (n : Int) := by omega
      obtain ⟨x, hx⟩ : ∃ x, L[k]? = some x := ⟨_, List.getElem?_eq_getElem (by have := HN.out; omega)⟩
      obtain ⟨g1, o1, rfl, hbl, hcells⟩ := HS.out (by intro e; rw [e] at hx; cases hx)
      obtain ⟨r0, r1, r2, r3, r4, r5⟩ := (hcells k x hx).below HW.out hbl
      have HX : Hid (L[k]? = some x) := hx
      obtain ⟨W8, hW8, f3, -⟩ := one_new wr #[.int .i64 x.kind, .string x.path, .string x.to, .int .i64 x.at_, .int .i64 x.n, .string x.data] 54
      have f2 : See (wr.alloc (.cells #[.int .i64 x.kind, .string x.path, .string x.to, .int .i64 x.at_, .int .i64 x.n, .string x.data] 54)) 6 (.slice (some ⟨wr.heap.size, 0, none⟩) 1 1) 1 x.cells.toList := see_one rfl (cells_one _)
      have f1 := HB.out.alloc (.cells #[.int .i64 x.kind, .string x.path, .string x.to, .int .i64 x.at_, .int .i64 x.n, .string x.data] 54)
      rw [hW8] at f1 f2
      have HO8 : Hid (W8.ownsRow w.heap.size 54 6 (.slice ba k bc) k (opsC (L.take k))) := f1
      have HNW : Hid (See W8 6 (.slice (some ⟨wr.heap.size, 0, none⟩) 1 1) 1 x.cells.toList) := f2
      have hz : k + 1 ≤ maxLen ∧ (k + 1) * 72 ≤ 140737488355328 ∧ w.heap.size ≤ W8.heap.size := ⟨by unfold maxLen; omega, by omega, Nat.le_trans HW.out.size f3.size⟩
      have HBW : Hid (Below w.heap.size w W8) := HW.out.trans (f3.mono HW.out.size)
      clear f1 f2 f3
      clear hx hcells
      go_wp2_with (first | (at_builtin; (try rw [hW8]); refine wpList_app rfl _ _ 32 54 rfl _ 6 72 Tryz.underlying32 infoOp rfl (by decide) w.heap.size _ _ k 1 _ _ rfl HO8.out rfl HNW.out hz.1 hz.2.1 hz.2.2 ?_; intro v' w3 hown3 hgrow3; obtain ⟨a3, c3, rfl⟩ := owns_form hown3; have HO3 : Hid _ := hown3; have HG3 : Hid _ := hgrow3; clear hown3 hgrow3) | go_in)
      go_roundg (gk - 1)
      case measure => have := HKG.out; omega
      case rel =>
        refine ⟨k + 1, a3, c3, by have := HKG.out; omega, by go_num, rfl, ?_, HBW.out.trans (grown_base HG3.out hz.2.2 HO8.out)⟩
        have e : L.take (k + 1) = L.take k ++ [x] := by rw [List.take_add_one, HX.out]; rfl
        rw [e, opsC_snoc]
        exact HO3.out
    · obtain rfl : k = n := by omega
      have hltI : ¬ (k : Int) < (k : Int) := by omega
      have HB2 : Hid (wr.ownsRow w.heap.size 54 6 (.slice ba k bc) k (opsC L)) := by
        have h := HB.out
        rw [List.take_of_length_le (by have := HN.out; omega)] at h
        exact h
      have HW2 : Hid (Below w.heap.size w wr) := HW.out
      clear HB HW HKG
      generalize wr = wq at HB2 HW2 ⊢
      go_wp2_with fail
      go_loopg [3, 5] 8 (fun gk bv iv wr => ∃ (m q : Nat) (ba : Option Addr) (bc : Nat), m + gk = 8 ∧ q = k + m ∧ iv = .int .i64 (m : Int) ∧ bv = .slice ba q bc ∧ Hid (wr.ownsRow w.heap.size 54 6 (.slice ba q bc) q (opsC (L ++ List.replicate m markO))) ∧ Hid (Below w.heap.size w wr))
      case atStart => exact ⟨0, k, ba, bc, by omega, by omega, rfl, rfl, by have h := HB2.out; rw [List.replicate_zero, List.append_nil]; exact h, HW2.out⟩
      case round =>
        clear HB2 HW2
        obtain ⟨m, q, ba, bc, hm, hq, rfl, rfl, HB, HW⟩ := hrel
        have HMG : Hid (m + gk = 8) := hm
        have HQ : Hid (q = k + m) := hq
        have hm8 : m ≤ 8 := by omega
        have hqb : q ≤ 1048584 := by omega
        clear hm hq
        by_cases hlm : m < 8
        · have hlmI : (m : Int) < 8 := by omega
          obtain ⟨W8, hW8, f3, -⟩ := one_new wr #[.int .i64 77, .string { data := #[109, 97, 114, 107] }, .string { data := #[] }, .int .i64 0, .int .i64 0, .string { data := #[] }] 54
          have f2 : See (wr.alloc (.cells #[.int .i64 77, .string { data := #[109, 97, 114, 107] }, .string { data := #[] }, .int .i64 0, .int .i64 0, .string { data := #[] }] 54)) 6 (.slice (some ⟨wr.heap.size, 0, none⟩) 1 1) 1 markO.cells.toList := see_one rfl (cells_one markO)
          have f1 := HB.out.alloc (.cells #[.int .i64 77, .string { data := #[109, 97, 114, 107] }, .string { data := #[] }, .int .i64 0, .int .i64 0, .string { data := #[] }] 54)
          rw [hW8] at f1 f2
          have HO8 : Hid (W8.ownsRow w.heap.size 54 6 (.slice ba q bc) q (opsC (L ++ List.replicate m markO))) := f1
          have HNW : Hid (See W8 6 (.slice (some ⟨wr.heap.size, 0, none⟩) 1 1) 1 markO.cells.toList) := f2
          have hz : q + 1 ≤ maxLen ∧ (q + 1) * 72 ≤ 140737488355328 ∧ w.heap.size ≤ W8.heap.size := ⟨by unfold maxLen; omega, by omega, Nat.le_trans HW.out.size f3.size⟩
          have HBW : Hid (Below w.heap.size w W8) := HW.out.trans (f3.mono HW.out.size)
          clear f1 f2 f3
          go_wp2_with (first | (at_builtin; (try rw [hW8]); refine wpList_app rfl _ _ 32 54 rfl _ 6 72 Tryz.underlying32 infoOp rfl (by decide) w.heap.size _ _ q 1 _ _ rfl HO8.out rfl HNW.out hz.1 hz.2.1 hz.2.2 ?_; intro v' w3 hown3 hgrow3; obtain ⟨a3, c3, rfl⟩ := owns_form hown3; have HO3 : Hid _ := hown3; have HG3 : Hid _ := hgrow3; clear hown3 hgrow3) | go_in)
          go_roundg (gk - 1)
          case measure => have := HMG.out; omega
          case rel =>
            refine ⟨m + 1, q + 1, a3, c3, by have := HMG.out; omega, by have := HQ.out; omega, by go_num, rfl, ?_, HBW.out.trans (grown_base HG3.out hz.2.2 HO8.out)⟩
            rw [show L ++ List.replicate (m + 1) markO = (L ++ List.replicate m markO) ++ [markO] by rw [List.replicate_succ', List.append_assoc], opsC_snoc]
            exact HO3.out
        · obtain rfl : m = 8 := by omega
          have hlmI : ¬ ((8 : Nat) : Int) < 8 := by decide
          have HQ8 : Hid (q = k + 8) := HQ.out
          go_wp2
          go_ret
          have h := HB.out
          have hq := HQ8.out
          subst hq
          obtain ⟨g, c', hgc⟩ := owns_form2 h (by omega)
          injection hgc with e1 _ e3
          subst e1 e3
          exact ⟨g, bc, rfl, h, HW.out⟩
end Go.Proofs.YtlmopjbfagijeaaGreatDoor.Sc
