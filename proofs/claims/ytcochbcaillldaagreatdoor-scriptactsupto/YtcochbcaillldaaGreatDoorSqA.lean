import Derived.Test.YtcochbcaillldaaGreatDoorSpG
namespace Go.Proofs.YtcochbcaillldaaGreatDoor.Sc
open Go.RowKit Go.Lib Go.Deep

/-- an act -/
structure ActR where
  kind : Int
  ops : Option Addr
  nops : Nat
  cops : Nat
  i : Int
  before : Int
  ek : Int
  put : Int
  frm : Int
  name : ByteArray
  blob : ByteArray
def ActR.cells (a : ActR) : Array Value := #[.int .i64 a.kind, .slice a.ops a.nops a.cops, .int .i64 a.i, .int .i64 a.before, .int .i64 a.ek, .int .i64 a.put, .int .i64 a.frm, .string a.name, .string a.blob]
def ActR.val (a : ActR) : Value := .agg a.cells
def ActR.ed (a : ActR) : Array Value := #[.int .i64 a.before, .int .i64 a.ek, .int .i64 a.put, .int .i64 a.frm, .string a.name, .string a.blob]
structure ActR.Ok (a : ActR) : Prop where
  kind : I64 a.kind
  i : I64 a.i
  before : I64 a.before
  ek : I64 a.ek
  put : I64 a.put
  frm : I64 a.frm
  name : a.name.size ≤ 1048576
  blob : a.blob.size ≤ 1048576
/-- an act in a block of its own -/
def ActAt (w : World) (g : Nat) (a : ActR) : Prop := w.heap[g]? = some (.cells a.cells 36 (0, 0))
theorem ActAt.nine {w : World} {g : Nat} {a : ActR} (h : ActAt w g a) : w.cell? ⟨g, 0, none⟩ = some (.int .i64 a.kind) ∧ w.cell? ⟨g, 1, none⟩ = some (.slice a.ops a.nops a.cops) ∧ w.cell? ⟨g, 2, none⟩ = some (.int .i64 a.i) ∧ w.cell? ⟨g, 3, none⟩ = some (.int .i64 a.before) ∧ w.cell? ⟨g, 4, none⟩ = some (.int .i64 a.ek) ∧ w.cell? ⟨g, 5, none⟩ = some (.int .i64 a.put) ∧ w.cell? ⟨g, 6, none⟩ = some (.int .i64 a.frm) ∧ w.cell? ⟨g, 7, none⟩ = some (.string a.name) ∧ w.cell? ⟨g, 8, none⟩ = some (.string a.blob) := by
  refine ⟨?_, ?_, ?_, ?_, ?_, ?_, ?_, ?_, ?_⟩ <;> (rw [Lib.cell_of_heap h]; rfl)
theorem ActAt.frozen {w : World} {g : Nat} {a : ActR} (h : ActAt w g a) (j : Nat) : w.frozen? ⟨g, j, none⟩ = false := Lib.frozen_of_heap h j
theorem ActAt.below {w w' : World} {g B : Nat} {a : ActR} (h : ActAt w g a) (hb : Below B w w') (hg : g < B) : ActAt w' g a := (hb.block _ hg).trans h
theorem ActAt.lt {w : World} {g : Nat} {a : ActR} (h : ActAt w g a) : g < w.heap.size := (Array.getElem?_eq_some_iff.1 h).1
theorem ActAt.set1 {w : World} {g : Nat} {a : ActR} (h : ActAt w g a) : ActAt (w.setCell ⟨g, 1, none⟩ (.slice none 0 0)) g { a with ops := none, nops := 0, cops := 0 } := by
  unfold ActAt at h ⊢
  simp [World.setCell, Array.getElem?_modify, h, ActR.cells]
theorem ActAt.set2 {w : World} {g : Nat} {a : ActR} (h : ActAt w g a) : ActAt (w.setCell ⟨g, 2, none⟩ (.int .i64 0)) g { a with i := 0 } := by
  unfold ActAt at h ⊢
  simp [World.setCell, Array.getElem?_modify, h, ActR.cells]
def ActR.noEdit (a : ActR) : ActR := { a with before := 0, ek := 0, put := 0, frm := 0, name := nil_, blob := nil_ }
theorem ActAt.set6 {w : World} {g : Nat} {a : ActR} (h : ActAt w g a) : ActAt ((((((w.setCell ⟨g, 3, none⟩ (.int .i64 0)).setCell ⟨g, 4, none⟩ (.int .i64 0)).setCell ⟨g, 5, none⟩ (.int .i64 0)).setCell ⟨g, 6, none⟩ (.int .i64 0)).setCell ⟨g, 7, none⟩ (.string { data := #[] })).setCell ⟨g, 8, none⟩ (.string { data := #[] })) g a.noEdit := by
  unfold ActAt at h ⊢
  simp [World.setCell, Array.getElem?_modify, h, ActR.cells, ActR.noEdit, nil_]
/-- a line stays where another block's cell is set -/
theorem LnS.setA {x : Bool × List UInt8} {b g i : Nat} {w : World} {o : ActR} {v : Value} (h : LnS x b w) (ho : ActAt w g o) (hg : g ≠ b) : LnS x b (w.setCell ⟨g, i, none⟩ v) := by
  have key : ∀ p, BuAt 125 [.bool x.1] b b p x.2 w → BuAt 125 [.bool x.1] b b p x.2 (w.setCell ⟨g, i, none⟩ v) := fun p h => by
    obtain ⟨hB, v', hb, hown, hne, hn0⟩ := h
    refine ⟨hB, v', (Below.heap_setCell _ _ _ _ (Ne.symm hg)).trans hb, ?_, hne, hn0⟩
    refine hown.kept (row := some g) ⟨rfl, rfl, rfl, by simp [World.setCell], fun k _ hk => Below.heap_setCell _ _ _ _ (fun e => hk (by simp [e]))⟩ (Or.inr ?_)
    exact ownBlock_ne hown ho (by decide)
  exact h.elim (fun x => .inl (key _ x)) (fun x => .inr (key _ x))

set_option maxRecDepth 20000 in
set_option maxHeartbeats 1000000 in
theorem takeO_any (b o : Nat) (a : Option Addr) (n c : Nat) (w : World) (h : w.cell? ⟨b, o, none⟩ = some (.slice a n c)) (hf : w.frozen? ⟨b, o, none⟩ = false) :
    Calls Tryz.prog 98 #[.pointer (some ⟨b, o, none⟩)] w fun e w' => e = .returned (.slice a n c) ∧ w' = w.setCell ⟨b, o, none⟩ (.slice none 0 0) := by
  go_enter Tryz.func98, Tryz.ntmps98
  go_wp2
  go_ret
  exact ⟨rfl, rfl⟩

def actTab : List Fm := [⟨1, { data := #[102, 111, 114, 109, 97, 116] }, 1, 54, 55⟩, ⟨2, { data := #[114, 101, 99, 111, 118, 101, 114] }, 1, 54, 55⟩, ⟨5, { data := #[112, 111, 119, 101, 114] }, 1, 54, 55⟩, ⟨3, { data := #[98, 97, 116, 99, 104] }, 1, 56, 55⟩, ⟨4, { data := #[102, 117, 115, 101] }, 2, 57, 58⟩, ⟨6, { data := #[101, 100, 105, 116] }, 7, 59, 60⟩]

set_option maxRecDepth 20000 in
set_option maxHeartbeats 1000000 in
theorem acts_any (w : World) :
    Calls Tryz.prog 25 #[] w fun e w' => e = .returned (.slice (some ⟨w.heap.size, 0, none⟩) 6 6) ∧ w' = w.alloc (.cells (tabC actTab) 110) := by
  go_enter Tryz.func25, Tryz.ntmps25
  go_wp2_with fail
  go_ret
  exact ⟨rfl, rfl⟩

/-- what the functions that write an act's line say -/
def WrA (f : FuncId) (g : ActR → Bool × List UInt8 → Bool × List UInt8) (r : ActR → ActR) : Prop :=
  ∀ (o : ActR) (x : Bool × List UInt8) (b v : Nat) (w : World), o.Ok → LnS x b w → ActAt w v o → v < b → ITab w → 3 < v → x.2.length ≤ 1048576 →
    Calls Tryz.prog f #[.pointer (some ⟨b, 0, none⟩), .pointer (some ⟨v, 0, none⟩)] w fun e w' => e = .returned (.tuple #[]) ∧ LnS (g o x) b w' ∧ ActAt w' v (r o) ∧ Below v w w'

set_option maxRecDepth 20000 in
set_option maxHeartbeats 1000000 in
theorem writeAlone_any : WrA 54 (fun _ x => x) (fun o => o) := by
  intro o x b v w hok hl ho hvb ht hg hx
  go_enter Tryz.func54, Tryz.ntmps54
  go_wp2
  go_end0
  exact ⟨rfl, hl, ho, Below.refl _ _⟩

set_option maxRecDepth 20000 in
set_option maxHeartbeats 1000000 in
theorem writeBatch_any : WrA 56 (fun _ x => x) (fun o => { o with ops := none, nops := 0, cops := 0 }) := by
  intro o x b v w hok hl ho hvb ht hg hx
  obtain ⟨c0, c1, c2, c3, c4, c5, c6, c7, c8⟩ := ho.nine
  have h1 := takeO_any v 1 o.ops o.nops o.cops w c1 (ho.frozen 1)
  have hl2 := hl.setA (i := 1) (v := .slice none 0 0) ho (Nat.ne_of_lt hvb)
  have ho2 := ho.set1
  have hb1 : Below v w (w.setCell ⟨v, 1, none⟩ (.slice none 0 0)) := (Below.refl v w).setCell (p := ⟨v, 1, none⟩) (Nat.le_refl _) _
  clear c0 c1 c2 c3 c4 c5 c6 c7 c8
  go_enter Tryz.func56, Tryz.ntmps56
  go_wp2_with (go_at_call 98; refine h1.mono ?_; rintro e w1 ⟨rfl, rfl⟩; clear h1)
  go_wp2
  go_end0
  exact ⟨rfl, hl2, ho2, hb1⟩

set_option maxRecDepth 20000 in
set_option maxHeartbeats 1000000 in
theorem writeFuse_any : WrA 57 (fun o x => stN x [o.i]) (fun o => { o with i := 0 }) := by
  intro o x b v w hok hl ho hvb ht hg hx
  obtain ⟨c0, c1, c2, c3, c4, c5, c6, c7, c8⟩ := ho.nine
  have hT := takeI_any v 2 o.i w c2 (ho.frozen 2)
  have hl2 := hl.setA (i := 2) (v := .int .i64 0) ho (Nat.ne_of_lt hvb)
  have ho2 := ho.set2
  have hb1 : Below v w (w.setCell ⟨v, 2, none⟩ (.int .i64 0)) := (Below.refl v w).setCell (p := ⟨v, 2, none⟩) (Nat.le_refl _) _
  have ht2 := ht.below hb1 hg
  obtain ⟨W, hW⟩ : ∃ W, w.setCell ⟨v, 2, none⟩ (.int .i64 0) = W := ⟨_, rfl⟩
  rw [hW] at hT hl2 ho2 hb1 ht2
  have hA := (Below.refl W.heap.size W).alloc (Nat.le_refl _) (.cells #[.int .i64 o.i] 3)
  have hN := numbers_any x.1 b W.heap.size 1 1 [o.i] x.2 _ (hl2.below hA) (ht2.below hA ht2.lt) (Nat.lt_trans hg hvb) (Nat.ne_of_gt hl2.lt) (heap_alloc_new _ _) rfl (by simp; exact hok.i) (by decide) (by omega)
  clear c0 c1 c2 c3 c4 c5 c6 c7 c8 hl ho hW
  go_enter Tryz.func57, Tryz.ntmps57
  go_wp2_with (first | (go_at_call 70; refine hN'.mono ?_; rintro e w3 ⟨rfl, ⟨hu3, hb3⟩, ho3⟩; clear hN') | (go_at_call 99; refine hT.mono ?_; rintro e w2 ⟨rfl, rfl⟩; clear hT; have hN' := hN))
  go_wp2
  go_end0
  exact ⟨rfl, hu3, (ho2.below hA ho2.lt).below hb3 hvb, hb1.trans ((hA.mono (Nat.le_of_lt ho2.lt)).trans (hb3.mono (Nat.le_of_lt hvb)))⟩
end Go.Proofs.YtcochbcaillldaaGreatDoor.Sc
