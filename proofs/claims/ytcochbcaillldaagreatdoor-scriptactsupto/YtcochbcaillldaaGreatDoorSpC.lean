import Derived.Test.YtcochbcaillldaaGreatDoorSpA
namespace Go.Proofs.YtcochbcaillldaaGreatDoor.Sc
open Go.RowKit Go.Lib Go.Deep

/-- an operation -/
structure OpR where
  kind : Int
  path : ByteArray
  to : ByteArray
  at_ : Int
  n : Int
  data : ByteArray
def OpR.cells (o : OpR) : Array Value := #[.int .i64 o.kind, .string o.path, .string o.to, .int .i64 o.at_, .int .i64 o.n, .string o.data]
structure OpR.Ok (o : OpR) : Prop where
  kind : I64 o.kind
  at_ : I64 o.at_
  n : I64 o.n
  path : o.path.size ≤ 1048576
  to : o.to.size ≤ 1048576
  data : o.data.size ≤ 1048576
/-- an operation in a block of its own -/
def OpAt (w : World) (g : Nat) (o : OpR) : Prop := w.heap[g]? = some (.cells o.cells 54 (0, 0))
theorem OpAt.six {w : World} {g : Nat} {o : OpR} (h : OpAt w g o) : w.cell? ⟨g, 0, none⟩ = some (.int .i64 o.kind) ∧ w.cell? ⟨g, 1, none⟩ = some (.string o.path) ∧ w.cell? ⟨g, 2, none⟩ = some (.string o.to) ∧ w.cell? ⟨g, 3, none⟩ = some (.int .i64 o.at_) ∧ w.cell? ⟨g, 4, none⟩ = some (.int .i64 o.n) ∧ w.cell? ⟨g, 5, none⟩ = some (.string o.data) := by
  refine ⟨?_, ?_, ?_, ?_, ?_, ?_⟩ <;> (rw [Lib.cell_of_heap h]; rfl)
theorem OpAt.frozen {w : World} {g : Nat} {o : OpR} (h : OpAt w g o) (j : Nat) : w.frozen? ⟨g, j, none⟩ = false := Lib.frozen_of_heap h j
theorem OpAt.below {w w' : World} {g B : Nat} {o : OpR} (h : OpAt w g o) (hb : Below B w w') (hg : g < B) : OpAt w' g o := (hb.block _ hg).trans h
theorem OpAt.lt {w : World} {g : Nat} {o : OpR} (h : OpAt w g o) : g < w.heap.size := (Array.getElem?_eq_some_iff.1 h).1
def nil_ : ByteArray := { data := #[] }
theorem OpAt.set1 {w : World} {g : Nat} {o : OpR} (h : OpAt w g o) : OpAt (w.setCell ⟨g, 1, none⟩ (.string { data := #[] })) g { o with path := nil_ } := by
  unfold OpAt at h ⊢
  simp [World.setCell, Array.getElem?_modify, h, OpR.cells, nil_]
theorem OpAt.set2 {w : World} {g : Nat} {o : OpR} (h : OpAt w g o) : OpAt (w.setCell ⟨g, 2, none⟩ (.string { data := #[] })) g { o with to := nil_ } := by
  unfold OpAt at h ⊢
  simp [World.setCell, Array.getElem?_modify, h, OpR.cells, nil_]
theorem OpAt.set3 {w : World} {g : Nat} {o : OpR} (h : OpAt w g o) : OpAt (w.setCell ⟨g, 3, none⟩ (.int .i64 0)) g { o with at_ := 0 } := by
  unfold OpAt at h ⊢
  simp [World.setCell, Array.getElem?_modify, h, OpR.cells]
theorem OpAt.set4 {w : World} {g : Nat} {o : OpR} (h : OpAt w g o) : OpAt (w.setCell ⟨g, 4, none⟩ (.int .i64 0)) g { o with n := 0 } := by
  unfold OpAt at h ⊢
  simp [World.setCell, Array.getElem?_modify, h, OpR.cells]
theorem OpAt.set5 {w : World} {g : Nat} {o : OpR} (h : OpAt w g o) : OpAt (w.setCell ⟨g, 5, none⟩ (.string { data := #[] })) g { o with data := nil_ } := by
  unfold OpAt at h ⊢
  simp [World.setCell, Array.getElem?_modify, h, OpR.cells, nil_]
/-- a line stays where another block's cell is set -/
theorem LnS.set {x : Bool × List UInt8} {b g i : Nat} {w : World} {o : OpR} {v : Value} (h : LnS x b w) (ho : OpAt w g o) (hg : g ≠ b) : LnS x b (w.setCell ⟨g, i, none⟩ v) := by
  have key : ∀ p, BuAt 125 [.bool x.1] b b p x.2 w → BuAt 125 [.bool x.1] b b p x.2 (w.setCell ⟨g, i, none⟩ v) := fun p h => by
    obtain ⟨hB, v', hb, hown, hne, hn0⟩ := h
    refine ⟨hB, v', (Below.heap_setCell _ _ _ _ (Ne.symm hg)).trans hb, ?_, hne, hn0⟩
    refine hown.kept (row := some g) ⟨rfl, rfl, rfl, by simp [World.setCell], fun k _ hk => Below.heap_setCell _ _ _ _ (fun e => hk (by simp [e]))⟩ (Or.inr ?_)
    exact ownBlock_ne hown ho (by decide)
  exact h.elim (fun x => .inl (key _ x)) (fun x => .inr (key _ x))

/-- what the functions that write a line say -/
def Wr (f : FuncId) (g : OpR → Bool × List UInt8 → Bool × List UInt8) (r : OpR → OpR) : Prop :=
  ∀ (o : OpR) (x : Bool × List UInt8) (b v : Nat) (w : World), o.Ok → LnS x b w → OpAt w v o → v < b → ITab w → 3 < v → x.2.length ≤ 1048576 →
    Calls Tryz.prog f #[.pointer (some ⟨b, 0, none⟩), .pointer (some ⟨v, 0, none⟩)] w fun e w' => e = .returned (.tuple #[]) ∧ LnS (g o x) b w' ∧ OpAt w' v (r o) ∧ Below v w w'

def stN (x : Bool × List UInt8) (L : List Int) : Bool × List UInt8 := (x.1, x.2 ++ nmL L)
theorem stB_len (x : Bool × List UInt8) (s : ByteArray) : (stB x s).2.length ≤ x.2.length + 2 + 3 * s.size := by
  unfold stB
  split
  · simp only; omega
  · have := byL_len s
    simp only [List.length_append, List.length_cons]
    omega

set_option maxRecDepth 20000 in
set_option maxHeartbeats 1000000 in
theorem writePath_any : Wr 77 (fun o x => stB x o.path) (fun o => { o with path := nil_ }) := by
  intro o x b v w hok hl ho hvb ht hg hx
  obtain ⟨c0, c1, c2, c3, c4, c5⟩ := ho.six
  have h1 := takeS_any v 1 o.path w c1 (ho.frozen 1)
  have hl2 := hl.set (i := 1) (v := .string { data := #[] }) ho (Nat.ne_of_lt hvb)
  have h2 := lbytes_any x.1 b x.2 o.path _ hl2 (by have := hok.path; omega) (by omega)
  have ho2 := ho.set1
  have hb1 : Below v w (w.setCell ⟨v, 1, none⟩ (.string { data := #[] })) := (Below.refl v w).setCell (p := ⟨v, 1, none⟩) (Nat.le_refl _) _
  obtain ⟨W, hW⟩ : ∃ W, w.setCell ⟨v, 1, none⟩ (.string { data := #[] }) = W := ⟨_, rfl⟩
  rw [hW] at h1 h2 ho2 hb1
  clear c0 c1 c2 c3 c4 c5 hl2 hW
  go_enter Tryz.func77, Tryz.ntmps77
  go_wp2_with (first | (go_at_call 102; refine h2'.mono ?_; rintro e w2 ⟨rfl, ⟨hu2, hb2⟩, ho3⟩; clear h2') | (go_at_call 120; refine h1.mono ?_; rintro e w1 ⟨rfl, rfl⟩; clear h1; have h2' := h2))
  go_wp2
  go_end0
  exact ⟨rfl, hu2, ho2.below hb2 hvb, hb1.trans (hb2.mono (Nat.le_of_lt hvb))⟩
end Go.Proofs.YtcochbcaillldaaGreatDoor.Sc
