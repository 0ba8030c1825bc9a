import Derived.Test.YtlmopjbfagijeaaGreatDoorYbM
namespace Go.Proofs.YtlmopjbfagijeaaGreatDoor.Sc
open Go.RowKit Go.Lib Go.Deep

theorem ln_cells {lg : Bool} {b : Nat} {l : List UInt8} {w : World} (h : Ln lg b l w) : ∃ p v, w.heap[b]? = some (.cells #[p, v, .bool lg] 125 (0, 0)) := by
  obtain ⟨v, p, h⟩ := h.there
  exact ⟨p, v, h⟩
/-- a line that became too long -/
theorem ln_long {lg : Bool} {b : Nat} {l : List UInt8} {w : World} (h : Ln lg b l w) : Ln true b l (w.setCell ⟨b, 2, none⟩ (.bool true)) := by
  have key : ∀ p, BuAt 125 [.bool lg] b b p l w → BuAt 125 [.bool true] b b p l (w.setCell ⟨b, 2, none⟩ (.bool true)) := fun p h => by
    obtain ⟨hB, v, hb, hown, hne, hn0⟩ := h
    refine ⟨hB, v, ?_, ?_, hne, hn0⟩
    · simp [World.setCell, Array.getElem?_modify, hb]
    · exact hown.kept (row := some b) ⟨rfl, rfl, rfl, by simp [World.setCell], fun k _ hk => Below.heap_setCell _ _ _ _ (fun e => hk (by simp [e]))⟩ (Or.inr hne)
  exact h.elim (fun x => .inl (key _ x)) (fun x => .inr (key _ x))

set_option maxRecDepth 20000 in
set_option maxHeartbeats 1000000 in
theorem blen_any {T : TypeId} {rest : List Value} (B b : Nat) (l : List UInt8) (w : World) (h : Bu T rest B b l w) :
    Calls Tryz.prog 97 #[.pointer (some ⟨b, 0, none⟩)] w fun e w' => e = .returned (.int .i64 l.length) ∧ w' = w := by
  obtain ⟨p, hB, v, hbk, hown, hne, hn0⟩ := h.at
  clear h
  obtain ⟨ao, cap, rfl⟩ : ∃ ao cap, v = .slice ao l.length cap := by
    rcases hown.2 with ⟨hv, h0⟩ | ⟨g, cap, cur, hv, _⟩
    · exact ⟨none, 0, by rw [hv, h0]⟩
    · exact ⟨_, _, hv⟩
  have c1 : w.cell? ⟨b, 1, none⟩ = some (.slice ao l.length cap) := by rw [Lib.cell_of_heap hbk]; simp
  clear hn0 hown hbk
  go_enter Tryz.func97, Tryz.ntmps97
  go_wp2
  go_ret
  exact ⟨rfl, rfl⟩

/-- a line's state behind a byte word: unless its text is too long by itself -/
def stB (x : Bool × List UInt8) (s : ByteArray) : Bool × List UInt8 := if 262144 < s.size then (true, x.2) else (x.1, x.2 ++ 32 :: byL s)
abbrev LnS (x : Bool × List UInt8) (b : Nat) (w : World) : Prop := Ln x.1 b x.2 w


set_option maxRecDepth 20000 in
set_option maxHeartbeats 1000000 in
theorem lbytes_any (lg : Bool) (b : Nat) (l : List UInt8) (s : ByteArray) (w : World) (h : Ln lg b l w) (hs : s.size ≤ 8388608) (hl : l.length ≤ 1099511627776) :
    Calls Tryz.prog 102 #[.pointer (some ⟨b, 0, none⟩), .string s] w fun e w' => e = .returned (.tuple #[]) ∧ (LnS (stB (lg, l) s) b w' ∧ Below b w w') ∧ Oth b w w' := by
  obtain ⟨p, v, hcl⟩ := ln_cells h
  have c2 : w.cell? ⟨b, 2, none⟩ = some (.bool lg) := by rw [Lib.cell_of_heap hcl]; rfl
  have f2 : w.frozen? ⟨b, 2, none⟩ = false := Lib.frozen_of_heap hcl 2
  have hW : Calls Tryz.prog 108 #[.pointer (some ⟨b, 0, none⟩), .string s, .func (.func 133) #[] #[]] w fun e w' => e = .returned (.tuple #[]) ∧ (LnS (stB (lg, l) s) b w' ∧ Below b w w') ∧ Oth b w w' := by
    by_cases hb : 262144 < s.size
    · have hbI : (262144 : Int) < (s.size : Int) := by omega
      have HL : Hid (Ln true b l (w.setCell ⟨b, 2, none⟩ (.bool true))) := ln_long h
      rw [show stB (lg, l) s = (true, l) from if_pos hb]
      clear h hcl
      go_enter Tryz.func108, Tryz.ntmps108
      go_wp2
      refine bodyPost_ret (results_none rfl _ _ _) rfl ?_
      exact ⟨rfl, ⟨HL.out, (Below.refl b w).setCell (p := ⟨b, 2, none⟩) (Nat.le_refl _) _⟩, fun k o hk _ h0 => (Below.heap_setCell _ _ _ _ hk).trans h0⟩
    · have hbI : ¬ (262144 : Int) < (s.size : Int) := by omega
      rw [show stB (lg, l) s = (lg, l ++ 32 :: byL s) from if_neg hb]
      have h1 := byteWord_any s (by omega) w
      have hyl := byL_len s
      go_enter Tryz.func108, Tryz.ntmps108
      go_wp2_with (go_at_call 133; refine h1.mono ?_; rintro e w1 ⟨rfl, hb1⟩; clear h1)
      have h2 := word_any lg b l (str (byL s)) w1 (h.below hb1) (by rw [str_size]; omega)
      rw [str_data] at h2
      go_wp2_with (go_at_call 67; refine h2.mono ?_; rintro e w2 ⟨rfl, ⟨hu2, hb2⟩, ho2⟩; clear h2)
      go_wp2
      go_end0
      exact ⟨rfl, ⟨hu2, (hb1.mono (Nat.le_of_lt h.lt)).trans hb2⟩, (Oth.below hb1).trans ho2⟩
  clear c2 f2 hcl
  go_enter Tryz.func102, Tryz.ntmps102
  go_wp2_with (go_at_call 108; refine hW.mono ?_; rintro e w1 ⟨rfl, hx, ho⟩; clear hW)
  go_end0
  exact ⟨rfl, hx, ho⟩

set_option maxRecDepth 20000 in
set_option maxHeartbeats 1000000 in
/-- a line that is done -/
theorem done_any (lg : Bool) (b : Nat) (l : List UInt8) (w : World) (h : Ln lg b l w) (hl : l.length ≤ 1099511627776) :
    Calls Tryz.prog 53 #[.pointer (some ⟨b, 0, none⟩)] w fun e w' => e = .returned (if lg = true ∨ 262144 < l.length then .tuple #[.string { data := #[] }, .int .i64 221] else .tuple #[.string (str l), .int .i64 0]) ∧ Below b w w' := by
  obtain ⟨p, v, hcl⟩ := ln_cells h
  have c2 : w.cell? ⟨b, 2, none⟩ = some (.bool lg) := by rw [Lib.cell_of_heap hcl]; rfl
  have h1 := blen_any b b l w h
  have h2 := bstring_any b b l w h
  obtain ⟨n, hn⟩ : ∃ n, l.length = n := ⟨_, rfl⟩
  rw [hn] at h1 hl
  cases lg with
  | true =>
    rw [if_pos (.inl rfl)]
    clear h2 h1 hn
    go_enter Tryz.func53, Tryz.ntmps53
    go_wp2
    go_ret2
    exact ⟨rfl, Below.refl _ _⟩
  | false =>
    by_cases hb : 262144 < n
    · have hbI : (262144 : Int) < (n : Int) := by omega
      rw [if_pos (.inr (by omega))]
      clear h2 hn
      go_enter Tryz.func53, Tryz.ntmps53
      go_wp2_with (go_at_call 97; refine h1.mono ?_; rintro e w1 ⟨rfl, rfl⟩; clear h1)
      go_ret2
      exact ⟨rfl, Below.refl _ _⟩
    · have hbI : ¬ (262144 : Int) < (n : Int) := by omega
      rw [if_neg (by rintro (h | h); cases h; omega)]
      clear hn
      go_enter Tryz.func53, Tryz.ntmps53
      go_wp2_with (first | (go_at_call 62; refine h2'.mono ?_; rintro e w2 ⟨rfl, hb2⟩; clear h2') | (go_at_call 97; refine h1.mono ?_; rintro e w1 ⟨rfl, rfl⟩; clear h1; have h2' := h2))
      go_ret2
      exact ⟨rfl, hb2⟩
end Go.Proofs.YtlmopjbfagijeaaGreatDoor.Sc

namespace Go.Proofs.YtlmopjbfagijeaaGreatDoor.Sc
open Go.RowKit Go.Lib Go.Deep

set_option maxRecDepth 20000 in
set_option maxHeartbeats 1000000 in
theorem takeS_any (b o : Nat) (s : ByteArray) (w : World) (h : w.cell? ⟨b, o, none⟩ = some (.string s)) (hf : w.frozen? ⟨b, o, none⟩ = false) :
    Calls Tryz.prog 120 #[.pointer (some ⟨b, o, none⟩)] w fun e w' => e = .returned (.string s) ∧ w' = w.setCell ⟨b, o, none⟩ (.string { data := #[] }) := by
  go_enter Tryz.func120, Tryz.ntmps120
  go_wp2
  go_ret
  exact ⟨rfl, rfl⟩

set_option maxRecDepth 20000 in
set_option maxHeartbeats 1000000 in
theorem takeI_any (b o : Nat) (n : Int) (w : World) (h : w.cell? ⟨b, o, none⟩ = some (.int .i64 n)) (hf : w.frozen? ⟨b, o, none⟩ = false) :
    Calls Tryz.prog 99 #[.pointer (some ⟨b, o, none⟩)] w fun e w' => e = .returned (.int .i64 n) ∧ w' = w.setCell ⟨b, o, none⟩ (.int .i64 0) := by
  go_enter Tryz.func99, Tryz.ntmps99
  go_wp2
  go_ret
  exact ⟨rfl, rfl⟩

/-- a form -/
structure Fm where
  kind : Int
  word : ByteArray
  count : Int
  wr : FuncId
  rd : FuncId
def Fm.cells (f : Fm) : List Value := [.int .i64 f.kind, .string f.word, .int .i64 f.count, .func (.func f.wr) #[] #[], .func (.func f.rd) #[] #[]]
def opTab : List Fm := [⟨1, { data := #[109, 107, 100, 105, 114] }, 2, 77, 78⟩, ⟨2, { data := #[99, 114, 101, 97, 116, 101] }, 2, 77, 78⟩, ⟨7, { data := #[114, 101, 109, 111, 118, 101] }, 2, 77, 78⟩, ⟨8, { data := #[114, 109, 100, 105, 114] }, 2, 77, 78⟩, ⟨9, { data := #[108, 105, 115, 116] }, 2, 77, 78⟩, ⟨10, { data := #[115, 116, 97, 116] }, 2, 77, 78⟩, ⟨3, { data := #[114, 101, 97, 100] }, 4, 79, 80⟩, ⟨4, { data := #[119, 114, 105, 116, 101] }, 4, 81, 82⟩, ⟨5, { data := #[99, 117, 116] }, 3, 83, 84⟩, ⟨6, { data := #[114, 101, 110, 97, 109, 101] }, 3, 85, 86⟩]
def tabC (L : List Fm) : Array Value := (L.flatMap Fm.cells).toArray

set_option maxRecDepth 20000 in
set_option maxHeartbeats 1000000 in
theorem operations_any (w : World) :
    Calls Tryz.prog 40 #[] w fun e w' => e = .returned (.slice (some ⟨w.heap.size, 0, none⟩) 10 10) ∧ w' = w.alloc (.cells (tabC opTab) 137) := by
  go_enter Tryz.func40, Tryz.ntmps40
  go_wp2_with fail
  go_ret
  exact ⟨rfl, rfl⟩
end Go.Proofs.YtlmopjbfagijeaaGreatDoor.Sc

namespace Go.Proofs.YtlmopjbfagijeaaGreatDoor.Sc
open Go.RowKit Go.Lib Go.Deep

/-- an operation -/
structure OpR where
  kind : Int
  path : ByteArray
  to : ByteArray
  at_ : Int
  n : Int
  data : ByteArray
def OpR.cells (o : OpR) : Array Value := #[.int .i64 o.kind, .string o.path, .string o.to, .int .i64 o.at_, .int .i64 o.n, .string o.data]
structure OpR.Ok (o : OpR) : Prop where
  kind : I64 o.kind
  at_ : I64 o.at_
  n : I64 o.n
  path : o.path.size ≤ 1048576
  to : o.to.size ≤ 1048576
  data : o.data.size ≤ 1048576
/-- an operation in a block of its own -/
def OpAt (w : World) (g : Nat) (o : OpR) : Prop := w.heap[g]? = some (.cells o.cells 54 (0, 0))
theorem OpAt.six {w : World} {g : Nat} {o : OpR} (h : OpAt w g o) : w.cell? ⟨g, 0, none⟩ = some (.int .i64 o.kind) ∧ w.cell? ⟨g, 1, none⟩ = some (.string o.path) ∧ w.cell? ⟨g, 2, none⟩ = some (.string o.to) ∧ w.cell? ⟨g, 3, none⟩ = some (.int .i64 o.at_) ∧ w.cell? ⟨g, 4, none⟩ = some (.int .i64 o.n) ∧ w.cell? ⟨g, 5, none⟩ = some (.string o.data) := by
  refine ⟨?_, ?_, ?_, ?_, ?_, ?_⟩ <;> (rw [Lib.cell_of_heap h]; rfl)
theorem OpAt.frozen {w : World} {g : Nat} {o : OpR} (h : OpAt w g o) (j : Nat) : w.frozen? ⟨g, j, none⟩ = false := Lib.frozen_of_heap h j
theorem OpAt.below {w w' : World} {g B : Nat} {o : OpR} (h : OpAt w g o) (hb : Below B w w') (hg : g < B) : OpAt w' g o := (hb.block _ hg).trans h
theorem OpAt.lt {w : World} {g : Nat} {o : OpR} (h : OpAt w g o) : g < w.heap.size := (Array.getElem?_eq_some_iff.1 h).1
def nil_ : ByteArray := { data := #[] }
theorem OpAt.set1 {w : World} {g : Nat} {o : OpR} (h : OpAt w g o) : OpAt (w.setCell ⟨g, 1, none⟩ (.string { data := #[] })) g { o with path := nil_ } := by
  unfold OpAt at h ⊢
  simp [World.setCell, Array.getElem?_modify, h, OpR.cells, nil_]
theorem OpAt.set2 {w : World} {g : Nat} {o : OpR} (h : OpAt w g o) : OpAt (w.setCell ⟨g, 2, none⟩ (.string { data := #[] })) g { o with to := nil_ } := by
  unfold OpAt at h ⊢
  simp [World.setCell, Array.getElem?_modify, h, OpR.cells, nil_]
theorem OpAt.set3 {w : World} {g : Nat} {o : OpR} (h : OpAt w g o) : OpAt (w.setCell ⟨g, 3, none⟩ (.int .i64 0)) g { o with at_ := 0 } := by
  unfold OpAt at h ⊢
  simp [World.setCell, Array.getElem?_modify, h, OpR.cells]
theorem OpAt.set4 {w : World} {g : Nat} {o : OpR} (h : OpAt w g o) : OpAt (w.setCell ⟨g, 4, none⟩ (.int .i64 0)) g { o with n := 0 } := by
  unfold OpAt at h ⊢
  simp [World.setCell, Array.getElem?_modify, h, OpR.cells]
theorem OpAt.set5 {w : World} {g : Nat} {o : OpR} (h : OpAt w g o) : OpAt (w.setCell ⟨g, 5, none⟩ (.string { data := #[] })) g { o with data := nil_ } := by
  unfold OpAt at h ⊢
  simp [World.setCell, Array.getElem?_modify, h, OpR.cells, nil_]
/-- a line stays where another block's cell is set -/
theorem LnS.set {x : Bool × List UInt8} {b g i : Nat} {w : World} {o : OpR} {v : Value} (h : LnS x b w) (ho : OpAt w g o) (hg : g ≠ b) : LnS x b (w.setCell ⟨g, i, none⟩ v) := by
  have key : ∀ p, BuAt 125 [.bool x.1] b b p x.2 w → BuAt 125 [.bool x.1] b b p x.2 (w.setCell ⟨g, i, none⟩ v) := fun p h => by
    obtain ⟨hB, v', hb, hown, hne, hn0⟩ := h
    refine ⟨hB, v', (Below.heap_setCell _ _ _ _ (Ne.symm hg)).trans hb, ?_, hne, hn0⟩
    refine hown.kept (row := some g) ⟨rfl, rfl, rfl, by simp [World.setCell], fun k _ hk => Below.heap_setCell _ _ _ _ (fun e => hk (by simp [e]))⟩ (Or.inr ?_)
    exact ownBlock_ne hown ho (by decide)
  exact h.elim (fun x => .inl (key _ x)) (fun x => .inr (key _ x))

/-- what the functions that write a line say -/
def Wr (f : FuncId) (g : OpR → Bool × List UInt8 → Bool × List UInt8) (r : OpR → OpR) : Prop :=
  ∀ (o : OpR) (x : Bool × List UInt8) (b v : Nat) (w : World), o.Ok → LnS x b w → OpAt w v o → v < b → ITab w → 3 < v → x.2.length ≤ 1048576 →
    Calls Tryz.prog f #[.pointer (some ⟨b, 0, none⟩), .pointer (some ⟨v, 0, none⟩)] w fun e w' => e = .returned (.tuple #[]) ∧ LnS (g o x) b w' ∧ OpAt w' v (r o) ∧ Below v w w'

def stN (x : Bool × List UInt8) (L : List Int) : Bool × List UInt8 := (x.1, x.2 ++ nmL L)
theorem stB_len (x : Bool × List UInt8) (s : ByteArray) : (stB x s).2.length ≤ x.2.length + 2 + 3 * s.size := by
  unfold stB
  split
  · simp only; omega
  · have := byL_len s
    simp only [List.length_append, List.length_cons]
    omega

set_option maxRecDepth 20000 in
set_option maxHeartbeats 1000000 in
theorem writePath_any : Wr 77 (fun o x => stB x o.path) (fun o => { o with path := nil_ }) := by
  intro o x b v w hok hl ho hvb ht hg hx
  obtain ⟨c0, c1, c2, c3, c4, c5⟩ := ho.six
  have h1 := takeS_any v 1 o.path w c1 (ho.frozen 1)
  have hl2 := hl.set (i := 1) (v := .string { data := #[] }) ho (Nat.ne_of_lt hvb)
  have h2 := lbytes_any x.1 b x.2 o.path _ hl2 (by have := hok.path; omega) (by omega)
  have ho2 := ho.set1
  have hb1 : Below v w (w.setCell ⟨v, 1, none⟩ (.string { data := #[] })) := (Below.refl v w).setCell (p := ⟨v, 1, none⟩) (Nat.le_refl _) _
  obtain ⟨W, hW⟩ : ∃ W, w.setCell ⟨v, 1, none⟩ (.string { data := #[] }) = W := ⟨_, rfl⟩
  rw [hW] at h1 h2 ho2 hb1
  clear c0 c1 c2 c3 c4 c5 hl2 hW
  go_enter Tryz.func77, Tryz.ntmps77
  go_wp2_with (first | (go_at_call 102; refine h2'.mono ?_; rintro e w2 ⟨rfl, ⟨hu2, hb2⟩, ho3⟩; clear h2') | (go_at_call 120; refine h1.mono ?_; rintro e w1 ⟨rfl, rfl⟩; clear h1; have h2' := h2))
  go_wp2
  go_end0
  exact ⟨rfl, hu2, ho2.below hb2 hvb, hb1.trans (hb2.mono (Nat.le_of_lt hvb))⟩
end Go.Proofs.YtlmopjbfagijeaaGreatDoor.Sc

namespace Go.Proofs.YtlmopjbfagijeaaGreatDoor.Sc
open Go.RowKit Go.Lib Go.Deep
/-- an operation's six cells, from a place on -/
def SixAt (w : World) (b p : Nat) (o : OpR) : Prop := w.cell? ⟨b, p, none⟩ = some (.int .i64 o.kind) ∧ w.cell? ⟨b, p + 1, none⟩ = some (.string o.path) ∧ w.cell? ⟨b, p + 2, none⟩ = some (.string o.to) ∧ w.cell? ⟨b, p + 3, none⟩ = some (.int .i64 o.at_) ∧ w.cell? ⟨b, p + 4, none⟩ = some (.int .i64 o.n) ∧ w.cell? ⟨b, p + 5, none⟩ = some (.string o.data)
theorem SixAt.below {w w' : World} {B b p : Nat} {o : OpR} (h : SixAt w b p o) (hb : Below B w w') (hlt : b < B) : SixAt w' b p o := by
  unfold SixAt at h ⊢
  simp only [World.cell?, hb.block b hlt] at h ⊢
  exact h
def SeeO (w : World) (a : Option Addr) (L : List OpR) : Prop := L ≠ [] → ∃ b off, a = some ⟨b, off, none⟩ ∧ b < w.heap.size ∧ ∀ (i : Nat) o, L[i]? = some o → SixAt w b (off + i * 6) o
theorem SeeO.below {w w' : World} {a : Option Addr} {L : List OpR} (h : SeeO w a L) (hb : Below w.heap.size w w') : SeeO w' a L := fun hne => by
  obtain ⟨b, off, e, hlt, hc⟩ := h hne
  exact ⟨b, off, e, Nat.lt_of_lt_of_le hlt hb.size, fun i o ho => (hc i o ho).below hb hlt⟩
end Go.Proofs.YtlmopjbfagijeaaGreatDoor.Sc
