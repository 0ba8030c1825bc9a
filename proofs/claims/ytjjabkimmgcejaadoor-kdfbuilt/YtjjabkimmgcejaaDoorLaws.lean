import Derived.WalkKit
import Derived.Lib.SliceRun
import Derived.Lib.BufferWrite
import Derived.Laws.CopyOwn
import Derived.Laws.IdiomStrings
import Derived.Deep.OwnRows
namespace Go.Proofs.YtjjabkimmgcejaaDoor
open Go.RowKit Go.Lib

/-- Only the blocks of the list, and new ones, may have turned. -/
structure Only (S : List Nat) (w w' : World) : Prop where
  os : w'.os = w.os
  tape : w'.tape = w.tape
  output : w'.output = w.output
  size : w.heap.size ≤ w'.heap.size
  block : ∀ k, k < w.heap.size → k ∉ S → w'.heap[k]? = w.heap[k]?

theorem Only.refl (S : List Nat) (w : World) : Only S w w := ⟨rfl, rfl, rfl, Nat.le_refl _, fun _ _ _ => rfl⟩

theorem Only.trans {S : List Nat} {a b c : World} (h : Only S a b) (k : Only S b c) : Only S a c :=
  ⟨k.os.trans h.os, k.tape.trans h.tape, k.output.trans h.output, Nat.le_trans h.size k.size, fun i hi hS => (k.block i (Nat.lt_of_lt_of_le hi h.size) hS).trans (h.block i hi hS)⟩

theorem Only.alloc {S : List Nat} {a w : World} (h : Only S a w) (o : Obj) : Only S a (w.alloc o) :=
  h.trans ⟨rfl, rfl, rfl, by simp, fun k hk _ => Below.heap_alloc _ _ _ hk⟩

theorem Only.setCell {S : List Nat} {a w : World} (h : Only S a w) {p : Addr} (hp : p.block ∈ S) (u : Value) : Only S a (w.setCell p u) :=
  h.trans ⟨rfl, rfl, rfl, by simp [World.setCell], fun k _ hS => Below.heap_setCell _ _ _ _ (fun e => hS (e ▸ hp))⟩

theorem Only.setRow {S : List Nat} {a w : World} (h : Only S a w) {g : Nat} (hg : g ∈ S) (cs : Array Value) : Only S a (w.setRow g cs) :=
  h.trans ⟨rfl, rfl, rfl, by simp, fun k _ hS => setRow_other _ _ _ _ (fun e => hS (e ▸ hg))⟩

theorem Only.mono {S T : List Nat} {a w : World} (h : Only S a w) (hs : ∀ k ∈ S, k ∈ T) : Only T a w :=
  ⟨h.os, h.tape, h.output, h.size, fun k hk hT => h.block k hk (fun e => hT (hs k e))⟩

theorem Only.below {S : List Nat} {a w : World} {B : Nat} (h : Only S a w) (hB : B ≤ a.heap.size) (hs : ∀ k ∈ S, B ≤ k) : Below B a w :=
  ⟨h.os, h.tape, h.output, h.size, fun k hk => h.block k (by omega) (fun e => by have := hs k e; omega)⟩

theorem heap_lt {w : World} {k : Nat} {o : Obj} (h : w.heap[k]? = some o) : k < w.heap.size := (Array.getElem?_eq_some_iff.1 h).1

theorem cell_of_heap {w : World} {k j : Nat} {c : Array Value} {t : TypeId} {fr : Nat × Nat} (h : w.heap[k]? = some (.cells c t fr)) : w.cell? ⟨k, j, none⟩ = c[j]? := by
  simp [World.cell?, h]

theorem frozen_of_heap {w : World} {k j : Nat} {c : Array Value} {t : TypeId} (h : w.heap[k]? = some (.cells c t (0, 0))) : w.frozen? ⟨k, j, none⟩ = false := by
  simp [World.frozen?, h]

theorem setRow_alloc (w : World) (c c' : Array Value) (t : TypeId) (fr : Nat × Nat) : (w.alloc (.cells c t fr)).setRow w.heap.size c' = w.alloc (.cells c' t fr) := by
  have hm : ∀ (a : Array Obj) (x : Obj) (f : Obj → Obj), (a.push x).modify a.size f = a.push (f x) := by
    intro a x f
    apply Array.ext
    · simp
    · intro i h1 h2
      simp only [Array.getElem_modify, Array.getElem_push]
      by_cases h : a.size = i
      · subst h; simp
      · have hi : i < a.size := by simp at h1; omega
        simp [h, hi]
  unfold World.setRow
  show ({ w.alloc (.cells c t fr) with heap := (w.heap.push (.cells c t fr)).modify w.heap.size _ } : World) = _
  rw [hm]
  rfl

theorem heap_new (w : World) (o : Obj) : (w.alloc o).heap[w.heap.size]? = some o := by
  show (w.heap.push o)[w.heap.size]? = _
  simp

theorem add_block (a : Addr) (j : Nat) : (a.add j).block = a.block := by
  unfold Addr.add
  split <;> rfl

/-- 'copy(own, s)' behind 'own := make([]byte, len(s))'. -/
theorem run_copy_new_string {P : Program} (w : World) (dT sT ty e : TypeId) (z : Value) (s : ByteArray) (hu : P.underlying dT = some (.slice e)) (hs : (P.info? e).map (·.size) = some 1) :
    (Builtin.copy_ #[dT, sT] ty #[.slice (some ⟨w.heap.size, 0, none⟩) s.size s.size, .string s]).run P (w.alloc (.cells (madeCells #[z] s.size) e)) =
      .ok (goInt s.size) (w.alloc (.cells (byteCells s.data.toList).toArray e)) := by
  rw [run_copy_row_string (w.alloc (.cells (madeCells #[z] s.size) e)) dT sT ty e w.heap.size 0 s.size s.size s (madeCells #[z] s.size) e hu hs (heap_new _ _) (Nat.le_refl _) (by simp [size_madeCells]), setRow_alloc]
  have h1 : List.drop s.size (madeCells #[z] s.size).toList = [] := List.drop_eq_nil_of_le (by simp [size_madeCells])
  simp [h1]

/-- 'copy(out, rest)' behind 'out := make([]byte, n)', where the first n cells of rest are known. -/
theorem run_copy_new_cells {P : Program} (w : World) (dT sT ty e : TypeId) (z : Value) (cs : List Value) (a : Addr) (sLen sCap : Nat) (hu : P.underlying dT = some (.slice e)) (hs : (P.info? e).map (·.size) = some 1)
    (hn : cs.length ≤ sLen) (ha : a.block < w.heap.size) (hsrc : ∀ j v, cs[j]? = some v → w.cell? (a.add j) = some v) (h1 : ∀ v ∈ cs, v.oneCell' = true) :
    (Builtin.copy_ #[dT, sT] ty #[.slice (some ⟨w.heap.size, 0, none⟩) cs.length cs.length, .slice (some a) sLen sCap]).run P (w.alloc (.cells (madeCells #[z] cs.length) e)) =
      .ok (goInt cs.length) (w.alloc (.cells cs.toArray e)) := by
  rw [run_copy_row (P := P) (w.alloc (.cells (madeCells #[z] cs.length) e)) dT sT ty e w.heap.size 0 cs.length cs.length a sLen sCap (madeCells #[z] cs.length) e cs hu hs (heap_new _ _) (Nat.min_eq_right hn).symm
    (fun j v hj => by rw [← hsrc j v hj]; exact World.cell?_of_block (by rw [add_block]; exact Below.heap_alloc _ _ _ ha)) (by simp [size_madeCells]) h1, setRow_alloc]
  have h1 : List.drop cs.length (madeCells #[z] cs.length).toList = [] := List.drop_eq_nil_of_le (by simp [size_madeCells])
  simp [h1]

/-- 'clear(s)', s lying in a row that is known whole; nothing is asked of its length. -/
theorem run_clear_row {P : Program} (w : World) (t e ty : TypeId) (z : Value) (ht : P.underlying t = some (.slice e)) (hv : ∀ w, (zeroValue e).run P w = .ok z w) (hz : z.cells = #[z]) (h1 : z.oneCell' = true)
    (g o n c : Nat) (cur : Array Value) (T : TypeId) (hg : w.heap[g]? = some (.cells cur T (0, 0))) (hfit : o + n ≤ cur.size) :
    (Builtin.clear_ #[t] ty #[.slice (some ⟨g, o, none⟩) n c]).run P w = .ok (.tuple #[]) (w.setRow g (cur.toList.take o ++ List.replicate n z ++ cur.toList.drop (o + n)).toArray) := by
  have hzc : (Builtin.zeroCells z.cells n).toList = List.replicate n z := by
    rw [hz]
    simp [Builtin.zeroCells]
    apply List.ext_getElem
    · simp
    · intro i h1 h2
      simp [Nat.mod_one]
  have hst := run_storeCells_at P g o T (List.replicate n z) 0 cur w hg (by simpa using hfit) (by intro v hv'; rw [List.eq_of_mem_replicate hv']; exact h1)
  simp only [Nat.add_zero, List.length_replicate] at hst
  cases n with
  | zero =>
    simp [Builtin.clear_, run_underlying ht]
    exact (setRow_self w g cur T (0, 0) hg).symm
  | succ m => simp [Builtin.clear_, run_underlying ht, hv, hzc, hst]

theorem run_clear_empty {P : Program} (w : World) (t e ty : TypeId) (ht : P.underlying t = some (.slice e)) (a : Option Addr) (c : Nat) :
    (Builtin.clear_ #[t] ty #[.slice a 0 c]).run P w = .ok (.tuple #[]) w := by
  cases a <;> simp [Builtin.clear_, run_underlying ht]

end Go.Proofs.YtjjabkimmgcejaaDoor
