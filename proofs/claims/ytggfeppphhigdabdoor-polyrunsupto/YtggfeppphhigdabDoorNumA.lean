import Derived.Test.YtggfeppphhigdabDoorPolB
import Derived.Test.YtggfeppphhigdabDoorLawsF
import Derived.Test.YtggfeppphhigdabDoorRows
import Derived.OwnWalk
import Derived.KernelRfl
import Derived.Laws.BitsAll
namespace Go.Proofs.YtggfeppphhigdabDoor
open Go.RowKit Go.Lib Go.Deep

/-- numbers as cells -/
def nsL (kd : IntKind) (l : List Nat) : List Value := l.map fun (n : Nat) => Value.int kd (n : Int)
def ns (kd : IntKind) (l : List Nat) : Array Value := (nsL kd l).toArray
theorem nsL_length (kd : IntKind) (l : List Nat) : (nsL kd l).length = l.length := by simp [nsL]
theorem ns_size (kd : IntKind) (l : List Nat) : (ns kd l).size = l.length := by simp [ns, nsL]
theorem ns_at (kd : IntKind) (l : List Nat) (i : Nat) (h : i < l.length) : (ns kd l)[i]? = some (.int kd ((l.getD i 0 : Nat) : Int)) := by
  simp [ns, nsL, List.getD_eq_getElem?_getD, h]
theorem nsL_one (kd : IntKind) (l : List Nat) : ∀ v ∈ nsL kd l, v.oneCell' = true := by
  intro v hv
  obtain ⟨n, _, rfl⟩ := List.mem_map.1 hv
  rfl
theorem ns_one (kd : IntKind) (l : List Nat) : (ns kd l).all (·.oneCell') = true := all_oneCell_toArray (nsL_one kd l)
theorem ns_set (kd : IntKind) (l : List Nat) (i x : Nat) : (ns kd l).setIfInBounds i (.int kd (x : Int)) = ns kd (l.set i x) := by simp [ns, nsL]
theorem nsL_append (kd : IntKind) (l r : List Nat) : nsL kd (l ++ r) = nsL kd l ++ nsL kd r := by simp [nsL]

/-- a block of numbers -/
def Nb (kd : IntKind) (t : TypeId) (w : World) (g : Nat) (l : List Nat) : Prop := w.heap[g]? = some (.cells (ns kd l) t (0, 0))
section
variable {kd : IntKind} {t : TypeId} {w : World} {g : Nat} {l : List Nat}
theorem Nb.lt (h : Nb kd t w g l) : g < w.heap.size := heap_lt h
theorem Nb.cell (h : Nb kd t w g l) (i : Nat) (hi : i < l.length) : w.cell? ⟨g, i, none⟩ = some (.int kd ((l.getD i 0 : Nat) : Int)) := (cell_of_heap h).trans (ns_at kd l i hi)
theorem Nb.frozen (h : Nb kd t w g l) (i : Nat) : w.frozen? ⟨g, i, none⟩ = false := frozen_of_heap h
theorem Nb.kept {w' : World} (h : Nb kd t w g l) (hk : w'.heap[g]? = w.heap[g]?) : Nb kd t w' g l := hk.trans h
theorem Nb.below {w' : World} {B : Nat} (h : Nb kd t w g l) (hb : Below B w w') (hg : g < B) : Nb kd t w' g l := h.kept (hb.block g hg)
theorem Nb.put (h : Nb kd t w g l) (i x : Nat) : Nb kd t (w.setCell ⟨g, i, none⟩ (.int kd (x : Int))) g (l.set i x) := by
  have h1 := heap_setCell_same w g i _ t (.int kd (x : Int)) h
  rw [ns_set] at h1
  exact h1
theorem Nb.beside (h : Nb kd t w g l) {p : Addr} (hp : p.block ≠ g) (v : Value) : Nb kd t (w.setCell p v) g l := h.kept (heap_setCell_other w p g v (Ne.symm hp))
theorem Nb.alloc (h : Nb kd t w g l) (o : Obj) : Nb kd t (w.alloc o) g l := h.kept (Below.heap_alloc _ _ _ h.lt)
theorem Nb.new (w : World) (kd : IntKind) (t : TypeId) (l : List Nat) : Nb kd t (w.alloc (.cells (ns kd l) t)) w.heap.size l := heap_new _ _
theorem Nb.newN (w : World) (kd : IntKind) (t : TypeId) (l : List Nat) (n : Nat) (hn : w.heap.size = n) : Nb kd t (w.alloc (.cells (ns kd l) t)) n l := by subst hn; exact heap_new _ _
theorem Nb.drew (h : Nb kd t w g l) : Nb kd t w.drew g l := h
theorem Nb.store (h : Nb kd t w g l) (l' : List Nat) (hl : l'.length = l.length) : Nb kd t (w.setCells g 0 (ns kd l').toList) g l' := by
  have h1 := heap_setCells g t (ns kd l').toList 0 _ w h
  rw [setMany_all _ _ (by rw [Array.length_toList, ns_size, ns_size, hl]), Array.toArray_toList] at h1
  exact h1
theorem Nb.aside (h : Nb kd t w g l) {b : Nat} (hb : g ≠ b) (o : Nat) (vs : List Value) : Nb kd t (w.setCells b o vs) g l := h.kept (heap_setCells_other b g hb vs o w)
theorem Nb.there (h : Nb kd t w g l) (n : Nat) (hn : l.length = n) : w.there g 0 n := there_of_heap h (by rw [ns_size]; omega)
end

theorem size46 : (Tryd.prog.info? 54).map (·.size) = some 5 := by kernel_rfl
theorem size42 : (Tryd.prog.info? 50).map (·.size) = some 17 := by kernel_rfl
theorem size56 : (Tryd.prog.info? 70).map (·.size) = some 10 := by kernel_rfl
theorem ns5 (l : List Nat) (h : l.length = 5) : (Tryd.prog.info? 54).map (·.size) = some (ns .u64 l).size := by rw [ns_size, h]; exact size46
theorem ns17 (l : List Nat) (h : l.length = 17) : (Tryd.prog.info? 50).map (·.size) = some (ns .u8 l).size := by rw [ns_size, h]; exact size42
theorem zeros5 : ns .u64 (List.replicate 5 0) = #[.int .u64 0, .int .u64 0, .int .u64 0, .int .u64 0, .int .u64 0] := rfl
theorem zeros10 : ns .u64 (List.replicate 10 0) = #[.int .u64 0, .int .u64 0, .int .u64 0, .int .u64 0, .int .u64 0, .int .u64 0, .int .u64 0, .int .u64 0, .int .u64 0, .int .u64 0] := rfl

end Go.Proofs.YtggfeppphhigdabDoor
