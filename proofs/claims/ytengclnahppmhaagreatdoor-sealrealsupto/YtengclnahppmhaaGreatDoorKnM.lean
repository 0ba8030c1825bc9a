import Derived.Test.YtengclnahppmhaaGreatDoorChZ1
import Derived.KernelRfl
import Derived.Test.YtengclnahppmhaaGreatDoorChZ2
namespace Go.Proofs.YtengclnahppmhaaGreatDoor.Cha
open Go.RowKit Go.Lib

def riseL (n : Nat) : List UInt8 := (List.range n).map fun i => UInt8.ofNat i

set_option maxRecDepth 100000 in
theorem known_quarter : qr ⟨286331153, 16909060, 2609737539, 19088743⟩ = ⟨3928658676, 3407673550, 1166100270, 1484899515⟩ := by kernel_rfl
set_option maxRecDepth 100000 in
theorem known_block : (blockL (riseL 32) 1 [0, 0, 0, 9, 0, 0, 0, 74, 0, 0, 0, 0]).take 4 = [16, 241, 231, 228] ∧ (blockL (riseL 32) 1 [0, 0, 0, 9, 0, 0, 0, 74, 0, 0, 0, 0]).drop 60 = [162, 80, 60, 78] := ⟨by kernel_rfl, by kernel_rfl⟩
set_option maxRecDepth 100000 in
theorem known_hash : (hchL (riseL 32) [0, 0, 0, 9, 0, 0, 0, 74, 0, 0, 0, 0, 49, 65, 89, 39]).take 4 = [130, 65, 59, 66] ∧ (hchL (riseL 32) [0, 0, 0, 9, 0, 0, 0, 74, 0, 0, 0, 0, 49, 65, 89, 39]).drop 28 = [38, 211, 236, 220] := ⟨by kernel_rfl, by kernel_rfl⟩

end Go.Proofs.YtengclnahppmhaaGreatDoor.Cha

namespace Go.Proofs.YtengclnahppmhaaGreatDoor.Cha
open Go.RowKit Go.Lib Go.Deep

def bytesV (l : List UInt8) : Array Value := (byteCells l).toArray
theorem bytesV_size (l : List UInt8) : (bytesV l).size = l.length := by simp [bytesV, byteCells]
theorem bytesV_at (l : List UInt8) (i : Nat) (x : UInt8) (h : l[i]? = some x) : (bytesV l)[i]? = some (.int .u8 (x.toNat : Int)) := by
  simp [bytesV, byteCells, h]
theorem bytesV_set (l : List UInt8) (i : Nat) (x : UInt8) : (bytesV l).setIfInBounds i (.int .u8 (x.toNat : Int)) = bytesV (l.set i x) := by
  simp [bytesV, byteCells]

/-- bytes in a block of their own, whole -/
def Rw (w : World) (g : Nat) (l : List UInt8) : Prop := w.heap[g]? = some (.cells (bytesV l) 5 (0, 0))
theorem Rw.cell {w : World} {g : Nat} {l : List UInt8} (h : Rw w g l) (i : Nat) (x : UInt8) (hx : l[i]? = some x) : w.cell? ⟨g, i, none⟩ = some (.int .u8 (x.toNat : Int)) := by
  rw [cell_of_heap h]
  exact bytesV_at l i x hx
theorem Rw.frozen {w : World} {g : Nat} {l : List UInt8} (h : Rw w g l) (i : Nat) : w.frozen? ⟨g, i, none⟩ = false := frozen_of_heap h
theorem Rw.put {w : World} {g : Nat} {l : List UInt8} (h : Rw w g l) (i : Nat) (x : UInt8) : Rw (w.setCell ⟨g, i, none⟩ (.int .u8 (x.toNat : Int))) g (l.set i x) := by
  unfold Rw
  rw [← bytesV_set]
  exact heap_setCell_same _ _ _ _ _ _ h
theorem Rw.kept {w w' : World} {g : Nat} {l : List UInt8} (h : Rw w g l) (hk : w'.heap[g]? = w.heap[g]?) : Rw w' g l := hk.trans h
theorem Rw.text {P : Program} {w : World} {g : Nat} {l : List UInt8} (h : Rw w g l) (src dst : TypeId) (cap : Nat) (hs : P.underlying src = some (.slice 5)) (he : P.underlying 5 = some (.int .u8)) (hd : P.underlying dst = some .string) :
    (convert src dst (.slice (some ⟨g, 0, none⟩) l.length cap)).run P w = .ok (.string (str l)) w :=
  run_convert_bytes_back w src dst 5 ⟨g, 0, none⟩ cap l hs he hd fun j hj => by
    rw [Addr.add_lit, Nat.zero_add, h.cell j l[j] (List.getElem?_eq_getElem hj)]

theorem made_rows (n : Nat) : (madeCells #[Value.int .u8 0] (n * 1)).toList = byteCells (List.replicate n 0) := by
  apply List.ext_getElem
  · simp [size_madeCells, byteCells]
  · intro i h1 h2
    simp [madeCells, byteCells, Nat.mod_one]
/-- what 'make([]byte, n)' lays -/
theorem Rw.made {w : World} {B g n : Nat} (ho : w.ownsRow B 5 1 (.slice (some ⟨g, 0, none⟩) n n) n (madeCells (Value.int .u8 0).cells (n * 1)).toList) : Rw w g (List.replicate n 0) := by
  have e : (madeCells (Value.int .u8 0).cells (n * 1)).toList = byteCells (List.replicate n 0) := made_rows n
  rw [e] at ho
  rcases ho.2 with ⟨h, _⟩ | ⟨g', cap, cur, hv, _, hg, _, _, hs, ht⟩
  · cases h
  · cases hv
    have : cur = bytesV (List.replicate n 0) := by
      unfold bytesV
      rw [← ht, List.take_of_length_le (by rw [Array.length_toList, hs]; exact Nat.le_refl _), Array.toArray_toList]
    rw [this] at hg
    exact hg

/-- filled up to k -/
def fillL (f : Nat → UInt8) (n k : Nat) : List UInt8 := (List.range k).map f ++ List.replicate (n - k) 0
theorem fillL_zero (f : Nat → UInt8) (n : Nat) : fillL f n 0 = List.replicate n 0 := by simp [fillL]
theorem fillL_all (f : Nat → UInt8) (n : Nat) : fillL f n n = (List.range n).map f := by simp [fillL]
theorem fillL_length (f : Nat → UInt8) (n k : Nat) (h : k ≤ n) : (fillL f n k).length = n := by simp [fillL]; omega
theorem fillL_set (f : Nat → UInt8) (n k : Nat) (h : k < n) : (fillL f n k).set k (f k) = fillL f n (k + 1) := by
  have e : n - k = (n - (k + 1)) + 1 := by omega
  rw [fillL, List.set_append_right _ _ (by simp), e, List.replicate_succ]
  simp [fillL, List.range_succ]
theorem fillL_at (f : Nat → UInt8) (n k : Nat) (h : k < n) : (fillL f n k)[k]? = some 0 := by
  rw [fillL, List.getElem?_append_right (by simp), List.getElem?_replicate, if_pos (by simp; omega)]

end Go.Proofs.YtengclnahppmhaaGreatDoor.Cha
