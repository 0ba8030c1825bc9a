import Derived.Test.YthfpodbbmeannaaDoorShaM
namespace Go.Proofs.YthfpodbbmeannaaDoor
open Go.RowKit Go.Lib Go.Deep

/-- a running sum's cells, with others behind them -/
def tcells (tl : List Value) (s : W8) (r : List UInt8) (n : Nat) : List Value := [Value.bool true] ++ u32L s.list ++ byteCells (r ++ zeros (64 - r.length)) ++ ([Value.int .u64 (n : Int)] ++ tl)
theorem tcells_eq (tl : List Value) (s : W8) (r : List UInt8) (n : Nat) : tcells tl s r n = hcells s r n ++ tl := by simp [tcells, hcells]

/-- a running sum at the head of a block of another type -/
structure Ht (tl : List Value) (ty : TypeId) (w : World) (p : Nat) (s : W8) (r : List UInt8) (n : Nat) : Prop where
  heap : w.heap[p]? = some (.cells (tcells tl s r n).toArray ty (0, 0))
  ok : s.OK
  len : r.length = n % 64
  big : n < 9223372036854775808
  own : 4 ≤ p

section
variable {tl : List Value} {ty : TypeId} {w w' : World} {p : Nat} {s : W8} {r : List UInt8} {n : Nat}
theorem Ht.kept (h : Ht tl ty w p s r n) (hk : w'.heap[p]? = w.heap[p]?) : Ht tl ty w' p s r n := ⟨hk.trans h.heap, h.ok, h.len, h.big, h.own⟩
theorem Ht.lt (h : Ht tl ty w p s r n) : p < w.heap.size := heap_lt h.heap
theorem Ht.only {S : List Nat} (h : Ht tl ty w p s r n) (ho : Only S w w') (hp : p ∉ S) : Ht tl ty w' p s r n := h.kept (ho.block p h.lt hp)
theorem Ht.below {B : Nat} (h : Ht tl ty w p s r n) (ho : Below B w w') (hp : p < B) : Ht tl ty w' p s r n := h.kept (ho.block p hp)
theorem tcells_length (tl : List Value) (s : W8) (r : List UInt8) (n : Nat) (h : r.length ≤ 64) : (tcells tl s r n).length = 74 + tl.length := by
  rw [tcells_eq, List.length_append, hcells_length s r n h]
theorem tcells_count (tl : List Value) (s : W8) (r : List UInt8) (n : Nat) (h : r.length ≤ 64) : (tcells tl s r n)[73]? = some (.int .u64 (n : Int)) := by
  rw [tcells_eq, List.getElem?_append_left (by rw [hcells_length s r n h]; omega), hcells_count s r n h]
theorem Ht.rlen (h : Ht tl ty w p s r n) : r.length ≤ 64 := by have := h.len; omega
theorem Ht.made (h : Ht tl ty w p s r n) : w.cell? ⟨p, 0, none⟩ = some (.bool true) := by
  rw [cell_of_heap h.heap]
  rfl
theorem Ht.count (h : Ht tl ty w p s r n) : w.cell? ⟨p, 73, none⟩ = some (.int .u64 (n : Int)) := by
  rw [cell_of_heap h.heap, List.getElem?_toArray]
  exact tcells_count tl s r n h.rlen
theorem Ht.words (h : Ht tl ty w p s r n) : w.rangeAt p 1 (u32L s.list) :=
  range_of_heap (pre := [Value.bool true]) (post := byteCells (r ++ zeros (64 - r.length)) ++ ([Value.int .u64 (n : Int)] ++ tl)) h.heap (by simp [tcells])
theorem Ht.whole (h : Ht tl ty w p s r n) : w.rangeAt p 0 (hcells s r n) :=
  range_of_heap (pre := []) (post := tl) h.heap (by rw [tcells_eq]; rfl)
theorem Ht.tail {x : Value} {xs : List Value} (h : Ht (x :: xs) ty w p s r n) : w.cell? ⟨p, 74, none⟩ = some x := by
  rw [cell_of_heap h.heap, List.getElem?_toArray, tcells_eq, List.getElem?_append_right (by rw [hcells_length s r n h.rlen]; omega), hcells_length s r n h.rlen]
  rfl
end

end Go.Proofs.YthfpodbbmeannaaDoor
