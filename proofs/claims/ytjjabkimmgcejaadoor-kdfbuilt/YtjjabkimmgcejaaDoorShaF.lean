import Derived.Test.YtjjabkimmgcejaaDoorShaE
namespace Go.Proofs.YtjjabkimmgcejaaDoor
open Go.RowKit Go.Lib Go.Deep

theorem size1 : (Tryd.prog.info? 62).map (·.size) = some 1 := by kernel_rfl

theorem Mx.start (w : World) (s : W8) (b : List UInt8) (ws : List Nat) (hl : ws.length = 64) (w1 : World) (ht : Tabs w) (z8 : Array Value) (h8 : z8.size = 8)
    (hb : Below (((w.alloc (.cells (u32s s.list) 64)).alloc (.cells (bytesV b) 66)).alloc (.cells z8 64)).heap.size
      (((w.alloc (.cells (u32s s.list) 64)).alloc (.cells (bytesV b) 66)).alloc (.cells z8 64)) w1) (z : Array Value) (hz : z.size = 64) :
    Mx w s ws w1.heap.size ((w1.alloc (.cells z 87)).setCells w1.heap.size 0 (u32s ws).toList) := by
  have hsz := hb.size
  simp only [World.size_alloc] at hsz
  have hw : Below w.heap.size w w1 := (((Below.refl w.heap.size w).alloc (Nat.le_refl _) _).alloc (by simp) _).alloc (by simp; omega) _ |>.trans (hb.mono (by simp; omega))
  have hold : ∀ k, k < w.heap.size + 1 + 1 + 1 → ((w1.alloc (.cells z 87)).setCells w1.heap.size 0 (u32s ws).toList).heap[k]? = (((w.alloc (.cells (u32s s.list) 64)).alloc (.cells (bytesV b) 66)).alloc (.cells z8 64)).heap[k]? := by
    intro k hk
    rw [heap_setCells_other _ _ (by omega), Below.heap_alloc _ _ _ (by omega)]
    exact hb.block k (by simp; omega)
  have hbel : Below w.heap.size w ((w1.alloc (.cells z 87)).setCells w1.heap.size 0 (u32s ws).toList) := Below.setCells (hw.alloc (by omega) _) (by omega) _ _
  refine ⟨?_, ?_, ?_, hbel, ht.below hbel ht.size⟩
  · rw [hold _ (by omega), Below.heap_alloc _ _ _ (by simp; omega), Below.heap_alloc _ _ _ (by simp)]
    exact heap_new _ _
  · refine ⟨z8, h8, ?_⟩
    rw [hold _ (by omega)]
    have h := heap_new ((w.alloc (.cells (u32s s.list) 64)).alloc (.cells (bytesV b) 66)) (.cells z8 64)
    simpa using h
  · have h := heap_setCells w1.heap.size 87 (u32s ws).toList 0 z _ (heap_new w1 (.cells z 87))
    rw [setMany_all _ _ (by rw [hz, Array.length_toList, u32s_size, hl]), Array.toArray_toList] at h
    exact h

theorem not32 (e : Nat) (h : e < 4294967296) : 4294967295 ^^^ e = 4294967295 - e := by
  have h1 : (~~~(BitVec.ofNat 32 e)).toNat = 4294967295 - e := by rw [BitVec.toNat_not, BitVec.toNat_ofNat, Nat.mod_eq_of_lt (by omega)]
  have h2 : (BitVec.allOnes 32 ^^^ BitVec.ofNat 32 e).toNat = 4294967295 ^^^ e := by rw [BitVec.toNat_xor, BitVec.toNat_allOnes, BitVec.toNat_ofNat, Nat.mod_eq_of_lt (by omega)]
  rw [BitVec.not_def, h2] at h1
  exact h1
theorem not_int (e : Nat) (h : e < 4294967296) : bits .xor .u32 (if IntKind.u32.signed = true then -1 else IntKind.u32.max) (e : Int) = ((4294967295 - e : Nat) : Int) := by
  rw [show (if IntKind.u32.signed = true then -1 else IntKind.u32.max : Int) = ((4294967295 : Nat) : Int) from rfl, u32_xor_nat _ _ (by omega) h, not32 e h]

theorem one8 (x0 x1 x2 x3 x4 x5 x6 x7 : Int) : (#[Value.int .u32 x0, .int .u32 x1, .int .u32 x2, .int .u32 x3, .int .u32 x4, .int .u32 x5, .int .u32 x6, .int .u32 x7] : Array Value).all (·.oneCell') = true := by
  refine all_oneCell_toArray (cs := [Value.int .u32 x0, .int .u32 x1, .int .u32 x2, .int .u32 x3, .int .u32 x4, .int .u32 x5, .int .u32 x6, .int .u32 x7]) ?_
  intro v hv
  simp only [List.mem_cons, List.not_mem_nil, or_false] at hv
  rcases hv with rfl | rfl | rfl | rfl | rfl | rfl | rfl | rfl <;> rfl

theorem Mx.cells {w : World} {s : W8} {ws : List Nat} {n5 : Nat} {wr : World} (h : Mx w s ws n5 wr) :
    wr.cell? ⟨w.heap.size, 0, none⟩ = some (.int .u32 (s.a : Int)) ∧ wr.cell? ⟨w.heap.size, 1, none⟩ = some (.int .u32 (s.b : Int)) ∧ wr.cell? ⟨w.heap.size, 2, none⟩ = some (.int .u32 (s.c : Int)) ∧ wr.cell? ⟨w.heap.size, 3, none⟩ = some (.int .u32 (s.d : Int)) ∧
    wr.cell? ⟨w.heap.size, 4, none⟩ = some (.int .u32 (s.e : Int)) ∧ wr.cell? ⟨w.heap.size, 5, none⟩ = some (.int .u32 (s.f : Int)) ∧ wr.cell? ⟨w.heap.size, 6, none⟩ = some (.int .u32 (s.g : Int)) ∧ wr.cell? ⟨w.heap.size, 7, none⟩ = some (.int .u32 (s.h : Int)) := by
  refine ⟨?_, ?_, ?_, ?_, ?_, ?_, ?_, ?_⟩ <;> rw [cell_of_heap h.old, u32s_at _ _ (by simp [W8.list])] <;> rfl

end Go.Proofs.YtjjabkimmgcejaaDoor
