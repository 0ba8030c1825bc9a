import Derived.Test.YtjjabkimmgcejaaDoorShaB
import Derived.Test.YtjjabkimmgcejaaDoorLawsC
import Derived.BigRegion
import Derived.Deep.RegionHeld3
namespace Go.Proofs.YtjjabkimmgcejaaDoor
open Go.RowKit Go.Lib Go.Deep

def u32L (l : List Nat) : List Value := l.map fun (n : Nat) => Value.int .u32 (n : Int)
def u32s (l : List Nat) : Array Value := (u32L l).toArray
def bytesV (l : List UInt8) : Array Value := (byteCells l).toArray
def pad (l : List Nat) : List Nat := l ++ List.replicate (64 - l.length) 0

theorem u32s_at (l : List Nat) (i : Nat) (h : i < l.length) : (u32s l)[i]? = some (.int .u32 ((l.getD i 0 : Nat) : Int)) := by
  simp [u32s, u32L, List.getD_eq_getElem?_getD, h]
theorem bytesV_at (l : List UInt8) (i : Nat) (h : i < l.length) : (bytesV l)[i]? = some (.int .u8 ((l.getD i 0).toNat : Int)) := by
  simp [bytesV, byteCells, List.getD_eq_getElem?_getD, h]
theorem u32s_size (l : List Nat) : (u32s l).size = l.length := by simp [u32s, u32L]
theorem bytesV_size (l : List UInt8) : (bytesV l).size = l.length := by simp [bytesV, byteCells]
theorem pad_length (l : List Nat) (h : l.length ≤ 64) : (pad l).length = 64 := by simp [pad]; omega
theorem pad_at (l : List Nat) (i : Nat) (h : i < l.length) : (pad l).getD i 0 = l.getD i 0 := by
  rw [List.getD_eq_getElem?_getD, List.getD_eq_getElem?_getD, pad, List.getElem?_append_left h]
theorem pad_full (l : List Nat) (h : l.length = 64) : pad l = l := by simp [pad, h]
theorem pad_set (l : List Nat) (x : Nat) (h : l.length < 64) : (u32s (pad l)).setIfInBounds l.length (.int .u32 (x : Int)) = u32s (pad (l ++ [x])) := by
  have e : 64 - l.length = (64 - (l.length + 1)) + 1 := by omega
  simp [u32s, u32L, pad, e, List.replicate_succ]

/-- the three blocks of spreadOf -/
structure Sp (b : List UInt8) (w wr : World) (ws : List Nat) : Prop where
  src : wr.heap[w.heap.size]? = some (.cells (bytesV b) 66 (0, 0))
  res : wr.heap[w.heap.size + 1]? = some (.cells (u32s (pad [])) 87 (0, 0))
  own : wr.heap[w.heap.size + 1 + 1]? = some (.cells (u32s (pad ws)) 87 (0, 0))
  bel : Below w.heap.size w wr

theorem Sp.drew {b : List UInt8} {w wr : World} {ws : List Nat} (h : Sp b w wr ws) : Sp b w wr.drew ws := ⟨h.src, h.res, h.own, h.bel.drew⟩
theorem Sp.put {b : List UInt8} {w wr : World} {ws : List Nat} (h : Sp b w wr ws) (x : Nat) (hl : ws.length < 64) : Sp b w (wr.setCell ⟨w.heap.size + 1 + 1, ws.length, none⟩ (.int .u32 (x : Int))) (ws ++ [x]) := by
  refine ⟨?_, ?_, ?_, h.bel.setCell (by simp; omega) _⟩
  · rw [← h.src]; exact Below.heap_setCell _ _ _ _ (by simp; omega)
  · rw [← h.res]; exact Below.heap_setCell _ _ _ _ (by simp)
  · rw [← pad_set ws x hl]; exact heap_setCell_same _ _ _ _ _ _ h.own

theorem word_or (x0 x1 x2 x3 : Nat) (h0 : x0 < 256) (h1 : x1 < 256) (h2 : x2 < 256) (h3 : x3 < 256) :
    bits .or .u32 (bits .or .u32 (bits .or .u32 ((x0 : Int) * 16777216) ((x1 : Int) * 65536)) ((x2 : Int) * 256)) (x3 : Int) = ((16777216 * x0 + 65536 * x1 + 256 * x2 + x3 : Nat) : Int) := by
  rw [show (x0 : Int) * 16777216 = ((16777216 * x0 : Nat) : Int) by omega, show (x1 : Int) * 65536 = ((65536 * x1 : Nat) : Int) by omega, show (x2 : Int) * 256 = ((256 * x2 : Nat) : Int) by omega]
  rw [u32_or_nat _ _ (by omega) (by omega), nat_join 24 (16777216 * x0) (65536 * x1) (by omega) (by omega), u32_or_nat _ _ (by omega) (by omega), nat_join 16 (16777216 * x0 + 65536 * x1) (256 * x2) (by omega) (by omega),
    u32_or_nat _ _ (by omega) (by omega), nat_join 8 (16777216 * x0 + 65536 * x1 + 256 * x2) x3 (by omega) (by omega)]

theorem pad_next (l : List Nat) (h : l.length < 64) : (pad l).getD l.length 0 = 0 := by
  rw [List.getD_eq_getElem?_getD, pad, List.getElem?_append_right (Nat.le_refl _), Nat.sub_self, List.getElem?_replicate, if_pos (by omega)]
  rfl

theorem Sp.cell {b : List UInt8} {w wr : World} {ws : List Nat} (h : Sp b w wr ws) (i : Nat) (hi : i < ws.length) (hl : ws.length ≤ 64) :
    wr.cell? ⟨w.heap.size + 1 + 1, i, none⟩ = some (.int .u32 ((ws.getD i 0 : Nat) : Int)) := by
  rw [cell_of_heap h.own, u32s_at _ _ (by rw [pad_length _ hl]; omega), pad_at _ _ hi]
theorem Sp.next {b : List UInt8} {w wr : World} {ws : List Nat} (h : Sp b w wr ws) (hl : ws.length < 64) :
    wr.cell? ⟨w.heap.size + 1 + 1, ws.length, none⟩ = some (.int .u32 0) := by
  rw [cell_of_heap h.own, u32s_at _ _ (by rw [pad_length _ (by omega)]; omega), pad_next _ hl]
  rfl

theorem Sp.start (b : List UInt8) (w : World) : Sp b w (((w.alloc (.cells (bytesV b) 66)).alloc (.cells (u32s (pad [])) 87)).alloc (.cells (u32s (pad [])) 87)) [] := by
  refine ⟨?_, ?_, ?_, ((Below.alloc (Below.refl _ _) (Nat.le_refl _) _).alloc (by simp) _).alloc (by simp; omega) _⟩
  · rw [Below.heap_alloc _ _ _ (by simp; omega), Below.heap_alloc _ _ _ (by simp)]
    exact heap_new _ _
  · rw [Below.heap_alloc _ _ _ (by simp)]
    have h := heap_new (w.alloc (.cells (bytesV b) 66)) (.cells (u32s (pad [])) 87)
    simpa using h
  · have h := heap_new ((w.alloc (.cells (bytesV b) 66)).alloc (.cells (u32s (pad [])) 87)) (.cells (u32s (pad [])) 87)
    simpa using h

theorem cell_store_ne (w : World) (B i j : Nat) (v : Value) (h : j ≠ i) : (w.setCell ⟨B, i, none⟩ v).drew.cell? ⟨B, j, none⟩ = w.cell? ⟨B, j, none⟩ := by
  show (w.setCell ⟨B, i, none⟩ v).cell? ⟨B, j, none⟩ = _
  exact World.cell?_setCell_other w _ _ _ (fun e => h (by cases e; rfl))

theorem u32L_one (l : List Nat) : ∀ v ∈ u32L l, v.oneCell' = true := by
  intro v hv
  obtain ⟨n, _, rfl⟩ := List.mem_map.1 hv
  rfl
theorem byteCells_one (l : List UInt8) : ∀ v ∈ byteCells l, v.oneCell' = true := by
  intro v hv
  obtain ⟨n, _, rfl⟩ := List.mem_map.1 hv
  rfl

theorem size64 : (Tryd.prog.info? 87).map (·.size) = some 64 := by kernel_rfl
theorem size8 : (Tryd.prog.info? 64).map (·.size) = some 8 := by kernel_rfl
theorem sizeB : (Tryd.prog.info? 66).map (·.size) = some 64 := by kernel_rfl

theorem wrap3 (a b c d : Nat) : IntKind.u32.wrap (IntKind.u32.wrap (IntKind.u32.wrap ((a : Int) + (b : Int)) + (c : Int)) + (d : Int)) = (((a + b + c + d) % 4294967296 : Nat) : Int) := by
  rw [IntKind.wrap_u32', IntKind.wrap_u32', IntKind.wrap_u32']
  omega

end Go.Proofs.YtjjabkimmgcejaaDoor
