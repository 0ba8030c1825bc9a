import Derived.Test.YtjjabkimmgcejaaDoorShaM
namespace Go.Proofs.YtjjabkimmgcejaaDoor
open Go.RowKit Go.Lib Go.Deep

theorem shaL_length (l : List UInt8) : (shaL l).length = 32 := by
  unfold shaL wtext
  rw [be4s_length]
  rfl

theorem cells_strs (w : World) (ss : List ByteArray) : ∀ i s, ss[i]? = some s → (w.alloc (.cells (ss.map Value.string).toArray 9)).cell? ⟨w.heap.size, 0 + i, none⟩ = some (.string s) := by
  intro i s h
  rw [Nat.zero_add, cell_of_heap (heap_new _ _)]
  simp [h]

theorem sum_one (s : ByteArray) (w : World) (ht : Tabs w) (h4 : 4 ≤ w.heap.size) (hs : s.size < 576460752303423488) :
    Calls Tryd.prog 10 #[.slice (some ⟨w.heap.size, 0, none⟩) 1 1] (w.alloc (.cells #[.string s] 9)) fun e w' => e = .returned (.string (str (shaL s.data.toList))) ∧ Below w.heap.size w w' := by
  have hb : Below w.heap.size w (w.alloc (.cells #[.string s] 9)) := (Below.refl _ _).alloc (Nat.le_refl _) _
  have hj : joinL [s] = s.data.toList := by simp [joinL]
  have h := sum_some _ (ht.below hb (by omega)) (by simp; omega) w.heap.size 0 1 1 [s] rfl (by omega) (by simp) (cells_strs w [s]) (by rw [hj, ← size_eq]; exact hs)
  rw [hj] at h
  refine h.mono ?_
  rintro e w' ⟨rfl, h2⟩
  exact ⟨rfl, hb.trans (h2.mono (by simp))⟩

/-- a list of texts as it was handed in -/
structure Lst (w : World) (a : Option Addr) (len : Nat) (ss : List ByteArray) : Prop where
  sz : ss.length = len
  top : len ≤ 9223372036854775807
  cell : ∀ i s, ss[i]? = some s → ∃ b off, a = some ⟨b, off, none⟩ ∧ b < w.heap.size ∧ w.cell? ⟨b, off + i, none⟩ = some (.string s)
theorem Lst.below {w w' : World} {a : Option Addr} {len : Nat} {ss : List ByteArray} (h : Lst w a len ss) (hb : Below w.heap.size w w') : Lst w' a len ss := by
  refine ⟨h.sz, h.top, fun i s hs => ?_⟩
  obtain ⟨b, off, rfl, hlt, hc⟩ := h.cell i s hs
  exact ⟨b, off, rfl, by have := hb.size; omega, (hb.cell (p := ⟨b, off + i, none⟩) hlt).trans hc⟩

def strCells (ss : List ByteArray) : List Value := ss.map Value.string
theorem strCells_length (ss : List ByteArray) : (strCells ss).length = ss.length := by simp [strCells]
theorem strCells_one (ss : List ByteArray) : ∀ v ∈ strCells ss, v.oneCell' = true := by
  intro v hv
  obtain ⟨n, _, rfl⟩ := List.mem_map.1 hv
  rfl
theorem strCells_take (ss : List ByteArray) (k : Nat) (s : ByteArray) (h : ss[k]? = some s) : strCells (ss.take (k + 1)) = strCells (ss.take k) ++ [.string s] := by
  rw [List.take_add_one, h]
  simp [strCells]
theorem info9 : (Tryd.prog.info? 9).map (fun i => (i.zero, i.size, i.bytes)) = some (some (.string { data := #[] }), 1, 16) := by kernel_rfl

theorem lst_one (s : ByteArray) (w : World) : Lst (w.alloc (.cells #[.string s] 9)) (some ⟨w.heap.size, 0, none⟩) 1 [s] :=
  ⟨rfl, by omega, fun i t h => ⟨w.heap.size, 0, rfl, by simp, cells_strs w [s] i t h⟩⟩
theorem joinL_one (s : ByteArray) : joinL [s] = s.data.toList := by simp [joinL]

end Go.Proofs.YtjjabkimmgcejaaDoor
