import Derived.Test.YtbdgbefjmfcgcaaDoorIxR
import Derived.Test.YtbdgbefjmfcgcaaDoorCfM
import Derived.Test.YtbdgbefjmfcgcaaDoorWrM
import Derived.Deep.DeepCutAuto
namespace Go.Proofs.YtbdgbefjmfcgcaaDoor.Ix
open Go.RowKit Go.Lib Go.Deep
theorem cells6 {W : World} {g : Nat} {t : TypeId} {x0 x1 x2 x3 x4 x5 : Value} (h : W.heap[g]? = some (.cells #[x0, x1, x2, x3, x4, x5] t (0, 0))) : W.cell? ⟨g, 0, none⟩ = some x0 ∧ W.cell? ⟨g, 1, none⟩ = some x1 ∧ W.cell? ⟨g, 2, none⟩ = some x2 ∧ W.cell? ⟨g, 3, none⟩ = some x3 ∧ W.cell? ⟨g, 4, none⟩ = some x4 ∧ W.cell? ⟨g, 5, none⟩ = some x5 :=
  ⟨(cell_of_heap h).trans rfl, (cell_of_heap h).trans rfl, (cell_of_heap h).trans rfl, (cell_of_heap h).trans rfl, (cell_of_heap h).trans rfl, (cell_of_heap h).trans rfl⟩
theorem toList_inj {a b : ByteArray} (h : a.toList = b.toList) : a = b := by
  rw [toList_data, toList_data] at h
  cases a
  cases b
  simp only at h
  rw [Array.toList_inj.1 h]
theorem sl_to {P : Program} (w : World) (t : TypeId) (s : ByteArray) (z : Int) (L : Nat) (h : P.underlying t = some .string) (hz : z = (L : Int)) (hL : L ≤ s.size) : (Instr.slice t (.string s) none (some (.int .i64 z)) none).run P w = .ok (.string (s.extract 0 L)) w := by
  subst hz
  have hj : 0 ≤ (L : Int) ∧ (L : Int) ≤ (s.size : Int) := ⟨by omega, by omega⟩
  simp [Instr.slice, Instr.sliceBounds, Instr.sliceBound, asIntOf, run_underlying h, hj]
  omega
theorem sl_of {P : Program} (w : World) (t : TypeId) (s : ByteArray) (z : Int) (L : Nat) (h : P.underlying t = some .string) (hz : z = (L : Int)) (hL : L ≤ s.size) : (Instr.slice t (.string s) (some (.int .i64 z)) none none).run P w = .ok (.string (s.extract L s.size)) w := by
  subst hz
  have hj : 0 ≤ (L : Int) ∧ (L : Int) ≤ (s.size : Int) := ⟨by omega, by omega⟩
  simp [Instr.slice, Instr.sliceBounds, Instr.sliceBound, asIntOf, run_underlying h, hj]
  omega
theorem below_alloc {w X : World} (h : Below w.heap.size w X) (o : Obj) : Below w.heap.size w (X.alloc o) := h.alloc h.size o
theorem below_on {w X Y : World} (h : Below X.heap.size X Y) (hX : Below w.heap.size w X) : Below w.heap.size w Y := hX.trans (h.mono hX.size)
theorem heap_drew {X : World} {g : Nat} {o : Obj} (h : X.heap[g]? = some o) : X.drew.heap[g]? = some o := h
theorem heap_at {X : World} {g : Nat} {o : Obj} (h : g = X.heap.size) : (X.alloc o).heap[g]? = some o := by subst h; exact heap_new X o
theorem heap_keep {X : World} {g : Nat} {o o' : Obj} (h : X.heap[g]? = some o) : (X.alloc o').heap[g]? = some o := (Below.heap_alloc X o' g (heap_lt h)).trans h
/-- a byte turned, as a string -/
theorem turn_cat (s : ByteArray) (l : List UInt8) (h : s.data.toList = l) (k : Nat) (hk : k < l.length) (z : UInt8) : s.extract 0 k ++ str [z] ++ s.extract (k + 1) s.size = str (l.set k z) := by
  have hs : s.size = l.length := by rw [size_eq, h]
  have e : (s.extract 0 k ++ str [z] ++ s.extract (k + 1) s.size).data.toList = (str (l.set k z)).data.toList := by
    rw [ByteArray.data_append, ByteArray.data_append, Array.toList_append, Array.toList_append, str_data, str_data, ByteArray.data_extract, ByteArray.data_extract, Array.toList_extract, Array.toList_extract, h, List.set_eq_take_append_cons_drop, if_pos hk, hs]
    simp [List.extract]
    rw [List.take_of_length_le (by rw [List.length_drop]; exact Nat.le_refl _)]
  exact ByteArray.ext (Array.toList_inj.1 e)
theorem turn_byte (y : UInt8) (q : Nat) (h0 : 0 < q) (h1 : q < 256) : bits .xor .u8 (y.toNat : Int) (q : Int) = ((y ^^^ UInt8.ofNat q).toNat : Int) ∧ y ^^^ UInt8.ofNat q ≠ y := by
  have hmn : (UInt8.ofNat q).toNat = q := by rw [UInt8.toNat_ofNat']; omega
  constructor
  · have h := u8_xor_nat y.toNat q y.toNat_lt (by omega)
    rw [show y.toNat ^^^ q = (y ^^^ UInt8.ofNat q).toNat by rw [UInt8.toNat_xor, hmn]] at h
    exact h
  · intro e
    have e1 := congrArg UInt8.toNat e
    rw [UInt8.toNat_xor, hmn] at e1
    have e2 : y.toNat ^^^ (y.toNat ^^^ q) = q := by rw [← Nat.xor_assoc, Nat.xor_self, Nat.zero_xor]
    rw [e1, Nat.xor_self] at e2
    omega
theorem byte_str {X : World} {g : Nat} {z : UInt8} (h : X.cell? ⟨g, 0, none⟩ = some (.int .u8 (z.toNat : Int))) : (convert 52 9 (.slice (some ⟨g, 0, none⟩) 1 1)).run Tryd.prog X = .ok (.string (str [z])) X :=
  run_convert_bytes_back (P := Tryd.prog) _ 52 9 5 ⟨g, 0, none⟩ 1 [z] Tryd.underlying52 Tryd.underlying5 Tryd.underlying9 (fun j hj => by
    obtain rfl : j = 0 := by simpa using hj
    rw [Addr.add_lit, Nat.zero_add]
    exact h)
theorem make_bytes (n : Nat) (hn : n ≤ 100000000) (w : World) : (Instr.makeSlice 52 (.int .i64 0) (.int .i64 (n : Int))).run Tryd.prog w = .ok (.slice (some ⟨w.heap.size, 0, none⟩) 0 n) (w.alloc (.cells (madeCells #[.int .u8 0] n) 5)) := by
  obtain ⟨i0, hi, hz0, hz1, hz2⟩ := info_parts info5
  have h := run_make (P := Tryd.prog) w 52 5 i0 (.int .u8 0) Tryd.underlying52 hi hz0 .i64 .i64 0 n (by omega) (by omega) (by rw [hz2]; omega) (by omega)
  simpa [hz1, Value.cells] using h
/-- a new writer -/
theorem wr_new (V : World) (C : Nat) (hC : C ≤ 100000000) : ∃ V3 V4, V.alloc (.cells (madeCells #[.int .u8 0] C) 5) = V3 ∧ V3.alloc (.cells #[.slice (some ⟨V.heap.size, 0, none⟩) 0 C] 74) = V4 ∧ Below V.heap.size V V4 ∧ Wr V4 V.heap.size V3.heap.size (.slice (some ⟨V.heap.size, 0, none⟩) 0 C) [] ∧ V.heap.size ≤ V4.heap.size := by
  have h1 : Below V.heap.size V (V.alloc (.cells (madeCells #[.int .u8 0] C) 5)) := (Below.refl _ _).alloc (Nat.le_refl _) _
  have h2 : Below (V.alloc (.cells (madeCells #[.int .u8 0] C) 5)).heap.size (V.alloc (.cells (madeCells #[.int .u8 0] C) 5)) ((V.alloc (.cells (madeCells #[.int .u8 0] C) 5)).alloc (.cells #[.slice (some ⟨V.heap.size, 0, none⟩) 0 C] 74)) := (Below.refl _ _).alloc (Nat.le_refl _) _
  have h3 := h1.trans (h2.mono h1.size)
  have ho : World.ownsRow (V.alloc (.cells (madeCells #[.int .u8 0] C) 5)) V.heap.size 5 1 (.slice (some ⟨V.heap.size, 0, none⟩) 0 C) 0 [] := World.ownsRow_made V _ C (Nat.le_refl _) (by unfold maxLen; omega) (by simp [madeCells])
  exact ⟨_, _, rfl, rfl, h3, ⟨by simp, heap_new _ _, owns_below ho h2⟩, h3.size⟩
end Go.Proofs.YtbdgbefjmfcgcaaDoor.Ix
