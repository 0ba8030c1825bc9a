import Derived.Test.YtpjigcccjiidpaaExN
namespace Go.Proofs.Ytpjigcccjiidpaa.Ex
open Go.RowKit Go.Lib Go.Deep

theorem Bf.of_rowF {w : World} {base : Nat} {v : Value} {s : List UInt8} (h : RowF w base 5 v (Lib.byteCells s)) : ∃ g c, v = .slice (some ⟨g, 0, none⟩) s.length c ∧ base ≤ g ∧ Bf w g c s := by
  obtain ⟨g, cap, cur, fr, rfl, r2, r3, r4, r5, r6, r7, r8⟩ := h
  rw [bc_len] at r6 r8 ⊢
  exact ⟨g, cap, rfl, r2, cur, fr, r3, r4, r5, r6, r7, r8⟩
theorem sizeC : (Try.prog.info? 72).map (·.size) = some 1 := by kernel_rfl
def CtP (w : World) (s : List UInt8) (e : Ending) (w' : World) : Prop := ∃ g c, e = .returned (cv g s.length c) ∧ Bf w' g c s ∧ w.heap.size ≤ g ∧ Below w.heap.size w w'
theorem put1 {W : World} {g : Nat} {t : TypeId} {x y : Value} (h : W.heap[g]? = some (.cells #[x] t (0, 0))) : (W.setCell ⟨g, 0, none⟩ y).heap[g]? = some (.cells #[y] t (0, 0)) := heap_setCell_same _ _ 0 _ _ y h
set_option maxRecDepth 20000 in
theorem contentOf_any (s : List UInt8) (hs : s.length ≤ maxLen) (w : World) : Calls Try.prog 20 #[.string (str s)] w fun e w' => CtP w s e w' := by
  obtain ⟨W, hW, hb, k0⟩ := one_new w #[.slice none 0 0] 72
  obtain ⟨v, w1, hr, hR, hb1⟩ := bytes_any (str s) (by rw [str_size]; exact hs) W
  rw [str_data] at hR
  obtain ⟨g, c, rfl, hg, hB⟩ := Bf.of_rowF hR
  have k1 : w1.heap[w.heap.size]? = some (.cells #[.slice none 0 0] 72 (0, 0)) := (hb1.block _ (heap_lt k0)).trans k0
  have c1 : w1.cell? ⟨w.heap.size, 0, none⟩ = some (.slice none 0 0) := (cell_of_heap k1).trans rfl
  have f1 := frozen_of_heap (j := 0) k1
  have HB : Hid (Below w.heap.size w w1) := hb.trans (hb1.mono hb.size)
  have HC : Hid (Bf w1 g c s ∧ w.heap.size + 1 ≤ g) := ⟨hB, by have := heap_lt k0; omega⟩
  clear hR hB hg hb hb1 hs k0
  go_enter Try.func20, Try.ntmps20
  go_wp2
  trace_state
  refine bodyPost_ret (Tr.results_cell1 rfl _ _ w.heap.size 72 _ (0, 0) _ rfl (put1 k1) Try.underlying72 rfl sizeC) rfl ?_
  exact ⟨g, c, rfl, HC.out.1.keep (heap_setCell_other _ _ _ _ (by have := HC.out.2; show g ≠ w.heap.size; omega)), by have := HC.out.2; omega, HB.out.setCell (Nat.le_refl _) _⟩
set_option maxRecDepth 20000 in
theorem csize_any (n : Nat) (a : Option Addr) (c : Nat) (w : World) : Calls Try.prog 36 #[.agg #[.slice a n c]] w fun e w' => e = .returned (.int .i64 (n : Int)) ∧ Below w.heap.size w w' := by
  obtain ⟨W, hW, hb, k0⟩ := one_new w #[.slice a n c] 72
  have c0 : W.cell? ⟨w.heap.size, 0, none⟩ = some (.slice a n c) := (cell_of_heap k0).trans rfl
  have HB : Hid _ := hb
  clear hb k0
  go_enter Try.func36, Try.ntmps36
  go_wp2
  go_ret
  exact ⟨rfl, HB.out⟩
set_option maxRecDepth 20000 in
theorem ctext_any (g c : Nat) (s : List UInt8) (w : World) (hB : Bf w g c s) : Calls Try.prog 23 #[cv g s.length c] w fun e w' => e = .returned (.string (str s)) ∧ Below w.heap.size w w' := by
  obtain ⟨W, hW, hb, k0⟩ := one_new w #[.slice (some ⟨g, 0, none⟩) s.length c] 72
  have c0 : W.cell? ⟨w.heap.size, 0, none⟩ = some (.slice (some ⟨g, 0, none⟩) s.length c) := (cell_of_heap k0).trans rfl
  have hBW : Bf W g c s := hB.keep (hb.block _ hB.lt)
  have ht := hBW.text (P := Try.prog) 70 9 0 c s (fun j x h => by rw [Nat.zero_add]; exact h) Try.underlying70 Try.underlying5 Try.underlying9
  have HB : Hid _ := hb
  clear hb k0 hBW hB
  unfold cv
  go_enter Try.func23, Try.ntmps23
  go_wp2
  go_ret
  exact ⟨rfl, HB.out⟩
end Go.Proofs.Ytpjigcccjiidpaa.Ex
