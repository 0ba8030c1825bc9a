import Derived.Test.YtjjabkimmgcejabDoorRefB
import Derived.Test.YtjjabkimmgcejabDoorShaG
namespace Go.Proofs.YtjjabkimmgcejabDoor
open Go.RowKit Go.Lib Go.Deep

def pad68 (l : List Nat) : List Nat := l ++ List.replicate (68 - l.length) 0
theorem pad68_length (l : List Nat) (h : l.length ≤ 68) : (pad68 l).length = 68 := by simp [pad68]; omega
theorem pad68_at (l : List Nat) (i : Nat) (h : i < l.length) : (pad68 l).getD i 0 = l.getD i 0 := by
  rw [List.getD_eq_getElem?_getD, List.getD_eq_getElem?_getD, pad68, List.getElem?_append_left h]
theorem pad68_next (l : List Nat) (h : l.length < 68) : (pad68 l).getD l.length 0 = 0 := by
  rw [List.getD_eq_getElem?_getD, pad68, List.getElem?_append_right (Nat.le_refl _), Nat.sub_self, List.getElem?_replicate, if_pos (by omega)]
  rfl
theorem pad68_set (l : List Nat) (x : Nat) (h : l.length < 68) : (i64s (pad68 l)).setIfInBounds l.length (.int .i64 (x : Int)) = i64s (pad68 (l ++ [x])) := by
  have e : 68 - l.length = (68 - (l.length + 1)) + 1 := by omega
  simp [i64s, i64L, pad68, e, List.replicate_succ]

/-- the last four of a row's values -/
structure Hist (l : List Nat) (k a b c d : Nat) : Prop where
  len : l.length = k + 4
  a3 : l.getD (k + 3) 0 = a
  a2 : l.getD (k + 2) 0 = b
  a1 : l.getD (k + 1) 0 = c
  a0 : l.getD k 0 = d
theorem Hist.step {l : List Nat} {k a b c d : Nat} (h : Hist l k a b c d) (x : Nat) : Hist (l ++ [x]) (k + 1) x a b c := by
  have hl := h.len
  have g : ∀ i, i < k + 4 → (l ++ [x]).getD i 0 = l.getD i 0 := fun i hi => by rw [List.getD_eq_getElem?_getD, List.getD_eq_getElem?_getD, List.getElem?_append_left (by omega)]
  refine ⟨by rw [List.length_append]; simp; omega, ?_, (g _ (by omega)).trans h.a3, (g _ (by omega)).trans h.a2, (g _ (by omega)).trans h.a1⟩
  rw [List.getD_eq_getElem?_getD, List.getElem?_append_right (by omega), hl]
  simp

/-- the blocks of 'block' -/
structure Rb (w wr : World) (s : W8) (ws : List Nat) (n : Nat) (av ev : List Nat) : Prop where
  old : wr.heap[w.heap.size]? = some (.cells (i64s s.list) 54 (0, 0))
  res : ∃ z : Array Value, z.size = 8 ∧ wr.heap[w.heap.size + 1]? = some (.cells z 54 (0, 0))
  sp : wr.heap[n]? = some (.cells (i64s ws) 77 (0, 0))
  pa : wr.heap[n + 1]? = some (.cells (i64s (pad68 av)) 79 (0, 0))
  pe : wr.heap[n + 1 + 1]? = some (.cells (i64s (pad68 ev)) 79 (0, 0))
  bel : Below w.heap.size w wr
  ord : w.heap.size + 1 < n

theorem Rb.under {w wr w' : World} {s : W8} {ws : List Nat} {n : Nat} {av ev : List Nat} (h : Rb w wr s ws n av ev) (hb : Below wr.heap.size wr w') : Rb w w' s ws n av ev := by
  obtain ⟨z, hz, hr⟩ := h.res
  exact ⟨(hb.block _ (heap_lt h.old)).trans h.old, ⟨z, hz, (hb.block _ (heap_lt hr)).trans hr⟩, (hb.block _ (heap_lt h.sp)).trans h.sp, (hb.block _ (heap_lt h.pa)).trans h.pa, (hb.block _ (heap_lt h.pe)).trans h.pe, h.bel.trans (hb.mono h.bel.size), h.ord⟩
theorem Rb.putA {w wr : World} {s : W8} {ws : List Nat} {n : Nat} {av ev : List Nat} (h : Rb w wr s ws n av ev) (x : Nat) (hl : av.length < 68) : Rb w (wr.setCell ⟨n + 1, av.length, none⟩ (.int .i64 (x : Int))) s ws n (av ++ [x]) ev := by
  obtain ⟨z, hz, hr⟩ := h.res
  have ho := h.ord
  refine ⟨(Below.heap_setCell _ _ _ _ (by simp; omega)).trans h.old, ⟨z, hz, (Below.heap_setCell _ _ _ _ (by simp; omega)).trans hr⟩, (Below.heap_setCell _ _ _ _ (by simp)).trans h.sp, ?_, (Below.heap_setCell _ _ _ _ (by simp)).trans h.pe, h.bel.setCell (by simp; omega) _, ho⟩
  rw [← pad68_set av x hl]; exact heap_setCell_same _ _ _ _ _ _ h.pa
theorem Rb.putE {w wr : World} {s : W8} {ws : List Nat} {n : Nat} {av ev : List Nat} (h : Rb w wr s ws n av ev) (x : Nat) (hl : ev.length < 68) : Rb w (wr.setCell ⟨n + 1 + 1, ev.length, none⟩ (.int .i64 (x : Int))) s ws n av (ev ++ [x]) := by
  obtain ⟨z, hz, hr⟩ := h.res
  have ho := h.ord
  refine ⟨(Below.heap_setCell _ _ _ _ (by simp; omega)).trans h.old, ⟨z, hz, (Below.heap_setCell _ _ _ _ (by simp; omega)).trans hr⟩, (Below.heap_setCell _ _ _ _ (by simp; omega)).trans h.sp, (Below.heap_setCell _ _ _ _ (by simp)).trans h.pa, ?_, h.bel.setCell (by simp; omega) _, ho⟩
  rw [← pad68_set ev x hl]; exact heap_setCell_same _ _ _ _ _ _ h.pe
theorem Rb.cellA {w wr : World} {s : W8} {ws : List Nat} {n : Nat} {av ev : List Nat} (h : Rb w wr s ws n av ev) (i : Nat) (hi : i < av.length) (hl : av.length ≤ 68) : wr.cell? ⟨n + 1, i, none⟩ = some (.int .i64 ((av.getD i 0 : Nat) : Int)) := by
  rw [cell_of_heap h.pa, i64s_at _ _ (by rw [pad68_length _ hl]; omega), pad68_at _ _ hi]
theorem Rb.cellE {w wr : World} {s : W8} {ws : List Nat} {n : Nat} {av ev : List Nat} (h : Rb w wr s ws n av ev) (i : Nat) (hi : i < ev.length) (hl : ev.length ≤ 68) : wr.cell? ⟨n + 1 + 1, i, none⟩ = some (.int .i64 ((ev.getD i 0 : Nat) : Int)) := by
  rw [cell_of_heap h.pe, i64s_at _ _ (by rw [pad68_length _ hl]; omega), pad68_at _ _ hi]
theorem Rb.nextA {w wr : World} {s : W8} {ws : List Nat} {n : Nat} {av ev : List Nat} (h : Rb w wr s ws n av ev) (hl : av.length < 68) : wr.cell? ⟨n + 1, av.length, none⟩ = some (.int .i64 0) := by
  rw [cell_of_heap h.pa, i64s_at _ _ (by rw [pad68_length _ (by omega)]; omega), pad68_next _ hl]
  rfl
theorem Rb.nextE {w wr : World} {s : W8} {ws : List Nat} {n : Nat} {av ev : List Nat} (h : Rb w wr s ws n av ev) (hl : ev.length < 68) : wr.cell? ⟨n + 1 + 1, ev.length, none⟩ = some (.int .i64 0) := by
  rw [cell_of_heap h.pe, i64s_at _ _ (by rw [pad68_length _ (by omega)]; omega), pad68_next _ hl]
  rfl
theorem Rb.cellW {w wr : World} {s : W8} {ws : List Nat} {n : Nat} {av ev : List Nat} (h : Rb w wr s ws n av ev) (i : Nat) (hi : i < ws.length) : wr.cell? ⟨n, i, none⟩ = some (.int .i64 ((ws.getD i 0 : Nat) : Int)) := by
  rw [cell_of_heap h.sp, i64s_at _ _ hi]
theorem Rb.cellO {w wr : World} {s : W8} {ws : List Nat} {n : Nat} {av ev : List Nat} (h : Rb w wr s ws n av ev) (i : Nat) (hi : i < 8) : wr.cell? ⟨w.heap.size, i, none⟩ = some (.int .i64 ((s.list.getD i 0 : Nat) : Int)) := by
  rw [cell_of_heap h.old, i64s_at _ _ hi]

theorem Rb.start (w : World) (s : W8) (ws : List Nat) (hl : ws.length = 64) (w1 : World) (z8 z68 z68' : Array Value) (h8 : z8.size = 8) (hz : z68 = i64s (pad68 [])) (hz' : z68' = i64s (pad68 []))
    (hb : Below ((w.alloc (.cells (i64s s.list) 54)).alloc (.cells z8 54)).heap.size ((w.alloc (.cells (i64s s.list) 54)).alloc (.cells z8 54)) w1) (z : Array Value) (hz64 : z.size = 64) :
    Rb w ((((w1.alloc (.cells z 77)).setCells w1.heap.size 0 (i64s ws).toList).alloc (.cells z68 79)).alloc (.cells z68' 79)) s ws w1.heap.size [] [] := by
  subst hz hz'
  have hsz := hb.size
  simp only [World.size_alloc] at hsz
  have hw : Below w.heap.size w w1 := ((Below.refl w.heap.size w).alloc (Nat.le_refl _) _).alloc (by simp) _ |>.trans (hb.mono (by simp; omega))
  have hsc := (size_setCells w1.heap.size (i64s ws).toList 0 (w1.alloc (.cells z 77))).1
  simp only [World.size_alloc] at hsc
  have hold : ∀ k, k < w1.heap.size → ((((w1.alloc (.cells z 77)).setCells w1.heap.size 0 (i64s ws).toList).alloc (.cells (i64s (pad68 [])) 79)).alloc (.cells (i64s (pad68 [])) 79)).heap[k]? = w1.heap[k]? := by
    intro k hk
    rw [Below.heap_alloc _ _ _ (by simp; omega), Below.heap_alloc _ _ _ (by omega), heap_setCells_other _ _ (by omega), Below.heap_alloc _ _ _ (by omega)]
  have hbel : Below w.heap.size w ((((w1.alloc (.cells z 77)).setCells w1.heap.size 0 (i64s ws).toList).alloc (.cells (i64s (pad68 [])) 79)).alloc (.cells (i64s (pad68 [])) 79)) :=
    ((Below.setCells (hw.alloc (by omega) _) (by omega) _ _).alloc (by omega) _).alloc (by simp; omega) _
  have h0 : w1.heap[w.heap.size]? = some (.cells (i64s s.list) 54 (0, 0)) := by
    rw [hb.block _ (by simp; omega), Below.heap_alloc _ _ _ (by simp)]
    exact heap_new _ _
  have h1 : w1.heap[w.heap.size + 1]? = some (.cells z8 54 (0, 0)) := by
    rw [hb.block _ (by simp)]
    have h := heap_new (w.alloc (.cells (i64s s.list) 54)) (.cells z8 54)
    simpa using h
  refine ⟨(hold _ (by omega)).trans h0, ⟨z8, h8, (hold _ (by omega)).trans h1⟩, ?_, ?_, ?_, hbel, by omega⟩
  · rw [Below.heap_alloc _ _ _ (by simp; omega), Below.heap_alloc _ _ _ (by omega)]
    have h := heap_setCells w1.heap.size 77 (i64s ws).toList 0 z _ (heap_new w1 (.cells z 77))
    rw [setMany_all _ _ (by rw [hz64, Array.length_toList, i64s_size, hl]), Array.toArray_toList] at h
    exact h
  · rw [Below.heap_alloc _ _ _ (by simp; omega)]
    have h := heap_new ((w1.alloc (.cells z 77)).setCells w1.heap.size 0 (i64s ws).toList) (.cells (i64s (pad68 [])) 79)
    rw [hsc] at h
    exact h
  · have h := heap_new (((w1.alloc (.cells z 77)).setCells w1.heap.size 0 (i64s ws).toList).alloc (.cells (i64s (pad68 [])) 79)) (.cells (i64s (pad68 [])) 79)
    simp only [World.size_alloc, hsc] at h
    exact h

theorem isize8 : (Tryd.prog.info? 54).map (·.size) = some 8 := by kernel_rfl

end Go.Proofs.YtjjabkimmgcejabDoor
