import Derived.Test.YtbdgbefjmfcgcaaDoorIxN2
namespace Go.Proofs.YtbdgbefjmfcgcaaDoor.Ix
open Go.RowKit Go.Lib Go.Deep
theorem size5 : (Tryd.prog.info? 5).map (·.size) = some 1 := by kernel_rfl
set_option maxRecDepth 20000 in
theorem slice_seg (W : World) (b off L cap lo hi : Nat) (hlo : lo < hi) (hhi : hi ≤ cap) :
    (Instr.slice 52 (.slice (some ⟨b, off, none⟩) L cap) (some (.int .i64 (lo : Int))) (some (.int .i64 (hi : Int))) none).run Tryd.prog W = .ok (.slice (some ⟨b, off + lo, none⟩) (hi - lo) (cap - lo)) W := by
  obtain ⟨i0, hi0, hs0⟩ : ∃ i0, Tryd.prog.info? 5 = some i0 ∧ i0.size = 1 := by
    have h := size5
    cases hq : Tryd.prog.info? 5 with
    | none => simp [hq] at h
    | some i => exact ⟨i, rfl, by simpa [hq] using h⟩
  have he : Tryd.prog.elem 52 = 5 := by kernel_rfl
  rw [run_slice_lh (P := Tryd.prog) (ht := Tryd.underlying52) (kl := .i64) (kh := .i64) (l := (lo : Int)) (h := (hi : Int)) (h0 := by omega) (h1 := by omega) (h2 := by omega)]
  have hne : ¬ cap = lo := by omega
  simp [sizeOf, typeInfo, he, hi0, hs0, sliced, hne, Result.andThen, Addr.add_lit]
/-- bodies, so many of them cut -/
def prt (b m i : Nat) (I : List UInt8) : List ByteArray := (List.range m).map fun j => if j < i then str (seg I (j * b) b) else { data := #[] }
theorem prt_zero (b m : Nat) (I : List UInt8) : prt b m 0 I = List.replicate m { data := #[] } := by
  unfold prt
  apply List.ext_getElem
  · simp
  · intro j h1 h2
    simp
theorem prt_all (b m : Nat) (I : List UInt8) : prt b m m I = cutL b m I := by
  unfold prt cutL
  apply List.map_congr_left
  intro j hj
  rw [if_pos (List.mem_range.1 hj)]
theorem prt_set {b m i : Nat} {I : List UInt8} (_ : i < m) : (scC (prt b m i I)).set i (.string (str (seg I (i * b) b))) = scC (prt b m (i + 1) I) := by
  unfold scC prt
  apply List.ext_getElem
  · simp
  · intro j h1 h2
    simp only [List.length_set, List.length_map, List.length_range] at h1
    rw [List.getElem_set]
    simp only [List.getElem_map, List.getElem_range]
    by_cases e : i = j
    · subst e
      rw [if_pos rfl, if_pos (by omega)]
    · rw [if_neg e]
      by_cases hj : j < i
      · rw [if_pos hj, if_pos (by omega)]
      · rw [if_neg hj, if_neg (by omega)]
/-- the loop's round -/
structure Lp (w : World) (sl fl dr mf ls pg : Nat) (g m b : Nat) (I : List UInt8) (i : Nat) (X : World) : Prop where
  be : Below w.heap.size w X
  hc : X.heap[w.heap.size]? = some (.cells #[.int .i64 (sl : Int), .int .i64 (fl : Int), .int .i64 (dr : Int), .int .i64 (mf : Int), .int .i64 (ls : Int), .int .i64 (pg : Int)] 23 (0, 0))
  ho : X.ownsRow w.heap.size 9 1 (.slice (some ⟨g, 0, none⟩) m m) m (scC (prt b m i I))
theorem Lp.next {w : World} {sl fl dr mf ls pg g m b : Nat} {I : List UInt8} {i : Nat} {X Y : World} (h : Lp w sl fl dr mf ls pg g m b I i X) (hb : Below X.heap.size X Y) : Lp w sl fl dr mf ls pg g m b I i Y :=
  ⟨h.be.trans (hb.mono h.be.size), (hb.block _ (heap_lt h.hc)).trans h.hc, owns_below h.ho hb⟩
theorem Lp.put {w : World} {sl fl dr mf ls pg g m b : Nat} {I : List UInt8} {i : Nat} {X : World} (h : Lp w sl fl dr mf ls pg g m b I i X) (hg : w.heap.size < g) (hi : i < m) : Lp w sl fl dr mf ls pg g m b I (i + 1) (X.setCell ⟨g, i, none⟩ (.string (str (seg I (i * b) b)))) :=
  ⟨h.be.setCell (by show w.heap.size ≤ g; omega) _, (heap_setCell_other _ _ _ _ (show w.heap.size ≠ g by omega)).trans h.hc, by rw [← prt_set hi]; exact owns_set _ h.ho⟩
theorem Lp.cell {w : World} {sl fl dr mf ls pg g m b : Nat} {I : List UInt8} {i : Nat} {X : World} (h : Lp w sl fl dr mf ls pg g m b I i X) (hi : i < m) : X.cell? ⟨g, i, none⟩ = some (.string { data := #[] }) ∧ X.frozen? ⟨g, i, none⟩ = false := by
  rcases h.ho.2 with ⟨h1, h2⟩ | ⟨g1, cap, cur, h1, h2, h3, h4, h5, h6, h7⟩
  · cases h1
  · injection h1 with e1 _ e2
    injection e1 with e1
    injection e1 with e1 _ _
    subst e1 e2
    refine ⟨?_, frozen_of_heap h3⟩
    rw [cell_of_heap h3]
    have hx : (scC (prt b m i I))[i]? = some (.string { data := #[] }) := by
      unfold scC prt
      rw [List.getElem?_map, List.getElem?_map, List.getElem?_range hi]
      simp
    rw [← h7, List.getElem?_take, if_pos (by omega)] at hx
    rw [← hx]
    simp
end Go.Proofs.YtbdgbefjmfcgcaaDoor.Ix
