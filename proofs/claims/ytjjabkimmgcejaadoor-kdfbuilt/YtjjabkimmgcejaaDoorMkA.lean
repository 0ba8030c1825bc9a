import Derived.Test.YtjjabkimmgcejaaDoorListA
namespace Go.Proofs.YtjjabkimmgcejaaDoor
open Go.RowKit Go.Lib Go.Deep

/-- a list that marked made, in a row of its own -/
structure Mk (w : World) (g : Nat) (xs : List ByteArray) : Prop where
  cur : ∃ cur : Array Value, w.heap[g]? = some (.cells cur 9 (0, 0)) ∧ xs.length ≤ cur.size ∧ cur.toList.take xs.length = strCells xs
theorem Mk.lt {w : World} {g : Nat} {xs : List ByteArray} (h : Mk w g xs) : g < w.heap.size := by
  obtain ⟨cur, h1, _⟩ := h.cur
  exact heap_lt h1
theorem Mk.kept {w w' : World} {g : Nat} {xs : List ByteArray} (h : Mk w g xs) (hk : w'.heap[g]? = w.heap[g]?) : Mk w' g xs := by
  obtain ⟨cur, h1, h2⟩ := h.cur
  exact ⟨cur, hk.trans h1, h2⟩
theorem Mk.below {w w' : World} {B g : Nat} {xs : List ByteArray} (h : Mk w g xs) (hb : Below B w w') (hg : g < B) : Mk w' g xs := h.kept (hb.block g hg)
theorem Mk.cell {w : World} {g : Nat} {xs : List ByteArray} (h : Mk w g xs) (i : Nat) (s : ByteArray) (hs : xs[i]? = some s) : w.cell? ⟨g, i, none⟩ = some (.string s) := by
  obtain ⟨cur, h1, h2, h3⟩ := h.cur
  have hi : i < xs.length := (List.getElem?_eq_some_iff.1 hs).1
  have e : (cur.toList.take xs.length)[i]? = some (.string s) := by rw [h3]; simp [strCells, hs]
  rw [List.getElem?_take, if_pos hi, Array.getElem?_toList] at e
  rw [cell_of_heap h1]
  exact e
theorem Mk.frozen {w : World} {g : Nat} {xs : List ByteArray} (h : Mk w g xs) (i : Nat) : w.frozen? ⟨g, i, none⟩ = false := by
  obtain ⟨cur, h1, _⟩ := h.cur
  exact frozen_of_heap h1
theorem Mk.put {w : World} {g : Nat} {xs : List ByteArray} (h : Mk w g xs) (i : Nat) (s : ByteArray) : Mk (w.setCell ⟨g, i, none⟩ (.string s)) g (xs.set i s) := by
  obtain ⟨cur, h1, h2, h3⟩ := h.cur
  refine ⟨cur.setIfInBounds i (.string s), heap_setCell_same _ _ _ _ _ _ h1, by rw [List.length_set, Array.size_setIfInBounds]; exact h2, ?_⟩
  have e : strCells (xs.set i s) = (strCells xs).set i (.string s) := by simp [strCells]
  rw [List.length_set, e, ← h3, Array.toList_setIfInBounds, List.take_set]

theorem owns_below {w w' : World} {B n : Nat} {v : Value} {e : TypeId} {xs : List Value} (h : w.ownsRow B e 1 v n xs) (hb : ∀ k, B ≤ k → k < w.heap.size → w'.heap[k]? = w.heap[k]?) : w'.ownsRow B e 1 v n xs := by
  obtain ⟨h1, h2⟩ := h
  refine ⟨h1, ?_⟩
  rcases h2 with h0 | ⟨g', cap', cur', e1, e2, e3, e4⟩
  · exact .inl h0
  · exact .inr ⟨g', cap', cur', e1, e2, (hb _ e2 (heap_lt e3)).trans e3, e4⟩

/-- the list of an own row, as it is handed on -/
theorem lst_owns {w : World} {B n : Nat} {v : Value} {ss : List ByteArray} (h : w.ownsRow B 9 1 v n (strCells ss)) : ∃ a cap, v = .slice a n cap ∧ Lst w a n ss := by
  have hl : ss.length = n := by have := h.1; rw [strCells_length] at this; omega
  rcases h.2 with ⟨rfl, rfl⟩ | ⟨g, cap, cur, rfl, h1, h2, h3, h4, h5, h6⟩
  · have h0 : ss = [] := List.eq_nil_of_length_eq_zero hl
    subst h0
    exact ⟨none, 0, rfl, ⟨rfl, by omega, fun i s hs => by simp at hs⟩⟩
  · refine ⟨some ⟨g, 0, none⟩, cap, rfl, ⟨hl, by unfold maxLen at h4; omega, fun i s hs => ⟨g, 0, rfl, heap_lt h2, ?_⟩⟩⟩
    have hi : i < ss.length := (List.getElem?_eq_some_iff.1 hs).1
    rw [Nat.zero_add, h.cellAt i (by omega)]
    simp [strCells, hs]

/-- half turned, by any turn -/
def mixedF (f : ByteArray → ByteArray) (ss : List ByteArray) (k : Nat) : List ByteArray := (ss.take k).map f ++ ss.drop k
theorem mixedF_length (f : ByteArray → ByteArray) (ss : List ByteArray) (k : Nat) (h : k ≤ ss.length) : (mixedF f ss k).length = ss.length := by simp [mixedF]; omega
theorem mixedF_zero (f : ByteArray → ByteArray) (ss : List ByteArray) : mixedF f ss 0 = ss := by simp [mixedF]
theorem mixedF_all (f : ByteArray → ByteArray) (ss : List ByteArray) : mixedF f ss ss.length = ss.map f := by simp [mixedF]
theorem mixedF_at (f : ByteArray → ByteArray) (ss : List ByteArray) (k : Nat) (s : ByteArray) (h : ss[k]? = some s) (r : List ByteArray) : (mixedF f ss k ++ r)[k]? = some s := by
  have hk : k < ss.length := (List.getElem?_eq_some_iff.1 h).1
  have hl : ((ss.take k).map f).length = k := by rw [List.length_map, List.length_take]; omega
  rw [List.getElem?_append_left (by rw [mixedF_length f ss k (by omega)]; exact hk), mixedF, List.getElem?_append_right (by omega), hl, Nat.sub_self, List.getElem?_drop]
  exact h
theorem mixedF_set (f : ByteArray → ByteArray) (ss : List ByteArray) (k : Nat) (s : ByteArray) (h : ss[k]? = some s) (r : List ByteArray) : (mixedF f ss k ++ r).set k (f s) = mixedF f ss (k + 1) ++ r := by
  have hk : k < ss.length := (List.getElem?_eq_some_iff.1 h).1
  have hl : ((ss.take k).map f).length = k := by rw [List.length_map, List.length_take]; omega
  have hd : ss.drop k = s :: ss.drop (k + 1) := by
    rw [List.drop_eq_getElem_cons hk]
    congr 1
    exact (List.getElem?_eq_some_iff.1 h).2
  rw [List.set_append_left _ _ (by rw [mixedF_length f ss k (by omega)]; exact hk), mixedF, List.set_append_right _ _ (by omega), hl, Nat.sub_self, hd, mixedF, List.take_add_one, h]
  simp

end Go.Proofs.YtjjabkimmgcejaaDoor
