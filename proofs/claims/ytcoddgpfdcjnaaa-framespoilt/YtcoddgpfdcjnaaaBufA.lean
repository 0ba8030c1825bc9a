import Derived.Test.YtcoddgpfdcjnaaaBaseM
namespace Go.Proofs.Ytcoddgpfdcjnaaa
open Go.RowKit Go.Lib

/-- bytes in a row of their own -/
structure Buf (w : World) (g : Nat) (l : List UInt8) : Prop where
  cur : ∃ (cur : Array Value) (fr : Nat × Nat), w.heap[g]? = some (.cells cur 5 fr) ∧ l.length ≤ cur.size ∧ (∀ j, j < l.length → w.frozen? ⟨g, j, none⟩ = false) ∧ cur.toList.take l.length = Lib.byteCells l
theorem frozen_kept {w w' : World} {g j : Nat} (hk : w'.heap[g]? = w.heap[g]?) : w'.frozen? ⟨g, j, none⟩ = w.frozen? ⟨g, j, none⟩ := by
  simp [World.frozen?, hk]
theorem Buf.lt {w : World} {g : Nat} {l : List UInt8} (h : Buf w g l) : g < w.heap.size := by
  obtain ⟨cur, fr, h1, _⟩ := h.cur
  exact heap_lt h1
theorem Buf.kept {w w' : World} {g : Nat} {l : List UInt8} (h : Buf w g l) (hk : w'.heap[g]? = w.heap[g]?) : Buf w' g l := by
  obtain ⟨cur, fr, h1, h2, h3, h4⟩ := h.cur
  exact ⟨cur, fr, hk.trans h1, h2, fun j hj => (frozen_kept hk).trans (h3 j hj), h4⟩
theorem Buf.frozen {w : World} {g : Nat} {l : List UInt8} (h : Buf w g l) (i : Nat) (hi : i < l.length) : w.frozen? ⟨g, i, none⟩ = false := by
  obtain ⟨cur, fr, h1, h2, h3, h4⟩ := h.cur
  exact h3 i hi
theorem Buf.cell {w : World} {g : Nat} {l : List UInt8} (h : Buf w g l) (i : Nat) (x : UInt8) (hx : l[i]? = some x) : w.cell? ⟨g, i, none⟩ = some (.int .u8 (x.toNat : Int)) := by
  obtain ⟨cur, fr, h1, h2, h3, h4⟩ := h.cur
  have hi : i < l.length := (List.getElem?_eq_some_iff.1 hx).1
  have e : (cur.toList.take l.length)[i]? = some (.int .u8 (x.toNat : Int)) := by rw [h4]; simp [Lib.byteCells, hx]
  rw [List.getElem?_take, if_pos hi, Array.getElem?_toList] at e
  rw [cell_of_heap h1]
  exact e
theorem Buf.put {w : World} {g : Nat} {l : List UInt8} (h : Buf w g l) (i : Nat) (x : UInt8) : Buf (w.setCell ⟨g, i, none⟩ (.int .u8 (x.toNat : Int))) g (l.set i x) := by
  obtain ⟨cur, fr, h1, h2, h3, h4⟩ := h.cur
  have h1' := heap_setCell_fr w g i cur 5 fr (.int .u8 (x.toNat : Int)) h1
  refine ⟨cur.setIfInBounds i (.int .u8 (x.toNat : Int)), fr, h1', by rw [List.length_set, Array.size_setIfInBounds]; exact h2, fun j hj => ?_, ?_⟩
  · rw [List.length_set] at hj
    have := h3 j hj
    simp only [World.frozen?, h1] at this
    simp only [World.frozen?, h1']
    exact this
  · have e : Lib.byteCells (l.set i x) = (Lib.byteCells l).set i (.int .u8 (x.toNat : Int)) := by simp [Lib.byteCells]
    rw [List.length_set, e, ← h4, Array.toList_setIfInBounds, List.take_set]
theorem Buf.of_rowF {w : World} {base : Nat} {v : Value} {l : List UInt8} (h : RowF w base 5 v (Lib.byteCells l)) : ∃ g cap, v = .slice (some ⟨g, 0, none⟩) l.length cap ∧ base ≤ g ∧ l.length ≤ cap ∧ cap ≤ maxLen ∧ Buf w g l := by
  obtain ⟨g, cap, cur, fr, rfl, r2, r3, r4, r5, r6, r7, r8⟩ := h
  have e : (Lib.byteCells l).length = l.length := by simp [Lib.byteCells]
  rw [e] at r6 r8 ⊢
  exact ⟨g, cap, rfl, r2, r6, r7, ⟨cur, fr, r3, by omega, fun j hj => r4 j (by omega), r8⟩⟩

/-- 'string(b)' of such a row -/
theorem Buf.text {P : Program} {w : World} {g : Nat} {l : List UInt8} (h : Buf w g l) (src dst : TypeId) (cap : Nat) (hs : P.underlying src = some (.slice 5)) (he : P.underlying 5 = some (.int .u8)) (hd : P.underlying dst = some .string) :
    (convert src dst (.slice (some ⟨g, 0, none⟩) l.length cap)).run P w = .ok (.string (str l)) w :=
  run_convert_bytes_back w src dst 5 ⟨g, 0, none⟩ cap l hs he hd fun j hj => by
    rw [Addr.add_lit, Nat.zero_add, h.cell j l[j] (List.getElem?_eq_getElem hj)]

end Go.Proofs.Ytcoddgpfdcjnaaa
