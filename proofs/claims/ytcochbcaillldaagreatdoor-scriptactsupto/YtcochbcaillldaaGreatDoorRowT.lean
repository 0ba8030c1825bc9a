import Derived.Test.YtcochbcaillldaaGreatDoorBaseM
namespace Go.Proofs.YtcochbcaillldaaGreatDoor
open Go.RowKit Go.Lib Go.Deep

theorem frozen_before {w : World} {k j lo hi : Nat} {c : Array Value} {t : TypeId} (h : w.heap[k]? = some (.cells c t (lo, hi))) (hj : j < lo) : w.frozen? ⟨k, j, none⟩ = false := by
  simp [World.frozen?, h]
  omega

/-- what '[]byte(s)' lays -/
theorem rowF_bytes (w : World) (s : ByteArray) (hs : s.size ≤ maxLen) :
    RowF (w.drew.alloc (.cells (bytesRow s (grownCap w s.size 0 5)) 5 ((bytesRow s (grownCap w s.size 0 5)).size, (bytesRow s (grownCap w s.size 0 5)).size + 1))) w.heap.size 5 (.slice (some ⟨w.heap.size, 0, none⟩) s.size (grownCap w s.size 0 5)) (byteCells s.data.toList) := by
  have h1 := grownCap_ge w s.size 0 5
  have h2 := grownCap_le_maxLen w s.size 0 5 hs
  obtain ⟨C, hC⟩ : ∃ C, grownCap w s.size 0 5 = C := ⟨_, rfl⟩
  rw [hC] at h1 h2 ⊢
  have hz : (bytesRow s C).size = C := by
    simp only [bytesRow, Array.size_append, Array.size_map, Array.size_replicate]
    have : s.data.size = s.size := rfl
    omega
  have hl : (byteCells s.data.toList).length = s.size := by rw [byteCells_length, ← size_eq]
  refine ⟨w.heap.size, C, bytesRow s C, ((bytesRow s C).size, (bytesRow s C).size + 1), by rw [hl], Nat.le_refl _, heap_new w.drew _, fun j hj => frozen_before (heap_new w.drew _) (by omega), hz, by omega, h2, ?_⟩
  rw [hl]
  simp only [bytesRow, Array.toList_append, Array.toList_map]
  rw [List.take_append_of_le_length (by simp), List.take_of_length_le (by simp)]
  rfl

theorem bytes_any (s : ByteArray) (hs : s.size ≤ maxLen) (w : World) : ∃ v w', (convert 9 51 (.string s)).run Tryz.prog w = .ok v w' ∧ RowF w' w.heap.size 5 v (byteCells s.data.toList) ∧ Below w.heap.size w w' := by
  refine ⟨_, _, run_bytes_of_string (P := Tryz.prog) w 9 51 5 s Tryz.underlying9 Tryz.underlying51 Tryz.underlying5, rowF_bytes w s hs, ?_⟩
  exact (Below.drew (Below.refl _ _)).alloc (Nat.le_refl _) _

/-- 'string(b)' of such a row -/
theorem convert_rowF {P : Program} (w : World) (src dst e : TypeId) (base : Nat) (v : Value) (l : List UInt8) (hs : P.underlying src = some (.slice e)) (he : P.underlying e = some (.int .u8)) (hd : P.underlying dst = some .string)
    (h : RowF w base e v (byteCells l)) : (convert src dst v).run P w = .ok (.string ⟨l.toArray⟩) w := by
  obtain ⟨g, cap, cur, fr, rfl, r2, r3, r4, r5, r6, r7, r8⟩ := h
  rw [byteCells_length] at *
  refine run_convert_bytes_back w src dst e ⟨g, 0, none⟩ cap l hs he hd fun j hj => ?_
  rw [Addr.add_lit, Nat.zero_add, cell_of_heap r3]
  have e1 : (cur.toList.take l.length)[j]? = (byteCells l)[j]? := by rw [r8]
  rw [List.getElem?_take, if_pos hj] at e1
  rw [Array.getElem?_toList] at e1
  rw [e1]
  simp [byteCells, hj]

end Go.Proofs.YtcochbcaillldaaGreatDoor
