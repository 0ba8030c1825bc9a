import Derived.Test.YtbdgbefjmfcgcaaDoorIxMh
namespace Go.Proofs.YtbdgbefjmfcgcaaDoor.Ix
open Go.RowKit Go.Lib Go.Deep
/-- a cell of an own row turned -/
theorem owns_set {w : World} {B e n sz : Nat} {g c j : Nat} {xs : List Value} (v' : Value) (h : w.ownsRow B e sz (.slice (some ⟨g, 0, none⟩) n c) n xs) : (w.setCell ⟨g, j, none⟩ v').ownsRow B e sz (.slice (some ⟨g, 0, none⟩) n c) n (xs.set j v') := by
  refine ⟨by rw [List.length_set]; exact h.1, ?_⟩
  rcases h.2 with ⟨h1, h2⟩ | ⟨g1, cap, cur, h1, h2, h3, h4, h5, h6, h7⟩
  · cases h1
  · injection h1 with e1 _ e2
    injection e1 with e1
    injection e1 with e1 _ _
    subst e1 e2
    refine .inr ⟨_, _, cur.setIfInBounds j v', rfl, h2, heap_setCell_same _ _ j _ _ v' h3, h4, by simpa using h5, by simpa using h6, ?_⟩
    rw [← h7, Array.toList_setIfInBounds, List.take_set]
theorem info9 : (Tryd.prog.info? 9).map (fun i => (i.zero, i.size, i.bytes)) = some (some (.string { data := #[] }), 1, 16) := by kernel_rfl
theorem make_strs (n : Nat) (hn : n ≤ 100000) (w : World) : (Instr.makeSlice 34 (.int .i64 (n : Int)) (.int .i64 (n : Int))).run Tryd.prog w = .ok (.slice (some ⟨w.heap.size, 0, none⟩) n n) (w.alloc (.cells (madeCells #[.string { data := #[] }] n) 9)) := by
  obtain ⟨i0, hi, hz0, hz1, hz2⟩ := info_parts info9
  have h := run_make (P := Tryd.prog) w 34 9 i0 (.string { data := #[] }) Tryd.underlying34 hi hz0 .i64 .i64 n n (by omega) (by omega) (by rw [hz2]; omega) (by omega)
  simpa [hz1, Value.cells] using h
theorem made_strs (n : Nat) (hn : n ≤ 100000) (w : World) : World.ownsRow (w.alloc (.cells (madeCells #[.string { data := #[] }] n) 9)) w.heap.size 9 1 (.slice (some ⟨w.heap.size, 0, none⟩) n n) n (scC (List.replicate n { data := #[] })) := by
  have e : (madeCells #[.string { data := #[] }] n).toList = scC (List.replicate n { data := #[] }) := by
    apply List.ext_getElem
    · rw [Array.length_toList, size_madeCells]
      simp [scC]
    · intro i h1 h2
      simp [madeCells, scC, Nat.mod_one]
  refine ⟨by simp [scC], .inr ⟨w.heap.size, n, _, rfl, Nat.le_refl _, heap_new w _, Nat.le_refl _, by unfold maxLen; omega, ?_, ?_⟩⟩
  · rw [← Array.length_toList, e]
    simp [scC]
  · rw [e]
    exact List.take_of_length_le (by simp [scC])
/-- bytes that can be read, cut and made a text -/
theorem cut_str {w : World} {av : Option Addr} {n k : Nat} {I : List UInt8} (hS : See w 1 (.slice av n k) n (Lib.byteCells I)) (hn : I.length = n) (hp : 0 < n) : n ≤ k ∧ ∃ b off, av = some ⟨b, off, none⟩ ∧ ∀ (i m cap : Nat), i + m ≤ n → ∀ X, Below w.heap.size w X → (convert 52 9 (.slice (some ⟨b, off + i, none⟩) m cap)).run Tryd.prog X = .ok (.string (str (seg I i m))) X := by
  obtain ⟨h0, _, a', c', h1, h2, h3, h4⟩ := hS
  injection h1 with e1 _ e2
  subst e1 e2
  obtain ⟨b, off, e, hlt, hc⟩ := h4 hp
  refine ⟨h2, b, off, e, fun i m cap him X hX => ?_⟩
  have hl : (seg I i m).length = m := by unfold seg; rw [List.length_take, List.length_drop]; omega
  have h := run_convert_bytes_back (P := Tryd.prog) X 52 9 5 ⟨b, off + i, none⟩ cap (seg I i m) Tryd.underlying52 Tryd.underlying5 Tryd.underlying9 (fun j hj => by
    rw [Addr.add_lit]
    have hj2 : i + j < I.length := by omega
    have hh := hc (i + j) (.int .u8 (I[i + j].toNat : Int)) (by unfold Lib.byteCells; rw [List.getElem?_map, List.getElem?_eq_getElem hj2]; rfl)
    rw [Nat.add_assoc, (hX.cell (p := ⟨b, off + (i + j), none⟩) hlt).trans hh]
    have e3 : (seg I i m)[j] = I[i + j] := by simp [seg]
    rw [e3])
  rw [hl] at h
  exact h
end Go.Proofs.YtbdgbefjmfcgcaaDoor.Ix
