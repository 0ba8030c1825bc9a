import Derived.Test.YtckbbbcjpklnmaaDoorIxN3
import Derived.Laws.CopyRow
import Derived.Laws.IdiomCopy
namespace Go.Proofs.YtckbbbcjpklnmaaDoor.Ix
open Go.RowKit Go.Lib Go.Deep
theorem info3 : (Tryd.prog.info? 3).map (fun i => (i.zero, i.size, i.bytes)) = some (some (.int .i64 0), 1, 8) := by kernel_rfl
theorem size3 : (Tryd.prog.info? 3).map (·.size) = some 1 := by kernel_rfl
theorem below_row {B : Nat} (w : World) (g : Nat) (cs : Array Value) (h : B ≤ g) : Below B w (w.setRow g cs) :=
  ⟨rfl, rfl, rfl, by simp [World.setRow], fun k hk => by
    simp only [World.setRow, Array.getElem?_modify]
    rw [if_neg (by omega)]⟩
theorem make_ints (n : Nat) (hn : n ≤ 1000000) (w : World) : (Instr.makeSlice 33 (.int .i64 (n : Int)) (.int .i64 (n : Int))).run Tryd.prog w = .ok (.slice (some ⟨w.heap.size, 0, none⟩) n n) (w.alloc (.cells (madeCells #[.int .i64 0] n) 3)) := by
  obtain ⟨i0, hi, hz0, hz1, hz2⟩ := info_parts info3
  have h := run_make (P := Tryd.prog) w 33 3 i0 (.int .i64 0) Tryd.underlying33 hi hz0 .i64 .i64 n n (by omega) (by omega) (by rw [hz2]; omega) (by omega)
  simpa [hz1, Value.cells] using h
theorem made_ints (n : Nat) : (madeCells #[.int .i64 0] n).toList = zsC (List.replicate n 0) := by
  apply List.ext_getElem
  · rw [Array.length_toList, size_madeCells]
    simp [zsC]
  · intro i h1 h2
    simp [madeCells, zsC, Nat.mod_one]
set_option maxRecDepth 20000 in
theorem ints_from (W : World) (g L lo : Nat) (hlo : lo < L) : (Instr.slice 33 (.slice (some ⟨g, 0, none⟩) L L) (some (.int .i64 (lo : Int))) none none).run Tryd.prog W = .ok (.slice (some ⟨g, lo, none⟩) (L - lo) (L - lo)) W := by
  obtain ⟨i0, hi0, hs0⟩ : ∃ i0, Tryd.prog.info? 3 = some i0 ∧ i0.size = 1 := by
    have h := size3
    cases hq : Tryd.prog.info? 3 with
    | none => simp [hq] at h
    | some i => exact ⟨i, rfl, by simpa [hq] using h⟩
  have he : Tryd.prog.elem 33 = 3 := by kernel_rfl
  rw [run_slice_l (P := Tryd.prog) (ht := Tryd.underlying33) (kl := .i64) (l := (lo : Int)) (h0 := by omega) (h1 := by omega)]
  have h1 : ¬ L = lo := by omega
  simp [sizeOf, typeInfo, he, hi0, hs0, sliced, Result.andThen, Addr.add_lit, h1]
/-- a list copied into a row, one behind its head -/
theorem copy_ints {W : World} {g r n k : Nat} {av : Option Addr} {cur : Array Value} {Q : List Int} (hg : W.heap[g]? = some (.cells cur 3 (0, 0))) (hS : See W 1 (.slice av n k) n (zsC Q)) (hn : Q.length = n) (hr : n ≤ r) (hc : cur.size = 1 + r) :
    ∃ W', (∀ ty, (Builtin.copy_ #[33, 33] ty #[.slice (some ⟨g, 1, none⟩) r r, .slice av n k]).run Tryd.prog W = .ok (goInt n) W') ∧ W'.heap[g]? = some (.cells (cur.toList.take 1 ++ zsC Q ++ cur.toList.drop (1 + n)).toArray 3 (0, 0)) ∧ ∀ B, B ≤ g → Below B W W' := by
  have hzl : (zsC Q).length = n := by simp [zsC, hn]
  rcases Nat.eq_zero_or_pos n with h0 | hp
  · subst h0
    refine ⟨W, fun ty => run_copy_none (P := Tryd.prog) W 33 33 ty 3 _ _ _ _ _ _ Tryd.underlying33 size3 (by simp), ?_, fun B _ => Below.refl _ _⟩
    have e : zsC Q = [] := List.length_eq_zero_iff.1 hzl
    rw [hg, e, List.append_nil, Nat.add_zero, List.take_append_drop, Array.toArray_toList]
  · obtain ⟨h0, h5, a', c', h1, h2, h3, h4⟩ := hS
    injection h1 with e1 _ e2
    subst e1 e2
    obtain ⟨b, off, e, hlt, hcell⟩ := h4 hp
    subst e
    refine ⟨_, fun ty => ?_, setRow_heap W g cur _ 3 (0, 0) hg, fun B hB => below_row W g _ hB⟩
    have h := run_copy_row (P := Tryd.prog) W 33 33 ty 3 g 1 r r ⟨b, off, none⟩ n k cur 3 (zsC Q) Tryd.underlying33 size3 hg (by rw [hzl]; exact (Nat.min_eq_left hr).symm) (fun j v hv => by rw [Addr.add_lit]; exact hcell j v hv) (by omega) h5
    rw [hzl] at h
    exact h
end Go.Proofs.YtckbbbcjpklnmaaDoor.Ix
