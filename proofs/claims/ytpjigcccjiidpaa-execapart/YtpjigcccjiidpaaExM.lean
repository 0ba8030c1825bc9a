import Derived.Test.YtpjigcccjiidpaaExS
import Derived.Test.YtpjigcccjiidpaaRowT
import Derived.Maps.OwnSet
import Derived.Maps.Ext
import Derived.Laws.IdiomCopy
namespace Go.Proofs.Ytpjigcccjiidpaa.Ex
open Go.RowKit Go.Lib Go.Deep

/-- bytes in a row of their own, with room behind them -/
def Bf (w : World) (g cap : Nat) (s : List UInt8) : Prop :=
  ∃ (cur : Array Value) (fr : Nat × Nat), w.heap[g]? = some (.cells cur 5 fr) ∧ (∀ j, j < cap → w.frozen? ⟨g, j, none⟩ = false) ∧ cur.size = cap ∧ s.length ≤ cap ∧ cap ≤ maxLen ∧ cur.toList.take s.length = Lib.byteCells s
theorem frozen_same {w w' : World} {g j : Nat} (hk : w'.heap[g]? = w.heap[g]?) : w'.frozen? ⟨g, j, none⟩ = w.frozen? ⟨g, j, none⟩ := by
  simp [World.frozen?, hk]
theorem Bf.keep {w w' : World} {g cap : Nat} {s : List UInt8} (h : Bf w g cap s) (hk : w'.heap[g]? = w.heap[g]?) : Bf w' g cap s := by
  obtain ⟨cur, fr, h1, h2, h3⟩ := h
  exact ⟨cur, fr, hk.trans h1, fun j hj => (frozen_same hk).trans (h2 j hj), h3⟩
theorem Bf.lt {w : World} {g cap : Nat} {s : List UInt8} (h : Bf w g cap s) : g < w.heap.size := by
  obtain ⟨cur, fr, h1, _⟩ := h
  exact heap_lt h1
theorem Bf.cell {w : World} {g cap : Nat} {s : List UInt8} (h : Bf w g cap s) {i : Nat} {x : UInt8} (hx : s[i]? = some x) : w.cell? ⟨g, i, none⟩ = some (.int .u8 (x.toNat : Int)) := by
  obtain ⟨cur, fr, h1, h2, h3, h4, h5, h6⟩ := h
  have hi := some_lt hx
  have e : (cur.toList.take s.length)[i]? = some (.int .u8 (x.toNat : Int)) := by rw [h6]; simp [Lib.byteCells, hx]
  rw [List.getElem?_take, if_pos hi, Array.getElem?_toList] at e
  rw [cell_of_heap h1]
  exact e
theorem Bf.cut {w : World} {g cap : Nat} {s : List UInt8} (h : Bf w g cap s) {n : Nat} (hn : n ≤ s.length) : Bf w g cap (s.take n) := by
  obtain ⟨cur, fr, h1, h2, h3, h4, h5, h6⟩ := h
  refine ⟨cur, fr, h1, h2, h3, by rw [List.length_take]; omega, h5, ?_⟩
  have e : (cur.toList.take s.length).take n = (Lib.byteCells s).take n := by rw [h6]
  rw [List.take_take, Nat.min_eq_left hn] at e
  rw [List.length_take, Nat.min_eq_left hn, e]
  simp [Lib.byteCells]
theorem Bf.cap_le {w : World} {g cap : Nat} {s : List UInt8} (h : Bf w g cap s) : s.length ≤ cap ∧ cap ≤ maxLen := by
  obtain ⟨cur, fr, h1, h2, h3, h4, h5, h6⟩ := h
  exact ⟨h4, h5⟩
/-- 'string(b[i:i+n])' -/
theorem Bf.text {P : Program} {w : World} {g cap : Nat} {s : List UInt8} (h : Bf w g cap s) (src dst : TypeId) (i c : Nat) (t : List UInt8) (ht : ∀ j x, t[j]? = some x → s[i + j]? = some x) (hs : P.underlying src = some (.slice 5)) (he : P.underlying 5 = some (.int .u8)) (hd : P.underlying dst = some .string) :
    (convert src dst (.slice (some ⟨g, i, none⟩) t.length c)).run P w = .ok (.string (str t)) w :=
  run_convert_bytes_back w src dst 5 ⟨g, i, none⟩ c t hs he hd fun j hj => by
    rw [Addr.add_lit, h.cell (ht j t[j] (List.getElem?_eq_getElem hj))]
theorem bc_len (l : List UInt8) : (Lib.byteCells l).length = l.length := by simp [Lib.byteCells]
/-- bytes laid over a row -/
theorem Bf.over {w : World} {g cap : Nat} {s : List UInt8} (h : Bf w g cap s) {i : Nat} {d : List UInt8} (hi : i + d.length ≤ s.length) : Bf (w.setCells g i (Lib.byteCells d)) g cap (lay s i d) := by
  have hll : (lay s i d).length = s.length := lay_len hi
  obtain ⟨cur, fr, h1, h2, h3, h4, h5, h6⟩ := h
  have e2 : (cur.toList.take i ++ (cur.toList.drop i).take d.length ++ cur.toList.drop (i + d.length)).toArray = cur := by
    rw [List.append_assoc, ← List.drop_drop, List.take_append_drop, List.take_append_drop, Array.toArray_toList]
  have hcl : cur.toList.length = cur.size := Array.length_toList
  have hpl : (cur.toList.take i).length = i := by rw [List.length_take]; omega
  have e1 := setMany_part (cur.toList.take i) ((cur.toList.drop i).take d.length) (cur.toList.drop (i + d.length)) (Lib.byteCells d) (by rw [bc_len, List.length_take, List.length_drop]; omega)
  rw [e2, hpl] at e1
  refine ⟨setMany cur i (Lib.byteCells d), fr, heap_setCells_fr g 5 fr _ _ cur w h1, fun j hj => ?_, ?_, by omega, h5, ?_⟩
  · rw [World.frozen?_setCells]; exact h2 j hj
  · rw [e1]
    simp only [List.size_toArray, List.length_append, List.length_take, List.length_drop, Array.length_toList, bc_len]
    omega
  · rw [e1, hll]
    show (cur.toList.take i ++ Lib.byteCells d ++ cur.toList.drop (i + d.length)).take s.length = _
    have e3 : cur.toList.take i = Lib.byteCells (s.take i) := by
      have e : (cur.toList.take s.length).take i = (Lib.byteCells s).take i := by rw [h6]
      rw [List.take_take, Nat.min_eq_left (by omega)] at e
      rw [e]; simp [Lib.byteCells]
    have e4 : (cur.toList.drop (i + d.length)).take (s.length - (i + d.length)) = Lib.byteCells (s.drop (i + d.length)) := by
      rw [← List.drop_take, h6]; simp [Lib.byteCells]
    have hA : (cur.toList.take i ++ Lib.byteCells d).length = i + d.length := by rw [List.length_append, hpl, bc_len]
    rw [List.take_append, List.take_of_length_le (by omega), hA, e4, e3]
    unfold lay
    simp [Lib.byteCells]
theorem zeros_bytes (k : Nat) : (Builtin.zeroCells (Value.int .u8 0).cells k).toList = Lib.byteCells (List.replicate k 0) := by
  apply List.ext_getElem
  · simp [Lib.byteCells, size_zeroCells, Value.cells]
  · intro i h1 h2
    simp [Builtin.zeroCells, Lib.byteCells, Value.cells, Nat.mod_one]
theorem only_setCells {w : World} {b : Nat} (o : Nat) (vs : List Value) : Only [b] w (w.setCells b o vs) := Only.setCells (Only.refl _ _) (by simp) o vs
/-- 'append(b, make([]byte, k)...)' -/
theorem run_grow {w : World} {g cap : Nat} {s : List UInt8} (h : Bf w g cap s) (k : Nat) (h0 : 0 < k) (hk : s.length + k ≤ 1099511627776) (t tn ty : TypeId) (ht : Try.prog.underlying t = some (.slice 5)) (htn : Try.prog.underlying tn = some (.int .i64)) :
    ∃ g' cap' w', (Builtin.append_ #[t, tn] ty #[.slice (some ⟨g, 0, none⟩) s.length cap, .int .i64 k]).run Try.prog w = .ok (.slice (some ⟨g', 0, none⟩) (s.length + k) cap') w' ∧ Bf w' g' cap' (s ++ List.replicate k 0) ∧ (g' = g ∨ w.heap.size ≤ g') ∧ Only [g] w w' := by
  obtain ⟨i, hi, hz, hs1, hb1⟩ := info_parts info5
  have hB := h
  obtain ⟨cur, fr, h1, h2, h3, h4, h5, h6⟩ := h
  have hzb := zeros_bytes k
  have hcl : cur.toList.length = cur.size := Array.length_toList
  by_cases hroom : s.length + k ≤ cap
  · have hone : ∀ u ∈ Lib.byteCells (List.replicate k 0), u.oneCell' = true := bytes_one _
    have hln : (Lib.byteCells (List.replicate k 0)).length = k := by rw [bc_len, List.length_replicate]
    have hst := run_storeCells_cells (P := Try.prog) g s.length (Lib.byteCells (List.replicate k 0)) 0 w (fun j hj => by
        rw [hln] at hj
        rw [cell_of_heap h1, Array.getElem?_eq_getElem (by omega)]; rfl) (fun j hj => h2 _ (by rw [hln] at hj; omega)) hone
    have hw : IntKind.i64.wrap (k : Int) = k := by rw [IntKind.wrap_i64]; omega
    have hk0 : k ≠ 0 := by omega
    have hneg : ¬ ((k : Int) < 0) := by omega
    have h48 : ¬ (281474976710656 < (k : Int)) := by omega
    rw [Nat.add_zero, ← hzb] at hst
    refine ⟨g, cap, w.setCells g s.length (Lib.byteCells (List.replicate k 0)), ?_, ?_, .inl rfl, only_setCells _ _⟩
    · simp [Builtin.append_, run_underlying ht, run_underlying htn, sizeOf, typeInfo, zeroValue, hi, hz, asInt, asIntOf, hw, hneg, hs1, hb1, hk0, h48, hroom, Addr.add_lit]
      rw [hst, ← hzb]
      simp [Result.andThen]
    · have e1 := setMany_part (cur.toList.take s.length) ((cur.toList.drop s.length).take k) (cur.toList.drop (s.length + k)) (Lib.byteCells (List.replicate k 0)) (by rw [hln, List.length_take, List.length_drop]; omega)
      have e2 : (cur.toList.take s.length ++ (cur.toList.drop s.length).take k ++ cur.toList.drop (s.length + k)).toArray = cur := by
        rw [List.append_assoc, ← List.drop_drop, List.take_append_drop, List.take_append_drop, Array.toArray_toList]
      have hpl : (cur.toList.take s.length).length = s.length := by rw [List.length_take]; omega
      rw [e2, hpl] at e1
      refine ⟨setMany cur s.length (Lib.byteCells (List.replicate k 0)), fr, heap_setCells_fr g 5 fr _ _ cur w h1, fun j hj => ?_, ?_, by rw [List.length_append, List.length_replicate]; exact hroom, h5, ?_⟩
      · rw [World.frozen?_setCells]; exact h2 j hj
      · rw [e1]
        simp only [List.size_toArray, List.length_append, List.length_drop, hpl, hln]
        omega
      · rw [e1, h6, List.length_append, List.length_replicate]
        show (Lib.byteCells s ++ Lib.byteCells (List.replicate k 0) ++ cur.toList.drop (s.length + k)).take (s.length + k) = _
        rw [List.take_left' (by rw [List.length_append, bc_len, hln])]
        simp [Lib.byteCells]
  · have hold : (Builtin.firstCells i.size s.length (.slice (some ⟨g, 0, none⟩) s.length cap)).run Try.prog w.drew = .ok (Lib.byteCells s).toArray w.drew := by
      refine run_firstCells_some (P := Try.prog) w.drew i.size s.length ⟨g, 0, none⟩ s.length cap (Lib.byteCells s) (by rw [bc_len, hs1]; omega) (fun j u hu => ?_)
      rw [Addr.add_lit, Nat.zero_add]
      have hj := some_lt hu
      rw [bc_len] at hj
      have := hB.cell (List.getElem?_eq_getElem hj)
      rw [show w.drew.cell? ⟨g, j, none⟩ = w.cell? ⟨g, j, none⟩ from rfl, this, ← hu]
      simp [Lib.byteCells, hj]
    have hfit : Builtin.nextslicecap (s.length + k) cap * i.bytes ≤ 281474976710656 := by
      have := growslice_fits (need := s.length + k) (old := cap) (bytes := i.bytes) (by omega) (by rw [hb1]; omega)
      omega
    have hr := run_append_grow_zeros (P := Try.prog) w t tn ty 5 i (.int .u8 0) .i64 .i64 ht htn hi hz (some ⟨g, 0, none⟩) s.length cap (Lib.byteCells s) hold k h0 (by omega) (by omega) (by omega) (by rw [hb1]; omega) hfit
    have hge := grownCap_ge w (s.length + k) cap 5
    have hcm : grownCap w (s.length + k) cap 5 ≤ maxLen := grownCap_le_maxLen w (s.length + k) cap 5 (by unfold maxLen; omega)
    refine ⟨_, _, _, hr, ?_, .inr (Nat.le_refl _), ⟨rfl, rfl, rfl, by simp, fun j hj _ => Below.heap_alloc w.drew _ j hj⟩⟩
    refine ⟨_, _, heap_new w.drew _, fun j hj => frozen_of_heap (heap_new w.drew _), ?_, by rw [List.length_append, List.length_replicate]; exact hge, hcm, ?_⟩
    · simp only [Array.size_append, List.size_toArray, size_zeroCells, bc_len]
      have : (Value.int IntKind.u8 0).cells.size = 1 := rfl
      rw [this]
      omega
    · rw [List.length_append, List.length_replicate]
      simp only [Array.toList_append, List.append_assoc, hzb]
      rw [← List.append_assoc, List.take_left' (by rw [List.length_append, bc_len, bc_len, List.length_replicate])]
      simp [Lib.byteCells]
end Go.Proofs.Ytpjigcccjiidpaa.Ex
