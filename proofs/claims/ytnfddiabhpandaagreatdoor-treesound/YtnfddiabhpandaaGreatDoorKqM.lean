import Derived.Test.YtnfddiabhpandaaGreatDoorNdM
import Derived.Test.YtnfddiabhpandaaGreatDoorNfM
import Derived.Test.YtnfddiabhpandaaGreatDoorLyM
namespace Go.Proofs.YtnfddiabhpandaaGreatDoor.Tr
open Go.RowKit Go.Lib Go.Deep

theorem zeros_list (cs : Array Value) : ∀ k, (Builtin.zeroCells cs k).toList = (List.replicate k cs.toList).flatten
  | 0 => by simp [Builtin.zeroCells]
  | k + 1 => by
    have ih := zeros_list cs k
    simp only [Builtin.zeroCells, Array.toList_map, Array.toList_range] at ih ⊢
    rw [Nat.succ_mul, List.range_add, List.map_append, ih, List.replicate_succ', List.flatten_append]
    congr 1
    rw [List.map_map]
    simp only [List.flatten_cons, List.flatten_nil, List.append_nil]
    apply List.ext_getElem
    · simp
    · intro i h1 h2
      have hi : i < cs.size := by simpa using h2
      have hm : (k * cs.size + i) % cs.size = i := by rw [Nat.mul_comm, Nat.mul_add_mod, Nat.mod_eq_of_lt hi]
      simp only [List.getElem_map, List.getElem_range, Function.comp, hm]
      simp [hi]
theorem rwsC_rep (z : Rw) : ∀ k, rwsC (List.replicate k z) = (List.replicate k (rwC z)).flatten
  | 0 => rfl
  | k + 1 => by rw [List.replicate_succ, List.replicate_succ, List.flatten_cons, ← rwsC_rep z k]; rfl
theorem rep_get {rs : List Rw} {z : Rw} {i k : Nat} (hk : i + 1 = rs.length + k) (h1 : 1 ≤ k) : (rs ++ List.replicate k z)[i]? = some z := by
  rw [List.getElem?_append_right (by omega), List.getElem?_replicate, if_pos (by omega)]
/-- a table with a row at or beyond its end -/
def gapR (rs : List Rw) (i : Nat) (z r : Rw) : List Rw := (rs ++ List.replicate (i + 1 - rs.length) z).set i r
theorem zg_d (k : Nat) : (Builtin.zeroCells (Value.agg #[.bool false, .int .i64 0, .string { data := #[] }, .map none]).cells k).toList = rwsC (List.replicate k (⟨false, 0, e0, .map none⟩ : Rw)) := by
  rw [zeros_list, rwsC_rep]
  rfl
set_option maxRecDepth 20000 in
set_option maxHeartbeats 1000000 in
theorem claimG_d (w : World) (q room : Nat) (A : Array Value) (v : Value) (rs : List Rw) (hq : w.heap[q]? = some (.cells A 125 (0, 0))) (a0 : A[0]? = some (.int .i64 (room : Int))) (a1 : A[1]? = some v)
    (h : w.ownsRow 0 172 4 v rs.length (rwsC rs)) (hl : rs.length ≤ 65536) (i : Nat) (hle : rs.length ≤ i) (hroom : i < room) (hrm : room ≤ 70000) (p : Nat) (n : ByteArray) (y : Option Nat) :
    Calls Tryz.prog 73 #[.pointer (some ⟨q, 0, none⟩), .int .i64 (i : Int), .agg #[.int .i64 (p : Int), .string n, .map y]] w fun e w' => e = .returned (.bool true) ∧ ∃ v', Clm w w' q A 1 v 172 (gapR rs i ⟨false, 0, e0, .map none⟩ ⟨true, p, n, .map y⟩) v' := by
  have hb : Below w.heap.size w (w.alloc (.cells #[.int .i64 (p : Int), .string n, .map y] 131)) := (Below.refl _ _).alloc (Nat.le_refl _) _
  have hq' := (hb.block _ (heap_lt hq)).trans hq
  have h' := h.below0 hb
  have c0 := (cell_of_heap (j := 0) hq').trans a0
  have c1 := (cell_of_heap (j := 1) hq').trans a1
  have fq : (w.alloc (.cells #[.int .i64 (p : Int), .string n, .map y] 131)).frozen? ⟨q, 1, none⟩ = false := frozen_of_heap hq'
  have hhas := has_d _ q v rs c1 h' (by omega) i
  have hno : hasR rs i = false := by
    unfold hasR
    cases hr : rs[i]? with
    | none => simp [hr]
    | some r => exact absurd (List.getElem?_eq_some_iff.1 hr).1 (by omega)
  rw [hno] at hhas
  have hri : (i : Int) < (room : Int) := by omega
  obtain ⟨ad, cap, rfl⟩ := rows_form h
  obtain ⟨k, hk, hk1⟩ : ∃ k, i + 1 = rs.length + k ∧ 1 ≤ k := ⟨i + 1 - rs.length, by omega, by omega⟩
  obtain ⟨i0, hi, hz0, hz1, hz2⟩ := info_parts infodR
  have HP : Hid (∀ w3 v', w3.ownsRow 0 172 4 v' (rs.length + k) (rwsC rs ++ (Builtin.zeroCells (Value.agg #[.bool false, .int .i64 0, .string { data := #[] }, .map none]).cells k).toList) → (w.alloc (.cells #[.int .i64 (p : Int), .string n, .map y] 131)).grownBy w3 (Value.slice ad rs.length cap).ownBlock → (v'.ownBlock = (Value.slice ad rs.length cap).ownBlock ∨ v'.ownBlock = some (w.alloc (.cells #[.int .i64 (p : Int), .string n, .map y] 131)).heap.size) →
      ∃ g cp, v' = .slice (some ⟨g, 0, none⟩) (rs.length + k) cp ∧ (∃ c, w3.cell? ⟨q, 1, none⟩ = some c) ∧ w3.frozen? ⟨q, 1, none⟩ = false ∧ (w3.setCell ⟨q, 1, none⟩ v').cell? ⟨w.heap.size, 0, none⟩ = some (.int .i64 (p : Int)) ∧ (w3.setCell ⟨q, 1, none⟩ v').cell? ⟨w.heap.size, 1, none⟩ = some (.string n) ∧ (w3.setCell ⟨q, 1, none⟩ v').cell? ⟨w.heap.size, 2, none⟩ = some (.map y) ∧
        Calls Tryz.prog 91 #[.pointer (some ⟨q, 0, none⟩), .int .i64 (i : Int), .agg #[.int .i64 (p : Int), .string n, .map y]] (w3.setCell ⟨q, 1, none⟩ v') fun e w' => e = .returned (.tuple #[]) ∧ Clm w w' q A 1 (.slice ad rs.length cap) 172 (gapR rs i ⟨false, 0, e0, .map none⟩ ⟨true, p, n, .map y⟩) v') := fun w3 v' hown hg hvv => by
    rw [zg_d k] at hown
    have hrs : rwsC rs ++ rwsC (List.replicate k (⟨false, 0, e0, .map none⟩ : Rw)) = rwsC (rs ++ List.replicate k (⟨false, 0, e0, .map none⟩ : Rw)) := (rwsC_append _ _).symm
    have hln : (rs ++ List.replicate k (⟨false, 0, e0, .map none⟩ : Rw)).length = rs.length + k := by simp
    rw [hrs, ← hln] at hown
    obtain ⟨g, cp, rfl⟩ := rows_form2 hown (i := i) (r := ⟨false, 0, e0, .map none⟩) (rep_get hk hk1)
    have hne : some q ≠ (Value.slice ad rs.length cap).ownBlock := fun e => by
      obtain ⟨cur, hc⟩ := owns_block h e.symm
      rw [hq] at hc
      injection hc with hc
      injection hc with _ hc _
      cases hc
    have hq3 : w3.heap[q]? = some (.cells A 125 (0, 0)) := (hg.block q (heap_lt hq') hne).trans hq'
    have hq4 := heap_setCell_same w3 q 1 A _ (.slice (some ⟨g, 0, none⟩) (rs ++ List.replicate k (⟨false, 0, e0, .map none⟩ : Rw)).length cp) hq3
    have hgq : g ≠ q := fun e => by
      obtain ⟨cur, hc⟩ := owns_block hown (show (Value.slice (some ⟨g, 0, none⟩) (rs ++ List.replicate k (⟨false, 0, e0, .map none⟩ : Rw)).length cp).ownBlock = some g from rfl)
      rw [e, hq3] at hc
      injection hc with hc
      injection hc with _ hc _
      cases hc
    have hA : 1 < A.size := by
      rcases Nat.lt_or_ge 1 A.size with h1 | h1
      · exact h1
      · rw [Array.getElem?_eq_none h1] at a1; cases a1
    have hown4 : (w3.setCell ⟨q, 1, none⟩ (.slice (some ⟨g, 0, none⟩) (rs ++ List.replicate k (⟨false, 0, e0, .map none⟩ : Rw)).length cp)).ownsRow 0 172 4 (.slice (some ⟨g, 0, none⟩) (rs ++ List.replicate k (⟨false, 0, e0, .map none⟩ : Rw)).length cp) (rs ++ List.replicate k (⟨false, 0, e0, .map none⟩ : Rw)).length (rwsC (rs ++ List.replicate k (⟨false, 0, e0, .map none⟩ : Rw))) := owns_keep hown fun k hk => by
      injection hk with hk
      subst hk
      exact heap_setCell_other _ _ _ _ hgq
    have c14 : (w3.setCell ⟨q, 1, none⟩ (.slice (some ⟨g, 0, none⟩) (rs ++ List.replicate k (⟨false, 0, e0, .map none⟩ : Rw)).length cp)).cell? ⟨q, 1, none⟩ = some (.slice (some ⟨g, 0, none⟩) (rs ++ List.replicate k (⟨false, 0, e0, .map none⟩ : Rw)).length cp) := by
      rw [cell_of_heap hq4, Array.getElem?_setIfInBounds, if_pos rfl, if_pos hA]
    have hp4 : (w3.setCell ⟨q, 1, none⟩ (.slice (some ⟨g, 0, none⟩) (rs ++ List.replicate k (⟨false, 0, e0, .map none⟩ : Rw)).length cp)).heap[w.heap.size]? = some (.cells #[.int .i64 (p : Int), .string n, .map y] 131 (0, 0)) := by
      rw [heap_setCell_other _ _ _ _ (fun e => Nat.lt_irrefl _ (e ▸ heap_lt hq)), hg.block w.heap.size (by simp) (fun e => ?_)]
      · exact heap_new w _
      · obtain ⟨cur, hc⟩ := owns_block h e.symm
        exact Nat.lt_irrefl _ (heap_lt hc)
    refine ⟨g, cp, by rw [hln], ⟨_, (cell_of_heap hq3).trans a1⟩, frozen_of_heap hq3, (cell_of_heap (j := 0) hp4).trans rfl, (cell_of_heap (j := 1) hp4).trans rfl, (cell_of_heap (j := 2) hp4).trans rfl, (set_d _ q g cp (rs ++ List.replicate k (⟨false, 0, e0, .map none⟩ : Rw)) c14 hown4 (by rw [hln]; omega) i (by rw [hln]; omega) p n y).mono ?_⟩
    rintro e w' ⟨rfl, w0, hb0, rfl⟩
    refine ⟨rfl, ?_⟩
    obtain ⟨r1, r2⟩ := rows_put (hown4.below0 hb0) i ⟨true, p, n, .map y⟩
    have hwsz : w.heap.size ≤ w3.heap.size := Nat.le_trans hb.size hg.size
    have ho3 : Only (q :: (Value.slice ad rs.length cap).ownBlock.toList) w w3 := only_grown (only_below (Only.refl _ _) hb) hg (fun k e => .inl (by simp [e]))
    have ho4 : Only (q :: (Value.slice ad rs.length cap).ownBlock.toList) w (w3.setCell ⟨q, 1, none⟩ (.slice (some ⟨g, 0, none⟩) (rs ++ List.replicate k (⟨false, 0, e0, .map none⟩ : Rw)).length cp)) := ho3.trans ((only_set _).mono (by intro k hk; simp at hk; simp [hk]))
    have hgv : (Value.slice ad rs.length cap).ownBlock = some g ∨ w.heap.size ≤ g := by
      rcases hvv with h1 | h1
      · exact .inl (h1.symm.trans rfl)
      · right
        have h2 : some g = some (w.alloc (.cells #[.int .i64 (p : Int), .string n, .map y] 131)).heap.size := h1
        injection h2 with h2
        rw [h2]
        exact hb.size
    refine ⟨?_, ?_, only_grown (only_below ho4 hb0) r2 (fun k e => ?_), fun k e => ?_⟩
    · rw [r2.block q (Nat.lt_of_lt_of_le (heap_lt hq4) hb0.size) (fun e => hgq (by injection e with e; exact e.symm)), hb0.block q (heap_lt hq4), hq4, hln]
    · unfold gapR
      rw [show i + 1 - rs.length = k by omega, List.length_set]
      exact r1
    · injection e with e
      subst e
      rcases hgv with h1 | h1
      · exact .inl (by simp [h1])
      · exact .inr h1
    · injection e with e
      subst e
      exact hgv
  generalize gapR rs i ⟨false, 0, e0, .map none⟩ ⟨true, p, n, .map y⟩ = rs' at *
  have hm : (i : Int) + 1 - (rs.length : Int) = (k : Int) := by omega
  have hm2 : (0 : Int) < (k : Int) := by omega
  generalize rwsC rs = xs at *
  generalize rs.length = N at *
  have h1c : ∀ u ∈ (Builtin.zeroCells (Value.agg #[.bool false, .int .i64 0, .string { data := #[] }, .map none]).cells k).toList, u.oneCell' = true := by
    rw [zg_d k, rwsC_rep]
    intro u hu
    obtain ⟨l, hl1, hl2⟩ := List.mem_flatten.1 hu
    rw [List.eq_of_mem_replicate hl1] at hl2
    simp only [rwC, List.mem_cons, List.not_mem_nil, or_false] at hl2
    rcases hl2 with rfl | rfl | rfl | rfl <;> rfl
  have hsz : 0 ≤ (w.alloc (.cells #[.int .i64 (p : Int), .string n, .map y] 131)).heap.size := Nat.zero_le _
  clear hno hq hq' a0 a1 hle h hb
  go_enter Tryz.func73, Tryz.ntmps73
  go_wp2_with fail
  refine hhas.mono ?_
  rintro e w4 ⟨rfl, h4⟩
  rw [h4]
  clear h4 w4 hhas
  go_wp2_with (first
    | (go_at_call 91; refine hcall.mono ?_; rintro e w5 ⟨rfl, hP⟩; have HP2 : Hid _ := hP; clear hP hcall hc hfz i0' i1' i2')
    | (at_builtin; refine wpList_append_own_zeros _ rfl _ _ 118 3 rfl 0 172 i0 (Value.agg #[.bool false, .int .i64 0, .string { data := #[] }, .map none]) 4 40 .i64 .i64 Tryz.underlying118 Tryz.underlying3 hi hz0 hz1 hz2 rfl (by decide) _ N xs rfl h' k (by first | rfl | (simp; done)) (by omega) h1c (by unfold maxLen; omega) (by omega) hsz ?_; intro v' w3 hown hg hvv; obtain ⟨g, cp, rfl, ⟨c, hc⟩, hfz, i0', i1', i2', hcall⟩ := HP.out w3 v' hown hg hvv; clear hown hg hvv HP))
  go_ret
  exact ⟨rfl, _, HP2.out⟩
theorem zg_f (k : Nat) : (Builtin.zeroCells (Value.agg #[.bool false, .int .i64 0, .string { data := #[] }, .int .i64 0]).cells k).toList = rwsC (List.replicate k (⟨false, 0, e0, .int .i64 0⟩ : Rw)) := by
  rw [zeros_list, rwsC_rep]
  rfl
set_option maxRecDepth 20000 in
set_option maxHeartbeats 1000000 in
theorem claimG_f (w : World) (q room : Nat) (A : Array Value) (v : Value) (rs : List Rw) (hq : w.heap[q]? = some (.cells A 125 (0, 0))) (a0 : A[3]? = some (.int .i64 (room : Int))) (a1 : A[4]? = some v)
    (h : w.ownsRow 0 176 4 v rs.length (rwsC rs)) (hl : rs.length ≤ 65536) (i : Nat) (hle : rs.length ≤ i) (hroom : i < room) (hrm : room ≤ 70000) (p : Nat) (n : ByteArray) (y : Int) :
    Calls Tryz.prog 125 #[.pointer (some ⟨q, 3, none⟩), .int .i64 (i : Int), .agg #[.int .i64 (p : Int), .string n, .int .i64 y]] w fun e w' => e = .returned (.bool true) ∧ ∃ v', Clm w w' q A 4 v 176 (gapR rs i ⟨false, 0, e0, .int .i64 0⟩ ⟨true, p, n, .int .i64 y⟩) v' := by
  have hb : Below w.heap.size w (w.alloc (.cells #[.int .i64 (p : Int), .string n, .int .i64 y] 136)) := (Below.refl _ _).alloc (Nat.le_refl _) _
  have hq' := (hb.block _ (heap_lt hq)).trans hq
  have h' := h.below0 hb
  have c0 := (cell_of_heap (j := 3) hq').trans a0
  have c1 := (cell_of_heap (j := 4) hq').trans a1
  have fq : (w.alloc (.cells #[.int .i64 (p : Int), .string n, .int .i64 y] 136)).frozen? ⟨q, 4, none⟩ = false := frozen_of_heap hq'
  have hhas := has_f _ q v rs c1 h' (by omega) i
  have hno : hasR rs i = false := by
    unfold hasR
    cases hr : rs[i]? with
    | none => simp [hr]
    | some r => exact absurd (List.getElem?_eq_some_iff.1 hr).1 (by omega)
  rw [hno] at hhas
  have hri : (i : Int) < (room : Int) := by omega
  obtain ⟨ad, cap, rfl⟩ := rows_form h
  obtain ⟨k, hk, hk1⟩ : ∃ k, i + 1 = rs.length + k ∧ 1 ≤ k := ⟨i + 1 - rs.length, by omega, by omega⟩
  obtain ⟨i0, hi, hz0, hz1, hz2⟩ := info_parts infofR
  have HP : Hid (∀ w3 v', w3.ownsRow 0 176 4 v' (rs.length + k) (rwsC rs ++ (Builtin.zeroCells (Value.agg #[.bool false, .int .i64 0, .string { data := #[] }, .int .i64 0]).cells k).toList) → (w.alloc (.cells #[.int .i64 (p : Int), .string n, .int .i64 y] 136)).grownBy w3 (Value.slice ad rs.length cap).ownBlock → (v'.ownBlock = (Value.slice ad rs.length cap).ownBlock ∨ v'.ownBlock = some (w.alloc (.cells #[.int .i64 (p : Int), .string n, .int .i64 y] 136)).heap.size) →
      ∃ g cp, v' = .slice (some ⟨g, 0, none⟩) (rs.length + k) cp ∧ (∃ c, w3.cell? ⟨q, 4, none⟩ = some c) ∧ w3.frozen? ⟨q, 4, none⟩ = false ∧ (w3.setCell ⟨q, 4, none⟩ v').cell? ⟨w.heap.size, 0, none⟩ = some (.int .i64 (p : Int)) ∧ (w3.setCell ⟨q, 4, none⟩ v').cell? ⟨w.heap.size, 1, none⟩ = some (.string n) ∧ (w3.setCell ⟨q, 4, none⟩ v').cell? ⟨w.heap.size, 2, none⟩ = some (.int .i64 y) ∧
        Calls Tryz.prog 159 #[.pointer (some ⟨q, 3, none⟩), .int .i64 (i : Int), .agg #[.int .i64 (p : Int), .string n, .int .i64 y]] (w3.setCell ⟨q, 4, none⟩ v') fun e w' => e = .returned (.tuple #[]) ∧ Clm w w' q A 4 (.slice ad rs.length cap) 176 (gapR rs i ⟨false, 0, e0, .int .i64 0⟩ ⟨true, p, n, .int .i64 y⟩) v') := fun w3 v' hown hg hvv => by
    rw [zg_f k] at hown
    have hrs : rwsC rs ++ rwsC (List.replicate k (⟨false, 0, e0, .int .i64 0⟩ : Rw)) = rwsC (rs ++ List.replicate k (⟨false, 0, e0, .int .i64 0⟩ : Rw)) := (rwsC_append _ _).symm
    have hln : (rs ++ List.replicate k (⟨false, 0, e0, .int .i64 0⟩ : Rw)).length = rs.length + k := by simp
    rw [hrs, ← hln] at hown
    obtain ⟨g, cp, rfl⟩ := rows_form2 hown (i := i) (r := ⟨false, 0, e0, .int .i64 0⟩) (rep_get hk hk1)
    have hne : some q ≠ (Value.slice ad rs.length cap).ownBlock := fun e => by
      obtain ⟨cur, hc⟩ := owns_block h e.symm
      rw [hq] at hc
      injection hc with hc
      injection hc with _ hc _
      cases hc
    have hq3 : w3.heap[q]? = some (.cells A 125 (0, 0)) := (hg.block q (heap_lt hq') hne).trans hq'
    have hq4 := heap_setCell_same w3 q 4 A _ (.slice (some ⟨g, 0, none⟩) (rs ++ List.replicate k (⟨false, 0, e0, .int .i64 0⟩ : Rw)).length cp) hq3
    have hgq : g ≠ q := fun e => by
      obtain ⟨cur, hc⟩ := owns_block hown (show (Value.slice (some ⟨g, 0, none⟩) (rs ++ List.replicate k (⟨false, 0, e0, .int .i64 0⟩ : Rw)).length cp).ownBlock = some g from rfl)
      rw [e, hq3] at hc
      injection hc with hc
      injection hc with _ hc _
      cases hc
    have hA : 4 < A.size := by
      rcases Nat.lt_or_ge 4 A.size with h1 | h1
      · exact h1
      · rw [Array.getElem?_eq_none h1] at a1; cases a1
    have hown4 : (w3.setCell ⟨q, 4, none⟩ (.slice (some ⟨g, 0, none⟩) (rs ++ List.replicate k (⟨false, 0, e0, .int .i64 0⟩ : Rw)).length cp)).ownsRow 0 176 4 (.slice (some ⟨g, 0, none⟩) (rs ++ List.replicate k (⟨false, 0, e0, .int .i64 0⟩ : Rw)).length cp) (rs ++ List.replicate k (⟨false, 0, e0, .int .i64 0⟩ : Rw)).length (rwsC (rs ++ List.replicate k (⟨false, 0, e0, .int .i64 0⟩ : Rw))) := owns_keep hown fun k hk => by
      injection hk with hk
      subst hk
      exact heap_setCell_other _ _ _ _ hgq
    have c14 : (w3.setCell ⟨q, 4, none⟩ (.slice (some ⟨g, 0, none⟩) (rs ++ List.replicate k (⟨false, 0, e0, .int .i64 0⟩ : Rw)).length cp)).cell? ⟨q, 4, none⟩ = some (.slice (some ⟨g, 0, none⟩) (rs ++ List.replicate k (⟨false, 0, e0, .int .i64 0⟩ : Rw)).length cp) := by
      rw [cell_of_heap hq4, Array.getElem?_setIfInBounds, if_pos rfl, if_pos hA]
    have hp4 : (w3.setCell ⟨q, 4, none⟩ (.slice (some ⟨g, 0, none⟩) (rs ++ List.replicate k (⟨false, 0, e0, .int .i64 0⟩ : Rw)).length cp)).heap[w.heap.size]? = some (.cells #[.int .i64 (p : Int), .string n, .int .i64 y] 136 (0, 0)) := by
      rw [heap_setCell_other _ _ _ _ (fun e => Nat.lt_irrefl _ (e ▸ heap_lt hq)), hg.block w.heap.size (by simp) (fun e => ?_)]
      · exact heap_new w _
      · obtain ⟨cur, hc⟩ := owns_block h e.symm
        exact Nat.lt_irrefl _ (heap_lt hc)
    refine ⟨g, cp, by rw [hln], ⟨_, (cell_of_heap hq3).trans a1⟩, frozen_of_heap hq3, (cell_of_heap (j := 0) hp4).trans rfl, (cell_of_heap (j := 1) hp4).trans rfl, (cell_of_heap (j := 2) hp4).trans rfl, (set_f _ q g cp (rs ++ List.replicate k (⟨false, 0, e0, .int .i64 0⟩ : Rw)) c14 hown4 (by rw [hln]; omega) i (by rw [hln]; omega) p n y).mono ?_⟩
    rintro e w' ⟨rfl, w0, hb0, rfl⟩
    refine ⟨rfl, ?_⟩
    obtain ⟨r1, r2⟩ := rows_put (hown4.below0 hb0) i ⟨true, p, n, .int .i64 y⟩
    have hwsz : w.heap.size ≤ w3.heap.size := Nat.le_trans hb.size hg.size
    have ho3 : Only (q :: (Value.slice ad rs.length cap).ownBlock.toList) w w3 := only_grown (only_below (Only.refl _ _) hb) hg (fun k e => .inl (by simp [e]))
    have ho4 : Only (q :: (Value.slice ad rs.length cap).ownBlock.toList) w (w3.setCell ⟨q, 4, none⟩ (.slice (some ⟨g, 0, none⟩) (rs ++ List.replicate k (⟨false, 0, e0, .int .i64 0⟩ : Rw)).length cp)) := ho3.trans ((only_set _).mono (by intro k hk; simp at hk; simp [hk]))
    have hgv : (Value.slice ad rs.length cap).ownBlock = some g ∨ w.heap.size ≤ g := by
      rcases hvv with h1 | h1
      · exact .inl (h1.symm.trans rfl)
      · right
        have h2 : some g = some (w.alloc (.cells #[.int .i64 (p : Int), .string n, .int .i64 y] 136)).heap.size := h1
        injection h2 with h2
        rw [h2]
        exact hb.size
    refine ⟨?_, ?_, only_grown (only_below ho4 hb0) r2 (fun k e => ?_), fun k e => ?_⟩
    · rw [r2.block q (Nat.lt_of_lt_of_le (heap_lt hq4) hb0.size) (fun e => hgq (by injection e with e; exact e.symm)), hb0.block q (heap_lt hq4), hq4, hln]
    · unfold gapR
      rw [show i + 1 - rs.length = k by omega, List.length_set]
      exact r1
    · injection e with e
      subst e
      rcases hgv with h1 | h1
      · exact .inl (by simp [h1])
      · exact .inr h1
    · injection e with e
      subst e
      exact hgv
  generalize gapR rs i ⟨false, 0, e0, .int .i64 0⟩ ⟨true, p, n, .int .i64 y⟩ = rs' at *
  have hm : (i : Int) + 1 - (rs.length : Int) = (k : Int) := by omega
  have hm2 : (0 : Int) < (k : Int) := by omega
  generalize rwsC rs = xs at *
  generalize rs.length = N at *
  have h1c : ∀ u ∈ (Builtin.zeroCells (Value.agg #[.bool false, .int .i64 0, .string { data := #[] }, .int .i64 0]).cells k).toList, u.oneCell' = true := by
    rw [zg_f k, rwsC_rep]
    intro u hu
    obtain ⟨l, hl1, hl2⟩ := List.mem_flatten.1 hu
    rw [List.eq_of_mem_replicate hl1] at hl2
    simp only [rwC, List.mem_cons, List.not_mem_nil, or_false] at hl2
    rcases hl2 with rfl | rfl | rfl | rfl <;> rfl
  have hsz : 0 ≤ (w.alloc (.cells #[.int .i64 (p : Int), .string n, .int .i64 y] 136)).heap.size := Nat.zero_le _
  clear hno hq hq' a0 a1 hle h hb
  go_enter Tryz.func125, Tryz.ntmps125
  go_wp2_with fail
  refine hhas.mono ?_
  rintro e w4 ⟨rfl, h4⟩
  rw [h4]
  clear h4 w4 hhas
  go_wp2_with (first
    | (go_at_call 159; refine hcall.mono ?_; rintro e w5 ⟨rfl, hP⟩; have HP2 : Hid _ := hP; clear hP hcall hc hfz i0' i1' i2')
    | (at_builtin; refine wpList_append_own_zeros _ rfl _ _ 121 3 rfl 0 176 i0 (Value.agg #[.bool false, .int .i64 0, .string { data := #[] }, .int .i64 0]) 4 40 .i64 .i64 Tryz.underlying121 Tryz.underlying3 hi hz0 hz1 hz2 rfl (by decide) _ N xs rfl h' k (by first | rfl | (simp; done)) (by omega) h1c (by unfold maxLen; omega) (by omega) hsz ?_; intro v' w3 hown hg hvv; obtain ⟨g, cp, rfl, ⟨c, hc⟩, hfz, i0', i1', i2', hcall⟩ := HP.out w3 v' hown hg hvv; clear hown hg hvv HP))
  go_ret
  exact ⟨rfl, _, HP2.out⟩

end Go.Proofs.YtnfddiabhpandaaGreatDoor.Tr

namespace Go.Proofs.YtnfddiabhpandaaGreatDoor.Tr
open Go.RowKit Go.Lib Go.Deep

/-- a table with something at or beyond its end -/
def gapL {α : Type} (l : List (Option α)) (x : Nat) (v : Option α) : List (Option α) := (l ++ List.replicate (x + 1 - l.length) none).set x v
theorem gapL_len {α : Type} {l : List (Option α)} {x : Nat} {v : Option α} (hx : l.length ≤ x) : (gapL l x v).length = x + 1 := by
  unfold gapL
  rw [List.length_set, List.length_append, List.length_replicate]
  omega
theorem gapL_get {α : Type} {l : List (Option α)} {x : Nat} {v : Option α} (hx : l.length ≤ x) (j : Nat) : (gapL l x v)[j]? = if j = x then some v else if j < l.length then l[j]? else if j < x then some none else none := by
  unfold gapL
  rw [List.getElem?_set]
  by_cases hj : x = j
  · subst hj
    rw [if_pos rfl, if_pos rfl, if_pos (by rw [List.length_append, List.length_replicate]; omega)]
  · rw [if_neg hj, if_neg (fun e => hj e.symm)]
    by_cases hl : j < l.length
    · rw [if_pos hl, List.getElem?_append_left hl]
    · rw [if_neg hl, List.getElem?_append_right (by omega), List.getElem?_replicate]
      by_cases hj2 : j < x
      · rw [if_pos hj2, if_pos (by omega)]
      · rw [if_neg hj2, if_neg (by omega)]
theorem gapL_some {α : Type} {l : List (Option α)} {x : Nat} {o : α} (hx : l.length ≤ x) {j : Nat} {d : α} : (gapL l x (some o))[j]? = some (some d) ↔ (j = x ∧ d = o) ∨ l[j]? = some (some d) := by
  rw [gapL_get hx]
  by_cases hj : j = x
  · rw [if_pos hj]
    constructor
    · intro h
      injection h with h
      injection h with h
      exact .inl ⟨hj, h.symm⟩
    · rintro (⟨_, rfl⟩ | h)
      · rfl
      · have := (List.getElem?_eq_some_iff.1 h).1
        omega
  · rw [if_neg hj]
    by_cases hl : j < l.length
    · rw [if_pos hl]
      exact ⟨.inr, fun h => h.elim (fun h => absurd h.1 hj) id⟩
    · rw [if_neg hl, List.getElem?_eq_none (by omega)]
      split
      · simp [hj]
      · simp [hj]
theorem gapR_get {rs : List Rw} {x : Nat} {z r : Rw} (hx : rs.length ≤ x) (j : Nat) : (gapR rs x z r)[j]? = if j = x then some r else if j < rs.length then rs[j]? else if j < x then some z else none := by
  unfold gapR
  rw [List.getElem?_set]
  by_cases hj : x = j
  · subst hj
    rw [if_pos rfl, if_pos rfl, if_pos (by rw [List.length_append, List.length_replicate]; omega)]
  · rw [if_neg hj, if_neg (fun e => hj e.symm)]
    by_cases hl : j < rs.length
    · rw [if_pos hl, List.getElem?_append_left hl]
    · rw [if_neg hl, List.getElem?_append_right (by omega), List.getElem?_replicate]
      by_cases hj2 : j < x
      · rw [if_pos hj2, if_pos (by omega)]
      · rw [if_neg hj2, if_neg (by omega)]
theorem fRows_gap (F : List (Option (Nat × ByteArray × Nat))) (x : Nat) (o : Option (Nat × ByteArray × Nat)) (hx : F.length ≤ x) : fRows (gapL F x o) = gapR (fRows F) x ⟨false, 0, e0, .int .i64 0⟩ (fRow o) := by
  apply List.ext_getElem?
  intro j
  rw [fRows_get, gapL_get hx, gapR_get (by rw [fRows_len]; exact hx), fRows_len, fRows_get]
  split
  · rfl
  · split
    · rfl
    · split <;> rfl
theorem dRows_gap (D : List (Option (Nat × ByteArray))) (ms : Nat → Nat) (x : Nat) (o : Option (Nat × ByteArray)) (m : Nat) (hx : D.length ≤ x) : dRows (gapL D x o) (fun i => if i = x then m else ms i) = gapR (dRows D ms) x ⟨false, 0, e0, .map none⟩ (dRow o m) := by
  apply List.ext_getElem?
  intro j
  rw [dRows_get, gapL_get hx, gapR_get (by rw [dRows_len]; exact hx), dRows_len, dRows_get]
  by_cases hj : j = x
  · rw [if_pos hj, if_pos hj, hj, Option.map_some, if_pos rfl]
  · rw [if_neg hj, if_neg hj]
    split
    · simp only
    · split <;> rfl
theorem lay_claimF {w W : World} {q : Nat} {dv fv fv' : Value} {ld lf : Nat} {ms : Nat → Nat} {nn : Nat} {T : Ts} (h : Inn w q dv fv ld lf ms nn T) {x : Nat} (hx : T.F.length ≤ x) (hr : x < T.fr) (o : Nat × ByteArray × Nat) (hC : Clm w W q (stA T dv fv ld lf) 4 fv 176 (gapR (fRows T.F) x ⟨false, 0, e0, .int .i64 0⟩ (fRow (some o))) fv') :
    Turn (fp q dv fv T.D ms) w W q nn { T with F := gapL T.F x (some o) } := by
  have hR := hC.hr
  rw [← fRows_gap T.F x (some o) hx, fRows_len] at hR
  refine ⟨hC.ho.mono (fun k hk => fpF hk), _, ⟨dv, fv', ld, lf, ms, rfl, h.turnF (lf' := lf) (gapL T.F x (some o)) hC.ho hC.hq hR (fun j hj => ?_) ?_ ?_⟩, fun k hk => ?_⟩
  · obtain ⟨d, hd⟩ := h.hlf j hj
    exact ⟨d, (gapL_some hx).2 (.inr hd)⟩
  · rw [gapL_len hx]; have := h.lfl; omega
  · rw [gapL_len hx]; omega
  · rcases mem_fp.1 hk with h1 | h1 | h1 | h1
    · exact .inl (mem_fp.2 (.inl h1))
    · exact .inl (mem_fp.2 (.inr (.inl h1)))
    · rcases hC.hv k h1 with h2 | h2
      · exact .inl (mem_fp.2 (.inr (.inr (.inl h2))))
      · exact .inr h2
    · exact .inl (mem_fp.2 (.inr (.inr (.inr h1))))
theorem lay_claimD {w0 w W : World} {q m : Nat} {dv dv' fv : Value} {ld lf : Nat} {ms : Nat → Nat} {nn : Nat} {T : Ts} (h0 : Inn w0 q dv fv ld lf ms nn T) (hb : Below w0.heap.size w0 w) (hm0 : w0.heap.size ≤ m) (hmm : w.ownsMap Tryz.prog 9 nodeR m 0 (.map [])) {x : Nat} (hx : T.D.length ≤ x) (hME : T.M x = fun _ => none) (hr : x < T.dr) (o : Nat × ByteArray) (hC : Clm w W q (stA T dv fv ld lf) 1 dv 172 (gapR (dRows T.D ms) x ⟨false, 0, e0, .map none⟩ (dRow (some o) m)) dv') :
    Turn (fp q dv fv T.D ms) w0 W q nn { T with D := gapL T.D x (some o) } := by
  have h := h0.below hb
  have hR := hC.hr
  rw [← dRows_gap T.D ms x (some o) m hx, dRows_len] at hR
  have hnew : ∀ (i : Nat) d, T.D[i]? = some (some d) → ms i ≠ m := fun i d hd e => by
    have := h0.lt (mem_fp.2 (.inr (.inr (.inr ⟨i, d, hd, rfl⟩))))
    omega
  have hin : ∀ (i : Nat) d, T.D[i]? = some (some d) → i ≠ x := fun i d hd e => by
    have := (List.getElem?_eq_some_iff.1 hd).1
    omega
  have hmW : W.heap[m]? = w.heap[m]? := by
    obtain ⟨es, cl, h3⟩ := map_block hmm
    refine hC.ho.block m hmm.lt (fun e => ?_)
    simp only [List.mem_cons, Option.mem_toList] at e
    rcases e with e | e
    · rw [e, h.hq] at h3; cases h3
    · obtain ⟨c, hc⟩ := owns_block h.hd e
      rw [hc] at h3; cases h3
  refine ⟨(only_below (Only.refl _ _) hb).trans (hC.ho.mono (fun k hk => fpD hk)), _, ⟨dv', fv, ld, lf, fun i => if i = x then m else ms i, rfl, h.turnD (ld' := ld) (gapL T.D x (some o)) hC.ho hC.hq hR (fun j hj => ?_) ?_ ?_ (fun j d hj => ?_) (fun i j d e hi hj he => ?_)⟩, fun k hk => ?_⟩
  · obtain ⟨d, hd⟩ := h.hld j hj
    exact ⟨d, (gapL_some hx).2 (.inr hd)⟩
  · rw [gapL_len hx]; have := h.ldl; omega
  · rw [gapL_len hx]; omega
  · rcases (gapL_some hx).1 hj with ⟨h1, h2⟩ | h1
    · right
      rw [if_pos h1]
      exact ⟨map_keep hmm hmW, by rw [h1]; exact hME⟩
    · left
      rw [if_neg (hin j d h1)]
      exact ⟨d, h1, rfl⟩
  · rcases (gapL_some hx).1 hi with ⟨h1, h2⟩ | h1 <;> rcases (gapL_some hx).1 hj with ⟨h3, h4⟩ | h3
    · rw [h1, h3]
    · simp only [if_pos h1, if_neg (hin j e h3)] at he
      exact absurd he.symm (hnew j e h3)
    · simp only [if_neg (hin i d h1), if_pos h3] at he
      exact absurd he (hnew i d h1)
    · simp only [if_neg (hin i d h1), if_neg (hin j e h3)] at he
      exact h0.hi i j d e h1 h3 he
  · rcases mem_fp.1 hk with h1 | h1 | h1 | ⟨j, d, h1, h2⟩
    · exact .inl (mem_fp.2 (.inl h1))
    · rcases hC.hv k h1 with h2 | h2
      · exact .inl (mem_fp.2 (.inr (.inl h2)))
      · exact .inr (Nat.le_trans hb.size h2)
    · exact .inl (mem_fp.2 (.inr (.inr (.inl h1))))
    · rcases (gapL_some hx).1 (show (gapL T.D x (some o))[j]? = some (some d) from h1) with ⟨h3, _⟩ | h3
      · rw [if_pos h3] at h2
        exact .inr (by rw [h2]; exact hm0)
      · rw [if_neg (hin j d h3)] at h2
        exact .inl (mem_fp.2 (.inr (.inr (.inr ⟨j, d, h3, h2⟩))))
theorem claimD_any (w0 w : World) (q m : Nat) (F : List Nat) (nn : Nat) (T : Ts) (hL : Lay w0 q F nn T) (hb : Below w0.heap.size w0 w) (hm0 : w0.heap.size ≤ m) (hmm : w.ownsMap Tryz.prog 9 nodeR m 0 (.map [])) (x : Nat) (hx : T.D.length ≤ x) (hME : T.M x = fun _ => none) (hr : x < T.dr) (p : Nat) (n : ByteArray) :
    Calls Tryz.prog 73 #[.pointer (some ⟨q, 0, none⟩), .int .i64 (x : Int), .agg #[.int .i64 (p : Int), .string n, .map (some m)]] w fun e w' => e = .returned (.bool true) ∧ Turn F w0 w' q nn { T with D := gapL T.D x (some (p, n)) } ∧ Only F w w' := by
  obtain ⟨dv, fv, ld, lf, ms, rfl, hI0⟩ := hL
  have hI := hI0.below hb
  refine (claimG_d w q T.dr _ dv (dRows T.D ms) hI.hq rfl rfl hI.hd' (Nat.le_trans hI.lenD (by omega)) x (by rw [dRows_len]; exact hx) hr (by have := hI.lim; omega) p n (some m)).mono ?_
  rintro e w' ⟨rfl, v', hC⟩
  exact ⟨rfl, lay_claimD hI0 hb hm0 hmm hx hME hr (p, n) hC, hC.ho.mono (fun k hk => fpD hk)⟩
theorem claimF_any (w : World) (q : Nat) (F : List Nat) (nn : Nat) (T : Ts) (hL : Lay w q F nn T) (x : Nat) (hx : T.F.length ≤ x) (hr : x < T.fr) (p s : Nat) (n : ByteArray) :
    Calls Tryz.prog 125 #[.pointer (some ⟨q, 3, none⟩), .int .i64 (x : Int), .agg #[.int .i64 (p : Int), .string n, .int .i64 (s : Int)]] w fun e w' => e = .returned (.bool true) ∧ Turn F w w' q nn { T with F := gapL T.F x (some (p, n, s)) } ∧ Only F w w' := by
  obtain ⟨dv, fv, ld, lf, ms, rfl, hI⟩ := hL
  refine (claimG_f w q T.fr _ fv (fRows T.F) hI.hq rfl rfl hI.hf' (Nat.le_trans hI.lenF (by omega)) x (by rw [fRows_len]; exact hx) hr (by have := hI.lim; omega) p n s).mono ?_
  rintro e w' ⟨rfl, v', hC⟩
  exact ⟨rfl, lay_claimF hI hx hr (p, n, s) hC, hC.ho.mono (fun k hk => fpF hk)⟩

end Go.Proofs.YtnfddiabhpandaaGreatDoor.Tr
