import Derived.Test.YtlmopjbfagijeaaGreatDoorYnM
namespace Go.Proofs.YtlmopjbfagijeaaGreatDoor.Sc
open Go.RowKit Go.Lib

/-- a builder in b whose row lies at or beyond R, b ahead of R -/
def BuRAt (T : TypeId) (rest : List Value) (B b : Nat) (p : Value) (l : List UInt8) (w : World) : Prop :=
  b < B ∧ ∃ v, w.heap[b]? = some (.cells (p :: v :: rest).toArray T (0, 0)) ∧ w.ownsRow B 5 1 v l.length (byteCells l) ∧ v.ownBlock ≠ some b ∧ (l = [] → v = .slice none 0 0)
def BuR (T : TypeId) (rest : List Value) (B b : Nat) (l : List UInt8) (w : World) : Prop :=
  BuRAt T rest B b (.pointer none) l w ∨ BuRAt T rest B b (.pointer (some ⟨b, 0, none⟩)) l w
/-- what a write to it leaves -/
structure KeR (B b : Nat) (w w' : World) : Prop where
  size : w.heap.size ≤ w'.heap.size
  blk : ∀ k, k < B → k ≠ b → B ≤ w.heap.size → w'.heap[k]? = w.heap[k]?
  os : w'.os = w.os
  tape : w'.tape = w.tape
  output : w'.output = w.output
theorem KeR.refl (B b : Nat) (w : World) : KeR B b w w := ⟨Nat.le_refl _, fun _ _ _ _ => rfl, rfl, rfl, rfl⟩
theorem KeR.trans {B b : Nat} {w w1 w2 : World} (h : KeR B b w w1) (h' : KeR B b w1 w2) : KeR B b w w2 := ⟨Nat.le_trans h.1 h'.1, fun k hk hb hB => (h'.2 k hk hb (Nat.le_trans hB h.1)).trans (h.2 k hk hb hB), h'.os.trans h.os, h'.tape.trans h.tape, h'.output.trans h.output⟩
theorem KeR.set (B b : Nat) (w : World) (p : Addr) (hp : p.block = b) (v : Value) : KeR B b w (w.setCell p v) := ⟨by simp [World.setCell], fun k _ hb _ => Below.heap_setCell _ _ _ _ (fun e => hb (e.trans hp)), rfl, rfl, rfl⟩
theorem KeR.grown {B b : Nat} {w w' : World} {row : Option Nat} (h : w.grownBy w' row) (_ : B ≤ w.heap.size) (hr : ∀ k, row = some k → B ≤ k) : KeR B b w w' := ⟨h.size, fun k hk _ hB => h.block k (by omega) (fun e => by have := hr k e.symm; omega), h.os, h.tape, h.output⟩
theorem KeR.below {B b : Nat} {w w' : World} (h : Below w.heap.size w w') : KeR B b w w' := ⟨h.size, fun k hk _ hB => h.block k (by omega), h.os, h.tape, h.output⟩
theorem KeR.out {B b : Nat} {w w' : World} (h : KeR B b w w') (hb : b ≤ B) (hB : B ≤ w.heap.size) : Below b w w' := ⟨h.os, h.tape, h.output, h.size, fun k hk => h.blk k (by omega) (by omega) hB⟩
section
variable {T : TypeId} {rest : List Value} {B b : Nat} {p : Value} {l : List UInt8} {w w' : World}
theorem BuRAt.lt (h : BuRAt T rest B b p l w) : b < w.heap.size := by
  obtain ⟨_, v, hb, _⟩ := h
  exact (Array.getElem?_eq_some_iff.1 hb).1
theorem BuRAt.cell0 (h : BuRAt T rest B b p l w) : w.cell? ⟨b, 0, none⟩ = some p := by
  obtain ⟨_, v, hb, _⟩ := h
  rw [cell_of_heap hb]
  simp
theorem BuRAt.shape (h : BuRAt T rest B b p l w) : w.shape? b = some (T, rest.length + 2) := by
  obtain ⟨_, v, hb, _⟩ := h
  simp [World.shape?, hb]
theorem BuRAt.frozen (h : BuRAt T rest B b p l w) (j : Nat) : w.frozen? ⟨b, j, none⟩ = false := by
  obtain ⟨_, v, hb, _⟩ := h
  exact Lib.frozen_of_heap hb j
theorem BuRAt.used (h : BuRAt T rest B b p l w) (q : Value) : BuRAt T rest B b q l (w.setCell ⟨b, 0, none⟩ q) := by
  obtain ⟨hB, v, hb, hown, hne, hn0⟩ := h
  refine ⟨hB, v, ?_, ?_, hne, hn0⟩
  · simp [World.setCell, Array.getElem?_modify, hb]
  · refine hown.kept (row := some b) ⟨rfl, rfl, rfl, by simp [World.setCell], fun k _ hk => Below.heap_setCell _ _ _ _ (fun e => hk (by simp [e]))⟩ ?_
    exact Or.inr hne
theorem BuRAt.put {v v' : Value} {l' : List UInt8} (hT : T ≠ 5) (hB : b < B) (hb : w.heap[b]? = some (.cells (p :: v :: rest).toArray T (0, 0))) (hown : w.ownsRow B 5 1 v' l'.length (byteCells l')) (hn0 : l' = [] → v' = .slice none 0 0) : BuRAt T rest B b p l' (w.setCell ⟨b, 1, none⟩ v') := by
  have hne := ownBlock_ne hown hb hT
  refine ⟨hB, v', ?_, ?_, hne, hn0⟩
  · simp [World.setCell, Array.getElem?_modify, hb]
  · exact hown.kept (row := some b) ⟨rfl, rfl, rfl, by simp [World.setCell], fun k _ hk => Below.heap_setCell _ _ _ _ (fun e => hk (by simp [e]))⟩ (Or.inr hne)
theorem BuR.below (h : BuR T rest B b l w) (hb : Below w.heap.size w w') : BuR T rest B b l w' := by
  have key : ∀ p, BuRAt T rest B b p l w → BuRAt T rest B b p l w' := fun p h => by
    have hlt := h.lt
    obtain ⟨hB, v, hbk, ⟨o1, o2⟩, hne, hn0⟩ := h
    refine ⟨hB, v, (hb.block _ hlt).trans hbk, ⟨o1, ?_⟩, hne, hn0⟩
    rcases o2 with h0 | ⟨g, cap, cur, e1, e2, e3, e4⟩
    · exact .inl h0
    · exact .inr ⟨g, cap, cur, e1, e2, (hb.block _ (Array.getElem?_eq_some_iff.1 e3).1).trans e3, e4⟩
  exact h.elim (fun x => .inl (key _ x)) (fun x => .inr (key _ x))
/-- a step that turns no cells -/
theorem BuR.kept {row : Option Nat} (h : BuR T rest B b l w) (hg : w.grownBy w' row) (hr : ∀ r, row = some r → ∃ o, w.heap[r]? = some o ∧ ∀ cs t fr, o ≠ .cells cs t fr) : BuR T rest B b l w' := by
  have key : ∀ p, BuRAt T rest B b p l w → BuRAt T rest B b p l w' := fun p h => by
    have hlt := h.lt
    obtain ⟨hB, v, hbk, ⟨o1, o2⟩, hne, hn0⟩ := h
    have hk : ∀ (k : Nat) cs t fr, w.heap[k]? = some (.cells cs t fr) → w'.heap[k]? = some (.cells cs t fr) := fun k cs t fr h0 => (hg.block k (Array.getElem?_eq_some_iff.1 h0).1 (fun e => by
      obtain ⟨o, ho, hn⟩ := hr k e.symm
      rw [h0] at ho
      exact hn _ _ _ (Option.some.inj ho).symm)).trans h0
    refine ⟨hB, v, hk _ _ _ _ hbk, ⟨o1, ?_⟩, hne, hn0⟩
    rcases o2 with h0 | ⟨g, cap, cur, e1, e2, e3, e4⟩
    · exact .inl h0
    · exact .inr ⟨g, cap, cur, e1, e2, hk _ _ _ _ e3, e4⟩
  exact h.elim (fun x => .inl (key _ x)) (fun x => .inr (key _ x))
theorem BuR.bu {B0 : Nat} (h : BuR T rest B b l w) (h0 : B0 ≤ b) : Bu T rest B0 b l w := by
  have key : ∀ p, BuRAt T rest B b p l w → BuAt T rest B0 b p l w := fun p h => by
    obtain ⟨hB, v, hbk, ⟨o1, o2⟩, hne, hn0⟩ := h
    refine ⟨h0, v, hbk, ⟨o1, ?_⟩, hne, hn0⟩
    rcases o2 with h0 | ⟨g, cap, cur, e1, e2, e3, e4⟩
    · exact .inl h0
    · exact .inr ⟨g, cap, cur, e1, by omega, e3, e4⟩
  exact h.elim (fun x => .inl (key _ x)) (fun x => .inr (key _ x))
end

set_option maxRecDepth 100000 in
set_option maxHeartbeats 1000000 in
theorem rcheck_any {T : TypeId} {rest : List Value} (hT : OkT T (rest.length + 2)) (B b : Nat) (l : List UInt8) (w : World) (h : BuR T rest B b l w) :
    Calls Tryz.prog 104 #[.pointer (some ⟨b, 0, none⟩)] w fun e w' => e = .returned (.tuple #[]) ∧ (BuRAt T rest B b (.pointer (some ⟨b, 0, none⟩)) l w' ∧ KeR B b w w') ∧ Oth b w w' := by
  obtain ⟨j, hj0, hjs⟩ := Option.map_eq_some_iff.1 bstrExtra.sizeBuilder
  have hj : Tryz.prog.info? 81 = some j := hj0
  clear hj0
  rcases h with h | h
  · have h0 := h.cell0
    have hfz := h.frozen 0
    have hsh := h.shape
    have hB := h.1
    have HU : Hid (BuRAt T rest B b (.pointer (some ⟨b, 0, none⟩)) l (w.setCell ⟨b, 0, none⟩ (.pointer (some ⟨b, 0, none⟩)))) := h.used _
    clear h
    have hlies := hT.lies
    go_enter Tryz.func104, Tryz.ntmps104
    go_wp2
    rw [Lib.run_to_unsafe w ⟨b, 0, none⟩ Tryz.underlying79 Tryz.underlying140 hj (by rw [hjs]; decide) hsh (Nat.zero_lt_succ _)]
    simp only [Result.andThen]
    rw [Oper.upon_value]
    go_wp2
    rw [run_callFunc_extern Tryz.func136 (by kernel_rfl) (by kernel_rfl) (by kernel_rfl) (e := Extern.AbiNoEscape.same) (by kernel_rfl)]
    rw [Lib.run_noEscape]
    simp only [Result.andThen]
    rw [Oper.upon_value]
    go_wp2
    rw [Lib.run_from_unsafe w ⟨b, 0, none⟩ Tryz.underlying140 Tryz.underlying79 hj hsh hlies]
    simp only [Result.andThen]
    rw [Oper.upon_value]
    go_wp2
    go_end0
    exact ⟨rfl, ⟨HU.out, KeR.set B b w ⟨b, 0, none⟩ rfl _⟩, fun k o hk _ h0 => (Below.heap_setCell _ _ _ _ hk).trans h0⟩
  · have h0 := h.cell0
    have HU : Hid (BuRAt T rest B b (.pointer (some ⟨b, 0, none⟩)) l w) := h
    clear h
    go_enter Tryz.func104, Tryz.ntmps104
    go_wp2
    rw [Lib.run_neq_ptr_same w _ Tryz.underlying79 hj]
    go_wp2
    go_end0
    exact ⟨rfl, ⟨HU.out, KeR.refl _ _ _⟩, Oth.refl _ _⟩

set_option maxRecDepth 100000 in
set_option maxHeartbeats 1000000 in
theorem rwrite_any {T : TypeId} {rest : List Value} (hT : OkT T (rest.length + 2)) (B b : Nat) (l : List UInt8) (s : ByteArray) (w : World) (h : BuR T rest B b l w) (hlen : l.length + s.size ≤ 140737488355328) (hBw : B ≤ w.heap.size) :
    Calls Tryz.prog 61 #[.pointer (some ⟨b, 0, none⟩), .string s] w fun e w' => e = .returned (.tuple #[.int .i64 s.size, .nilIface]) ∧ (BuR T rest B b (l ++ s.data.toList) w' ∧ KeR B b w w') ∧ Oth b w w' := by
  obtain ⟨i0, hi, hz0, hz1, hz2⟩ := info_parts info5
  have hck := rcheck_any hT B b l w h
  clear h
  go_enter Tryz.func61, Tryz.ntmps61
  go_wp2_with (go_at_call 104; refine hck.mono ?_)
  rintro e w1 ⟨rfl, ⟨h1, hb1⟩, hk1⟩
  have hlt := h1.lt
  obtain ⟨hB, v, hbk, hown, hne, hn0⟩ := h1
  have HK1 : Hid (Oth b w w1) := hk1
  clear hk1
  have c0 : w1.cell? ⟨b, 0, none⟩ = some (.pointer (some ⟨b, 0, none⟩)) := by rw [Lib.cell_of_heap hbk]; simp
  have c1 : w1.cell? ⟨b, 1, none⟩ = some v := by rw [Lib.cell_of_heap hbk]; simp
  go_wp2_with (at_builtin; refine Lib.wpList_append_own_string _ rfl _ _ 51 9 rfl B 5 i0 Tryz.underlying51 Tryz.underlying9 hi hz0 hz1 hz2 _ _ _ rfl hown s rfl ?c3 ?c4 ?c5 ?_)
  case c3 => unfold maxLen; omega
  case c4 => omega
  case c5 => have := hb1.1; omega
  intro v' w2 hown' hgrow hnil
  have HN : Hid (l ++ s.data.toList = [] → v' = .slice none 0 0) := fun e => by
    obtain ⟨e1, e2⟩ := List.append_eq_nil_iff.1 e
    exact hnil.2 ⟨hn0 e1, by have := congrArg List.length e2; simpa using this⟩
  clear hnil hn0
  have hb2 : w2.heap[b]? = some (.cells (.pointer (some ⟨b, 0, none⟩) :: v :: rest).toArray T (0, 0)) := by
    rw [hgrow.block b hlt (fun e => hne e.symm)]
    exact hbk
  have d0 : w2.cell? ⟨b, 0, none⟩ = some (.pointer (some ⟨b, 0, none⟩)) := by rw [Lib.cell_of_heap hb2]; simp
  have d1 : w2.cell? ⟨b, 1, none⟩ = some v := by rw [Lib.cell_of_heap hb2]; simp
  have f1 : w2.frozen? ⟨b, 1, none⟩ = false := Lib.frozen_of_heap hb2 1
  obtain ⟨ao, n', cap, rfl⟩ : ∃ ao n' cap, v' = .slice ao n' cap := by
    rcases hown'.2 with ⟨hv, _⟩ | ⟨g, cap, cur, hv, _⟩
    · exact ⟨_, _, _, hv⟩
    · exact ⟨_, _, _, hv⟩
  have HO : Hid (w2.ownsRow B 5 1 (.slice ao n' cap) (l ++ s.data.toList).length (byteCells (l ++ s.data.toList))) := by
    have e1 : byteCells (l ++ s.data.toList) = byteCells l ++ Lib.strCells s := by rw [byteCells_append, strCells_bytes]
    have e2 : (l ++ s.data.toList).length = l.length + s.size := by simp
    show World.ownsRow _ _ _ _ _ _ _
    rw [e1, e2]
    exact hown'
  have HB : Hid (KeR B b w w2) := hb1.trans (KeR.grown hgrow (by have := hb1.1; omega) (fun k hk => (hown.lt k hk).1))
  have HG : Hid (Oth b w w2) := HK1.out.trans fun k o hkb ho h0 => (hgrow.block k (Array.getElem?_eq_some_iff.1 h0).1 (fun e => by
    rcases hown.2 with ⟨hv, _⟩ | ⟨g, cap2, cur, hv, _, hg, _⟩
    · rw [hv] at e
      simp [Value.ownBlock] at e
    · rw [hv] at e
      simp [Value.ownBlock] at e
      subst e
      rw [h0] at hg
      exact ho _ _ (Option.some.inj hg))).trans h0
  clear hown' hgrow hown
  go_wp2
  go_ret2
  exact ⟨rfl, ⟨.inr (BuRAt.put hT.ne hB hb2 HO.out HN.out), HB.out.trans (KeR.set B b w2 ⟨b, 1, none⟩ rfl _)⟩, HG.out.trans fun k o hk _ h0 => (Below.heap_setCell _ _ _ _ hk).trans h0⟩

end Go.Proofs.YtlmopjbfagijeaaGreatDoor.Sc
