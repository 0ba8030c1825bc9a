import Derived.Test.YtcochbcaillldaaGreatDoorShS
import Derived.Test.YtcochbcaillldaaGreatDoorBaseM
import Derived.Lib.AppendStr
namespace Go.Proofs.YtcochbcaillldaaGreatDoor.Sc
open Go.RowKit Go.Lib

/-- of what type a block is at whose head a builder lies, and of how many cells -/
structure OkT (T : TypeId) (n : Nat) : Prop where
  ne : T ≠ 5
  lies : liesAt Tryz.prog Tryz.prog.depth T (n / Tryz.prog.cellsOf T) 0 81 1 = true

/-- a builder at the head of the block b, of type T, with more cells behind it -/
def BuAt (T : TypeId) (rest : List Value) (B b : Nat) (p : Value) (l : List UInt8) (w : World) : Prop :=
  B ≤ b ∧ ∃ v, w.heap[b]? = some (.cells (p :: v :: rest).toArray T (0, 0)) ∧ w.ownsRow B 5 1 v l.length (byteCells l) ∧ v.ownBlock ≠ some b ∧ (l = [] → v = .slice none 0 0)
def Bu (T : TypeId) (rest : List Value) (B b : Nat) (l : List UInt8) (w : World) : Prop :=
  BuAt T rest B b (.pointer none) l w ∨ BuAt T rest B b (.pointer (some ⟨b, 0, none⟩)) l w
/-- what a write to the builder in b leaves -/
def Oth (b : Nat) (w w' : World) : Prop := ∀ (k : Nat) (o : Obj), k ≠ b → (∀ cs fr, o ≠ .cells cs 5 fr) → w.heap[k]? = some o → w'.heap[k]? = some o
theorem Oth.refl (b : Nat) (w : World) : Oth b w w := fun _ _ _ _ h => h
theorem Oth.trans {b : Nat} {w w1 w2 : World} (h : Oth b w w1) (h' : Oth b w1 w2) : Oth b w w2 := fun k o hk ho h0 => h' k o hk ho (h k o hk ho h0)
theorem Oth.below {b : Nat} {w w' : World} (h : Below w.heap.size w w') : Oth b w w' := fun k _ _ _ h0 => (h.block k (Array.getElem?_eq_some_iff.1 h0).1).trans h0
theorem Oth.cells {b : Nat} {w w' : World} (h : Oth b w w') {k : Nat} {cs : Array Value} {t : TypeId} {fr : Nat × Nat} (hk : k ≠ b) (ht : t ≠ 5) (h0 : w.heap[k]? = some (.cells cs t fr)) : w'.heap[k]? = some (.cells cs t fr) :=
  h k _ hk (fun cs' fr' e => by injection e with _ e2 _; exact ht e2) h0
theorem Oth.iter {b : Nat} {w w' : World} (h : Oth b w w') {k : Nat} {s : ByteArray} {pos : Nat} (hk : k ≠ b) (h0 : w.heap[k]? = some (.stringIter s pos)) : w'.heap[k]? = some (.stringIter s pos) :=
  h k _ hk (fun cs' fr' e => by cases e) h0
theorem byteCells_len (l : List UInt8) : (byteCells l).length = l.length := by simp [byteCells]
section
variable {T : TypeId} {rest : List Value} {B b : Nat} {p : Value} {l : List UInt8} {w w' : World}
theorem BuAt.lt (h : BuAt T rest B b p l w) : b < w.heap.size := by
  obtain ⟨_, v, hb, _⟩ := h
  exact (Array.getElem?_eq_some_iff.1 hb).1
theorem Bu.at (h : Bu T rest B b l w) : ∃ p, BuAt T rest B b p l w := h.elim (fun h => ⟨_, h⟩) (fun h => ⟨_, h⟩)
theorem Bu.lt (h : Bu T rest B b l w) : b < w.heap.size := by
  obtain ⟨p, h⟩ := h.at
  exact h.lt
theorem BuAt.cell0 (h : BuAt T rest B b p l w) : w.cell? ⟨b, 0, none⟩ = some p := by
  obtain ⟨_, v, hb, _⟩ := h
  rw [cell_of_heap hb]
  simp
theorem BuAt.shape (h : BuAt T rest B b p l w) : w.shape? b = some (T, rest.length + 2) := by
  obtain ⟨_, v, hb, _⟩ := h
  simp [World.shape?, hb]
theorem BuAt.frozen (h : BuAt T rest B b p l w) (j : Nat) : w.frozen? ⟨b, j, none⟩ = false := by
  obtain ⟨_, v, hb, _⟩ := h
  exact Lib.frozen_of_heap hb j
theorem BuAt.used (h : BuAt T rest B b p l w) (q : Value) : BuAt T rest B b q l (w.setCell ⟨b, 0, none⟩ q) := by
  obtain ⟨hB, v, hb, hown, hne, hn0⟩ := h
  refine ⟨hB, v, ?_, ?_, hne, hn0⟩
  · simp [World.setCell, Array.getElem?_modify, hb]
  · refine hown.kept (row := some b) ⟨rfl, rfl, rfl, by simp [World.setCell], fun k _ hk => Below.heap_setCell _ _ _ _ (fun e => hk (by simp [e]))⟩ ?_
    exact Or.inr hne
theorem BuAt.put {v v' : Value} {l' : List UInt8} (hT : T ≠ 5) (hB : B ≤ b) (hb : w.heap[b]? = some (.cells (p :: v :: rest).toArray T (0, 0))) (hown : w.ownsRow B 5 1 v' l'.length (byteCells l')) (hn0 : l' = [] → v' = .slice none 0 0) : BuAt T rest B b p l' (w.setCell ⟨b, 1, none⟩ v') := by
  have hne := ownBlock_ne hown hb hT
  refine ⟨hB, v', ?_, ?_, hne, hn0⟩
  · simp [World.setCell, Array.getElem?_modify, hb]
  · exact hown.kept (row := some b) ⟨rfl, rfl, rfl, by simp [World.setCell], fun k _ hk => Below.heap_setCell _ _ _ _ (fun e => hk (by simp [e]))⟩ (Or.inr hne)
theorem Bu.below (h : Bu T rest B b l w) (hb : Below w.heap.size w w') : Bu T rest B b l w' := by
  have key : ∀ p, BuAt T rest B b p l w → BuAt T rest B b p l w' := fun p h => by
    have hlt := h.lt
    obtain ⟨hB, v, hbk, ⟨o1, o2⟩, hne, hn0⟩ := h
    refine ⟨hB, v, (hb.block _ hlt).trans hbk, ⟨o1, ?_⟩, hne, hn0⟩
    rcases o2 with h0 | ⟨g, cap, cur, e1, e2, e3, e4⟩
    · exact .inl h0
    · exact .inr ⟨g, cap, cur, e1, e2, (hb.block _ (Array.getElem?_eq_some_iff.1 e3).1).trans e3, e4⟩
  exact h.elim (fun x => .inl (key _ x)) (fun x => .inr (key _ x))
theorem Bu.there (h : Bu T rest B b l w) : ∃ v p, w.heap[b]? = some (.cells (p :: v :: rest).toArray T (0, 0)) := by
  obtain ⟨p, _, v, hb, _⟩ := h.at
  exact ⟨v, p, hb⟩
end
theorem Bu.new (T : TypeId) (rest : List Value) (w : World) : Bu T rest w.heap.size w.heap.size [] (w.alloc (.cells (.pointer none :: .slice none 0 0 :: rest).toArray T)) :=
  .inl ⟨Nat.le_refl _, .slice none 0 0, heap_alloc_new _ _, World.ownsRow_nil _ _ _ _, by simp [Value.ownBlock], fun _ => rfl⟩

set_option maxRecDepth 100000 in
set_option maxHeartbeats 1000000 in
theorem bcheck_any {T : TypeId} {rest : List Value} (hT : OkT T (rest.length + 2)) (B b : Nat) (l : List UInt8) (w : World) (h : Bu T rest B b l w) :
    Calls Tryz.prog 104 #[.pointer (some ⟨b, 0, none⟩)] w fun e w' => e = .returned (.tuple #[]) ∧ (BuAt T rest B b (.pointer (some ⟨b, 0, none⟩)) l w' ∧ Below B w w') ∧ Oth b w w' := by
  obtain ⟨j, hj0, hjs⟩ := Option.map_eq_some_iff.1 bstrExtra.sizeBuilder
  have hj : Tryz.prog.info? 81 = some j := hj0
  clear hj0
  rcases h with h | h
  · have h0 := h.cell0
    have hfz := h.frozen 0
    have hsh := h.shape
    have hB := h.1
    have HU : Hid (BuAt T rest B b (.pointer (some ⟨b, 0, none⟩)) l (w.setCell ⟨b, 0, none⟩ (.pointer (some ⟨b, 0, none⟩)))) := h.used _
    clear h
    have hlies := hT.lies
    go_enter Tryz.func104, Tryz.ntmps104
    go_wp2
    rw [Lib.run_to_unsafe w ⟨b, 0, none⟩ Tryz.underlying79 Tryz.underlying140 hj (by rw [hjs]; decide) hsh (Nat.zero_lt_succ _)]
    simp only [Result.andThen]
    rw [Oper.upon_value]
    go_wp2
    rw [run_callFunc_extern Tryz.func136 (by kernel_rfl) (by kernel_rfl) (by kernel_rfl) (e := Extern.AbiNoEscape.same) (by kernel_rfl)]
    rw [Lib.run_noEscape]
    simp only [Result.andThen]
    rw [Oper.upon_value]
    go_wp2
    rw [Lib.run_from_unsafe w ⟨b, 0, none⟩ Tryz.underlying140 Tryz.underlying79 hj hsh hlies]
    simp only [Result.andThen]
    rw [Oper.upon_value]
    go_wp2
    go_end0
    exact ⟨rfl, ⟨HU.out, (Below.refl B w).setCell (p := ⟨b, 0, none⟩) hB _⟩, fun k o hk _ h0 => (Below.heap_setCell _ _ _ _ hk).trans h0⟩
  · have h0 := h.cell0
    have HU : Hid (BuAt T rest B b (.pointer (some ⟨b, 0, none⟩)) l w) := h
    clear h
    go_enter Tryz.func104, Tryz.ntmps104
    go_wp2
    rw [Lib.run_neq_ptr_same w _ Tryz.underlying79 hj]
    go_wp2
    go_end0
    exact ⟨rfl, ⟨HU.out, Below.refl B _⟩, Oth.refl _ _⟩

theorem strCells_bytes (s : ByteArray) : Lib.strCells s = byteCells s.data.toList := by simp [Lib.strCells, byteCells]

set_option maxRecDepth 100000 in
set_option maxHeartbeats 1000000 in
theorem bwrite_any {T : TypeId} {rest : List Value} (hT : OkT T (rest.length + 2)) (B b : Nat) (l : List UInt8) (s : ByteArray) (w : World) (h : Bu T rest B b l w) (hlen : l.length + s.size ≤ 140737488355328) (hBw : B ≤ w.heap.size) :
    Calls Tryz.prog 61 #[.pointer (some ⟨b, 0, none⟩), .string s] w fun e w' => e = .returned (.tuple #[.int .i64 s.size, .nilIface]) ∧ (Bu T rest B b (l ++ s.data.toList) w' ∧ Below B w w') ∧ Oth b w w' := by
  obtain ⟨i0, hi, hz0, hz1, hz2⟩ := info_parts info5
  have hck := bcheck_any hT B b l w h
  clear h
  go_enter Tryz.func61, Tryz.ntmps61
  go_wp2_with (go_at_call 104; refine hck.mono ?_)
  rintro e w1 ⟨rfl, ⟨h1, hb1⟩, hk1⟩
  have hlt := h1.lt
  obtain ⟨hB, v, hbk, hown, hne, hn0⟩ := h1
  have HK1 : Hid (Oth b w w1) := hk1
  clear hk1
  have c0 : w1.cell? ⟨b, 0, none⟩ = some (.pointer (some ⟨b, 0, none⟩)) := by rw [Lib.cell_of_heap hbk]; simp
  have c1 : w1.cell? ⟨b, 1, none⟩ = some v := by rw [Lib.cell_of_heap hbk]; simp
  go_wp2_with (at_builtin; refine Lib.wpList_append_own_string _ rfl _ _ 51 9 rfl B 5 i0 Tryz.underlying51 Tryz.underlying9 hi hz0 hz1 hz2 _ _ _ rfl hown s rfl ?c3 ?c4 ?c5 ?_)
  case c3 => unfold maxLen; omega
  case c4 => omega
  case c5 => have := hb1.size; omega
  intro v' w2 hown' hgrow hnil
  have HN : Hid (l ++ s.data.toList = [] → v' = .slice none 0 0) := fun e => by
    obtain ⟨e1, e2⟩ := List.append_eq_nil_iff.1 e
    exact hnil.2 ⟨hn0 e1, by have := congrArg List.length e2; simpa using this⟩
  clear hnil hn0
  have hb2 : w2.heap[b]? = some (.cells (.pointer (some ⟨b, 0, none⟩) :: v :: rest).toArray T (0, 0)) := by
    rw [hgrow.block b hlt (fun e => hne e.symm)]
    exact hbk
  have d0 : w2.cell? ⟨b, 0, none⟩ = some (.pointer (some ⟨b, 0, none⟩)) := by rw [Lib.cell_of_heap hb2]; simp
  have d1 : w2.cell? ⟨b, 1, none⟩ = some v := by rw [Lib.cell_of_heap hb2]; simp
  have f1 : w2.frozen? ⟨b, 1, none⟩ = false := Lib.frozen_of_heap hb2 1
  obtain ⟨ao, n', cap, rfl⟩ : ∃ ao n' cap, v' = .slice ao n' cap := by
    rcases hown'.2 with ⟨hv, _⟩ | ⟨g, cap, cur, hv, _⟩
    · exact ⟨_, _, _, hv⟩
    · exact ⟨_, _, _, hv⟩
  have HO : Hid (w2.ownsRow B 5 1 (.slice ao n' cap) (l ++ s.data.toList).length (byteCells (l ++ s.data.toList))) := by
    have e1 : byteCells (l ++ s.data.toList) = byteCells l ++ Lib.strCells s := by rw [byteCells_append, strCells_bytes]
    have e2 : (l ++ s.data.toList).length = l.length + s.size := by simp
    show World.ownsRow _ _ _ _ _ _ _
    rw [e1, e2]
    exact hown'
  have HB : Hid (Below B w w2) := hb1.grown hgrow (by have := hb1.size; omega) (fun k hk => (hown.lt k hk).1)
  have HG : Hid (Oth b w w2) := HK1.out.trans fun k o hkb ho h0 => (hgrow.block k (Array.getElem?_eq_some_iff.1 h0).1 (fun e => by
    rcases hown.2 with ⟨hv, _⟩ | ⟨g, cap2, cur, hv, _, hg, _⟩
    · rw [hv] at e
      simp [Value.ownBlock] at e
    · rw [hv] at e
      simp [Value.ownBlock] at e
      subst e
      rw [h0] at hg
      exact ho _ _ (Option.some.inj hg))).trans h0
  clear hown' hgrow hown
  go_wp2
  go_ret2
  exact ⟨rfl, ⟨.inr (BuAt.put hT.ne hB hb2 HO.out HN.out), HB.out.setCell (p := ⟨b, 1, none⟩) hB _⟩, HG.out.trans fun k o hk _ h0 => (Below.heap_setCell _ _ _ _ hk).trans h0⟩

end Go.Proofs.YtcochbcaillldaaGreatDoor.Sc
