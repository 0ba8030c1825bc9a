import Derived.Test.YtlmopjbfagijeaaGreatDoorShS
import Derived.Test.YtlmopjbfagijeaaGreatDoorBaseM
import Derived.Lib.AppendStr
import Derived.Test.YtlmopjbfagijeaaGreatDoorScA
import Derived.Lib.OthersKept
import Derived.BigQuiet
import Derived.Test.YtlmopjbfagijeaaGreatDoorCards
import Derived.Test.YtlmopjbfagijeaaGreatDoorTie
import Derived.Lib.LaidTab
import Derived.WalkKit
import Derived.ProofKit
import Derived.JoinedCond
import Derived.LaidSub
import Derived.OpenShut
import Derived.Deep.DeepHandedRow
namespace Go.Proofs.YtlmopjbfagijeaaGreatDoor.Sc
open Go.RowKit Go.Lib

/-- of what type a block is at whose head a builder lies, and of how many cells -/
structure OkT (T : TypeId) (n : Nat) : Prop where
  ne : T ≠ 5
  lies : liesAt Tryz.prog Tryz.prog.depth T (n / Tryz.prog.cellsOf T) 0 81 1 = true

/-- a builder at the head of the block b, of type T, with more cells behind it -/
def BuAt (T : TypeId) (rest : List Value) (B b : Nat) (p : Value) (l : List UInt8) (w : World) : Prop :=
  B ≤ b ∧ ∃ v, w.heap[b]? = some (.cells (p :: v :: rest).toArray T (0, 0)) ∧ w.ownsRow B 5 1 v l.length (byteCells l) ∧ v.ownBlock ≠ some b ∧ (l = [] → v = .slice none 0 0)
def Bu (T : TypeId) (rest : List Value) (B b : Nat) (l : List UInt8) (w : World) : Prop :=
  BuAt T rest B b (.pointer none) l w ∨ BuAt T rest B b (.pointer (some ⟨b, 0, none⟩)) l w
/-- what a write to the builder in b leaves -/
def Oth (b : Nat) (w w' : World) : Prop := ∀ (k : Nat) (o : Obj), k ≠ b → (∀ cs fr, o ≠ .cells cs 5 fr) → w.heap[k]? = some o → w'.heap[k]? = some o
theorem Oth.refl (b : Nat) (w : World) : Oth b w w := fun _ _ _ _ h => h
theorem Oth.trans {b : Nat} {w w1 w2 : World} (h : Oth b w w1) (h' : Oth b w1 w2) : Oth b w w2 := fun k o hk ho h0 => h' k o hk ho (h k o hk ho h0)
theorem Oth.below {b : Nat} {w w' : World} (h : Below w.heap.size w w') : Oth b w w' := fun k _ _ _ h0 => (h.block k (Array.getElem?_eq_some_iff.1 h0).1).trans h0
theorem Oth.cells {b : Nat} {w w' : World} (h : Oth b w w') {k : Nat} {cs : Array Value} {t : TypeId} {fr : Nat × Nat} (hk : k ≠ b) (ht : t ≠ 5) (h0 : w.heap[k]? = some (.cells cs t fr)) : w'.heap[k]? = some (.cells cs t fr) :=
  h k _ hk (fun cs' fr' e => by injection e with _ e2 _; exact ht e2) h0
theorem Oth.iter {b : Nat} {w w' : World} (h : Oth b w w') {k : Nat} {s : ByteArray} {pos : Nat} (hk : k ≠ b) (h0 : w.heap[k]? = some (.stringIter s pos)) : w'.heap[k]? = some (.stringIter s pos) :=
  h k _ hk (fun cs' fr' e => by cases e) h0
theorem byteCells_len (l : List UInt8) : (byteCells l).length = l.length := by simp [byteCells]
section
variable {T : TypeId} {rest : List Value} {B b : Nat} {p : Value} {l : List UInt8} {w w' : World}
theorem BuAt.lt (h : BuAt T rest B b p l w) : b < w.heap.size := by
  obtain ⟨_, v, hb, _⟩ := h
  exact (Array.getElem?_eq_some_iff.1 hb).1
theorem Bu.at (h : Bu T rest B b l w) : ∃ p, BuAt T rest B b p l w := h.elim (fun h => ⟨_, h⟩) (fun h => ⟨_, h⟩)
theorem Bu.lt (h : Bu T rest B b l w) : b < w.heap.size := by
  obtain ⟨p, h⟩ := h.at
  exact h.lt
theorem BuAt.cell0 (h : BuAt T rest B b p l w) : w.cell? ⟨b, 0, none⟩ = some p := by
  obtain ⟨_, v, hb, _⟩ := h
  rw [cell_of_heap hb]
  simp
theorem BuAt.shape (h : BuAt T rest B b p l w) : w.shape? b = some (T, rest.length + 2) := by
  obtain ⟨_, v, hb, _⟩ := h
  simp [World.shape?, hb]
theorem BuAt.frozen (h : BuAt T rest B b p l w) (j : Nat) : w.frozen? ⟨b, j, none⟩ = false := by
  obtain ⟨_, v, hb, _⟩ := h
  exact Lib.frozen_of_heap hb j
theorem BuAt.used (h : BuAt T rest B b p l w) (q : Value) : BuAt T rest B b q l (w.setCell ⟨b, 0, none⟩ q) := by
  obtain ⟨hB, v, hb, hown, hne, hn0⟩ := h
  refine ⟨hB, v, ?_, ?_, hne, hn0⟩
  · simp [World.setCell, Array.getElem?_modify, hb]
  · refine hown.kept (row := some b) ⟨rfl, rfl, rfl, by simp [World.setCell], fun k _ hk => Below.heap_setCell _ _ _ _ (fun e => hk (by simp [e]))⟩ ?_
    exact Or.inr hne
theorem BuAt.put {v v' : Value} {l' : List UInt8} (hT : T ≠ 5) (hB : B ≤ b) (hb : w.heap[b]? = some (.cells (p :: v :: rest).toArray T (0, 0))) (hown : w.ownsRow B 5 1 v' l'.length (byteCells l')) (hn0 : l' = [] → v' = .slice none 0 0) : BuAt T rest B b p l' (w.setCell ⟨b, 1, none⟩ v') := by
  have hne := ownBlock_ne hown hb hT
  refine ⟨hB, v', ?_, ?_, hne, hn0⟩
  · simp [World.setCell, Array.getElem?_modify, hb]
  · exact hown.kept (row := some b) ⟨rfl, rfl, rfl, by simp [World.setCell], fun k _ hk => Below.heap_setCell _ _ _ _ (fun e => hk (by simp [e]))⟩ (Or.inr hne)
theorem Bu.below (h : Bu T rest B b l w) (hb : Below w.heap.size w w') : Bu T rest B b l w' := by
  have key : ∀ p, BuAt T rest B b p l w → BuAt T rest B b p l w' := fun p h => by
    have hlt := h.lt
    obtain ⟨hB, v, hbk, ⟨o1, o2⟩, hne, hn0⟩ := h
    refine ⟨hB, v, (hb.block _ hlt).trans hbk, ⟨o1, ?_⟩, hne, hn0⟩
    rcases o2 with h0 | ⟨g, cap, cur, e1, e2, e3, e4⟩
    · exact .inl h0
    · exact .inr ⟨g, cap, cur, e1, e2, (hb.block _ (Array.getElem?_eq_some_iff.1 e3).1).trans e3, e4⟩
  exact h.elim (fun x => .inl (key _ x)) (fun x => .inr (key _ x))
theorem Bu.there (h : Bu T rest B b l w) : ∃ v p, w.heap[b]? = some (.cells (p :: v :: rest).toArray T (0, 0)) := by
  obtain ⟨p, _, v, hb, _⟩ := h.at
  exact ⟨v, p, hb⟩
end
theorem Bu.new (T : TypeId) (rest : List Value) (w : World) : Bu T rest w.heap.size w.heap.size [] (w.alloc (.cells (.pointer none :: .slice none 0 0 :: rest).toArray T)) :=
  .inl ⟨Nat.le_refl _, .slice none 0 0, heap_alloc_new _ _, World.ownsRow_nil _ _ _ _, by simp [Value.ownBlock], fun _ => rfl⟩

set_option maxRecDepth 100000 in
set_option maxHeartbeats 1000000 in
theorem bcheck_any {T : TypeId} {rest : List Value} (hT : OkT T (rest.length + 2)) (B b : Nat) (l : List UInt8) (w : World) (h : Bu T rest B b l w) :
    Calls Tryz.prog 104 #[.pointer (some ⟨b, 0, none⟩)] w fun e w' => e = .returned (.tuple #[]) ∧ (BuAt T rest B b (.pointer (some ⟨b, 0, none⟩)) l w' ∧ Below B w w') ∧ Oth b w w' := by
  obtain ⟨j, hj0, hjs⟩ := Option.map_eq_some_iff.1 bstrExtra.sizeBuilder
  have hj : Tryz.prog.info? 81 = some j := hj0
  clear hj0
  rcases h with h | h
  · have h0 := h.cell0
    have hfz := h.frozen 0
    have hsh := h.shape
    have hB := h.1
    have HU : Hid (BuAt T rest B b (.pointer (some ⟨b, 0, none⟩)) l (w.setCell ⟨b, 0, none⟩ (.pointer (some ⟨b, 0, none⟩)))) := h.used _
    clear h
    have hlies := hT.lies
    go_enter Tryz.func104, Tryz.ntmps104
    go_wp2
    rw [Lib.run_to_unsafe w ⟨b, 0, none⟩ Tryz.underlying79 Tryz.underlying140 hj (by rw [hjs]; decide) hsh (Nat.zero_lt_succ _)]
    simp only [Result.andThen]
    rw [Oper.upon_value]
    go_wp2
    rw [run_callFunc_extern Tryz.func136 (by kernel_rfl) (by kernel_rfl) (by kernel_rfl) (e := Extern.AbiNoEscape.same) (by kernel_rfl)]
    rw [Lib.run_noEscape]
    simp only [Result.andThen]
    rw [Oper.upon_value]
    go_wp2
    rw [Lib.run_from_unsafe w ⟨b, 0, none⟩ Tryz.underlying140 Tryz.underlying79 hj hsh hlies]
    simp only [Result.andThen]
    rw [Oper.upon_value]
    go_wp2
    go_end0
    exact ⟨rfl, ⟨HU.out, (Below.refl B w).setCell (p := ⟨b, 0, none⟩) hB _⟩, fun k o hk _ h0 => (Below.heap_setCell _ _ _ _ hk).trans h0⟩
  · have h0 := h.cell0
    have HU : Hid (BuAt T rest B b (.pointer (some ⟨b, 0, none⟩)) l w) := h
    clear h
    go_enter Tryz.func104, Tryz.ntmps104
    go_wp2
    rw [Lib.run_neq_ptr_same w _ Tryz.underlying79 hj]
    go_wp2
    go_end0
    exact ⟨rfl, ⟨HU.out, Below.refl B _⟩, Oth.refl _ _⟩

theorem strCells_bytes (s : ByteArray) : Lib.strCells s = byteCells s.data.toList := by simp [Lib.strCells, byteCells]

set_option maxRecDepth 100000 in
set_option maxHeartbeats 1000000 in
theorem bwrite_any {T : TypeId} {rest : List Value} (hT : OkT T (rest.length + 2)) (B b : Nat) (l : List UInt8) (s : ByteArray) (w : World) (h : Bu T rest B b l w) (hlen : l.length + s.size ≤ 140737488355328) (hBw : B ≤ w.heap.size) :
    Calls Tryz.prog 61 #[.pointer (some ⟨b, 0, none⟩), .string s] w fun e w' => e = .returned (.tuple #[.int .i64 s.size, .nilIface]) ∧ (Bu T rest B b (l ++ s.data.toList) w' ∧ Below B w w') ∧ Oth b w w' := by
  obtain ⟨i0, hi, hz0, hz1, hz2⟩ := info_parts info5
  have hck := bcheck_any hT B b l w h
  clear h
  go_enter Tryz.func61, Tryz.ntmps61
  go_wp2_with (go_at_call 104; refine hck.mono ?_)
  rintro e w1 ⟨rfl, ⟨h1, hb1⟩, hk1⟩
  have hlt := h1.lt
  obtain ⟨hB, v, hbk, hown, hne, hn0⟩ := h1
  have HK1 : Hid (Oth b w w1) := hk1
  clear hk1
  have c0 : w1.cell? ⟨b, 0, none⟩ = some (.pointer (some ⟨b, 0, none⟩)) := by rw [Lib.cell_of_heap hbk]; simp
  have c1 : w1.cell? ⟨b, 1, none⟩ = some v := by rw [Lib.cell_of_heap hbk]; simp
  go_wp2_with (at_builtin; refine Lib.wpList_append_own_string _ rfl _ _ 51 9 rfl B 5 i0 Tryz.underlying51 Tryz.underlying9 hi hz0 hz1 hz2 _ _ _ rfl hown s rfl ?c3 ?c4 ?c5 ?_)
  case c3 => unfold maxLen; omega
  case c4 => omega
  case c5 => have := hb1.size; omega
  intro v' w2 hown' hgrow hnil
  have HN : Hid (l ++ s.data.toList = [] → v' = .slice none 0 0) := fun e => by
    obtain ⟨e1, e2⟩ := List.append_eq_nil_iff.1 e
    exact hnil.2 ⟨hn0 e1, by have := congrArg List.length e2; simpa using this⟩
  clear hnil hn0
  have hb2 : w2.heap[b]? = some (.cells (.pointer (some ⟨b, 0, none⟩) :: v :: rest).toArray T (0, 0)) := by
    rw [hgrow.block b hlt (fun e => hne e.symm)]
    exact hbk
  have d0 : w2.cell? ⟨b, 0, none⟩ = some (.pointer (some ⟨b, 0, none⟩)) := by rw [Lib.cell_of_heap hb2]; simp
  have d1 : w2.cell? ⟨b, 1, none⟩ = some v := by rw [Lib.cell_of_heap hb2]; simp
  have f1 : w2.frozen? ⟨b, 1, none⟩ = false := Lib.frozen_of_heap hb2 1
  obtain ⟨ao, n', cap, rfl⟩ : ∃ ao n' cap, v' = .slice ao n' cap := by
    rcases hown'.2 with ⟨hv, _⟩ | ⟨g, cap, cur, hv, _⟩
    · exact ⟨_, _, _, hv⟩
    · exact ⟨_, _, _, hv⟩
  have HO : Hid (w2.ownsRow B 5 1 (.slice ao n' cap) (l ++ s.data.toList).length (byteCells (l ++ s.data.toList))) := by
    have e1 : byteCells (l ++ s.data.toList) = byteCells l ++ Lib.strCells s := by rw [byteCells_append, strCells_bytes]
    have e2 : (l ++ s.data.toList).length = l.length + s.size := by simp
    show World.ownsRow _ _ _ _ _ _ _
    rw [e1, e2]
    exact hown'
  have HB : Hid (Below B w w2) := hb1.grown hgrow (by have := hb1.size; omega) (fun k hk => (hown.lt k hk).1)
  have HG : Hid (Oth b w w2) := HK1.out.trans fun k o hkb ho h0 => (hgrow.block k (Array.getElem?_eq_some_iff.1 h0).1 (fun e => by
    rcases hown.2 with ⟨hv, _⟩ | ⟨g, cap2, cur, hv, _, hg, _⟩
    · rw [hv] at e
      simp [Value.ownBlock] at e
    · rw [hv] at e
      simp [Value.ownBlock] at e
      subst e
      rw [h0] at hg
      exact ho _ _ (Option.some.inj hg))).trans h0
  clear hown' hgrow hown
  go_wp2
  go_ret2
  exact ⟨rfl, ⟨.inr (BuAt.put hT.ne hB hb2 HO.out HN.out), HB.out.setCell (p := ⟨b, 1, none⟩) hB _⟩, HG.out.trans fun k o hk _ h0 => (Below.heap_setCell _ _ _ _ hk).trans h0⟩

end Go.Proofs.YtlmopjbfagijeaaGreatDoor.Sc

namespace Go.Proofs.YtlmopjbfagijeaaGreatDoor.Sc
open Go.RowKit Go.Lib

theorem one_cell (w : World) (x : Value) : ∀ j u, [x][j]? = some u → (w.alloc (.cells #[x] 5)).cell? ((⟨w.heap.size, 0, none⟩ : Addr).add j) = some u := by
  intro j u h
  exact cells_new w #[x] 5 j u (by simpa using h)

set_option maxRecDepth 100000 in
set_option maxHeartbeats 1000000 in
theorem bbyte_any {T : TypeId} {rest : List Value} (hT : OkT T (rest.length + 2)) (B b : Nat) (l : List UInt8) (c : UInt8) (w : World) (h : Bu T rest B b l w) (hlen : l.length + 1 ≤ 140737488355328) (hBw : B ≤ w.heap.size) :
    Calls Tryz.prog 138 #[.pointer (some ⟨b, 0, none⟩), .int .u8 (c.toNat : Int)] w fun e w' => e = .returned .nilIface ∧ (Bu T rest B b (l ++ [c]) w' ∧ Below B w w') ∧ Oth b w w' := by
  obtain ⟨i0, hi, hz0, hz1, hz2⟩ := info_parts info5
  have hck := bcheck_any hT B b l w h
  clear h
  go_enter Tryz.func138, Tryz.ntmps138
  go_wp2_with (go_at_call 104; refine hck.mono ?_)
  rintro e w1 ⟨rfl, ⟨h1, hb1⟩, hk1⟩
  have hlt := h1.lt
  obtain ⟨hB, v, hbk, hown, hne, _⟩ := h1
  have HK1 : Hid (Oth b w w1) := hk1
  clear hk1
  have c0 : w1.cell? ⟨b, 0, none⟩ = some (.pointer (some ⟨b, 0, none⟩)) := by rw [Lib.cell_of_heap hbk]; simp
  have c1 : w1.cell? ⟨b, 1, none⟩ = some v := by rw [Lib.cell_of_heap hbk]; simp
  have d1 : ∀ o, (w1.alloc o).cell? ⟨b, 1, none⟩ = some v := fun o => by rw [Lib.cell_of_heap ((Lib.alloc_old w1 o b hlt).trans hbk)]; simp
  have hone : ∀ u ∈ [Value.int .u8 (c.toNat : Int)], u.oneCell' = true := by simp [Value.oneCell']
  have hml : l.length + 1 ≤ maxLen := by unfold maxLen; omega
  have hlB : (byteCells l).length = l.length := byteCells_len l
  go_wp2_with (at_builtin; refine wpList_append_own _ rfl _ _ 51 rfl B 5 i0 (.int .u8 0) 1 1 Tryz.underlying51 hi hz0 hz1 hz2 rfl (by decide) _ _ _ rfl (hown.alloc _) ⟨w1.heap.size, 0, none⟩ 1 1 [.int .u8 (c.toNat : Int)] rfl rfl (one_cell w1 _) hone hml (by omega) (by have := hb1.size; simp; omega) ?_)
  intro v' w2 hown' hgrow _
  have hlt1 : b < (w1.alloc (.cells #[.int .u8 (c.toNat : Int)] 5)).heap.size := by simp; omega
  have hb2 : w2.heap[b]? = some (.cells (.pointer (some ⟨b, 0, none⟩) :: v :: rest).toArray T (0, 0)) := by
    rw [hgrow.block b hlt1 (fun e => hne e.symm)]
    exact (Lib.alloc_old w1 _ b hlt).trans hbk
  have c2 : w2.cell? ⟨b, 0, none⟩ = some (.pointer (some ⟨b, 0, none⟩)) := by rw [Lib.cell_of_heap hb2]; simp
  have c3 : w2.cell? ⟨b, 1, none⟩ = some v := by rw [Lib.cell_of_heap hb2]; simp
  have f1 : w2.frozen? ⟨b, 1, none⟩ = false := Lib.frozen_of_heap hb2 1
  obtain ⟨ao, n', cap, rfl⟩ : ∃ ao n' cap, v' = .slice ao n' cap := by
    rcases hown'.2 with ⟨hv, _⟩ | ⟨g, cap, cur, hv, _⟩
    · exact ⟨_, _, _, hv⟩
    · exact ⟨_, _, _, hv⟩
  have HO : Hid (w2.ownsRow B 5 1 (.slice ao n' cap) (l ++ [c]).length (byteCells (l ++ [c]))) := by
    have e1 : byteCells (l ++ [c]) = byteCells l ++ [.int .u8 (c.toNat : Int)] := by rw [byteCells_append]; rfl
    show World.ownsRow _ _ _ _ _ _ _
    rw [e1, List.length_append]
    exact hown'
  have hbA : Below B w (w1.alloc (.cells #[.int .u8 (c.toNat : Int)] 5)) := hb1.alloc (by have := hb1.size; omega) _
  have HB : Hid (Below B w w2) := hbA.grown hgrow (by have := hbA.size; omega) (fun k hk => (hown.lt k hk).1)
  have HG : Hid (Oth b w w2) := HK1.out.trans fun k o hkb ho h0 => by
    have hk := (Array.getElem?_eq_some_iff.1 h0).1
    refine (hgrow.block k (by simp; omega) (fun e => ?_)).trans ((Lib.alloc_old w1 _ k hk).trans h0)
    rcases hown.2 with ⟨hv, _⟩ | ⟨g, cap2, cur, hv, _, hg, _⟩
    · rw [hv] at e
      simp [Value.ownBlock] at e
    · rw [hv] at e
      simp [Value.ownBlock] at e
      subst e
      rw [h0] at hg
      exact ho _ _ (Option.some.inj hg)
  clear hown' hgrow hown
  go_wp2
  go_ret
  exact ⟨rfl, ⟨.inr (BuAt.put hT.ne hB hb2 HO.out (fun e => by simp at e)), HB.out.setCell (p := ⟨b, 1, none⟩) hB _⟩, HG.out.trans fun k o hk _ h0 => (Below.heap_setCell _ _ _ _ hk).trans h0⟩

theorem sd_none (P : Program) (t u : TypeId) (w : World) : (Builtin.unsafeSliceData_ #[t] u #[.slice none 0 0]).run P w = .ok (.pointer none) w := rfl

set_option maxHeartbeats 1000000 in
set_option maxRecDepth 100000 in
theorem bstring_any {T : TypeId} {rest : List Value} (B b : Nat) (l : List UInt8) (w : World) (h : Bu T rest B b l w) :
    Calls Tryz.prog 62 #[.pointer (some ⟨b, 0, none⟩)] w fun e w' => e = .returned (.string (str l)) ∧ Below B w w' := by
  obtain ⟨p, hB, v, hbk, hown, hne, hn0⟩ := h.at
  clear h
  have hB : Hid (B ≤ b) := hB
  by_cases h0 : l = []
  · obtain rfl := hn0 h0
    subst h0
    have hUS : ∀ (W : World) (q : Option Addr), (Builtin.unsafeString_ #[161, 3] 9 #[.pointer q, .int .i64 0]).run Tryz.prog W = .ok (.string ByteArray.empty) W := fun W q => by
      have h := Any.unsafeString_none bstrLays bstrExtra W q
      rw [show bstrRen.t 127 = 161 from rfl, show bstrRen.t 3 = 3 from rfl, show bstrRen.t 9 = 9 from rfl] at h
      exact h
    have mixed := bstrLays.mixed
    have c1 : w.drew.cell? ⟨b, 1, none⟩ = some (.slice none 0 0) := by
      have : w.drew.heap[b]? = some (.cells (p :: .slice none 0 0 :: rest).toArray T (0, 0)) := hbk
      rw [Lib.cell_of_heap this]; simp
    have hSD : (Builtin.unsafeSliceData_ #[51] 161 #[.slice none 0 0]).run Tryz.prog w.drew = .ok (.pointer none) w.drew := sd_none _ _ _ _
    go_enter Tryz.func62, Tryz.ntmps62
    go_wp2
    go_region_o
    all_goals (go_wp2; go_ret; exact ⟨rfl, Below.drew (Below.refl B w)⟩)
  have hl0 : l.length ≠ 0 := by simpa using h0
  obtain ⟨g, cap, cur, rfl, hbg, hg, hnc, hcm, hcs, htake⟩ : ∃ g cap cur, v = .slice (some ⟨g, 0, none⟩) l.length cap ∧ B ≤ g ∧ w.heap[g]? = some (.cells cur 5 (0, 0)) ∧ l.length ≤ cap ∧ cap ≤ maxLen ∧ cur.size = cap * 1 ∧ cur.toList.take (l.length * 1) = byteCells l := by
    rcases hown.2 with ⟨_, hz⟩ | ⟨g, cap, cur, hv, r⟩
    · exact absurd hz hl0
    · exact ⟨g, cap, cur, hv, r⟩
  have c1 : w.drew.cell? ⟨b, 1, none⟩ = some (.slice (some ⟨g, 0, none⟩) l.length cap) := by
    have : w.drew.heap[b]? = some (.cells (p :: .slice (some ⟨g, 0, none⟩) l.length cap :: rest).toArray T (0, 0)) := hbk
    rw [Lib.cell_of_heap this]; simp
  have hSD : (Builtin.unsafeSliceData_ #[51] 161 #[.slice (some ⟨g, 0, none⟩) l.length cap]).run Tryz.prog w.drew = .ok (.pointer (some ⟨g, 0, none⟩)) w.drew :=
    Lib.run_unsafeSliceData_row _ _ _ _ _ _ (by omega)
  have hUS : (Builtin.unsafeString_ #[161, 3] 9 #[.pointer (some ⟨g, 0, none⟩), .int .i64 l.length]).run Tryz.prog w.drew = .ok (.string (str l)) (w.drew.freeze ⟨g, 0, none⟩ l.length) := by
    refine Lib.run_unsafeString_row w.drew 161 3 9 5 bstrLays.t127 bstrExtra.cellsByte g cur.size (by have hg' : w.drew.heap[g]? = some (.cells cur 5 (0, 0)) := hg; simp [World.shape?, hg']) l h0 (by omega) (by unfold maxLen at hcm; omega) ?_
    intro j x hx
    have := hown.cells (g := g) rfl j (.int .u8 x.toNat) (by simp [byteCells, hx])
    exact this
  have hbF : Hid (Below B w (w.drew.freeze ⟨g, 0, none⟩ l.length)) := Lib.below_freeze (Below.drew (Below.refl B w)) (p := ⟨g, 0, none⟩) hbg _
  clear hown htake
  have mixed := bstrLays.mixed
  go_enter Tryz.func62, Tryz.ntmps62
  go_wp2
  go_region_o
  all_goals (go_wp2; go_ret; exact ⟨rfl, hbF.out⟩)

end Go.Proofs.YtlmopjbfagijeaaGreatDoor.Sc

namespace Go.Proofs.YtlmopjbfagijeaaGreatDoor.Sc
open Go.RowKit Go.Lib

/-- the library's table of the powers of ten -/
structure ITab (w : World) : Prop where
  it : ∃ t fr, w.heap[3]? = some (.cells ((Lib.pow10Tab.map fun z => Value.int .u64 z).toArray) t fr)
theorem ITab.below {w w' : World} {B : Nat} (h : ITab w) (hb : Below B w w') (hB : 3 < B) : ITab w' := by
  obtain ⟨t, fr, e⟩ := h.it
  exact ⟨t, fr, (hb.block _ hB).trans e⟩
theorem ITab.lt {w : World} (h : ITab w) : 3 < w.heap.size := by
  obtain ⟨t, fr, e⟩ := h.it
  exact (Array.getElem?_eq_some_iff.1 e).1
theorem ITab.is {w : World} (h : ITab w) : Lib.TabIs Tryz.prog w ((Rows.scriptActsRow.named[0]?).getD default) .u64 Lib.pow10Tab := by
  obtain ⟨t, fr, e⟩ := h.it
  have hg : Tryz.prog.globalNamed ((Rows.scriptActsRow.named[0]?).getD default) = some 3 := by kernel_rfl
  unfold Lib.TabIs World.var?
  rw [hg, Option.bind_some, e]
theorem grow_drew (w : World) (k : Nat) (os : Array Obj) : Below w.heap.size w (Sort.grow (w.drewN k) os) := by
  refine ⟨rfl, rfl, rfl, ?_, fun j hj => ?_⟩
  · show w.heap.size ≤ (w.heap ++ os).size
    simp
  · show (w.heap ++ os)[j]? = w.heap[j]?
    rw [Array.getElem?_append_left hj]
def I64 (n : Int) : Prop := -9223372036854775808 ≤ n ∧ n ≤ 9223372036854775807
/-- strconv.Itoa -/
theorem itoa_any (n : Int) (hn : I64 n) (w : World) (h : ITab w) :
    Calls Tryz.prog 87 #[.int .i64 n] w fun e w' => e = .returned (.string (str (itoa n))) ∧ Below w.heap.size w w' := by
  refine (Any.strconv_Itoa itoaLays n hn.1 hn.2 w h.is).mono ?_
  rintro e w' ⟨rfl, k, os, rfl⟩
  exact ⟨rfl, grow_drew w k os⟩

set_option maxRecDepth 20000 in
theorem stands_any (r : Nat) (w : World) : Calls Tryz.prog 149 #[.int .i32 (r : Int)] w fun e w' => e = .returned (.bool (plN r)) ∧ w' = w := by
  obtain ⟨R, hR⟩ : ∃ R, plN r = R := ⟨_, rfl⟩
  rw [hR]
  have HR : Hid (plN r = R) := hR
  clear hR
  go_enter Tryz.func149, Tryz.ntmps149
  go_wp2
  all_goals
    go_ret
    refine ⟨?_, rfl⟩
    rw [← HR.out]
    refine congrArg (fun b => Ending.returned (.bool b)) (Bool.eq_iff_iff.2 ?_)
    simp [plN]
    omega

/-- a builder of its own -/
theorem okB : OkT 81 2 := ⟨by decide, by kernel_rfl⟩

set_option maxRecDepth 20000 in
set_option maxHeartbeats 1000000 in
theorem writeHex_any {T : TypeId} {rest : List Value} (hT : OkT T (rest.length + 2)) (B b : Nat) (l : List UInt8) (c : UInt8) (w : World) (h : Bu T rest B b l w) (hlen : l.length + 2 ≤ 140737488355328) (hBw : B ≤ w.heap.size) :
    Calls Tryz.prog 114 #[.pointer (some ⟨b, 0, none⟩), .int .u8 (c.toNat : Int)] w fun e w' => e = .returned (.tuple #[]) ∧ (Bu T rest B b (l ++ two c) w' ∧ Below B w w') ∧ Oth b w w' := by
  have hn := c.toNat_lt
  have hx1 := fun w => index_at (P := Tryz.prog) w 9 digs .u8 (c.toNat / 16) (dig (c.toNat / 16)) Tryz.underlying9 (by have := digs_at (c.toNat / 16) (by omega); simpa using this)
  have hx2 := fun w => index_at (P := Tryz.prog) w 9 digs .u8 (c.toNat % 16) (dig (c.toNat % 16)) Tryz.underlying9 (by have := digs_at (c.toNat % 16) (by omega); simpa using this)
  unfold digs at hx1 hx2
  rw [show ((c.toNat / 16 : Nat) : Int) = (c.toNat : Int) / 16 by omega] at hx1
  rw [show ((c.toNat % 16 : Nat) : Int) = (c.toNat : Int) % 16 by omega] at hx2
  have h1 := bbyte_any hT B b l (dig (c.toNat / 16)) w h (by omega) hBw
  have h2 := fun w1 (hb : Below B w w1) h => bbyte_any hT B b (l ++ [dig (c.toNat / 16)]) (dig (c.toNat % 16)) w1 h (by simp; omega) (Nat.le_trans hBw hb.size)
  go_enter Tryz.func114, Tryz.ntmps114
  go_wp2_with (go_at_call 138; refine h1.mono ?_)
  rintro e w1 ⟨rfl, ⟨hu1, hb1⟩, ho1⟩
  have h3 := h2 w1 hb1 hu1
  clear h2 h1
  go_wp2_with (go_at_call 138; refine h3.mono ?_)
  rintro e w2 ⟨rfl, ⟨hu2, hb2⟩, ho2⟩
  go_wp2
  go_end0
  refine ⟨rfl, ⟨?_, hb1.trans hb2⟩, ho1.trans ho2⟩
  rw [List.append_assoc] at hu2
  exact hu2

set_option maxRecDepth 20000 in
set_option maxHeartbeats 1000000 in
theorem writeEscaped_any {T : TypeId} {rest : List Value} (hT : OkT T (rest.length + 2)) (B b : Nat) (l : List UInt8) (s : ByteArray) (w : World) (h : Bu T rest B b l w) (hlen : l.length + 3 * s.size ≤ 140737488355328) (hBw : B ≤ w.heap.size) :
    Calls Tryz.prog 150 #[.pointer (some ⟨b, 0, none⟩), .string s] w fun e w' => e = .returned (.tuple #[]) ∧ (Bu T rest B b (l ++ escL s.data.toList) w' ∧ Below B w w') ∧ Oth b w w' := by
  have hl : s.data.toList.length = s.size := (size_eq s).symm
  obtain ⟨n, hn⟩ : ∃ n, s.size = n := ⟨_, rfl⟩
  rw [hn] at hl hlen
  have HS : Hid (s.size = n) := hn
  go_enter Tryz.func150, Tryz.ntmps150
  go_wp2
  go_loopg [7] n (fun gk i wr => ∃ k : Nat, k + gk = n ∧ i = .int .i64 (k : Int) ∧ Hid (Bu T rest B b (l ++ escL (s.data.toList.take k)) wr ∧ Below B w wr ∧ Oth b w wr))
  case atStart => exact ⟨0, by omega, rfl, by simpa [escL] using h, Below.refl _ _, Oth.refl _ _⟩
  case round =>
    obtain ⟨k, hk, rfl, HI⟩ := hrel
    have hk' : k ≤ n := by omega
    by_cases hlt : k < n
    · have hltI : (k : Int) < (n : Int) := by omega
      obtain ⟨c, hc⟩ : ∃ c, s.data.toList[k]? = some c := ⟨_, List.getElem?_eq_getElem (by omega)⟩
      have hix := fun W => index_at (P := Tryz.prog) W 9 s .i64 k c Tryz.underlying9 hc
      have hll : (l ++ escL (s.data.toList.take k)).length = l.length + 3 * k := by rw [List.length_append, escL_len, List.length_take]; omega
      have h1 := bbyte_any hT B b _ 37 wr HI.out.1 (by omega) (Nat.le_trans hBw HI.out.2.1.size)
      have hst := escL_take s.data.toList k c hc
      clear hc
      go_wp2_with (go_at_call 138; refine h1.mono ?_)
      rintro e w1 ⟨rfl, ⟨hu1, hb1⟩, ho1⟩
      have h2 := writeHex_any hT B b _ c w1 hu1 (by rw [List.length_append, hll]; simp; omega) (Nat.le_trans hBw (HI.out.2.1.trans hb1).size)
      clear h1
      go_wp2_with (go_at_call 114; refine h2.mono ?_)
      rintro e w2 ⟨rfl, ⟨hu2, hb2⟩, ho2⟩
      have HJ : Hid (Bu T rest B b (l ++ escL (s.data.toList.take (k + 1))) w2 ∧ Below B w w2 ∧ Oth b w w2) := by
        refine ⟨?_, (HI.out.2.1.trans hb1).trans hb2, (HI.out.2.2.trans ho1).trans ho2⟩
        rw [hst]
        simpa [two, List.append_assoc] using hu2
      clear hu2 hu1 hb1 hb2 ho1 ho2 HI h2
      go_wp2
      go_roundg (gk - 1)
      case measure => omega
      case rel => exact ⟨k + 1, by omega, by go_num, HJ⟩
    · obtain rfl : k = n := by omega
      have hltI : ¬ (k : Int) < (k : Int) := by omega
      have htk : s.data.toList.take k = s.data.toList := List.take_of_length_le (by omega)
      rw [htk] at HI
      go_wp2
      go_end0
      exact ⟨rfl, ⟨HI.out.1, HI.out.2.1⟩, HI.out.2.2⟩

end Go.Proofs.YtlmopjbfagijeaaGreatDoor.Sc

namespace Go.Proofs.YtlmopjbfagijeaaGreatDoor.Sc
open Go.ChangeShapes Go.WideShapes Go.ChangeAt Go.RowKit

def nPow : String := (Rows.scriptActsRow.named[0]?).getD default
theorem gPow : Tryz.prog.globalNamed nPow = some 3 := by kernel_rfl
theorem gPowT : (Tryz.prog.globals[3]?).map (·.type) = some 228 := by kernel_rfl
theorem cellsPt : Tryz.prog.cellsOf 228 = 20 := by kernel_rfl
theorem cellsQt : Tryz.prog.cellsOf 216 = 1 := by kernel_rfl
theorem itab_of_laid {W : World} (h : laidMetH Tryz.prog [(nPow, Rows.laid_internal_strconv_uint64pow10)] W) : ITab W := by
  have h1 : Lib.TabIs Tryz.prog W nPow .u64 Lib.pow10Tab :=
    Lib.tabIs_of_head (rest := []) gPow gPowT Tryz.underlying228 Tryz.underlying216 cellsQt cellsPt h
  unfold Lib.TabIs World.var? at h1
  rw [gPow, Option.bind_some] at h1
  cases e : W.heap[3]? with
  | none => rw [e] at h1; cases h1
  | some o =>
    rw [e] at h1
    cases o with
    | cells cs t fr => exact ⟨t, fr, by rw [e]; rw [show cs = _ from Option.some.inj h1]⟩
    | _ => cases h1
def bytes8 (l : List Nat) : Array Value := (l.map fun (n : Nat) => Value.int .u8 (n : Int)).toArray
def dB32 : List Nat := [0, 1, 28, 2, 29, 14, 24, 3, 30, 22, 20, 15, 25, 17, 4, 8, 31, 27, 13, 23, 21, 19, 16, 7, 26, 12, 18, 6, 11, 5, 10, 9]
def dB64 : List Nat := [0, 1, 56, 2, 57, 49, 28, 3, 61, 58, 42, 50, 38, 29, 17, 4, 62, 47, 59, 36, 45, 43, 51, 22, 53, 39, 33, 30, 24, 18, 12, 5, 63, 55, 48, 27, 60, 41, 37, 16, 46, 35, 44, 21, 52, 32, 23, 11, 54, 26, 40, 15, 34, 20, 31, 10, 25, 14, 19, 9, 13, 8, 7, 6]
def pow10V : Array Value := (Lib.pow10Tab.map fun z => Value.int .u64 z).toArray
def lay (cs : Array Value) : Obj → Obj
  | .cells _ t fr => .cells cs t fr
  | o => o
end Go.Proofs.YtlmopjbfagijeaaGreatDoor.Sc
