import Derived.Test.YtlmopjbfagijeaaGreatDoorYaM
import Derived.Test.YtlmopjbfagijeaaGreatDoorYfM
import Derived.Test.YtlmopjbfagijeaaGreatDoorSzJ
namespace Go.Proofs.YtlmopjbfagijeaaGreatDoor.Sc
open Go.RowKit Go.Lib

/-- a reader's cells -/
def RdrC (pl sd : Int) (q : PlR) (p v : Value) : Array Value := #[.int .i64 pl, .int .i64 sd, .int .i64 q.s, .int .i64 q.f, .int .i64 q.d, .int .i64 q.m, .int .i64 q.l, .int .i64 q.p, .bool q.ideal, .string q.master, .string q.tape, .slice q.acts q.nacts q.cacts, p, v]
theorem rdrLies : liesAt Tryz.prog Tryz.prog.depth 83 (14 / Tryz.prog.cellsOf 83) 12 81 1 = true := by kernel_rfl
def BzAt (pl sd : Int) (q : PlR) (B b : Nat) (p : Value) (l : List UInt8) (w : World) : Prop :=
  B ≤ b ∧ ∃ v, w.heap[b]? = some (.cells (RdrC pl sd q p v) 83 (0, 0)) ∧ w.ownsRow B 5 1 v l.length (byteCells l) ∧ v.ownBlock ≠ some b ∧ (l = [] → v = .slice none 0 0)
def Bz (pl sd : Int) (q : PlR) (B b : Nat) (l : List UInt8) (w : World) : Prop :=
  BzAt pl sd q B b (.pointer none) l w ∨ BzAt pl sd q B b (.pointer (some ⟨b, 12, none⟩)) l w
section
variable {pl sd : Int} {q : PlR} {B b : Nat} {p : Value} {l : List UInt8} {w w' : World}
theorem BzAt.lt (h : BzAt pl sd q B b p l w) : b < w.heap.size := by
  obtain ⟨_, v, hb, _⟩ := h
  exact (Array.getElem?_eq_some_iff.1 hb).1
theorem Bz.at (h : Bz pl sd q B b l w) : ∃ p, BzAt pl sd q B b p l w := h.elim (fun h => ⟨_, h⟩) (fun h => ⟨_, h⟩)
theorem Bz.lt (h : Bz pl sd q B b l w) : b < w.heap.size := by
  obtain ⟨p, h⟩ := h.at
  exact h.lt
theorem BzAt.cell12 (h : BzAt pl sd q B b p l w) : w.cell? ⟨b, 12, none⟩ = some p := by
  obtain ⟨_, v, hb, _⟩ := h
  rw [cell_of_heap hb]
  rfl
theorem BzAt.shape (h : BzAt pl sd q B b p l w) : w.shape? b = some (83, 14) := by
  obtain ⟨_, v, hb, _⟩ := h
  simp [World.shape?, hb, RdrC]
theorem BzAt.frozen (h : BzAt pl sd q B b p l w) (j : Nat) : w.frozen? ⟨b, j, none⟩ = false := by
  obtain ⟨_, v, hb, _⟩ := h
  exact Lib.frozen_of_heap hb j
theorem BzAt.used (h : BzAt pl sd q B b p l w) (p2 : Value) : BzAt pl sd q B b p2 l (w.setCell ⟨b, 12, none⟩ p2) := by
  obtain ⟨hB, v, hb, hown, hne, hn0⟩ := h
  refine ⟨hB, v, ?_, ?_, hne, hn0⟩
  · simp [World.setCell, Array.getElem?_modify, hb, RdrC]
  · refine hown.kept (row := some b) ⟨rfl, rfl, rfl, by simp [World.setCell], fun k _ hk => Below.heap_setCell _ _ _ _ (fun e => hk (by simp [e]))⟩ ?_
    exact Or.inr hne
theorem BzAt.put {v v' : Value} {l' : List UInt8} (hB : B ≤ b) (hb : w.heap[b]? = some (.cells (RdrC pl sd q p v) 83 (0, 0))) (hown : w.ownsRow B 5 1 v' l'.length (byteCells l')) (hn0 : l' = [] → v' = .slice none 0 0) : BzAt pl sd q B b p l' (w.setCell ⟨b, 13, none⟩ v') := by
  have hne := ownBlock_ne hown hb (by decide)
  refine ⟨hB, v', ?_, ?_, hne, hn0⟩
  · simp [World.setCell, Array.getElem?_modify, hb, RdrC]
  · exact hown.kept (row := some b) ⟨rfl, rfl, rfl, by simp [World.setCell], fun k _ hk => Below.heap_setCell _ _ _ _ (fun e => hk (by simp [e]))⟩ (Or.inr hne)
theorem Bz.below (h : Bz pl sd q B b l w) (hb : Below w.heap.size w w') : Bz pl sd q B b l w' := by
  have key : ∀ p, BzAt pl sd q B b p l w → BzAt pl sd q B b p l w' := fun p h => by
    have hlt := h.lt
    obtain ⟨hB, v, hbk, ⟨o1, o2⟩, hne, hn0⟩ := h
    refine ⟨hB, v, (hb.block _ hlt).trans hbk, ⟨o1, ?_⟩, hne, hn0⟩
    rcases o2 with h0 | ⟨g, cap, cur, e1, e2, e3, e4⟩
    · exact .inl h0
    · exact .inr ⟨g, cap, cur, e1, e2, (hb.block _ (Array.getElem?_eq_some_iff.1 e3).1).trans e3, e4⟩
  exact h.elim (fun x => .inl (key _ x)) (fun x => .inr (key _ x))
theorem Bz.there (h : Bz pl sd q B b l w) : ∃ v p, w.heap[b]? = some (.cells (RdrC pl sd q p v) 83 (0, 0)) := by
  obtain ⟨p, _, v, hb, _⟩ := h.at
  exact ⟨v, p, hb⟩
end
set_option maxRecDepth 100000 in
set_option maxHeartbeats 1000000 in
theorem zcheck_any (pl sd : Int) (q : PlR) (B b : Nat) (l : List UInt8) (w : World) (h : Bz pl sd q B b l w) :
    Calls Tryz.prog 104 #[.pointer (some ⟨b, 12, none⟩)] w fun e w' => e = .returned (.tuple #[]) ∧ (BzAt pl sd q B b (.pointer (some ⟨b, 12, none⟩)) l w' ∧ Below B w w') ∧ Oth b w w' := by
  obtain ⟨j, hj0, hjs⟩ := Option.map_eq_some_iff.1 bstrExtra.sizeBuilder
  have hj : Tryz.prog.info? 81 = some j := hj0
  clear hj0
  rcases h with h | h
  · have h0 := h.cell12
    have hfz := h.frozen 12
    have hsh := h.shape
    have hB := h.1
    have HU : Hid (BzAt pl sd q B b (.pointer (some ⟨b, 12, none⟩)) l (w.setCell ⟨b, 12, none⟩ (.pointer (some ⟨b, 12, none⟩)))) := h.used _
    clear h
    have hlies := rdrLies
    go_enter Tryz.func104, Tryz.ntmps104
    go_wp2
    rw [Lib.run_to_unsafe w ⟨b, 12, none⟩ Tryz.underlying79 Tryz.underlying140 hj (by rw [hjs]; decide) hsh (show 12 < 14 by decide)]
    simp only [Result.andThen]
    rw [Oper.upon_value]
    go_wp2
    rw [run_callFunc_extern Tryz.func136 (by kernel_rfl) (by kernel_rfl) (by kernel_rfl) (e := Extern.AbiNoEscape.same) (by kernel_rfl)]
    rw [Lib.run_noEscape]
    simp only [Result.andThen]
    rw [Oper.upon_value]
    go_wp2
    rw [Lib.run_from_unsafe w ⟨b, 12, none⟩ Tryz.underlying140 Tryz.underlying79 hj hsh hlies]
    simp only [Result.andThen]
    rw [Oper.upon_value]
    go_wp2
    go_end0
    exact ⟨rfl, ⟨HU.out, (Below.refl B w).setCell (p := ⟨b, 12, none⟩) hB _⟩, fun k o hk _ h0 => (Below.heap_setCell _ _ _ _ hk).trans h0⟩
  · have h0 := h.cell12
    have HU : Hid (BzAt pl sd q B b (.pointer (some ⟨b, 12, none⟩)) l w) := h
    clear h
    go_enter Tryz.func104, Tryz.ntmps104
    go_wp2
    rw [Lib.run_neq_ptr_same w _ Tryz.underlying79 hj]
    go_wp2
    go_end0
    exact ⟨rfl, ⟨HU.out, Below.refl B _⟩, Oth.refl _ _⟩

set_option maxRecDepth 100000 in
set_option maxHeartbeats 1000000 in
theorem zwrite_any (pl sd : Int) (q : PlR) (B b : Nat) (l : List UInt8) (s : ByteArray) (w : World) (h : Bz pl sd q B b l w) (hlen : l.length + s.size ≤ 140737488355328) (hBw : B ≤ w.heap.size) :
    Calls Tryz.prog 61 #[.pointer (some ⟨b, 12, none⟩), .string s] w fun e w' => e = .returned (.tuple #[.int .i64 s.size, .nilIface]) ∧ (Bz pl sd q B b (l ++ s.data.toList) w' ∧ Below B w w') ∧ Oth b w w' := by
  obtain ⟨i0, hi, hz0, hz1, hz2⟩ := info_parts info5
  have hck := zcheck_any pl sd q B b l w h
  clear h
  go_enter Tryz.func61, Tryz.ntmps61
  go_wp2_with (go_at_call 104; refine hck.mono ?_)
  rintro e w1 ⟨rfl, ⟨h1, hb1⟩, hk1⟩
  have hlt := h1.lt
  obtain ⟨hB, v, hbk, hown, hne, hn0⟩ := h1
  have HK1 : Hid (Oth b w w1) := hk1
  clear hk1
  have c0 : w1.cell? ⟨b, 12, none⟩ = some (.pointer (some ⟨b, 12, none⟩)) := by rw [Lib.cell_of_heap hbk]; rfl
  have c1 : w1.cell? ⟨b, 13, none⟩ = some v := by rw [Lib.cell_of_heap hbk]; rfl
  go_wp2_with (at_builtin; refine Lib.wpList_append_own_string _ rfl _ _ 51 9 rfl B 5 i0 Tryz.underlying51 Tryz.underlying9 hi hz0 hz1 hz2 _ _ _ rfl hown s rfl ?c3 ?c4 ?c5 ?_)
  case c3 => unfold maxLen; omega
  case c4 => omega
  case c5 => have := hb1.size; omega
  intro v' w2 hown' hgrow hnil
  have HN : Hid (l ++ s.data.toList = [] → v' = .slice none 0 0) := fun e => by
    obtain ⟨e1, e2⟩ := List.append_eq_nil_iff.1 e
    exact hnil.2 ⟨hn0 e1, by have := congrArg List.length e2; simpa using this⟩
  clear hnil hn0
  have hb2 : w2.heap[b]? = some (.cells (RdrC pl sd q (.pointer (some ⟨b, 12, none⟩)) v) 83 (0, 0)) := by
    rw [hgrow.block b hlt (fun e => hne e.symm)]
    exact hbk
  have d0 : w2.cell? ⟨b, 12, none⟩ = some (.pointer (some ⟨b, 12, none⟩)) := by rw [Lib.cell_of_heap hb2]; rfl
  have d1 : w2.cell? ⟨b, 13, none⟩ = some v := by rw [Lib.cell_of_heap hb2]; rfl
  have f1 : w2.frozen? ⟨b, 13, none⟩ = false := Lib.frozen_of_heap hb2 13
  obtain ⟨ao, n', cap, rfl⟩ : ∃ ao n' cap, v' = .slice ao n' cap := by
    rcases hown'.2 with ⟨hv, _⟩ | ⟨g, cap, cur, hv, _⟩
    · exact ⟨_, _, _, hv⟩
    · exact ⟨_, _, _, hv⟩
  have HO : Hid (w2.ownsRow B 5 1 (.slice ao n' cap) (l ++ s.data.toList).length (byteCells (l ++ s.data.toList))) := by
    have e1 : byteCells (l ++ s.data.toList) = byteCells l ++ Lib.strCells s := by rw [byteCells_append, strCells_bytes]
    have e2 : (l ++ s.data.toList).length = l.length + s.size := by simp
    show World.ownsRow _ _ _ _ _ _ _
    rw [e1, e2]
    exact hown'
  have HB : Hid (Below B w w2) := hb1.grown hgrow (by have := hb1.size; omega) (fun k hk => (hown.lt k hk).1)
  have HG : Hid (Oth b w w2) := HK1.out.trans fun k o hkb ho h0 => (hgrow.block k (Array.getElem?_eq_some_iff.1 h0).1 (fun e => by
    rcases hown.2 with ⟨hv, _⟩ | ⟨g, cap2, cur, hv, _, hg, _⟩
    · rw [hv] at e
      simp [Value.ownBlock] at e
    · rw [hv] at e
      simp [Value.ownBlock] at e
      subst e
      rw [h0] at hg
      exact ho _ _ (Option.some.inj hg))).trans h0
  clear hown' hgrow hown
  go_wp2
  go_ret2
  exact ⟨rfl, ⟨.inr (BzAt.put hB hb2 HO.out HN.out), HB.out.setCell (p := ⟨b, 13, none⟩) hB _⟩, HG.out.trans fun k o hk _ h0 => (Below.heap_setCell _ _ _ _ hk).trans h0⟩

set_option maxHeartbeats 1000000 in
set_option maxRecDepth 100000 in
theorem zstring_any (pl sd : Int) (q : PlR) (B b : Nat) (l : List UInt8) (w : World) (h : Bz pl sd q B b l w) :
    Calls Tryz.prog 62 #[.pointer (some ⟨b, 12, none⟩)] w fun e w' => e = .returned (.string (str l)) ∧ Below B w w' := by
  obtain ⟨p, hB, v, hbk, hown, hne, hn0⟩ := h.at
  clear h
  have hB : Hid (B ≤ b) := hB
  by_cases h0 : l = []
  · obtain rfl := hn0 h0
    subst h0
    have hUS : ∀ (W : World) (q : Option Addr), (Builtin.unsafeString_ #[161, 3] 9 #[.pointer q, .int .i64 0]).run Tryz.prog W = .ok (.string ByteArray.empty) W := fun W q => by
      have h := Any.unsafeString_none bstrLays bstrExtra W q
      rw [show bstrRen.t 127 = 161 from rfl, show bstrRen.t 3 = 3 from rfl, show bstrRen.t 9 = 9 from rfl] at h
      exact h
    have mixed := bstrLays.mixed
    have c1 : w.drew.cell? ⟨b, 13, none⟩ = some (.slice none 0 0) := by
      have : w.drew.heap[b]? = some (.cells (RdrC pl sd q p (.slice none 0 0)) 83 (0, 0)) := hbk
      rw [Lib.cell_of_heap this]; rfl
    have hSD : (Builtin.unsafeSliceData_ #[51] 161 #[.slice none 0 0]).run Tryz.prog w.drew = .ok (.pointer none) w.drew := sd_none _ _ _ _
    go_enter Tryz.func62, Tryz.ntmps62
    go_wp2
    go_region_o
    all_goals (go_wp2; go_ret; exact ⟨rfl, Below.drew (Below.refl B w)⟩)
  have hl0 : l.length ≠ 0 := by simpa using h0
  obtain ⟨g, cap, cur, rfl, hbg, hg, hnc, hcm, hcs, htake⟩ : ∃ g cap cur, v = .slice (some ⟨g, 0, none⟩) l.length cap ∧ B ≤ g ∧ w.heap[g]? = some (.cells cur 5 (0, 0)) ∧ l.length ≤ cap ∧ cap ≤ maxLen ∧ cur.size = cap * 1 ∧ cur.toList.take (l.length * 1) = byteCells l := by
    rcases hown.2 with ⟨_, hz⟩ | ⟨g, cap, cur, hv, r⟩
    · exact absurd hz hl0
    · exact ⟨g, cap, cur, hv, r⟩
  have c1 : w.drew.cell? ⟨b, 13, none⟩ = some (.slice (some ⟨g, 0, none⟩) l.length cap) := by
    have : w.drew.heap[b]? = some (.cells (RdrC pl sd q p (.slice (some ⟨g, 0, none⟩) l.length cap)) 83 (0, 0)) := hbk
    rw [Lib.cell_of_heap this]; rfl
  have hSD : (Builtin.unsafeSliceData_ #[51] 161 #[.slice (some ⟨g, 0, none⟩) l.length cap]).run Tryz.prog w.drew = .ok (.pointer (some ⟨g, 0, none⟩)) w.drew :=
    Lib.run_unsafeSliceData_row _ _ _ _ _ _ (by omega)
  have hUS : (Builtin.unsafeString_ #[161, 3] 9 #[.pointer (some ⟨g, 0, none⟩), .int .i64 l.length]).run Tryz.prog w.drew = .ok (.string (str l)) (w.drew.freeze ⟨g, 0, none⟩ l.length) := by
    refine Lib.run_unsafeString_row w.drew 161 3 9 5 bstrLays.t127 bstrExtra.cellsByte g cur.size (by have hg' : w.drew.heap[g]? = some (.cells cur 5 (0, 0)) := hg; simp [World.shape?, hg']) l h0 (by omega) (by unfold maxLen at hcm; omega) ?_
    intro j x hx
    have := hown.cells (g := g) rfl j (.int .u8 x.toNat) (by simp [byteCells, hx])
    exact this
  have hbF : Hid (Below B w (w.drew.freeze ⟨g, 0, none⟩ l.length)) := Lib.below_freeze (Below.drew (Below.refl B w)) (p := ⟨g, 0, none⟩) hbg _
  clear hown htake
  have mixed := bstrLays.mixed
  go_enter Tryz.func62, Tryz.ntmps62
  go_wp2
  go_region_o
  all_goals (go_wp2; go_ret; exact ⟨rfl, hbF.out⟩)

end Go.Proofs.YtlmopjbfagijeaaGreatDoor.Sc

namespace Go.Proofs.YtlmopjbfagijeaaGreatDoor.Sc
open Go.RowKit Go.Lib Go.Deep

/-- a list of words as it can be read -/
structure Ls (L : List ByteArray) (b off c : Nat) (w : World) : Prop where
  cap : L.length ≤ c
  ty : ∃ cs, w.heap[b]? = some (.cells cs 9 (0, 0))
  at_ : ∀ (i : Nat) s, L[i]? = some s → w.cell? ⟨b, off + i, none⟩ = some (.string s)
theorem Ls.below {L : List ByteArray} {b off c : Nat} {w w' : World} (h : Ls L b off c w) (hb : Below w.heap.size w w') : Ls L b off c w' := by
  obtain ⟨h1, ⟨cs, h2⟩, h3⟩ := h
  have hl := heap_lt h2
  exact ⟨h1, ⟨cs, (hb.block _ hl).trans h2⟩, fun i s hs => (hb.cell (p := ⟨b, off + i, none⟩) hl).trans (h3 i s hs)⟩
theorem wd_new {L : List ByteArray} {b off c : Nat} {w : World} (h : Ls L b off c w) (k : Nat) (r : List ByteArray) (hr : L.drop k = r) (c' : Nat) (hc : r.length ≤ c') : Wd w.heap.size r false (w.alloc (.cells #[.slice (some ⟨b, off + k, none⟩) r.length c', .bool false] 206)) := by
  obtain ⟨h1, ⟨cs, h2⟩, h3⟩ := h
  have hl := heap_lt h2
  have hb : Below w.heap.size w (w.alloc (.cells #[.slice (some ⟨b, off + k, none⟩) r.length c', .bool false] 206)) := (Below.refl _ _).alloc (Nat.le_refl _) _
  refine ⟨some ⟨b, off + k, none⟩, c', heap_alloc_new _ _, hc, fun _ => ⟨b, off + k, rfl, Nat.ne_of_lt hl, Nat.lt_of_lt_of_le hl hb.size, ⟨cs, (hb.block _ hl).trans h2⟩, fun i s hs => ?_⟩⟩
  subst hr
  rw [List.getElem?_drop] at hs
  rw [Nat.add_assoc]
  exact (hb.cell (p := ⟨b, off + (k + i), none⟩) hl).trans (h3 (k + i) s hs)
/-- a reader's block -/
def Rb (rb : Nat) (pl sd : Int) (q : PlR) (p v : Value) (w : World) : Prop := w.heap[rb]? = some (.cells (RdrC pl sd q p v) 83 (0, 0))
theorem Rb.lt {rb : Nat} {pl sd : Int} {q : PlR} {p v : Value} {w : World} (h : Rb rb pl sd q p v w) : rb < w.heap.size := heap_lt h
theorem Rb.cells {rb : Nat} {pl sd : Int} {q : PlR} {p v : Value} {w : World} (h : Rb rb pl sd q p v w) : w.cell? ⟨rb, 0, none⟩ = some (.int .i64 pl) ∧ w.cell? ⟨rb, 1, none⟩ = some (.int .i64 sd) ∧ w.cell? ⟨rb, 2, none⟩ = some (.int .i64 q.s) ∧ w.cell? ⟨rb, 3, none⟩ = some (.int .i64 q.f) ∧ w.cell? ⟨rb, 4, none⟩ = some (.int .i64 q.d) ∧ w.cell? ⟨rb, 5, none⟩ = some (.int .i64 q.m) ∧ w.cell? ⟨rb, 6, none⟩ = some (.int .i64 q.l) ∧ w.cell? ⟨rb, 7, none⟩ = some (.int .i64 q.p) ∧ w.cell? ⟨rb, 8, none⟩ = some (.bool q.ideal) ∧ w.cell? ⟨rb, 9, none⟩ = some (.string q.master) ∧ w.cell? ⟨rb, 11, none⟩ = some (.slice q.acts q.nacts q.cacts) ∧ (∀ j, w.frozen? ⟨rb, j, none⟩ = false) := by
  have h0 : w.heap[rb]? = _ := h
  refine ⟨?_, ?_, ?_, ?_, ?_, ?_, ?_, ?_, ?_, ?_, ?_, fun j => Lib.frozen_of_heap h0 j⟩ <;> (rw [Lib.cell_of_heap h0]; rfl)
theorem Rb.set0 {rb : Nat} {pl sd : Int} {q : PlR} {p v : Value} {w : World} (h : Rb rb pl sd q p v w) (x : Int) : Rb rb x sd q p v (w.setCell ⟨rb, 0, none⟩ (.int .i64 x)) := by
  unfold Rb at h ⊢
  simp [World.setCell, Array.getElem?_modify, h, RdrC]
theorem Rb.only {rb : Nat} {pl sd : Int} {q : PlR} {p v : Value} {w w' : World} {S : List Nat} (h : Rb rb pl sd q p v w) (ho : Only S w w') (hn : rb ∉ S) : Rb rb pl sd q p v w' := (ho.block _ h.lt hn).trans h
set_option maxRecDepth 20000 in
set_option maxHeartbeats 400000 in
theorem toActs_any (rb : Nat) (pl sd : Int) (q : PlR) (p v : Value) (a : Option Addr) (m c : Nat) (w : World) (h : Rb rb pl sd q p v w) :
    Calls Tryz.prog 141 #[.pointer (some ⟨rb, 0, none⟩), .slice a m c] w fun e w' => e = .returned (.int .i64 (if m = 1 then 0 else 223)) ∧ Rb rb (if m = 1 then 3 else pl) sd q p v w' ∧ Only [rb] w w' := by
  obtain ⟨k0, -, -, -, -, -, -, -, -, -, -, fz⟩ := h.cells
  have HR : Hid (Rb rb pl sd q p v w ∧ Rb rb 3 sd q p v (w.setCell ⟨rb, 0, none⟩ (.int .i64 3))) := ⟨h, h.set0 3⟩
  clear h
  by_cases hm : m = 1
  · subst hm
    rw [if_pos rfl, if_pos rfl]
    go_enter Tryz.func141, Tryz.ntmps141
    go_wp2
    go_ret
    exact ⟨rfl, HR.out.2, (Only.refl _ _).setCell (p := ⟨rb, 0, none⟩) (by simp) _⟩
  · have hmI : ((m : Int) != 1) = true := by simp; omega
    rw [if_neg hm, if_neg hm]
    go_enter Tryz.func141, Tryz.ntmps141
    go_wp2
    go_ret
    exact ⟨rfl, HR.out.1, Only.refl _ _⟩
end Go.Proofs.YtlmopjbfagijeaaGreatDoor.Sc

namespace Go.Proofs.YtlmopjbfagijeaaGreatDoor.Sc
open Go.RowKit Go.Lib Go.Deep

theorem len7 {T : List ByteArray} (h : T.length = 7) : ∃ a b c d e f g, T = [a, b, c, d, e, f, g] := by
  match T, h with
  | [a, b, c, d, e, f, g], _ => exact ⟨a, b, c, d, e, f, g, rfl⟩
theorem Rb.setCfg {rb : Nat} {pl sd : Int} {q : PlR} {p v : Value} {w : World} (h : Rb rb pl sd q p v w) (x0 x1 x2 x3 x4 x5 : Int) : Rb rb pl sd { q with s := x0, f := x1, d := x2, m := x3, l := x4, p := x5 } p v ((((((w.setCell ⟨rb, 2, none⟩ (.int .i64 x0)).setCell ⟨rb, 3, none⟩ (.int .i64 x1)).setCell ⟨rb, 4, none⟩ (.int .i64 x2)).setCell ⟨rb, 5, none⟩ (.int .i64 x3)).setCell ⟨rb, 6, none⟩ (.int .i64 x4)).setCell ⟨rb, 7, none⟩ (.int .i64 x5)) := by
  unfold Rb at h ⊢
  simp [World.setCell, Array.getElem?_modify, h, RdrC]
theorem Wd.setRb {g rb i : Nat} {L : List ByteArray} {bad : Bool} {w : World} {pl sd : Int} {q : PlR} {p v x : Value} (h : Wd g L bad w) (hr : Rb rb pl sd q p v w) (hne : rb ≠ g) : Wd g L bad (w.setCell ⟨rb, i, none⟩ x) :=
  h.keep (Below.heap_setCell _ _ _ _ (Ne.symm hne)) fun k cs hk => Below.heap_setCell _ _ _ _ (fun e => by
    subst e
    have h0 : w.heap[_]? = _ := hr
    rw [h0] at hk
    injection hk with hk
    injection hk with _ q _
    revert q
    decide)
theorem Wd.nil {g rb : Nat} {bad : Bool} {w w' : World} (h : Wd g [] bad w) (ho : Only [rb] w w') (hne : g ≠ rb) : Wd g [] bad w' := by
  have hlt := h.lt
  obtain ⟨a, c, h1, h2, -⟩ := h
  exact ⟨a, c, (ho.block g hlt (by simp; exact hne)).trans h1, h2, fun h => absurd rfl h⟩
theorem only_to {rb : Nat} {w w1 : World} (h : Below w.heap.size w w1) : Only [rb] w w1 := ⟨h.os, h.tape, h.output, h.size, fun k hk _ => h.block k hk⟩
set_option maxRecDepth 20000 in
set_option maxHeartbeats 400000 in
theorem config7_any (B rb : Nat) (pl sd : Int) (q : PlR) (p v : Value) (x0 x1 x2 x3 x4 x5 x6 : ByteArray) (hx1 : x1.size ≤ 8388608) (hx2 : x2.size ≤ 8388608) (hx3 : x3.size ≤ 8388608) (hx4 : x4.size ≤ 8388608) (hx5 : x5.size ≤ 8388608) (hx6 : x6.size ≤ 8388608) (b off c : Nat) (w : World) (h : Rb rb pl sd q p v w) (hl : Ls [x0, x1, x2, x3, x4, x5, x6] b off c w) (hG : GlB B w) :
    Calls Tryz.prog 143 #[.pointer (some ⟨rb, 0, none⟩), .slice (some ⟨b, off, none⟩) 7 c] w fun e w' => e = .returned (.int .i64 (if ((((((false || bN x1) || bN x2) || bN x3) || bN x4) || bN x5) || bN x6) = true then 224 else 0)) ∧ Rb rb 1 sd { q with s := rN x1, f := rN x2, d := rN x3, m := rN x4, l := rN x5, p := rN x6 } p v w' ∧ Only [rb] w w' := by
  have hcap : 7 ≤ c := hl.cap
  have hcI : (7 : Int) ≤ (c : Int) := by omega
  have hc1 : ¬ c = 1 := by omega
  have hw0 := wd_new hl 1 [x1, x2, x3, x4, x5, x6] rfl (c - 1) (by show 6 ≤ c - 1; omega)
  obtain ⟨w0, hw0e⟩ : ∃ w0, w.alloc (.cells #[.slice (some ⟨b, off + 1, none⟩) 6 (c - 1), .bool false] 206) = w0 := ⟨_, rfl⟩
  have hb0 : Below w.heap.size w w0 := by rw [← hw0e]; exact (Below.refl _ _).alloc (Nat.le_refl _) _
  change Wd _ _ _ (w.alloc (.cells #[.slice (some ⟨b, off + 1, none⟩) 6 (c - 1), .bool false] 206)) at hw0
  rw [hw0e] at hw0
  have HR : Hid (Rb rb pl sd q p v w ∧ GlB B w) := ⟨h, hG⟩
  have HW0 : Hid (Wd w.heap.size (x1 :: x2 :: x3 :: x4 :: x5 :: x6 :: []) false w0 ∧ Below w.heap.size w w0) := ⟨hw0, hb0⟩
  clear h hG hw0 hb0 hl
  obtain ⟨v1, ev1⟩ : ∃ v, rN x1 = v := ⟨_, rfl⟩
  obtain ⟨b1, eb1⟩ : ∃ b, (false || bN x1) = b := ⟨_, rfl⟩
  have EV1 : Hid (rN x1 = v1 ∧ (false || bN x1) = b1) := ⟨ev1, eb1⟩
  rw [ev1, eb1]
  clear ev1 eb1
  obtain ⟨v2, ev2⟩ : ∃ v, rN x2 = v := ⟨_, rfl⟩
  obtain ⟨b2, eb2⟩ : ∃ b, (b1 || bN x2) = b := ⟨_, rfl⟩
  have EV2 : Hid (rN x2 = v2 ∧ (b1 || bN x2) = b2) := ⟨ev2, eb2⟩
  rw [ev2, eb2]
  clear ev2 eb2
  obtain ⟨v3, ev3⟩ : ∃ v, rN x3 = v := ⟨_, rfl⟩
  obtain ⟨b3, eb3⟩ : ∃ b, (b2 || bN x3) = b := ⟨_, rfl⟩
  have EV3 : Hid (rN x3 = v3 ∧ (b2 || bN x3) = b3) := ⟨ev3, eb3⟩
  rw [ev3, eb3]
  clear ev3 eb3
  obtain ⟨v4, ev4⟩ : ∃ v, rN x4 = v := ⟨_, rfl⟩
  obtain ⟨b4, eb4⟩ : ∃ b, (b3 || bN x4) = b := ⟨_, rfl⟩
  have EV4 : Hid (rN x4 = v4 ∧ (b3 || bN x4) = b4) := ⟨ev4, eb4⟩
  rw [ev4, eb4]
  clear ev4 eb4
  obtain ⟨v5, ev5⟩ : ∃ v, rN x5 = v := ⟨_, rfl⟩
  obtain ⟨b5, eb5⟩ : ∃ b, (b4 || bN x5) = b := ⟨_, rfl⟩
  have EV5 : Hid (rN x5 = v5 ∧ (b4 || bN x5) = b5) := ⟨ev5, eb5⟩
  rw [ev5, eb5]
  clear ev5 eb5
  obtain ⟨v6, ev6⟩ : ∃ v, rN x6 = v := ⟨_, rfl⟩
  obtain ⟨b6, eb6⟩ : ∃ b, (b5 || bN x6) = b := ⟨_, rfl⟩
  have EV6 : Hid (rN x6 = v6 ∧ (b5 || bN x6) = b6) := ⟨ev6, eb6⟩
  rw [ev6, eb6]
  clear ev6 eb6
  go_enter Tryz.func143, Tryz.ntmps143
  go_wp2_with fail
  try rw [hw0e]
  clear hw0e
  have hn1 := wN_any w.heap.size x1 (x2 :: x3 :: x4 :: x5 :: x6 :: []) false hx1 w0 HW0.out.1 (HR.out.2.up.to HW0.out.2).it (HR.out.2.up.to HW0.out.2).et
  change Calls _ _ _ _ fun e w' => e = .returned (.int .i64 (rN x1)) ∧ Wd w.heap.size (x2 :: x3 :: x4 :: x5 :: x6 :: []) (false || bN x1) w' ∧ Only [w.heap.size] w0 w' at hn1
  rw [EV1.out.1, EV1.out.2] at hn1
  refine hn1.mono ?_
  rintro e u1 ⟨rfl, hw1, ho1⟩
  have HW1 : Hid (Wd w.heap.size (x2 :: x3 :: x4 :: x5 :: x6 :: []) b1 u1 ∧ Below w.heap.size w u1) := ⟨hw1, HW0.out.2.trans (ho1.below HW0.out.2.size (by simp))⟩
  clear hn1 hw1 ho1
  have hn2 := wN_any w.heap.size x2 (x3 :: x4 :: x5 :: x6 :: []) b1 hx2 u1 HW1.out.1 (HR.out.2.up.to HW1.out.2).it (HR.out.2.up.to HW1.out.2).et
  change Calls _ _ _ _ fun e w' => e = .returned (.int .i64 (rN x2)) ∧ Wd w.heap.size (x3 :: x4 :: x5 :: x6 :: []) (b1 || bN x2) w' ∧ Only [w.heap.size] u1 w' at hn2
  rw [EV2.out.1, EV2.out.2] at hn2
  go_wp2_with fail
  refine hn2.mono ?_
  rintro e u2 ⟨rfl, hw2, ho2⟩
  have HW2 : Hid (Wd w.heap.size (x3 :: x4 :: x5 :: x6 :: []) b2 u2 ∧ Below w.heap.size w u2) := ⟨hw2, HW1.out.2.trans (ho2.below HW1.out.2.size (by simp))⟩
  clear hn2 hw2 ho2
  have hn3 := wN_any w.heap.size x3 (x4 :: x5 :: x6 :: []) b2 hx3 u2 HW2.out.1 (HR.out.2.up.to HW2.out.2).it (HR.out.2.up.to HW2.out.2).et
  change Calls _ _ _ _ fun e w' => e = .returned (.int .i64 (rN x3)) ∧ Wd w.heap.size (x4 :: x5 :: x6 :: []) (b2 || bN x3) w' ∧ Only [w.heap.size] u2 w' at hn3
  rw [EV3.out.1, EV3.out.2] at hn3
  go_wp2_with fail
  refine hn3.mono ?_
  rintro e u3 ⟨rfl, hw3, ho3⟩
  have HW3 : Hid (Wd w.heap.size (x4 :: x5 :: x6 :: []) b3 u3 ∧ Below w.heap.size w u3) := ⟨hw3, HW2.out.2.trans (ho3.below HW2.out.2.size (by simp))⟩
  clear hn3 hw3 ho3
  have hn4 := wN_any w.heap.size x4 (x5 :: x6 :: []) b3 hx4 u3 HW3.out.1 (HR.out.2.up.to HW3.out.2).it (HR.out.2.up.to HW3.out.2).et
  change Calls _ _ _ _ fun e w' => e = .returned (.int .i64 (rN x4)) ∧ Wd w.heap.size (x5 :: x6 :: []) (b3 || bN x4) w' ∧ Only [w.heap.size] u3 w' at hn4
  rw [EV4.out.1, EV4.out.2] at hn4
  go_wp2_with fail
  refine hn4.mono ?_
  rintro e u4 ⟨rfl, hw4, ho4⟩
  have HW4 : Hid (Wd w.heap.size (x5 :: x6 :: []) b4 u4 ∧ Below w.heap.size w u4) := ⟨hw4, HW3.out.2.trans (ho4.below HW3.out.2.size (by simp))⟩
  clear hn4 hw4 ho4
  have hn5 := wN_any w.heap.size x5 (x6 :: []) b4 hx5 u4 HW4.out.1 (HR.out.2.up.to HW4.out.2).it (HR.out.2.up.to HW4.out.2).et
  change Calls _ _ _ _ fun e w' => e = .returned (.int .i64 (rN x5)) ∧ Wd w.heap.size (x6 :: []) (b4 || bN x5) w' ∧ Only [w.heap.size] u4 w' at hn5
  rw [EV5.out.1, EV5.out.2] at hn5
  go_wp2_with fail
  refine hn5.mono ?_
  rintro e u5 ⟨rfl, hw5, ho5⟩
  have HW5 : Hid (Wd w.heap.size (x6 :: []) b5 u5 ∧ Below w.heap.size w u5) := ⟨hw5, HW4.out.2.trans (ho5.below HW4.out.2.size (by simp))⟩
  clear hn5 hw5 ho5
  have hn6 := wN_any w.heap.size x6 ([]) b5 hx6 u5 HW5.out.1 (HR.out.2.up.to HW5.out.2).it (HR.out.2.up.to HW5.out.2).et
  change Calls _ _ _ _ fun e w' => e = .returned (.int .i64 (rN x6)) ∧ Wd w.heap.size ([]) (b5 || bN x6) w' ∧ Only [w.heap.size] u5 w' at hn6
  rw [EV6.out.1, EV6.out.2] at hn6
  go_wp2_with fail
  refine hn6.mono ?_
  rintro e u6 ⟨rfl, hw6, ho6⟩
  have HW6 : Hid (Wd w.heap.size ([]) b6 u6 ∧ Below w.heap.size w u6) := ⟨hw6, HW5.out.2.trans (ho6.below HW5.out.2.size (by simp))⟩
  clear hn6 hw6 ho6
  have hr6 : Rb rb pl sd q p v u6 := HR.out.1.only (S := []) ⟨HW6.out.2.os, HW6.out.2.tape, HW6.out.2.output, HW6.out.2.size, fun k hk _ => HW6.out.2.block k hk⟩ (by simp)
  have hrne : rb ≠ w.heap.size := Nat.ne_of_lt HR.out.1.lt
  obtain ⟨k0, k1, k2, k3, k4, k5, k6, k7, k8, k9, k11, fz⟩ := hr6.cells
  have hrc := hr6.setCfg v1 v2 v3 v4 v5 v6
  have hr7 := hrc.set0 1
  have HF : Hid (Rb rb 1 sd { q with s := v1, f := v2, d := v3, m := v4, l := v5, p := v6 } p v (((((((u6.setCell ⟨rb, 2, none⟩ (.int .i64 v1)).setCell ⟨rb, 3, none⟩ (.int .i64 v2)).setCell ⟨rb, 4, none⟩ (.int .i64 v3)).setCell ⟨rb, 5, none⟩ (.int .i64 v4)).setCell ⟨rb, 6, none⟩ (.int .i64 v5)).setCell ⟨rb, 7, none⟩ (.int .i64 v6)).setCell ⟨rb, 0, none⟩ (.int .i64 1))) := hr7
  have hO6 : Only [rb] u6 (((((((u6.setCell ⟨rb, 2, none⟩ (.int .i64 v1)).setCell ⟨rb, 3, none⟩ (.int .i64 v2)).setCell ⟨rb, 4, none⟩ (.int .i64 v3)).setCell ⟨rb, 5, none⟩ (.int .i64 v4)).setCell ⟨rb, 6, none⟩ (.int .i64 v5)).setCell ⟨rb, 7, none⟩ (.int .i64 v6)).setCell ⟨rb, 0, none⟩ (.int .i64 1)) := (((((((Only.refl [rb] u6).setCell (p := ⟨rb, 2, none⟩) (by simp) _).setCell (p := ⟨rb, 3, none⟩) (by simp) _).setCell (p := ⟨rb, 4, none⟩) (by simp) _).setCell (p := ⟨rb, 5, none⟩) (by simp) _).setCell (p := ⟨rb, 6, none⟩) (by simp) _).setCell (p := ⟨rb, 7, none⟩) (by simp) _).setCell (p := ⟨rb, 0, none⟩) (by simp) _
  have hwd : Wd w.heap.size [] b6 (((((((u6.setCell ⟨rb, 2, none⟩ (.int .i64 v1)).setCell ⟨rb, 3, none⟩ (.int .i64 v2)).setCell ⟨rb, 4, none⟩ (.int .i64 v3)).setCell ⟨rb, 5, none⟩ (.int .i64 v4)).setCell ⟨rb, 6, none⟩ (.int .i64 v5)).setCell ⟨rb, 7, none⟩ (.int .i64 v6)).setCell ⟨rb, 0, none⟩ (.int .i64 1)) := HW6.out.1.nil hO6 hrne.symm
  have HO : Hid (Only [rb] w (((((((u6.setCell ⟨rb, 2, none⟩ (.int .i64 v1)).setCell ⟨rb, 3, none⟩ (.int .i64 v2)).setCell ⟨rb, 4, none⟩ (.int .i64 v3)).setCell ⟨rb, 5, none⟩ (.int .i64 v4)).setCell ⟨rb, 6, none⟩ (.int .i64 v5)).setCell ⟨rb, 7, none⟩ (.int .i64 v6)).setCell ⟨rb, 0, none⟩ (.int .i64 1))) := (only_to HW6.out.2).trans hO6
  obtain ⟨w7, hw7⟩ : ∃ w7, ((((((u6.setCell ⟨rb, 2, none⟩ (.int .i64 v1)).setCell ⟨rb, 3, none⟩ (.int .i64 v2)).setCell ⟨rb, 4, none⟩ (.int .i64 v3)).setCell ⟨rb, 5, none⟩ (.int .i64 v4)).setCell ⟨rb, 6, none⟩ (.int .i64 v5)).setCell ⟨rb, 7, none⟩ (.int .i64 v6)).setCell ⟨rb, 0, none⟩ (.int .i64 1) = w7 := ⟨_, rfl⟩
  rw [hw7] at hwd HF HO
  have HW7 : Hid (Unit → ((((((u6.setCell ⟨rb, 2, none⟩ (.int .i64 v1)).setCell ⟨rb, 3, none⟩ (.int .i64 v2)).setCell ⟨rb, 4, none⟩ (.int .i64 v3)).setCell ⟨rb, 5, none⟩ (.int .i64 v4)).setCell ⟨rb, 6, none⟩ (.int .i64 v5)).setCell ⟨rb, 7, none⟩ (.int .i64 v6)).setCell ⟨rb, 0, none⟩ (.int .i64 1) = w7) := fun _ => hw7
  clear hr6 hrc hr7 hO6 hw7
  go_wp2_with fail
  rw [HW7.out ()]
  clear HW7 k0 k1 k2 k3 k4 k5 k6 k7 k8 k9 k11 fz
  refine (wcode_any w.heap.size [] b6 w7 hwd).mono ?_
  rintro e w9 ⟨rfl, rfl⟩
  clear hwd
  go_wp2
  all_goals
    go_ret
    exact ⟨rfl, HF.out, HO.out⟩
end Go.Proofs.YtlmopjbfagijeaaGreatDoor.Sc

namespace Go.Proofs.YtlmopjbfagijeaaGreatDoor.Sc
open Go.RowKit Go.Lib Go.Deep

noncomputable def rH (x : ByteArray) : ByteArray := str ((rdH x.data.toList).getD [])
noncomputable def bH (x : ByteArray) : Bool := !(rdH x.data.toList).isSome
theorem rdH_len : ∀ (l r : List UInt8), rdH l = some r → r.length ≤ l.length
  | [], r, h => by
    obtain rfl := Option.some.inj h
    exact Nat.le_refl _
  | [_], r, h => by cases h
  | a :: b :: l, r, h => by
    rw [rdH] at h
    cases ha : dgN a.toNat with
    | none => rw [ha] at h; cases h
    | some x =>
      cases hb : dgN b.toNat with
      | none => rw [ha, hb] at h; cases h
      | some y =>
        rw [ha, hb] at h
        simp only at h
        cases hl : rdH l with
        | none => rw [hl] at h; cases h
        | some r' =>
          rw [hl] at h
          have := rdH_len l r' hl
          obtain rfl := Option.some.inj h
          simp only [List.length_cons]
          omega
theorem rH_size (x : ByteArray) : (rH x).size ≤ x.size := by
  unfold rH
  rw [str_size]
  cases h : rdH x.data.toList with
  | none => simp
  | some r =>
    have := rdH_len _ _ h
    rw [size_eq]
    exact this
theorem Wd.oth {g rb : Nat} {bad : Bool} {w w' : World} (h : Wd g [] bad w) (ho : Oth rb w w') (hne : g ≠ rb) : Wd g [] bad w' := by
  obtain ⟨a, c, h1, h2, -⟩ := h
  exact ⟨a, c, ho.cells hne (by decide) h1, h2, fun h => absurd rfl h⟩
theorem GlB.ge {B : Nat} {w : World} (h : GlB B w) : B ≤ w.heap.size := h.le
set_option maxRecDepth 20000 in
set_option maxHeartbeats 400000 in
theorem piece2_any (B rb : Nat) (pl sd : Int) (q : PlR) (tp : List UInt8) (x0 x1 : ByteArray) (hx1 : x1.size ≤ 8388608) (htp : tp.length ≤ 1099511627776) (b off c : Nat) (w : World) (h : Bz pl sd q B rb tp w) (hl : Ls [x0, x1] b off c w) (hBw : B ≤ w.heap.size) :
    Calls Tryz.prog 145 #[.pointer (some ⟨rb, 0, none⟩), .slice (some ⟨b, off, none⟩) 2 c] w fun e w' => e = .returned (.int .i64 (if (false || bH x1) = true then 224 else 0)) ∧ Bz pl sd q B rb (tp ++ (rH x1).data.toList) w' ∧ Below B w w' ∧ Oth rb w w' := by
  have hcap : 2 ≤ c := hl.cap
  have hcI : (2 : Int) ≤ (c : Int) := by omega
  have hc1 : ¬ c = 1 := by omega
  have hw0 := wd_new hl 1 [x1] rfl (c - 1) (by show 1 ≤ c - 1; omega)
  obtain ⟨w0, hw0e⟩ : ∃ w0, w.alloc (.cells #[.slice (some ⟨b, off + 1, none⟩) 1 (c - 1), .bool false] 206) = w0 := ⟨_, rfl⟩
  have hb0 : Below w.heap.size w w0 := by rw [← hw0e]; exact (Below.refl _ _).alloc (Nat.le_refl _) _
  change Wd _ _ _ (w.alloc (.cells #[.slice (some ⟨b, off + 1, none⟩) 1 (c - 1), .bool false] 206)) at hw0
  rw [hw0e] at hw0
  have hn := wH_any w.heap.size x1 [] false hx1 w0.drew (hw0.below (bd1 w0))
  change Calls _ _ _ _ fun e w' => e = .returned (.string (rH x1)) ∧ Wd w.heap.size [] (false || bH x1) w' ∧ Only [w.heap.size] w0.drew w' at hn
  have hrs := rH_size x1
  have hrlt := h.lt
  have HZ : Hid (Bz pl sd q B rb tp w ∧ B ≤ w.heap.size ∧ rb < w.heap.size ∧ Below w.heap.size w w0) := ⟨h, hBw, hrlt, hb0⟩
  generalize rH x1 = v1 at *
  generalize (false || bH x1) = b1 at *
  clear h hl hw0 hb0 hBw hrlt
  go_enter Tryz.func145, Tryz.ntmps145
  go_wp2_with fail
  try rw [hw0e]
  clear hw0e
  have HN : Hid (∀ w1, Below w.heap.size w w1 → Calls Tryz.prog 61 #[.pointer (some ⟨rb, 12, none⟩), .string v1] w1 fun e w' => e = .returned (.tuple #[.int .i64 v1.size, .nilIface]) ∧ (Bz pl sd q B rb (tp ++ v1.data.toList) w' ∧ Below B w1 w') ∧ Oth rb w1 w') := fun w1 hb1 => zwrite_any pl sd q B rb tp v1 w1 (HZ.out.1.below hb1) (by omega) (Nat.le_trans HZ.out.2.1 hb1.size)
  have HB0 : Hid (Below w.heap.size w w0.drew) := Below.drew HZ.out.2.2.2
  go_region_held_law (fun _ => True) (exact trivial) (first | (go_at_call 161; refine hn.mono ?_; rintro e w1 ⟨rfl, hw1, ho1⟩; have HW1 : Hid (Wd w.heap.size [] b1 w1 ∧ Below w.heap.size w w1) := ⟨hw1, HB0.out.trans (ho1.below HB0.out.size (by simp))⟩; have hwr := HN.out w1 HW1.out.2; clear hn hw1 ho1) | (go_at_call 61; refine hwr.mono ?_; rintro e w2 ⟨rfl, ⟨hz2, hb2⟩, ho2⟩; clear hwr))
  have hwd := HW1.out.1.oth ho2 (Nat.ne_of_gt HZ.out.2.2.1)
  have HJ : Hid (Bz pl sd q B rb (tp ++ v1.data.toList) w2 ∧ Below B w w2 ∧ Oth rb w w2) := ⟨hz2, (HW1.out.2.mono HZ.out.2.1).trans hb2, (Oth.below HW1.out.2).trans ho2⟩
  clear hz2 hb2 ho2
  go_wp2_with fail
  refine (wcode_any w.heap.size [] b1 w2 hwd).mono ?_
  rintro e w3 ⟨rfl, rfl⟩
  clear hwd
  go_wp2
  all_goals
    go_ret
    exact ⟨rfl, HJ.out⟩
set_option maxRecDepth 20000 in
theorem piece_no (rb : Nat) (a : Option Addr) (m c : Nat) (hm : m ≠ 2) (w : World) :
    Calls Tryz.prog 145 #[.pointer (some ⟨rb, 0, none⟩), .slice a m c] w fun e w' => e = .returned (.int .i64 223) ∧ w' = w := by
  have hmI : ((m : Int) != 2) = true := by simp; omega
  go_enter Tryz.func145, Tryz.ntmps145
  go_wp2
  go_ret
  exact ⟨rfl, rfl⟩
set_option maxRecDepth 20000 in
theorem config_no (rb : Nat) (a : Option Addr) (m c : Nat) (hm : m ≠ 7) (w : World) :
    Calls Tryz.prog 143 #[.pointer (some ⟨rb, 0, none⟩), .slice a m c] w fun e w' => e = .returned (.int .i64 223) ∧ w' = w := by
  have hmI : ((m : Int) != 7) = true := by simp; omega
  go_enter Tryz.func143, Tryz.ntmps143
  go_wp2
  go_ret
  exact ⟨rfl, rfl⟩
end Go.Proofs.YtlmopjbfagijeaaGreatDoor.Sc

namespace Go.Proofs.YtlmopjbfagijeaaGreatDoor.Sc
open Go.RowKit Go.Lib Go.Deep

theorem Rb.set8 {rb : Nat} {pl sd : Int} {q : PlR} {p v : Value} {w : World} (h : Rb rb pl sd q p v w) : Rb rb pl sd { q with ideal := true } p v (w.setCell ⟨rb, 8, none⟩ (.bool true)) := by
  unfold Rb at h ⊢
  simp [World.setCell, Array.getElem?_modify, h, RdrC]
theorem Rb.set9 {rb : Nat} {pl sd : Int} {q : PlR} {p v : Value} {w : World} (h : Rb rb pl sd q p v w) (x : ByteArray) : Rb rb pl sd { q with master := x } p v (w.setCell ⟨rb, 9, none⟩ (.string x)) := by
  unfold Rb at h ⊢
  simp [World.setCell, Array.getElem?_modify, h, RdrC]
theorem neW {x y : ByteArray} (h : x ≠ y) : (x.toList == y.toList) = false := beq_eq_false_iff_ne.2 fun e => h (by
  rw [ByteArray.toList_eq, ByteArray.toList_eq] at e
  exact ByteArray.ext (Array.toList_inj.1 e))
set_option maxRecDepth 20000 in
set_option maxHeartbeats 400000 in
theorem seal_len (rb : Nat) (pl sd : Int) (q : PlR) (p v : Value) (a : Option Addr) (m c : Nat) (h2 : m ≠ 2) (h3 : m ≠ 3) (w : World) (h : Rb rb pl sd q p v w) :
    Calls Tryz.prog 144 #[.pointer (some ⟨rb, 0, none⟩), .slice a m c] w fun e w' => e = .returned (.int .i64 223) ∧ Rb rb 2 sd q p v w' ∧ Only [rb] w w' := by
  obtain ⟨k0, -, -, -, -, -, -, -, -, -, -, fz⟩ := h.cells
  have HR : Hid (Rb rb 2 sd q p v (w.setCell ⟨rb, 0, none⟩ (.int .i64 2))) := h.set0 2
  have g2 : ((m : Int) != 2) = true := by simp; omega
  have g3 : ((m : Int) != 3) = true := by simp; omega
  clear h
  go_enter Tryz.func144, Tryz.ntmps144
  go_wp2
  go_ret
  exact ⟨rfl, HR.out, (Only.refl _ _).setCell (p := ⟨rb, 0, none⟩) (by simp) _⟩
set_option maxRecDepth 20000 in
set_option maxHeartbeats 400000 in
theorem seal_ideal (rb : Nat) (pl sd : Int) (q : PlR) (p v : Value) (x0 : ByteArray) (b off c : Nat) (w : World) (h : Rb rb pl sd q p v w) (hl : Ls [x0, { data := #[105, 100, 101, 97, 108] }] b off c w) :
    Calls Tryz.prog 144 #[.pointer (some ⟨rb, 0, none⟩), .slice (some ⟨b, off, none⟩) 2 c] w fun e w' => e = .returned (.int .i64 0) ∧ Rb rb 2 sd { q with ideal := true } p v w' ∧ Only [rb] w w' := by
  obtain ⟨k0, -, -, -, -, -, -, -, k8, -, -, fz⟩ := h.cells
  have HR : Hid (Rb rb 2 sd { q with ideal := true } p v ((w.setCell ⟨rb, 0, none⟩ (.int .i64 2)).setCell ⟨rb, 8, none⟩ (.bool true))) := (h.set0 2).set8
  have hbr : b ≠ rb := fun e => by
    obtain ⟨cs, hty⟩ := hl.ty
    subst e
    have h0 : w.heap[_]? = _ := h
    rw [hty] at h0
    injection h0 with h0
    injection h0 with _ q _
    revert q
    decide
  have x1 : w.cell? ⟨b, off + 1, none⟩ = some (.string { data := #[105, 100, 101, 97, 108] }) := hl.at_ 1 _ rfl
  clear h hl
  go_enter Tryz.func144, Tryz.ntmps144
  go_wp2
  go_ret
  exact ⟨rfl, HR.out, ((Only.refl _ _).setCell (p := ⟨rb, 0, none⟩) (by simp) _).setCell (p := ⟨rb, 8, none⟩) (by simp) _⟩
set_option maxRecDepth 20000 in
set_option maxHeartbeats 400000 in
theorem seal_bad (rb : Nat) (pl sd : Int) (q : PlR) (p v : Value) (L : List ByteArray) (m : Nat) (_ : L.length = m) (x1 : ByteArray) (hx : L[1]? = some x1) (b off c : Nat) (h23 : (m = 2 ∧ x1 ≠ { data := #[105, 100, 101, 97, 108] }) ∨ (m = 3 ∧ x1 ≠ { data := #[114, 101, 97, 108] })) (w : World) (h : Rb rb pl sd q p v w) (hl : Ls L b off c w) :
    Calls Tryz.prog 144 #[.pointer (some ⟨rb, 0, none⟩), .slice (some ⟨b, off, none⟩) m c] w fun e w' => e = .returned (.int .i64 224) ∧ Rb rb 2 sd q p v w' ∧ Only [rb] w w' := by
  obtain ⟨k0, -, -, -, -, -, -, -, k8, -, -, fz⟩ := h.cells
  have HR : Hid (Rb rb 2 sd q p v (w.setCell ⟨rb, 0, none⟩ (.int .i64 2))) := h.set0 2
  have hbr : b ≠ rb := fun e => by
    obtain ⟨cs, hty⟩ := hl.ty
    subst e
    have h0 : w.heap[_]? = _ := h
    rw [hty] at h0
    injection h0 with h0
    injection h0 with _ q _
    revert q
    decide
  have x1c : w.cell? ⟨b, off + 1, none⟩ = some (.string x1) := hl.at_ 1 _ hx
  clear h hl hx
  rcases h23 with ⟨rfl, hne⟩ | ⟨rfl, hne⟩
  · have hb : (x1.toList == ([105, 100, 101, 97, 108] : List UInt8)) = false := by
      have h := neW hne
      rwa [ByteArray.toList_eq ({ data := #[105, 100, 101, 97, 108] } : ByteArray)] at h
    clear hne
    go_enter Tryz.func144, Tryz.ntmps144
    go_wp2
    go_ret
    exact ⟨rfl, HR.out, (Only.refl _ _).setCell (p := ⟨rb, 0, none⟩) (by simp) _⟩
  · have hb : (x1.toList == ([114, 101, 97, 108] : List UInt8)) = false := by
      have h := neW hne
      rwa [ByteArray.toList_eq ({ data := #[114, 101, 97, 108] } : ByteArray)] at h
    clear hne
    go_enter Tryz.func144, Tryz.ntmps144
    go_wp2
    go_ret
    exact ⟨rfl, HR.out, (Only.refl _ _).setCell (p := ⟨rb, 0, none⟩) (by simp) _⟩
set_option maxRecDepth 20000 in
set_option maxHeartbeats 600000 in
theorem seal_real (rb : Nat) (pl sd : Int) (q : PlR) (p v : Value) (x0 x2 : ByteArray) (hx2 : x2.size ≤ 8388608) (b off c : Nat) (w : World) (h : Rb rb pl sd q p v w) (hl : Ls [x0, { data := #[114, 101, 97, 108] }, x2] b off c w) :
    Calls Tryz.prog 144 #[.pointer (some ⟨rb, 0, none⟩), .slice (some ⟨b, off, none⟩) 3 c] w fun e w' => e = .returned (.int .i64 (if (false || bH x2) = true then 224 else 0)) ∧ Rb rb 2 sd { q with master := rH x2 } p v w' ∧ Only [rb] w w' := by
  obtain ⟨k0, -, -, -, -, -, -, -, -, -, -, fz⟩ := h.cells
  have hbr : b ≠ rb := fun e => by
    obtain ⟨cs, hty⟩ := hl.ty
    subst e
    have h0 : w.heap[_]? = _ := h
    rw [hty] at h0
    injection h0 with h0
    injection h0 with _ q _
    revert q
    decide
  have x1c : w.cell? ⟨b, off + 1, none⟩ = some (.string { data := #[114, 101, 97, 108] }) := hl.at_ 1 _ rfl
  have hcap : 3 ≤ c := hl.cap
  have hcI : (3 : Int) ≤ (c : Int) := by omega
  have hc2 : ¬ c = 2 := by omega
  obtain ⟨wa, hwa⟩ : ∃ wa, w.setCell ⟨rb, 0, none⟩ (.int .i64 2) = wa := ⟨_, rfl⟩
  have hoa : Only [rb] w wa := by rw [← hwa]; exact (Only.refl _ _).setCell (p := ⟨rb, 0, none⟩) (by simp) _
  have hra : Rb rb 2 sd q p v wa := by rw [← hwa]; exact h.set0 2
  have hla : Ls [x0, { data := #[114, 101, 97, 108] }, x2] b off c wa := by
    obtain ⟨h1, ⟨cs, h2⟩, h3⟩ := hl
    have hk := hoa.block b (heap_lt h2) (by simp; exact hbr)
    exact ⟨h1, ⟨cs, hk.trans h2⟩, fun i s hs => by
      have h := h3 i s hs
      simp only [World.cell?, hk] at h ⊢
      exact h⟩
  have hsz : wa.heap.size = w.heap.size := by rw [← hwa]; simp
  have x1a : wa.cell? ⟨b, off + 1, none⟩ = some (.string { data := #[114, 101, 97, 108] }) := hla.at_ 1 _ rfl
  have hw0 := wd_new hla 2 [x2] rfl (c - 2) (by show 1 ≤ c - 2; omega)
  obtain ⟨w0, hw0e⟩ : ∃ w0, wa.alloc (.cells #[.slice (some ⟨b, off + 2, none⟩) 1 (c - 2), .bool false] 206) = w0 := ⟨_, rfl⟩
  have hb0 : Below wa.heap.size wa w0 := by rw [← hw0e]; exact (Below.refl _ _).alloc (Nat.le_refl _) _
  change Wd _ _ _ (wa.alloc (.cells #[.slice (some ⟨b, off + 2, none⟩) 1 (c - 2), .bool false] 206)) at hw0
  rw [hw0e] at hw0
  have hn := wH_any wa.heap.size x2 [] false hx2 w0 hw0
  change Calls _ _ _ _ fun e w' => e = .returned (.string (rH x2)) ∧ Wd wa.heap.size [] (false || bH x2) w' ∧ Only [wa.heap.size] w0 w' at hn
  have HZ : Hid (Rb rb 2 sd q p v wa ∧ Below wa.heap.size wa w0 ∧ Only [rb] w wa ∧ rb < wa.heap.size) := ⟨hra, hb0, hoa, hra.lt⟩
  have HWA : Hid (Unit → w.setCell ⟨rb, 0, none⟩ (.int .i64 2) = wa) := fun _ => hwa
  have HW0 : Hid (Unit → wa.alloc (.cells #[.slice (some ⟨b, off + 2, none⟩) 1 (c - 2), .bool false] 206) = w0) := fun _ => hw0e
  rw [hsz] at hn
  generalize rH x2 = v1 at *
  generalize (false || bH x2) = b1 at *
  clear h hl hw0 hb0 hra hla hoa
  go_enter Tryz.func144, Tryz.ntmps144
  go_wp2_with fail
  refine hn.mono ?_
  rintro e w1 ⟨rfl, hw1, ho1⟩
  clear hw0e hwa
  have hb1 : Below wa.heap.size wa w1 := HZ.out.2.1.trans (ho1.below HZ.out.2.1.size (by simp; omega))
  have hr1 : Rb rb 2 sd q p v w1 := HZ.out.1.only (S := []) ⟨hb1.os, hb1.tape, hb1.output, hb1.size, fun k hk _ => hb1.block k hk⟩ (by simp)
  obtain ⟨-, -, -, -, -, -, -, -, -, j9, -, fz1⟩ := hr1.cells
  have hO1 : Only [rb] w1 (w1.setCell ⟨rb, 9, none⟩ (.string v1)) := (Only.refl _ _).setCell (p := ⟨rb, 9, none⟩) (by simp) _
  have hwd : Wd w.heap.size [] b1 (w1.setCell ⟨rb, 9, none⟩ (.string v1)) := hw1.nil hO1 (by have := HZ.out.2.2.2; omega)
  have HJ : Hid (Rb rb 2 sd { q with master := v1 } p v (w1.setCell ⟨rb, 9, none⟩ (.string v1)) ∧ Only [rb] w (w1.setCell ⟨rb, 9, none⟩ (.string v1))) := ⟨hr1.set9 v1, (HZ.out.2.2.1.trans (only_to hb1)).trans hO1⟩
  clear hn hw1 ho1 hb1 hr1 hO1 k0 fz x1c x1a
  go_wp2_with fail
  refine (wcode_any w.heap.size [] b1 _ hwd).mono ?_
  rintro e w3 ⟨rfl, rfl⟩
  clear hwd
  go_wp2
  all_goals
    go_ret
    exact ⟨rfl, HJ.out⟩
end Go.Proofs.YtlmopjbfagijeaaGreatDoor.Sc
