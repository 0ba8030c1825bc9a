import Derived.Test.YtbjiamaaocjbfaaDoorBaseM
import Derived.Test.YtbjiamaaocjbfaaDoorKrP
import Derived.Test.YtbjiamaaocjbfaaDoorShM2
namespace Go.Proofs.YtbjiamaaocjbfaaDoor.Kr
open Go.RowKit Go.Lib

theorem results_cell_tmp {P : Program} {fn : Func} {p u : Tmp} {ty : TypeId} (h : fn.results = #[.cell p ty, .tmp u]) (tmps : Array Value) (w : World) (g : Nat) (t : TypeId) (cs : Array Value) (fr : Nat × Nat) (d : TypeDesc)
    (hp : tmps.getD p undef = .pointer (some ⟨g, 0, none⟩)) (hg : w.heap[g]? = some (.cells cs t fr)) (hu : P.underlying ty = some d) (hd : (match d with | .struct _ | .array _ _ => true | _ => false) = true) (hi : (P.info? ty).map (·.size) = some cs.size) :
    (results fn tmps).run P w = .ok (.tuple #[.agg cs, tmps.getD u undef]) w := by
  have hp' : tmps[p]?.getD undef = .pointer (some ⟨g, 0, none⟩) := by simpa using hp
  simp [results, h, hp', asAddr, run_loadVar_row w g t ty cs fr d hg hu hd hi]
theorem results_cell_tmp2 {P : Program} {fn : Func} {p u q : Tmp} {ty : TypeId} (h : fn.results = #[.cell p ty, .tmp u, .tmp q]) (tmps : Array Value) (w : World) (g : Nat) (t : TypeId) (cs : Array Value) (fr : Nat × Nat) (d : TypeDesc)
    (hp : tmps.getD p undef = .pointer (some ⟨g, 0, none⟩)) (hg : w.heap[g]? = some (.cells cs t fr)) (hu : P.underlying ty = some d) (hd : (match d with | .struct _ | .array _ _ => true | _ => false) = true) (hi : (P.info? ty).map (·.size) = some cs.size) :
    (results fn tmps).run P w = .ok (.tuple #[.agg cs, tmps.getD u undef, tmps.getD q undef]) w := by
  have hp' : tmps[p]?.getD undef = .pointer (some ⟨g, 0, none⟩) := by simpa using hp
  simp [results, h, hp', asAddr, run_loadVar_row w g t ty cs fr d hg hu hd hi]

end Go.Proofs.YtbjiamaaocjbfaaDoor.Kr

namespace Go.Proofs.YtbjiamaaocjbfaaDoor.Kr
open Go.RowKit Go.Lib Go.Deep

/-- a slot, as a value -/
def slotV (s : Slot) : Value := .agg #[.string (str s.salt), .int .i64 s.rounds, .string (str s.wrapped)]

theorem put3 {W : World} {g : Nat} {t : TypeId} {x0 x1 x2 y0 y1 y2 : Value} (h : W.heap[g]? = some (.cells #[x0, x1, x2] t (0, 0))) : (((W.setCell ⟨g, 0, none⟩ y0).setCell ⟨g, 1, none⟩ y1).setCell ⟨g, 2, none⟩ y2).heap[g]? = some (.cells #[y0, y1, y2] t (0, 0)) :=
  heap_setCell_same _ _ 2 _ _ y2 (heap_setCell_same _ _ 1 _ _ y1 (heap_setCell_same _ _ 0 _ _ y0 h))
theorem sizeSlot : (Tryd.prog.info? 26).map (·.size) = some 3 := by kernel_rfl
/-- slots in a row of the call's own -/
def OwnS (w : World) (B : Nat) (v : Value) (ss : List Slot) : Prop := w.ownsRow B 26 3 v ss.length (ringCells ss)
theorem OwnS.len {w : World} {B : Nat} {v : Value} {ss : List Slot} (h : OwnS w B v ss) : ∃ a cap, v = .slice a ss.length cap := by
  rcases h.2 with ⟨h1, h2⟩ | ⟨g, cap, cur, h1, _⟩
  · exact ⟨none, 0, by rw [h2]; exact h1⟩
  · exact ⟨_, cap, h1⟩
theorem OwnS.below {w w' : World} {B : Nat} {v : Value} {ss : List Slot} (h : OwnS w B v ss) (hb : Below w.heap.size w w') : OwnS w' B v ss := by
  obtain ⟨h1, h2⟩ := h
  refine ⟨h1, ?_⟩
  rcases h2 with h0 | ⟨g, cap, cur, e1, e2, e3, e4⟩
  · exact .inl h0
  · exact .inr ⟨g, cap, cur, e1, e2, (hb.block _ (heap_lt e3)).trans e3, e4⟩
theorem owns_set {w : World} {B n size : Nat} {v y : Value} {e : TypeId} {xs : List Value} {p : Addr} (h : w.ownsRow B e size v n xs) (hp : p.block < B) : (w.setCell p y).ownsRow B e size v n xs := by
  obtain ⟨h1, h2⟩ := h
  refine ⟨h1, ?_⟩
  rcases h2 with h0 | ⟨g, cap, cur, e1, e2, e3, e4⟩
  · exact .inl h0
  · exact .inr ⟨g, cap, cur, e1, e2, (heap_setCell_other w p g y (by omega)).trans e3, e4⟩
theorem owns_len {w : World} {B n size : Nat} {v : Value} {e : TypeId} {xs : List Value} (h : w.ownsRow B e size v n xs) : ∃ a cap, v = .slice a n cap := by
  rcases h.2 with ⟨h1, h2⟩ | ⟨g, cap, cur, h1, _⟩
  · exact ⟨none, 0, by rw [h2]; exact h1⟩
  · exact ⟨_, cap, h1⟩
theorem owns_mono {w : World} {B B' n size : Nat} {v : Value} {e : TypeId} {xs : List Value} (h : w.ownsRow B e size v n xs) (hB : B' ≤ B) : w.ownsRow B' e size v n xs := by
  obtain ⟨h1, h2⟩ := h
  refine ⟨h1, ?_⟩
  rcases h2 with h0 | ⟨g, cap, cur, e1, e2, e3⟩
  · exact .inl h0
  · exact .inr ⟨g, cap, cur, e1, by omega, e3⟩
theorem sizeRing : (Tryd.prog.info? 24).map (·.size) = some 2 := by kernel_rfl
theorem infoS0 : (Tryd.prog.info? 26).map (fun i => (i.zero, i.size, i.bytes)) = some (some (.agg #[.string { data := #[] }, .int .i64 0, .string { data := #[] }]), 3, 40) := by kernel_rfl
theorem info_S : ∃ i0, Tryd.prog.info? 26 = some i0 ∧ i0.zero = some (.agg #[.string { data := #[] }, .int .i64 0, .string { data := #[] }]) ∧ i0.size = 3 ∧ i0.bytes = 40 := by
  have h := infoS0
  cases hq : Tryd.prog.info? 26 with
  | none => rw [hq] at h; cases h
  | some i =>
    rw [hq] at h
    simp at h
    exact ⟨i, rfl, h.1, h.2.1, h.2.2⟩
theorem put2 {W : World} {g : Nat} {t : TypeId} {x0 x1 y0 y1 : Value} (h : W.heap[g]? = some (.cells #[x0, x1] t (0, 0))) : ((W.setCell ⟨g, 0, none⟩ y0).setCell ⟨g, 1, none⟩ y1).heap[g]? = some (.cells #[y0, y1] t (0, 0)) :=
  heap_setCell_same _ _ 1 _ _ y1 (heap_setCell_same _ _ 0 _ _ y0 h)
/-- a list of slots that can be read -/
structure SeeS (w : World) (v : Value) (ss : List Slot) : Prop where
  ex : ∃ a b off cap, v = .slice a ss.length cap ∧ (ss.length ≠ 0 → a = some ⟨b, off, none⟩ ∧ b < w.heap.size) ∧ ∀ j u, (ringCells ss)[j]? = some u → w.cell? ⟨b, off + j, none⟩ = some u
theorem SeeS.of_own {w : World} {B : Nat} {v : Value} {ss : List Slot} (h : OwnS w B v ss) : SeeS w v ss := by
  rcases h.2 with ⟨h1, h2⟩ | ⟨g, cap, cur, h1, h2, h3, h4, h5, h6, h7⟩
  · refine ⟨none, 0, 0, 0, by rw [h2]; exact h1, fun h => absurd h2 h, fun j u hu => ?_⟩
    have h0 := ringCells_length ss
    rw [h2] at h0
    have := (List.getElem?_eq_some_iff.1 hu).1
    omega
  · refine ⟨_, g, 0, cap, h1, fun _ => ⟨rfl, heap_lt h3⟩, fun j u hu => ?_⟩
    have hj := (List.getElem?_eq_some_iff.1 hu).1
    rw [ringCells_length] at hj
    rw [← h7, List.getElem?_take, if_pos hj, Array.getElem?_toList] at hu
    rw [Nat.zero_add, cell_of_heap h3]
    exact hu
theorem SeeS.below {w w' : World} {v : Value} {ss : List Slot} (h : SeeS w v ss) (hb : Below w.heap.size w w') : SeeS w' v ss := by
  obtain ⟨a, b, off, cap, h1, h2, h3⟩ := h.ex
  refine ⟨a, b, off, cap, h1, fun hn => ⟨(h2 hn).1, Nat.lt_of_lt_of_le (h2 hn).2 hb.size⟩, fun j u hu => ?_⟩
  have hn : ss.length ≠ 0 := fun e => by
    have h0 := ringCells_length ss
    have := (List.getElem?_eq_some_iff.1 hu).1
    omega
  exact (hb.cell (p := ⟨b, off + j, none⟩) (h2 hn).2).trans (h3 j u hu)
theorem ring_at (ss : List Slot) (i : Nat) (s : Slot) (h : ss[i]? = some s) : (ringCells ss)[i * 3]? = some (.string (str s.salt)) ∧ (ringCells ss)[i * 3 + 1]? = some (.int .i64 s.rounds) ∧ (ringCells ss)[i * 3 + 2]? = some (.string (str s.wrapped)) := by
  induction ss generalizing i with
  | nil => cases h
  | cons x ss ih =>
    have e : ringCells (x :: ss) = slotCells x ++ ringCells ss := by simp [ringCells]
    have hl : (slotCells x).length = 3 := rfl
    cases i with
    | zero =>
      obtain rfl : x = s := Option.some.inj h
      rw [e]
      exact ⟨rfl, rfl, rfl⟩
    | succ i =>
      obtain ⟨a, b, c⟩ := ih i h
      rw [e, List.getElem?_append_right (by omega), List.getElem?_append_right (by omega), List.getElem?_append_right (by omega), hl]
      exact ⟨by rw [← a]; congr 1; omega, by rw [← b]; congr 1; omega, by rw [← c]; congr 1; omega⟩

theorem right_bad {id : List UInt8} {ss : List Slot} {k : Nat} {s : Slot} (h : ss[k]? = some s) (hs : slotOK s = false) : rightR id ss = false := by
  unfold rightR
  rw [Bool.and_eq_false_iff]
  right
  apply Bool.eq_false_iff.2
  intro e
  have := List.all_eq_true.1 e s (List.mem_of_getElem? h)
  rw [hs] at this
  cases this

theorem kindex_at {P : Program} (w : World) (t : TypeId) (s : ByteArray) (k : IntKind) (z : Int) (i : Nat) (c : UInt8) (h : P.underlying t = some .string) (hz : z = (i : Int)) (hc : s.data.toList[i]? = some c) :
    (Instr.index t (.string s) (.int k z)).run P w = .ok (.int .u8 (c.toNat : Int)) w := by
  subst hz
  exact index_at w t s k i c h hc
theorem strs_append (a b : List UInt8) : str a ++ str b = str (a ++ b) := by
  apply ByteArray.ext
  rw [ByteArray.data_append]
  simp [str]

end Go.Proofs.YtbjiamaaocjbfaaDoor.Kr
