import Derived.Test.YtbjiamaaocjbfaaDoorShB
import Derived.Test.YtbjiamaaocjbfaaDoorBaseM
import Derived.Lib.FrozenHead
import Derived.Test.YtbjiamaaocjbfaaDoorRdM4
import Derived.Test.YtbjiamaaocjbfaaDoorItB
import Derived.Test.YtbjiamaaocjbfaaDoorHxM
namespace Go.Proofs.YtbjiamaaocjbfaaDoor.Kp
open Go.RowKit Go.Lib Kr

set_option maxRecDepth 100000 in
set_option maxHeartbeats 1000000 in
/-- copyCheck of a builder that was written: nothing turns -/
theorem bcheck_used (b : Nat) (w : World) (h0 : w.cell? ⟨b, 0, none⟩ = some (.pointer (some ⟨b, 0, none⟩))) :
    Calls Tryd.prog 29 #[.pointer (some ⟨b, 0, none⟩)] w fun e w' => e = .returned (.tuple #[]) ∧ w' = w := by
  obtain ⟨j, hj0, _⟩ := Option.map_eq_some_iff.1 bstrExtra.sizeBuilder
  have hj : Tryd.prog.info? 42 = some j := hj0
  clear hj0
  go_enter Tryd.func29, Tryd.ntmps29
  go_wp2
  rw [Lib.run_neq_ptr_same w _ Tryd.underlying39 hj]
  go_wp2
  go_end0
  exact ⟨rfl, rfl⟩

set_option maxRecDepth 100000 in
set_option maxHeartbeats 1000000 in
/-- of one that was not: it stores its own place -/
theorem bcheck_fresh (b : Nat) (w : World) (h0 : w.cell? ⟨b, 0, none⟩ = some (.pointer none)) (hsh : w.shape? b = some (42, 2)) (hfz : w.frozen? ⟨b, 0, none⟩ = false) :
    Calls Tryd.prog 29 #[.pointer (some ⟨b, 0, none⟩)] w fun e w' => e = .returned (.tuple #[]) ∧ w' = w.setCell ⟨b, 0, none⟩ (.pointer (some ⟨b, 0, none⟩)) := by
  obtain ⟨j, hj0, hjs⟩ := Option.map_eq_some_iff.1 bstrExtra.sizeBuilder
  have hj : Tryd.prog.info? 42 = some j := hj0
  clear hj0
  go_enter Tryd.func29, Tryd.ntmps29
  go_wp2
  rw [Lib.run_to_unsafe w ⟨b, 0, none⟩ Tryd.underlying39 Tryd.underlying84 hj (by rw [hjs]; decide) hsh (Nat.zero_lt_succ 1)]
  simp only [Result.andThen]
  rw [Oper.upon_value]
  go_wp2
  rw [run_callFunc_extern Tryd.func50 (by kernel_rfl) (by kernel_rfl) (by kernel_rfl) (e := Extern.AbiNoEscape.same) (by kernel_rfl)]
  rw [Lib.run_noEscape]
  simp only [Result.andThen]
  rw [Oper.upon_value]
  go_wp2
  rw [Lib.run_from_unsafe w ⟨b, 0, none⟩ Tryd.underlying84 Tryd.underlying39 hj hsh bstrExtra.liesBuilder]
  simp only [Result.andThen]
  rw [Oper.upon_value]
  go_wp2
  go_end0
  exact ⟨rfl, rfl⟩

/-- a builder of the call's own -/
def Bd (B b : Nat) (bs : List Value) (w : World) : Prop := Lib.IsBuilderF 42 5 B b bs w
theorem bcheck_any (B b : Nat) (bs : List Value) (w : World) (h : Bd B b bs w) :
    Calls Tryd.prog 29 #[.pointer (some ⟨b, 0, none⟩)] w fun e w' => e = .returned (.tuple #[]) ∧ (Lib.BuilderAtF 42 5 B b (.pointer (some ⟨b, 0, none⟩)) bs w' ∧ Below B w w') ∧ ∀ k, k ≠ b → w'.heap[k]? = w.heap[k]? := by
  rcases h with h | h
  · refine (bcheck_fresh b w h.cell0 h.shape h.frozen0).mono ?_
    rintro e w' ⟨rfl, rfl⟩
    exact ⟨rfl, ⟨h.used _, (Below.refl B w).setCell (p := ⟨b, 0, none⟩) h.1 _⟩, fun k hk => Below.heap_setCell _ _ _ _ hk⟩
  · refine (bcheck_used b w h.cell0).mono ?_
    rintro e w' ⟨rfl, rfl⟩
    exact ⟨rfl, ⟨h, Below.refl B _⟩, fun _ _ => rfl⟩

set_option maxRecDepth 100000 in
set_option maxHeartbeats 1000000 in
theorem bwrite_any (B b : Nat) (bs : List Value) (s : ByteArray) (w : World) (h : Bd B b bs w) (hlen : bs.length + s.size ≤ 140737488355328) (hBw : B ≤ w.heap.size) :
    Calls Tryd.prog 13 #[.pointer (some ⟨b, 0, none⟩), .string s] w fun e w' => e = .returned (.tuple #[.int .i64 s.size, .nilIface]) ∧ (Bd B b (bs ++ Lib.strCells s) w' ∧ Below B w w') ∧ ∀ k cs t fr, k ≠ b → t ≠ 5 → w.heap[k]? = some (.cells cs t fr) → w'.heap[k]? = some (.cells cs t fr) := by
  obtain ⟨i0, hi, hz0, hz1, hz2⟩ := info_parts info5
  have hck := bcheck_any B b bs w h
  clear h
  go_enter Tryd.func13, Tryd.ntmps13
  go_wp2_with (go_at_call 29; refine hck.mono ?_)
  rintro e w1 ⟨rfl, ⟨h1, hb1⟩, hk1⟩
  obtain ⟨hB, v, hbk, hown, hne⟩ := h1
  have HK1 : Hid _ := hk1
  clear hk1
  have c0 : w1.cell? ⟨b, 0, none⟩ = some (.pointer (some ⟨b, 0, none⟩)) := by rw [Lib.cell_of_heap hbk]; rfl
  have c1 : w1.cell? ⟨b, 1, none⟩ = some v := by rw [Lib.cell_of_heap hbk]; rfl
  go_wp2_with (at_builtin; refine Lib.wpList_append_own_stringF _ rfl _ _ 40 9 rfl B 5 i0 Tryd.underlying40 Tryd.underlying9 hi hz0 hz1 hz2 _ _ _ rfl hown s rfl ?c3 ?c4 ?c5 ?_)
  case c3 => unfold maxLen; omega
  case c4 => omega
  case c5 => have := hb1.size; omega
  intro v' w2 hown' hgrow _
  have hlt : b < w1.heap.size := by
    rcases Nat.lt_or_ge b w1.heap.size with h' | h'
    · exact h'
    · simp [Array.getElem?_eq_none h'] at hbk
  have hb2 : w2.heap[b]? = some (.cells #[.pointer (some ⟨b, 0, none⟩), v] 42 (0, 0)) := by
    rw [hgrow.block b hlt (fun e => hne e.symm)]
    exact hbk
  have d0 : w2.cell? ⟨b, 0, none⟩ = some (.pointer (some ⟨b, 0, none⟩)) := by rw [Lib.cell_of_heap hb2]; rfl
  have d1 : w2.cell? ⟨b, 1, none⟩ = some v := by rw [Lib.cell_of_heap hb2]; rfl
  have f1 : w2.frozen? ⟨b, 1, none⟩ = false := Lib.frozen_of_heap hb2 1
  obtain ⟨ao, n', cap, rfl⟩ : ∃ ao n' cap, v' = .slice ao n' cap := by
    rcases hown'.2 with ⟨hv, _⟩ | ⟨g, cap, cur, fz, hv, _⟩
    · exact ⟨_, _, _, hv⟩
    · exact ⟨_, _, _, hv⟩
  go_wp2
  go_ret2
  refine ⟨rfl, ⟨.inr ?_, ?_⟩, ?_⟩
  · exact Lib.BuilderAtF.put (T := 42) (e := 5) hB hb2 (bs' := bs ++ Lib.strCells s) (by simpa [Lib.strCells_length] using hown') (by decide)
  · exact (hb1.grown hgrow (by have := hb1.size; omega) (fun k hk => (hown.lt k hk).1)).setCell (p := ⟨b, 1, none⟩) hB _
  · intro k cs t fr hkb ht hk
    have h1 : w1.heap[k]? = some (.cells cs t fr) := (HK1.out k hkb).trans hk
    refine (Below.heap_setCell _ _ _ _ hkb).trans ((hgrow.block k (Array.getElem?_eq_some_iff.1 h1).1 (fun e => ?_)).trans h1)
    rcases hown.2 with ⟨hv, _⟩ | ⟨g, cap2, cur, fz, hv, _, hg, _⟩
    · rw [hv] at e
      simp [Value.ownBlock] at e
    · rw [hv] at e
      simp [Value.ownBlock] at e
      subst e
      rw [h1] at hg
      simp at hg
      exact ht hg.2.1

theorem bstring_any (B b : Nat) (l : List UInt8) (w : World) (h : Bd B b (Lib.byteCells l) w) (hBw : B ≤ w.heap.size) :
    Calls Tryd.prog 16 #[.pointer (some ⟨b, 0, none⟩)] w fun e w' => e = .returned (.string (str l)) ∧ Bd B b (Lib.byteCells l) w' ∧ Below B w w' :=
  Any.Builder_String_any_f bstrLays bstrExtra B b l w h hBw

/-- what lies apart turns nothing -/
theorem Bd.below {B b : Nat} {bs : List Value} {w w' : World} (h : Bd B b bs w) (hb : Below w.heap.size w w') : Bd B b bs w' := by
  have key : ∀ p, Lib.BuilderAtF 42 5 B b p bs w → Lib.BuilderAtF 42 5 B b p bs w' := fun p h => by
    have hlt := h.lt
    obtain ⟨hB, v, hbk, hown, hne⟩ := h
    refine ⟨hB, v, (hb.block _ hlt).trans hbk, ?_, hne⟩
    obtain ⟨o1, o2⟩ := hown
    refine ⟨o1, ?_⟩
    rcases o2 with h0 | ⟨g, cap, cur, fz, e1, e2, e3, e4⟩
    · exact .inl h0
    · exact .inr ⟨g, cap, cur, fz, e1, e2, (hb.block _ (Array.getElem?_eq_some_iff.1 e3).1).trans e3, e4⟩
  exact h.elim (fun x => .inl (key _ x)) (fun x => .inr (key _ x))
theorem Bd.new (w : World) : Bd w.heap.size w.heap.size [] (w.alloc (.cells #[.pointer none, .slice none 0 0] 42)) := by
  refine .inl ⟨Nat.le_refl _, .slice none 0 0, ?_, ?_, by simp [Value.ownBlock]⟩
  · exact heap_new _ _
  · exact World.ownsRowF_of (World.ownsRow_nil _ _ _ _)

end Go.Proofs.YtbjiamaaocjbfaaDoor.Kp

namespace Go.Proofs.YtbjiamaaocjbfaaDoor.Kp
open Go.RowKit Go.Lib Go.Deep Kr

/-- what Print has: its ring, and the builder that holds a text -/
structure Pr (w W : World) (B : Nat) (yi : ByteArray) (v : Value) (l : List UInt8) : Prop where
  bel : Below w.heap.size w W
  rng : W.heap[w.heap.size]? = some (.cells #[.string yi, v] 24 (0, 0))
  bd : Bd B B (Lib.byteCells l) W
  lt : w.heap.size < B
  le : B ≤ W.heap.size
section
variable {w W W' : World} {B : Nat} {yi : ByteArray} {v : Value} {l : List UInt8}
theorem Pr.over (h : Pr w W B yi v l) (hb : Below W.heap.size W W') : Pr w W' B yi v l :=
  ⟨h.bel.trans (hb.mono h.bel.size), (hb.block _ (heap_lt h.rng)).trans h.rng, h.bd.below hb, h.lt, Nat.le_trans h.le hb.size⟩
theorem Pr.wrote {s : List UInt8} (h : Pr w W B yi v l) (hb : Below B W W') (hbd : Bd B B (Lib.byteCells l ++ Lib.strCells (str s)) W') : Pr w W' B yi v (l ++ s) := by
  refine ⟨h.bel.trans (hb.mono (Nat.le_of_lt h.lt)), (hb.block _ h.lt).trans h.rng, ?_, h.lt, Nat.le_trans h.le hb.size⟩
  have e : Lib.byteCells (l ++ s) = Lib.byteCells l ++ Lib.strCells (str s) := by simp [Lib.byteCells, Lib.strCells, str]
  rw [e]
  exact hbd
theorem Pr.writes (h : Pr w W B yi v l) (s : List UInt8) (hl : l.length + s.length ≤ 140737488355328) :
    Calls Tryd.prog 13 #[.pointer (some ⟨B, 0, none⟩), .string (str s)] W fun e w' => e = .returned (.tuple #[.int .i64 (str s).size, .nilIface]) ∧ Pr w w' B yi v (l ++ s) ∧ ∀ k cs t fr, k ≠ B → t ≠ 5 → W.heap[k]? = some (.cells cs t fr) → w'.heap[k]? = some (.cells cs t fr) := by
  refine (bwrite_any B B (Lib.byteCells l) (str s) W h.bd (by rw [str_size]; simp [Lib.byteCells]; omega) h.le).mono ?_
  rintro e w' ⟨rfl, ⟨h1, h2⟩, h3⟩
  exact ⟨rfl, h.wrote h2 h1, h3⟩
theorem Pr.string (h : Pr w W B yi v l) :
    Calls Tryd.prog 16 #[.pointer (some ⟨B, 0, none⟩)] W fun e w' => e = .returned (.string (str l)) ∧ Pr w w' B yi v l := by
  refine (bstring_any B B l W h.bd h.le).mono ?_
  rintro e w' ⟨rfl, h1, h2⟩
  exact ⟨rfl, h.bel.trans (h2.mono (Nat.le_of_lt h.lt)), (h2.block _ h.lt).trans h.rng, h1, h.lt, Nat.le_trans h.le h2.size⟩
end
theorem right_parts {id : List UInt8} {ss : List Slot} (h : rightR id ss = true) : id.length = 16 ∧ 1 ≤ ss.length ∧ ss.length ≤ 8 ∧ ∀ s ∈ ss, s.salt.length = 16 ∧ 1 ≤ s.rounds ∧ s.rounds ≤ 4096 ∧ s.wrapped.length = 72 := by
  unfold rightR at h
  rw [Bool.and_eq_true] at h
  have h1 := of_decide_eq_true h.1
  exact ⟨h1.1, h1.2.1, h1.2.2, fun s hs => of_decide_eq_true (List.all_eq_true.1 h.2 s hs)⟩
theorem kHex_str (l : List UInt8) : hexS (str l) = str (hexL l) := by unfold hexS; rw [str_data]
theorem idLine_str (l : List UInt8) : ({ data := #[105, 100, 32] } : ByteArray) ++ str (hexL l) ++ { data := #[10] } = str (idLine l ++ [10]) := by
  show str [105, 100, 32] ++ _ ++ str [10] = _
  rw [strs_append, strs_append]
  rfl
theorem slotsLine_str (n : Nat) : ({ data := #[115, 108, 111, 116, 115, 32] } : ByteArray) ++ str (dec n) ++ { data := #[10] } = str (slotsLine n ++ [10]) := by
  show str [115, 108, 111, 116, 115, 32] ++ _ ++ str [10] = _
  rw [strs_append, strs_append]
  rfl
theorem slotLine_str (s : Slot) : ({ data := #[115, 108, 111, 116, 32] } : ByteArray) ++ str (dec s.rounds.toNat) ++ { data := #[32] } ++ str (hexL s.salt) ++ { data := #[32] } ++ str (hexL s.wrapped) ++ { data := #[10] } = str (slotLine s ++ [10]) := by
  show str [115, 108, 111, 116, 32] ++ _ ++ str [32] ++ _ ++ str [32] ++ _ ++ str [10] = _
  rw [strs_append, strs_append, strs_append, strs_append, strs_append, strs_append]
  congr 1
  simp [slotLine, unwords, kSlot]
theorem whole_str (t sum : List UInt8) : str t ++ { data := #[115, 117, 109, 32] } ++ str (hexL sum) ++ { data := #[10] } = str (t ++ (sumLine sum ++ [10])) := by
  show str t ++ str [115, 117, 109, 32] ++ _ ++ str [10] = _
  rw [strs_append, strs_append, strs_append]
  congr 1
  simp [sumLine, unwords, kSum]

end Go.Proofs.YtbjiamaaocjbfaaDoor.Kp
