import Derived.Test.YthmjjpaengackaaPoD
namespace Go.Proofs.Ythmjjpaengackaa.Po
open Go.RowKit Go.Lib Go.Deep

/-- a pool, over its state -/
def Top (w : World) (pb q : Nat) : Prop := w.heap[pb]? = some (.cells #[.pointer (some ⟨q, 0, none⟩)] 67 (0, 0))
theorem Top.cell {w : World} {pb q : Nat} (h : Top w pb q) : w.cell? ⟨pb, 0, none⟩ = some (.pointer (some ⟨q, 0, none⟩)) := (cell_of_heap h).trans rfl
theorem Top.below {w W : World} {pb q : Nat} (h : Top w pb q) (hb : Below w.heap.size w W) : Top W pb q := (hb.block _ (heap_lt h)).trans h
theorem Top.keep {w W : World} {pb q nn N : Nat} {F : List Nat} {S S' : Ps} (h : Top w pb q) (hL : Lay w q F nn S) (hT : Turn F w W q N S') : Top W pb q := (hT.1.block _ (heap_lt h) (hL.notin h (by decide))).trans h
def faultE (S : Ps) (i : Int) : Int := if rowN S i then 0 else 131
theorem fault_any (w : World) (pb q : Nat) (F : List Nat) (nn : Nat) (S : Ps) (i : Int) (ht : Top w pb q) (hL : Lay w q F nn S) : Calls Try.prog 28 #[.pointer (some ⟨pb, 0, none⟩), .int .i64 i] w fun e w' => e = .returned (.int .i64 (faultE S i)) ∧ w' = w := by
  obtain ⟨rv, mv, oa, na, room, h, rfl, hI⟩ := hL
  have c0 := ht.cell
  have hm := made_any w pb q c0
  obtain ⟨-, c1, -⟩ := hI.cells
  obtain ⟨a, cap, rfl⟩ := owns_form hI.hr
  clear hI ht
  by_cases h0 : 0 ≤ i
  · by_cases h1 : i < (S.R.length : Int)
    · rw [show faultE S i = 0 from if_pos ⟨h0, h1⟩]
      generalize S.R.length = N at *
      go_enter Try.func28, Try.ntmps28
      go_wp2_with (go_at_call 26; refine hm.mono ?_; rintro e w2 ⟨rfl, rfl⟩)
      go_ret
      exact ⟨rfl, rfl⟩
    · rw [show faultE S i = 131 from if_neg (fun x => h1 x.2)]
      generalize S.R.length = N at *
      go_enter Try.func28, Try.ntmps28
      go_wp2_with (go_at_call 26; refine hm.mono ?_; rintro e w2 ⟨rfl, rfl⟩)
      go_ret
      exact ⟨rfl, rfl⟩
  · rw [show faultE S i = 131 from if_neg (fun x => h0 x.1)]
    generalize S.R.length = N at *
    go_enter Try.func28, Try.ntmps28
    go_wp2_with (go_at_call 26; refine hm.mono ?_; rintro e w2 ⟨rfl, rfl⟩)
    go_ret
    exact ⟨rfl, rfl⟩
theorem isFile_any (w : World) (q : Nat) (F : List Nat) (nn : Nat) (S : Ps) (f : Int) (hL : Lay w q F nn S) : Calls Try.prog 32 #[.pointer (some ⟨q, 0, none⟩), .int .i64 f] w fun e w' => e = .returned (.bool (decide (fileN S f))) ∧ w' = w := by
  obtain ⟨rv, mv, oa, na, room, h, rfl, hI⟩ := hL
  obtain ⟨c0, -⟩ := hI.cells
  by_cases h0 : 0 ≤ f
  · by_cases h1 : f < (S.fl : Int)
    · rw [show decide (fileN S f) = true from decide_eq_true ⟨h0, h1⟩]
      generalize S.fl = N at *
      clear hI
      go_enter Try.func32, Try.ntmps32
      go_wp2
      go_ret
      exact ⟨rfl, rfl⟩
    · rw [show decide (fileN S f) = false from decide_eq_false (fun x => h1 x.2)]
      have h1' : decide (f < (S.fl : Int)) = false := decide_eq_false h1
      generalize S.fl = N at *
      clear hI
      go_enter Try.func32, Try.ntmps32
      go_wp2
      go_ret
      exact ⟨rfl, rfl⟩
  · rw [show decide (fileN S f) = false from decide_eq_false (fun x => h0 x.1)]
    have h0' : decide (0 ≤ f) = false := decide_eq_false h0
    clear hI
    go_enter Try.func32, Try.ntmps32
    go_wp2
    go_ret
    exact ⟨rfl, rfl⟩
theorem natD_inj {a : Int} {b : Nat} (h : (DataW.lit (.int .i64 a) : DataW Unit) = natD b) : a = b := by
  unfold natD at h
  injection h with h
  injection h
set_option maxRecDepth 20000 in
/-- what a look-up with two answers tells -/
theorem look_ok {K : Type} {lit : K → Lit} {w : World} {m n t kt : Nat} {D : DataW Unit} {f : K → Option Nat} (h : w.ownsMap Try.prog kt intR m n D) (hD : Tab lit D f) (hK : Maps.Keyed Try.prog kt) (hu : Try.prog.underlying t = some (.map kt 3)) {key : Value} {k : K} (hk : keyOf Try.prog kt key = some (lit k)) :
    (Instr.lookup t (.map (some m)) key true).run Try.prog w = .ok (.tuple #[.int .i64 (((f k).getD 0 : Nat) : Int), .bool (f k).isSome]) w := by
  obtain ⟨v, ps, h1, h2⟩ := h.look_ok hK hu (zeroInt w) (plainElem_int Try.underlying3 (by decide) : intR (.int .i64 0) = _) hk
  obtain ⟨a, rfl, h3, _⟩ := plainElem_int_inv Try.underlying3 h2
  rw [h1, hD.has k]
  simp only [Prod.mk.injEq] at h3
  have h3 := h3.1
  have hh := hD.has k
  cases hf : f k with
  | none =>
    rw [hf] at hh
    rw [Maps.atKey_of_not_has hh] at h3
    injection h3 with h3
    injection h3 with _ h3
    rw [← h3]
    rfl
  | some x =>
    rw [hD.at_ _ x hf] at h3
    have e := natD_inj h3.symm
    subst e
    rfl
theorem keyI_mk {k : Int} (h : (Lit.int .i64 k).wf = true) : keyOf Try.prog 3 (.int .i64 k) = some (litI k) := Maps.keyOf_int_mk Try.underlying3 h
theorem keyS_mk {s : ByteArray} (h : s.size ≤ maxLen) : keyOf Try.prog 9 (.string s) = some (litS (kyB s)) := WideMaps.keyOf_string_mk Try.underlying9 h
theorem isHeld_any (w : World) (q : Nat) (F : List Nat) (nn : Nat) (S : Ps) (f : Int) (hL : Lay w q F nn S) (hf : fileN S f) : Calls Try.prog 33 #[.pointer (some ⟨q, 0, none⟩), .int .i64 f] w fun e w' => e = .returned (.bool (heldL S.R f)) ∧ w' = w := by
  obtain ⟨rv, mv, oa, na, room, h, rfl, hI⟩ := hL
  obtain ⟨-, -, c2, -⟩ := hI.cells
  obtain ⟨D, g, hm, hT, hIs⟩ := hI.ho
  have hw : (Lit.int .i64 f).wf = true := by
    have := hI.lim
    obtain ⟨i, rfl⟩ : ∃ i : Nat, f = i := ⟨f.toNat, by unfold fileN at hf; omega⟩
    exact wf_nat (by unfold fileN at hf; omega)
  have hl := look_ok (t := 69) hm hT keyI Try.underlying69 (keyI_mk hw)
  rw [held_iff hIs f (by unfold fileN at hf; omega)] at hl
  generalize heldL S.R f = x at *
  clear hI hm hT hIs hw
  go_enter Try.func33, Try.ntmps33
  go_wp2
  go_ret
  exact ⟨rfl, rfl⟩
theorem isOther_any (w : World) (q : Nat) (F : List Nat) (nn : Nat) (S : Ps) (n : ByteArray) (i : Nat) (hL : Lay w q F nn S) (hn : n.size ≤ maxLen) : Calls Try.prog 48 #[.pointer (some ⟨q, 0, none⟩), .string n, .int .i64 (i : Int)] w fun e w' => e = .returned (.bool (otherL S.R n i)) ∧ w' = w := by
  obtain ⟨rv, mv, oa, na, room, h, rfl, hI⟩ := hL
  obtain ⟨-, -, -, c3, -⟩ := hI.cells
  obtain ⟨D, g, hm, hT, hIs⟩ := hI.hn
  have hl := look_ok (t := 70) hm hT keyS Try.underlying70 (keyS_mk hn)
  have ho := other_iff hIs n i
  rw [← ho]
  generalize g (kyB n) = x at *
  clear hI hm hT hIs ho hn
  cases x with
  | none =>
    simp only [Option.isSome_none, Option.getD_none] at *
    go_enter Try.func48, Try.ntmps48
    go_wp2
    go_ret
    exact ⟨rfl, rfl⟩
  | some j =>
    simp only [Option.isSome_some, Option.getD_some] at *
    by_cases e : j = i
    · subst e
      simp only [ne_eq, not_true_eq_false, decide_false]
      go_enter Try.func48, Try.ntmps48
      go_wp2
      go_ret
      exact ⟨rfl, rfl⟩
    · have e1 : ((j : Int) != (i : Int)) = true := bne_iff_ne.2 (by omega)
      simp only [ne_eq, e, not_false_eq_true, decide_true]
      go_enter Try.func48, Try.ntmps48
      go_wp2
      go_ret
      exact ⟨rfl, rfl⟩
theorem count_any (w : World) (pb q : Nat) (F : List Nat) (nn : Nat) (S : Ps) (ht : Top w pb q) (hL : Lay w q F nn S) : Calls Try.prog 10 #[.pointer (some ⟨pb, 0, none⟩)] w fun e w' => e = .returned (.int .i64 (S.R.length : Int)) ∧ w' = w := by
  obtain ⟨rv, mv, oa, na, room, h, rfl, hI⟩ := hL
  have c0 := ht.cell
  have hm := made_any w pb q c0
  obtain ⟨-, c1, -⟩ := hI.cells
  obtain ⟨a, cap, rfl⟩ := owns_form hI.hr
  generalize S.R.length = N at *
  clear hI ht
  go_enter Try.func10, Try.ntmps10
  go_wp2_with (go_at_call 26; refine hm.mono ?_; rintro e w2 ⟨rfl, rfl⟩)
  go_ret
  exact ⟨rfl, rfl⟩
end Go.Proofs.Ythmjjpaengackaa.Po
