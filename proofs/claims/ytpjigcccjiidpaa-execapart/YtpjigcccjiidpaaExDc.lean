import Derived.Test.YtpjigcccjiidpaaExDb
import Derived.Carry
namespace Go.Proofs.Ytpjigcccjiidpaa.Ex
open Go.RowKit Go.Lib Go.Deep

def slC (s : Sl) : List Value := [.int .i64 s.ob, .int .i64 s.wa, .int .i64 s.fi, .int .i64 s.bu]
def slsC (l : List Sl) : List Value := l.flatMap slC
theorem slC_len (s : Sl) : (slC s).length = 4 := rfl
def foR (sl : List Sl) (cs : List (List UInt8)) : Option Fl := if cs.length = sl.length then opn [] (sl.zip cs) else none
/-- what filesOf answers -/
def FoP (w : World) (N : Nat) (r : Option Fl) (e : Ending) (w' : World) : Prop :=
  Below w.heap.size w w' ∧ ((r = none ∧ e = .returned (.tuple #[.map none, .bool false])) ∨ ∃ L m F, r = some L ∧ e = .returned (.tuple #[.map (some m), .bool true]) ∧ Liv w' m N F L ∧ ∀ k, F k → w.heap.size ≤ k)
/-- files that are filled -/
structure Fo (w : World) (m i : Nat) (F : Nat → Prop) (L : Fl) (V : World) : Prop where
  be : Below w.heap.size w V
  lv : Liv V m i F L
  fr : ∀ k, F k → w.heap.size ≤ k
theorem Fo.below {w V V' : World} {m i : Nat} {F : Nat → Prop} {L : Fl} (h : Fo w m i F L V) (hb : Below V.heap.size V V') : Fo w m i F L V' := ⟨h.be.trans (hb.mono h.be.size), h.lv.below hb, h.fr⟩
theorem Fo.dn {w V V' : World} {m i j : Nat} {F : Nat → Prop} {L L' : Fl} (h : Fo w m i F L V) (hd : Dn F V V' m j L') : ∃ F', Fo w m j F' L' V' := by
  obtain ⟨t, F', hl, hF⟩ := hd
  refine ⟨F', ⟨t.os.trans h.be.os, t.tape.trans h.be.tape, t.output.trans h.be.output, Nat.le_trans h.be.size t.size, fun k hk => (t.block k (Nat.lt_of_lt_of_le hk h.be.size) (fun x => by have := h.fr k x; omega)).trans (h.be.block k hk)⟩, hl, fun k hk => ?_⟩
  by_cases e : k < V.heap.size
  · exact h.fr k (hF k e hk)
  · have := h.be.size; omega
theorem Fo.mono {w V : World} {m i j : Nat} {F : Nat → Prop} {L : Fl} (h : Fo w m i F L V) (hj : i ≤ j) : Fo w m j F L V := ⟨h.be, h.lv.mono hj, h.fr⟩
theorem drop_at {α : Type} {T : List α} {i : Nat} {x : α} (h : T[i]? = some x) : T.drop i = x :: T.drop (i + 1) := by
  obtain ⟨h1, h2⟩ := List.getElem?_eq_some_iff.1 h
  rw [List.drop_eq_getElem_cons h1, h2]
theorem cells4 {W : World} {g : Nat} {t : TypeId} {x0 x1 x2 x3 : Value} (h : W.heap[g]? = some (.cells #[x0, x1, x2, x3] t (0, 0))) : W.cell? ⟨g, 0, none⟩ = some x0 ∧ W.cell? ⟨g, 1, none⟩ = some x1 ∧ W.cell? ⟨g, 2, none⟩ = some x2 ∧ W.cell? ⟨g, 3, none⟩ = some x3 :=
  ⟨(cell_of_heap h).trans rfl, (cell_of_heap h).trans rfl, (cell_of_heap h).trans rfl, (cell_of_heap h).trans rfl⟩
theorem str_nil_iff (d : List UInt8) : (str d).toList.isEmpty = d.isEmpty := by rw [str_toList]
set_option maxRecDepth 20000 in
set_option maxHeartbeats 2000000 in
theorem filesOf_any (sl : List Sl) (cs : List (List UInt8)) (w : World) (a1 a2 : Option Addr) (n1 c1 n2 c2 : Nat) (hS : See w 4 (.slice a1 n1 c1) n1 (slsC sl)) (hn1 : sl.length = n1) (hC : See w 1 (.slice a2 n2 c2) n2 (scC (cs.map str))) (hn2 : cs.length = n2) (hbd : n1 ≤ 1099511627776) (hwf : ∀ s ∈ sl, wf s.wa) (hl : ∀ c ∈ cs, c.length ≤ maxLen) :
    Calls Try.prog 16 #[.slice a1 n1 c1, .slice a2 n2 c2] w fun e w' => FoP w n1 (foR sl cs) e w' := by
  by_cases hlen : n2 = n1
  case neg =>
    have hne : ((n2 : Int) != (n1 : Int)) = true := by simp; omega
    have hr : foR sl cs = none := by unfold foR; rw [if_neg (by omega)]
    rw [hr]
    clear hS hC hn1 hn2 hbd hwf hl hr hlen
    go_enter Try.func16, Try.ntmps16
    go_wp2
    go_ret2
    exact ⟨Below.refl _ _, .inl ⟨rfl, rfl⟩⟩
  subst hlen
  have hr : foR sl cs = opn [] ((sl.zip cs).drop 0) := by unfold foR; rw [if_pos (by omega), List.drop_zero]
  obtain ⟨Z, hZ⟩ : ∃ Z, foR sl cs = Z := ⟨_, rfl⟩
  rw [hZ]
  have HZ : Hid (opn [] ((sl.zip cs).drop 0) = Z) := hr.symm.trans hZ
  have hne : ((n2 : Int) != (n2 : Int)) = false := by simp
  obtain ⟨W, hW⟩ : ∃ W, w.alloc (.map #[] 0) = W := ⟨_, rfl⟩
  have F0 : Fo w w.heap.size 0 (fun k => k = w.heap.size) [] W := by
    rw [← hW]
    exact ⟨(Below.refl _ _).alloc (Nat.le_refl _) _, liv_new w, fun k hk => Nat.le_of_eq hk.symm⟩
  have hmk : (Instr.makeMap 62 none).run Try.prog w = .ok (.map (some w.heap.size)) W := by rw [← hW]; exact run_makeMap _ w
  have HF0 : Hid _ := F0
  -- a round
  have HR : Hid (∀ (wr : World) (i : Nat) (F : Nat → Prop) (L : Fl), Fo w w.heap.size i F L wr → i < n2 → opn L ((sl.zip cs).drop i) = Z →
      ∃ ob wa fi bu c b off b2 off2, a1 = some ⟨b, off, none⟩ ∧ a2 = some ⟨b2, off2, none⟩ ∧ wr.cell? ⟨b, off + i * 4, none⟩ = some (.int .i64 ob) ∧ wr.cell? ⟨b, off + i * 4 + 1, none⟩ = some (.int .i64 wa) ∧ wr.cell? ⟨b, off + i * 4 + 2, none⟩ = some (.int .i64 fi) ∧ wr.cell? ⟨b, off + i * 4 + 3, none⟩ = some (.int .i64 bu) ∧
      ∃ U, wr.alloc (.cells #[.int .i64 ob, .int .i64 wa, .int .i64 fi, .int .i64 bu] 35) = U ∧ U.cell? ⟨wr.heap.size, 1, none⟩ = some (.int .i64 wa) ∧ U.cell? ⟨b2, off2 + i, none⟩ = some (.string (str c)) ∧ Hid (Fo w w.heap.size i F L U) ∧
      ((wa = -1 ∧ c = [] ∧ opn L ((sl.zip cs).drop (i + 1)) = Z) ∨ (¬ (wa = -1 ∧ c = []) ∧ wa < 0 ∧ Z = none) ∨ (0 ≤ wa ∧ Z = none ∧ Calls Try.prog 19 #[.map (some w.heap.size), .int .i64 wa] U fun e w3 => e = .returned (.bool true) ∧ Below w.heap.size w w3) ∨
        (0 ≤ wa ∧ Calls Try.prog 19 #[.map (some w.heap.size), .int .i64 wa] U fun e w3 => e = .returned (.bool false) ∧ w3.cell? ⟨wr.heap.size, 1, none⟩ = some (.int .i64 wa) ∧ w3.cell? ⟨b2, off2 + i, none⟩ = some (.string (str c)) ∧
          Hid (∀ V, Below w3.heap.size w3 V → Calls Try.prog 20 #[.string (str c)] V fun e w5 => ∃ g cp, e = .returned (.agg #[.slice (some ⟨g, 0, none⟩) c.length cp]) ∧ w5.cell? ⟨wr.heap.size, 1, none⟩ = some (.int .i64 wa) ∧ w5.cell? ⟨b2, off2 + i, none⟩ = some (.string (str c)) ∧
            ∃ w6, (Instr.mapUpdate 62 (.map (some w.heap.size)) (.int .i64 wa) (.agg #[.slice (some ⟨g, 0, none⟩) c.length cp])).run Try.prog w5 = .ok () w6 ∧ Hid (∃ F' L', Fo w w.heap.size (i + 1) F' L' w6 ∧ opn L' ((sl.zip cs).drop (i + 1)) = Z))))) := fun wr i F L hF hi hp => by
    obtain ⟨s, hs⟩ : ∃ s, sl[i]? = some s := ⟨_, List.getElem?_eq_getElem (by omega)⟩
    obtain ⟨c, hc⟩ : ∃ c, cs[i]? = some c := ⟨_, List.getElem?_eq_getElem (by omega)⟩
    have hsw := hwf s (List.mem_of_getElem? hs)
    have hcl := hl c (List.mem_of_getElem? hc)
    have hzip : (sl.zip cs)[i]? = some (s, c) := by rw [List.getElem?_zip_eq_some]; exact ⟨hs, hc⟩
    obtain ⟨b, off, e1, hbl, hcc⟩ := (hS.below hF.be).row slC_len (by decide) hs
    obtain ⟨b2, off2, e2, hbl2, hcc2⟩ := (hC.below hF.be).s (i := i) (z := str c) (by rw [List.getElem?_map, hc]; rfl)
    rw [drop_at hzip, opn] at hp
    obtain ⟨ob, wa, fi, bu⟩ := s
    dsimp only at hp hsw
    obtain ⟨U, hU, hbU, kU⟩ := one_new wr #[.int .i64 ob, .int .i64 wa, .int .i64 fi, .int .i64 bu] 35
    have hFU := hF.below hbU
    have hcell : ∀ X, Below U.heap.size U X → X.cell? ⟨wr.heap.size, 1, none⟩ = some (.int .i64 wa) ∧ X.cell? ⟨b2, off2 + i, none⟩ = some (.string (str c)) := fun X hX => by
      have hbX := hbU.trans (hX.mono hbU.size)
      exact ⟨(cells4 ((hX.block _ (heap_lt kU)).trans kU)).2.1, (hbX.cell (p := ⟨b2, off2 + i, none⟩) hbl2).trans hcc2⟩
    obtain ⟨u1, u2⟩ := hcell U (Below.refl _ _)
    refine ⟨ob, wa, fi, bu, c, b, off, b2, off2, e1, e2, hcc 0 _ rfl, hcc 1 _ rfl, hcc 2 _ rfl, hcc 3 _ rfl, U, hU, u1, u2, hFU, ?_⟩
    by_cases h1 : wa = -1 ∧ c = []
    · rw [if_pos h1] at hp
      exact .inl ⟨h1.1, h1.2, hp⟩
    · rw [if_neg h1] at hp
      by_cases h2 : wa < 0
      · rw [if_pos (.inl h2)] at hp
        exact .inr (.inl ⟨h1, h2, hp.symm⟩)
      · have hil := isLive_any U w.heap.size i F L hFU.lv (by unfold maxLen; omega) wa hsw
        by_cases h3 : (fnd L wa).isSome = true
        · rw [if_pos (.inr h3)] at hp
          refine .inr (.inr (.inl ⟨by omega, hp.symm, hil.mono ?_⟩))
          rintro e w3 ⟨rfl, hb3⟩
          exact ⟨by rw [h3], (hFU.below hb3).be⟩
        · rw [if_neg (by rintro (h | h); exact h2 h; exact h3 h)] at hp
          refine .inr (.inr (.inr ⟨by omega, hil.mono ?_⟩))
          rintro e w3 ⟨rfl, hb3⟩
          refine ⟨by rw [Bool.eq_false_iff.2 h3], (hcell w3 hb3).1, (hcell w3 hb3).2, fun V hV => (contentOf_any c hcl V).mono ?_⟩
          rintro e w5 ⟨g, cp, rfl, hB, hg, hb5⟩
          have hbV := hb3.trans (hV.mono hb3.size)
          have hb35 := hbV.trans (hb5.mono hbV.size)
          obtain ⟨w6, hrun, hd⟩ := hFU.lv.put (by unfold maxLen; omega) hsw hB (by have := hbV.size; omega) hb35
          obtain ⟨F', hF'⟩ := hFU.dn hd
          exact ⟨g, cp, rfl, (hcell w5 hb35).1, (hcell w5 hb35).2, w6, hrun, F', _, hF', hp⟩
  clear hS hC hwf hl hr hZ F0
  go_enter Try.func16, Try.ntmps16
  go_wp2_with fail
  go_loopg [17] n2 (fun gk iv wr => ∃ (i : Nat) (F : Nat → Prop) (L : Fl), i + gk = n2 ∧ iv = .int .i64 (i : Int) ∧ Hid (Fo w w.heap.size i F L wr) ∧ Hid (opn L ((sl.zip cs).drop i) = Z))
  case atStart => exact ⟨0, _, [], by omega, rfl, HF0.out, HZ.out⟩
  case round =>
    obtain ⟨i, F, L, hik, rfl, hF, hp⟩ := hrel
    by_cases hlt : i < n2
    · have hltI : (i : Int) < (n2 : Int) := by omega
      have w1' : IntKind.i64.wrap ((i : Int) + 1) = ((i + 1 : Nat) : Int) := by rw [IntKind.wrap_i64]; omega
      obtain ⟨ob, wa, fi, bu, c, b, off, b2, off2, rfl, rfl, r0, r1, r2, r3, U, hU, u1, u2, HFU, hcase⟩ := HR.out wr i F L hF.out hlt hp.out
      clear HR hF hp HF0
      rcases hcase with ⟨h1, h2, hp⟩ | ⟨h1, h2, hZn⟩ | ⟨h1, hZn, hil⟩ | ⟨h1, hil⟩
      · subst h1 h2
        have HP : Hid _ := hp
        have e0 : str ([] : List UInt8) = { data := #[] } := rfl
        rw [e0] at u2
        clear hp
        go_wp2
        go_roundg (n2 - (i + 1))
        case measure => omega
        case rel => exact ⟨i + 1, F, L, by omega, rfl, HFU.out.mono (by omega), HP.out⟩
      · subst hZn
        by_cases h3 : wa = -1
        · subst h3
          have e0 : (str c).toList.isEmpty = false := by
            rw [str_toList]
            cases c with
            | nil => exact absurd ⟨rfl, rfl⟩ h1
            | cons => rfl
          clear h1
          generalize str c = C at *
          go_wp2
          go_ret2
          exact ⟨HFU.out.be, .inl ⟨rfl, rfl⟩⟩
        · have e0 : (wa == -1) = false := by simp [h3]
          clear h1 h3
          go_wp2
          go_ret2
          exact ⟨HFU.out.be, .inl ⟨rfl, rfl⟩⟩
      · subst hZn
        have e0 : (wa == -1) = false := by simp; omega
        go_wp2_with (go_at_call 19; refine hil.mono ?_; rintro e w3 ⟨rfl, hb3⟩)
        go_ret2
        exact ⟨hb3, .inl ⟨rfl, rfl⟩⟩
      · have e0 : (wa == -1) = false := by simp; omega
        go_wp2_with (go_at_call 19; refine hil.mono ?_; rintro e w3 ⟨rfl, v1, v2, HC3⟩)
        clear hil u1 u2 r0 r1 r2 r3 hU HFU
        generalize str c = C at *
        generalize c.length = cl at *
        go_region_law (first
          | (refine step_call rfl 20 cfCO #[.tmp 47] #[9] rfl #[.string C] (by simp [Act.eval]) (HC3.out _ (bdN _ _)) ?_; rintro e w5 ⟨g, cp, rfl, x1, x2, w6, hrun, HD⟩; refine ⟨_, rfl, ?_⟩))
        all_goals
          go_wp2
          go_roundg (n2 - (i + 1))
          case measure => omega
          case rel =>
            obtain ⟨F', L', hF', hp'⟩ := HD.out
            exact ⟨i + 1, F', L', by omega, rfl, hF', hp'⟩
    · obtain rfl : i = n2 := by omega
      have hltI : ¬ (i : Int) < (i : Int) := by omega
      have hp' := hp.out
      rw [List.drop_of_length_le (by rw [List.length_zip]; omega), opn] at hp'
      have HP : Hid _ := hp'
      clear hp' hp HR HF0
      go_wp2
      go_ret2
      exact ⟨hF.out.be, .inr ⟨L, _, F, HP.out.symm, rfl, hF.out.lv, hF.out.fr⟩⟩
end Go.Proofs.Ytpjigcccjiidpaa.Ex
