import Derived.Test.YtdgokfehgjkalaaWdC
namespace Go.Proofs.Ytdgokfehgjkalaa.Wd
open Go.RowKit Go.Lib Go.Deep

theorem down_any (w : World) (pb q : Nat) (F : List Nat) (S : Wst) (h : Top w pb q) (hs : St w q F S) : Calls Try.prog 10 #[.pointer (some ⟨pb, 0, none⟩)] w fun e w' => e = .returned (.bool S.off) ∧ w' = w := by
  have hm := made_any w pb q h
  have c0 := h.cell
  have c5 := hs.see.c5
  clear h hs
  go_enter Try.func10, Try.ntmps10
  go_wp2_with fail
  refine hm.mono ?_
  rintro e w' ⟨rfl, rfl⟩
  go_wp2
  go_ret
  exact ⟨rfl, rfl⟩
theorem calls_any (w : World) (pb q : Nat) (F : List Nat) (S : Wst) (h : Top w pb q) (hs : St w q F S) : Calls Try.prog 11 #[.pointer (some ⟨pb, 0, none⟩)] w fun e w' => e = .returned (.int .i64 (S.tr.length : Int)) ∧ w' = w := by
  have hm := made_any w pb q h
  have c0 := h.cell
  obtain ⟨m, pl, la, tv, av, uv, D, al, nv, hF, hI⟩ := hs
  obtain ⟨_, _, _, _, _, _, _, c7, _⟩ := hI.cells
  obtain ⟨ta, tc, rfl⟩ : ∃ a cap, tv = .slice a S.tr.length cap := by
    rcases hI.ht.2 with ⟨h1, h2⟩ | ⟨g, cap, cur, h1, _⟩
    · exact ⟨none, 0, by rw [h2]; exact h1⟩
    · exact ⟨_, cap, h1⟩
  generalize S.tr.length = n at *
  clear h hI hF
  go_enter Try.func11, Try.ntmps11
  go_wp2_with fail
  refine hm.mono ?_
  rintro e w' ⟨rfl, rfl⟩
  go_wp2
  go_ret
  exact ⟨rfl, rfl⟩
set_option maxRecDepth 10000 in
theorem power_any (w : World) (pb q : Nat) (F : List Nat) (S : Wst) (h : Top w pb q) (hs : St w q F S) : Calls Try.prog 16 #[.pointer (some ⟨pb, 0, none⟩)] w fun e w' => e = .returned (.tuple #[]) ∧ Turn F w w' q (powS S) := by
  have hm := made_any w pb q h
  have c0 := h.cell
  have c5 := hs.see.c5
  have c6 := hs.see.c6
  have f5 := hs.see.fr 5
  have f6 := hs.see.fr 6
  have HT : Hid (Turn F w ((w.setCell ⟨q, 5, none⟩ (.bool false)).setCell ⟨q, 6, none⟩ (.int .i64 0)) q (powS S)) := by
    refine hs.self (fun m la tv av uv pl hq => ?_) ((only_set _).trans (only_set _)) rfl rfl rfl rfl rfl (Nat.zero_le _)
    rw [put12 6 _ (put12 5 _ hq)]
    rfl
  clear h hs
  go_enter Try.func16, Try.ntmps16
  go_wp2_with fail
  refine hm.mono ?_
  rintro e w' ⟨rfl, rfl⟩
  go_wp2
  go_end0
  exact ⟨rfl, HT.out⟩
theorem armW_any (w : World) (pb q : Nat) (F : List Nat) (S : Wst) (k : Int) (hk : k ≤ 9223372036854775807) (h : Top w pb q) (hs : St w q F S) : Calls Try.prog 8 #[.pointer (some ⟨pb, 0, none⟩), .int .i64 k] w fun e w' => e = .returned (.int .i64 (refE S [])) ∧ Turn F w w' q (armSS S k) := by
  have hr := refusal0_any w pb q F S h hs
  have c0 := h.cell
  cases hoff : S.off with
  | true =>
    rw [refE_off hoff] at hr ⊢
    have e2 : armSS S k = S := if_pos hoff
    rw [e2]
    have HT : Hid (Turn F w w q S) := hs.turn (Below.refl _ _)
    clear e2 hoff hs h
    go_enter Try.func8, Try.ntmps8
    go_wp2_with fail
    refine hr.mono ?_
    rintro e w' ⟨rfl, rfl⟩
    go_wp2
    go_ret
    exact ⟨rfl, HT.out⟩
  | false =>
    rw [refE_on0 hoff] at hr ⊢
    have e2 : armSS S k = armS S k := if_neg (by rw [hoff]; decide)
    rw [e2]
    have hu := arm_any w q F S k hk hs
    clear e2 hoff hs h
    go_enter Try.func8, Try.ntmps8
    go_wp2_with fail
    refine hr.mono ?_
    rintro e w' ⟨rfl, rfl⟩
    go_wp2_with fail
    refine hu.mono ?_
    rintro e w2 ⟨rfl, hT⟩
    have HT2 : Hid _ := hT
    clear hT c0
    go_wp2
    go_ret
    exact ⟨rfl, HT2.out⟩
theorem comS_left (S : Wst) : (comS S).left = S.left := by unfold comS; split <;> rfl
set_option maxRecDepth 10000 in
theorem commit_any (w : World) (pb q : Nat) (F : List Nat) (S : Wst) (h : Top w pb q) (hs : St w q F S) : Calls Try.prog 37 #[.pointer (some ⟨pb, 0, none⟩)] w fun e w' => e = .returned (.int .i64 (refE S [])) ∧ Turn F w w' q (commitS S) := by
  have hr := refusal0_any w pb q F S h hs
  have c0 := h.cell
  cases hoff : S.off with
  | true =>
    rw [refE_off hoff] at hr ⊢
    have e2 : commitS S = S := if_pos hoff
    rw [e2]
    have HT : Hid (Turn F w w q S) := hs.turn (Below.refl _ _)
    clear e2 hoff hs h
    go_enter Try.func37, Try.ntmps37
    go_wp2_with fail
    refine hr.mono ?_
    rintro e w' ⟨rfl, rfl⟩
    go_wp2
    go_ret
    exact ⟨rfl, HT.out⟩
  | false =>
    rw [refE_on0 hoff] at hr ⊢
    have e2 : commitS S = useS (comS S) := if_neg (by rw [hoff]; decide)
    rw [e2]
    have c2 := hs.see.c2
    have c3 := hs.see.c3
    have f2 := hs.see.fr 2
    have f3 := hs.see.fr 3
    by_cases h0 : S.pen.size = 0
    · have e3 : comS S = S := if_pos h0
      rw [e3]
      have hu := use_any w q F S hs
      have hz : S.pen = { data := #[] } := ByteArray.ext (Array.eq_empty_of_size_eq_zero h0)
      rw [hz] at c3
      clear e2 e3 hoff hs h h0 hz
      go_enter Try.func37, Try.ntmps37
      go_wp2_with fail
      refine hr.mono ?_
      rintro e w' ⟨rfl, rfl⟩
      go_wp2_with fail
      refine hu.mono ?_
      rintro e w2 ⟨rfl, hT⟩
      have HT2 : Hid _ := hT
      clear hT c0
      go_wp2
      go_ret
      exact ⟨rfl, HT2.out⟩
    · have e3 : comS S = { S with cur := S.pen, pen := { data := #[] } } := if_neg h0
      rw [e3]
      obtain ⟨W1, hW1⟩ : ∃ W, (w.setCell ⟨q, 2, none⟩ (.string S.pen)).setCell ⟨q, 3, none⟩ (.string { data := #[] }) = W := ⟨_, rfl⟩
      have ht1 : Turn F w W1 q { S with cur := S.pen, pen := { data := #[] } } := by
        rw [← hW1]
        refine hs.self (fun m la tv av uv pl hq => ?_) ((only_set _).trans (only_set _)) rfl rfl rfl rfl rfl (id (by obtain ⟨m, pl, la, tv, av, uv, D, al, nv, hF, hI⟩ := hs; exact hI.hle))
        rw [put12 3 _ (put12 2 _ hq)]
        rfl
      have d0 := (h.keep hs ht1).cell
      obtain ⟨o1, F1, s1, k1⟩ := ht1
      have hu := use_any W1 q F1 _ s1
      have HT : Hid (∀ w', Turn F1 W1 w' q (useS { S with cur := S.pen, pen := { data := #[] } }) → Turn F w w' q (useS { S with cur := S.pen, pen := { data := #[] } })) := fun w' ht => turn_trans o1 k1 ht
      have hne : S.pen.toList.isEmpty = false := by
        rw [toList_data]
        rw [List.isEmpty_eq_false_iff]
        intro e
        exact h0 (by show S.pen.data.size = 0; rw [← Array.length_toList, e]; rfl)
      clear e2 e3 hoff hs h h0 o1 s1 k1
      go_enter Try.func37, Try.ntmps37
      go_wp2_with fail
      refine hr.mono ?_
      rintro e w' ⟨rfl, rfl⟩
      go_wp2_with fail
      refine hu.mono ?_
      rintro e w2 ⟨rfl, hT⟩
      have HT2 : Hid _ := hT
      clear hT c0
      go_wp2
      go_ret
      exact ⟨rfl, HT.out _ HT2.out⟩
/-- a list of faults, laid for a refusal -/
theorem laid1 (w : World) (pb q : Nat) (F : List Nat) (S : Wst) (a : Int) (h : Top w pb q) (hs : St w q F S) : ∃ W0, w.alloc (.cells #[.int .i64 a] 25) = W0 ∧ Below w.heap.size w W0 ∧ Top W0 pb q ∧ St W0 q F S ∧ Calls Try.prog 31 #[.pointer (some ⟨pb, 0, none⟩), .slice (some ⟨w.heap.size, 0, none⟩) 1 1] W0 fun e w' => e = .returned (.int .i64 (refE S [a])) ∧ w' = W0 := by
  have hb0 : Below w.heap.size w (w.alloc (.cells #[.int .i64 a] 25)) := (Below.refl _ _).alloc (Nat.le_refl _) _
  exact ⟨_, rfl, hb0, h.below hb0, hs.below hb0, refusal1_any _ pb q F S _ a (h.below hb0) (hs.below hb0) ((cell_of_heap (heap_new w _)).trans rfl)⟩
theorem laid2 (w : World) (pb q : Nat) (F : List Nat) (S : Wst) (a b : Int) (h : Top w pb q) (hs : St w q F S) : ∃ W0, w.alloc (.cells #[.int .i64 a, .int .i64 b] 25) = W0 ∧ Below w.heap.size w W0 ∧ Top W0 pb q ∧ St W0 q F S ∧ Calls Try.prog 31 #[.pointer (some ⟨pb, 0, none⟩), .slice (some ⟨w.heap.size, 0, none⟩) 2 2] W0 fun e w' => e = .returned (.int .i64 (refE S [a, b])) ∧ w' = W0 := by
  have hb0 : Below w.heap.size w (w.alloc (.cells #[.int .i64 a, .int .i64 b] 25)) := (Below.refl _ _).alloc (Nat.le_refl _) _
  exact ⟨_, rfl, hb0, h.below hb0, hs.below hb0, refusal2_any _ pb q F S _ a b (h.below hb0) (hs.below hb0) ((cell_of_heap (heap_new w _)).trans rfl) ((cell_of_heap (heap_new w _)).trans rfl)⟩
theorem pendS_no {S : Wst} {t : ByteArray} (h : refE S [tagE t] ≠ 0) : pendS S t = S := by
  unfold pendS
  cases hoff : S.off with
  | true => rfl
  | false =>
    rw [refE_on1 hoff] at h
    unfold tagE at h
    cases ht : tagOK t with
    | true => rw [ht] at h; exact absurd rfl h
    | false => rfl
theorem pendS_yes {S : Wst} {t : ByteArray} (h : refE S [tagE t] = 0) : pendS S t = useS { S with pen := t } := by
  unfold pendS
  cases hoff : S.off with
  | true => rw [refE_off hoff] at h; cases h
  | false =>
    rw [refE_on1 hoff] at h
    unfold tagE at h
    cases ht : tagOK t with
    | true => rfl
    | false => rw [ht] at h; cases h
set_option maxRecDepth 10000 in
theorem pend_any (w : World) (pb q : Nat) (F : List Nat) (S : Wst) (t : ByteArray) (h : Top w pb q) (hs : St w q F S) : Calls Try.prog 36 #[.pointer (some ⟨pb, 0, none⟩), .string t] w fun e w' => e = .returned (.int .i64 (refE S [tagE t])) ∧ Turn F w w' q (pendS S t) := by
  have hf := tagFault_any t w
  obtain ⟨W0, hW0, hb0, h', hs', hr⟩ := laid1 w pb q F S (tagE t) h hs
  have c0 := h'.cell
  by_cases he : refE S [tagE t] = 0
  · rw [pendS_yes he]
    rw [he] at hr ⊢
    obtain ⟨W1, hW1⟩ : ∃ W, W0.setCell ⟨q, 3, none⟩ (.string t) = W := ⟨_, rfl⟩
    have ht1 : Turn F W0 W1 q { S with pen := t } := by
      rw [← hW1]
      refine hs'.self (fun m la tv av uv pl hq => ?_) (only_set _) rfl rfl rfl rfl rfl (id (by obtain ⟨m, pl, la, tv, av, uv, D, al, nv, hF, hI⟩ := hs; exact hI.hle))
      rw [put12 3 _ hq]
      rfl
    have d0 := (h'.keep hs' ht1).cell
    have c3 := hs'.see.c3
    have f3 := hs'.see.fr 3
    obtain ⟨o1, F1, s1, k1⟩ := Turn.ahead hb0 ht1
    have hu := use_any W1 q F1 _ s1
    have HT : Hid (∀ w', Turn F1 W1 w' q (useS { S with pen := t }) → Turn F w w' q (useS { S with pen := t })) := fun w' ht => turn_trans o1 k1 ht
    generalize tagE t = te at *
    clear he hs h h' hs' o1 s1 k1 ht1 hb0
    go_enter Try.func36, Try.ntmps36
    go_wp2_with fail
    refine hf.mono ?_
    rintro e w' ⟨rfl, rfl⟩
    go_wp2_with fail
    refine hr.mono ?_
    rintro e w' ⟨rfl, rfl⟩
    go_wp2_with fail
    refine hu.mono ?_
    rintro e w2 ⟨rfl, hT⟩
    have HT2 : Hid _ := hT
    clear hT c0
    go_wp2
    go_ret
    exact ⟨rfl, HT.out _ HT2.out⟩
  · rw [pendS_no he]
    have HT : Hid (Turn F w W0 q S) := hs.turn hb0
    have hne : (refE S [tagE t] != 0) = true := by simpa using he
    generalize refE S [tagE t] = re at *
    generalize tagE t = te at *
    clear he hs h h' hs' hb0
    go_enter Try.func36, Try.ntmps36
    go_wp2_with fail
    refine hf.mono ?_
    rintro e w' ⟨rfl, rfl⟩
    go_wp2_with fail
    refine hr.mono ?_
    rintro e w' ⟨rfl, rfl⟩
    go_wp2
    go_ret
    exact ⟨rfl, HT.out⟩
theorem results_cell {P : Program} {fn : Func} {p : Tmp} {ty : TypeId} (h : fn.results = #[.cell p ty]) (tmps : Array Value) (w : World) (g : Nat) (t : TypeId) (cs : Array Value) (fr : Nat × Nat) (d : TypeDesc)
    (hp : tmps.getD p undef = .pointer (some ⟨g, 0, none⟩)) (hg : w.heap[g]? = some (.cells cs t fr)) (hu : P.underlying ty = some d) (hd : (match d with | .struct _ | .array _ _ => true | _ => false) = true) (hi : (P.info? ty).map (·.size) = some cs.size) :
    (results fn tmps).run P w = .ok (.agg cs) w := by
  have hp' : tmps[p]?.getD undef = .pointer (some ⟨g, 0, none⟩) := by simpa using hp
  simp [results, h, hp', asAddr, run_loadVar_row w g t ty cs fr d hg hu hd hi]
set_option maxRecDepth 10000 in
theorem kept_any (w : World) (pb q : Nat) (F : List Nat) (S : Wst) (h : Top w pb q) (hs : St w q F S) : Calls Try.prog 12 #[.pointer (some ⟨pb, 0, none⟩)] w fun e w' => e = .returned (regV S) ∧ Below w.heap.size w w' := by
  obtain ⟨W0, hW0⟩ : ∃ W, w.alloc (.cells #[.string { data := #[] }, .string { data := #[] }, .bool false] 32) = W := ⟨_, rfl⟩
  have hb0 : Below w.heap.size w W0 := by rw [← hW0]; exact (Below.refl _ _).alloc (Nat.le_refl _) _
  have hcl : W0.heap[w.heap.size]? = some (.cells #[.string { data := #[] }, .string { data := #[] }, .bool false] 32 (0, 0)) := by rw [← hW0]; exact heap_new _ _
  have hm := made_any W0 pb q (h.below hb0)
  have c0 := (h.below hb0).cell
  have hs' := (hs.below hb0).see
  have c2 := hs'.c2
  have c3 := hs'.c3
  have c4 := hs'.c4
  have y0 : W0.cell? ⟨w.heap.size, 0, none⟩ = some (.string { data := #[] }) := (cell_of_heap hcl).trans rfl
  have y1 : W0.cell? ⟨w.heap.size, 1, none⟩ = some (.string { data := #[] }) := (cell_of_heap hcl).trans rfl
  have y2 : W0.cell? ⟨w.heap.size, 2, none⟩ = some (.bool false) := (cell_of_heap hcl).trans rfl
  have f0 : W0.frozen? ⟨w.heap.size, 0, none⟩ = false := frozen_of_heap hcl
  have f1 : W0.frozen? ⟨w.heap.size, 1, none⟩ = false := frozen_of_heap hcl
  have f2 : W0.frozen? ⟨w.heap.size, 2, none⟩ = false := frozen_of_heap hcl
  have HL : Hid _ := hcl
  have HB : Hid _ := hb0
  unfold regV
  clear hs h hcl hb0 hs'
  go_enter Try.func12, Try.ntmps12
  go_wp2_with fail
  refine hm.mono ?_
  rintro e w' ⟨rfl, rfl⟩
  go_wp2
  refine bodyPost_ret (results_cell rfl _ _ w.heap.size 32 _ (0, 0) _ rfl (put3 HL.out) Try.underlying32 rfl sizeReg) rfl ?_
  exact ⟨rfl, below3 HB.out (Nat.le_refl _)⟩

end Go.Proofs.Ytdgokfehgjkalaa.Wd
