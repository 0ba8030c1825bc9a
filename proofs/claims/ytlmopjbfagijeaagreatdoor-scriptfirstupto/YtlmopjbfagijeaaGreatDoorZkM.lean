import Derived.Test.YtlmopjbfagijeaaGreatDoorZjM
import Derived.Test.YtlmopjbfagijeaaGreatDoorSqY
import Derived.Test.YtlmopjbfagijeaaGreatDoorYiM
import Derived.Test.YtlmopjbfagijeaaGreatDoorSyM
namespace Go.Proofs.YtlmopjbfagijeaaGreatDoor.Sc
open Go.RowKit Go.Lib Go.Deep
open Go.Proofs.YtlmopjbfagijeaaGreatDoor.Sq (owns_form owns_form2)

/-- what Parse hands back, as it can be read -/
theorem seeV_rows {w : World} {B ac : Nat} {ao : Option Addr} {V : List ActV} (row : w.ownsRow B 36 9 (.slice ao V.length ac) V.length (actsC (V.map (·.1)))) (ops : ∀ x ∈ V, w.ownsRow B 54 6 (.slice x.1.ops x.1.nops x.1.cops) x.1.nops (opsC x.2)) : SeeV w ao V := by
  refine ⟨fun hne => ?_, fun i x hx => ?_⟩
  · have hl : 0 < V.length := by
      cases V with
      | nil => exact absurd rfl hne
      | cons a t => simp
    obtain ⟨g, c, hg⟩ := owns_form2 row hl
    injection hg with e1 _ _
    subst e1
    have key : ∀ (i : Nat) o, (V.map (·.1))[i]? = some o → NineAt w g (0 + i * 9) o ∧ g < w.heap.size := fun i o ho => nine_own row ho
    refine ⟨g, 0, rfl, ?_, fun i o ho => (key i o ho).1⟩
    cases hq : V.map (·.1) with
    | nil => exact absurd hq hne
    | cons a t => exact (key 0 a (by rw [hq]; rfl)).2
  · have hr := ops x (List.mem_of_getElem? hx)
    intro hne
    have hn : 0 < x.1.nops := by
      have h1 := hr.1
      cases hL : x.2 with
      | nil => exact absurd hL hne
      | cons a t =>
        rw [hL] at h1
        have e : (opsC (a :: t)).length = 6 + (opsC t).length := by simp [opsC, OpR.cells]; omega
        rw [e] at h1
        omega
    obtain ⟨g, c, hg⟩ := owns_form2 hr hn
    injection hg with e1 _ _
    rw [e1] at hr ⊢
    have h := seeO_own (M := []) (L := x.2) (by rw [List.append_nil]; exact hr)
    exact h hne
theorem moved_ok {V W : List ActV} (h : Moved V W) (hV : VOk V) : VOk W := by
  refine ⟨fun y hy => ?_, by rw [h.1]; exact hV.len⟩
  obtain ⟨i, hi⟩ := List.mem_iff_getElem?.1 hy
  have hl : i < V.length := by have := (List.getElem?_eq_some_iff.1 hi).1; rw [← h.1]; exact this
  obtain ⟨a, c, e⟩ := h.2 i V[i] (List.getElem?_eq_getElem hl)
  rw [hi] at e
  obtain rfl := Option.some.inj e
  obtain ⟨h1, h2, h3, h4⟩ := hV.each V[i] (List.getElem_mem hl)
  exact ⟨⟨h1.kind, h1.i, h1.before, h1.ek, h1.put, h1.frm, h1.name, h1.blob⟩, h2, h3, h4⟩
end Go.Proofs.YtlmopjbfagijeaaGreatDoor.Sc

namespace Go.Proofs.YtlmopjbfagijeaaGreatDoor.Sc
open Go.RowKit Go.Lib Go.Deep
set_option maxRecDepth 20000 in
set_option maxHeartbeats 1000000 in
theorem num_any (c : Int) (hc : 0 ≤ c ∧ c < 1000) (w : World) : Calls Tryz.prog 12 #[.int .i64 c] w fun e w' => e = .returned (.int .i64 c) ∧ w' = w := by
  have h1 := hc.1
  have h2 := hc.2
  go_enter Tryz.func12, Tryz.ntmps12
  go_wp2_with fail
  go_ret
  exact ⟨rfl, rfl⟩
end Go.Proofs.YtlmopjbfagijeaaGreatDoor.Sc

namespace Go.Proofs.YtlmopjbfagijeaaGreatDoor.Sc
open Go.RowKit Go.Lib Go.Deep

set_option maxRecDepth 20000 in
set_option maxHeartbeats 1000000 in
theorem round_yes (p : PlR) (V : List ActV) (hok : p.Ok) (hV : VOk V) (hn : V.length = p.nacts) (B0 : Nat) (w : World) (hs : SeeV w p.acts V) (hG : GlB B0 w) (t : ByteArray) (hp : printV p V = .tuple #[.string t, .int .i64 0]) (ht : t.size ≤ 1125899906842624) :
    Calls Tryz.prog 4 #[.agg p.cells] w fun e w' => e = .returned (.bool true) ∧ Below w.heap.size w w' := by
  have hr := print_run p V hok hV t hp
  have hmv := pure_moved V (fun x hx => (hV.each x hx).2.2.1)
  obtain ⟨W0, hW0⟩ : ∃ W0, w.alloc (.cells p.cells 26) = W0 := ⟨_, rfl⟩
  have hb0 : Below w.heap.size w W0 := by rw [← hW0]; exact (Below.refl _ _).alloc (Nat.le_refl _) _
  have hr0 : W0.heap[w.heap.size]? = some (.cells p.cells 26 (0, 0)) := by rw [← hW0]; exact heap_alloc_new _ _
  have hs0 : w.heap.size < W0.heap.size := by rw [← hW0]; simp
  have hp1 := print_any p hok V hV hn W0 (hs.below hb0) (hG.to (hb0.mono hG.le)).it
  rw [hp] at hp1
  have HQ : ∀ w1, Below w.heap.size w w1 → Calls Tryz.prog 15 #[.string t] w1 fun e w' => ∃ (W : List ActV) (ao : Option Addr) (ac : Nat), e = .returned (.tuple #[.agg (PlR.cells { p with acts := ao, cacts := ac }), .nilIface]) ∧ Moved V W ∧ Moved W V ∧ SeeV w' ao W ∧ Below w1.heap.size w1 w' := fun w1 hb => by
    have h := parse_ok B0 t ht w1 (hG.to (hb.mono hG.le)) (by rw [hr])
    rw [hr] at h
    refine h.mono ?_
    rintro e w' ⟨W, ao, ac, rfl, hm, hrow, hops, hb'⟩
    have hWV := moved_back hm hmv
    have hWl : W.length = p.nacts := by rw [← hWV.1, hn]
    refine ⟨W, ao, ac, ?_, moved_back hmv hm, hWV, seeV_rows hrow hops, hb'⟩
    rw [show ({ (St.q { headS p with V := V.map pureA } ao W.length ac) with tape := str (St.tape { headS p with V := V.map pureA }) } : PlR) = { p with acts := ao, cacts := ac } by
      show (⟨p.s, p.f, p.d, p.m, p.l, p.p, p.ideal, p.master, str p.tape.data.toList, ao, W.length, ac⟩ : PlR) = _
      rw [hWl, str_of]]
  have HA : Hid (∀ w1, Below w.heap.size w w1 → Calls Tryz.prog 15 #[.string t] w1 fun e w' => ∃ (W : List ActV) (ao : Option Addr) (ac : Nat), e = .returned (.tuple #[.agg (PlR.cells { p with acts := ao, cacts := ac }), .nilIface]) ∧ Moved V W ∧ Moved W V ∧ SeeV w' ao W ∧ Below w1.heap.size w1 w') := HQ
  have HS : Hid (p.Ok ∧ VOk V ∧ V.length = p.nacts ∧ SeeV w p.acts V ∧ ITab w ∧ printV p V = .tuple #[.string t, .int .i64 0]) := ⟨hok, hV, hn, hs, hG.it, hp⟩
  have HIT : Hid (∀ w1, Below w.heap.size w w1 → ITab w1) := fun w1 hb => (hG.to (hb.mono hG.le)).it
  clear hr hmv HQ hok hV hn hs hG hp ht
  have HPS : Hid (∀ w1 w2 W ao ac, Below w.heap.size w w1 → Moved V W → Moved W V → SeeV w1 ao W → Below w1.heap.size w1 w2 → Calls Tryz.prog 16 #[.agg p.cells, .agg (PlR.cells { p with acts := ao, cacts := ac })] w2 fun e w' => e = .returned (.bool true) ∧ Below w2.heap.size w2 w') := fun w1 w2 W ao ac hb hVW hWV hsee hb2 => by
    have hokW := moved_ok hVW HS.out.2.1
    exact samePlay_any { p with acts := ao, cacts := ac } p.acts p.cacts W V hokW (by rw [hVW.1]; exact HS.out.2.2.1) hWV w2 (hsee.below hb2) ((HS.out.2.2.2.1.below hb).below hb2)
  have HPR : Hid (∀ w1 w2 W ao ac, Below w.heap.size w w1 → Moved V W → SeeV w1 ao W → Below w1.heap.size w1 w2 → Calls Tryz.prog 14 #[.agg (PlR.cells { p with acts := ao, cacts := ac })] w2 fun e w' => e = .returned (.tuple #[.string t, .int .i64 0]) ∧ Below w2.heap.size w2 w') := fun w1 w2 W ao ac hb hVW hsee hb2 => by
    have hokW := moved_ok hVW HS.out.2.1
    have h := print_any { p with acts := ao, cacts := ac } ⟨HS.out.1.s, HS.out.1.f, HS.out.1.d, HS.out.1.m, HS.out.1.l, HS.out.1.p, HS.out.1.master, HS.out.1.tape⟩ W hokW (by rw [hVW.1]; exact HS.out.2.2.1) w2 (hsee.below hb2) (HIT.out w2 (hb.trans (hb2.mono hb.size)))
    rw [printV_moved p hVW ao ac, HS.out.2.2.2.2.2] at h
    exact h
  obtain ⟨pc, hpc⟩ : ∃ pc, p.cells = pc := ⟨_, rfl⟩
  have hpl : pc.size = 10 := by rw [← hpc]; rfl
  have HPL : Hid (pc.size = 10) := hpl
  have HPC : Hid (p.cells = pc) := hpc
  rw [hpc] at hp1 hr0 hW0 ⊢
  rw [hpc] at HPS
  have HR0 : Hid (W0.heap[w.heap.size]? = some (.cells pc 26 (0, 0)) ∧ Below w.heap.size w W0 ∧ w.heap.size < W0.heap.size) := ⟨hr0, hb0, hs0⟩
  have HW0 : Hid (Unit → _ = W0) := fun _ => hW0
  clear hpc hpl hr0 hb0 hs0 hW0
  go_enter Tryz.func4, Tryz.ntmps4
  go_upto_region 1 with fail
  rw [HW0.out ()]
  clear HW0
  go_wp2_with (first | (refine wpList_load_row rfl 26 (.tmp 1) rfl w.heap.size rfl 26 _ (0, 0) _ HR0.out.1 Tryz.underlying26 rfl (by rw [HPL.out]; exact sizePl) ?_) | (go_at_call 14; refine hp1.mono ?_; rintro e w1 ⟨rfl, hb1⟩; clear hp1; have HB1 : Hid (Below W0.heap.size W0 w1) := hb1; clear hb1) | (go_at_call 12; refine (num_any 0 ⟨by decide, by decide⟩ _).mono ?_; rintro e w2 ⟨rfl, rfl⟩))
  have hbw2 : Below w.heap.size w w2 := HR0.out.2.1.trans (HB1.out.mono HR0.out.2.1.size)
  refine (HA.out w2 hbw2).mono ?_
  rintro e w3 ⟨W, ao, ac, rfl, hVW, hWV, hsee, hb3⟩
  have hbw3 : Below w.heap.size w w3 := hbw2.trans (hb3.mono hbw2.size)
  obtain ⟨qc, hqc⟩ : ∃ qc, PlR.cells { p with acts := ao, cacts := ac } = qc := ⟨_, rfl⟩
  have hql : qc.size = 10 := by rw [← hqc]; rfl
  have hq1 : (qc.all fun x => x.oneCell') = true := by rw [← hqc]; exact plr_one _
  obtain ⟨W4, hW4⟩ : ∃ W4, w3.alloc (.cells #[.int .i64 0, .int .i64 0, .int .i64 0, .int .i64 0, .int .i64 0, .int .i64 0, .bool false, .string { data := #[] }, .string { data := #[] }, .slice none 0 0] 26) = W4 := ⟨_, rfl⟩
  have hb4 : Below w3.heap.size w3 W4 := by rw [← hW4]; exact (Below.refl _ _).alloc (Nat.le_refl _) _
  have hz4 : W4.heap[w3.heap.size]? = some (.cells #[.int .i64 0, .int .i64 0, .int .i64 0, .int .i64 0, .int .i64 0, .int .i64 0, .bool false, .string { data := #[] }, .string { data := #[] }, .slice none 0 0] 26 (0, 0)) := by rw [← hW4]; exact heap_alloc_new _ _
  obtain ⟨W5, hW5⟩ : ∃ W5, W4.setRow w3.heap.size qc = W5 := ⟨_, rfl⟩
  have hb5 : Below w3.heap.size w3 W5 := by rw [← hW5]; exact hb4.trans ⟨rfl, rfl, rfl, by simp, fun i hi => setRow_other _ _ _ _ (by omega)⟩
  have HW5B : Hid (Below w.heap.size w W5) := hbw3.trans (hb5.mono hbw3.size)
  have hlt3 : w.heap.size < w3.heap.size := Nat.lt_of_lt_of_le HR0.out.2.2 (Nat.le_trans HB1.out.size hb3.size)
  have hr3 : w3.heap[w.heap.size]? = some (.cells pc 26 (0, 0)) := (hb3.block _ (Nat.lt_of_lt_of_le HR0.out.2.2 HB1.out.size)).trans ((HB1.out.block _ HR0.out.2.2).trans HR0.out.1)
  have HP5 : Hid (W5.heap[w.heap.size]? = some (.cells pc 26 (0, 0))) := (hb5.block _ hlt3).trans hr3
  have HQ5 : Hid (∀ w6, Below W5.heap.size W5 w6 → w6.heap[w3.heap.size]? = some (.cells qc 26 (0, 0))) := fun w6 hb => (hb.block _ (Nat.lt_of_lt_of_le (heap_lt hz4) (by rw [← hW5]; simp))).trans (by rw [← hW5]; exact setRow_heap _ _ _ _ _ _ hz4)
  have hsp := HPS.out w3 W5 W ao ac hbw3 hVW hWV hsee hb5
  have HPX : Hid (∀ w6, Below W5.heap.size W5 w6 → Calls Tryz.prog 14 #[.agg (PlR.cells { p with acts := ao, cacts := ac })] w6 fun e w' => e = .returned (.tuple #[.string t, .int .i64 0]) ∧ Below w6.heap.size w6 w') := fun w6 hb6 => HPR.out w3 w6 W ao ac hbw3 hVW hsee (hb5.trans (hb6.mono hb5.size))
  have HZ4 : Hid (W4.heap[w3.heap.size]? = some (.cells #[.int .i64 0, .int .i64 0, .int .i64 0, .int .i64 0, .int .i64 0, .int .i64 0, .bool false, .string { data := #[] }, .string { data := #[] }, .slice none 0 0] 26 (0, 0))) := hz4
  have HW4 : Hid (Unit → _ = W4) := fun _ => hW4
  have HW5 : Hid (Unit → _ = W5) := fun _ => hW5
  have HQL : Hid (qc.size = 10) := hql
  have HB0 : Hid (Below W5.heap.size W5 W5) := Below.refl _ _
  have c5 := (plAt_of (p := p) (show W5.heap[w.heap.size]? = some (.cells p.cells 26 (0, 0)) by rw [HPC.out]; exact HP5.out)).ten
  have d5 := (plAt_of (p := { p with acts := ao, cacts := ac }) (show W5.heap[w3.heap.size]? = some (.cells (PlR.cells { p with acts := ao, cacts := ac }) 26 (0, 0)) by rw [hqc]; exact HQ5.out W5 (Below.refl _ _))).ten
  obtain ⟨c0, c1, c2, c3, c4, c5, c6, c7, c8, c9⟩ := c5
  obtain ⟨d0, d1, d2, d3, d4, d5, d6, d7, d8, d9⟩ := d5
  dsimp only at d0 d1 d2 d3 d4 d5 d6 d7 d8 d9
  rw [← HPC.out] at hsp
  unfold PlR.cells at hsp
  dsimp only at hsp
  rw [hqc] at HPX ⊢
  clear hbw2 hbw3 hVW hWV hsee hb3 hr3 hqc hb4 hz4 hb5 hlt3 hW4 hW5 hql
  go_wp2_with (first | (rw [HW4.out ()]; refine wpList_store_row rfl 26 (.tmp 10) (.tmp 54) rfl w3.heap.size qc rfl rfl 26 _ HZ4.out (by rw [HQL.out]; exact sizePl) (by rw [HQL.out]; rfl) hq1 ?_; rw [HW5.out ()]) | (refine wpList_load_row rfl 26 (.tmp 1) rfl w.heap.size rfl 26 _ (0, 0) _ HP5.out Tryz.underlying26 rfl (by rw [HPL.out]; exact sizePl) ?_) | (refine wpList_load_row rfl 26 (.tmp 10) rfl w3.heap.size rfl 26 _ (0, 0) _ (HQ5.out _ HB0.out) Tryz.underlying26 rfl (by rw [HQL.out]; exact sizePl) ?_) | (refine wpList_load_row rfl 26 (.tmp 10) rfl w3.heap.size rfl 26 _ (0, 0) _ (HQ5.out _ HB4.out) Tryz.underlying26 rfl (by rw [HQL.out]; exact sizePl) ?_) | (go_at_call 16; refine hsp.mono ?_; rintro e w4 ⟨rfl, hb4⟩; have hpx := HPX.out w4 hb4; have HB4 : Hid (Below W5.heap.size W5 w4) := hb4; clear hsp hb4 c0 c1 c2 c3 c4 c5 c6 c7 c8 c9 d0 d1 d2 d3 d4 d5 d6 d7 d8 d9) | (go_at_call 14; refine hpx.mono ?_; rintro e w5 ⟨rfl, hb6⟩; have HB6 : Hid (Below w4.heap.size w4 w5) := hb6; clear hpx hb6) | (go_at_call 12; refine (num_any 0 ⟨by decide, by decide⟩ _).mono ?_; rintro e w6 ⟨rfl, rfl⟩))
  go_ret
  all_goals exact ⟨rfl, (HW5B.out.trans (HB4.out.mono HW5B.out.size)).trans (HB6.out.mono (Nat.le_trans HW5B.out.size HB4.out.size))⟩
end Go.Proofs.YtlmopjbfagijeaaGreatDoor.Sc

namespace Go.Proofs.YtlmopjbfagijeaaGreatDoor.Sc
open Go.RowKit Go.Lib Go.Deep

/-- what Print writes is no longer than this -/
theorem print_size (p : PlR) (V : List ActV) (hok : p.Ok) (hV : VOk V) (t : ByteArray) (h : printV p V = .tuple #[.string t, .int .i64 0]) : t.size ≤ 1125899906842624 := by
  unfold printV at h
  split at h
  · simp at h
  · split at h
    · simp at h
    · rename_i hs
      split at h
      · rename_i hf
        simp at h
        exact absurd h.2 hf
      · rename_i hf
        split at h
        · simp at h
        · rename_i hr
          have ht : t = str (headL p ++ actsT V) := by simpa using h.symm
          have hf0 : firA V = 0 := Classical.byContradiction hf
          have h1 := actsT_len V hV.each (firA_zero V hf0)
          have h2 := cfgL_len p hok
          have h3 : (sealX p).2.length ≤ 262144 := Nat.le_of_not_lt (fun e => hs (Or.inr e))
          have h4 := tapeL_len p.tape.data.toList (List.range (rowsN p))
          rw [List.length_range] at h4
          rw [ht, str_size, List.length_append]
          have h5 : (headL p).length = (cfgL p).length + 1 + (sealX p).2.length + 1 + (tapeL p.tape.data.toList (List.range (rowsN p))).length + 5 := by
            unfold headL
            simp only [List.length_append, List.length_cons, List.length_nil]
          omega
end Go.Proofs.YtlmopjbfagijeaaGreatDoor.Sc

namespace Go.Proofs.YtlmopjbfagijeaaGreatDoor.Sc
open Go.RowKit Go.Lib Go.Deep

/-- what Print wrote is read back, wherever the world has grown to -/
theorem parse_back (p : PlR) (V : List ActV) (hok : p.Ok) (hV : VOk V) (hn : V.length = p.nacts) (B0 : Nat) (t : ByteArray) (hp : printV p V = .tuple #[.string t, .int .i64 0]) (w : World) (hG : GlB B0 w) :
    Calls Tryz.prog 15 #[.string t] w fun e w' => ∃ (W : List ActV) (ao : Option Addr) (ac : Nat), e = .returned (.tuple #[.agg (PlR.cells { p with acts := ao, cacts := ac }), .nilIface]) ∧ Moved V W ∧ Moved W V ∧ SeeV w' ao W ∧ Below w.heap.size w w' := by
  have hr := print_run p V hok hV t hp
  have hmv := pure_moved V (fun x hx => (hV.each x hx).2.2.1)
  have h := parse_ok B0 t (print_size p V hok hV t hp) w hG (by rw [hr])
  rw [hr] at h
  refine h.mono ?_
  rintro e w' ⟨W, ao, ac, rfl, hm, hrow, hops, hb'⟩
  have hWV := moved_back hm hmv
  have hWl : W.length = p.nacts := by rw [← hWV.1, hn]
  refine ⟨W, ao, ac, ?_, moved_back hmv hm, hWV, seeV_rows hrow hops, hb'⟩
  rw [show ({ (St.q { headS p with V := V.map pureA } ao W.length ac) with tape := str (St.tape { headS p with V := V.map pureA }) } : PlR) = { p with acts := ao, cacts := ac } by
    show (⟨p.s, p.f, p.d, p.m, p.l, p.p, p.ideal, p.master, str p.tape.data.toList, ao, W.length, ac⟩ : PlR) = _
    rw [hWl, str_of]]
/-- the play that can't be refused -/
def easy (p : PlR) : PlR := { p with ideal := true, master := nil_, tape := { data := #[97, 98] }, acts := none, nacts := 0, cacts := 0 }
theorem easy_ok (p : PlR) (h : p.Ok) : (easy p).Ok := ⟨h.s, h.f, h.d, h.m, h.l, h.p, by show nil_.size ≤ _; decide, by show ({ data := #[97, 98] } : ByteArray).size ≤ _; decide⟩
theorem vok_nil : VOk [] := ⟨fun x hx => (by cases hx), by decide⟩
theorem seeV_nil (w : World) (a : Option Addr) : SeeV w a [] := ⟨fun h => absurd rfl h, fun i x h => by cases h⟩
theorem easy_print (p : PlR) : printV (easy p) [] = .tuple #[.string (str (headL (easy p) ++ actsT [])), .int .i64 0] := by
  unfold printV
  rw [if_neg (by rintro ⟨-, h⟩; exact h rfl), if_neg (by
    have e : sealX (easy p) = (false, [115, 101, 97, 108] ++ 32 :: [105, 100, 101, 97, 108]) := rfl
    rw [e]
    rintro (h | h)
    · cases h
    · exact absurd h (by decide)), if_neg (fun h => h rfl), if_neg (by
    have e1 : rowsN (easy p) = 1 := by
      unfold rowsN
      rw [show (easy p).tape.size = 2 from rfl]
    have e2 : lnsT [] = 0 := rfl
    omega)]
end Go.Proofs.YtlmopjbfagijeaaGreatDoor.Sc

namespace Go.Proofs.YtlmopjbfagijeaaGreatDoor.Sc
open Go.RowKit Go.Lib Go.Deep

set_option maxRecDepth 20000 in
set_option maxHeartbeats 1000000 in
theorem round_no (p : PlR) (V : List ActV) (hok : p.Ok) (hV : VOk V) (hn : V.length = p.nacts) (B0 : Nat) (w : World) (hs : SeeV w p.acts V) (hG : GlB B0 w) (c : Int) (hp : printV p V = .tuple #[.string { data := #[] }, .int .i64 c]) (hc : 0 < c) (hc9 : c < 1000) :
    Calls Tryz.prog 4 #[.agg p.cells] w fun e w' => e = .returned (.bool true) ∧ Below w.heap.size w w' := by
  obtain ⟨W0, hW0⟩ : ∃ W0, w.alloc (.cells p.cells 26) = W0 := ⟨_, rfl⟩
  have hb0 : Below w.heap.size w W0 := by rw [← hW0]; exact (Below.refl _ _).alloc (Nat.le_refl _) _
  have hr0 : W0.heap[w.heap.size]? = some (.cells p.cells 26 (0, 0)) := by rw [← hW0]; exact heap_alloc_new _ _
  have hs0 : w.heap.size < W0.heap.size := by rw [← hW0]; simp
  have hp1 := print_any p hok V hV hn W0 (hs.below hb0) (hG.to (hb0.mono hG.le)).it
  rw [hp] at hp1
  have HPT : Hid (∀ U, Below W0.heap.size W0 U → PlAt U w.heap.size p) := fun U hU => (plAt_of hr0).below hU hs0
  have HG : Hid (∀ w1, Below w.heap.size w w1 → GlB B0 w1) := fun w1 hb => hG.to (hb.mono hG.le)
  have HOK : Hid p.Ok := hok
  obtain ⟨pc, hpc⟩ : ∃ pc, p.cells = pc := ⟨_, rfl⟩
  have hpl : pc.size = 10 := by rw [← hpc]; rfl
  have HPL : Hid (pc.size = 10) := hpl
  have HPC : Hid (p.cells = pc) := hpc
  rw [hpc] at hp1 hr0 hW0 ⊢
  have HR0 : Hid (W0.heap[w.heap.size]? = some (.cells pc 26 (0, 0)) ∧ Below w.heap.size w W0 ∧ w.heap.size < W0.heap.size) := ⟨hr0, hb0, hs0⟩
  have HW0 : Hid (Unit → _ = W0) := fun _ => hW0
  clear hpc hpl hr0 hb0 hs0 hW0 hok hV hn hs hG hp
  go_enter Tryz.func4, Tryz.ntmps4
  go_upto_region 1 with fail
  rw [HW0.out ()]
  clear HW0
  go_wp2_with (first | (refine wpList_load_row rfl 26 (.tmp 1) rfl w.heap.size rfl 26 _ (0, 0) _ HR0.out.1 Tryz.underlying26 rfl (by rw [HPL.out]; exact sizePl) ?_) | (go_at_call 14; refine hp1.mono ?_; rintro e w1 ⟨rfl, hb1⟩; clear hp1; have HB1 : Hid (Below W0.heap.size W0 w1) := hb1; obtain ⟨c0, c1, c2, c3, c4, c5, c6, c7, c8, c9⟩ := (HPT.out w1 hb1).ten; clear hb1 c6 c7 c8 c9) | (go_at_call 12; refine (num_any c ⟨by omega, hc9⟩ _).mono ?_; rintro e w2 ⟨rfl, rfl⟩))
  have HBW : Hid (Below w.heap.size w w2) := HR0.out.2.1.trans (HB1.out.mono HR0.out.2.1.size)
  obtain ⟨eq, heq⟩ : ∃ eq, PlR.cells (easy p) = eq := ⟨_, rfl⟩
  obtain ⟨W2, hW2⟩ : ∃ W2, w2.alloc (.cells (PlR.cells (easy p)) 26) = W2 := ⟨_, rfl⟩
  have hb2 : Below w2.heap.size w2 W2 := by rw [← hW2]; exact (Below.refl _ _).alloc (Nat.le_refl _) _
  have hr2 : W2.heap[w2.heap.size]? = some (.cells (PlR.cells (easy p)) 26 (0, 0)) := by rw [← hW2]; exact heap_alloc_new _ _
  have HBW2 : Hid (Below w.heap.size w W2) := HBW.out.trans (hb2.mono HBW.out.size)
  have hpq := print_any (easy p) (easy_ok p HOK.out) [] vok_nil rfl W2 (seeV_nil _ _) (HG.out W2 HBW2.out).it
  have hpv := easy_print p
  rw [hpv] at hpq
  obtain ⟨tq, htq⟩ : ∃ tq, str (headL (easy p) ++ actsT []) = tq := ⟨_, rfl⟩
  rw [htq] at hpq hpv
  have HPV : Hid (printV (easy p) [] = .tuple #[.string tq, .int .i64 0]) := hpv
  have HR2 : Hid (∀ U, Below W2.heap.size W2 U → U.heap[w2.heap.size]? = some (.cells (PlR.cells (easy p)) 26 (0, 0))) := fun U hU => (hU.block _ (heap_lt hr2)).trans hr2
  have HW2 : Hid (Unit → _ = W2) := fun _ => hW2
  unfold PlR.cells easy nil_ at hpq HW2
  dsimp only at hpq HW2
  rw [HW2.out ()]
  clear hW2 HW2 hb2 hr2 hpv htq heq c0 c1 c2 c3 c4 c5
  refine hpq.mono ?_
  rintro e w3 ⟨rfl, hb3⟩
  have HB3 : Hid (Below W2.heap.size W2 w3) := hb3
  have HBW3 : Hid (Below w.heap.size w w3) := HBW2.out.trans (hb3.mono HBW2.out.size)
  have hps := parse_back (easy p) [] (easy_ok p HOK.out) vok_nil rfl B0 tq HPV.out w3 (HG.out w3 HBW3.out)
  clear hpq hb3
  go_wp2_with fail
  refine hps.mono ?_
  rintro e w4 ⟨W, ao, ac, rfl, hVW, hWV, hsee, hb4⟩
  clear hps
  have hbw4 : Below w.heap.size w w4 := HBW3.out.trans (hb4.mono HBW3.out.size)
  obtain ⟨qc, hqc⟩ : ∃ qc, PlR.cells { easy p with acts := ao, cacts := ac } = qc := ⟨_, rfl⟩
  have hql : qc.size = 10 := by rw [← hqc]; rfl
  have hq1 : (qc.all fun x => x.oneCell') = true := by rw [← hqc]; exact plr_one _
  obtain ⟨W4, hW4⟩ : ∃ W4, w4.alloc (.cells #[.int .i64 0, .int .i64 0, .int .i64 0, .int .i64 0, .int .i64 0, .int .i64 0, .bool false, .string { data := #[] }, .string { data := #[] }, .slice none 0 0] 26) = W4 := ⟨_, rfl⟩
  have hbx4 : Below w4.heap.size w4 W4 := by rw [← hW4]; exact (Below.refl _ _).alloc (Nat.le_refl _) _
  have hz4 : W4.heap[w4.heap.size]? = some (.cells #[.int .i64 0, .int .i64 0, .int .i64 0, .int .i64 0, .int .i64 0, .int .i64 0, .bool false, .string { data := #[] }, .string { data := #[] }, .slice none 0 0] 26 (0, 0)) := by rw [← hW4]; exact heap_alloc_new _ _
  obtain ⟨W5, hW5⟩ : ∃ W5, W4.setRow w4.heap.size qc = W5 := ⟨_, rfl⟩
  have hb5 : Below w4.heap.size w4 W5 := by rw [← hW5]; exact hbx4.trans ⟨rfl, rfl, rfl, by simp, fun i hi => setRow_other _ _ _ _ (by omega)⟩
  have HBW5 : Hid (Below w.heap.size w W5) := hbw4.trans (hb5.mono hbw4.size)
  have hq2 := HR2.out w3 HB3.out
  have hlt4 : w2.heap.size < w4.heap.size := Nat.lt_of_lt_of_le (heap_lt hq2) hb4.size
  have hq5 : W5.heap[w2.heap.size]? = some (.cells (PlR.cells (easy p)) 26 (0, 0)) := (hb5.block _ hlt4).trans ((hb4.block _ (heap_lt hq2)).trans hq2)
  have hr5 : W5.heap[w4.heap.size]? = some (.cells (PlR.cells { easy p with acts := ao, cacts := ac }) 26 (0, 0)) := by rw [hqc, ← hW5]; exact setRow_heap _ _ _ _ _ _ hz4
  have hsp := samePlay_any { easy p with acts := ao, cacts := ac } none 0 W [] (moved_ok hVW vok_nil) (by rw [hVW.1]; rfl) hWV W5 (hsee.below hb5) (seeV_nil _ _)
  have HZ4 : Hid (W4.heap[w4.heap.size]? = some (.cells #[.int .i64 0, .int .i64 0, .int .i64 0, .int .i64 0, .int .i64 0, .int .i64 0, .bool false, .string { data := #[] }, .string { data := #[] }, .slice none 0 0] 26 (0, 0))) := hz4
  have HW4 : Hid (Unit → _ = W4) := fun _ => hW4
  have HW5 : Hid (Unit → _ = W5) := fun _ => hW5
  have HQL : Hid (qc.size = 10) := hql
  have c5 := (plAt_of hq5).ten
  have d5 := (plAt_of hr5).ten
  obtain ⟨c0, c1, c2, c3, c4, c5, c6, c7, c8, c9⟩ := c5
  obtain ⟨d0, d1, d2, d3, d4, d5, d6, d7, d8, d9⟩ := d5
  unfold easy nil_ at c0 c1 c2 c3 c4 c5 c6 c7 c8 c9 d0 d1 d2 d3 d4 d5 d6 d7 d8 d9 hsp
  dsimp only at c0 c1 c2 c3 c4 c5 c6 c7 c8 c9 d0 d1 d2 d3 d4 d5 d6 d7 d8 d9
  unfold PlR.cells at hsp
  dsimp only at hsp
  rw [hqc]
  clear hbw4 hVW hWV hsee hb4 hqc hbx4 hz4 hb5 hlt4 hq2 hq5 hr5 hW4 hW5 hql
  go_wp2_with (first | (rw [HW4.out ()]; refine wpList_store_row rfl 26 (.tmp 8) (.tmp 33) rfl w4.heap.size qc rfl rfl 26 _ HZ4.out (by rw [HQL.out]; exact sizePl) (by rw [HQL.out]; rfl) hq1 ?_; rw [HW5.out ()]) | (go_at_call 12; refine (num_any 0 ⟨by decide, by decide⟩ _).mono ?_; rintro e w6 ⟨rfl, hw6⟩; rw [hw6]; clear hw6) | (go_at_call 16; refine hsp.mono ?_; rintro e w5 ⟨rfl, hb6⟩; have HB6 : Hid (Below W5.heap.size W5 w5) := hb6; clear hsp hb6 c0 c1 c2 c3 c4 c5 c6 c7 c8 c9 d0 d1 d2 d3 d4 d5 d6 d7 d8 d9))
  go_ret
  all_goals exact ⟨rfl, HBW5.out.trans (HB6.out.mono HBW5.out.size)⟩
end Go.Proofs.YtlmopjbfagijeaaGreatDoor.Sc

namespace Go.Proofs.YtlmopjbfagijeaaGreatDoor.Sc
open Go.RowKit Go.Lib Go.Deep

theorem printV_cases (p : PlR) (V : List ActV) (hV : VOk V) : (∃ t, printV p V = .tuple #[.string t, .int .i64 0]) ∨ ∃ c, 0 < c ∧ c < 1000 ∧ printV p V = .tuple #[.string { data := #[] }, .int .i64 c] := by
  unfold printV
  split
  · exact .inr ⟨225, by decide, by decide, rfl⟩
  · split
    · exact .inr ⟨221, by decide, by decide, rfl⟩
    · split
      · rename_i hf
        have h := firA_bd V hV
        exact .inr ⟨firA V, by omega, h.2, rfl⟩
      · split
        · exact .inr ⟨226, by decide, by decide, rfl⟩
        · exact .inl ⟨_, rfl⟩
/-- ScriptRound answers true -/
theorem round_any (p : PlR) (V : List ActV) (hok : p.Ok) (hV : VOk V) (hn : V.length = p.nacts) (B0 : Nat) (w : World) (hs : SeeV w p.acts V) (hG : GlB B0 w) :
    Calls Tryz.prog 4 #[.agg p.cells] w fun e w' => e = .returned (.bool true) ∧ Below w.heap.size w w' := by
  rcases printV_cases p V hV with ⟨t, ht⟩ | ⟨c, h0, h1, hc⟩
  · exact round_yes p V hok hV hn B0 w hs hG t ht (print_size p V hok hV t ht)
  · exact round_no p V hok hV hn B0 w hs hG c hc h0 h1
end Go.Proofs.YtlmopjbfagijeaaGreatDoor.Sc
