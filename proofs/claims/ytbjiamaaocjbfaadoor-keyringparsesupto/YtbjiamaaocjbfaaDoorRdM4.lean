import Derived.Test.YtbjiamaaocjbfaaDoorRdM3
import Derived.Test.YtbjiamaaocjbfaaDoorKoM
namespace Go.Proofs.YtbjiamaaocjbfaaDoor.Kp
open Go.RowKit Go.Lib Go.Deep Kr

theorem results_cell1 {P : Program} {fn : Func} {p : Tmp} {ty : TypeId} (h : fn.results = #[.cell p ty]) (tmps : Array Value) (w : World) (g : Nat) (t : TypeId) (cs : Array Value) (fr : Nat × Nat) (d : TypeDesc)
    (hp : tmps.getD p undef = .pointer (some ⟨g, 0, none⟩)) (hg : w.heap[g]? = some (.cells cs t fr)) (hu : P.underlying ty = some d) (hd : (match d with | .struct _ | .array _ _ => true | _ => false) = true) (hi : (P.info? ty).map (·.size) = some cs.size) :
    (results fn tmps).run P w = .ok (.agg cs) w := by
  have hp' : tmps[p]?.getD undef = .pointer (some ⟨g, 0, none⟩) := by simpa using hp
  simp [results, h, hp', asAddr, run_loadVar_row w g t ty cs fr d hg hu hd hi]
theorem rd_alloc {w : World} {p : Nat} {T rest : List UInt8} (h : Rd w p T rest) (o : Obj) : Rd (w.alloc o) p T rest := rd_below h ((Below.refl _ _).alloc (Nat.le_refl _) _)
theorem only_alloc (S : List Nat) (w : World) (o : Obj) : Only S w (w.alloc o) := (Only.refl _ _).alloc o
theorem only_new {S : List Nat} {a w : World} (h : Only S a w) {q : Addr} (hq : a.heap.size ≤ q.block) (u : Value) : Only S a (w.setCell q u) :=
  ⟨h.os, h.tape, h.output, by have := h.size; simpa [World.setCell] using this, fun k hk hs => (Below.heap_setCell _ _ _ _ (by omega)).trans (h.block k hk hs)⟩
theorem rd_set {w : World} {p : Nat} {T rest : List UInt8} (h : Rd w p T rest) {q : Addr} (hne : q.block ≠ p) (u : Value) : Rd (w.setCell q u) p T rest := by
  obtain ⟨pre, h1, h2⟩ := h
  exact ⟨pre, h1, (Below.heap_setCell _ _ _ _ (Ne.symm hne)).trans h2⟩
/-- a block that no reading turns -/
theorem only_block {w w' : World} {p q : Nat} {o : Obj} (h : Only [p] w w') (hq : w.heap[q]? = some o) (hne : q ≠ p) : w'.heap[q]? = some o := (h.block q (Array.getElem?_eq_some_iff.1 hq).1 (by simp [hne])).trans hq

set_option maxRecDepth 20000 in
set_option maxHeartbeats 2000000 in
theorem readSlot_any (p : Nat) (T rest : List UInt8) (w : World) (hR : Rd w p T rest) (hT : T.length ≤ 4194304) :
    Calls Tryd.prog 44 #[.pointer (some ⟨p, 0, none⟩)] w (RdPost p T ((slotR rest).map fun x => (slotV x.1, x.2)) w) := by
  have hp := (rd_len hR).2
  have c0 := fieldI_any { data := #[115, 108, 111, 116, 32] } { data := #[32] } p T rest (w.alloc (.cells #[.string { data := #[] }, .int .i64 0, .string { data := #[] }] 26)) (rd_alloc hR _) hT
  rw [show ({ data := #[115, 108, 111, 116, 32] } : ByteArray).data.toList = kSlot ++ [32] from rfl, show ({ data := #[32] } : ByteArray).data.toList = [32] from rfl] at c0
  have HA : Hid (Only [p] w (w.alloc (.cells #[.string { data := #[] }, .int .i64 0, .string { data := #[] }] 26))) := only_alloc _ _ _
  have hq : ((w.alloc (.cells #[.string { data := #[] }, .int .i64 0, .string { data := #[] }] 26))).heap[w.heap.size]? = some (.cells #[.string { data := #[] }, .int .i64 0, .string { data := #[] }] 26 (0, 0)) := heap_new _ _
  have hqp : w.heap.size ≠ p := by omega
  have HQ : Hid _ := hq
  have HC1 : Hid (∀ W r, Rd W p T r → Calls Tryd.prog 40 #[.pointer (some ⟨p, 0, none⟩), .string { data := #[] }, .func (.func 41) #[.pointer (some ⟨p, 0, none⟩)] #[], .string { data := #[32] }] W (RdPost p T ((fieldR [] bytR [32] r).map fun x => (.string (str x.1), x.2)) W)) := fun W r h => fieldS_any { data := #[] } { data := #[32] } p T r W h hT
  have HC2 : Hid (∀ W r, Rd W p T r → Calls Tryd.prog 40 #[.pointer (some ⟨p, 0, none⟩), .string { data := #[] }, .func (.func 41) #[.pointer (some ⟨p, 0, none⟩)] #[], .string { data := #[10] }] W (RdPost p T ((fieldR [] bytR [10] r).map fun x => (.string (str x.1), x.2)) W)) := fun W r h => fieldS_any { data := #[] } { data := #[10] } p T r W h hT
  clear hR hq
  cases e0 : fieldR (kSlot ++ [32]) numR [32] rest with
  | none =>
    have e : slotR rest = none := by unfold slotR; rw [e0]
    rw [e0] at c0
    rw [e]
    clear e e0
    go_enter Tryd.func44, Tryd.ntmps44
    go_wp2_with fail
    refine c0.mono ?_
    rintro e w1 ⟨ho, rfl⟩
    exact ⟨rfl, RdPost.none (HA.out.trans ho) rfl⟩
  | some x0 =>
    obtain ⟨n, r0⟩ := x0
    rw [e0] at c0
    cases e1 : fieldR [] bytR [32] r0 with
    | none =>
      have e : slotR rest = none := by unfold slotR; rw [e0]; simp only [e1]
      rw [e]
      clear e e0
      go_enter Tryd.func44, Tryd.ntmps44
      go_wp2_with fail
      refine c0.mono ?_
      rintro e w1 ⟨ho, rfl, hr1⟩
      have c1 := HC1.out w1 r0 hr1
      rw [e1] at c1
      have HO : Hid _ := HA.out.trans ho
      clear ho hr1 e1 c0
      go_wp2_with fail
      refine c1.mono ?_
      rintro e w2 ⟨ho2, rfl⟩
      exact ⟨rfl, RdPost.none (HO.out.trans ho2) rfl⟩
    | some x1 =>
      obtain ⟨sa, r1⟩ := x1
      cases e2 : fieldR [] bytR [10] r1 with
      | none =>
        have e : slotR rest = none := by unfold slotR; rw [e0]; simp only [e1, e2]
        rw [e]
        clear e e0
        go_enter Tryd.func44, Tryd.ntmps44
        go_wp2_with fail
        refine c0.mono ?_
        rintro e w1 ⟨ho, rfl, hr1⟩
        have c1 := HC1.out w1 r0 hr1
        rw [e1] at c1
        have HO : Hid _ := HA.out.trans ho
        clear ho hr1 e1 c0
        go_wp2_with fail
        refine c1.mono ?_
        rintro e w2 ⟨ho2, rfl, hr2⟩
        have c2 := HC2.out w2 r1 hr2
        rw [e2] at c2
        have HO2 : Hid _ := HO.out.trans ho2
        clear ho2 hr2 e2 c1
        generalize str sa = saS
        go_wp2_with fail
        refine c2.mono ?_
        rintro e w3 ⟨ho3, rfl⟩
        exact ⟨rfl, RdPost.none (HO2.out.trans ho3) rfl⟩
      | some x2 =>
        obtain ⟨wr, r2⟩ := x2
        have e : slotR rest = some (⟨sa, n, wr⟩, r2) := by unfold slotR; rw [e0]; simp only [e1, e2]
        rw [e]
        show Calls _ _ _ _ (RdPost p T (some (.agg #[.string (str sa), .int .i64 (n : Int), .string (str wr)], r2)) w)
        clear e e0
        go_enter Tryd.func44, Tryd.ntmps44
        go_wp2_with fail
        refine c0.mono ?_
        rintro e w1 ⟨ho, rfl, hr1⟩
        have c1 := HC1.out w1 r0 hr1
        rw [e1] at c1
        have HO : Hid _ := HA.out.trans ho
        have HQ1 : Hid _ := only_block ho HQ.out hqp
        clear ho hr1 e1 c0
        go_wp2_with fail
        refine c1.mono ?_
        rintro e w2 ⟨ho2, rfl, hr2⟩
        have c2 := HC2.out w2 r1 hr2
        rw [e2] at c2
        have HO2 : Hid _ := HO.out.trans ho2
        have HQ2 : Hid _ := only_block ho2 HQ1.out hqp
        clear ho2 hr2 e2 c1
        go_wp2_with fail
        refine c2.mono ?_
        rintro e w3 ⟨ho3, rfl, hr3⟩
        have HO3 : Hid _ := HO2.out.trans ho3
        have hq3 := only_block ho3 HQ2.out hqp
        have HR3 : Hid _ := hr3
        have HQ3 : Hid _ := hq3
        have f0 : w3.frozen? ⟨w.heap.size, 0, none⟩ = false := frozen_of_heap hq3
        have f1 : w3.frozen? ⟨w.heap.size, 1, none⟩ = false := frozen_of_heap hq3
        have f2 : w3.frozen? ⟨w.heap.size, 2, none⟩ = false := frozen_of_heap hq3
        have g0 : w3.cell? ⟨w.heap.size, 0, none⟩ = some (.string { data := #[] }) := by rw [cell_of_heap hq3]; rfl
        have g1 : w3.cell? ⟨w.heap.size, 1, none⟩ = some (.int .i64 0) := by rw [cell_of_heap hq3]; rfl
        have g2 : w3.cell? ⟨w.heap.size, 2, none⟩ = some (.string { data := #[] }) := by rw [cell_of_heap hq3]; rfl
        clear ho3 hr3 hq3 c2
        go_wp2
        refine bodyPost_ret (results_cell1 rfl _ _ w.heap.size 26 _ (0, 0) _ rfl (put3 HQ3.out) Tryd.underlying26 rfl sizeSlot) rfl ?_
        exact RdPost.some (only_new (only_new (only_new HO3.out (Nat.le_refl _) _) (Nat.le_refl _) _) (Nat.le_refl _) _) rfl (rd_set (rd_set (rd_set HR3.out hqp _) hqp _) hqp _)

end Go.Proofs.YtbjiamaaocjbfaaDoor.Kp

namespace Go.Proofs.YtbjiamaaocjbfaaDoor.Kp
open Go.RowKit Go.Lib Go.Deep Kr

theorem areRounds_any (r : Int) (w : World) : Calls Tryd.prog 28 #[.int .i64 r] w fun e w' => e = .returned (.bool (decide (1 ≤ r ∧ r ≤ 4096))) ∧ w' = w := by
  by_cases h1 : 1 ≤ r
  · by_cases h2 : r ≤ 4096
    · rw [decide_eq_true ⟨h1, h2⟩]
      go_enter Tryd.func28, Tryd.ntmps28
      go_wp2
      go_ret
      exact ⟨rfl, rfl⟩
    · rw [decide_eq_false (by omega)]
      go_enter Tryd.func28, Tryd.ntmps28
      go_wp2
      go_ret
      exact ⟨rfl, rfl⟩
  · rw [decide_eq_false (by omega)]
    go_enter Tryd.func28, Tryd.ntmps28
    go_wp2
    go_ret
    exact ⟨rfl, rfl⟩

set_option maxRecDepth 20000 in
set_option maxHeartbeats 1000000 in
theorem isRing_any (id : List UInt8) (v : Value) (ss : List Slot) (w : World) (hS : SeeS w v ss) (_hid : id.length ≤ 9223372036854775807) (hn : ss.length ≤ 9223372036854775807) :
    Calls Tryd.prog 12 #[.agg #[.string (str id), v]] w fun e w' => e = .returned (.bool (rightR id ss)) ∧ Below w.heap.size w w' := by
  obtain ⟨a, b, off, cap, rfl, h2, h3⟩ := hS.ex
  clear hS
  have H3 : Hid (∀ j u, (ringCells ss)[j]? = some u → w.cell? ⟨b, off + j, none⟩ = some u) := h3
  clear h3
  obtain ⟨n, hnn⟩ : ∃ n, ss.length = n := ⟨_, rfl⟩
  rw [hnn] at hn h2 ⊢
  obtain ⟨R, hR⟩ : ∃ R, rightR id ss = R := ⟨_, rfl⟩
  have HR : Hid (rightR id ss = R) := hR
  rw [hR]
  clear hR
  have hsz : (str id).size = id.length := str_size id
  obtain ⟨m, hm⟩ : ∃ m, id.length = m := ⟨_, rfl⟩
  rw [hm] at hsz
  by_cases h16 : m = 16
  · have j1 : (m : Int) = 16 := by omega
    by_cases hn1 : n < 1
    · have j2 : (n : Int) < 1 := by omega
      have hR1 : R = false := by rw [← HR.out]; unfold rightR; rw [decide_eq_false (by omega)]; rfl
      subst hR1
      generalize str id = yi at hsz
      go_enter Tryd.func12, Tryd.ntmps12
      go_wp2
      go_ret
      exact ⟨rfl, (Below.refl _ _).alloc (Nat.le_refl _) _⟩
    have j2 : ¬ (n : Int) < 1 := by omega
    by_cases hn8 : 8 < n
    · have j3 : (8 : Int) < (n : Int) := by omega
      have hR1 : R = false := by rw [← HR.out]; unfold rightR; rw [decide_eq_false (by omega)]; rfl
      subst hR1
      generalize str id = yi at hsz
      go_enter Tryd.func12, Tryd.ntmps12
      go_wp2
      go_ret
      exact ⟨rfl, (Below.refl _ _).alloc (Nat.le_refl _) _⟩
    have j3 : ¬ (8 : Int) < (n : Int) := by omega
    obtain ⟨rfl, hbw⟩ := h2 (by omega)
    have HL : Hid (ss.length = n) := hnn
    have HD : Hid (rightR id ss = ss.all slotOK) := by
      show _ = _
      unfold rightR
      rw [decide_eq_true (by omega)]
      rfl
    clear hnn hm
    have HA0 : Hid ((w.alloc (.cells #[.string (str id), .slice (some ⟨b, off, none⟩) n cap] 24)).heap[w.heap.size]? = some (.cells #[.string (str id), .slice (some ⟨b, off, none⟩) n cap] 24 (0, 0))) := heap_new _ _
    generalize str id = yi at hsz HA0
    go_enter Tryd.func12, Tryd.ntmps12
    go_wp2
    go_loopg [4, 24] n (fun gk _ i wr => ∃ k : Nat, k + gk = n ∧ i = .int .i64 (k : Int) ∧ Hid ((ss.take k).all slotOK = true) ∧ Below w.heap.size w wr)
    case atStart => exact ⟨0, by omega, rfl, by show _ = _; simp, (Below.refl _ _).alloc (Nat.le_refl _) _⟩
    case round =>
      clear HA0
      obtain ⟨k, hk, rfl, HV, hbel⟩ := hrel
      have HK : Hid (k + gk = n) := hk
      have hk' : k ≤ n := by omega
      clear hk
      by_cases hlt : k < n
      · have hltI : (k : Int) < (n : Int) := by omega
        obtain ⟨s, hs⟩ : ∃ s, ss[k]? = some s := ⟨_, List.getElem?_eq_getElem (by have := HL.out; omega)⟩
        obtain ⟨a0, a1, a2⟩ := ring_at ss k s hs
        have c0 := (hbel.cell (p := ⟨b, off + k * 3, none⟩) hbw).trans (H3.out _ _ a0)
        have c1 := (hbel.cell (p := ⟨b, off + (k * 3 + 1), none⟩) hbw).trans (H3.out _ _ a1)
        have c2 := (hbel.cell (p := ⟨b, off + (k * 3 + 2), none⟩) hbw).trans (H3.out _ _ a2)
        rw [← Nat.add_assoc] at c1 c2
        clear a0 a1 a2
        have hz0 : (str s.salt).size = s.salt.length := str_size _
        have hz2 : (str s.wrapped).size = s.wrapped.length := str_size _
        have hb7 : Below w.heap.size w (wr.alloc (.cells #[.string (str s.salt), .int .i64 s.rounds, .string (str s.wrapped)] 26)) := hbel.alloc hbel.size _
        have HB : Hid (slotOK s = false → R = false) := fun h => by rw [← HR.out]; exact right_bad hs h
        have HG : Hid (slotOK s = true → (ss.take (k + 1)).all slotOK = true) := fun h => by
          rw [List.take_add_one, hs, List.all_append, HV.out]
          simp [h]
        have HO : Hid (slotOK s = decide (s.salt.length = 16 ∧ 1 ≤ s.rounds ∧ s.rounds ≤ 4096 ∧ s.wrapped.length = 72)) := rfl
        generalize slotOK s = ok at HB HG HO
        clear hs hbel
        generalize str s.salt = xa at c0 hz0 hb7
        generalize str s.wrapped = xc at c2 hz2 hb7
        generalize s.salt.length = la at hz0 HO
        generalize s.wrapped.length = lc at hz2 HO
        generalize s.rounds = xb at c1 hb7 HO
        by_cases q1 : la = 16
        · have q1I : (la : Int) = 16 := by omega
          by_cases q2 : xb < 1
          · have hok : ok = false := by rw [HO.out]; exact decide_eq_false (by omega)
            have hR1 := HB.out hok
            subst hR1
            have har : decide (1 ≤ xb ∧ xb ≤ 4096) = false := decide_eq_false (by omega)
            go_wp2_with (first | (go_at_call 28; refine (areRounds_any _ _).mono ?_; rintro e w' ⟨rfl, rfl⟩; rw [har]))
            go_ret
            exact ⟨rfl, hb7⟩
          · by_cases q3 : 4096 < xb
            · have hok : ok = false := by rw [HO.out]; exact decide_eq_false (by omega)
              have hR1 := HB.out hok
              subst hR1
              have har : decide (1 ≤ xb ∧ xb ≤ 4096) = false := decide_eq_false (by omega)
              go_wp2_with (first | (go_at_call 28; refine (areRounds_any _ _).mono ?_; rintro e w' ⟨rfl, rfl⟩; rw [har]))
              go_ret
              exact ⟨rfl, hb7⟩
            · by_cases q4 : lc = 72
              · have q4I : (lc : Int) = 72 := by omega
                have hok : ok = true := by rw [HO.out]; exact decide_eq_true (by omega)
                have HG2 : Hid ((ss.take (k + 1)).all slotOK = true) := HG.out hok
                clear hok HG HB HO
                have har : decide (1 ≤ xb ∧ xb ≤ 4096) = true := decide_eq_true (by omega)
                go_wp2_with (first | (go_at_call 28; refine (areRounds_any _ _).mono ?_; rintro e w' ⟨rfl, rfl⟩; rw [har]))
                go_roundg (gk - 1)
                case measure => have := HK.out; omega
                case rel => exact ⟨k + 1, by have := HK.out; omega, by go_num, HG2, hb7⟩
              · have q4I : ¬ (lc : Int) = 72 := by omega
                have hok : ok = false := by rw [HO.out]; exact decide_eq_false (by omega)
                have hR1 := HB.out hok
                subst hR1
                have har : decide (1 ≤ xb ∧ xb ≤ 4096) = true := decide_eq_true (by omega)
                go_wp2_with (first | (go_at_call 28; refine (areRounds_any _ _).mono ?_; rintro e w' ⟨rfl, rfl⟩; rw [har]))
                go_ret
                exact ⟨rfl, hb7⟩
        · have q1I : ¬ (la : Int) = 16 := by omega
          have hok : ok = false := by rw [HO.out]; exact decide_eq_false (by omega)
          have hR1 := HB.out hok
          subst hR1
          go_wp2
          go_ret
          exact ⟨rfl, hb7⟩
      · obtain rfl : k = n := by omega
        have hR1 : R = true := by
          have h := HV.out
          rw [List.take_of_length_le (by have := HL.out; omega)] at h
          rw [← HR.out, HD.out, h]
        subst hR1
        have hltI : ¬ (k : Int) < (k : Int) := by omega
        clear HR HD HV
        go_wp2
        go_ret
        exact ⟨rfl, hbel⟩
  · have j1 : ¬ (m : Int) = 16 := by omega
    have hR1 : R = false := by rw [← HR.out]; unfold rightR; rw [decide_eq_false (by omega)]; rfl
    subst hR1
    generalize str id = yi at hsz
    go_enter Tryd.func12, Tryd.ntmps12
    go_wp2
    go_ret
    exact ⟨rfl, (Below.refl _ _).alloc (Nat.le_refl _) _⟩

end Go.Proofs.YtbjiamaaocjbfaaDoor.Kp
