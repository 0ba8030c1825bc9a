import Derived.Test.YtcfmcjdgdpignaaDoorBnC
import Derived.Deep.RegionWith
namespace Go.Proofs.YtcfmcjdgdpignaaDoor
open Go.RowKit Go.Lib

set_option maxRecDepth 20000 in
set_option maxHeartbeats 4000000 in
theorem plays_again {w wr : World} {b : Nat} {V U : Nat → Option Nat} (h : Bn w wr b V U 4) (A F : Int) (s : ByteArray) (_hs : s.size ≤ 140737488355328) (ht : Tabs w) (hr : RTabs w) (h4 : 4 ≤ w.heap.size) :
    Calls Tryd.prog 14 #[.pointer (some ⟨b, 0, none⟩), .agg #[.int .i64 6, .int .i64 A, .int .i64 F, .string s]] wr fun e w' => e = .returned (.bool true) ∧ ∃ V' U', Bn w w' b V' U' 4 := by
  have HTT : Hid (∀ W, Below w.heap.size w W → Tabs W ∧ RTabs W ∧ 4 ≤ W.heap.size) := fun W h => ⟨ht.below h (by omega), hr.below h h4, by have := h.size; omega⟩
  have hN0 : Bn w (wr.alloc (.cells #[.int .i64 6, .int .i64 A, .int .i64 F, .string s] 44)) b V U 4 := h.below ((Below.refl _ _).alloc (Nat.le_refl _) _)
  have hO0 : Ob (wr.alloc (.cells #[.int .i64 6, .int .i64 A, .int .i64 F, .string s] 44)) wr.heap.size 6 A F s := heap_new _ _
  have g1 := hO0.c1
  have g2 := hO0.c2
  clear h ht hr
  go_enter Tryd.func14, Tryd.ntmps14
  go_wp2_with fail
  refine (place4_any A _).mono ?_
  rintro e w' ⟨⟨j, rfl, hj⟩, rfl⟩
  go_wp2_with fail
  refine (place4_any F _).mono ?_
  rintro e w' ⟨⟨m, rfl, hm⟩, rfl⟩
  clear g1 g2
  revert hN0 hO0
  generalize wr.alloc (.cells #[.int .i64 6, .int .i64 A, .int .i64 F, .string s] 44) = w0
  generalize wr.heap.size = o
  intro hN hO
  clear wr
  have c0 := hO.c0
  have c3 := hO.c3
  have HN : Hid (Bn w w0 b V U 4) := hN
  have HO : Hid (Ob w0 o 6 A F s) := hO
  have hjI : (j : Int) < 4 := by omega
  have hmI : (m : Int) < 4 := by omega
  clear hN hO
  have hpl := HN.out.pl m hm (by omega)
  have q1 := HN.out.ownAt m hm
  have q2 := HN.out.refAt m hm
  cases hV : V m with
  | none =>
    cases hU : U m with
    | none =>
      rw [hV] at q1
      rw [hU] at q2
      have c5 : w0.cell? ⟨b, m, none⟩ = some (.pointer none) := q1
      have c6 : w0.cell? ⟨b, 4 + m, none⟩ = some (.pointer none) := q2
      clear q1 q2 hpl
      go_wp2_with (go_at_call 7; refine (state_nil _).mono ?_; rintro e w' ⟨rfl, rfl⟩)
      go_ret
      exact ⟨rfl, V, U, HN.out⟩
    | some q => rw [hV, hU] at hpl; exact hpl.elim
  | some p =>
    cases hU : U m with
    | none => rw [hV, hU] at hpl; exact hpl.elim
    | some q =>
      rw [hV] at q1
      rw [hU] at q2
      have c5 : w0.cell? ⟨b, m, none⟩ = some (.pointer (some ⟨p, 0, none⟩)) := q1
      have c6 : w0.cell? ⟨b, 4 + m, none⟩ = some (.pointer (some ⟨q, 0, none⟩)) := q2
      rw [hV, hU] at hpl
      obtain ⟨f, ah, t, hP⟩ := hpl
      have hst := state_any hP.hs
      have HP : Hid (Pair w0 p q f ah t) := hP
      have HST : Hid (∀ W, Below w0.heap.size w0 W → Calls Tryd.prog 27 #[.pointer (some ⟨q, 0, none⟩)] W fun e w' => e = .returned (.string (str (stateL (eat f t.data.toList).1 (eat f t.data.toList).2 (ah + t.size)))) ∧ Below W.heap.size W w') := fun W hb => by
        have hB := HN.out.bel.trans (hb.mono HN.out.bel.size)
        exact rstateh_any (HP.out.rh.below hb HP.out.rh.lt) HP.out.ok HP.out.le (HTT.out W hB).2.1 (HTT.out W hB).2.2
      have HSZ : Hid ((str (stateL (eat f t.data.toList).1 (eat f t.data.toList).2 (ah + t.size))).size ≤ 9223372036854775807) := by
        show _ ≤ _
        rw [str_size, stateL_length, eat_length]
        omega
      have HLA : Hid (∀ W, Below w0.heap.size w0 W → Calls Tryd.prog 26 #[.pointer (some ⟨b, 0, none⟩), .int .i64 (j : Int), .string (str (stateL (eat f t.data.toList).1 (eat f t.data.toList).2 (ah + t.size)))] W fun e w' => e = .returned (.bool true) ∧ ∃ V' U', Bn w w' b V' U' 4) := fun W hb => by
        have hB := HN.out.below hb
        exact lay_any hB j hj _ HSZ.out (HTT.out W hB.bel).1 (HTT.out W hB.bel).2.2
      clear q1 q2 hP HP HSZ
      generalize str (stateL (eat f t.data.toList).1 (eat f t.data.toList).2 (ah + t.size)) = Y at hst HST HLA
      go_wp2_with fail
      refine hst.mono ?_
      rintro e w1 ⟨rfl, hb1⟩
      have c7 : w1.cell? ⟨b, 4 + m, none⟩ = some (.pointer (some ⟨q, 0, none⟩)) := by
        have h := (HN.out.below hb1).refAt m hm
        rwa [hU] at h
      have hz1 := hb1.size
      have h1 := HST.out w1 hb1
      have HB1 : Hid (Below w0.heap.size w0 w1) := hb1
      clear hst c5 c6 hb1
      go_wp2_with (first | (go_at_call 27; refine h1.mono ?_; rintro e w2 ⟨rfl, hb2⟩; have h2 := HLA.out w2 (HB1.out.trans (hb2.mono hz1))) | (go_at_call 26; refine h2.mono ?_; rintro e w3 ⟨rfl, hF⟩))
      go_ret
      exact ⟨rfl, hF⟩

end Go.Proofs.YtcfmcjdgdpignaaDoor
