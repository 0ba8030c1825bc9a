import Derived.Test.YthmjjpaengackaaPoF
namespace Go.Proofs.Ythmjjpaengackaa.Po
open Go.RowKit Go.Lib Go.Deep

theorem nsC_len (l : List Nat) : (nsC l).length = l.length := by simp [nsC]
theorem nsC_one (l : List Nat) : ∀ u ∈ nsC l, u.oneCell' = true := fun u hu => by
  obtain ⟨s, _, rfl⟩ := List.mem_map.1 hu
  rfl
theorem nsC_append (a b : List Nat) : nsC (a ++ b) = nsC a ++ nsC b := by simp [nsC]
theorem nsC_at {l : List Nat} {j : Nat} {u : Value} (h : (nsC l)[j]? = some u) : ∃ n, l[j]? = some n ∧ u = .int .i64 (n : Int) := by
  unfold nsC at h
  rw [List.getElem?_map] at h
  obtain ⟨s, hs, rfl⟩ := Option.map_eq_some_iff.1 h
  exact ⟨s, hs, rfl⟩
/-- a part of a row of numbers -/
theorem see_part {w : World} {B g cap : Nat} {room : List Nat} (h : w.ownsRow B 3 1 (.slice (some ⟨g, 0, none⟩) room.length cap) room.length (nsC room)) (lo hi c : Nat) (h1 : lo ≤ hi) (h2 : hi ≤ room.length) (hc : hi - lo ≤ c) : See w 1 (.slice (some ⟨g, lo, none⟩) (hi - lo) c) (hi - lo) (nsC ((room.take hi).drop lo)) := by
  refine ⟨by rw [nsC_len, List.length_drop, List.length_take]; omega, nsC_one _, _, _, rfl, hc, fun e => (by cases e), fun _ => ⟨g, lo, rfl, (h.lt g rfl).2, fun j u hu => ?_⟩⟩
  obtain ⟨n, hn, rfl⟩ := nsC_at hu
  rw [List.getElem?_drop, List.getElem?_take] at hn
  split at hn
  · rename_i hlt
    have h3 := some_lt hn
    rw [h.cellAt (lo + j) (by omega)]
    unfold nsC
    rw [List.getElem?_map, hn]
    rfl
  · cases hn
set_option maxRecDepth 20000 in
set_option maxHeartbeats 1000000 in
theorem list_some (w : World) (q g cap h : Nat) (room Q : List Nat) (c4 : w.cell? ⟨q, 4, none⟩ = some (.slice (some ⟨g, 0, none⟩) room.length cap)) (c5 : w.cell? ⟨q, 5, none⟩ = some (.int .i64 (h : Int))) (c6 : w.cell? ⟨q, 6, none⟩ = some (.int .i64 (Q.length : Int)))
    (hm : w.ownsRow 0 3 1 (.slice (some ⟨g, 0, none⟩) room.length cap) room.length (nsC room)) (hr : Rng room h Q) (hl : room.length ≤ 200000) (hh : h ≤ room.length) (i3 : ¬ cap = h) (i4 : ¬ cap = 0) :
    Calls Try.prog 51 #[.pointer (some ⟨q, 4, none⟩)] w fun e w' => ∃ v, e = .returned v ∧ w'.ownsRow w.heap.size 3 1 v Q.length (nsC Q) ∧ Below w.heap.size w w' := by
  have hcap : room.length ≤ cap := by
    rcases hm.2 with ⟨q1, _⟩ | ⟨g1, cap1, cur1, q1, q2, q3, q4, _⟩
    · cases q1
    · cases q1; exact q4
  have hle := hr.le
  obtain ⟨hi, hhi⟩ : ∃ hi, min (h + Q.length) room.length = hi := ⟨_, rfl⟩
  have hQ := hr.list
  rw [hhi] at hQ
  have s1 := fun (W : World) (hb : Below w.heap.size w W) => see_part (owns_below hm hb) h hi (cap - h) (by omega) (by omega) (by omega)
  have s2 := fun (W : World) (hb : Below w.heap.size w W) => see_part (owns_below hm hb) 0 (Q.length - (hi - h)) cap (by omega) (by omega) (by omega)
  simp only [Nat.sub_zero, List.drop_zero] at s2
  have HC : Hid (∀ (W : World) (v1 v2 : Value), v1 = .slice (some ⟨g, h, none⟩) (hi - h) (cap - h) → v2 = .slice (some ⟨g, 0, none⟩) (Q.length - (hi - h)) cap → Below w.heap.size w W → Calls Try.prog 70 #[.slice (some ⟨W.heap.size, 0, none⟩) 2 2] (W.alloc (.cells #[v1, v2] 23)) fun e w' => ∃ v, e = .returned v ∧ Hid (w'.ownsRow w.heap.size 3 1 v Q.length (nsC Q)) ∧ Hid (Below w.heap.size w w')) := fun W v1 v2 e1 e2 hb => by
    have hb2 : Below w.heap.size w (W.alloc (.cells #[v1, v2] 23)) := hb.alloc hb.size _
    have k := heap_new W (.cells #[v1, v2] 23)
    subst e1 e2
    refine (concat_any _ W.heap.size _ _ (hi - h) (Q.length - (hi - h)) _ _ ((cell_of_heap k).trans rfl) ((cell_of_heap k).trans rfl) (s1 _ hb2) (s2 _ hb2) (by omega)).mono ?_
    rintro e w' ⟨v, rfl, h3, h4⟩
    rw [← nsC_append, hQ, show hi - h + (Q.length - (hi - h)) = Q.length by omega] at h3
    exact ⟨v, rfl, owns_base h3 hb2.size, hb2.trans (h4.mono hb2.size)⟩
  have B0 : Hid (∀ j, Below w.heap.size w (w.drewN j)) := fun j => bdr (Below.refl _ _) j
  have i1 : (h : Int) ≤ (hi : Int) := by omega
  have i2 : (hi : Int) ≤ (cap : Int) := by omega
  have i5 : (((Q.length - (hi - h) : Nat)) : Int) ≤ (cap : Int) := by omega
  have w2 : IntKind.i64.wrap ((Q.length : Int) - ((hi - h : Nat) : Int)) = ((Q.length - (hi - h) : Nat) : Int) := by rw [IntKind.wrap_i64]; omega
  have w1 : IntKind.i64.wrap ((h : Int) + (Q.length : Int)) = (h : Int) + (Q.length : Int) := by rw [IntKind.wrap_i64]; omega
  have wm : min ((h : Int) + (Q.length : Int)) (room.length : Int) = (hi : Int) := by omega
  generalize hN : Q.length = N at *
  generalize hM : room.length = M at *
  clear hm hr s1 s2 hQ
  go_enter Try.func51, Try.ntmps51
  go_wp2_with fail
  go_quiet (fail)
  generalize hA : hi - h = A at *
  generalize hL : N - A = L at *
  clear hhi wm hle hh hcap hl hN hM hA hL
  go_wp2_with fail
  go_region_with (go_at_call 70; refine (HC.out _ _ _ rfl rfl (B0.out _)).mono ?_; rintro e w3 ⟨v, rfl, hO, hBB⟩)
  all_goals
    go_wp2
    go_ret
    exact ⟨_, rfl, hO.out, hBB.out⟩
set_option maxRecDepth 20000 in
set_option maxHeartbeats 1000000 in
theorem list_zero (w : World) (q : Nat) (a : Option Addr) (hg : ∀ x, a = some x → ∃ g, x = ⟨g, 0, none⟩) (c4 : w.cell? ⟨q, 4, none⟩ = some (.slice a 0 0)) (c5 : w.cell? ⟨q, 5, none⟩ = some (.int .i64 0)) (c6 : w.cell? ⟨q, 6, none⟩ = some (.int .i64 0)) :
    Calls Try.prog 51 #[.pointer (some ⟨q, 4, none⟩)] w fun e w' => ∃ v, e = .returned v ∧ w'.ownsRow w.heap.size 3 1 v 0 [] ∧ Below w.heap.size w w' := by
  have HC : Hid (∀ (W : World), Below w.heap.size w W → Calls Try.prog 70 #[.slice (some ⟨W.heap.size, 0, none⟩) 2 2] (W.alloc (.cells #[.slice a 0 0, .slice a 0 0] 23)) fun e w' => ∃ v, e = .returned v ∧ Hid (w'.ownsRow w.heap.size 3 1 v 0 []) ∧ Hid (Below w.heap.size w w')) := fun W hb => by
    have hb2 : Below w.heap.size w (W.alloc (.cells #[.slice a 0 0, .slice a 0 0] 23)) := hb.alloc hb.size _
    have k := heap_new W (.cells #[.slice a 0 0, .slice a 0 0] 23)
    have s0 : ∀ V, See V 1 (.slice a 0 0) 0 [] := fun V => ⟨rfl, fun u hu => (by cases hu), a, 0, rfl, Nat.zero_le _, fun _ => rfl, fun h => (by omega)⟩
    refine (concat_any _ W.heap.size _ _ 0 0 _ _ ((cell_of_heap k).trans rfl) ((cell_of_heap k).trans rfl) (s0 _) (s0 _) (by omega)).mono ?_
    rintro e w' ⟨v, rfl, h3, h4⟩
    exact ⟨v, rfl, owns_base h3 hb2.size, hb2.trans (h4.mono hb2.size)⟩
  have B0 : Hid (∀ j, Below w.heap.size w (w.drewN j)) := fun j => bdr (Below.refl _ _) j
  cases a with
  | none =>
    clear hg
    go_enter Try.func51, Try.ntmps51
    go_wp2_with fail
    go_quiet (fail)
    go_wp2_with fail
    go_region_with (go_at_call 70; refine (HC.out _ (B0.out _)).mono ?_; rintro e w3 ⟨v, rfl, hO, hBB⟩)
    all_goals
      go_wp2
      go_ret
      exact ⟨_, rfl, hO.out, hBB.out⟩
  | some x =>
    obtain ⟨g, rfl⟩ := hg x rfl
    clear hg
    go_enter Try.func51, Try.ntmps51
    go_wp2_with fail
    go_quiet (fail)
    go_wp2_with fail
    go_region_with (go_at_call 70; refine (HC.out _ (B0.out _)).mono ?_; rintro e w3 ⟨v, rfl, hO, hBB⟩)
    all_goals
      go_wp2
      go_ret
      exact ⟨_, rfl, hO.out, hBB.out⟩
theorem list_any (w : World) (q h : Nat) (mv : Value) (room Q : List Nat) (c4 : w.cell? ⟨q, 4, none⟩ = some mv) (c5 : w.cell? ⟨q, 5, none⟩ = some (.int .i64 (h : Int))) (c6 : w.cell? ⟨q, 6, none⟩ = some (.int .i64 (Q.length : Int)))
    (hm : w.ownsRow 0 3 1 mv room.length (nsC room)) (hr : Rng room h Q) (hl : room.length ≤ 200000) :
    Calls Try.prog 51 #[.pointer (some ⟨q, 4, none⟩)] w fun e w' => ∃ v, e = .returned v ∧ w'.ownsRow w.heap.size 3 1 v Q.length (nsC Q) ∧ Below w.heap.size w w' := by
  have hcp : ∀ g cap, mv = .slice (some ⟨g, 0, none⟩) room.length cap → room.length ≤ cap := fun g cap e => by
    rcases hm.2 with ⟨q1, _⟩ | ⟨g1, cap1, cur1, q1, q2, q3, q4, _⟩
    · rw [e] at q1; cases q1
    · rw [e] at q1; cases q1; exact q4
  rcases hr.hm with hh | ⟨rfl, rfl⟩
  · obtain ⟨g, cap, rfl⟩ := owns_form2 hm (by omega)
    have := hcp g cap rfl
    exact list_some w q g cap h room Q c4 c5 c6 hm hr hl (by omega) (by omega) (by omega)
  · rcases hm.2 with ⟨rfl, _⟩ | ⟨g, cap, cur, rfl, _⟩
    · have hq : Q = [] := List.eq_nil_of_length_eq_zero (by have := hr.le; simpa using this)
      subst hq
      exact list_zero w q none (fun x e => by cases e) c4 c5 c6
    · rcases Nat.eq_zero_or_pos cap with rfl | hc
      · have hq : Q = [] := List.eq_nil_of_length_eq_zero (by have := hr.le; simpa using this)
        subst hq
        exact list_zero w q _ (fun x e => ⟨g, (Option.some.inj e).symm⟩) c4 c5 c6
      · exact list_some w q g cap 0 [] Q c4 c5 c6 hm hr hl (by omega) (by omega) (by omega)
end Go.Proofs.Ythmjjpaengackaa.Po
