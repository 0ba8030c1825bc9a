import Derived.Test.YtcfmcjdgdpignaaDoorBnC
import Derived.Deep.RegionWith
namespace Go.Proofs.YtcfmcjdgdpignaaDoor
open Go.RowKit Go.Lib

set_option maxRecDepth 20000 in
set_option maxHeartbeats 4000000 in
theorem plays_sum {w wr : World} {b : Nat} {V U : Nat → Option Nat} (h : Bn w wr b V U 4) (A F : Int) (s : ByteArray) (_hs : s.size ≤ 140737488355328) (ht : Tabs w) (hr : RTabs w) (h4 : 4 ≤ w.heap.size) :
    Calls Tryd.prog 14 #[.pointer (some ⟨b, 0, none⟩), .agg #[.int .i64 3, .int .i64 A, .int .i64 F, .string s]] wr fun e w' => e = .returned (.bool true) ∧ ∃ V' U', Bn w w' b V' U' 4 := by
  have HTT : Hid (∀ W, Below w.heap.size w W → Tabs W ∧ RTabs W ∧ 4 ≤ W.heap.size) := fun W h => ⟨ht.below h (by omega), hr.below h h4, by have := h.size; omega⟩
  have hN0 : Bn w (wr.alloc (.cells #[.int .i64 3, .int .i64 A, .int .i64 F, .string s] 44)) b V U 4 := h.below ((Below.refl _ _).alloc (Nat.le_refl _) _)
  have hO0 : Ob (wr.alloc (.cells #[.int .i64 3, .int .i64 A, .int .i64 F, .string s] 44)) wr.heap.size 3 A F s := heap_new _ _
  have g1 := hO0.c1
  have g2 := hO0.c2
  clear h ht hr
  go_enter Tryd.func14, Tryd.ntmps14
  go_wp2_with fail
  refine (place4_any A _).mono ?_
  rintro e w' ⟨⟨j, rfl, hj⟩, rfl⟩
  go_wp2_with fail
  refine (place4_any F _).mono ?_
  rintro e w' ⟨⟨m, rfl, hm⟩, rfl⟩
  clear g1 g2
  revert hN0 hO0
  generalize wr.alloc (.cells #[.int .i64 3, .int .i64 A, .int .i64 F, .string s] 44) = w0
  generalize wr.heap.size = o
  intro hN hO
  clear wr
  have c0 := hO.c0
  have c3 := hO.c3
  have HN : Hid (Bn w w0 b V U 4) := hN
  have HO : Hid (Ob w0 o 3 A F s) := hO
  have hjI : (j : Int) < 4 := by omega
  have hmI : (m : Int) < 4 := by omega
  clear hN hO
  have hpl := HN.out.pl j hj (by omega)
  have q1 := HN.out.ownAt j hj
  have q2 := HN.out.refAt j hj
  cases hV : V j with
  | none =>
    cases hU : U j with
    | none =>
      rw [hU] at q2
      have c6 : w0.cell? ⟨b, 4 + j, none⟩ = some (.pointer none) := q2
      have hno := none_any 3 A F s w0
      have c1 := HO.out.c1
      have c2 := HO.out.c2
      clear q1 q2 hpl
      go_wp2_with (go_at_call 28; refine hno.mono ?_; rintro e w1 ⟨rfl, hb1⟩)
      go_ret
      exact ⟨rfl, V, U, HN.out.below hb1⟩
    | some q => rw [hV, hU] at hpl; exact hpl.elim
  | some p =>
    cases hU : U j with
    | none => rw [hV, hU] at hpl; exact hpl.elim
    | some q =>
      rw [hV] at q1
      rw [hU] at q2
      have c5 : w0.cell? ⟨b, j, none⟩ = some (.pointer (some ⟨p, 0, none⟩)) := q1
      have c6 : w0.cell? ⟨b, 4 + j, none⟩ = some (.pointer (some ⟨q, 0, none⟩)) := q2
      rw [hV, hU] at hpl
      obtain ⟨f, ah, t, hP⟩ := hpl
      clear q1 q2
      have HC5 : Hid (∀ W, Below w0.heap.size w0 W → W.cell? ⟨b, j, none⟩ = some (.pointer (some ⟨p, 0, none⟩))) := fun W hb => (hb.cell (p := ⟨b, j, none⟩) (heap_lt HN.out.own)).trans c5
      have HC6 : Hid (∀ W, Below w0.heap.size w0 W → W.cell? ⟨b, 4 + j, none⟩ = some (.pointer (some ⟨q, 0, none⟩))) := fun W hb => (hb.cell (p := ⟨b, 4 + j, none⟩) (heap_lt HN.out.own)).trans c6
      have HP : Hid (Pair w0 p q f ah t) := hP
      have HT0 : Hid (∀ W, Below w0.heap.size w0 W → Tabs W ∧ RTabs W ∧ 4 ≤ W.heap.size) := fun W hb => HTT.out W (HN.out.bel.trans (hb.mono HN.out.bel.size))
      clear hP
      have HCO : Hid (∀ W, Below w0.heap.size w0 W → Calls Tryd.prog 11 #[.pointer (some ⟨p, 0, none⟩)] W fun e w' => e = .returned (.string (str (wtext (eat f (t.data.toList ++ endL (ah + t.size))).1))) ∧ Below W.heap.size W w') := fun W hb => by
        have h := hsum_any (HP.out.hs.below hb HP.out.hs.lt) (HT0.out W hb).1 (by have := HP.out.le; omega)
        rw [sumB, ← eat_append] at h
        exact h
      have HCR : Hid (∀ W, Below w0.heap.size w0 W → Calls Tryd.prog 30 #[.pointer (some ⟨q, 0, none⟩)] W fun e w' => e = .returned (.string (str (wtext (eat f (t.data.toList ++ endL (ah + t.size))).1))) ∧ Below W.heap.size W w') := fun W hb => rsumh_any (HP.out.rh.below hb HP.out.rh.lt) HP.out.ok HP.out.le (HT0.out W hb).2.1 (HT0.out W hb).2.2
      generalize str (wtext (eat f (t.data.toList ++ endL (ah + t.size))).1) = Y at HCO HCR
      have hS0 : Below w0.heap.size w0 w0.drew := (Below.refl _ _).drew
      clear c5 HTT HT0 HP
      go_wp2_with fail
      clear c0 c3 c6
      refine wp_region_held_drew (S := fun W => Below w0.heap.size w0 W) (by kernel_rfl) hS0 ?_
      intro hS
      clear hS0
      revert hS
      generalize w0.drew = Wv
      intro hS
      refine wpAnyH_take (i := 0) (oi := { dst := some 120, op := .move (.tmp 0), type := _, pos := _, after := _, guard := none }) (v := .pointer (some ⟨b, 0, none⟩)) rfl (by kernel_rfl) (by kernel_rfl) (by kernel_rfl) (fun _ _ _ h => h) (Or.inl ⟨by rfl, by intro x _; go_simp⟩) hS ?_
      (try simp only [Act.put, List.setIfInBounds_toArray, List.set_cons_zero, List.set_cons_succ])
      refine wpAnyH_take (i := 1) (oi := { dst := some 121, op := .move (.tmp 5), type := _, pos := _, after := _, guard := none }) (v := .int .i64 (j : Int)) rfl (by kernel_rfl) (by kernel_rfl) (by kernel_rfl) (fun _ _ _ h => h) (Or.inl ⟨by rfl, by intro x _; go_simp⟩) hS ?_
      (try simp only [Act.put, List.setIfInBounds_toArray, List.set_cons_zero, List.set_cons_succ])
      refine wpAnyH_take (i := 2) (oi := { dst := some 122, op := .nilCheck (.tmp 120), type := _, pos := _, after := _, guard := none }) (v := .pointer (some ⟨b, 0, none⟩)) rfl (by kernel_rfl) (by kernel_rfl) (by kernel_rfl) (fun _ _ _ h => h) (Or.inl ⟨by rfl, by intro x _; go_simp⟩) hS ?_
      (try simp only [Act.put, List.setIfInBounds_toArray, List.set_cons_zero, List.set_cons_succ])
      refine wpAnyH_take (i := 3) (oi := { dst := some 123, op := .fieldAddr 41 (.tmp 122) 0, type := _, pos := _, after := _, guard := none }) (v := .pointer (some ⟨b, 0, none⟩)) rfl (by kernel_rfl) (by kernel_rfl) (by kernel_rfl) (fun _ _ _ h => h) (Or.inl ⟨by rfl, by intro x _; go_simp⟩) hS ?_
      (try simp only [Act.put, List.setIfInBounds_toArray, List.set_cons_zero, List.set_cons_succ])
      refine wpAnyH_take (i := 4) (oi := { dst := some 124, op := .indexAddr 37 (.tmp 123) (.tmp 121), type := _, pos := _, after := _, guard := none }) (v := .pointer (some ⟨b, j, none⟩)) rfl (by kernel_rfl) (by kernel_rfl) (by kernel_rfl) (fun _ _ _ h => h) (Or.inl ⟨by rfl, by intro x _; go_simp⟩) hS ?_
      (try simp only [Act.put, List.setIfInBounds_toArray, List.set_cons_zero, List.set_cons_succ])
      refine wpAnyH_take (i := 5) (oi := { dst := some 125, op := .load 22 (.tmp 124), type := _, pos := _, after := _, guard := none }) (v := .pointer (some ⟨p, 0, none⟩)) rfl (by kernel_rfl) (by kernel_rfl) (by kernel_rfl) (fun _ _ _ h => h) (Or.inl ⟨by rfl, by intro x hx; have h1 := HC5.out x hx; go_simp⟩) hS ?_
      (try simp only [Act.put, List.setIfInBounds_toArray, List.set_cons_zero, List.set_cons_succ])
      refine wpAnyH_take (i := 7) (oi := { dst := some 127, op := .move (.tmp 0), type := _, pos := _, after := _, guard := none }) (v := .pointer (some ⟨b, 0, none⟩)) rfl (by kernel_rfl) (by kernel_rfl) (by kernel_rfl) (fun _ _ _ h => h) (Or.inl ⟨by rfl, by intro x _; go_simp⟩) hS ?_
      (try simp only [Act.put, List.setIfInBounds_toArray, List.set_cons_zero, List.set_cons_succ])
      refine wpAnyH_take (i := 8) (oi := { dst := some 128, op := .move (.tmp 5), type := _, pos := _, after := _, guard := none }) (v := .int .i64 (j : Int)) rfl (by kernel_rfl) (by kernel_rfl) (by kernel_rfl) (fun _ _ _ h => h) (Or.inl ⟨by rfl, by intro x _; go_simp⟩) hS ?_
      (try simp only [Act.put, List.setIfInBounds_toArray, List.set_cons_zero, List.set_cons_succ])
      refine wpAnyH_take (i := 9) (oi := { dst := some 129, op := .nilCheck (.tmp 127), type := _, pos := _, after := _, guard := none }) (v := .pointer (some ⟨b, 0, none⟩)) rfl (by kernel_rfl) (by kernel_rfl) (by kernel_rfl) (fun _ _ _ h => h) (Or.inl ⟨by rfl, by intro x _; go_simp⟩) hS ?_
      (try simp only [Act.put, List.setIfInBounds_toArray, List.set_cons_zero, List.set_cons_succ])
      refine wpAnyH_take (i := 10) (oi := { dst := some 130, op := .fieldAddr 41 (.tmp 129) 1, type := _, pos := _, after := _, guard := none }) (v := .pointer (some ⟨b, 4, none⟩)) rfl (by kernel_rfl) (by kernel_rfl) (by kernel_rfl) (fun _ _ _ h => h) (Or.inl ⟨by rfl, by intro x _; go_simp⟩) hS ?_
      (try simp only [Act.put, List.setIfInBounds_toArray, List.set_cons_zero, List.set_cons_succ])
      refine wpAnyH_take (i := 11) (oi := { dst := some 131, op := .indexAddr 39 (.tmp 130) (.tmp 128), type := _, pos := _, after := _, guard := none }) (v := .pointer (some ⟨b, 4 + j, none⟩)) rfl (by kernel_rfl) (by kernel_rfl) (by kernel_rfl) (fun _ _ _ h => h) (Or.inl ⟨by rfl, by intro x _; go_simp⟩) hS ?_
      (try simp only [Act.put, List.setIfInBounds_toArray, List.set_cons_zero, List.set_cons_succ])
      refine wpAnyH_take (i := 12) (oi := { dst := some 132, op := .load 38 (.tmp 131), type := _, pos := _, after := _, guard := none }) (v := .pointer (some ⟨q, 0, none⟩)) rfl (by kernel_rfl) (by kernel_rfl) (by kernel_rfl) (fun _ _ _ h => h) (Or.inl ⟨by rfl, by intro x hx; have h1 := HC6.out x hx; go_simp⟩) hS ?_
      (try simp only [Act.put, List.setIfInBounds_toArray, List.set_cons_zero, List.set_cons_succ])
      refine wpAnyH_ready (rs := [6]) (by kernel_rfl) (by simp) ?_
      refine AllReadyH.cons (o := { dst := some 126, op := .call { callee := .value (.func 11), args := #[.tmp 125], argTypes := #[22] }, type := _, pos := _, after := _, guard := none }) rfl (fun K hK => ?_) AllReadyH.nil
      go_simp
      refine (HCO.out Wv hS).mono ?_
      rintro e W2 ⟨rfl, hbc⟩
      have hS2 := hS.trans (hbc.mono hS.size)
      refine hK.out _ _ hS2 (fun _ => ?_)
      clear hK K
      (try simp only [Act.put, List.setIfInBounds_toArray, List.set_cons_zero, List.set_cons_succ])
      revert hS2
      clear hS hbc
      generalize W2 = Wv
      intro hS
      refine wpAnyH_ready (rs := [13]) (by kernel_rfl) (by simp) ?_
      refine AllReadyH.cons (o := { dst := some 133, op := .call { callee := .value (.func 30), args := #[.tmp 132], argTypes := #[38] }, type := _, pos := _, after := _, guard := none }) rfl (fun K hK => ?_) AllReadyH.nil
      go_simp
      refine (HCR.out Wv hS).mono ?_
      rintro e W2 ⟨rfl, hbc⟩
      have hS2 := hS.trans (hbc.mono hS.size)
      refine hK.out _ _ hS2 (fun _ => ?_)
      clear hK K
      (try simp only [Act.put, List.setIfInBounds_toArray, List.set_cons_zero, List.set_cons_succ])
      revert hS2
      clear hS hbc
      generalize W2 = Wv
      intro hS
      refine wpAnyH_take (i := 14) (oi := { dst := some 134, op := .binOp .eql 9 (.tmp 126) (.tmp 133) 9, type := _, pos := _, after := _, guard := none }) (v := .bool true) rfl (by kernel_rfl) (by kernel_rfl) (by kernel_rfl) (fun _ _ _ h => h) (Or.inl ⟨by rfl, by intro x _; go_simp⟩) hS ?_
      (try simp only [Act.put, List.setIfInBounds_toArray, List.set_cons_zero, List.set_cons_succ])
      refine wpAnyH_take (i := 15) (oi := { dst := some 4, op := .assign (.tmp 134), type := _, pos := _, after := _, guard := none }) (v := .bool true) rfl (by kernel_rfl) (by kernel_rfl) (by kernel_rfl) (fun _ _ _ h => h) (Or.inl ⟨by rfl, by intro x _; go_simp⟩) hS ?_
      (try simp only [Act.put, List.setIfInBounds_toArray, List.set_cons_zero, List.set_cons_succ])
      refine wpAnyH_done (by kernel_rfl) ?_ _
      go_wp2
      go_ret
      exact ⟨rfl, V, U, HN.out.below hS⟩

set_option maxRecDepth 20000 in
set_option maxHeartbeats 4000000 in
theorem plays_count {w wr : World} {b : Nat} {V U : Nat → Option Nat} (h : Bn w wr b V U 4) (A F : Int) (s : ByteArray) (_hs : s.size ≤ 140737488355328) (ht : Tabs w) (hr : RTabs w) (h4 : 4 ≤ w.heap.size) :
    Calls Tryd.prog 14 #[.pointer (some ⟨b, 0, none⟩), .agg #[.int .i64 4, .int .i64 A, .int .i64 F, .string s]] wr fun e w' => e = .returned (.bool true) ∧ ∃ V' U', Bn w w' b V' U' 4 := by
  have HTT : Hid (∀ W, Below w.heap.size w W → Tabs W ∧ RTabs W ∧ 4 ≤ W.heap.size) := fun W h => ⟨ht.below h (by omega), hr.below h h4, by have := h.size; omega⟩
  have hN0 : Bn w (wr.alloc (.cells #[.int .i64 4, .int .i64 A, .int .i64 F, .string s] 44)) b V U 4 := h.below ((Below.refl _ _).alloc (Nat.le_refl _) _)
  have hO0 : Ob (wr.alloc (.cells #[.int .i64 4, .int .i64 A, .int .i64 F, .string s] 44)) wr.heap.size 4 A F s := heap_new _ _
  have g1 := hO0.c1
  have g2 := hO0.c2
  clear h ht hr
  go_enter Tryd.func14, Tryd.ntmps14
  go_wp2_with fail
  refine (place4_any A _).mono ?_
  rintro e w' ⟨⟨j, rfl, hj⟩, rfl⟩
  go_wp2_with fail
  refine (place4_any F _).mono ?_
  rintro e w' ⟨⟨m, rfl, hm⟩, rfl⟩
  clear g1 g2
  revert hN0 hO0
  generalize wr.alloc (.cells #[.int .i64 4, .int .i64 A, .int .i64 F, .string s] 44) = w0
  generalize wr.heap.size = o
  intro hN hO
  clear wr
  have c0 := hO.c0
  have c3 := hO.c3
  have HN : Hid (Bn w w0 b V U 4) := hN
  have HO : Hid (Ob w0 o 4 A F s) := hO
  have hjI : (j : Int) < 4 := by omega
  have hmI : (m : Int) < 4 := by omega
  clear hN hO
  have hpl := HN.out.pl j hj (by omega)
  have q1 := HN.out.ownAt j hj
  have q2 := HN.out.refAt j hj
  cases hV : V j with
  | none =>
    cases hU : U j with
    | none =>
      rw [hU] at q2
      have c6 : w0.cell? ⟨b, 4 + j, none⟩ = some (.pointer none) := q2
      have hno := none_any 4 A F s w0
      have c1 := HO.out.c1
      have c2 := HO.out.c2
      clear q1 q2 hpl
      go_wp2_with (go_at_call 28; refine hno.mono ?_; rintro e w1 ⟨rfl, hb1⟩)
      go_ret
      exact ⟨rfl, V, U, HN.out.below hb1⟩
    | some q => rw [hV, hU] at hpl; exact hpl.elim
  | some p =>
    cases hU : U j with
    | none => rw [hV, hU] at hpl; exact hpl.elim
    | some q =>
      rw [hV] at q1
      rw [hU] at q2
      have c5 : w0.cell? ⟨b, j, none⟩ = some (.pointer (some ⟨p, 0, none⟩)) := q1
      have c6 : w0.cell? ⟨b, 4 + j, none⟩ = some (.pointer (some ⟨q, 0, none⟩)) := q2
      rw [hV, hU] at hpl
      obtain ⟨f, ah, t, hP⟩ := hpl
      clear q1 q2
      have HC5 : Hid (∀ W, Below w0.heap.size w0 W → W.cell? ⟨b, j, none⟩ = some (.pointer (some ⟨p, 0, none⟩))) := fun W hb => (hb.cell (p := ⟨b, j, none⟩) (heap_lt HN.out.own)).trans c5
      have HC6 : Hid (∀ W, Below w0.heap.size w0 W → W.cell? ⟨b, 4 + j, none⟩ = some (.pointer (some ⟨q, 0, none⟩))) := fun W hb => (hb.cell (p := ⟨b, 4 + j, none⟩) (heap_lt HN.out.own)).trans c6
      have HP : Hid (Pair w0 p q f ah t) := hP
      have HT0 : Hid (∀ W, Below w0.heap.size w0 W → Tabs W ∧ RTabs W ∧ 4 ≤ W.heap.size) := fun W hb => HTT.out W (HN.out.bel.trans (hb.mono HN.out.bel.size))
      clear hP
      have HCO : Hid (∀ W, Below w0.heap.size w0 W → Calls Tryd.prog 31 #[.pointer (some ⟨p, 0, none⟩)] W fun e w' => e = .returned (.int .i64 ((ah + t.size : Nat) : Int)) ∧ Below W.heap.size W w') := fun W hb => by
        refine (count_any (HP.out.hs.below hb HP.out.hs.lt)).mono ?_
        rintro e w' ⟨rfl, rfl⟩
        exact ⟨rfl, Below.refl _ _⟩
      have HCR : Hid (∀ W, Below w0.heap.size w0 W → Calls Tryd.prog 32 #[.pointer (some ⟨q, 0, none⟩)] W fun e w' => e = .returned (.int .i64 ((ah + t.size : Nat) : Int)) ∧ Below W.heap.size W w') := fun W hb => rcount_any (HP.out.rh.below hb HP.out.rh.lt) HP.out.le
      generalize ((ah + t.size : Nat) : Int) = Y at HCO HCR
      have hS0 : Below w0.heap.size w0 w0.drew := (Below.refl _ _).drew
      clear c5 HTT HT0 HP
      go_wp2_with fail
      clear c0 c3 c6
      refine wp_region_held_drew (S := fun W => Below w0.heap.size w0 W) (by kernel_rfl) hS0 ?_
      intro hS
      clear hS0
      revert hS
      generalize w0.drew = Wv
      intro hS
      refine wpAnyH_take (i := 0) (oi := { dst := some 137, op := .move (.tmp 0), type := _, pos := _, after := _, guard := none }) (v := .pointer (some ⟨b, 0, none⟩)) rfl (by kernel_rfl) (by kernel_rfl) (by kernel_rfl) (fun _ _ _ h => h) (Or.inl ⟨by rfl, by intro x _; go_simp⟩) hS ?_
      (try simp only [Act.put, List.setIfInBounds_toArray, List.set_cons_zero, List.set_cons_succ])
      refine wpAnyH_take (i := 1) (oi := { dst := some 138, op := .move (.tmp 5), type := _, pos := _, after := _, guard := none }) (v := .int .i64 (j : Int)) rfl (by kernel_rfl) (by kernel_rfl) (by kernel_rfl) (fun _ _ _ h => h) (Or.inl ⟨by rfl, by intro x _; go_simp⟩) hS ?_
      (try simp only [Act.put, List.setIfInBounds_toArray, List.set_cons_zero, List.set_cons_succ])
      refine wpAnyH_take (i := 2) (oi := { dst := some 139, op := .nilCheck (.tmp 137), type := _, pos := _, after := _, guard := none }) (v := .pointer (some ⟨b, 0, none⟩)) rfl (by kernel_rfl) (by kernel_rfl) (by kernel_rfl) (fun _ _ _ h => h) (Or.inl ⟨by rfl, by intro x _; go_simp⟩) hS ?_
      (try simp only [Act.put, List.setIfInBounds_toArray, List.set_cons_zero, List.set_cons_succ])
      refine wpAnyH_take (i := 3) (oi := { dst := some 140, op := .fieldAddr 41 (.tmp 139) 0, type := _, pos := _, after := _, guard := none }) (v := .pointer (some ⟨b, 0, none⟩)) rfl (by kernel_rfl) (by kernel_rfl) (by kernel_rfl) (fun _ _ _ h => h) (Or.inl ⟨by rfl, by intro x _; go_simp⟩) hS ?_
      (try simp only [Act.put, List.setIfInBounds_toArray, List.set_cons_zero, List.set_cons_succ])
      refine wpAnyH_take (i := 4) (oi := { dst := some 141, op := .indexAddr 37 (.tmp 140) (.tmp 138), type := _, pos := _, after := _, guard := none }) (v := .pointer (some ⟨b, j, none⟩)) rfl (by kernel_rfl) (by kernel_rfl) (by kernel_rfl) (fun _ _ _ h => h) (Or.inl ⟨by rfl, by intro x _; go_simp⟩) hS ?_
      (try simp only [Act.put, List.setIfInBounds_toArray, List.set_cons_zero, List.set_cons_succ])
      refine wpAnyH_take (i := 5) (oi := { dst := some 142, op := .load 22 (.tmp 141), type := _, pos := _, after := _, guard := none }) (v := .pointer (some ⟨p, 0, none⟩)) rfl (by kernel_rfl) (by kernel_rfl) (by kernel_rfl) (fun _ _ _ h => h) (Or.inl ⟨by rfl, by intro x hx; have h1 := HC5.out x hx; go_simp⟩) hS ?_
      (try simp only [Act.put, List.setIfInBounds_toArray, List.set_cons_zero, List.set_cons_succ])
      refine wpAnyH_take (i := 7) (oi := { dst := some 144, op := .move (.tmp 0), type := _, pos := _, after := _, guard := none }) (v := .pointer (some ⟨b, 0, none⟩)) rfl (by kernel_rfl) (by kernel_rfl) (by kernel_rfl) (fun _ _ _ h => h) (Or.inl ⟨by rfl, by intro x _; go_simp⟩) hS ?_
      (try simp only [Act.put, List.setIfInBounds_toArray, List.set_cons_zero, List.set_cons_succ])
      refine wpAnyH_take (i := 8) (oi := { dst := some 145, op := .move (.tmp 5), type := _, pos := _, after := _, guard := none }) (v := .int .i64 (j : Int)) rfl (by kernel_rfl) (by kernel_rfl) (by kernel_rfl) (fun _ _ _ h => h) (Or.inl ⟨by rfl, by intro x _; go_simp⟩) hS ?_
      (try simp only [Act.put, List.setIfInBounds_toArray, List.set_cons_zero, List.set_cons_succ])
      refine wpAnyH_take (i := 9) (oi := { dst := some 146, op := .nilCheck (.tmp 144), type := _, pos := _, after := _, guard := none }) (v := .pointer (some ⟨b, 0, none⟩)) rfl (by kernel_rfl) (by kernel_rfl) (by kernel_rfl) (fun _ _ _ h => h) (Or.inl ⟨by rfl, by intro x _; go_simp⟩) hS ?_
      (try simp only [Act.put, List.setIfInBounds_toArray, List.set_cons_zero, List.set_cons_succ])
      refine wpAnyH_take (i := 10) (oi := { dst := some 147, op := .fieldAddr 41 (.tmp 146) 1, type := _, pos := _, after := _, guard := none }) (v := .pointer (some ⟨b, 4, none⟩)) rfl (by kernel_rfl) (by kernel_rfl) (by kernel_rfl) (fun _ _ _ h => h) (Or.inl ⟨by rfl, by intro x _; go_simp⟩) hS ?_
      (try simp only [Act.put, List.setIfInBounds_toArray, List.set_cons_zero, List.set_cons_succ])
      refine wpAnyH_take (i := 11) (oi := { dst := some 148, op := .indexAddr 39 (.tmp 147) (.tmp 145), type := _, pos := _, after := _, guard := none }) (v := .pointer (some ⟨b, 4 + j, none⟩)) rfl (by kernel_rfl) (by kernel_rfl) (by kernel_rfl) (fun _ _ _ h => h) (Or.inl ⟨by rfl, by intro x _; go_simp⟩) hS ?_
      (try simp only [Act.put, List.setIfInBounds_toArray, List.set_cons_zero, List.set_cons_succ])
      refine wpAnyH_take (i := 12) (oi := { dst := some 149, op := .load 38 (.tmp 148), type := _, pos := _, after := _, guard := none }) (v := .pointer (some ⟨q, 0, none⟩)) rfl (by kernel_rfl) (by kernel_rfl) (by kernel_rfl) (fun _ _ _ h => h) (Or.inl ⟨by rfl, by intro x hx; have h1 := HC6.out x hx; go_simp⟩) hS ?_
      (try simp only [Act.put, List.setIfInBounds_toArray, List.set_cons_zero, List.set_cons_succ])
      refine wpAnyH_ready (rs := [6]) (by kernel_rfl) (by simp) ?_
      refine AllReadyH.cons (o := { dst := some 143, op := .call { callee := .value (.func 31), args := #[.tmp 142], argTypes := #[22] }, type := _, pos := _, after := _, guard := none }) rfl (fun K hK => ?_) AllReadyH.nil
      go_simp
      refine (HCO.out Wv hS).mono ?_
      rintro e W2 ⟨rfl, hbc⟩
      have hS2 := hS.trans (hbc.mono hS.size)
      refine hK.out _ _ hS2 (fun _ => ?_)
      clear hK K
      (try simp only [Act.put, List.setIfInBounds_toArray, List.set_cons_zero, List.set_cons_succ])
      revert hS2
      clear hS hbc
      generalize W2 = Wv
      intro hS
      refine wpAnyH_ready (rs := [13]) (by kernel_rfl) (by simp) ?_
      refine AllReadyH.cons (o := { dst := some 150, op := .call { callee := .value (.func 32), args := #[.tmp 149], argTypes := #[38] }, type := _, pos := _, after := _, guard := none }) rfl (fun K hK => ?_) AllReadyH.nil
      go_simp
      refine (HCR.out Wv hS).mono ?_
      rintro e W2 ⟨rfl, hbc⟩
      have hS2 := hS.trans (hbc.mono hS.size)
      refine hK.out _ _ hS2 (fun _ => ?_)
      clear hK K
      (try simp only [Act.put, List.setIfInBounds_toArray, List.set_cons_zero, List.set_cons_succ])
      revert hS2
      clear hS hbc
      generalize W2 = Wv
      intro hS
      refine wpAnyH_take (i := 14) (oi := { dst := some 151, op := .binOp .eql 3 (.tmp 143) (.tmp 150) 3, type := _, pos := _, after := _, guard := none }) (v := .bool true) rfl (by kernel_rfl) (by kernel_rfl) (by kernel_rfl) (fun _ _ _ h => h) (Or.inl ⟨by rfl, by intro x _; go_simp⟩) hS ?_
      (try simp only [Act.put, List.setIfInBounds_toArray, List.set_cons_zero, List.set_cons_succ])
      refine wpAnyH_take (i := 15) (oi := { dst := some 4, op := .assign (.tmp 151), type := _, pos := _, after := _, guard := none }) (v := .bool true) rfl (by kernel_rfl) (by kernel_rfl) (by kernel_rfl) (fun _ _ _ h => h) (Or.inl ⟨by rfl, by intro x _; go_simp⟩) hS ?_
      (try simp only [Act.put, List.setIfInBounds_toArray, List.set_cons_zero, List.set_cons_succ])
      refine wpAnyH_done (by kernel_rfl) ?_ _
      go_wp2
      go_ret
      exact ⟨rfl, V, U, HN.out.below hS⟩

set_option maxRecDepth 20000 in
set_option maxHeartbeats 4000000 in
theorem plays_state {w wr : World} {b : Nat} {V U : Nat → Option Nat} (h : Bn w wr b V U 4) (A F : Int) (s : ByteArray) (_hs : s.size ≤ 140737488355328) (ht : Tabs w) (hr : RTabs w) (h4 : 4 ≤ w.heap.size) :
    Calls Tryd.prog 14 #[.pointer (some ⟨b, 0, none⟩), .agg #[.int .i64 5, .int .i64 A, .int .i64 F, .string s]] wr fun e w' => e = .returned (.bool true) ∧ ∃ V' U', Bn w w' b V' U' 4 := by
  have HTT : Hid (∀ W, Below w.heap.size w W → Tabs W ∧ RTabs W ∧ 4 ≤ W.heap.size) := fun W h => ⟨ht.below h (by omega), hr.below h h4, by have := h.size; omega⟩
  have hN0 : Bn w (wr.alloc (.cells #[.int .i64 5, .int .i64 A, .int .i64 F, .string s] 44)) b V U 4 := h.below ((Below.refl _ _).alloc (Nat.le_refl _) _)
  have hO0 : Ob (wr.alloc (.cells #[.int .i64 5, .int .i64 A, .int .i64 F, .string s] 44)) wr.heap.size 5 A F s := heap_new _ _
  have g1 := hO0.c1
  have g2 := hO0.c2
  clear h ht hr
  go_enter Tryd.func14, Tryd.ntmps14
  go_wp2_with fail
  refine (place4_any A _).mono ?_
  rintro e w' ⟨⟨j, rfl, hj⟩, rfl⟩
  go_wp2_with fail
  refine (place4_any F _).mono ?_
  rintro e w' ⟨⟨m, rfl, hm⟩, rfl⟩
  clear g1 g2
  revert hN0 hO0
  generalize wr.alloc (.cells #[.int .i64 5, .int .i64 A, .int .i64 F, .string s] 44) = w0
  generalize wr.heap.size = o
  intro hN hO
  clear wr
  have c0 := hO.c0
  have c3 := hO.c3
  have HN : Hid (Bn w w0 b V U 4) := hN
  have HO : Hid (Ob w0 o 5 A F s) := hO
  have hjI : (j : Int) < 4 := by omega
  have hmI : (m : Int) < 4 := by omega
  clear hN hO
  have hpl := HN.out.pl j hj (by omega)
  have q1 := HN.out.ownAt j hj
  have q2 := HN.out.refAt j hj
  cases hV : V j with
  | none =>
    cases hU : U j with
    | none =>
      rw [hU] at q2
      have c6 : w0.cell? ⟨b, 4 + j, none⟩ = some (.pointer none) := q2
      have hno := none_any 5 A F s w0
      have c1 := HO.out.c1
      have c2 := HO.out.c2
      clear q1 q2 hpl
      go_wp2_with (go_at_call 28; refine hno.mono ?_; rintro e w1 ⟨rfl, hb1⟩)
      go_ret
      exact ⟨rfl, V, U, HN.out.below hb1⟩
    | some q => rw [hV, hU] at hpl; exact hpl.elim
  | some p =>
    cases hU : U j with
    | none => rw [hV, hU] at hpl; exact hpl.elim
    | some q =>
      rw [hV] at q1
      rw [hU] at q2
      have c5 : w0.cell? ⟨b, j, none⟩ = some (.pointer (some ⟨p, 0, none⟩)) := q1
      have c6 : w0.cell? ⟨b, 4 + j, none⟩ = some (.pointer (some ⟨q, 0, none⟩)) := q2
      rw [hV, hU] at hpl
      obtain ⟨f, ah, t, hP⟩ := hpl
      clear q1 q2
      have HC5 : Hid (∀ W, Below w0.heap.size w0 W → W.cell? ⟨b, j, none⟩ = some (.pointer (some ⟨p, 0, none⟩))) := fun W hb => (hb.cell (p := ⟨b, j, none⟩) (heap_lt HN.out.own)).trans c5
      have HC6 : Hid (∀ W, Below w0.heap.size w0 W → W.cell? ⟨b, 4 + j, none⟩ = some (.pointer (some ⟨q, 0, none⟩))) := fun W hb => (hb.cell (p := ⟨b, 4 + j, none⟩) (heap_lt HN.out.own)).trans c6
      have HP : Hid (Pair w0 p q f ah t) := hP
      have HT0 : Hid (∀ W, Below w0.heap.size w0 W → Tabs W ∧ RTabs W ∧ 4 ≤ W.heap.size) := fun W hb => HTT.out W (HN.out.bel.trans (hb.mono HN.out.bel.size))
      clear hP
      have HCO : Hid (∀ W, Below w0.heap.size w0 W → Calls Tryd.prog 7 #[.pointer (some ⟨p, 0, none⟩)] W fun e w' => e = .returned (.string (str (stateL (eat f t.data.toList).1 (eat f t.data.toList).2 (ah + t.size)))) ∧ Below W.heap.size W w') := fun W hb => state_any (HP.out.hs.below hb HP.out.hs.lt)
      have HCR : Hid (∀ W, Below w0.heap.size w0 W → Calls Tryd.prog 27 #[.pointer (some ⟨q, 0, none⟩)] W fun e w' => e = .returned (.string (str (stateL (eat f t.data.toList).1 (eat f t.data.toList).2 (ah + t.size)))) ∧ Below W.heap.size W w') := fun W hb => rstateh_any (HP.out.rh.below hb HP.out.rh.lt) HP.out.ok HP.out.le (HT0.out W hb).2.1 (HT0.out W hb).2.2
      generalize str (stateL (eat f t.data.toList).1 (eat f t.data.toList).2 (ah + t.size)) = Y at HCO HCR
      have hS0 : Below w0.heap.size w0 w0.drew := (Below.refl _ _).drew
      clear c5 HTT HT0 HP
      go_wp2_with fail
      clear c0 c3 c6
      refine wp_region_held_drew (S := fun W => Below w0.heap.size w0 W) (by kernel_rfl) hS0 ?_
      intro hS
      clear hS0
      revert hS
      generalize w0.drew = Wv
      intro hS
      refine wpAnyH_take (i := 0) (oi := { dst := some 154, op := .move (.tmp 0), type := _, pos := _, after := _, guard := none }) (v := .pointer (some ⟨b, 0, none⟩)) rfl (by kernel_rfl) (by kernel_rfl) (by kernel_rfl) (fun _ _ _ h => h) (Or.inl ⟨by rfl, by intro x _; go_simp⟩) hS ?_
      (try simp only [Act.put, List.setIfInBounds_toArray, List.set_cons_zero, List.set_cons_succ])
      refine wpAnyH_take (i := 1) (oi := { dst := some 155, op := .move (.tmp 5), type := _, pos := _, after := _, guard := none }) (v := .int .i64 (j : Int)) rfl (by kernel_rfl) (by kernel_rfl) (by kernel_rfl) (fun _ _ _ h => h) (Or.inl ⟨by rfl, by intro x _; go_simp⟩) hS ?_
      (try simp only [Act.put, List.setIfInBounds_toArray, List.set_cons_zero, List.set_cons_succ])
      refine wpAnyH_take (i := 2) (oi := { dst := some 156, op := .nilCheck (.tmp 154), type := _, pos := _, after := _, guard := none }) (v := .pointer (some ⟨b, 0, none⟩)) rfl (by kernel_rfl) (by kernel_rfl) (by kernel_rfl) (fun _ _ _ h => h) (Or.inl ⟨by rfl, by intro x _; go_simp⟩) hS ?_
      (try simp only [Act.put, List.setIfInBounds_toArray, List.set_cons_zero, List.set_cons_succ])
      refine wpAnyH_take (i := 3) (oi := { dst := some 157, op := .fieldAddr 41 (.tmp 156) 0, type := _, pos := _, after := _, guard := none }) (v := .pointer (some ⟨b, 0, none⟩)) rfl (by kernel_rfl) (by kernel_rfl) (by kernel_rfl) (fun _ _ _ h => h) (Or.inl ⟨by rfl, by intro x _; go_simp⟩) hS ?_
      (try simp only [Act.put, List.setIfInBounds_toArray, List.set_cons_zero, List.set_cons_succ])
      refine wpAnyH_take (i := 4) (oi := { dst := some 158, op := .indexAddr 37 (.tmp 157) (.tmp 155), type := _, pos := _, after := _, guard := none }) (v := .pointer (some ⟨b, j, none⟩)) rfl (by kernel_rfl) (by kernel_rfl) (by kernel_rfl) (fun _ _ _ h => h) (Or.inl ⟨by rfl, by intro x _; go_simp⟩) hS ?_
      (try simp only [Act.put, List.setIfInBounds_toArray, List.set_cons_zero, List.set_cons_succ])
      refine wpAnyH_take (i := 5) (oi := { dst := some 159, op := .load 22 (.tmp 158), type := _, pos := _, after := _, guard := none }) (v := .pointer (some ⟨p, 0, none⟩)) rfl (by kernel_rfl) (by kernel_rfl) (by kernel_rfl) (fun _ _ _ h => h) (Or.inl ⟨by rfl, by intro x hx; have h1 := HC5.out x hx; go_simp⟩) hS ?_
      (try simp only [Act.put, List.setIfInBounds_toArray, List.set_cons_zero, List.set_cons_succ])
      refine wpAnyH_take (i := 7) (oi := { dst := some 161, op := .move (.tmp 0), type := _, pos := _, after := _, guard := none }) (v := .pointer (some ⟨b, 0, none⟩)) rfl (by kernel_rfl) (by kernel_rfl) (by kernel_rfl) (fun _ _ _ h => h) (Or.inl ⟨by rfl, by intro x _; go_simp⟩) hS ?_
      (try simp only [Act.put, List.setIfInBounds_toArray, List.set_cons_zero, List.set_cons_succ])
      refine wpAnyH_take (i := 8) (oi := { dst := some 162, op := .move (.tmp 5), type := _, pos := _, after := _, guard := none }) (v := .int .i64 (j : Int)) rfl (by kernel_rfl) (by kernel_rfl) (by kernel_rfl) (fun _ _ _ h => h) (Or.inl ⟨by rfl, by intro x _; go_simp⟩) hS ?_
      (try simp only [Act.put, List.setIfInBounds_toArray, List.set_cons_zero, List.set_cons_succ])
      refine wpAnyH_take (i := 9) (oi := { dst := some 163, op := .nilCheck (.tmp 161), type := _, pos := _, after := _, guard := none }) (v := .pointer (some ⟨b, 0, none⟩)) rfl (by kernel_rfl) (by kernel_rfl) (by kernel_rfl) (fun _ _ _ h => h) (Or.inl ⟨by rfl, by intro x _; go_simp⟩) hS ?_
      (try simp only [Act.put, List.setIfInBounds_toArray, List.set_cons_zero, List.set_cons_succ])
      refine wpAnyH_take (i := 10) (oi := { dst := some 164, op := .fieldAddr 41 (.tmp 163) 1, type := _, pos := _, after := _, guard := none }) (v := .pointer (some ⟨b, 4, none⟩)) rfl (by kernel_rfl) (by kernel_rfl) (by kernel_rfl) (fun _ _ _ h => h) (Or.inl ⟨by rfl, by intro x _; go_simp⟩) hS ?_
      (try simp only [Act.put, List.setIfInBounds_toArray, List.set_cons_zero, List.set_cons_succ])
      refine wpAnyH_take (i := 11) (oi := { dst := some 165, op := .indexAddr 39 (.tmp 164) (.tmp 162), type := _, pos := _, after := _, guard := none }) (v := .pointer (some ⟨b, 4 + j, none⟩)) rfl (by kernel_rfl) (by kernel_rfl) (by kernel_rfl) (fun _ _ _ h => h) (Or.inl ⟨by rfl, by intro x _; go_simp⟩) hS ?_
      (try simp only [Act.put, List.setIfInBounds_toArray, List.set_cons_zero, List.set_cons_succ])
      refine wpAnyH_take (i := 12) (oi := { dst := some 166, op := .load 38 (.tmp 165), type := _, pos := _, after := _, guard := none }) (v := .pointer (some ⟨q, 0, none⟩)) rfl (by kernel_rfl) (by kernel_rfl) (by kernel_rfl) (fun _ _ _ h => h) (Or.inl ⟨by rfl, by intro x hx; have h1 := HC6.out x hx; go_simp⟩) hS ?_
      (try simp only [Act.put, List.setIfInBounds_toArray, List.set_cons_zero, List.set_cons_succ])
      refine wpAnyH_ready (rs := [6]) (by kernel_rfl) (by simp) ?_
      refine AllReadyH.cons (o := { dst := some 160, op := .call { callee := .value (.func 7), args := #[.tmp 159], argTypes := #[22] }, type := _, pos := _, after := _, guard := none }) rfl (fun K hK => ?_) AllReadyH.nil
      go_simp
      refine (HCO.out Wv hS).mono ?_
      rintro e W2 ⟨rfl, hbc⟩
      have hS2 := hS.trans (hbc.mono hS.size)
      refine hK.out _ _ hS2 (fun _ => ?_)
      clear hK K
      (try simp only [Act.put, List.setIfInBounds_toArray, List.set_cons_zero, List.set_cons_succ])
      revert hS2
      clear hS hbc
      generalize W2 = Wv
      intro hS
      refine wpAnyH_ready (rs := [13]) (by kernel_rfl) (by simp) ?_
      refine AllReadyH.cons (o := { dst := some 167, op := .call { callee := .value (.func 27), args := #[.tmp 166], argTypes := #[38] }, type := _, pos := _, after := _, guard := none }) rfl (fun K hK => ?_) AllReadyH.nil
      go_simp
      refine (HCR.out Wv hS).mono ?_
      rintro e W2 ⟨rfl, hbc⟩
      have hS2 := hS.trans (hbc.mono hS.size)
      refine hK.out _ _ hS2 (fun _ => ?_)
      clear hK K
      (try simp only [Act.put, List.setIfInBounds_toArray, List.set_cons_zero, List.set_cons_succ])
      revert hS2
      clear hS hbc
      generalize W2 = Wv
      intro hS
      refine wpAnyH_take (i := 14) (oi := { dst := some 168, op := .binOp .eql 9 (.tmp 160) (.tmp 167) 9, type := _, pos := _, after := _, guard := none }) (v := .bool true) rfl (by kernel_rfl) (by kernel_rfl) (by kernel_rfl) (fun _ _ _ h => h) (Or.inl ⟨by rfl, by intro x _; go_simp⟩) hS ?_
      (try simp only [Act.put, List.setIfInBounds_toArray, List.set_cons_zero, List.set_cons_succ])
      refine wpAnyH_take (i := 15) (oi := { dst := some 4, op := .assign (.tmp 168), type := _, pos := _, after := _, guard := none }) (v := .bool true) rfl (by kernel_rfl) (by kernel_rfl) (by kernel_rfl) (fun _ _ _ h => h) (Or.inl ⟨by rfl, by intro x _; go_simp⟩) hS ?_
      (try simp only [Act.put, List.setIfInBounds_toArray, List.set_cons_zero, List.set_cons_succ])
      refine wpAnyH_done (by kernel_rfl) ?_ _
      go_wp2
      go_ret
      exact ⟨rfl, V, U, HN.out.below hS⟩

set_option maxRecDepth 20000 in
set_option maxHeartbeats 4000000 in
theorem plays_new {w wr : World} {b : Nat} {V U : Nat → Option Nat} (h : Bn w wr b V U 4) (A F : Int) (s : ByteArray) (_hs : s.size ≤ 140737488355328) (ht : Tabs w) (hr : RTabs w) (h4 : 4 ≤ w.heap.size) :
    Calls Tryd.prog 14 #[.pointer (some ⟨b, 0, none⟩), .agg #[.int .i64 1, .int .i64 A, .int .i64 F, .string s]] wr fun e w' => e = .returned (.bool true) ∧ ∃ V' U', Bn w w' b V' U' 4 := by
  have HTT : Hid (∀ W, Below w.heap.size w W → Tabs W ∧ RTabs W ∧ 4 ≤ W.heap.size) := fun W h => ⟨ht.below h (by omega), hr.below h h4, by have := h.size; omega⟩
  have hN0 : Bn w (wr.alloc (.cells #[.int .i64 1, .int .i64 A, .int .i64 F, .string s] 44)) b V U 4 := h.below ((Below.refl _ _).alloc (Nat.le_refl _) _)
  have hO0 : Ob (wr.alloc (.cells #[.int .i64 1, .int .i64 A, .int .i64 F, .string s] 44)) wr.heap.size 1 A F s := heap_new _ _
  have g1 := hO0.c1
  have g2 := hO0.c2
  clear h ht hr
  go_enter Tryd.func14, Tryd.ntmps14
  go_wp2_with fail
  refine (place4_any A _).mono ?_
  rintro e w' ⟨⟨j, rfl, hj⟩, rfl⟩
  go_wp2_with fail
  refine (place4_any F _).mono ?_
  rintro e w' ⟨⟨m, rfl, hm⟩, rfl⟩
  clear g1 g2
  revert hN0 hO0
  generalize wr.alloc (.cells #[.int .i64 1, .int .i64 A, .int .i64 F, .string s] 44) = w0
  generalize wr.heap.size = o
  intro hN hO
  clear wr
  have c0 := hO.c0
  have c3 := hO.c3
  have HN : Hid (Bn w w0 b V U 4) := hN
  have HO : Hid (Ob w0 o 1 A F s) := hO
  have hjI : (j : Int) < 4 := by omega
  have hmI : (m : Int) < 4 := by omega
  clear hN hO
  have HD : Hid (Bn w w0.drew b V U 4) := HN.out.below (Below.refl _ _).drew
  have hnew := new_any w0.drew (HTT.out _ HD.out.bel).1 (HTT.out _ HD.out.bel).2.2
  go_wp2_with fail
  go_region_with (go_at_call 9; refine hnew.mono ?_; rintro e w1 ⟨rfl, hHs, hb1, hz1, _⟩; obtain ⟨k1, k2, k3, k4⟩ := (HD.out.below hb1).cells j hj)
  obtain ⟨hN1, hH1⟩ := HD.out.newOwn hb1 j hj (Nat.le_refl _) hHs
  refine with_world (R := fun W => Exit.then _ _ _ _ W) (Q := fun W => Bn w W b (upd V j (some w0.heap.size)) U j ∧ Hs W w0.heap.size first [] 0) _ ⟨hN1, hH1⟩ ?_
  clear hN1 hH1 hHs hb1 hz1 k1 k2 k3 k4 hnew HD HN HO c0 c3
  generalize w0.heap.size = p
  clear w0
  rintro w2 ⟨hN2, hH2⟩
  have HD : Hid (Bn w w2.drew b (upd V j (some p)) U j) := hN2.below (Below.refl _ _).drew
  have HH : Hid (Hs w2.drew p first [] 0) := hH2.below (Below.refl _ _).drew hH2.lt
  have hnew := rnewh_any w2.drew
  clear hN2 hH2
  go_wp2_with fail
  go_region_with (go_at_call 25; refine hnew.mono ?_; rintro e w3 ⟨⟨q, rfl, hq, hRh⟩, hb3⟩; obtain ⟨k1, k2, k3, k4⟩ := (HD.out.below hb3).cells j hj)
  have hN4 := HD.out.newRef (upd_same _ _ _) hj HH.out first_OK hb3 hq hRh
  refine with_world (R := fun W => Exit.then _ _ _ _ W) (Q := fun W => Bn w W b (upd V j (some p)) (upd U j (some q)) 4) _ hN4 ?_
  clear hN4 hRh hb3 hq k1 k2 k3 k4 hnew HD HH w2
  intro w4 hN4
  have c5 : w4.cell? ⟨b, j, none⟩ = some (.pointer (some ⟨p, 0, none⟩)) := by
    have h := hN4.ownAt j hj
    rwa [upd_same] at h
  go_wp2
  go_ret
  exact ⟨rfl, _, _, hN4⟩

set_option maxRecDepth 20000 in
set_option maxHeartbeats 4000000 in
theorem plays_other {w wr : World} {b : Nat} {V U : Nat → Option Nat} (h : Bn w wr b V U 4) (K : Int) (A F : Int) (s : ByteArray) (_hs : s.size ≤ 140737488355328) (ht : Tabs w) (hr : RTabs w) (h4 : 4 ≤ w.heap.size) (n1 : K ≠ 1) (n2 : K ≠ 2) (n3 : K ≠ 3) (n4 : K ≠ 4) (n5 : K ≠ 5) (n6 : K ≠ 6) (n7 : K ≠ 7) :
    Calls Tryd.prog 14 #[.pointer (some ⟨b, 0, none⟩), .agg #[.int .i64 K, .int .i64 A, .int .i64 F, .string s]] wr fun e w' => e = .returned (.bool true) ∧ ∃ V' U', Bn w w' b V' U' 4 := by
  have HTT : Hid (∀ W, Below w.heap.size w W → Tabs W ∧ RTabs W ∧ 4 ≤ W.heap.size) := fun W h => ⟨ht.below h (by omega), hr.below h h4, by have := h.size; omega⟩
  have hN0 : Bn w (wr.alloc (.cells #[.int .i64 K, .int .i64 A, .int .i64 F, .string s] 44)) b V U 4 := h.below ((Below.refl _ _).alloc (Nat.le_refl _) _)
  have hO0 : Ob (wr.alloc (.cells #[.int .i64 K, .int .i64 A, .int .i64 F, .string s] 44)) wr.heap.size K A F s := heap_new _ _
  have g1 := hO0.c1
  have g2 := hO0.c2
  clear h ht hr
  go_enter Tryd.func14, Tryd.ntmps14
  go_wp2_with fail
  refine (place4_any A _).mono ?_
  rintro e w' ⟨⟨j, rfl, hj⟩, rfl⟩
  go_wp2_with fail
  refine (place4_any F _).mono ?_
  rintro e w' ⟨⟨m, rfl, hm⟩, rfl⟩
  clear g1 g2
  revert hN0 hO0
  generalize wr.alloc (.cells #[.int .i64 K, .int .i64 A, .int .i64 F, .string s] 44) = w0
  generalize wr.heap.size = o
  intro hN hO
  clear wr
  have c0 := hO.c0
  have c3 := hO.c3
  have HN : Hid (Bn w w0 b V U 4) := hN
  have HO : Hid (Ob w0 o K A F s) := hO
  have hjI : (j : Int) < 4 := by omega
  have hmI : (m : Int) < 4 := by omega
  clear hN hO
  have hpl := HN.out.pl j hj (by omega)
  have q2 := HN.out.refAt j hj
  cases hU : U j with
  | none =>
    rw [hU] at q2
    have c6 : w0.cell? ⟨b, 4 + j, none⟩ = some (.pointer none) := q2
    have hno := none_any K A F s w0
    have c1 := HO.out.c1
    have c2 := HO.out.c2
    clear q2 hpl
    go_wp2_with (go_at_call 28; refine hno.mono ?_; rintro e w1 ⟨rfl, hb1⟩)
    go_ret
    exact ⟨rfl, V, U, HN.out.below hb1⟩
  | some q =>
    rw [hU] at q2
    have c6 : w0.cell? ⟨b, 4 + j, none⟩ = some (.pointer (some ⟨q, 0, none⟩)) := q2
    clear q2 hpl
    go_wp2
    go_ret
    exact ⟨rfl, V, U, HN.out⟩

end Go.Proofs.YtcfmcjdgdpignaaDoor
