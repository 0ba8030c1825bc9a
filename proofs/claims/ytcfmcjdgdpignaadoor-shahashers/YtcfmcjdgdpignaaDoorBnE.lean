import Derived.Test.YtcfmcjdgdpignaaDoorBnC
import Derived.Deep.RegionWith
namespace Go.Proofs.YtcfmcjdgdpignaaDoor
open Go.RowKit Go.Lib

set_option maxRecDepth 20000 in
set_option maxHeartbeats 4000000 in
theorem plays_write {w wr : World} {b : Nat} {V U : Nat → Option Nat} (h : Bn w wr b V U 4) (A F : Int) (s : ByteArray) (hs : s.size ≤ 140737488355328) (ht : Tabs w) (hr : RTabs w) (h4 : 4 ≤ w.heap.size) :
    Calls Tryd.prog 14 #[.pointer (some ⟨b, 0, none⟩), .agg #[.int .i64 2, .int .i64 A, .int .i64 F, .string s]] wr fun e w' => e = .returned (.bool true) ∧ ∃ V' U', Bn w w' b V' U' 4 := by
  have HTT : Hid (∀ W, Below w.heap.size w W → Tabs W ∧ RTabs W ∧ 4 ≤ W.heap.size) := fun W h => ⟨ht.below h (by omega), hr.below h h4, by have := h.size; omega⟩
  have hN0 : Bn w (wr.alloc (.cells #[.int .i64 2, .int .i64 A, .int .i64 F, .string s] 44)) b V U 4 := h.below ((Below.refl _ _).alloc (Nat.le_refl _) _)
  have hO0 : Ob (wr.alloc (.cells #[.int .i64 2, .int .i64 A, .int .i64 F, .string s] 44)) wr.heap.size 2 A F s := heap_new _ _
  have g1 := hO0.c1
  have g2 := hO0.c2
  clear h ht hr
  go_enter Tryd.func14, Tryd.ntmps14
  go_wp2_with fail
  refine (place4_any A _).mono ?_
  rintro e w' ⟨⟨j, rfl, hj⟩, rfl⟩
  go_wp2_with fail
  refine (place4_any F _).mono ?_
  rintro e w' ⟨⟨m, rfl, hm⟩, rfl⟩
  clear g1 g2
  revert hN0 hO0
  generalize wr.alloc (.cells #[.int .i64 2, .int .i64 A, .int .i64 F, .string s] 44) = w0
  generalize wr.heap.size = o
  intro hN hO
  clear wr
  have c0 := hO.c0
  have c3 := hO.c3
  have HN : Hid (Bn w w0 b V U 4) := hN
  have HO : Hid (Ob w0 o 2 A F s) := hO
  have hjI : (j : Int) < 4 := by omega
  have hmI : (m : Int) < 4 := by omega
  clear hN hO
  have hpl := HN.out.pl j hj (by omega)
  have q1 := HN.out.ownAt j hj
  have q2 := HN.out.refAt j hj
  cases hV : V j with
  | none =>
    cases hU : U j with
    | none =>
      rw [hU] at q2
      have c6 : w0.cell? ⟨b, 4 + j, none⟩ = some (.pointer none) := q2
      have hno := none_any 2 A F s w0
      have c1 := HO.out.c1
      have c2 := HO.out.c2
      clear q1 q2 hpl
      go_wp2_with (go_at_call 28; refine hno.mono ?_; rintro e w1 ⟨rfl, hb1⟩)
      go_ret
      exact ⟨rfl, V, U, HN.out.below hb1⟩
    | some q => rw [hV, hU] at hpl; exact hpl.elim
  | some p =>
    cases hU : U j with
    | none => rw [hV, hU] at hpl; exact hpl.elim
    | some q =>
      rw [hV] at q1
      rw [hU] at q2
      have c5 : w0.cell? ⟨b, j, none⟩ = some (.pointer (some ⟨p, 0, none⟩)) := q1
      have c6 : w0.cell? ⟨b, 4 + j, none⟩ = some (.pointer (some ⟨q, 0, none⟩)) := q2
      rw [hV, hU] at hpl
      obtain ⟨f, ah, t, hP⟩ := hpl
      clear q1 q2
      have HC5 : Hid (∀ W, Below w0.heap.size w0 W → W.cell? ⟨b, j, none⟩ = some (.pointer (some ⟨p, 0, none⟩))) := fun W hb => (hb.cell (p := ⟨b, j, none⟩) (heap_lt HN.out.own)).trans c5
      have HC6 : Hid (∀ W, Below w0.heap.size w0 W → W.cell? ⟨b, 4 + j, none⟩ = some (.pointer (some ⟨q, 0, none⟩))) := fun W hb => (hb.cell (p := ⟨b, 4 + j, none⟩) (heap_lt HN.out.own)).trans c6
      have HP : Hid (Pair w0 p q f ah t) := hP
      have HT0 : Hid (∀ W, Below w0.heap.size w0 W → Tabs W ∧ RTabs W ∧ 4 ≤ W.heap.size) := fun W hb => HTT.out W (HN.out.bel.trans (hb.mono HN.out.bel.size))
      clear hP
      have HC3 : Hid (∀ W, Below w0.heap.size w0 W → W.cell? ⟨o, 3, none⟩ = some (.string s)) := fun W hb => (hb.cell (p := ⟨o, 3, none⟩) (heap_lt HO.out)).trans c3
      by_cases hbig : 1099511627776 < ah + t.size + s.size
      · have HCO : Hid (∀ W, Below w0.heap.size w0 W → Calls Tryd.prog 10 #[.pointer (some ⟨p, 0, none⟩), .string s] W fun e w' => e = .returned (.int .i64 3) ∧ Below W.heap.size W w') := fun W hb => by
          refine (write_big (HP.out.hs.below hb HP.out.hs.lt) s HP.out.le (by omega) hbig).mono ?_
          rintro e w' ⟨rfl, rfl⟩
          exact ⟨rfl, Below.refl _ _⟩
        have HCR : Hid (∀ W, Below w0.heap.size w0 W → Calls Tryd.prog 29 #[.pointer (some ⟨q, 0, none⟩), .string s] W fun e w' => e = .returned (.int .i64 3) ∧ Below W.heap.size W w') := fun W hb => rwrite_big (HP.out.rh.below hb HP.out.rh.lt) s HP.out.le hs hbig
        have hS0 : Below w0.heap.size w0 w0.drew := (Below.refl _ _).drew
        clear c5 HTT HT0 HP
        go_wp2_with fail
        clear c0 c3 c6
        refine wp_region_held_drew (S := fun W => Below w0.heap.size w0 W) (by kernel_rfl) hS0 ?_
        intro hS
        clear hS0
        revert hS
        generalize w0.drew = Wv
        intro hS
        refine wpAnyH_take (i := 0) (oi := { dst := some 97, op := .move (.tmp 0), type := _, pos := _, after := _, guard := none }) (v := .pointer (some ⟨b, 0, none⟩)) rfl (by kernel_rfl) (by kernel_rfl) (by kernel_rfl) (fun _ _ _ h => h) (Or.inl ⟨by rfl, by intro x _; go_simp⟩) hS ?_
        (try simp only [Act.put, List.setIfInBounds_toArray, List.set_cons_zero, List.set_cons_succ])
        refine wpAnyH_take (i := 1) (oi := { dst := some 98, op := .move (.tmp 5), type := _, pos := _, after := _, guard := none }) (v := .int .i64 (j : Int)) rfl (by kernel_rfl) (by kernel_rfl) (by kernel_rfl) (fun _ _ _ h => h) (Or.inl ⟨by rfl, by intro x _; go_simp⟩) hS ?_
        (try simp only [Act.put, List.setIfInBounds_toArray, List.set_cons_zero, List.set_cons_succ])
        refine wpAnyH_take (i := 2) (oi := { dst := some 99, op := .nilCheck (.tmp 97), type := _, pos := _, after := _, guard := none }) (v := .pointer (some ⟨b, 0, none⟩)) rfl (by kernel_rfl) (by kernel_rfl) (by kernel_rfl) (fun _ _ _ h => h) (Or.inl ⟨by rfl, by intro x _; go_simp⟩) hS ?_
        (try simp only [Act.put, List.setIfInBounds_toArray, List.set_cons_zero, List.set_cons_succ])
        refine wpAnyH_take (i := 3) (oi := { dst := some 100, op := .fieldAddr 41 (.tmp 99) 0, type := _, pos := _, after := _, guard := none }) (v := .pointer (some ⟨b, 0, none⟩)) rfl (by kernel_rfl) (by kernel_rfl) (by kernel_rfl) (fun _ _ _ h => h) (Or.inl ⟨by rfl, by intro x _; go_simp⟩) hS ?_
        (try simp only [Act.put, List.setIfInBounds_toArray, List.set_cons_zero, List.set_cons_succ])
        refine wpAnyH_take (i := 4) (oi := { dst := some 101, op := .indexAddr 37 (.tmp 100) (.tmp 98), type := _, pos := _, after := _, guard := none }) (v := .pointer (some ⟨b, j, none⟩)) rfl (by kernel_rfl) (by kernel_rfl) (by kernel_rfl) (fun _ _ _ h => h) (Or.inl ⟨by rfl, by intro x _; go_simp⟩) hS ?_
        (try simp only [Act.put, List.setIfInBounds_toArray, List.set_cons_zero, List.set_cons_succ])
        refine wpAnyH_take (i := 5) (oi := { dst := some 102, op := .load 22 (.tmp 101), type := _, pos := _, after := _, guard := none }) (v := .pointer (some ⟨p, 0, none⟩)) rfl (by kernel_rfl) (by kernel_rfl) (by kernel_rfl) (fun _ _ _ h => h) (Or.inl ⟨by rfl, by intro x hx; have h1 := HC5.out x hx; go_simp⟩) hS ?_
        (try simp only [Act.put, List.setIfInBounds_toArray, List.set_cons_zero, List.set_cons_succ])
        refine wpAnyH_take (i := 6) (oi := { dst := some 103, op := .fieldAddr 44 (.tmp 3) 3, type := _, pos := _, after := _, guard := none }) (v := .pointer (some ⟨o, 3, none⟩)) rfl (by kernel_rfl) (by kernel_rfl) (by kernel_rfl) (fun _ _ _ h => h) (Or.inl ⟨by rfl, by intro x _; go_simp⟩) hS ?_
        (try simp only [Act.put, List.setIfInBounds_toArray, List.set_cons_zero, List.set_cons_succ])
        refine wpAnyH_take (i := 7) (oi := { dst := some 104, op := .load 9 (.tmp 103), type := _, pos := _, after := _, guard := none }) (v := .string s) rfl (by kernel_rfl) (by kernel_rfl) (by kernel_rfl) (fun _ _ _ h => h) (Or.inl ⟨by rfl, by intro x hx; have h1 := HC3.out x hx; go_simp⟩) hS ?_
        (try simp only [Act.put, List.setIfInBounds_toArray, List.set_cons_zero, List.set_cons_succ])
        refine wpAnyH_ready (rs := [8]) (by kernel_rfl) (by simp) ?_
        refine AllReadyH.cons (o := { dst := some 105, op := .call { callee := .value (.func 10), args := #[.tmp 102, .tmp 104], argTypes := #[22, 9] }, type := _, pos := _, after := _, guard := none }) rfl (fun K hK => ?_) AllReadyH.nil
        go_simp
        refine (HCO.out Wv hS).mono ?_
        rintro e W2 ⟨rfl, hbc⟩
        have hS2 := hS.trans (hbc.mono hS.size)
        refine hK.out _ _ hS2 (fun _ => ?_)
        clear hK K
        (try simp only [Act.put, List.setIfInBounds_toArray, List.set_cons_zero, List.set_cons_succ])
        revert hS2
        clear hS hbc
        generalize W2 = Wv
        intro hS
        refine wpAnyH_take (i := 9) (oi := { dst := some 8, op := .assign (.tmp 105), type := _, pos := _, after := _, guard := none }) (v := .int .i64 3) rfl (by kernel_rfl) (by kernel_rfl) (by kernel_rfl) (fun _ _ _ h => h) (Or.inl ⟨by rfl, by intro x _; go_simp⟩) hS ?_
        (try simp only [Act.put, List.setIfInBounds_toArray, List.set_cons_zero, List.set_cons_succ])
        refine wpAnyH_done (by kernel_rfl) ?_ _
        have c6 := HC6.out Wv hS
        have c3 := HC3.out Wv hS
        have hS0 : Below w0.heap.size w0 Wv.drew := hS.drew
        clear hS
        go_wp2_with fail
        clear c3 c6
        refine wp_region_held_drew (S := fun W => Below w0.heap.size w0 W) (by kernel_rfl) hS0 ?_
        intro hS
        clear hS0
        revert hS
        generalize Wv.drew = Wv2
        intro hS
        revert hS
        generalize Wv2 = Wv
        intro hS
        refine wpAnyH_take (i := 0) (oi := { dst := some 106, op := .move (.tmp 8), type := _, pos := _, after := _, guard := none }) (v := .int .i64 3) rfl (by kernel_rfl) (by kernel_rfl) (by kernel_rfl) (fun _ _ _ h => h) (Or.inl ⟨by rfl, by intro x _; go_simp⟩) hS ?_
        (try simp only [Act.put, List.setIfInBounds_toArray, List.set_cons_zero, List.set_cons_succ])
        refine wpAnyH_take (i := 2) (oi := { dst := some 108, op := .move (.tmp 0), type := _, pos := _, after := _, guard := none }) (v := .pointer (some ⟨b, 0, none⟩)) rfl (by kernel_rfl) (by kernel_rfl) (by kernel_rfl) (fun _ _ _ h => h) (Or.inl ⟨by rfl, by intro x _; go_simp⟩) hS ?_
        (try simp only [Act.put, List.setIfInBounds_toArray, List.set_cons_zero, List.set_cons_succ])
        refine wpAnyH_take (i := 3) (oi := { dst := some 109, op := .move (.tmp 5), type := _, pos := _, after := _, guard := none }) (v := .int .i64 (j : Int)) rfl (by kernel_rfl) (by kernel_rfl) (by kernel_rfl) (fun _ _ _ h => h) (Or.inl ⟨by rfl, by intro x _; go_simp⟩) hS ?_
        (try simp only [Act.put, List.setIfInBounds_toArray, List.set_cons_zero, List.set_cons_succ])
        refine wpAnyH_take (i := 4) (oi := { dst := some 110, op := .nilCheck (.tmp 108), type := _, pos := _, after := _, guard := none }) (v := .pointer (some ⟨b, 0, none⟩)) rfl (by kernel_rfl) (by kernel_rfl) (by kernel_rfl) (fun _ _ _ h => h) (Or.inl ⟨by rfl, by intro x _; go_simp⟩) hS ?_
        (try simp only [Act.put, List.setIfInBounds_toArray, List.set_cons_zero, List.set_cons_succ])
        refine wpAnyH_take (i := 5) (oi := { dst := some 111, op := .fieldAddr 41 (.tmp 110) 1, type := _, pos := _, after := _, guard := none }) (v := .pointer (some ⟨b, 4, none⟩)) rfl (by kernel_rfl) (by kernel_rfl) (by kernel_rfl) (fun _ _ _ h => h) (Or.inl ⟨by rfl, by intro x _; go_simp⟩) hS ?_
        (try simp only [Act.put, List.setIfInBounds_toArray, List.set_cons_zero, List.set_cons_succ])
        refine wpAnyH_take (i := 6) (oi := { dst := some 112, op := .indexAddr 39 (.tmp 111) (.tmp 109), type := _, pos := _, after := _, guard := none }) (v := .pointer (some ⟨b, 4 + j, none⟩)) rfl (by kernel_rfl) (by kernel_rfl) (by kernel_rfl) (fun _ _ _ h => h) (Or.inl ⟨by rfl, by intro x _; go_simp⟩) hS ?_
        (try simp only [Act.put, List.setIfInBounds_toArray, List.set_cons_zero, List.set_cons_succ])
        refine wpAnyH_take (i := 7) (oi := { dst := some 113, op := .load 38 (.tmp 112), type := _, pos := _, after := _, guard := none }) (v := .pointer (some ⟨q, 0, none⟩)) rfl (by kernel_rfl) (by kernel_rfl) (by kernel_rfl) (fun _ _ _ h => h) (Or.inl ⟨by rfl, by intro x hx; have h1 := HC6.out x hx; go_simp⟩) hS ?_
        (try simp only [Act.put, List.setIfInBounds_toArray, List.set_cons_zero, List.set_cons_succ])
        refine wpAnyH_take (i := 8) (oi := { dst := some 114, op := .fieldAddr 44 (.tmp 3) 3, type := _, pos := _, after := _, guard := none }) (v := .pointer (some ⟨o, 3, none⟩)) rfl (by kernel_rfl) (by kernel_rfl) (by kernel_rfl) (fun _ _ _ h => h) (Or.inl ⟨by rfl, by intro x _; go_simp⟩) hS ?_
        (try simp only [Act.put, List.setIfInBounds_toArray, List.set_cons_zero, List.set_cons_succ])
        refine wpAnyH_take (i := 9) (oi := { dst := some 115, op := .load 9 (.tmp 114), type := _, pos := _, after := _, guard := none }) (v := .string s) rfl (by kernel_rfl) (by kernel_rfl) (by kernel_rfl) (fun _ _ _ h => h) (Or.inl ⟨by rfl, by intro x hx; have h1 := HC3.out x hx; go_simp⟩) hS ?_
        (try simp only [Act.put, List.setIfInBounds_toArray, List.set_cons_zero, List.set_cons_succ])
        refine wpAnyH_ready (rs := [1]) (by kernel_rfl) (by simp) ?_
        refine AllReadyH.cons (o := { dst := some 107, op := .call { callee := .value (.func 6), args := #[.tmp 106], argTypes := #[23] }, type := _, pos := _, after := _, guard := none }) rfl (fun K hK => ?_) AllReadyH.nil
        go_simp
        refine (num2_any 3 Wv).mono ?_
        rintro e W2 ⟨rfl, rfl⟩
        refine hK.out _ _ hS (fun _ => ?_)
        clear hK K
        (try simp only [Act.put, List.setIfInBounds_toArray, List.set_cons_zero, List.set_cons_succ])
        refine wpAnyH_ready (rs := [10]) (by kernel_rfl) (by simp) ?_
        refine AllReadyH.cons (o := { dst := some 116, op := .call { callee := .value (.func 29), args := #[.tmp 113, .tmp 115], argTypes := #[38, 9] }, type := _, pos := _, after := _, guard := none }) rfl (fun K hK => ?_) AllReadyH.nil
        go_simp
        refine (HCR.out Wv hS).mono ?_
        rintro e W2 ⟨rfl, hbc⟩
        have hS2 := hS.trans (hbc.mono hS.size)
        refine hK.out _ _ hS2 (fun _ => ?_)
        clear hK K
        (try simp only [Act.put, List.setIfInBounds_toArray, List.set_cons_zero, List.set_cons_succ])
        revert hS2
        clear hS hbc
        generalize W2 = Wv
        intro hS
        refine wpAnyH_take (i := 11) (oi := { dst := some 117, op := .binOp .eql 3 (.tmp 107) (.tmp 116) 3, type := _, pos := _, after := _, guard := none }) (v := .bool true) rfl (by kernel_rfl) (by kernel_rfl) (by kernel_rfl) (fun _ _ _ h => h) (Or.inl ⟨by rfl, by intro x _; go_simp⟩) hS ?_
        (try simp only [Act.put, List.setIfInBounds_toArray, List.set_cons_zero, List.set_cons_succ])
        refine wpAnyH_take (i := 12) (oi := { dst := some 4, op := .assign (.tmp 117), type := _, pos := _, after := _, guard := none }) (v := .bool true) rfl (by kernel_rfl) (by kernel_rfl) (by kernel_rfl) (fun _ _ _ h => h) (Or.inl ⟨by rfl, by intro x _; go_simp⟩) hS ?_
        (try simp only [Act.put, List.setIfInBounds_toArray, List.set_cons_zero, List.set_cons_succ])
        refine wpAnyH_done (by kernel_rfl) ?_ _
        go_wp2
        go_ret
        exact ⟨rfl, V, U, HN.out.below hS⟩
      · have HCO : Hid (∀ W, Below w0.heap.size w0 W → Calls Tryd.prog 10 #[.pointer (some ⟨p, 0, none⟩), .string s] W fun e w' => e = .returned (.int .i64 0) ∧ Hs w' p (eat f (t ++ s).data.toList).1 (eat f (t ++ s).data.toList).2 (ah + (t ++ s).size) ∧ Only [p] W w' ∧ Tabs w') := fun W hb => by
          have h := write_any (HP.out.hs.below hb HP.out.hs.lt) (HT0.out W hb).1 s (by omega)
          rw [← eat_append, Nat.add_assoc, ← ByteArray.size_append, ← Array.toList_append, ← ByteArray.data_append] at h
          exact h
        have HOP : Hid (o ∉ [p]) := by
          have h1 : o ≠ p := ne_of_types HO.out HP.out.hs.heap (by decide)
          show o ∉ [p]
          simp; omega
        have HPQ : Hid (q ∉ [p]) := by
          have h1 : p ≠ q := ne_of_types HP.out.hs.heap HP.out.rh (by decide)
          show q ∉ [p]
          simp; omega
        have HBP : Hid (b ∉ [p]) := by
          have h1 : p ≠ b := ne_of_types HP.out.hs.heap HN.out.own (by decide)
          show b ∉ [p]
          simp; omega
        have HSK : Hid (∀ Wv W, Below w0.heap.size w0 Wv → Only [p] Wv W → (W.cell? ⟨b, j, none⟩ = some (.pointer (some ⟨p, 0, none⟩)) ∧ W.cell? ⟨o, 3, none⟩ = some (.string s))) := fun Wv W hb ho => by
          have e1 := ho.block b (by have := heap_lt HN.out.own; have := hb.size; omega) HBP.out
          have e2 := ho.block o (by have := heap_lt HO.out; have := hb.size; omega) HOP.out
          refine ⟨Eq.trans ?_ (HC5.out Wv hb), Eq.trans ?_ (HC3.out Wv hb)⟩
          · unfold World.cell?; rw [e1]
          · unfold World.cell?; rw [e2]
        have hX0 : Below w0.heap.size w0 w0.drew := (Below.refl _ _).drew
        have hS0 := And.intro (HC5.out _ hX0) (HC3.out _ hX0)
        clear c5 HTT HT0
        go_wp2_with fail
        clear c0 c3 c6
        refine wp_region_held_drew (S := fun W => W.cell? ⟨b, j, none⟩ = some (.pointer (some ⟨p, 0, none⟩)) ∧ W.cell? ⟨o, 3, none⟩ = some (.string s)) (by kernel_rfl) hS0 ?_
        intro hS
        clear hS0
        revert hS hX0
        generalize w0.drew = Wv
        intro hX hS
        refine wpAnyH_take (i := 0) (oi := { dst := some 97, op := .move (.tmp 0), type := _, pos := _, after := _, guard := none }) (v := .pointer (some ⟨b, 0, none⟩)) rfl (by kernel_rfl) (by kernel_rfl) (by kernel_rfl) (fun _ _ _ h => h) (Or.inl ⟨by rfl, by intro x _; go_simp⟩) hS ?_
        (try simp only [Act.put, List.setIfInBounds_toArray, List.set_cons_zero, List.set_cons_succ])
        refine wpAnyH_take (i := 1) (oi := { dst := some 98, op := .move (.tmp 5), type := _, pos := _, after := _, guard := none }) (v := .int .i64 (j : Int)) rfl (by kernel_rfl) (by kernel_rfl) (by kernel_rfl) (fun _ _ _ h => h) (Or.inl ⟨by rfl, by intro x _; go_simp⟩) hS ?_
        (try simp only [Act.put, List.setIfInBounds_toArray, List.set_cons_zero, List.set_cons_succ])
        refine wpAnyH_take (i := 2) (oi := { dst := some 99, op := .nilCheck (.tmp 97), type := _, pos := _, after := _, guard := none }) (v := .pointer (some ⟨b, 0, none⟩)) rfl (by kernel_rfl) (by kernel_rfl) (by kernel_rfl) (fun _ _ _ h => h) (Or.inl ⟨by rfl, by intro x _; go_simp⟩) hS ?_
        (try simp only [Act.put, List.setIfInBounds_toArray, List.set_cons_zero, List.set_cons_succ])
        refine wpAnyH_take (i := 3) (oi := { dst := some 100, op := .fieldAddr 41 (.tmp 99) 0, type := _, pos := _, after := _, guard := none }) (v := .pointer (some ⟨b, 0, none⟩)) rfl (by kernel_rfl) (by kernel_rfl) (by kernel_rfl) (fun _ _ _ h => h) (Or.inl ⟨by rfl, by intro x _; go_simp⟩) hS ?_
        (try simp only [Act.put, List.setIfInBounds_toArray, List.set_cons_zero, List.set_cons_succ])
        refine wpAnyH_take (i := 4) (oi := { dst := some 101, op := .indexAddr 37 (.tmp 100) (.tmp 98), type := _, pos := _, after := _, guard := none }) (v := .pointer (some ⟨b, j, none⟩)) rfl (by kernel_rfl) (by kernel_rfl) (by kernel_rfl) (fun _ _ _ h => h) (Or.inl ⟨by rfl, by intro x _; go_simp⟩) hS ?_
        (try simp only [Act.put, List.setIfInBounds_toArray, List.set_cons_zero, List.set_cons_succ])
        refine wpAnyH_take (i := 5) (oi := { dst := some 102, op := .load 22 (.tmp 101), type := _, pos := _, after := _, guard := none }) (v := .pointer (some ⟨p, 0, none⟩)) rfl (by kernel_rfl) (by kernel_rfl) (by kernel_rfl) (fun _ _ _ h => h) (Or.inl ⟨by rfl, by intro x hx; have h1 := hx.1; go_simp⟩) hS ?_
        (try simp only [Act.put, List.setIfInBounds_toArray, List.set_cons_zero, List.set_cons_succ])
        refine wpAnyH_take (i := 6) (oi := { dst := some 103, op := .fieldAddr 44 (.tmp 3) 3, type := _, pos := _, after := _, guard := none }) (v := .pointer (some ⟨o, 3, none⟩)) rfl (by kernel_rfl) (by kernel_rfl) (by kernel_rfl) (fun _ _ _ h => h) (Or.inl ⟨by rfl, by intro x _; go_simp⟩) hS ?_
        (try simp only [Act.put, List.setIfInBounds_toArray, List.set_cons_zero, List.set_cons_succ])
        refine wpAnyH_take (i := 7) (oi := { dst := some 104, op := .load 9 (.tmp 103), type := _, pos := _, after := _, guard := none }) (v := .string s) rfl (by kernel_rfl) (by kernel_rfl) (by kernel_rfl) (fun _ _ _ h => h) (Or.inl ⟨by rfl, by intro x hx; have h1 := hx.2; go_simp⟩) hS ?_
        (try simp only [Act.put, List.setIfInBounds_toArray, List.set_cons_zero, List.set_cons_succ])
        refine wpAnyH_ready (rs := [8]) (by kernel_rfl) (by simp) ?_
        refine AllReadyH.cons (o := { dst := some 105, op := .call { callee := .value (.func 10), args := #[.tmp 102, .tmp 104], argTypes := #[22, 9] }, type := _, pos := _, after := _, guard := none }) rfl (fun K hK => ?_) AllReadyH.nil
        go_simp
        refine (HCO.out Wv hX).mono ?_
        rintro e W2 ⟨rfl, hH2, ho2, htab⟩
        clear htab
        have hS2 := HSK.out Wv W2 hX ho2
        refine hK.out _ _ hS2 (fun _ => ?_)
        clear hK K
        (try simp only [Act.put, List.setIfInBounds_toArray, List.set_cons_zero, List.set_cons_succ])
        clear hS
        have hS := hS2
        clear hS2
        refine wpAnyH_take (i := 9) (oi := { dst := some 8, op := .assign (.tmp 105), type := _, pos := _, after := _, guard := none }) (v := .int .i64 0) rfl (by kernel_rfl) (by kernel_rfl) (by kernel_rfl) (fun _ _ _ h => h) (Or.inl ⟨by rfl, by intro x _; go_simp⟩) hS ?_
        (try simp only [Act.put, List.setIfInBounds_toArray, List.set_cons_zero, List.set_cons_succ])
        refine wpAnyH_done (by kernel_rfl) ?_ _
        have hN2 := (HN.out.below hX).wroteOwn j p hj hV ho2 ⟨_, hH2.heap⟩
        have hO2 := (HO.out.below hX).only ho2 HOP.out
        have hR2 : Rh W2 q f ah t := (HP.out.rh.below hX HP.out.rh.lt).only ho2 HPQ.out
        have HOK : Hid f.OK := HP.out.ok
        have HQP : Hid (p ∉ [q]) := by
          have h1 : p ≠ q := ne_of_types HP.out.hs.heap HP.out.rh (by decide)
          show p ∉ [q]
          simp; omega
        clear ho2 hX hS HCO HSK HN HO HPQ HP HC3 HC5 HC6 HOP HBP
        have c6 : W2.cell? ⟨b, 4 + j, none⟩ = some (.pointer (some ⟨q, 0, none⟩)) := by
          have h := hN2.refAt j hj
          rwa [hU] at h
        have c3 := hO2.c3
        have hS0 : W2.drew.cell? ⟨b, 4 + j, none⟩ = some (.pointer (some ⟨q, 0, none⟩)) ∧ W2.drew.cell? ⟨o, 3, none⟩ = some (.string s) := ⟨c6, c3⟩
        have hN4 : Bn w W2.drew b V U j := hN2.below (Below.refl _ _).drew
        have hR4 : Rh W2.drew q f ah t := hR2
        have hH4 : Hs W2.drew p (eat f (t ++ s).data.toList).1 (eat f (t ++ s).data.toList).2 (ah + (t ++ s).size) := hH2.kept rfl
        have HSK2 : Hid (∀ W, Only [q] W2.drew W → (W.cell? ⟨b, 4 + j, none⟩ = some (.pointer (some ⟨q, 0, none⟩)) ∧ W.cell? ⟨o, 3, none⟩ = some (.string s))) := fun W ho => by
          have n1 : q ≠ b := ne_of_types hR2 hN2.own (by decide)
          have n2 : o ≠ q := ne_of_types hO2 hR2 (by decide)
          have e1 := ho.block b (heap_lt hN4.own) (by simp; omega)
          have e2 := ho.block o (heap_lt (w := W2) hO2) (by simp; omega)
          refine ⟨Eq.trans ?_ c6, Eq.trans ?_ c3⟩
          · show W.cell? _ = W2.drew.cell? _
            unfold World.cell?; rw [e1]
          · show W.cell? _ = W2.drew.cell? _
            unfold World.cell?; rw [e2]
        clear hN2 hR2 hH2 hO2
        go_wp2_with fail
        clear c3 c6
        refine wp_region_held_drew (S := fun W => W.cell? ⟨b, 4 + j, none⟩ = some (.pointer (some ⟨q, 0, none⟩)) ∧ W.cell? ⟨o, 3, none⟩ = some (.string s)) (by kernel_rfl) hS0 ?_
        intro hS
        clear hS0
        revert hS hN4 hR4 hH4 HSK2
        generalize W2.drew = Wv2
        intro hN2 hR2 hH2 HSK2 hS
        revert hN2 hR2 hH2 HSK2 hS
        generalize Wv2 = Wv
        intro hN2 hR2 hH2 HSK2 hS
        refine wpAnyH_take (i := 0) (oi := { dst := some 106, op := .move (.tmp 8), type := _, pos := _, after := _, guard := none }) (v := .int .i64 0) rfl (by kernel_rfl) (by kernel_rfl) (by kernel_rfl) (fun _ _ _ h => h) (Or.inl ⟨by rfl, by intro x _; go_simp⟩) hS ?_
        (try simp only [Act.put, List.setIfInBounds_toArray, List.set_cons_zero, List.set_cons_succ])
        refine wpAnyH_take (i := 2) (oi := { dst := some 108, op := .move (.tmp 0), type := _, pos := _, after := _, guard := none }) (v := .pointer (some ⟨b, 0, none⟩)) rfl (by kernel_rfl) (by kernel_rfl) (by kernel_rfl) (fun _ _ _ h => h) (Or.inl ⟨by rfl, by intro x _; go_simp⟩) hS ?_
        (try simp only [Act.put, List.setIfInBounds_toArray, List.set_cons_zero, List.set_cons_succ])
        refine wpAnyH_take (i := 3) (oi := { dst := some 109, op := .move (.tmp 5), type := _, pos := _, after := _, guard := none }) (v := .int .i64 (j : Int)) rfl (by kernel_rfl) (by kernel_rfl) (by kernel_rfl) (fun _ _ _ h => h) (Or.inl ⟨by rfl, by intro x _; go_simp⟩) hS ?_
        (try simp only [Act.put, List.setIfInBounds_toArray, List.set_cons_zero, List.set_cons_succ])
        refine wpAnyH_take (i := 4) (oi := { dst := some 110, op := .nilCheck (.tmp 108), type := _, pos := _, after := _, guard := none }) (v := .pointer (some ⟨b, 0, none⟩)) rfl (by kernel_rfl) (by kernel_rfl) (by kernel_rfl) (fun _ _ _ h => h) (Or.inl ⟨by rfl, by intro x _; go_simp⟩) hS ?_
        (try simp only [Act.put, List.setIfInBounds_toArray, List.set_cons_zero, List.set_cons_succ])
        refine wpAnyH_take (i := 5) (oi := { dst := some 111, op := .fieldAddr 41 (.tmp 110) 1, type := _, pos := _, after := _, guard := none }) (v := .pointer (some ⟨b, 4, none⟩)) rfl (by kernel_rfl) (by kernel_rfl) (by kernel_rfl) (fun _ _ _ h => h) (Or.inl ⟨by rfl, by intro x _; go_simp⟩) hS ?_
        (try simp only [Act.put, List.setIfInBounds_toArray, List.set_cons_zero, List.set_cons_succ])
        refine wpAnyH_take (i := 6) (oi := { dst := some 112, op := .indexAddr 39 (.tmp 111) (.tmp 109), type := _, pos := _, after := _, guard := none }) (v := .pointer (some ⟨b, 4 + j, none⟩)) rfl (by kernel_rfl) (by kernel_rfl) (by kernel_rfl) (fun _ _ _ h => h) (Or.inl ⟨by rfl, by intro x _; go_simp⟩) hS ?_
        (try simp only [Act.put, List.setIfInBounds_toArray, List.set_cons_zero, List.set_cons_succ])
        refine wpAnyH_take (i := 7) (oi := { dst := some 113, op := .load 38 (.tmp 112), type := _, pos := _, after := _, guard := none }) (v := .pointer (some ⟨q, 0, none⟩)) rfl (by kernel_rfl) (by kernel_rfl) (by kernel_rfl) (fun _ _ _ h => h) (Or.inl ⟨by rfl, by intro x hx; have h1 := hx.1; go_simp⟩) hS ?_
        (try simp only [Act.put, List.setIfInBounds_toArray, List.set_cons_zero, List.set_cons_succ])
        refine wpAnyH_take (i := 8) (oi := { dst := some 114, op := .fieldAddr 44 (.tmp 3) 3, type := _, pos := _, after := _, guard := none }) (v := .pointer (some ⟨o, 3, none⟩)) rfl (by kernel_rfl) (by kernel_rfl) (by kernel_rfl) (fun _ _ _ h => h) (Or.inl ⟨by rfl, by intro x _; go_simp⟩) hS ?_
        (try simp only [Act.put, List.setIfInBounds_toArray, List.set_cons_zero, List.set_cons_succ])
        refine wpAnyH_take (i := 9) (oi := { dst := some 115, op := .load 9 (.tmp 114), type := _, pos := _, after := _, guard := none }) (v := .string s) rfl (by kernel_rfl) (by kernel_rfl) (by kernel_rfl) (fun _ _ _ h => h) (Or.inl ⟨by rfl, by intro x hx; have h1 := hx.2; go_simp⟩) hS ?_
        (try simp only [Act.put, List.setIfInBounds_toArray, List.set_cons_zero, List.set_cons_succ])
        refine wpAnyH_ready (rs := [1]) (by kernel_rfl) (by simp) ?_
        refine AllReadyH.cons (o := { dst := some 107, op := .call { callee := .value (.func 6), args := #[.tmp 106], argTypes := #[23] }, type := _, pos := _, after := _, guard := none }) rfl (fun K hK => ?_) AllReadyH.nil
        go_simp
        refine (num2_any 0 Wv).mono ?_
        rintro e W2 ⟨rfl, rfl⟩
        refine hK.out _ _ hS (fun _ => ?_)
        clear hK K
        (try simp only [Act.put, List.setIfInBounds_toArray, List.set_cons_zero, List.set_cons_succ])
        refine wpAnyH_ready (rs := [10]) (by kernel_rfl) (by simp) ?_
        refine AllReadyH.cons (o := { dst := some 116, op := .call { callee := .value (.func 29), args := #[.tmp 113, .tmp 115], argTypes := #[38, 9] }, type := _, pos := _, after := _, guard := none }) rfl (fun K hK => ?_) AllReadyH.nil
        go_simp
        refine (rwrite_any hR2 s (by omega)).mono ?_
        rintro e W2 ⟨rfl, hR3, ho3⟩
        have hS2 := HSK2.out W2 ho3
        refine hK.out _ _ hS2 (fun _ => ?_)
        clear hK K
        (try simp only [Act.put, List.setIfInBounds_toArray, List.set_cons_zero, List.set_cons_succ])
        clear hS
        have hS := hS2
        clear hS2
        refine wpAnyH_take (i := 11) (oi := { dst := some 117, op := .binOp .eql 3 (.tmp 107) (.tmp 116) 3, type := _, pos := _, after := _, guard := none }) (v := .bool true) rfl (by kernel_rfl) (by kernel_rfl) (by kernel_rfl) (fun _ _ _ h => h) (Or.inl ⟨by rfl, by intro x _; go_simp⟩) hS ?_
        (try simp only [Act.put, List.setIfInBounds_toArray, List.set_cons_zero, List.set_cons_succ])
        refine wpAnyH_take (i := 12) (oi := { dst := some 4, op := .assign (.tmp 117), type := _, pos := _, after := _, guard := none }) (v := .bool true) rfl (by kernel_rfl) (by kernel_rfl) (by kernel_rfl) (fun _ _ _ h => h) (Or.inl ⟨by rfl, by intro x _; go_simp⟩) hS ?_
        (try simp only [Act.put, List.setIfInBounds_toArray, List.set_cons_zero, List.set_cons_succ])
        refine wpAnyH_done (by kernel_rfl) ?_ _
        go_wp2
        go_ret
        have hN3 := hN2.wroteRef j q hj (.inr rfl) hU ho3 ⟨_, hR3⟩
        refine ⟨rfl, V, U, hN3.close ?_⟩
        rw [hV, hU]
        exact ⟨f, ah, t ++ s, hH2.only ho3 HQP.out, hR3, HOK.out, by rw [ByteArray.size_append]; omega⟩

end Go.Proofs.YtcfmcjdgdpignaaDoor
