import Derived.Test.YtckbbbcjpklnmaaDoorIxV
namespace Go.Proofs.YtckbbbcjpklnmaaDoor.Ix
open Go.RowKit Go.Lib Go.Deep

/-- a call of a Go function as one step of a region that draws, by its contract -/
theorem step_call {P : Program} {ops : Array Oper} {o : Oper} {a : Act} {w : World} {K : Act → World → Prop} {Q : Exit → Act → World → Prop} {E : Prop} (hg : o.guard = none) (f : FuncId) (hcf : ∀ args w, (callFunc f args).run P w = .ok (.enter f args) w) (xs : Array Operand) (ts : Array TypeId) (ho : o.op = Op.call { callee := Callee.value (Operand.func f), args := xs, argTypes := ts }) (args : Array Value) (hv : xs.map a.eval = args) {R : Ending → World → Prop} (hc : Calls P f args w R)
    (hR : ∀ e w', R e w' → ∃ v, e = .returned v ∧ K (a.put o.dst v) w') : if Region.wanted o (yielded ops a.tmps) = true then Oper.wp P o a w K Q else E := by
  have hw : Region.wanted o (yielded ops a.tmps) = true := by simp [Region.wanted, hg]
  rw [if_pos hw]
  have hrun : (execOp a.eval o).run P w = .ok (.enter f args) w := by
    unfold execOp
    simp [ho, resolve, invoke, Deferred.ofValue, hcf, hv, Act.eval]
  unfold Oper.wp
  rw [hrun, Oper.upon_enter]
  refine hc.mono fun e w'' hh => ?_
  obtain ⟨v, rfl, hk⟩ := hR e w'' hh
  exact hk
theorem cfRef (args : Array Value) (w : World) : (callFunc 69 args).run Tryd.prog w = .ok (.enter 69 args) w := by kernel_rfl
theorem info48 : (Tryd.prog.info? 48).map (fun i => (i.zero, i.size, i.bytes)) = some (some (.agg #[.string { data := #[] }, .string { data := #[] }]), 2, 32) := by kernel_rfl
/-- a root under way: its pages in a row of their own -/
structure Rs (V : World) (g : Nat) (sl fl dr mf ls pg : Nat) (X : World) (v : Value) (L : List Rf) : Prop where
  on : Only [g] V X
  hg : g < V.heap.size
  hp : X.heap[g]? = some (.cells #[.int .i64 (sl : Int), .int .i64 (fl : Int), .int .i64 (dr : Int), .int .i64 (mf : Int), .int .i64 (ls : Int), .int .i64 (pg : Int), v] 38 (0, 0))
  ho : X.ownsRow V.heap.size 48 2 v L.length (rfsC L)
theorem Rs.below {V : World} {g sl fl dr mf ls pg : Nat} {X Y : World} {v : Value} {L : List Rf} (h : Rs V g sl fl dr mf ls pg X v L) (hb : Below X.heap.size X Y) : Rs V g sl fl dr mf ls pg Y v L :=
  ⟨only_below h.on hb, h.hg, (hb.block _ (heap_lt h.hp)).trans h.hp, owns_below h.ho hb⟩
theorem Rs.app {V : World} {g sl fl dr mf ls pg : Nat} {X Y : World} {v v' : Value} {L : List Rf} {r : Rf} (h : Rs V g sl fl dr mf ls pg X v L) (hg : X.grownBy Y v.ownBlock) (ho : Y.ownsRow V.heap.size 48 2 v' (L.length + 1) (rfsC L ++ rfC r)) :
    Y.cell? ⟨g, 6, none⟩ = some v ∧ Y.frozen? ⟨g, 6, none⟩ = false ∧ Rs V g sl fl dr mf ls pg (Y.setCell ⟨g, 6, none⟩ v') v' (L ++ [r]) := by
  have hne : ∀ k, v.ownBlock = some k → V.heap.size ≤ k := fun k hk => (h.ho.lt k hk).1
  have hp : Y.heap[g]? = some (.cells #[.int .i64 (sl : Int), .int .i64 (fl : Int), .int .i64 (dr : Int), .int .i64 (mf : Int), .int .i64 (ls : Int), .int .i64 (pg : Int), v] 38 (0, 0)) := (hg.block g (heap_lt h.hp) (fun e => by have := hne g e.symm; have := h.hg; omega)).trans h.hp
  have hp2 : (Y.setCell ⟨g, 6, none⟩ v').heap[g]? = some (.cells #[.int .i64 (sl : Int), .int .i64 (fl : Int), .int .i64 (dr : Int), .int .i64 (mf : Int), .int .i64 (ls : Int), .int .i64 (pg : Int), v'] 38 (0, 0)) := heap_setCell_same _ _ 6 _ _ v' hp
  refine ⟨(cell_of_heap hp).trans rfl, frozen_of_heap hp, ⟨?_, h.hg, hp2, ?_⟩⟩
  · exact (only_grown h.on hg (fun k hk => .inr (hne k hk))).setCell (by simp) _
  · rw [List.length_append, show rfsC (L ++ [r]) = rfsC L ++ rfC r by simp [rfsC]]
    refine owns_keep ho fun k hk => heap_setCell_other _ _ _ _ (fun e => ?_)
    have := (ho.lt k hk).1
    have := h.hg
    have e : k = g := e
    omega
theorem rdRs_at {D : List UInt8} {M i : Nat} (h : i < M) : (rdRs D M)[i]? = some (rdR (seg D (27 + i * 32) 32)) := by
  unfold rdRs rowsA
  rw [List.map_map, List.getElem?_map, List.getElem?_range h]
  rfl
set_option maxRecDepth 20000 in
set_option maxHeartbeats 1000000 in
theorem readRoot_yes' (s : ByteArray) (D : List UInt8) (hD : s.data.toList = D) (sl fl dr mf ls pg M : Nat) (hd : rdCf D = ⟨sl, fl, dr, mf, ls, pg⟩) (hIn : Cn.In ⟨sl, fl, dr, mf, ls, pg⟩) (hM : Cn.pgs ⟨sl, fl, dr, mf, ls, pg⟩ = M) (hM1 : M ≤ 1024) (hMp : 1 ≤ M) (hlen : s.size = 27 + 32 * M) (w : World) (hT : RT w) : Calls Tryd.prog 43 #[.string s] w fun e w' => ∃ a c, e = .returned (.tuple #[.agg #[.int .i64 (sl : Int), .int .i64 (fl : Int), .int .i64 (dr : Int), .int .i64 (mf : Int), .int .i64 (ls : Int), .int .i64 (pg : Int), .slice a M c], .bool true]) ∧ w'.ownsRow w.heap.size 48 2 (.slice a M c) M (rfsC (rdRs D M)) ∧ Below w.heap.size w w' := by
  have hs : 27 ≤ s.size := by omega
  obtain ⟨V0, hV0, hb0, g0⟩ := one_new w #[.int .i64 0, .int .i64 0, .int .i64 0, .int .i64 0, .int .i64 0, .int .i64 0, .slice none 0 0] 38
  have hx1 : (s.extract 1 27).size = 26 := by rw [ByteArray.size_extract]; omega
  have KC := readConfig_any (s.extract 1 27) hx1
  rw [rc_rd s hs, hD, hd] at KC
  obtain ⟨x, hx⟩ : ∃ x, s.extract 1 27 = x := ⟨_, rfl⟩
  rw [hx] at KC
  have KM := fun X hX => mayBe_any (Cn.cf ⟨sl, fl, dr, mf, ls, pg⟩) X hX
  rw [decide_eq_true ((may_iff _ hIn).2 (by rw [hM]; exact hM1))] at KM
  have KP := fun X hX => pageCount_any sl fl dr mf ls pg hIn X hX
  rw [hM] at KP
  have KF : Hid (∀ i, i < M → ∃ y nm tg, (s.extract (27 + 32 * i) s.size).extract 0 32 = y ∧ rdR (seg D (27 + i * 32) 32) = ⟨nm, tg⟩ ∧ ∀ X, Calls Tryd.prog 69 #[.string y] X fun e w' => e = .returned (.agg #[.string nm, .string tg]) ∧ Below X.heap.size X w') := fun i hi => by
    have h1 : (s.extract (27 + 32 * i) s.size).size = s.size - (27 + 32 * i) := by rw [ByteArray.size_extract]; omega
    have h2 : ((s.extract (27 + 32 * i) s.size).extract 0 32).data.toList = seg D (27 + i * 32) 32 := by
      rw [ext_seg _ 0 32 (by omega) (by omega), str_data, ext_seg s _ _ (Nat.le_refl _) (by omega), str_data, hD, seg_seg _ _ _ _ _ (by omega)]
      congr 1
      omega
    refine ⟨_, _, _, rfl, rfl, fun X => ?_⟩
    have := readRef_any ((s.extract (27 + 32 * i) s.size).extract 0 32) (by rw [ByteArray.size_extract]; omega) X
    rw [h2] at this
    exact this
  have l0 := heap_lt g0
  have HX : Hid (∀ w1, Below V0.heap.size V0 w1 → ∃ V1, w1.alloc (.cells #[.int .i64 (sl : Int), .int .i64 (fl : Int), .int .i64 (dr : Int), .int .i64 (mf : Int), .int .i64 (ls : Int), .int .i64 (pg : Int), .slice none 0 0] 38) = V1 ∧ RT V1 ∧ (∀ X, Below V1.heap.size V1 X → RT X ∧ w1.heap.size < X.heap.size ∧ X.heap[w1.heap.size]? = some (.cells #[.int .i64 (sl : Int), .int .i64 (fl : Int), .int .i64 (dr : Int), .int .i64 (mf : Int), .int .i64 (ls : Int), .int .i64 (pg : Int), .slice none 0 0] 38 (0, 0)) ∧ X.heap[w.heap.size]? = some (.cells #[.int .i64 0, .int .i64 0, .int .i64 0, .int .i64 0, .int .i64 0, .int .i64 0, .slice none 0 0] 38 (0, 0)) ∧ Below w.heap.size w X ∧ w.heap.size < w1.heap.size)) := fun w1 h1 => by
    obtain ⟨V1, e1, b1, g1⟩ := one_new w1 #[.int .i64 (sl : Int), .int .i64 (fl : Int), .int .i64 (dr : Int), .int .i64 (mf : Int), .int .i64 (ls : Int), .int .i64 (pg : Int), .slice none 0 0] 38
    have hb : Below w.heap.size w w1 := hb0.trans (h1.mono hb0.size)
    have l1 := heap_lt g1
    refine ⟨V1, e1, (hT.next hb).next b1, fun X hX => ?_⟩
    have hbX : Below w.heap.size w X := (hb.trans (b1.mono hb.size)).trans (hX.mono (Nat.le_trans hb.size b1.size))
    have h3 : w1.heap[w.heap.size]? = some (.cells #[.int .i64 0, .int .i64 0, .int .i64 0, .int .i64 0, .int .i64 0, .int .i64 0, .slice none 0 0] 38 (0, 0)) := (h1.block _ l0).trans g0
    refine ⟨hT.next hbX, Nat.lt_of_lt_of_le l1 hX.size, (hX.block _ l1).trans g1, ?_, hbX, heap_lt h3⟩
    exact (hX.block _ (Nat.lt_of_lt_of_le (heap_lt h3) b1.size)).trans ((b1.block _ (heap_lt h3)).trans h3)
  unfold cfV cfA Cn.cf at KC KM
  simp only at KC KM
  have hI : ¬ (s.size : Int) < 27 := by omega
  have hI2 : (27 : Int) ≤ (s.size : Int) := by omega
  have hneI : ((s.size : Int) != 27 + 32 * (M : Int)) = false := by
    rw [bne_eq_false_iff_eq]
    omega
  obtain ⟨i0, hi, hz0, hz1, hz2⟩ := info_parts info48
  have HLEN : Hid (s.size = 27 + 32 * M) := hlen
  clear g0 hb0 hT hd hIn hM hs hlen hD
  go_enter Tryd.func43, Tryd.ntmps43
  go_wp2_with fail
  refine (KC _).mono ?_
  rintro e w1 ⟨rfl, hb1⟩
  obtain ⟨V1, rfl, hT1, HV0⟩ := HX.out w1 hb1
  have KM1 := KM _ hT1
  have HV : Hid _ := HV0
  clear HX KM KC HV0 hT1
  go_wp2_with fail
  refine KM1.mono ?_
  rintro e w2 ⟨rfl, hb2⟩
  obtain ⟨hT2, hg2, q1, -, -⟩ := HV.out w2 hb2
  obtain ⟨d0, d1, d2, d3, d4, d5, d6, -⟩ := cells7 q1
  have KP2 := KP w2 hT2
  clear KM1 KP hT2 q1
  go_wp2_with fail
  refine KP2.mono ?_
  rintro e w3 ⟨rfl, hb3⟩
  obtain ⟨-, hg3, q1, q2, q3, q4⟩ := HV.out w3 (hb2.trans (hb3.mono hb2.size))
  have HR0 : Hid (Rs w3 w1.heap.size sl fl dr mf ls pg w3 (.slice none 0 0) []) := ⟨Only.refl _ _, hg3, q1, World.ownsRow_nil _ _ _ _⟩
  have HRE : Hid (∀ X v, Rs w3 w1.heap.size sl fl dr mf ls pg X v (rdRs D M) → X.heap[w.heap.size]? = some (.cells #[.int .i64 0, .int .i64 0, .int .i64 0, .int .i64 0, .int .i64 0, .int .i64 0, .slice none 0 0] 38 (0, 0)) ∧ Below w.heap.size w X ∧ X.ownsRow w.heap.size 48 2 v M (rfsC (rdRs D M)) ∧ w.heap.size < w3.heap.size) := fun X v h => by
    have l2 := heap_lt q2
    refine ⟨(h.on.block _ l2 (by simp; omega)).trans q2, ?_, ?_, l2⟩
    · refine ⟨h.on.os.trans q3.os, h.on.tape.trans q3.tape, h.on.output.trans q3.output, Nat.le_trans q3.size h.on.size, fun k hk => ?_⟩
      exact (h.on.block k (by omega) (by simp; omega)).trans (q3.block k hk)
    · have := h.ho
      rw [rdRs_len] at this
      exact owns_base this (by omega)
  clear HV KP2 hb1 hb2 hb3 hg2 d0 d1 d2 d3 d4 d5 d6 q1 q2 q3
  go_wp2_with fail
  go_loopg [5] M (fun gk av wr => ∃ k : Nat, k + gk = M ∧ av = .int .i64 ((27 + 32 * k : Nat) : Int) ∧ Hid (∃ v, Rs w3 w1.heap.size sl fl dr mf ls pg wr v ((rdRs D M).take k)))
  case atStart => exact ⟨0, by omega, rfl, _, HR0.out⟩
  case round =>
    obtain ⟨k, hk, rfl, hR⟩ := hrel
    obtain ⟨v, hR1⟩ := hR.out
    by_cases hlt : k < M
    · obtain ⟨A, hA⟩ : ∃ A, 27 + 32 * k = A := ⟨_, rfl⟩
      have hA1 : A + 32 ≤ s.size := by have := HLEN.out; omega
      have hA2 : A ≤ 100000 := by omega
      have hltI : (A : Int) < (s.size : Int) := by omega
      have hA3 : A ≤ s.size := by omega
      have hA4 : (32 : Int) ≤ ((s.size - A : Nat) : Int) := by omega
      obtain ⟨y, nm, tg, hy, hrd, KRF⟩ := KF.out k hlt
      rw [hA] at hy
      have hat := rdRs_at (D := D) hlt
      rw [hrd] at hat
      have HA : Hid (27 + 32 * (k + 1) = A + 32) := by show _ = _; omega
      rw [hA]
      have hlen1 : ((rdRs D M).take k).length = k := by rw [List.length_take, rdRs_len]; omega
      have KX : Hid (∀ X, Below wr.heap.size wr X → X.cell? ⟨w1.heap.size, 6, none⟩ = some v ∧ X.frozen? ⟨w1.heap.size, 6, none⟩ = false ∧ w1.heap.size < X.heap.size) := fun X hX => by
        have h := hR1.below hX
        exact ⟨(cell_of_heap h.hp).trans rfl, frozen_of_heap h.hp, heap_lt h.hp⟩
      have KO : Hid (∀ X o, Below wr.heap.size wr X → (X.alloc o).ownsRow w3.heap.size 48 2 v k (rfsC ((rdRs D M).take k))) := fun X o hX => by
        have h := (hR1.below (hX.alloc hX.size o)).ho
        rw [hlen1] at h
        exact h
      have hone : ∀ u ∈ [Value.string nm, Value.string tg], u.oneCell' = true := by simp [Value.oneCell']
      have KS : Hid (w3.heap.size ≤ wr.heap.size) := hR1.on.size
      have HE : Hid (∀ X Y v', Below wr.heap.size wr X → (X.alloc (.cells #[.string nm, .string tg] 48)).grownBy Y v.ownBlock → Y.ownsRow w3.heap.size 48 2 v' (k + 1) (rfsC ((rdRs D M).take k) ++ [.string nm, .string tg]) → Y.cell? ⟨w1.heap.size, 6, none⟩ = some v ∧ Y.frozen? ⟨w1.heap.size, 6, none⟩ = false ∧ Hid (∃ v, Rs w3 w1.heap.size sl fl dr mf ls pg (Y.setCell ⟨w1.heap.size, 6, none⟩ v') v ((rdRs D M).take (k + 1)))) := fun X Y v' hX hg ho => by
        have h := hR1.below (hX.alloc hX.size (.cells #[.string nm, .string tg] 48))
        obtain ⟨r1, r2, r3⟩ := h.app (r := ⟨nm, tg⟩) hg (by rw [hlen1]; exact ho)
        refine ⟨r1, r2, v', ?_⟩
        rw [List.take_add_one, hat]
        exact r3
      obtain ⟨av, cv, hv⟩ := owns_form hR1.ho
      subst hv
      obtain ⟨c6, f6, hgl⟩ := KX.out wr (Below.refl _ _)
      obtain ⟨c6d, f6d, hgd⟩ := KX.out wr.drew ((Below.refl _ _).drew)
      have XD : Below wr.heap.size wr wr.drew := (Below.refl _ _).drew
      rw [hlen1] at c6 c6d KX HE KO
      have KRF' : Hid (∀ X, Below wr.heap.size wr X → Calls Tryd.prog 69 #[.string y] X fun e w' => e = .returned (.agg #[.string nm, .string tg]) ∧ Below wr.heap.size wr w') := fun X hX => by
        refine (KRF X).mono ?_
        rintro e w' ⟨rfl, hb⟩
        exact ⟨rfl, hX.trans (hb.mono hX.size)⟩
      clear hR1 hR hrd KRF hat hA hlen1
      go_wp2_with fail
      go_region_law (first | (refine step_call rfl 69 cfRef #[.tmp 40] #[9] rfl #[.string y] (by simp [Act.eval, Act.put]) (KRF'.out _ (by assumption)) ?_; rintro e w5 ⟨rfl, hb5⟩; obtain ⟨m6, n6, o6⟩ := KX.out w5 hb5; have hO := KO.out w5 (.cells #[.string nm, .string tg] 48) hb5; have hsz5 := hb5.size; refine ⟨_, rfl, ?_⟩) | (refine step_append_own rfl (.tmp 36) (.tmp 42) 35 rfl w3.heap.size 48 i0 (.agg #[.string { data := #[] }, .string { data := #[] }]) 2 32 Tryd.underlying35 hi hz0 hz1 hz2 rfl (by decide) (.slice av k cv) k _ (by simp [Act.eval]) hO ⟨w5.heap.size, 0, none⟩ 1 1 [.string nm, .string tg] (by simp [Act.eval]) rfl (by intro i u h; exact cells_new w5 #[.string nm, .string tg] 48 i u (by simpa using h)) hone (by unfold maxLen; omega) (by omega) (by have := KS.out; simp; omega) ?_; intro v' w' hown' hgrow'; obtain ⟨a9, c9, rfl⟩ := owns_form hown'; obtain ⟨x0, x1, x2⟩ := HE.out w5 w' _ hb5 hgrow' hown'; clear hown' hgrow'))
      all_goals
        go_wp2
        go_roundg (gk - 1)
        case measure => omega
        case rel => exact ⟨k + 1, by omega, by rw [HA.out]; rfl, x2⟩
    · obtain rfl : k = M := by omega
      obtain ⟨A, hA⟩ : ∃ A, 27 + 32 * k = A := ⟨_, rfl⟩
      rw [hA]
      have hltI : ¬ (A : Int) < (s.size : Int) := by have := HLEN.out; omega
      clear hA
      rw [List.take_of_length_le (by rw [rdRs_len]; exact Nat.le_refl _)] at hR1
      obtain ⟨r0, r1, r2, r3⟩ := HRE.out wr v hR1
      obtain ⟨av, cv, hv⟩ := owns_form r2
      subst hv
      obtain ⟨c0, c1, c2, c3, c4, c5, c6, -⟩ := cells7 hR1.hp
      obtain ⟨b0, b1, b2, b3, b4, b5, b6, fz⟩ := cells7 r0
      obtain ⟨E1, E2⟩ := put7_res r0 r1 (Nat.le_refl _) (.int .i64 (sl : Int)) (.int .i64 (fl : Int)) (.int .i64 (dr : Int)) (.int .i64 (mf : Int)) (.int .i64 (ls : Int)) (.int .i64 (pg : Int)) (.slice av k cv)
      have HO : Hid ((put7 wr w.heap.size (.int .i64 (sl : Int)) (.int .i64 (fl : Int)) (.int .i64 (dr : Int)) (.int .i64 (mf : Int)) (.int .i64 (ls : Int)) (.int .i64 (pg : Int)) (.slice av k cv)).ownsRow w.heap.size 48 2 (.slice av k cv) k (rfsC (rdRs D k))) := by
        refine owns_keep r2 fun g hg => ?_
        have hne : g ≠ w.heap.size := by
          have := (hR1.ho.lt g hg).1
          omega
        unfold put7
        rw [heap_setCell_other _ _ _ _ hne, heap_setCell_other _ _ _ _ hne, heap_setCell_other _ _ _ _ hne, heap_setCell_other _ _ _ _ hne, heap_setCell_other _ _ _ _ hne, heap_setCell_other _ _ _ _ hne, heap_setCell_other _ _ _ _ hne]
      unfold put7 at E1 E2 HO
      have HE2 : Hid _ := E2
      have HE1 : Hid _ := E1
      have hne1 : w1.heap.size ≠ w.heap.size := by omega
      clear E1 E2 r0 r1 r2 hR1 hR HRE HR0 KF HLEN
      go_wp2
      refine bodyPost_ret (Tr.results_cellt rfl _ _ w.heap.size 38 _ (0, 0) _ rfl HE1.out Tryd.underlying38 rfl size38) rfl ?_
      exact ⟨av, cv, rfl, HO.out, HE2.out⟩
end Go.Proofs.YtckbbbcjpklnmaaDoor.Ix
