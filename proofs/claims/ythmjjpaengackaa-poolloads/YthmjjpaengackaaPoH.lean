import Derived.Test.YthmjjpaengackaaPoG
namespace Go.Proofs.Ythmjjpaengackaa.Po
open Go.RowKit Go.Lib Go.Deep

theorem zeroCells_nat (k : Nat) : (Builtin.zeroCells (Value.int .i64 0).cells k).toList = nsC (List.replicate k 0) := by
  have hzc : (Builtin.zeroCells (Value.int .i64 0).cells k).toList = List.replicate k (Value.int .i64 0) := by
    apply List.ext_getElem?
    intro j
    simp [Builtin.zeroCells, Value.cells]
    rw [List.getElem?_replicate]
    by_cases h : j < k
    · rw [List.getElem?_range h, if_pos h]; simp [Nat.mod_one]
    · rw [List.getElem?_eq_none (by simp; omega), if_neg h]; rfl
  rw [hzc]
  simp [nsC]
/-- 'append' as one step of a region that draws, by its run -/
theorem step_append_run {P : Program} {ops : Array Oper} {o : Oper} {a : Act} {w : World} {K : Act → World → Prop} {Q : Exit → Act → World → Prop} {E : Prop} (hg : o.guard = none) (s x : Operand) (t u : TypeId) (ho : o.op = Op.call { callee := Callee.builtin Builtin.append, args := #[s, x], argTypes := #[t, u] })
    (v x' v' : Value) (w' : World) (hs : a.eval s = v) (hx : a.eval x = x') (hr : (Builtin.append_ #[t, u] o.type #[v, x']).run P w = .ok v' w') (hK : K (a.put o.dst v') w') :
    if Region.wanted o (yielded ops a.tmps) = true then Oper.wp P o a w K Q else E := by
  have hw : Region.wanted o (yielded ops a.tmps) = true := by simp [Region.wanted, hg]
  rw [if_pos hw]
  unfold Oper.wp execOp
  simp only [ho, resolve, invoke, builtin, Sem.run_bind, Sem.run_pure, Result.andThen_ok, List.map_toArray, List.map_cons, List.map_nil, hs, hx, hr]
  exact hK
/-- a call of a Go function as one step of a region that draws, by its contract -/
theorem step_call {P : Program} {ops : Array Oper} {o : Oper} {a : Act} {w : World} {K : Act → World → Prop} {Q : Exit → Act → World → Prop} {E : Prop} (hg : o.guard = none) (f : FuncId) (hcf : ∀ args w, (callFunc f args).run P w = .ok (.enter f args) w) (xs : Array Operand) (ts : Array TypeId) (ho : o.op = Op.call { callee := Callee.value (Operand.func f), args := xs, argTypes := ts }) (args : Array Value) (hv : xs.map a.eval = args) {R : Ending → World → Prop} (hc : Calls P f args w R)
    (hR : ∀ e w', R e w' → ∃ v, e = .returned v ∧ K (a.put o.dst v) w') : if Region.wanted o (yielded ops a.tmps) = true then Oper.wp P o a w K Q else E := by
  have hw : Region.wanted o (yielded ops a.tmps) = true := by simp [Region.wanted, hg]
  rw [if_pos hw]
  have hrun : (execOp a.eval o).run P w = .ok (.enter f args) w := by
    unfold execOp
    simp [ho, resolve, invoke, Deferred.ofValue, hcf, hv, Act.eval]
  unfold Oper.wp
  rw [hrun, Oper.upon_enter]
  refine hc.mono fun e w'' hh => ?_
  obtain ⟨v, rfl, hk⟩ := hR e w'' hh
  exact hk
/-- the ring at hand: a state's block q, its cells A -/
structure Rin (w : World) (q : Nat) (A : Array Value) (mv : Value) (room : List Nat) (h : Nat) (Q : List Nat) : Prop where
  hq : w.heap[q]? = some (.cells A 74 (0, 0))
  sz : A.size = 7
  c4 : A[4]? = some mv
  c5 : A[5]? = some (.int .i64 (h : Int))
  c6 : A[6]? = some (.int .i64 (Q.length : Int))
  hm : w.ownsRow 0 3 1 mv room.length (nsC room)
theorem Rin.below {w W : World} {q h : Nat} {A : Array Value} {mv : Value} {room Q : List Nat} (hR : Rin w q A mv room h Q) (hb : Below w.heap.size w W) : Rin W q A mv room h Q := ⟨(hb.block _ (heap_lt hR.hq)).trans hR.hq, hR.sz, hR.c4, hR.c5, hR.c6, owns_below hR.hm hb⟩
theorem Rin.cells {w : World} {q h : Nat} {A : Array Value} {mv : Value} {room Q : List Nat} (hR : Rin w q A mv room h Q) : w.cell? ⟨q, 4, none⟩ = some mv ∧ w.cell? ⟨q, 5, none⟩ = some (.int .i64 (h : Int)) ∧ w.cell? ⟨q, 6, none⟩ = some (.int .i64 (Q.length : Int)) ∧ (∀ j, w.frozen? ⟨q, j, none⟩ = false) := ⟨(cell_of_heap hR.hq).trans hR.c4, (cell_of_heap hR.hq).trans hR.c5, (cell_of_heap hR.hq).trans hR.c6, fun _ => frozen_of_heap hR.hq⟩
theorem Rin.qm {w : World} {q h g : Nat} {A : Array Value} {mv : Value} {room Q : List Nat} (hR : Rin w q A mv room h Q) (hg : mv.ownBlock = some g) : g ≠ q := fun e => by
  obtain ⟨cur, hc⟩ := owns_block hR.hm hg
  rw [e, hR.hq] at hc
  injection hc with hc
  injection hc with _ hc _
  cases hc
def rngA (A : Array Value) (mv : Value) (h n : Nat) : Array Value := ((A.setIfInBounds 4 mv).setIfInBounds 5 (.int .i64 (h : Int))).setIfInBounds 6 (.int .i64 (n : Int))
theorem set_same {A : Array Value} {i : Nat} {v : Value} (h : A[i]? = some v) : A.setIfInBounds i v = A := by
  apply Array.ext_getElem?
  intro j
  rw [Array.getElem?_setIfInBounds]
  split
  · rename_i e
    subst e
    rw [h, if_pos (Array.getElem?_eq_some_iff.1 h).1]
  · rfl
/-- a ring behind a call: its cells anew, its room -/
structure Rto (w w' : World) (q : Nat) (A : Array Value) (mv : Value) (room : List Nat) (h : Nat) (Q : List Nat) (mv0 : Value) : Prop where
  hq : w'.heap[q]? = some (.cells (rngA A mv h Q.length) 74 (0, 0))
  hm : w'.ownsRow 0 3 1 mv room.length (nsC room)
  ho : Only (q :: mv0.ownBlock.toList) w w'
  hb : ∀ k, mv.ownBlock = some k → mv0.ownBlock = some k ∨ w.heap.size ≤ k
theorem cfList (args : Array Value) (w : World) : (callFunc 51 args).run Try.prog w = .ok (.enter 51 args) w := by kernel_rfl
set_option maxRecDepth 20000 in
set_option maxHeartbeats 1000000 in
theorem grow2_any (w : World) (q h : Nat) (A : Array Value) (mv : Value) (room Q : List Nat) (hR : Rin w q A mv room h Q) (hr : Rng room h Q) (hl : room.length ≤ 200000) :
    Calls Try.prog 71 #[.pointer (some ⟨q, 4, none⟩)] w fun e w' => e = .returned (.tuple #[]) ∧ ∃ mv', Rto w w' q A mv' (Q ++ List.replicate (room.length + 1) 0) 0 Q mv := by
  have hRd := hR.below ((Below.refl _ _).drew)
  have hls := list_any w.drew q h mv room Q hRd.cells.1 hRd.cells.2.1 hRd.cells.2.2.1 hRd.hm hr hl
  have hle := hr.le
  obtain ⟨i0, hi, hz0, hz1, hz2⟩ := info_parts info3
  have w1 : IntKind.i64.wrap ((room.length : Int) + 1) = ((room.length + 1 : Nat) : Int) := by rw [IntKind.wrap_i64]; omega
  have HX : Hid (∀ w2 v, w2.ownsRow w.drew.heap.size 3 1 v Q.length (nsC Q) → Below w.drew.heap.size w.drew w2 → (w2.cell? ⟨q, 4, none⟩ = some mv ∧ w2.cell? ⟨q, 5, none⟩ = some (.int .i64 (h : Int)) ∧ ∃ av nv cv w3, (Builtin.append_ #[23, 3] 23 #[v, .int .i64 ((room.length + 1 : Nat) : Int)]).run Try.prog w2 = .ok (.slice av nv cv) w3 ∧ w3.cell? ⟨q, 4, none⟩ = some mv ∧ w3.cell? ⟨q, 5, none⟩ = some (.int .i64 (h : Int)) ∧ w3.frozen? ⟨q, 4, none⟩ = false ∧ w3.frozen? ⟨q, 5, none⟩ = false ∧
      Hid (Rto w ((w3.setCell ⟨q, 4, none⟩ (.slice av nv cv)).setCell ⟨q, 5, none⟩ (.int .i64 0)) q A (.slice av nv cv) (Q ++ List.replicate (room.length + 1) 0) 0 Q mv))) := fun w2 v ho hb => by
    have hR2 := hRd.below hb
    obtain ⟨v', w3, hrun, ho3, hg3, hnew⟩ := Tr.run_append_own_zeros (P := Try.prog) w2 w.drew.heap.size 23 3 23 3 i0 (.int .i64 0) 1 8 .i64 .i64 Try.underlying23 Try.underlying3 hi hz0 hz1 hz2 rfl (by decide) v Q.length (nsC Q) ho (room.length + 1) (by omega) (fun u hu => by rw [zeroCells_nat] at hu; exact nsC_one _ u hu) (by unfold maxLen; omega) (by omega) hb.size
    obtain ⟨av, cv, rfl⟩ := owns_form ho3
    have hb3 : Below w.drew.heap.size w.drew w3 := hb.trans (grown_base hg3 hb.size ho)
    have hR3 := hRd.below hb3
    refine ⟨hR2.cells.1, hR2.cells.2.1, av, _, cv, w3, hrun, hR3.cells.1, hR3.cells.2.1, hR3.cells.2.2.2 4, hR3.cells.2.2.2 5, ?_⟩
    rw [zeroCells_nat, ← nsC_append] at ho3
    have hlt := heap_lt hR.hq
    have hvq : ∀ g, (Value.slice av (Q.length + (room.length + 1)) cv).ownBlock = some g → g ≠ q := fun g hg => by have := (ho3.lt g hg).1; simp at this; omega
    refine ⟨?_, ?_, ?_, fun k hk => .inr ?_⟩
    · refine (heap_setCell_fr _ _ _ _ _ _ _ (heap_setCell_fr _ _ _ _ _ _ _ hR3.hq)).trans ?_
      unfold rngA
      rw [set_same (i := 6) (by rw [Array.getElem?_setIfInBounds_ne (by decide), Array.getElem?_setIfInBounds_ne (by decide)]; exact hR.c6)]
      rfl
    · have ho4 := owns_base (B' := 0) ho3 (Nat.zero_le _)
      have ho4 : w3.ownsRow 0 3 1 (.slice av (Q.length + (room.length + 1)) cv) (Q ++ List.replicate (room.length + 1) 0).length (nsC (Q ++ List.replicate (room.length + 1) 0)) := by
        have hlen : (Q ++ List.replicate (room.length + 1) 0).length = Q.length + (room.length + 1) := by simp
        rw [hlen]
        exact ho4
      exact owns_keep ho4 fun g hg => (heap_setCell_other _ _ _ _ (hvq g hg)).trans (heap_setCell_other _ _ _ _ (hvq g hg))
    · have hO : Only (q :: mv.ownBlock.toList) w w3 := ⟨hb3.os, hb3.tape, hb3.output, hb3.size, fun k hk _ => hb3.block k hk⟩
      exact (hO.setCell (p := ⟨q, 4, none⟩) (by simp) _).setCell (p := ⟨q, 5, none⟩) (by simp) _
    · exact (ho3.lt k hk).1
  obtain ⟨c4, c5, c6, fz⟩ := hRd.cells
  obtain ⟨am, cm, rfl⟩ := owns_form hR.hm
  generalize room.length + 1 = K at *
  clear hR hRd hr hl hle hi hz0 hz1 hz2
  go_enter Try.func71, Try.ntmps71
  go_wp2_with fail
  go_region_law (first | (refine step_append_run rfl (.tmp 5) (.tmp 11) 23 3 rfl _ _ _ _ (by simp [Act.eval, Act.put]) (by simp [Act.eval, Act.put]) hrun ?_) | (refine step_call rfl 51 cfList #[.tmp 4] #[113] rfl #[.pointer (some ⟨q, 4, none⟩)] (by simp [Act.eval, Act.put]) hls ?_; rintro e w2 ⟨v, rfl, ho, hb⟩; obtain ⟨x4, x5, av, nv, cv, w3, hrun, y4, y5, f4, f5, HR⟩ := HX.out w2 v ho hb; clear ho hb; refine ⟨_, rfl, ?_⟩))
  all_goals
    go_wp2
    go_end0
    exact ⟨rfl, _, HR.out⟩
end Go.Proofs.Ythmjjpaengackaa.Po
