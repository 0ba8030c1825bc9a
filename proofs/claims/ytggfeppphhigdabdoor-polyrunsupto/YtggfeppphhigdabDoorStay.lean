import Derived.Test.YtggfeppphhigdabDoorLawsE
import Derived.OrdersHeld
import Derived.BigFrame
import Derived.BigRegion
namespace Go.Proofs.YtggfeppphhigdabDoor
open Go.RowKit Go.Lib

/-- an operation that yields a value and leaves the world as it is, if it comes to its end at all -/
def Stays (P : Program) (o : Oper) : Prop := ∀ (a : Act) (w : World) (n : Next) (w' : World), (execOp a.eval o).run P w = .ok n w' → (∃ u, n = .value u) ∧ w' = w

theorem stays_move {P : Program} {o : Oper} (x : Operand) (h : o.op = .move x) : Stays P o := by
  intro a w n w' hr
  rw [BigFrame.run_move x h] at hr
  cases hr
  exact ⟨⟨_, rfl⟩, rfl⟩

theorem stays_extract {P : Program} {o : Oper} (x : Operand) (i : Nat) (h : o.op = .extract x i) : Stays P o := by
  intro a w n w' hr
  unfold execOp at hr
  simp only [h] at hr
  cases hx : a.eval x <;> simp [hx, Instr.extract, stuck] at hr
  rename_i vs
  cases hv : vs[i]? <;> simp [hv] at hr
  obtain ⟨rfl, rfl⟩ := hr
  exact ⟨⟨_, rfl⟩, rfl⟩

theorem stays_load {P : Program} {o : Oper} (ty : TypeId) (x : Operand) (h : o.op = .load ty x) (kd : IntKind) (hu : P.underlying ty = some (.int kd)) : Stays P o := by
  intro a w n w' hr
  have hagg : (isAgg ty).run P w = .ok false w := by
    unfold isAgg
    rw [Sem.run_bind, run_underlying hu w]
    rfl
  unfold execOp at hr
  simp only [h] at hr
  cases hx : a.eval x <;> simp [hx, Instr.loadAt, Instr.sureAddr, stuck] at hr
  rename_i p
  cases p <;> simp [loadVar, hagg] at hr
  rename_i p
  cases hc : w.cell? p with
  | some v =>
    simp [hc] at hr
    obtain ⟨rfl, rfl⟩ := hr
    exact ⟨⟨_, rfl⟩, rfl⟩
  | none =>
    simp [hc] at hr
    cases hf : World.farLoad P w p (Mode.plain == Mode.atomic) with
    | ok v =>
      rw [hf] at hr
      simp [Result.andThen] at hr
      obtain ⟨rfl, rfl⟩ := hr
      exact ⟨⟨_, rfl⟩, rfl⟩
    | error x =>
      rw [hf] at hr
      simp [Result.andThen] at hr

section
variable {P : Program} {ops : Array Oper} {Q : Exit → Act → World → Prop} {md : Region.Mode} {S : World → Prop}

/-- behind such an operation the world is the one ahead of it -/
theorem Stays.wpOp {j : Nat} {oj : Oper} (hj : ops[j]? = some oj) (hst : Stays P oj) {K : Act → World → Prop} {a : Act} {w : World} (h : wpOp P ops Q j K a w) : wpOp P ops Q j (fun a' w' => w' = w ∧ K a' w') a w := by
  unfold Go.wpOp at h ⊢
  rw [hj] at h ⊢
  dsimp only at h ⊢
  by_cases hw : Region.wanted oj (yielded ops a.tmps) = true
  · rw [if_pos hw] at h ⊢
    rcases h with h | h
    · left
      unfold Oper.wp at h ⊢
      cases hr : (execOp a.eval oj).run P w with
      | ok n w' =>
        obtain ⟨⟨u, rfl⟩, rfl⟩ := hst a w n w' hr
        rw [hr] at h
        exact ⟨rfl, h⟩
      | halt x w' =>
        rw [hr] at h
        cases x <;> exact h
    · exact .inr h
  · rw [if_neg hw] at h ⊢
    exact ⟨rfl, h⟩

/-- What may come up is taken first, if it yields its value in the world AT HAND, and all that could come ahead of it leaves that world as it is. -/
theorem held_here {i : Nat} {oi : Oper} {v : Value} (hi : ops[i]? = some oi) (hsel : ∀ (j : Nat) (o : Oper) cs b, ops[j]? = some o → o.op ≠ .select cs b)
    (hQ : ∀ c a w, Q (.panic c) (a.put oi.dst v) w → Q (.panic c) a w) (w : World) (hS : S w) : ∀ (fuel : Nat) (listed : Array Bool) (a : Act),
      (∀ j oj, ops[j]? = some oj → j ≠ i → listed.getD j true = false → (∀ e ∈ oj.after, Region.binds md e = true → e.on ≠ i) → oi.apart ops oj = true ∧ Stays P oj) →
      i ∈ Region.ready md ops listed → YieldsIf P ops (fun x => x = w) oi v a → wpAnyH P md ops Q S fuel (listed.setIfInBounds i true) (a.put oi.dst v) w → wpAnyH P md ops Q S (fuel + 1) listed a w := by
  intro fuel
  induction fuel with
  | zero =>
    intro listed a _ hr hy H
    refine ⟨fun h => absurd hr (by rw [h]; simp), fun j hj => ?_⟩
    by_cases hji : j = i
    · rw [hji]
      exact hy.wpOp hi rfl ⟨hS, H⟩
    · exact absurd (ready_mono hj hji) (by rw [H.1]; simp)
  | succ fuel ih =>
    intro listed a hfr hr hy H
    refine ⟨fun h => absurd hr (by rw [h]; simp), fun j hj => ?_⟩
    by_cases hji : j = i
    · rw [hji]
      exact hy.wpOp hi rfl ⟨hS, H⟩
    obtain ⟨hjun, oj, hoj, hall⟩ := mem_ready.1 hj
    have hno : ∀ e ∈ oj.after, Region.binds md e = true → e.on ≠ i := by
      intro e he hb heq
      have h1 := hall e he hb
      have h0 := (mem_ready.1 hr).1
      rw [heq] at h1
      cases hl : listed[i]? with
      | none => simp [hl] at h1
      | some b => simp [hl] at h0 h1; rw [h0] at h1; cases h1
    obtain ⟨hap, hstay⟩ := hfr j oj hoj hji hjun hno
    have hstep := hstay.wpOp hoj (wpOp_putIf hoj hap (fun cs b => hsel i oi cs b hi) (fun cs b => hsel j oj cs b hoj) hQ hy (H.2 j (ready_mono hj hji)))
    refine wpOp_mono (fun a' w' h => ?_) hstep
    obtain ⟨rfl, hy', hS', H'⟩ := h
    refine ⟨hS', ih (listed.setIfInBounds j true) a' ?_ (ready_mono hr (Ne.symm hji)) hy' (by rw [Array.setIfInBounds_comm _ _ hji]; exact H')⟩
    intro k ok hk hki hun hnk
    refine hfr k ok hk hki ?_ hnk
    by_cases hjk : j = k
    · rw [← hjk]; exact hjun
    · rwa [getD_set_ne true hjk] at hun

/-- which operations leave the world as it is -/
def stayB (tys : List TypeId) (o : Oper) : Bool :=
  match o.op with
  | .move _ => true
  | .extract _ _ => true
  | .load ty _ => tys.contains ty
  | _ => false
theorem stays_of {tys : List TypeId} (hty : ∀ ty ∈ tys, ∃ kd, P.underlying ty = some (.int kd)) {o : Oper} (h : stayB tys o = true) : Stays P o := by
  unfold stayB at h
  split at h
  · rename_i x hx; exact stays_move x hx
  · rename_i x i hx; exact stays_extract x i hx
  · rename_i ty x hx
    obtain ⟨kd, hkd⟩ := hty ty (by simpa using h)
    exact stays_load ty x hx kd hkd
  · cases h
def stayAll (md : Region.Mode) (ops : Array Oper) (listed : Array Bool) (i : Nat) (tys : List TypeId) : Bool :=
  (List.range ops.size).all fun j => j == i || listed.getD j true || (match ops[j]? with | none => true | some oj => oj.after.any (fun e => Region.binds md e && e.on == i) || stayB tys oj)

/-- held_here, by Bools -/
theorem held_load {tys : List TypeId} {i : Nat} {oi : Oper} {v : Value} {fuel : Nat} {listed : Array Bool} {a : Act} {w : World} (hi : ops[i]? = some oi) (hs : Region.noSelect ops = true) (hf : Region.free md ops listed i = true)
    (hty : ∀ ty ∈ tys, ∃ kd, P.underlying ty = some (.int kd)) (hst : stayAll md ops listed i tys = true) (hr : (Region.ready md ops listed).contains i = true)
    (hQ : ∀ c a w, Q (.panic c) (a.put oi.dst v) w → Q (.panic c) a w) (hy : YieldsIf P ops (fun x => x = w) oi v a) (hS : S w)
    (h : wpAnyH P md ops Q S fuel (listed.setIfInBounds i true) (a.put oi.dst v) w) : wpAnyH P md ops Q S (fuel + 1) listed a w := by
  refine held_here hi (Region.noSelect_spec hs) hQ w hS fuel listed a ?_ (by simpa using hr) hy h
  intro j oj hj hji hun hno
  refine ⟨Region.free_spec hi hf j oj hj hji hun hno, ?_⟩
  have h1 := List.all_eq_true.1 hst j (List.mem_range.2 (Array.getElem?_eq_some_iff.1 hj).1)
  simp only [hj, hun, Bool.or_eq_true, beq_iff_eq, hji, false_or, Bool.false_eq_true] at h1
  rcases h1 with h1 | h1
  · obtain ⟨e, he, hb⟩ := Array.any_eq_true'.1 h1
    simp only [Bool.and_eq_true, beq_iff_eq] at hb
    exact absurd hb.2 (hno e he hb.1)
  · exact stays_of hty h1

end

end Go.Proofs.YtggfeppphhigdabDoor
