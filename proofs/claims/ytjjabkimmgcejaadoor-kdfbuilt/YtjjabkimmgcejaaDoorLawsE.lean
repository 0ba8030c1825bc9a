import Derived.Test.YtjjabkimmgcejaaDoorLawsD
namespace Go.Proofs.YtjjabkimmgcejaaDoor
open Go.RowKit Go.Lib

theorem run_load_one {P : Program} {ρ : Operand → Value} {o : Oper} (ty : TypeId) (x : Operand) (h : o.op = .load ty x) (b off : Nat) (v : Value) (hx : ρ x = .pointer (some ⟨b, off, none⟩)) (kd : IntKind)
    (hu : P.underlying ty = some (.int kd)) (w : World) (hc : w.cell? ⟨b, off, none⟩ = some v) : (execOp ρ o).run P w = .ok (.value v) w := by
  have hagg : (isAgg ty).run P w = .ok false w := by
    unfold isAgg
    rw [Sem.run_bind, run_underlying hu w]
    rfl
  unfold execOp
  simp [h, hx, Instr.loadAt, Instr.sureAddr, loadVar, hagg, hc]

theorem quiet_load {P : Program} {C : World → Prop} {a : Act} {o : Oper} {K : Act → Prop} (ty : TypeId) (x : Operand) (h : o.op = .load ty x) (b off : Nat) (v : Value) (hx : a.eval x = .pointer (some ⟨b, off, none⟩)) (kd : IntKind)
    (hu : P.underlying ty = some (.int kd)) (hc : ∀ w, C w → w.cell? ⟨b, off, none⟩ = some v) (hk : K (a.put o.dst v)) : o.quiet P a C K :=
  ⟨v, fun w hw => by unfold Oper.quietAt; rw [run_load_one ty x h b off v hx kd hu w (hc w hw)]; exact ⟨rfl, rfl⟩, hk⟩

/-- a world put under a name of its own, for the kernel too -/
theorem with_world {R : World → Prop} (w : World) {Q : World → Prop} (hq : Q w) (h : ∀ w2, Q w2 → R w2) : R w := h w hq

theorem cell_drewN (w : World) (n : Nat) (a : Addr) : (w.drewN n).cell? a = w.cell? a := rfl

end Go.Proofs.YtjjabkimmgcejaaDoor
