import Derived.Test.YtpjigcccjiidpaaExP
import Derived.Lib.LazyBuf
namespace Go.Proofs.Ytpjigcccjiidpaa.Ex
open Go.RowKit Go.Lib Go.Deep

theorem step_append_run {P : Program} {ops : Array Oper} {o : Oper} {a : Act} {w : World} {K : Act → World → Prop} {Q : Exit → Act → World → Prop} {E : Prop} (hg : o.guard = none) (s x : Operand) (t u : TypeId) (ho : o.op = Op.call { callee := Callee.builtin Builtin.append, args := #[s, x], argTypes := #[t, u] })
    (v x' v' : Value) (w' : World) (hs : a.eval s = v) (hx : a.eval x = x') (hr : (Builtin.append_ #[t, u] o.type #[v, x']).run P w = .ok v' w') (hK : K (a.put o.dst v') w') :
    if Region.wanted o (yielded ops a.tmps) = true then Oper.wp P o a w K Q else E := by
  have hw : Region.wanted o (yielded ops a.tmps) = true := by simp [Region.wanted, hg]
  rw [if_pos hw]
  unfold Oper.wp execOp
  simp only [ho, resolve, invoke, builtin, Sem.run_bind, Sem.run_pure, Result.andThen_ok, List.map_toArray, List.map_cons, List.map_nil, hs, hx, hr]
  exact hK
/-- a call of a Go function as one step of a region that draws, by its contract -/
theorem step_call {P : Program} {ops : Array Oper} {o : Oper} {a : Act} {w : World} {K : Act → World → Prop} {Q : Exit → Act → World → Prop} {E : Prop} (hg : o.guard = none) (f : FuncId) (hcf : ∀ args w, (callFunc f args).run P w = .ok (.enter f args) w) (xs : Array Operand) (ts : Array TypeId) (ho : o.op = Op.call { callee := Callee.value (Operand.func f), args := xs, argTypes := ts }) (args : Array Value) (hv : xs.map a.eval = args) {R : Ending → World → Prop} (hc : Calls P f args w R)
    (hR : ∀ e w', R e w' → ∃ v, e = .returned v ∧ K (a.put o.dst v) w') : if Region.wanted o (yielded ops a.tmps) = true then Oper.wp P o a w K Q else E := by
  have hw : Region.wanted o (yielded ops a.tmps) = true := by simp [Region.wanted, hg]
  rw [if_pos hw]
  have hrun : (execOp a.eval o).run P w = .ok (.enter f args) w := by
    unfold execOp
    simp [ho, resolve, invoke, Deferred.ofValue, hcf, hv, Act.eval]
  unfold Oper.wp
  rw [hrun, Oper.upon_enter]
  refine hc.mono fun e w'' hh => ?_
  obtain ⟨v, rfl, hk⟩ := hR e w'' hh
  exact hk
set_option maxRecDepth 20000 in
theorem piece_any (g c : Nat) (s : List UInt8) (w : World) (hB : Bf w g c s) (i : Int) (n : Nat) (h : n = 0 ∨ (0 ≤ i ∧ i + n ≤ s.length)) (hl : s.length ≤ 9223372036854775807) : Calls Try.prog 37 #[cv g s.length c, .int .i64 i, .int .i64 (n : Int)] w fun e w' => e = .returned (.string (str ((s.drop i.toNat).take n))) ∧ Below w.heap.size w w' := by
  obtain ⟨W, hW, hb, k0⟩ := one_new w #[.slice (some ⟨g, 0, none⟩) s.length c] 72
  have c0 : W.cell? ⟨w.heap.size, 0, none⟩ = some (.slice (some ⟨g, 0, none⟩) s.length c) := (cell_of_heap k0).trans rfl
  have hBW : Bf W g c s := hB.keep (hb.block _ hB.lt)
  have HB : Hid _ := hb
  unfold cv
  by_cases h0 : n = 0
  · subst h0
    rw [List.take_zero]
    clear hb k0 hBW hB h
    go_enter Try.func37, Try.ntmps37
    go_wp2
    go_ret
    exact ⟨rfl, HB.out⟩
  · obtain ⟨hi, hin⟩ := h.resolve_left h0
    obtain ⟨k, rfl⟩ : ∃ k : Nat, i = k := ⟨i.toNat, by omega⟩
    rw [Int.toNat_natCast]
    obtain ⟨q, hq⟩ : ∃ q, k + n = q := ⟨_, rfl⟩
    have hqs : q ≤ s.length := by omega
    have hcap := hB.cap_le
    have ht := hBW.text (P := Try.prog) 70 9 k (c - k) ((s.drop k).take n) (fun j x hx => by
      rw [List.getElem?_take] at hx
      split at hx
      · rw [List.getElem?_drop] at hx; exact hx
      · cases hx) Try.underlying70 Try.underlying5 Try.underlying9
    rw [show ((s.drop k).take n).length = q - k by rw [List.length_take, List.length_drop]; omega] at ht
    have w1 : IntKind.i64.wrap ((k : Int) + (n : Int)) = (q : Int) := by rw [IntKind.wrap_i64]; omega
    have n0 : ((n : Int) == 0) = false := by rw [beq_eq_false_iff_ne]; omega
    have b1 : k ≤ q := by omega
    have b2 : q ≤ c := by omega
    have b3 : ¬ c = k := by omega
    generalize (s.drop k).take n = t at *
    clear hb k0 hBW hB hcap hin hi h hq
    go_enter Try.func37, Try.ntmps37
    go_wp2
    go_ret
    exact ⟨rfl, HB.out⟩
set_option maxRecDepth 20000 in
theorem sizeWith_any (n : Nat) (a : Option Addr) (c : Nat) (w : World) (i : Nat) (d : List UInt8) (_hn : n ≤ 9223372036854775807) (hi : i + d.length ≤ 9223372036854775807) : Calls Try.prog 38 #[.agg #[.slice a n c], .int .i64 (i : Int), .string (str d)] w fun e w' => e = .returned (.int .i64 ((if d = [] then n else max n (i + d.length) : Nat) : Int)) ∧ Below w.heap.size w w' := by
  obtain ⟨W, hW, hb, k0⟩ := one_new w #[.slice a n c] 72
  have c0 : W.cell? ⟨w.heap.size, 0, none⟩ = some (.slice a n c) := (cell_of_heap k0).trans rfl
  have HC := csize_any n a c W
  have HB : Hid _ := hb
  by_cases hd : d = []
  · subst hd
    rw [if_pos rfl]
    have e0 : (str ([] : List UInt8)) = { data := #[] } := rfl
    rw [e0]
    clear hb k0
    go_enter Try.func38, Try.ntmps38
    go_wp2_with (go_at_call 36; refine HC.mono ?_; rintro e w1 ⟨rfl, hb1⟩)
    go_ret
    exact ⟨rfl, HB.out.trans (hb1.mono HB.out.size)⟩
  · rw [if_neg hd]
    have e0 : (str d).toList.isEmpty = false := by rw [str_toList]; cases d with | nil => exact absurd rfl hd | cons => rfl
    obtain ⟨q, hq⟩ : ∃ q, i + d.length = q := ⟨_, rfl⟩
    have e1 : (str d).size = d.length := str_size d
    have w1 : IntKind.i64.wrap ((i : Int) + ((str d).size : Int)) = (q : Int) := by rw [IntKind.wrap_i64, e1]; omega
    rw [hq]
    clear hb k0 hq hi e1
    generalize str d = S at *
    clear hd
    by_cases hm : n < q
    · have hmI : (n : Int) < (q : Int) := by omega
      rw [Nat.max_eq_right (Nat.le_of_lt hm)]
      go_enter Try.func38, Try.ntmps38
      go_wp2_with (go_at_call 36; refine HC.mono ?_; rintro e w1 ⟨rfl, hb1⟩)
      go_ret
      exact ⟨rfl, HB.out.trans (hb1.mono HB.out.size)⟩
    · have hmI : ¬ (n : Int) < (q : Int) := by omega
      rw [Nat.max_eq_left (Nat.le_of_not_lt hm)]
      go_enter Try.func38, Try.ntmps38
      go_wp2_with (go_at_call 36; refine HC.mono ?_; rintro e w1 ⟨rfl, hb1⟩)
      go_ret
      exact ⟨rfl, HB.out.trans (hb1.mono HB.out.size)⟩
end Go.Proofs.Ytpjigcccjiidpaa.Ex
