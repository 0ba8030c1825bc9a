import Derived.Test.YtnfddiabhpandaaGreatDoorAsM
import Derived.Test.YtnfddiabhpandaaGreatDoorOaM
import Derived.Deep.DeepCutAuto
namespace Go.Proofs.YtnfddiabhpandaaGreatDoor.Tr
open Go.RowKit Go.Lib Go.Deep

theorem wpList_callv {P : Program} {ops : Array Oper} {rest : List Oper} {o : Oper} {a : Act} {w : World} {Q : Exit → Act → World → Prop} (hg : o.guard = none) (f : FuncId) (hcf : ∀ args w, (callFunc f args).run P w = .ok (.enter f args) w) (x : Operand) (xs : Array Operand) (ts : Array TypeId) (ho : o.op = Op.call { callee := Callee.value x, args := xs, argTypes := ts }) (hx : a.eval x = .func (.func f) #[] #[]) (args : Array Value) (hv : xs.map a.eval = args) {R : Ending → World → Prop} (hc : Calls P f args w R)
    (hR : ∀ e w', R e w' → ∃ v, e = .returned v ∧ wpList P ops Q rest (a.put o.dst v) w') : wpList P ops Q (o :: rest) a w := by
  refine wpList_plain hg fun K hK => ?_
  have hrun : (execOp a.eval o).run P w = .ok (.enter f args) w := by
    unfold execOp
    simp [ho, resolve, invoke, Deferred.ofValue, hcf, hv, hx]
  unfold Oper.wp
  rw [hrun, Oper.upon_enter]
  refine hc.mono fun e w'' hh => ?_
  obtain ⟨v, rfl, hk⟩ := hR e w'' hh
  exact hK _ _ hk
theorem step_callv {P : Program} {ops : Array Oper} {o : Oper} {a : Act} {w : World} {K : Act → World → Prop} {Q : Exit → Act → World → Prop} {E : Prop} (hg : o.guard = none) (f : FuncId) (hcf : ∀ args w, (callFunc f args).run P w = .ok (.enter f args) w) (x : Operand) (xs : Array Operand) (ts : Array TypeId) (ho : o.op = Op.call { callee := Callee.value x, args := xs, argTypes := ts }) (hx : a.eval x = .func (.func f) #[] #[]) (args : Array Value) (hv : xs.map a.eval = args) {R : Ending → World → Prop} (hc : Calls P f args w R)
    (hR : ∀ e w', R e w' → ∃ v, e = .returned v ∧ K (a.put o.dst v) w') : if Region.wanted o (yielded ops a.tmps) = true then Oper.wp P o a w K Q else E := by
  have hw : Region.wanted o (yielded ops a.tmps) = true := by simp [Region.wanted, hg]
  rw [if_pos hw]
  have hrun : (execOp a.eval o).run P w = .ok (.enter f args) w := by
    unfold execOp
    simp [ho, resolve, invoke, Deferred.ofValue, hcf, hv, hx]
  unfold Oper.wp
  rw [hrun, Oper.upon_enter]
  refine hc.mono fun e w'' hh => ?_
  obtain ⟨v, rfl, hk⟩ := hR e w'' hh
  exact hk
set_option maxRecDepth 20000 in
theorem made_any (w : World) (b q : Nat) (h : w.cell? ⟨b, 0, none⟩ = some (.pointer (some ⟨q, 0, none⟩))) : Calls Tryz.prog 34 #[.pointer (some ⟨b, 0, none⟩)] w fun e w' => e = .returned (.bool true) ∧ w' = w := by
  go_enter Tryz.func34, Tryz.ntmps34
  go_wp2
  go_ret
  exact ⟨rfl, rfl⟩
/-- two rows written anew, in blocks of the call's own -/
theorem Turn.rows2 {F : List Nat} {w W : World} {q nn g b : Nat} {T : Ts} {c c' A B : Array Value} (h : Turn F w W q nn T) (hg : w.heap.size ≤ g) (hb : w.heap.size ≤ b) (kg : W.heap[g]? = some (.cells c 33 (0, 0))) (kb : W.heap[b]? = some (.cells c' 35 (0, 0))) : Turn F w ((W.setRow g A).setRow b B) q nn T := by
  refine h.other (S := [g, b]) ⟨rfl, rfl, rfl, by simp, fun k _ hk => ?_⟩ fun k hk => ?_
  · simp only [List.mem_cons, List.not_mem_nil, or_false, not_or] at hk
    exact (setRow_other _ _ _ _ hk.2).trans (setRow_other _ _ _ _ hk.1)
  · simp only [List.mem_cons, List.not_mem_nil, or_false] at hk
    rcases hk with rfl | rfl
    · exact ⟨hg, _, _, kg, by decide⟩
    · exact ⟨hb, _, _, kb, by decide⟩
set_option maxRecDepth 20000 in
set_option maxHeartbeats 4000000 in
theorem do_row (w : World) (b q : Nat) (F : List Nat) (nn : Nat) (T : Ts) (A : Ans) (E : Int) (f : FuncId) (bt ba bn : Bool) (ok oa on : Int) (op ot od : ByteArray)
    (hbk : w.heap[b]? = some (.cells #[.pointer (some ⟨q, 0, none⟩)] 78 (0, 0))) (hL : Lay w q F nn T)
    (hask : ∀ V, Calls Tryz.prog 37 #[.agg #[.int .i64 ok, .string op, .string ot, .int .i64 oa, .int .i64 on, .string od]] V fun e w' => AskP V w' e E f bt ba bn ok oa on op ot od) (hcf : ∀ args w, (callFunc f args).run Tryz.prog w = .ok (.enter f args) w)
    (hf : E = 0 → ∀ V sa n sc ta tn tc, Below w.heap.size w V → Pa.See V (.slice sa n sc) (Pa.parseY op) → (bt = true → Pa.See V (.slice ta tn tc) (Pa.parseY ot)) → Calls Tryz.prog f #[.pointer (some ⟨q, 0, none⟩), .agg #[.int .i64 ok, .string op, .string ot, .int .i64 oa, .int .i64 on, .string od, .slice sa n sc, .slice ta tn tc]] V fun e w' => Did F V w' q (nn + 1) A e) (hA : E ≠ 0 → A = ref T E) :
    Calls Tryz.prog 12 #[.pointer (some ⟨b, 0, none⟩), .agg #[.int .i64 ok, .string op, .string ot, .int .i64 oa, .int .i64 on, .string od]] w fun e w' => Did F w w' q (nn + 1) A e := by
  obtain ⟨W, hW, hb, kp, k0, k1⟩ := three_new w #[.int .i64 ok, .string op, .string ot, .int .i64 oa, .int .i64 on, .string od] R0 E0 39 33 35
  obtain ⟨p0, p1, p2, p3, p4, p5⟩ := cells6 kp
  have HBW : Hid (Below w.heap.size w W) := hb
  have HQW : Hid _ := k0
  have HEW : Hid _ := k1
  have HLay : Hid (∀ W', Below w.heap.size w W' → Lay W' q F nn T) := fun W' hb => hL.below hb
  have HTB : Hid (∀ V, Below w.heap.size w V → V.heap[b]? = some (.cells #[.pointer (some ⟨q, 0, none⟩)] 78 (0, 0))) := fun V hb => (hb.block _ (heap_lt hbk)).trans hbk
  have HNF : Hid (b < w.heap.size ∧ ∀ V, Below w.heap.size w V → b ∉ F) := ⟨heap_lt hbk, fun V _ => hL.notin hbk (by decide)⟩
  have htb : W.cell? ⟨b, 0, none⟩ = some (.pointer (some ⟨q, 0, none⟩)) := (cell_of_heap (HTB.out _ hb)).trans rfl
  have HASK : Hid _ := hask
  have HFF : Hid _ := hf
  have HAA : Hid _ := hA
  clear hb kp k0 k1 hL hbk hask hf hA
  unfold R0 E0 at hW
  go_enter Tryz.func12, Tryz.ntmps12
  go_wp2_with fail
  refine (made_any W b q htb).mono ?_
  rintro e w2 ⟨rfl, rfl⟩
  go_wp2_with fail
  refine (HASK.out w2).mono ?_
  rintro e w3 (⟨HE0, HY⟩ | ⟨HE0, HN⟩)
  · have HE : Hid (E = 0) := HE0
    obtain ⟨sa, n, sc, ta, tn, tc, rfl, hs, ht, hb3⟩ := HY
    obtain ⟨W5, hW5, hb5, h5, h6⟩ := two_new w3 ZO ZR 82 84
    have hbw3 : Below w.heap.size w w3 := below_on hb3 HBW.out
    have hlt : w.heap.size + 1 + 1 < w3.heap.size := Nat.lt_of_lt_of_le (heap_lt HEW.out) hb3.size
    obtain ⟨W7, hW7⟩ : ∃ W7, (W5.setRow w3.heap.size #[.func (.func f) #[] #[], .bool bt, .bool ba, .bool bn]).setRow (w3.heap.size + 1) #[.int .i64 ok, .string op, .string ot, .int .i64 oa, .int .i64 on, .string od, .slice sa n sc, .slice ta tn tc] = W7 := ⟨_, rfl⟩
    have k5 : W7.heap[w3.heap.size]? = some (.cells #[.func (.func f) #[] #[], .bool bt, .bool ba, .bool bn] 82 (0, 0)) := by
      rw [← hW7]
      exact (setRow_other _ _ _ _ (by omega)).trans (setRow_heap _ _ _ _ _ _ h5)
    have k6 : W7.heap[w3.heap.size + 1]? = some (.cells #[.int .i64 ok, .string op, .string ot, .int .i64 oa, .int .i64 on, .string od, .slice sa n sc, .slice ta tn tc] 84 (0, 0)) := by
      rw [← hW7]
      exact setRow_heap _ _ _ _ _ _ ((setRow_other _ _ _ _ (by omega)).trans h6)
    have hb37 : Below w3.heap.size w3 W7 := by
      rw [← hW7]
      exact setRow_below (setRow_below hb5 (Nat.le_refl _) _) (by omega) _
    have hb7 : Below w.heap.size w W7 := below_on hb37 hbw3
    have HQ7 : Hid (W7.heap[w.heap.size + 1]? = some (.cells R0 33 (0, 0))) := ((below_on hb37 hb3).block _ (heap_lt HQW.out)).trans HQW.out
    have HE7 : Hid (W7.heap[w.heap.size + 1 + 1]? = some (.cells E0 35 (0, 0))) := ((below_on hb37 hb3).block _ (heap_lt HEW.out)).trans HEW.out
    have hone : (#[.func (.func f) #[] #[], .bool bt, .bool ba, .bool bn] : Array Value).all (·.oneCell') = true := by simp [Value.oneCell']
    have hone2 : (#[.int .i64 ok, .string op, .string ot, .int .i64 oa, .int .i64 on, .string od, .slice sa n sc, .slice ta tn tc] : Array Value).all (·.oneCell') = true := by simp [Value.oneCell']
    obtain ⟨g6, hg6⟩ : ∃ g6, w3.heap.size = g6 := ⟨_, rfl⟩
    obtain ⟨g7, hg7⟩ : ∃ g7, w3.heap.size + 1 = g7 := ⟨_, rfl⟩
    have HG : Hid (w.heap.size + 1 + 1 < g6 ∧ w.heap.size + 1 + 1 < g7 ∧ b < w.heap.size ∧ g6 < W7.heap.size ∧ g7 < W7.heap.size) := ⟨by omega, by omega, HNF.out.1, hg6 ▸ heap_lt k5, hg7 ▸ heap_lt k6⟩
    have HK : Hid (∀ V : World, V.heap[g6]? = W7.heap[g6]? → V.heap[g7]? = W7.heap[g7]? → V.heap[b]? = W7.heap[b]? → V.cell? ⟨g6, 0, none⟩ = some (.func (.func f) #[] #[]) ∧ V.cell? ⟨b, 0, none⟩ = some (.pointer (some ⟨q, 0, none⟩)) ∧ V.cell? ⟨g7, 0, none⟩ = some (.int .i64 ok) ∧ V.cell? ⟨g7, 1, none⟩ = some (.string op) ∧ V.cell? ⟨g7, 2, none⟩ = some (.string ot) ∧ V.cell? ⟨g7, 3, none⟩ = some (.int .i64 oa) ∧ V.cell? ⟨g7, 4, none⟩ = some (.int .i64 on) ∧ V.cell? ⟨g7, 5, none⟩ = some (.string od) ∧ V.cell? ⟨g7, 6, none⟩ = some (.slice sa n sc) ∧ V.cell? ⟨g7, 7, none⟩ = some (.slice ta tn tc)) := fun V e6 e7 eb => by
      rw [← hg6] at e6
      rw [← hg7] at e7
      rw [← hg6, ← hg7]
      exact ⟨(cells4 (e6.trans k5)).1, (cell_of_heap (eb.trans (HTB.out _ hb7))).trans rfl, cells8 (e7.trans k6)⟩
    have HCALL : Hid (Calls Tryz.prog f #[.pointer (some ⟨q, 0, none⟩), .agg #[.int .i64 ok, .string op, .string ot, .int .i64 oa, .int .i64 on, .string od, .slice sa n sc, .slice ta tn tc]] W7.drew fun e w8 => ∃ va vn vc r0 r1 r2 r3 f0 f1 f2 f3 f4 f5 f6, e = .returned (.tuple #[.agg #[.int .i64 r0, .string e0, .int .i64 r1, .slice va vn vc, .int .i64 r2, .int .i64 r3], .agg #[.int .i64 f0, .int .i64 f1, .int .i64 f2, .int .i64 f3, .int .i64 f4, .string f5, .int .i64 f6]]) ∧ Hid ((w8.cell? ⟨g6, 0, none⟩ = some (.func (.func f) #[] #[]) ∧ w8.cell? ⟨b, 0, none⟩ = some (.pointer (some ⟨q, 0, none⟩)) ∧ w8.cell? ⟨g7, 0, none⟩ = some (.int .i64 ok) ∧ w8.cell? ⟨g7, 1, none⟩ = some (.string op) ∧ w8.cell? ⟨g7, 2, none⟩ = some (.string ot) ∧ w8.cell? ⟨g7, 3, none⟩ = some (.int .i64 oa) ∧ w8.cell? ⟨g7, 4, none⟩ = some (.int .i64 on) ∧ w8.cell? ⟨g7, 5, none⟩ = some (.string od) ∧ w8.cell? ⟨g7, 6, none⟩ = some (.slice sa n sc) ∧ w8.cell? ⟨g7, 7, none⟩ = some (.slice ta tn tc)) ∧ w8.heap[w.heap.size + 1]? = some (.cells R0 33 (0, 0)) ∧ (w8.setRow (w.heap.size + 1) #[.int .i64 r0, .string e0, .int .i64 r1, .slice va vn vc, .int .i64 r2, .int .i64 r3]).heap[w.heap.size + 1 + 1]? = some (.cells E0 35 (0, 0)) ∧ ((w8.setRow (w.heap.size + 1) #[.int .i64 r0, .string e0, .int .i64 r1, .slice va vn vc, .int .i64 r2, .int .i64 r3]).cell? ⟨g6, 0, none⟩ = some (.func (.func f) #[] #[]) ∧ (w8.setRow (w.heap.size + 1) #[.int .i64 r0, .string e0, .int .i64 r1, .slice va vn vc, .int .i64 r2, .int .i64 r3]).cell? ⟨b, 0, none⟩ = some (.pointer (some ⟨q, 0, none⟩)) ∧ (w8.setRow (w.heap.size + 1) #[.int .i64 r0, .string e0, .int .i64 r1, .slice va vn vc, .int .i64 r2, .int .i64 r3]).cell? ⟨g7, 0, none⟩ = some (.int .i64 ok) ∧ (w8.setRow (w.heap.size + 1) #[.int .i64 r0, .string e0, .int .i64 r1, .slice va vn vc, .int .i64 r2, .int .i64 r3]).cell? ⟨g7, 1, none⟩ = some (.string op) ∧ (w8.setRow (w.heap.size + 1) #[.int .i64 r0, .string e0, .int .i64 r1, .slice va vn vc, .int .i64 r2, .int .i64 r3]).cell? ⟨g7, 2, none⟩ = some (.string ot) ∧ (w8.setRow (w.heap.size + 1) #[.int .i64 r0, .string e0, .int .i64 r1, .slice va vn vc, .int .i64 r2, .int .i64 r3]).cell? ⟨g7, 3, none⟩ = some (.int .i64 oa) ∧ (w8.setRow (w.heap.size + 1) #[.int .i64 r0, .string e0, .int .i64 r1, .slice va vn vc, .int .i64 r2, .int .i64 r3]).cell? ⟨g7, 4, none⟩ = some (.int .i64 on) ∧ (w8.setRow (w.heap.size + 1) #[.int .i64 r0, .string e0, .int .i64 r1, .slice va vn vc, .int .i64 r2, .int .i64 r3]).cell? ⟨g7, 5, none⟩ = some (.string od) ∧ (w8.setRow (w.heap.size + 1) #[.int .i64 r0, .string e0, .int .i64 r1, .slice va vn vc, .int .i64 r2, .int .i64 r3]).cell? ⟨g7, 6, none⟩ = some (.slice sa n sc) ∧ (w8.setRow (w.heap.size + 1) #[.int .i64 r0, .string e0, .int .i64 r1, .slice va vn vc, .int .i64 r2, .int .i64 r3]).cell? ⟨g7, 7, none⟩ = some (.slice ta tn tc)) ∧ (((w8.setRow (w.heap.size + 1) #[.int .i64 r0, .string e0, .int .i64 r1, .slice va vn vc, .int .i64 r2, .int .i64 r3]).setRow (w.heap.size + 1 + 1) #[.int .i64 f0, .int .i64 f1, .int .i64 f2, .int .i64 f3, .int .i64 f4, .string f5, .int .i64 f6]).cell? ⟨g6, 0, none⟩ = some (.func (.func f) #[] #[]) ∧ ((w8.setRow (w.heap.size + 1) #[.int .i64 r0, .string e0, .int .i64 r1, .slice va vn vc, .int .i64 r2, .int .i64 r3]).setRow (w.heap.size + 1 + 1) #[.int .i64 f0, .int .i64 f1, .int .i64 f2, .int .i64 f3, .int .i64 f4, .string f5, .int .i64 f6]).cell? ⟨b, 0, none⟩ = some (.pointer (some ⟨q, 0, none⟩)) ∧ ((w8.setRow (w.heap.size + 1) #[.int .i64 r0, .string e0, .int .i64 r1, .slice va vn vc, .int .i64 r2, .int .i64 r3]).setRow (w.heap.size + 1 + 1) #[.int .i64 f0, .int .i64 f1, .int .i64 f2, .int .i64 f3, .int .i64 f4, .string f5, .int .i64 f6]).cell? ⟨g7, 0, none⟩ = some (.int .i64 ok) ∧ ((w8.setRow (w.heap.size + 1) #[.int .i64 r0, .string e0, .int .i64 r1, .slice va vn vc, .int .i64 r2, .int .i64 r3]).setRow (w.heap.size + 1 + 1) #[.int .i64 f0, .int .i64 f1, .int .i64 f2, .int .i64 f3, .int .i64 f4, .string f5, .int .i64 f6]).cell? ⟨g7, 1, none⟩ = some (.string op) ∧ ((w8.setRow (w.heap.size + 1) #[.int .i64 r0, .string e0, .int .i64 r1, .slice va vn vc, .int .i64 r2, .int .i64 r3]).setRow (w.heap.size + 1 + 1) #[.int .i64 f0, .int .i64 f1, .int .i64 f2, .int .i64 f3, .int .i64 f4, .string f5, .int .i64 f6]).cell? ⟨g7, 2, none⟩ = some (.string ot) ∧ ((w8.setRow (w.heap.size + 1) #[.int .i64 r0, .string e0, .int .i64 r1, .slice va vn vc, .int .i64 r2, .int .i64 r3]).setRow (w.heap.size + 1 + 1) #[.int .i64 f0, .int .i64 f1, .int .i64 f2, .int .i64 f3, .int .i64 f4, .string f5, .int .i64 f6]).cell? ⟨g7, 3, none⟩ = some (.int .i64 oa) ∧ ((w8.setRow (w.heap.size + 1) #[.int .i64 r0, .string e0, .int .i64 r1, .slice va vn vc, .int .i64 r2, .int .i64 r3]).setRow (w.heap.size + 1 + 1) #[.int .i64 f0, .int .i64 f1, .int .i64 f2, .int .i64 f3, .int .i64 f4, .string f5, .int .i64 f6]).cell? ⟨g7, 4, none⟩ = some (.int .i64 on) ∧ ((w8.setRow (w.heap.size + 1) #[.int .i64 r0, .string e0, .int .i64 r1, .slice va vn vc, .int .i64 r2, .int .i64 r3]).setRow (w.heap.size + 1 + 1) #[.int .i64 f0, .int .i64 f1, .int .i64 f2, .int .i64 f3, .int .i64 f4, .string f5, .int .i64 f6]).cell? ⟨g7, 5, none⟩ = some (.string od) ∧ ((w8.setRow (w.heap.size + 1) #[.int .i64 r0, .string e0, .int .i64 r1, .slice va vn vc, .int .i64 r2, .int .i64 r3]).setRow (w.heap.size + 1 + 1) #[.int .i64 f0, .int .i64 f1, .int .i64 f2, .int .i64 f3, .int .i64 f4, .string f5, .int .i64 f6]).cell? ⟨g7, 6, none⟩ = some (.slice sa n sc) ∧ ((w8.setRow (w.heap.size + 1) #[.int .i64 r0, .string e0, .int .i64 r1, .slice va vn vc, .int .i64 r2, .int .i64 r3]).setRow (w.heap.size + 1 + 1) #[.int .i64 f0, .int .i64 f1, .int .i64 f2, .int .i64 f3, .int .i64 f4, .string f5, .int .i64 f6]).cell? ⟨g7, 7, none⟩ = some (.slice ta tn tc)) ∧ ((w8.setRow (w.heap.size + 1) #[.int .i64 r0, .string e0, .int .i64 r1, .slice va vn vc, .int .i64 r2, .int .i64 r3]).setRow (w.heap.size + 1 + 1) #[.int .i64 f0, .int .i64 f1, .int .i64 f2, .int .i64 f3, .int .i64 f4, .string f5, .int .i64 f6]).heap[w.heap.size + 1]? = some (.cells #[.int .i64 r0, .string e0, .int .i64 r1, .slice va vn vc, .int .i64 r2, .int .i64 r3] 33 (0, 0)) ∧ ((w8.setRow (w.heap.size + 1) #[.int .i64 r0, .string e0, .int .i64 r1, .slice va vn vc, .int .i64 r2, .int .i64 r3]).setRow (w.heap.size + 1 + 1) #[.int .i64 f0, .int .i64 f1, .int .i64 f2, .int .i64 f3, .int .i64 f4, .string f5, .int .i64 f6]).heap[w.heap.size + 1 + 1]? = some (.cells #[.int .i64 f0, .int .i64 f1, .int .i64 f2, .int .i64 f3, .int .i64 f4, .string f5, .int .i64 f6] 35 (0, 0)) ∧ Did F w ((w8.setRow (w.heap.size + 1) #[.int .i64 r0, .string e0, .int .i64 r1, .slice va vn vc, .int .i64 r2, .int .i64 r3]).setRow (w.heap.size + 1 + 1) #[.int .i64 f0, .int .i64 f1, .int .i64 f2, .int .i64 f3, .int .i64 f4, .string f5, .int .i64 f6]) q (nn + 1) A (.returned (.tuple #[.agg #[.int .i64 r0, .string e0, .int .i64 r1, .slice va vn vc, .int .i64 r2, .int .i64 r3], .agg #[.int .i64 f0, .int .i64 f1, .int .i64 f2, .int .i64 f3, .int .i64 f4, .string f5, .int .i64 f6]])))) := by
      refine (HFF.out HE.out W7.drew sa n sc ta tn tc hb7.drew (hs.below (hb37.trans ((Below.refl _ _).drew.mono hb37.size))) (fun h => (ht h).below (hb37.trans ((Below.refl _ _).drew.mono hb37.size)))).mono ?_
      rintro e w8 ⟨v, rfl, hO, hT⟩
      obtain ⟨va, vc, rfl⟩ := hO.len
      have hL7 := HLay.out W7.drew hb7.drew
      have keep : ∀ {k : Nat} {c : Array Value} {t : TypeId}, W7.heap[k]? = some (.cells c t (0, 0)) → ¬ (t = 125 ∨ t = 172 ∨ t = 176) → w8.heap[k]? = W7.heap[k]? := fun {k c t} h1 h2 => (hT.1.block k (heap_lt h1) (hL7.notin (w := W7.drew) h1 h2))
      have e5 := keep k5 (by decide)
      have e6 := keep k6 (by decide)
      have eb := keep (HTB.out _ hb7) (by decide)
      have eQ := (keep HQ7.out (by decide)).trans HQ7.out
      have eE := (keep HE7.out (by decide)).trans HE7.out
      rw [hg6] at e5
      rw [hg7] at e6
      have hG := HG.out
      refine ⟨va, _, vc, A.1.code, A.1.n, A.1.kind, A.1.size, A.2.1.kind, A.2.1.file, A.2.1.gone, A.2.1.at_, A.2.1.n, A.2.1.data, A.2.1.size, rfl, HK.out _ e5 e6 eb, eQ, (setRow_other _ _ _ _ (by omega)).trans eE, HK.out _ ((setRow_other _ _ _ _ (by omega)).trans e5) ((setRow_other _ _ _ _ (by omega)).trans e6) ((setRow_other _ _ _ _ (by omega)).trans eb), HK.out _ ((setRow_other _ _ _ _ (by omega)).trans ((setRow_other _ _ _ _ (by omega)).trans e5)) ((setRow_other _ _ _ _ (by omega)).trans ((setRow_other _ _ _ _ (by omega)).trans e6)) ((setRow_other _ _ _ _ (by omega)).trans ((setRow_other _ _ _ _ (by omega)).trans eb)), (setRow_other _ _ _ _ (by omega)).trans (setRow_heap _ _ _ _ _ _ eQ), setRow_heap _ _ _ _ _ _ ((setRow_other _ _ _ _ (by omega)).trans eE), ?_⟩
      have hsz : W7.drew.heap.size = W7.heap.size := rfl
      refine ⟨_, rfl, (own_row (own_row hO (by omega)) (by omega)).mono (by have := hb7.size; omega), Turn.rows2 (Turn.ahead hb7.drew hT) (by omega) (by omega) eQ eE⟩
    have hSx : W7.drew.cell? ⟨g6, 0, none⟩ = some (.func (.func f) #[] #[]) ∧ W7.drew.cell? ⟨b, 0, none⟩ = some (.pointer (some ⟨q, 0, none⟩)) ∧ W7.drew.cell? ⟨g7, 0, none⟩ = some (.int .i64 ok) ∧ W7.drew.cell? ⟨g7, 1, none⟩ = some (.string op) ∧ W7.drew.cell? ⟨g7, 2, none⟩ = some (.string ot) ∧ W7.drew.cell? ⟨g7, 3, none⟩ = some (.int .i64 oa) ∧ W7.drew.cell? ⟨g7, 4, none⟩ = some (.int .i64 on) ∧ W7.drew.cell? ⟨g7, 5, none⟩ = some (.string od) ∧ W7.drew.cell? ⟨g7, 6, none⟩ = some (.slice sa n sc) ∧ W7.drew.cell? ⟨g7, 7, none⟩ = some (.slice ta tn tc) := HK.out _ rfl rfl rfl
    have x5 := h5
    have x6 : (W5.setRow w3.heap.size #[.func (.func f) #[] #[], .bool bt, .bool ba, .bool bn]).heap[w3.heap.size + 1]? = some (.cells ZR 84 (0, 0)) := (setRow_other _ _ _ _ (by omega)).trans h6
    have HG6 : Hid (w3.heap.size = g6) := hg6
    have HG7 : Hid (w3.heap.size + 1 = g7) := hg7
    clear hg6 hg7 hb3 hb5 h6 hbw3 hlt hb37 hb7 hs ht HQ7 HE7 HK HFF HASK HAA HLay HTB HNF k5 k6 htb h5
    go_upto_region 6 with (first
      | (refine wpList_store_row rfl 82 (.tmp 6) (.tmp 18) rfl w3.heap.size #[.func (.func f) #[] #[], .bool bt, .bool ba, .bool bn] rfl rfl 82 _ x5 sizeOp rfl hone ?_)
      | (refine wpList_store_row rfl 84 (.tmp 7) (.tmp 19) rfl (w3.heap.size + 1) #[.int .i64 ok, .string op, .string ot, .int .i64 oa, .int .i64 on, .string od, .slice sa n sc, .slice ta tn tc] rfl rfl 84 _ x6 sizeRq rfl hone2 ?_; rw [hW7]))
    rw [HG7.out, HG6.out]
    refine wp_region_held_drew (S := fun V => V.cell? ⟨g6, 0, none⟩ = some (.func (.func f) #[] #[]) ∧ V.cell? ⟨b, 0, none⟩ = some (.pointer (some ⟨q, 0, none⟩)) ∧ V.cell? ⟨g7, 0, none⟩ = some (.int .i64 ok) ∧ V.cell? ⟨g7, 1, none⟩ = some (.string op) ∧ V.cell? ⟨g7, 2, none⟩ = some (.string ot) ∧ V.cell? ⟨g7, 3, none⟩ = some (.int .i64 oa) ∧ V.cell? ⟨g7, 4, none⟩ = some (.int .i64 on) ∧ V.cell? ⟨g7, 5, none⟩ = some (.string od) ∧ V.cell? ⟨g7, 6, none⟩ = some (.slice sa n sc) ∧ V.cell? ⟨g7, 7, none⟩ = some (.slice ta tn tc)) (by kernel_rfl) hSx ?_
    intro hS
    clear hSx
    refine wpAnyH_take (i := 0) (oi := { dst := some 27, op := .fieldAddr 82 (.tmp 6) 0, type := _, pos := _, after := _, guard := none }) (v := .pointer (some ⟨g6, 0, none⟩)) rfl (by kernel_rfl) (by kernel_rfl) (by kernel_rfl) (fun _ _ _ h => h) (Or.inl ⟨by rfl, by intro x _; go_simp⟩) hS ?_
    (try simp only [Act.put, List.setIfInBounds_toArray, List.set_cons_zero, List.set_cons_succ])
    refine wpAnyH_take (i := 1) (oi := { dst := some 28, op := .load 80 (.tmp 27), type := _, pos := _, after := _, guard := none }) (v := .func (.func f) #[] #[]) rfl (by kernel_rfl) (by kernel_rfl) (by kernel_rfl) (fun _ _ _ h => h) (Or.inl ⟨by rfl, by intro x hx; have h1 := hx.1; go_simp⟩) hS ?_
    (try simp only [Act.put, List.setIfInBounds_toArray, List.set_cons_zero, List.set_cons_succ])
    refine wpAnyH_take (i := 2) (oi := { dst := some 29, op := .move (.tmp 0), type := _, pos := _, after := _, guard := none }) (v := .pointer (some ⟨b, 0, none⟩)) rfl (by kernel_rfl) (by kernel_rfl) (by kernel_rfl) (fun _ _ _ h => h) (Or.inl ⟨by rfl, by intro x _; go_simp⟩) hS ?_
    (try simp only [Act.put, List.setIfInBounds_toArray, List.set_cons_zero, List.set_cons_succ])
    refine wpAnyH_take (i := 3) (oi := { dst := some 30, op := .nilCheck (.tmp 29), type := _, pos := _, after := _, guard := none }) (v := .pointer (some ⟨b, 0, none⟩)) rfl (by kernel_rfl) (by kernel_rfl) (by kernel_rfl) (fun _ _ _ h => h) (Or.inl ⟨by rfl, by intro x _; go_simp⟩) hS ?_
    (try simp only [Act.put, List.setIfInBounds_toArray, List.set_cons_zero, List.set_cons_succ])
    refine wpAnyH_take (i := 4) (oi := { dst := some 31, op := .fieldAddr 78 (.tmp 30) 0, type := _, pos := _, after := _, guard := none }) (v := .pointer (some ⟨b, 0, none⟩)) rfl (by kernel_rfl) (by kernel_rfl) (by kernel_rfl) (fun _ _ _ h => h) (Or.inl ⟨by rfl, by intro x _; go_simp⟩) hS ?_
    (try simp only [Act.put, List.setIfInBounds_toArray, List.set_cons_zero, List.set_cons_succ])
    refine wpAnyH_take (i := 5) (oi := { dst := some 32, op := .load 76 (.tmp 31), type := _, pos := _, after := _, guard := none }) (v := .pointer (some ⟨q, 0, none⟩)) rfl (by kernel_rfl) (by kernel_rfl) (by kernel_rfl) (fun _ _ _ h => h) (Or.inl ⟨by rfl, by intro x hx; have h1 := hx.2.1; go_simp⟩) hS ?_
    (try simp only [Act.put, List.setIfInBounds_toArray, List.set_cons_zero, List.set_cons_succ])
    refine wpAnyH_take (i := 6) (oi := { dst := some 33, op := .load 84 (.tmp 7), type := _, pos := _, after := _, guard := none }) (v := .agg #[.int .i64 ok, .string op, .string ot, .int .i64 oa, .int .i64 on, .string od, .slice sa n sc, .slice ta tn tc]) rfl (by kernel_rfl) (by kernel_rfl) (by kernel_rfl) (fun _ _ _ h => h) (Or.inl ⟨by rfl, by intro x hx; obtain ⟨_, _, h0, h1, h2, h3, h4, h5, h6, h7⟩ := hx; go_simp⟩) hS ?_
    (try simp only [Act.put, List.setIfInBounds_toArray, List.set_cons_zero, List.set_cons_succ])
    refine wpAnyH_ready (rs := [7]) (by kernel_rfl) (by simp) ?_
    refine AllReadyH.cons (o := { dst := some 34, op := .call { callee := .value (.tmp 28), args := #[.tmp 32, .tmp 33], argTypes := #[76, 84] }, type := _, pos := _, after := _, guard := none }) rfl (fun K hK => ?_) AllReadyH.nil
    refine step_callv rfl f hcf (.tmp 28) #[.tmp 32, .tmp 33] #[76, 84] rfl (by simp [Act.eval]) #[.pointer (some ⟨q, 0, none⟩), .agg #[.int .i64 ok, .string op, .string ot, .int .i64 oa, .int .i64 on, .string od, .slice sa n sc, .slice ta tn tc]] (by simp [Act.eval]) HCALL.out ?_
    rintro e w8 ⟨va, vn, vc, r0, r1, r2, r3, f0, f1, f2, f3, f4, f5, f6, rfl, HD8⟩
    refine ⟨_, rfl, ?_⟩
    have hS2 := HD8.out.1
    refine hK.out _ _ hS2 (fun _ => ?_)
    clear hK K hS
    (try simp only [Act.put, List.setIfInBounds_toArray, List.set_cons_zero, List.set_cons_succ])
    have hS := hS2
    clear hS2
    refine wpAnyH_take (i := 8) (oi := { dst := some 35, op := .extract (.tmp 34) 0, type := _, pos := _, after := _, guard := none }) (v := .agg #[.int .i64 r0, .string e0, .int .i64 r1, .slice va vn vc, .int .i64 r2, .int .i64 r3]) rfl (by kernel_rfl) (by kernel_rfl) (by kernel_rfl) (fun _ _ _ h => h) (Or.inl ⟨by rfl, by intro x _; go_simp⟩) hS ?_
    (try simp only [Act.put, List.setIfInBounds_toArray, List.set_cons_zero, List.set_cons_succ])
    refine wpAnyH_take (i := 9) (oi := { dst := some 36, op := .extract (.tmp 34) 1, type := _, pos := _, after := _, guard := none }) (v := .agg #[.int .i64 f0, .int .i64 f1, .int .i64 f2, .int .i64 f3, .int .i64 f4, .string f5, .int .i64 f6]) rfl (by kernel_rfl) (by kernel_rfl) (by kernel_rfl) (fun _ _ _ h => h) (Or.inl ⟨by rfl, by intro x _; go_simp⟩) hS ?_
    (try simp only [Act.put, List.setIfInBounds_toArray, List.set_cons_zero, List.set_cons_succ])
    refine wpAnyH_ready (rs := [10]) (by kernel_rfl) (by simp) ?_
    refine AllReadyH.cons (o := { dst := none, op := .store 33 (.tmp 4) (.tmp 35), type := _, pos := _, after := _, guard := none }) rfl (fun K hK => ?_) AllReadyH.nil
    refine step_store_row rfl 33 (.tmp 4) (.tmp 35) rfl (w.heap.size + 1) #[.int .i64 r0, .string e0, .int .i64 r1, .slice va vn vc, .int .i64 r2, .int .i64 r3] (by simp [Act.eval]) (by simp [Act.eval]) 33 _ HD8.out.2.1 sizeRes rfl (by simp [Value.oneCell']) ?_
    have hS2 := HD8.out.2.2.2.1
    refine hK.out _ _ hS2 (fun _ => ?_)
    clear hK K hS
    (try simp only [Act.put])
    have hS := hS2
    clear hS2
    refine wpAnyH_ready (rs := [11]) (by kernel_rfl) (by simp) ?_
    refine AllReadyH.cons (o := { dst := none, op := .store 35 (.tmp 5) (.tmp 36), type := _, pos := _, after := _, guard := none }) rfl (fun K hK => ?_) AllReadyH.nil
    refine step_store_row rfl 35 (.tmp 5) (.tmp 36) rfl (w.heap.size + 1 + 1) #[.int .i64 f0, .int .i64 f1, .int .i64 f2, .int .i64 f3, .int .i64 f4, .string f5, .int .i64 f6] (by simp [Act.eval]) (by simp [Act.eval]) 35 _ HD8.out.2.2.1 sizeEff rfl (by simp [Value.oneCell']) ?_
    have hS2 := HD8.out.2.2.2.2.1
    refine hK.out _ _ hS2 (fun _ => ?_)
    clear hK K hS
    (try simp only [Act.put])
    have hS := hS2
    clear hS2
    refine wpAnyH_done (by kernel_rfl) ?_ _
    clear hS
    go_wp2_with fail
    refine bodyPost_ret (results_cell2 rfl _ _ (w.heap.size + 1) 33 _ (0, 0) _ (w.heap.size + 1 + 1) 35 _ (0, 0) _ rfl HD8.out.2.2.2.2.2.1 Tryz.underlying33 rfl sizeRes rfl HD8.out.2.2.2.2.2.2.1 Tryz.underlying35 rfl sizeEff) rfl ?_
    exact HD8.out.2.2.2.2.2.2.2
  · have HE : Hid (E ≠ 0) := HE0
    obtain ⟨rfl, hb3⟩ := HN
    have HB3 : Hid (Below w.heap.size w w3) := below_on hb3 HBW.out
    have HQ3 : Hid (w3.heap[w.heap.size + 1]? = some (.cells R0 33 (0, 0))) := (hb3.block _ (heap_lt HQW.out)).trans HQW.out
    have HE3 : Hid (w3.heap[w.heap.size + 1 + 1]? = some (.cells E0 35 (0, 0))) := (hb3.block _ (heap_lt HEW.out)).trans HEW.out
    obtain ⟨W5, hW5, hb5, h5, h6⟩ := two_new w3 ZO ZR 82 84
    obtain ⟨W7, hW7⟩ : ∃ W7, (W5.setRow w3.heap.size ZO).setRow (w3.heap.size + 1) ZR = W7 := ⟨_, rfl⟩
    have hb37 : Below w3.heap.size w3 W7 := by
      rw [← hW7]
      exact setRow_below (setRow_below hb5 (Nat.le_refl _) _) (by omega) _
    have HB7 : Hid (Below w.heap.size w W7) := below_on hb37 HB3.out
    have HQ7 : Hid (W7.heap[w.heap.size + 1]? = some (.cells R0 33 (0, 0))) := (hb37.block _ (heap_lt HQ3.out)).trans HQ3.out
    have HE7 : Hid (W7.heap[w.heap.size + 1 + 1]? = some (.cells E0 35 (0, 0))) := (hb37.block _ (heap_lt HE3.out)).trans HE3.out
    have hone : ZO.all (·.oneCell') = true := by simp [Value.oneCell']
    have hone2 : ZR.all (·.oneCell') = true := by simp [Value.oneCell']
    have x6 : (W5.setRow w3.heap.size ZO).heap[w3.heap.size + 1]? = some (.cells ZR 84 (0, 0)) := (setRow_other _ _ _ _ (by omega)).trans h6
    have hEb : (E != 0) = true := by simp [HE0]
    have HA2 : Hid (A = ref T E) := HAA.out HE0
    clear hb3 hb5 h6 hb37 HE0 HFF HASK HAA HTB HNF htb
    go_wp2_with (first
      | (refine wpList_store_row rfl 82 (.tmp 6) (.tmp 18) rfl w3.heap.size ZO rfl rfl 82 _ h5 sizeOp rfl hone ?_)
      | (refine wpList_store_row rfl 84 (.tmp 7) (.tmp 19) rfl (w3.heap.size + 1) ZR rfl rfl 84 _ x6 sizeRq rfl hone2 ?_; rw [hW7]))
    refine (refused_any W7 E).mono ?_
    rintro e w8 ⟨rfl, hb8⟩
    have HBw8 : Hid (Below w.heap.size w w8) := below_on hb8 HB7.out
    have HQw8 : Hid _ := (hb8.block _ (heap_lt HQ7.out)).trans HQ7.out
    have HEw8 : Hid _ := (hb8.block _ (heap_lt HE7.out)).trans HE7.out
    clear hb8
    obtain ⟨a0, a1, a2, a3, a4, a5⟩ := cells6 HQw8.out
    obtain ⟨b0, b1, b2, b3, b4, b5, b6⟩ := cells7 HEw8.out
    have fz0 : ∀ j, w8.frozen? ⟨w.heap.size + 1, j, none⟩ = false := fun j => frozen_of_heap HQw8.out
    have fz1 : ∀ j, w8.frozen? ⟨w.heap.size + 1 + 1, j, none⟩ = false := fun j => frozen_of_heap HEw8.out
    (try unfold rsV)
    (try unfold Rs.no)
    (try unfold efV)
    (try unfold Ef.no)
    go_wp2_with fail
    refine bodyPost_ret (results_cell2 rfl _ _ (w.heap.size + 1) 33 _ (0, 0) _ (w.heap.size + 1 + 1) 35 _ (0, 0) _ rfl (putRE HQw8.out HEw8.out (by omega)).1 Tryz.underlying33 rfl sizeRes rfl (putRE HQw8.out HEw8.out (by omega)).2 Tryz.underlying35 rfl sizeEff) rfl ?_
    rw [HA2.out]
    exact ⟨_, rfl, Pa.Own.nil _ _, (HLay.out _ (putRE_below HBw8.out (by omega) (by omega))).turn0 (putRE_below HBw8.out (by omega) (by omega))⟩

end Go.Proofs.YtnfddiabhpandaaGreatDoor.Tr
