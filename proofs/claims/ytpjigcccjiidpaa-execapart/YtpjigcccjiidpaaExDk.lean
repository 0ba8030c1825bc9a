import Derived.Test.YtpjigcccjiidpaaExDg
namespace Go.Proofs.Ytpjigcccjiidpaa.Ex
open Go.RowKit Go.Lib Go.Deep

/-- what is still to come -/
def Pr (T : List St) (Z : Option (Fl × List Rs)) (i : Nat) (L : Fl) (R : List Rr) : Prop := (goL L ((T.map (·.s)).drop i)).map (fun r => (r.1, (R.take i).map (·.r) ++ r.2)) = Z ∧ (R.take i).map (·.nm) = (T.take i).map (·.nm)
def Nx (w : World) (F0 : Nat → Prop) (m nn n p6 q : Nat) (T : List St) (Z : Option (Fl × List Rs)) (i : Nat) (V : World) : Prop := ∃ F L R, Fw w F0 m nn n p6 q i F L R V ∧ Pr T Z i L R
/-- the deed of a step, b9: where the step lies -/
def Dee (w : World) (F0 : Nat → Prop) (m nn n p6 q : Nat) (T : List St) (Z : Option (Fl × List Rs)) (i b9 : Nat) (cd : Int) (da : ByteArray) (rn : Int) (ua : Option Addr) (nl uc : Nat) (rk rz kd fl gn at_ en : Int) (ed : ByteArray) (ez : Int) (V2 : World) : Prop :=
  ∃ (k fa fd : Nat), kd = (k : Int) ∧ 1 ≤ k ∧ k ≤ 6 ∧ V2.cell? ⟨p6, k * 2, none⟩ = some (.func (.func fa) #[] #[]) ∧ V2.cell? ⟨p6, k * 2 + 1, none⟩ = some (.func (.func fd) #[] #[]) ∧ (∀ args w, (callFunc fa args).run Try.prog w = .ok (.enter fa args) w) ∧ (∀ args w, (callFunc fd args).run Try.prog w = .ok (.enter fd args) w) ∧
    ∃ U3, V2.alloc (.cells #[.func (.func fa) #[] #[], .func (.func fd) #[] #[]] 77) = U3 ∧ U3.cell? ⟨V2.heap.size, 0, none⟩ = some (.func (.func fa) #[] #[]) ∧ U3.cell? ⟨b9, 6, none⟩ = some (.int .i64 kd) ∧ U3.cell? ⟨b9, 7, none⟩ = some (.int .i64 fl) ∧ U3.cell? ⟨b9, 8, none⟩ = some (.int .i64 gn) ∧ U3.cell? ⟨b9, 9, none⟩ = some (.int .i64 at_) ∧ U3.cell? ⟨b9, 10, none⟩ = some (.int .i64 en) ∧ U3.cell? ⟨b9, 11, none⟩ = some (.string ed) ∧ U3.cell? ⟨b9, 12, none⟩ = some (.int .i64 ez) ∧
    Calls Try.prog fa #[.map (some m), .agg #[.int .i64 kd, .int .i64 fl, .int .i64 gn, .int .i64 at_, .int .i64 en, .string ed, .int .i64 ez]] U3 fun e w4 => ∃ bm : Bool, e = .returned (.bool bm) ∧ ((bm = false ∧ Hid (Z = none ∧ Trn F0 w w4)) ∨ (bm = true ∧ w4.cell? ⟨V2.heap.size, 1, none⟩ = some (.func (.func fd) #[] #[]) ∧ w4.cell? ⟨b9, 6, none⟩ = some (.int .i64 kd) ∧ w4.cell? ⟨b9, 7, none⟩ = some (.int .i64 fl) ∧ w4.cell? ⟨b9, 8, none⟩ = some (.int .i64 gn) ∧ w4.cell? ⟨b9, 9, none⟩ = some (.int .i64 at_) ∧ w4.cell? ⟨b9, 10, none⟩ = some (.int .i64 en) ∧ w4.cell? ⟨b9, 11, none⟩ = some (.string ed) ∧ w4.cell? ⟨b9, 12, none⟩ = some (.int .i64 ez) ∧ w4.cell? ⟨q, i * 6, none⟩ = some (.int .i64 cd) ∧ w4.cell? ⟨q, i * 6 + 1, none⟩ = some (.string da) ∧ w4.cell? ⟨q, i * 6 + 2, none⟩ = some (.int .i64 rn) ∧ w4.cell? ⟨q, i * 6 + 3, none⟩ = some (.slice ua nl uc) ∧ w4.cell? ⟨q, i * 6 + 4, none⟩ = some (.int .i64 rk) ∧ w4.cell? ⟨q, i * 6 + 5, none⟩ = some (.int .i64 rz) ∧
      Hid (∀ V, Below w4.heap.size w4 V → Calls Try.prog fd #[.map (some m), .agg #[.int .i64 kd, .int .i64 fl, .int .i64 gn, .int .i64 at_, .int .i64 en, .string ed, .int .i64 ez], .agg #[.int .i64 cd, .string da, .int .i64 rn, .slice ua nl uc, .int .i64 rk, .int .i64 rz]] V fun e w5 => ∃ dd, e = .returned (.agg #[.int .i64 cd, .string dd, .int .i64 rn, .slice ua nl uc, .int .i64 rk, .int .i64 rz]) ∧ w5.cell? ⟨q, i * 6, none⟩ = some (.int .i64 cd) ∧ w5.cell? ⟨q, i * 6 + 1, none⟩ = some (.string da) ∧ w5.cell? ⟨q, i * 6 + 2, none⟩ = some (.int .i64 rn) ∧ w5.cell? ⟨q, i * 6 + 3, none⟩ = some (.slice ua nl uc) ∧ w5.cell? ⟨q, i * 6 + 4, none⟩ = some (.int .i64 rk) ∧ w5.cell? ⟨q, i * 6 + 5, none⟩ = some (.int .i64 rz) ∧ w5.frozen? ⟨q, i * 6, none⟩ = false ∧ w5.frozen? ⟨q, i * 6 + 1, none⟩ = false ∧ w5.frozen? ⟨q, i * 6 + 2, none⟩ = false ∧ w5.frozen? ⟨q, i * 6 + 3, none⟩ = false ∧ w5.frozen? ⟨q, i * 6 + 4, none⟩ = false ∧ w5.frozen? ⟨q, i * 6 + 5, none⟩ = false ∧ Hid (Nx w F0 m nn n p6 q T Z (i + 1) (((((((w5.setCell ⟨q, i * 6, none⟩ (.int .i64 cd)).setCell ⟨q, i * 6 + 1, none⟩ (.string dd)).setCell ⟨q, i * 6 + 2, none⟩ (.int .i64 rn)).setCell ⟨q, i * 6 + 3, none⟩ (.slice ua nl uc)).setCell ⟨q, i * 6 + 4, none⟩ (.int .i64 rk)).setCell ⟨q, i * 6 + 5, none⟩ (.int .i64 rz)))))))
/-- a round -/
def Rd (w : World) (F0 : Nat → Prop) (m nn n p6 q : Nat) (T : List St) (Z : Option (Fl × List Rs)) (a1 : Option Addr) (i : Nat) (wr : World) : Prop :=
  ∃ (cd : Int) (da : ByteArray) (rn : Int) (na : Option Addr) (nl nc : Nat) (rk rz kd fl gn at_ en : Int) (ed : ByteArray) (ez : Int) (b off : Nat), a1 = some ⟨b, off, none⟩ ∧ wr.cell? ⟨b, off + i * 13, none⟩ = some (.int .i64 cd) ∧ wr.cell? ⟨b, off + i * 13 + 1, none⟩ = some (.string da) ∧ wr.cell? ⟨b, off + i * 13 + 2, none⟩ = some (.int .i64 rn) ∧ wr.cell? ⟨b, off + i * 13 + 3, none⟩ = some (.slice na nl nc) ∧ wr.cell? ⟨b, off + i * 13 + 4, none⟩ = some (.int .i64 rk) ∧ wr.cell? ⟨b, off + i * 13 + 5, none⟩ = some (.int .i64 rz) ∧ wr.cell? ⟨b, off + i * 13 + 6, none⟩ = some (.int .i64 kd) ∧ wr.cell? ⟨b, off + i * 13 + 7, none⟩ = some (.int .i64 fl) ∧ wr.cell? ⟨b, off + i * 13 + 8, none⟩ = some (.int .i64 gn) ∧ wr.cell? ⟨b, off + i * 13 + 9, none⟩ = some (.int .i64 at_) ∧ wr.cell? ⟨b, off + i * 13 + 10, none⟩ = some (.int .i64 en) ∧ wr.cell? ⟨b, off + i * 13 + 11, none⟩ = some (.string ed) ∧ wr.cell? ⟨b, off + i * 13 + 12, none⟩ = some (.int .i64 ez) ∧
  ∃ U, wr.alloc (.cells #[.int .i64 cd, .string da, .int .i64 rn, .slice na nl nc, .int .i64 rk, .int .i64 rz, .int .i64 kd, .int .i64 fl, .int .i64 gn, .int .i64 at_, .int .i64 en, .string ed, .int .i64 ez] 58) = U ∧ U.cell? ⟨wr.heap.size, 0, none⟩ = some (.int .i64 cd) ∧ U.cell? ⟨wr.heap.size, 1, none⟩ = some (.string da) ∧ U.cell? ⟨wr.heap.size, 2, none⟩ = some (.int .i64 rn) ∧ U.cell? ⟨wr.heap.size, 3, none⟩ = some (.slice na nl nc) ∧ U.cell? ⟨wr.heap.size, 4, none⟩ = some (.int .i64 rk) ∧ U.cell? ⟨wr.heap.size, 5, none⟩ = some (.int .i64 rz) ∧ (∃ y0 y1 y2 y3 y4 y5, U.cell? ⟨q, i * 6, none⟩ = some (y0) ∧ U.cell? ⟨q, i * 6 + 1, none⟩ = some (y1) ∧ U.cell? ⟨q, i * 6 + 2, none⟩ = some (y2) ∧ U.cell? ⟨q, i * 6 + 3, none⟩ = some (y3) ∧ U.cell? ⟨q, i * 6 + 4, none⟩ = some (y4) ∧ U.cell? ⟨q, i * 6 + 5, none⟩ = some (y5)) ∧ U.frozen? ⟨q, i * 6, none⟩ = false ∧ U.frozen? ⟨q, i * 6 + 1, none⟩ = false ∧ U.frozen? ⟨q, i * 6 + 2, none⟩ = false ∧ U.frozen? ⟨q, i * 6 + 3, none⟩ = false ∧ U.frozen? ⟨q, i * 6 + 4, none⟩ = false ∧ U.frozen? ⟨q, i * 6 + 5, none⟩ = false ∧
  ∃ V1, ((((((U.setCell ⟨q, i * 6, none⟩ (.int .i64 cd)).setCell ⟨q, i * 6 + 1, none⟩ (.string da)).setCell ⟨q, i * 6 + 2, none⟩ (.int .i64 rn)).setCell ⟨q, i * 6 + 3, none⟩ (.slice na nl nc)).setCell ⟨q, i * 6 + 4, none⟩ (.int .i64 rk)).setCell ⟨q, i * 6 + 5, none⟩ (.int .i64 rz)) = V1 ∧ V1.cell? ⟨wr.heap.size, 3, none⟩ = some (.slice na nl nc) ∧ Calls Try.prog 22 #[.slice na nl nc] V1 fun e w2 => ∃ ua uc, e = .returned (.slice ua nl uc) ∧ w2.cell? ⟨q, i * 6 + 3, none⟩ = some (.slice na nl nc) ∧ w2.frozen? ⟨q, i * 6 + 3, none⟩ = false ∧
  ∃ V2, w2.setCell ⟨q, i * 6 + 3, none⟩ (.slice ua nl uc) = V2 ∧ V2.cell? ⟨wr.heap.size, 0, none⟩ = some (.int .i64 cd) ∧ V2.cell? ⟨wr.heap.size, 6, none⟩ = some (.int .i64 kd) ∧
    ((cd ≠ 0 ∧ Hid (Nx w F0 m nn n p6 q T Z (i + 1) (V2))) ∨ (cd = 0 ∧ kd = 0 ∧ Hid (Nx w F0 m nn n p6 q T Z (i + 1) (V2))) ∨ (cd = 0 ∧ kd ≠ 0 ∧ kd < 1 ∧ Hid (Z = none ∧ Trn F0 w V2)) ∨ (cd = 0 ∧ 6 < kd ∧ Hid (Z = none ∧ Trn F0 w V2)) ∨ (cd = 0 ∧ Dee w F0 m nn n p6 q T Z i wr.heap.size cd da rn ua nl uc rk rz kd fl gn at_ en ed ez V2))
/-- what follow answers -/
def FwP (w : World) (F0 : Nat → Prop) (m nn n : Nat) (T : List St) (Z : Option (Fl × List Rs)) (e : Ending) (w' : World) : Prop :=
  Trn F0 w w' ∧ ((Z = none ∧ e = .returned (.tuple #[.slice none 0 0, .bool false])) ∨ ∃ p6 q F L R, Z = some (L, R.map (·.r)) ∧ e = .returned (.tuple #[.slice (some ⟨q, 0, none⟩) n n, .bool true]) ∧ Fw w F0 m nn n p6 q n F L R w' ∧ R.map (·.nm) = T.map (·.nm))
theorem pr_end {T : List St} {Z : Option (Fl × List Rs)} {n : Nat} {L : Fl} {R : List Rr} (h : Pr T Z n L R) (hT : T.length = n) (hR : R.length = n) : Z = some (L, R.map (·.r)) ∧ R.map (·.nm) = T.map (·.nm) := by
  obtain ⟨h1, h2⟩ := h
  rw [List.drop_of_length_le (by rw [List.length_map]; omega), List.take_of_length_le (by omega)] at h1
  rw [List.take_of_length_le (by omega), List.take_of_length_le (by omega)] at h2
  rw [← h1]
  exact ⟨by simp [goL], h2⟩
theorem sizeDd : (Try.prog.info? 77).map (·.size) = some 2 := by kernel_rfl
theorem cfDe (args : Array Value) (w : World) : (callFunc 21 args).run Try.prog w = .ok (.enter 21 args) w := by kernel_rfl
/-- a call of a function value, in a list and in a region that draws -/
theorem wpList_callv {P : Program} {ops : Array Oper} {rest : List Oper} {o : Oper} {a : Act} {w : World} {Q : Exit → Act → World → Prop} (hg : o.guard = none) (f : FuncId) (hcf : ∀ args w, (callFunc f args).run P w = .ok (.enter f args) w) (x : Operand) (xs : Array Operand) (ts : Array TypeId) (ho : o.op = Op.call { callee := Callee.value x, args := xs, argTypes := ts }) (hx : a.eval x = .func (.func f) #[] #[]) (args : Array Value) (hv : xs.map a.eval = args) {R : Ending → World → Prop} (hc : Calls P f args w R)
    (hR : ∀ e w', R e w' → ∃ v, e = .returned v ∧ wpList P ops Q rest (a.put o.dst v) w') : wpList P ops Q (o :: rest) a w := by
  refine wpList_plain hg fun K hK => ?_
  have hrun : (execOp a.eval o).run P w = .ok (.enter f args) w := by
    unfold execOp
    simp [ho, resolve, invoke, Deferred.ofValue, hcf, hv, hx]
  unfold Oper.wp
  rw [hrun, Oper.upon_enter]
  refine hc.mono fun e w'' hh => ?_
  obtain ⟨v, rfl, hk⟩ := hR e w'' hh
  exact hK _ _ hk
theorem step_callv {P : Program} {ops : Array Oper} {o : Oper} {a : Act} {w : World} {K : Act → World → Prop} {Q : Exit → Act → World → Prop} {E : Prop} (hg : o.guard = none) (f : FuncId) (hcf : ∀ args w, (callFunc f args).run P w = .ok (.enter f args) w) (x : Operand) (xs : Array Operand) (ts : Array TypeId) (ho : o.op = Op.call { callee := Callee.value x, args := xs, argTypes := ts }) (hx : a.eval x = .func (.func f) #[] #[]) (args : Array Value) (hv : xs.map a.eval = args) {R : Ending → World → Prop} (hc : Calls P f args w R)
    (hR : ∀ e w', R e w' → ∃ v, e = .returned v ∧ K (a.put o.dst v) w') : if Region.wanted o (yielded ops a.tmps) = true then Oper.wp P o a w K Q else E := by
  have hw : Region.wanted o (yielded ops a.tmps) = true := by simp [Region.wanted, hg]
  rw [if_pos hw]
  have hrun : (execOp a.eval o).run P w = .ok (.enter f args) w := by
    unfold execOp
    simp [ho, resolve, invoke, Deferred.ofValue, hcf, hv, hx]
  unfold Oper.wp
  rw [hrun, Oper.upon_enter]
  refine hc.mono fun e w'' hh => ?_
  obtain ⟨v, rfl, hk⟩ := hR e w'' hh
  exact hk
/-- the world ahead of the table's store -/
def St0 (w : World) (n : Nat) (X : World) (p6 q : Nat) : Prop := Below w.heap.size w X ∧ X.heap[p6]? = some (.cells #[.nilFunc, .nilFunc, .nilFunc, .nilFunc, .nilFunc, .nilFunc, .nilFunc, .nilFunc, .nilFunc, .nilFunc, .nilFunc, .nilFunc, .nilFunc, .nilFunc] 78 (0, 0)) ∧ X.ownsRow w.heap.size 56 6 (.slice (some ⟨q, 0, none⟩) n n) n (rrsC (List.replicate n zR)) ∧ w.heap.size ≤ p6 ∧ w.heap.size ≤ q
theorem drew_b {w V : World} (h : Below w.drew.heap.size w.drew V) : Below w.heap.size w V := ⟨h.os, h.tape, h.output, h.size, h.block⟩
theorem heap_new1 (w : World) (o o' : Obj) : ((w.alloc o).alloc o').heap[w.heap.size + 1]? = some o' := by
  have := heap_new (w.alloc o) o'
  rw [show (w.alloc o).heap.size = w.heap.size + 1 by simp] at this
  exact this
theorem made1 (n : Nat) (hn : n ≤ 1099511627776) (w : World) (o : Obj) (B : Nat) (hB : B ≤ w.heap.size) : World.ownsRow ((w.alloc o).alloc (.cells (madeCells #[.int .i64 0, .string { data := #[] }, .int .i64 0, .slice none 0 0, .int .i64 0, .int .i64 0] (n * 6)) 56)) B 56 6 (.slice (some ⟨w.heap.size + 1, 0, none⟩) n n) n (rrsC (List.replicate n zR)) := by
  have := made_res n hn (w.alloc o)
  rw [show (w.alloc o).heap.size = w.heap.size + 1 by simp] at this
  exact owns_base this (by omega)
theorem al (w : World) (o : Obj) : Below w.heap.size w (w.alloc o) := (Below.refl _ _).alloc (Nat.le_refl _) _
theorem al2 (w : World) (o o' : Obj) : Below w.heap.size w ((w.alloc o).alloc o') := (al w o).alloc (al w o).size _
theorem st1 {w w5 : World} {n : Nat} (hn : n ≤ 1099511627776) (hb : Below w.drew.heap.size w.drew w5) : St0 w n ((w5.alloc (.cells (madeCells #[.int .i64 0, .string { data := #[] }, .int .i64 0, .slice none 0 0, .int .i64 0, .int .i64 0] (n * 6)) 56)).alloc (.cells #[.nilFunc, .nilFunc, .nilFunc, .nilFunc, .nilFunc, .nilFunc, .nilFunc, .nilFunc, .nilFunc, .nilFunc, .nilFunc, .nilFunc, .nilFunc, .nilFunc] 78)) (w5.heap.size + 1) w5.heap.size := by
  have h := drew_b hb
  exact ⟨h.trans ((al2 w5 _ _).mono h.size), heap_new1 _ _ _, owns_base (owns_below (made_res n hn w5) (al _ _)) h.size, by have := h.size; omega, h.size⟩
theorem st2 {w w5 : World} {n : Nat} (hn : n ≤ 1099511627776) (hb : Below w.drew.heap.size w.drew w5) : St0 w n ((w5.alloc (.cells #[.nilFunc, .nilFunc, .nilFunc, .nilFunc, .nilFunc, .nilFunc, .nilFunc, .nilFunc, .nilFunc, .nilFunc, .nilFunc, .nilFunc, .nilFunc, .nilFunc] 78)).alloc (.cells (madeCells #[.int .i64 0, .string { data := #[] }, .int .i64 0, .slice none 0 0, .int .i64 0, .int .i64 0] (n * 6)) 56)) w5.heap.size (w5.heap.size + 1) := by
  have h := drew_b hb
  exact ⟨h.trans ((al2 w5 _ _).mono h.size), (Below.heap_alloc _ _ _ (by simp)).trans (heap_new _ _), made1 n hn w5 _ _ h.size, h.size, by have := h.size; omega⟩
theorem st3 {w w5 : World} {n : Nat} (hn : n ≤ 1099511627776) (hb0 : Below (w.alloc (.cells (madeCells #[.int .i64 0, .string { data := #[] }, .int .i64 0, .slice none 0 0, .int .i64 0, .int .i64 0] (n * 6)) 56)).drew.heap.size (w.alloc (.cells (madeCells #[.int .i64 0, .string { data := #[] }, .int .i64 0, .slice none 0 0, .int .i64 0, .int .i64 0] (n * 6)) 56)).drew w5) : St0 w n (w5.alloc (.cells #[.nilFunc, .nilFunc, .nilFunc, .nilFunc, .nilFunc, .nilFunc, .nilFunc, .nilFunc, .nilFunc, .nilFunc, .nilFunc, .nilFunc, .nilFunc, .nilFunc] 78)) w5.heap.size w.heap.size := by
  have hb := drew_b hb0
  have h0 := al w (.cells (madeCells #[.int .i64 0, .string { data := #[] }, .int .i64 0, .slice none 0 0, .int .i64 0, .int .i64 0] (n * 6)) 56)
  have h : Below w.heap.size w w5 := h0.trans (hb.mono h0.size)
  exact ⟨h.trans ((al w5 _).mono h.size), heap_new _ _, owns_below (owns_below (made_res n hn w) hb) (al _ _), h.size, Nat.le_refl _⟩
theorem st4 {w w5 : World} {n : Nat} (hn : n ≤ 1099511627776) (hb0 : Below (w.alloc (.cells #[.nilFunc, .nilFunc, .nilFunc, .nilFunc, .nilFunc, .nilFunc, .nilFunc, .nilFunc, .nilFunc, .nilFunc, .nilFunc, .nilFunc, .nilFunc, .nilFunc] 78)).drew.heap.size (w.alloc (.cells #[.nilFunc, .nilFunc, .nilFunc, .nilFunc, .nilFunc, .nilFunc, .nilFunc, .nilFunc, .nilFunc, .nilFunc, .nilFunc, .nilFunc, .nilFunc, .nilFunc] 78)).drew w5) : St0 w n (w5.alloc (.cells (madeCells #[.int .i64 0, .string { data := #[] }, .int .i64 0, .slice none 0 0, .int .i64 0, .int .i64 0] (n * 6)) 56)) w.heap.size w5.heap.size := by
  have hb := drew_b hb0
  have h0 := al w (.cells #[.nilFunc, .nilFunc, .nilFunc, .nilFunc, .nilFunc, .nilFunc, .nilFunc, .nilFunc, .nilFunc, .nilFunc, .nilFunc, .nilFunc, .nilFunc, .nilFunc] 78)
  have h : Below w.heap.size w w5 := h0.trans (hb.mono h0.size)
  have hs := hb.size
  exact ⟨h.trans ((al w5 _).mono h.size), (Below.heap_alloc _ _ _ (by simp at hs; omega)).trans ((hb.block _ (by simp)).trans (heap_new w _)), owns_base (made_res n hn w5) h.size, Nat.le_refl _, h.size⟩
theorem st5 {w w5 : World} {n : Nat} (hn : n ≤ 1099511627776) (hb0 : Below ((w.alloc (.cells (madeCells #[.int .i64 0, .string { data := #[] }, .int .i64 0, .slice none 0 0, .int .i64 0, .int .i64 0] (n * 6)) 56)).alloc (.cells #[.nilFunc, .nilFunc, .nilFunc, .nilFunc, .nilFunc, .nilFunc, .nilFunc, .nilFunc, .nilFunc, .nilFunc, .nilFunc, .nilFunc, .nilFunc, .nilFunc] 78)).drew.heap.size ((w.alloc (.cells (madeCells #[.int .i64 0, .string { data := #[] }, .int .i64 0, .slice none 0 0, .int .i64 0, .int .i64 0] (n * 6)) 56)).alloc (.cells #[.nilFunc, .nilFunc, .nilFunc, .nilFunc, .nilFunc, .nilFunc, .nilFunc, .nilFunc, .nilFunc, .nilFunc, .nilFunc, .nilFunc, .nilFunc, .nilFunc] 78)).drew w5) : St0 w n w5 (w.heap.size + 1) w.heap.size := by
  have hb := drew_b hb0
  have h0 := al2 w (.cells (madeCells #[.int .i64 0, .string { data := #[] }, .int .i64 0, .slice none 0 0, .int .i64 0, .int .i64 0] (n * 6)) 56) (.cells #[.nilFunc, .nilFunc, .nilFunc, .nilFunc, .nilFunc, .nilFunc, .nilFunc, .nilFunc, .nilFunc, .nilFunc, .nilFunc, .nilFunc, .nilFunc, .nilFunc] 78)
  have h : Below w.heap.size w w5 := h0.trans (hb.mono h0.size)
  exact ⟨h, (hb.block _ (by simp)).trans (heap_new1 w _ _), owns_below (owns_below (made_res n hn w) (al _ _)) hb, by omega, Nat.le_refl _⟩
theorem st6 {w w5 : World} {n : Nat} (hn : n ≤ 1099511627776) (hb0 : Below ((w.alloc (.cells #[.nilFunc, .nilFunc, .nilFunc, .nilFunc, .nilFunc, .nilFunc, .nilFunc, .nilFunc, .nilFunc, .nilFunc, .nilFunc, .nilFunc, .nilFunc, .nilFunc] 78)).alloc (.cells (madeCells #[.int .i64 0, .string { data := #[] }, .int .i64 0, .slice none 0 0, .int .i64 0, .int .i64 0] (n * 6)) 56)).drew.heap.size ((w.alloc (.cells #[.nilFunc, .nilFunc, .nilFunc, .nilFunc, .nilFunc, .nilFunc, .nilFunc, .nilFunc, .nilFunc, .nilFunc, .nilFunc, .nilFunc, .nilFunc, .nilFunc] 78)).alloc (.cells (madeCells #[.int .i64 0, .string { data := #[] }, .int .i64 0, .slice none 0 0, .int .i64 0, .int .i64 0] (n * 6)) 56)).drew w5) : St0 w n w5 w.heap.size (w.heap.size + 1) := by
  have hb := drew_b hb0
  have h0 := al2 w (.cells #[.nilFunc, .nilFunc, .nilFunc, .nilFunc, .nilFunc, .nilFunc, .nilFunc, .nilFunc, .nilFunc, .nilFunc, .nilFunc, .nilFunc, .nilFunc, .nilFunc] 78) (.cells (madeCells #[.int .i64 0, .string { data := #[] }, .int .i64 0, .slice none 0 0, .int .i64 0, .int .i64 0] (n * 6)) 56)
  have h : Below w.heap.size w w5 := h0.trans (hb.mono h0.size)
  exact ⟨h, (hb.block _ (by simp; omega)).trans ((Below.heap_alloc _ _ _ (by simp)).trans (heap_new w _)), owns_below (made1 n hn w _ _ (Nat.le_refl _)) hb, Nat.le_refl _, by omega⟩
theorem st_runH {X : World} {p6 : Nat} (h2 : X.heap[p6]? = some (.cells #[.nilFunc, .nilFunc, .nilFunc, .nilFunc, .nilFunc, .nilFunc, .nilFunc, .nilFunc, .nilFunc, .nilFunc, .nilFunc, .nilFunc, .nilFunc, .nilFunc] 78 (0, 0))) : (storeCells ⟨p6, 0, none⟩ dA.toList).run Try.prog X = .ok () (X.setCells p6 0 dA.toList) := by
  have hl : dA.toList.length = 14 := rfl
  refine run_storeCells_cells (P := Try.prog) p6 0 dA.toList 0 X (fun j hj => ?_) (fun j hj => frozen_of_heap h2) (fun v hv => ?_)
  · rw [hl] at hj
    rw [cell_of_heap h2, Array.getElem?_eq_getElem (by simp; omega)]
    rfl
  · have hone : dA.all (·.oneCell') = true := by simp [dA, Value.oneCell']
    rw [Array.all_eq_true'] at hone
    exact hone v (by simpa using hv)
theorem st_run {w X : World} {n p6 q : Nat} (h : St0 w n X p6 q) : (storeCells ⟨p6, 0, none⟩ dA.toList).run Try.prog X = .ok () (X.setCells p6 0 dA.toList) := st_runH h.2.1
theorem st7 {w w5 : World} (_ : Below w.drew.heap.size w.drew w5) : (w5.alloc (.cells #[.nilFunc, .nilFunc, .nilFunc, .nilFunc, .nilFunc, .nilFunc, .nilFunc, .nilFunc, .nilFunc, .nilFunc, .nilFunc, .nilFunc, .nilFunc, .nilFunc] 78)).heap[w5.heap.size]? = some (.cells #[.nilFunc, .nilFunc, .nilFunc, .nilFunc, .nilFunc, .nilFunc, .nilFunc, .nilFunc, .nilFunc, .nilFunc, .nilFunc, .nilFunc, .nilFunc, .nilFunc] 78 (0, 0)) := heap_new _ _
theorem st8 {w w5 : World} (hb0 : Below (w.alloc (.cells #[.nilFunc, .nilFunc, .nilFunc, .nilFunc, .nilFunc, .nilFunc, .nilFunc, .nilFunc, .nilFunc, .nilFunc, .nilFunc, .nilFunc, .nilFunc, .nilFunc] 78)).drew.heap.size (w.alloc (.cells #[.nilFunc, .nilFunc, .nilFunc, .nilFunc, .nilFunc, .nilFunc, .nilFunc, .nilFunc, .nilFunc, .nilFunc, .nilFunc, .nilFunc, .nilFunc, .nilFunc] 78)).drew w5) : w5.heap[w.heap.size]? = some (.cells #[.nilFunc, .nilFunc, .nilFunc, .nilFunc, .nilFunc, .nilFunc, .nilFunc, .nilFunc, .nilFunc, .nilFunc, .nilFunc, .nilFunc, .nilFunc, .nilFunc] 78 (0, 0)) := ((drew_b hb0).block _ (by simp)).trans (heap_new w _)
theorem st_fin2 {w X : World} {n p6 q m nn : Nat} {F0 : Nat → Prop} {L : Fl} (hn : n ≤ 1099511627776) (hb : Below w.heap.size w X) (h2 : X.heap[p6]? = some (.cells #[.nilFunc, .nilFunc, .nilFunc, .nilFunc, .nilFunc, .nilFunc, .nilFunc, .nilFunc, .nilFunc, .nilFunc, .nilFunc, .nilFunc, .nilFunc, .nilFunc] 78 (0, 0))) (h4 : w.heap.size ≤ p6) (hq : q = X.heap.size) (hL : Liv w m nn F0 L) (hs : Sm L) : Fw w F0 m nn n p6 q 0 F0 L (List.replicate n zR) ((X.setCells p6 0 dA.toList).alloc (.cells (madeCells #[.int .i64 0, .string { data := #[] }, .int .i64 0, .slice none 0 0, .int .i64 0, .int .i64 0] (n * 6)) 56)) := by
  have hs1 : (X.setCells p6 0 dA.toList).heap.size = X.heap.size := (size_setCells _ _ _ _).1
  have hm := made_res n hn (X.setCells p6 0 dA.toList)
  rw [hs1] at hm
  subst hq
  refine fw_start hL hs ((Below.setCells hb h4 _ _).alloc (by rw [hs1]; exact hb.size) _) h4 hb.size ?_ (owns_base hm hb.size)
  refine (Below.heap_alloc _ _ _ (by rw [hs1]; exact heap_lt h2)).trans ?_
  rw [heap_setCells _ _ _ _ _ _ h2, setMany_all _ _ (by rfl)]
theorem st_f7 {w w5 : World} {n m nn : Nat} {F0 : Nat → Prop} {L : Fl} (hn : n ≤ 1099511627776) (hb : Below w.drew.heap.size w.drew w5) (hL : Liv w m nn F0 L) (hs : Sm L) : Fw w F0 m nn n w5.heap.size (((w5.alloc (.cells #[.nilFunc, .nilFunc, .nilFunc, .nilFunc, .nilFunc, .nilFunc, .nilFunc, .nilFunc, .nilFunc, .nilFunc, .nilFunc, .nilFunc, .nilFunc, .nilFunc] 78)).setCells w5.heap.size 0 dA.toList).heap.size) 0 F0 L (List.replicate n zR) (((w5.alloc (.cells #[.nilFunc, .nilFunc, .nilFunc, .nilFunc, .nilFunc, .nilFunc, .nilFunc, .nilFunc, .nilFunc, .nilFunc, .nilFunc, .nilFunc, .nilFunc, .nilFunc] 78)).setCells w5.heap.size 0 dA.toList).alloc (.cells (madeCells #[.int .i64 0, .string { data := #[] }, .int .i64 0, .slice none 0 0, .int .i64 0, .int .i64 0] (n * 6)) 56)) :=
  st_fin2 hn ((drew_b hb).trans ((al w5 _).mono (drew_b hb).size)) (heap_new _ _) (drew_b hb).size (size_setCells _ _ _ _).1 hL hs
theorem st_f8 {w w5 : World} {n m nn : Nat} {F0 : Nat → Prop} {L : Fl} (hn : n ≤ 1099511627776) (hb0 : Below (w.alloc (.cells #[.nilFunc, .nilFunc, .nilFunc, .nilFunc, .nilFunc, .nilFunc, .nilFunc, .nilFunc, .nilFunc, .nilFunc, .nilFunc, .nilFunc, .nilFunc, .nilFunc] 78)).drew.heap.size (w.alloc (.cells #[.nilFunc, .nilFunc, .nilFunc, .nilFunc, .nilFunc, .nilFunc, .nilFunc, .nilFunc, .nilFunc, .nilFunc, .nilFunc, .nilFunc, .nilFunc, .nilFunc] 78)).drew w5) (hL : Liv w m nn F0 L) (hs : Sm L) : Fw w F0 m nn n w.heap.size ((w5.setCells w.heap.size 0 dA.toList).heap.size) 0 F0 L (List.replicate n zR) ((w5.setCells w.heap.size 0 dA.toList).alloc (.cells (madeCells #[.int .i64 0, .string { data := #[] }, .int .i64 0, .slice none 0 0, .int .i64 0, .int .i64 0] (n * 6)) 56)) := by
  have h0 := al w (.cells #[.nilFunc, .nilFunc, .nilFunc, .nilFunc, .nilFunc, .nilFunc, .nilFunc, .nilFunc, .nilFunc, .nilFunc, .nilFunc, .nilFunc, .nilFunc, .nilFunc] 78)
  exact st_fin2 hn (h0.trans ((drew_b hb0).mono h0.size)) (st8 hb0) (Nat.le_refl _) (size_setCells _ _ _ _).1 hL hs
theorem st_fin {w X : World} {n p6 q m nn : Nat} {F0 : Nat → Prop} {L : Fl} (h : St0 w n X p6 q) (hL : Liv w m nn F0 L) (hs : Sm L) : Fw w F0 m nn n p6 q 0 F0 L (List.replicate n zR) (X.setCells p6 0 dA.toList) := by
  obtain ⟨h1, h2, h3, h4, h5⟩ := h
  have hpq : q ≠ p6 := fun e => by
    obtain ⟨c, hc⟩ := owns_block h3 rfl
    rw [e, h2] at hc
    injection hc with hc
    injection hc with _ hc
    exact absurd hc (by decide)
  refine fw_start hL hs (Below.setCells h1 h4 _ _) h4 h5 ?_ (owns_keep h3 fun g hg => ?_)
  · rw [heap_setCells _ _ _ _ _ _ h2, setMany_all _ _ (by rfl)]
  · have : g = q := by simp [Value.ownBlock] at hg; exact hg.symm
    subst this
    exact heap_setCells_other _ _ hpq _ _ _
end Go.Proofs.Ytpjigcccjiidpaa.Ex
