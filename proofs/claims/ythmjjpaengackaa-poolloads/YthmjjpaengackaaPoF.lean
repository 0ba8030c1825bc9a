import Derived.Test.YthmjjpaengackaaPoE
import Derived.Laws.AppendOwnNone
import Derived.Lib.AppendZerosOnto
import Derived.OwnWalk
import Derived.BigQuiet
import Derived.Test.YthmjjpaengackaaTrZ
namespace Go.Proofs.Ythmjjpaengackaa.Po
open Go.RowKit Go.Lib Go.Deep

theorem info_parts {P : Program} {e : TypeId} {z : Value} {s b : Nat} (h : (P.info? e).map (fun i => (i.zero, i.size, i.bytes)) = some (some z, s, b)) : ∃ i0, P.info? e = some i0 ∧ i0.zero = some z ∧ i0.size = s ∧ i0.bytes = b := by
  cases hq : P.info? e with
  | none => rw [hq] at h; cases h
  | some i =>
    rw [hq] at h
    simp at h
    exact ⟨i, rfl, h.1, h.2.1, h.2.2⟩
theorem info3 : (Try.prog.info? 3).map (fun i => (i.zero, i.size, i.bytes)) = some (some (.int .i64 0), 1, 8) := by kernel_rfl
theorem wpList_append_run {P : Program} {ops : Array Oper} {rest : List Oper} {o : Oper} {a : Act} {w : World} {Q : Exit → Act → World → Prop} (hgd : o.guard = none) (s x : Operand) (t u : TypeId)
    (ho : o.op = .call { callee := .builtin .append, args := #[s, x], argTypes := #[t, u] }) (v x' v' : Value) (w' : World) (hs : a.eval s = v) (hx : a.eval x = x')
    (hr : ∀ ty, (Builtin.append_ #[t, u] ty #[v, x']).run P w = .ok v' w') (h : wpList P ops Q rest (a.put o.dst v') w') : wpList P ops Q (o :: rest) a w := by
  refine wpList_plain hgd fun K hK => ?_
  unfold Oper.wp execOp
  simp only [ho, resolve, invoke, builtin, Sem.run_bind, Sem.run_pure, Result.andThen_ok, List.map_toArray, List.map_cons, List.map_nil, hs, hx, hr]
  exact hK _ _ h

/-- cells that can be read, n elements of sz cells -/
def See (w : World) (sz : Nat) (v : Value) (n : Nat) (xs : List Value) : Prop :=
  xs.length = n * sz ∧ (∀ u ∈ xs, u.oneCell' = true) ∧ ∃ a c, v = .slice a n c ∧ n ≤ c ∧ (a = none → c = 0) ∧ (0 < n → ∃ b off, a = some ⟨b, off, none⟩ ∧ b < w.heap.size ∧ ∀ (j : Nat) u, xs[j]? = some u → w.cell? ⟨b, off + j, none⟩ = some u)
theorem See.below {w w' : World} {sz n : Nat} {v : Value} {xs : List Value} (h : See w sz v n xs) (hb : Below w.heap.size w w') : See w' sz v n xs := by
  obtain ⟨h0, h5, a, c, h1, h2, h3, h4⟩ := h
  refine ⟨h0, h5, a, c, h1, h2, h3, fun hn => ?_⟩
  obtain ⟨b, off, e, hlt, hc⟩ := h4 hn
  exact ⟨b, off, e, Nat.lt_of_lt_of_le hlt hb.size, fun j u hu => (hb.cell (p := ⟨b, off + j, none⟩) hlt).trans (hc j u hu)⟩
theorem See.form {w : World} {sz n : Nat} {v : Value} {xs : List Value} (h : See w sz v n xs) : ∃ a c, v = .slice a n c := by
  obtain ⟨h0, h5, a, c, h1, _⟩ := h
  exact ⟨a, c, h1⟩
theorem see_own {w : World} {B sz n e : Nat} {v : Value} {xs : List Value} (h : w.ownsRow B e sz v n xs) (h1 : ∀ u ∈ xs, u.oneCell' = true) : See w sz v n xs := by
  refine ⟨h.1, h1, ?_⟩
  rcases h.2 with ⟨q1, q2⟩ | ⟨g, cap, cur, q1, q2, q3, q4, q5, q6, q7⟩
  · exact ⟨none, 0, by rw [q2]; exact q1, by omega, fun _ => rfl, fun h => by omega⟩
  · refine ⟨_, cap, q1, q4, fun e => (by cases e), fun _ => ⟨g, 0, rfl, heap_lt q3, fun j u hu => ?_⟩⟩
    have hj := (List.getElem?_eq_some_iff.1 hu).1
    rw [← q7, List.getElem?_take] at hu
    split at hu
    · rw [Array.getElem?_toList] at hu
      rw [Nat.zero_add, cell_of_heap q3]
      exact hu
    · cases hu
set_option maxRecDepth 20000 in
/-- a list that can be read is appended to a row of the call's own -/
theorem wpList_app {w : World} {ops : Array Oper} {rest : List Oper} {o : Oper} {a : Act} {Q : Exit → Act → World → Prop} (hgd : o.guard = none) (s x : Operand) (t e : TypeId)
    (ho : o.op = .call { callee := .builtin .append, args := #[s, x], argTypes := #[t, t] }) (z : Value) (sz by_ : Nat) (ht : Try.prog.underlying t = some (.slice e)) (hinf : (Try.prog.info? e).map (fun i => (i.zero, i.size, i.bytes)) = some (some z, sz, by_)) (hzs : z.cells.size = sz) (hsz : 0 < sz)
    (B : Nat) (v xv : Value) (nA nL : Nat) (A L : List Value) (hs : a.eval s = v) (hown : w.ownsRow B e sz v nA A) (hx : a.eval x = xv) (hL : See w sz xv nL L) (h63 : nA + nL ≤ maxLen) (hb : (nA + nL) * by_ ≤ 140737488355328) (hB : B ≤ w.heap.size)
    (h : ∀ v' w', w'.ownsRow B e sz v' (nA + nL) (A ++ L) → w.grownBy w' v.ownBlock → wpList Try.prog ops Q rest (a.put o.dst v') w') : wpList Try.prog ops Q (o :: rest) a w := by
  obtain ⟨i0, hi, hz0, hz1, hz2⟩ := info_parts hinf
  obtain ⟨hlen, hone, ad, c, rfl, hc, hnil, hcell⟩ := hL
  cases ad with
  | none =>
    obtain rfl := hnil rfl
    obtain rfl : nL = 0 := by omega
    obtain rfl : L = [] := List.eq_nil_of_length_eq_zero (by rw [hlen]; omega)
    refine wpList_append_own_none hgd s x t ho B e i0 sz ht hi v nA A hs hown hx ?_
    exact h v w (by rw [List.append_nil]; exact hown) ⟨rfl, rfl, rfl, Nat.le_refl _, fun _ _ _ => rfl⟩
  | some ad =>
    refine wpList_append_own w hgd s x t ho B e i0 z sz by_ ht hi hz0 hz1 hz2 hzs hsz v nA A hs hown ad nL c L hx hlen
      (fun j u hu => ?_) hone h63 hb hB (fun v' w' ho' hg _ => h v' w' ho' hg)
    have hn : 0 < nL := by
      have := (List.getElem?_eq_some_iff.1 hu).1
      rw [hlen] at this
      rcases Nat.eq_zero_or_pos nL with h0 | h0
      · rw [h0] at this; omega
      · exact h0
    obtain ⟨b, off, e, _, hcc⟩ := hcell hn
    injection e with e
    subst e
    rw [Addr.add_lit]
    exact hcc j u hu
theorem grown_base {w w' : World} {B : Nat} {v : Value} {e : TypeId} {size n : Nat} {xs : List Value} (h : w.grownBy w' v.ownBlock) (hB : B ≤ w.heap.size) (ho : w.ownsRow B e size v n xs) : Below B w w' := grown_below h hB ho

set_option maxRecDepth 20000 in
set_option maxHeartbeats 1000000 in
theorem grow_any (n : Nat) (h0 : 0 < n) (hn : n ≤ 4294967296) (w : World) :
    Calls Try.prog 78 #[.slice none 0 0, .int .i64 (n : Int)] w fun e w' => ∃ v, e = .returned v ∧ w'.ownsRow w.heap.size 3 1 v 0 [] ∧ Below w.heap.size w w' := by
  obtain ⟨i0, hi, hz0, hz1, hz2⟩ := info_parts info3
  have hge := grownCap_ge w n 0 3
  have hcm := grownCap_le_maxLen w n 0 3 (by unfold maxLen; omega)
  have hrun := fun ty => run_append_grow_zeros (P := Try.prog) w 23 3 ty 3 i0 (.int .i64 0) .i64 .i64 Try.underlying23 Try.underlying3 hi hz0 none 0 0 [] (run_firstCells_none w.drew _ 0 0 0) n h0 (by rw [hz1]; omega) (by omega) (by omega) (by rw [hz2]; omega) (by rw [hz2]; exact growslice_fits (by omega) (by omega))
  simp only [Nat.zero_add] at hrun
  obtain ⟨C, hC⟩ : ∃ C, grownCap w n 0 3 = C := ⟨_, rfl⟩
  rw [hC] at hge hcm hrun
  obtain ⟨cur, hcur⟩ : ∃ cur : Array Value, ([] : List Value).toArray ++ Builtin.zeroCells (Value.int .i64 0).cells n ++ Builtin.zeroCells (Value.int .i64 0).cells (C - n) = cur := ⟨_, rfl⟩
  rw [hcur] at hrun
  have hsz : cur.size = C * 1 := by
    rw [← hcur]
    have hz1 : (Value.int .i64 0).cells.size = 1 := rfl
    simp only [Array.size_append, List.size_toArray, List.length_nil, size_zeroCells, hz1]
    omega
  have hown : (w.drew.alloc (.cells cur 3)).ownsRow w.heap.size 3 1 (.slice (some ⟨w.heap.size, 0, none⟩) 0 C) 0 [] := World.ownsRow_made w.drew cur C (Nat.le_refl _) hcm hsz
  have hbel : Below w.heap.size w (w.drew.alloc (.cells cur 3)) := ((Below.refl w.heap.size w).drew).alloc (Nat.le_refl _) _
  have hn1 : (0 : Int) < (n : Int) := by omega
  have hn2 : ¬ (n : Int) < 0 := by omega
  clear hC hcur hsz
  go_enter Try.func78, Try.ntmps78
  go_wp2_with (at_builtin; refine wpList_append_run rfl _ _ 23 3 rfl (.slice none 0 0) (.int .i64 (n : Int)) _ _ rfl rfl hrun ?_)
  go_ret
  exact ⟨_, rfl, hown, hbel⟩
theorem grow0_any (w : World) : Calls Try.prog 78 #[.slice none 0 0, .int .i64 0] w fun e w' => ∃ v, e = .returned v ∧ w'.ownsRow w.heap.size 3 1 v 0 [] ∧ Below w.heap.size w w' := by
  go_enter Try.func78, Try.ntmps78
  go_wp2
  go_ret
  exact ⟨_, rfl, World.ownsRow_nil _ _ _ _, Below.refl _ _⟩
theorem growE_any (n : Nat) (hn : n ≤ 4294967296) (w : World) : Calls Try.prog 78 #[.slice none 0 0, .int .i64 (n : Int)] w fun e w' => ∃ v, e = .returned v ∧ w'.ownsRow w.heap.size 3 1 v 0 [] ∧ Below w.heap.size w w' := by
  rcases Nat.eq_zero_or_pos n with rfl | h
  · exact grow0_any w
  · exact grow_any n h hn w
set_option maxRecDepth 20000 in
set_option maxHeartbeats 1000000 in
theorem concat_any (w : World) (b : Nat) (v1 v2 : Value) (n1 n2 : Nat) (A L : List Value) (hb0 : w.cell? ⟨b, 0, none⟩ = some v1) (hb1 : w.cell? ⟨b, 1, none⟩ = some v2) (h1 : See w 1 v1 n1 A) (h2 : See w 1 v2 n2 L) (hsm : n1 + n2 ≤ 4294967296) :
    Calls Try.prog 70 #[.slice (some ⟨b, 0, none⟩) 2 2] w fun e w' => ∃ v, e = .returned v ∧ w'.ownsRow w.heap.size 3 1 v (n1 + n2) (A ++ L) ∧ Below w.heap.size w w' := by
  have hblt : b < w.heap.size := block_lt_of_cell hb0
  have HL1 : Hid (See w 1 v1 n1 A) := h1
  have HL2 : Hid (See w 1 v2 n2 L) := h2
  have HB : Hid (∀ W, Below w.heap.size w W → W.cell? ⟨b, 0, none⟩ = some v1 ∧ W.cell? ⟨b, 1, none⟩ = some v2) := fun W hb => ⟨(hb.cell (p := ⟨b, 0, none⟩) hblt).trans hb0, (hb.cell (p := ⟨b, 1, none⟩) hblt).trans hb1⟩
  have HM : Hid (n1 + n2 ≤ maxLen ∧ n1 ≤ maxLen) := ⟨by unfold maxLen; omega, by unfold maxLen; omega⟩
  obtain ⟨a1, k1, rfl⟩ := h1.form
  obtain ⟨a2, k2, rfl⟩ := h2.form
  have w1 : IntKind.i64.wrap ((n1 : Int) + (n2 : Int)) = (n1 : Int) + (n2 : Int) := by rw [IntKind.wrap_i64]; omega
  have w0 : ¬ ((n1 : Int) < 0) := by omega
  have w2 : ¬ ((n1 : Int) + (n2 : Int) < 0) := by omega
  have hgr := growE_any (n1 + n2) hsm w
  rw [show ((n1 + n2 : Nat) : Int) = (n1 : Int) + (n2 : Int) by omega] at hgr
  clear h1 h2 hblt
  go_enter Try.func70, Try.ntmps70
  go_wp2
  go_loopg [3, 11] 2 (fun gk v i wr => (gk = 2 ∧ i = .int .i64 0 ∧ v = .int .i64 0 ∧ w = wr) ∨ (gk = 1 ∧ i = .int .i64 1 ∧ v = .int .i64 (n1 : Int) ∧ w = wr) ∨ (gk = 0 ∧ i = .int .i64 2 ∧ v = .int .i64 ((n1 : Int) + (n2 : Int)) ∧ w = wr))
  case atStart => exact Or.inl ⟨rfl, rfl, rfl, rfl⟩
  case round =>
    rcases hrel with ⟨rfl, rfl, rfl, rfl⟩ | ⟨rfl, rfl, rfl, rfl⟩ | ⟨rfl, rfl, rfl, rfl⟩
    · go_wp2
      go_roundg 1
      case measure => omega
      case rel => exact Or.inr (Or.inl ⟨rfl, rfl, rfl, rfl⟩)
    · go_wp2
      go_roundg 0
      case measure => omega
      case rel => exact Or.inr (Or.inr ⟨rfl, rfl, rfl, rfl⟩)
    · go_wp2_with fail
      refine hgr.mono ?_
      rintro e w2 ⟨v0, rfl, hown, hb2⟩
      clear hgr hb0 hb1
      go_wp2
      go_loopg [6, 27] 2 (fun gk v i wr => Below w.heap.size w wr ∧ ((gk = 2 ∧ i = .int .i64 0 ∧ wr.ownsRow w.heap.size 3 1 v 0 []) ∨ (gk = 1 ∧ i = .int .i64 1 ∧ wr.ownsRow w.heap.size 3 1 v n1 A) ∨ (gk = 0 ∧ i = .int .i64 2 ∧ wr.ownsRow w.heap.size 3 1 v (n1 + n2) (A ++ L))))
      case atStart => exact ⟨hb2, Or.inl ⟨rfl, rfl, hown⟩⟩
      case round =>
        clear hown hb2
        obtain ⟨hbel, ⟨rfl, rfl, hown⟩ | ⟨rfl, rfl, hown⟩ | ⟨rfl, rfl, hown⟩⟩ := hrel
        · obtain ⟨hb0, hb1⟩ := HB.out wr hbel
          have hs1 := HL1.out.below hbel
          obtain ⟨aa, cc, rfl⟩ := owns_form hown
          go_wp2_with (at_builtin; refine wpList_app rfl _ _ 23 3 rfl (.int .i64 0) 1 8 Try.underlying23 info3 rfl (by decide) w.heap.size _ _ 0 n1 [] A rfl hown rfl hs1 (by have := HM.out; omega) (by omega) hbel.size ?_; intro v' w' hown' hg')
          have R : w'.ownsRow w.heap.size 3 1 v' n1 A := by rw [Nat.zero_add] at hown'; exact hown'
          have hb2 := hbel.trans (grown_base hg' hbel.size hown)
          clear hown hown' hb0 hb1 hbel hg' hs1
          go_wp2
          go_roundg 1
          case measure => omega
          case rel => exact ⟨hb2, Or.inr (Or.inl ⟨rfl, rfl, R⟩)⟩
        · obtain ⟨hb0, hb1⟩ := HB.out wr hbel
          have hs2 := HL2.out.below hbel
          obtain ⟨aa, cc, rfl⟩ := owns_form hown
          go_wp2_with (at_builtin; refine wpList_app rfl _ _ 23 3 rfl (.int .i64 0) 1 8 Try.underlying23 info3 rfl (by decide) w.heap.size _ _ n1 n2 A L rfl hown rfl hs2 (by have := HM.out; omega) (by omega) hbel.size ?_; intro v' w' hown' hg')
          have hb2 := hbel.trans (grown_base hg' hbel.size hown)
          have R : Hid (w'.ownsRow w.heap.size 3 1 v' (n1 + n2) (A ++ L)) := hown'
          clear hown hown' hb0 hb1 hbel hg' hs2
          go_wp2
          go_roundg 0
          case measure => omega
          case rel => exact ⟨hb2, Or.inr (Or.inr ⟨rfl, rfl, R.out⟩)⟩
        · go_wp2
          go_ret
          exact ⟨_, rfl, hown, hbel⟩
end Go.Proofs.Ythmjjpaengackaa.Po
