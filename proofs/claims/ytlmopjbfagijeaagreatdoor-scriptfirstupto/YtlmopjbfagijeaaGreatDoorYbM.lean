import Derived.Test.YtlmopjbfagijeaaGreatDoorBaseM
import Derived.Laws.AppendOwnNone
import Derived.OwnWalk
import Derived.BigQuiet
import Derived.Deep.RegionHeldLaw
import Derived.Test.YtlmopjbfagijeaaGreatDoorYaM
namespace Go.Proofs.YtlmopjbfagijeaaGreatDoor.Sq
open Go.RowKit Go.Lib Go.Deep

theorem some_lt {α : Type _} {l : List α} {i : Nat} {x : α} (h : l[i]? = some x) : i < l.length := (List.getElem?_eq_some_iff.1 h).1
theorem owns_keep {W W' : World} {B e n size : Nat} {v : Value} {xs : List Value} (h : W.ownsRow B e size v n xs) (hk : ∀ g, v.ownBlock = some g → W'.heap[g]? = W.heap[g]?) : W'.ownsRow B e size v n xs := by
  obtain ⟨q0, q⟩ := h
  refine ⟨q0, ?_⟩
  rcases q with q | ⟨g1, cap1, cur1, q1, q2, q3, q4⟩
  · exact .inl q
  · exact .inr ⟨g1, cap1, cur1, q1, q2, (hk g1 (by rw [q1]; rfl)).trans q3, q4⟩
theorem owns_below {W W' : World} {e n size : Nat} {v : Value} {xs : List Value} {B : Nat} (h : W.ownsRow B e size v n xs) (hb : Below W.heap.size W W') : W'.ownsRow B e size v n xs := owns_keep h fun g hg => hb.block g (h.lt g hg).2
theorem owns_base {W : World} {e n size : Nat} {v : Value} {xs : List Value} {B B' : Nat} (h : W.ownsRow B e size v n xs) (hB : B' ≤ B) : W.ownsRow B' e size v n xs := by
  obtain ⟨q0, q⟩ := h
  refine ⟨q0, ?_⟩
  rcases q with q | ⟨g1, cap1, cur1, q1, q2, q3⟩
  · exact .inl q
  · exact .inr ⟨g1, cap1, cur1, q1, Nat.le_trans hB q2, q3⟩
theorem owns_block {w : World} {B n size e k : Nat} {v : Value} {xs : List Value} (h : w.ownsRow B e size v n xs) (hv : v.ownBlock = some k) : ∃ cur, w.heap[k]? = some (.cells cur e (0, 0)) := by
  rcases h.2 with ⟨q1, _⟩ | ⟨g1, cap1, cur1, q1, q2, q3, q4⟩
  · rw [q1] at hv; cases hv
  · rw [q1] at hv
    simp [Value.ownBlock] at hv
    subst hv
    exact ⟨cur1, q3⟩
theorem owns_form {w : World} {B ty sz n : Nat} {v : Value} {xs : List Value} (h : w.ownsRow B ty sz v n xs) : ∃ a cap, v = .slice a n cap := by
  rcases h.2 with ⟨h1, h2⟩ | ⟨g, cap, cur, h1, _⟩
  · exact ⟨none, 0, by rw [h2]; exact h1⟩
  · exact ⟨_, cap, h1⟩
theorem owns_form2 {w : World} {B ty sz n : Nat} {v : Value} {xs : List Value} (h : w.ownsRow B ty sz v n xs) (hn : 0 < n) : ∃ g cap, v = .slice (some ⟨g, 0, none⟩) n cap := by
  rcases h.2 with ⟨h1, h2⟩ | ⟨g, cap, cur, h1, _⟩
  · omega
  · exact ⟨g, cap, h1⟩
theorem only_below {S : List Nat} {a w w' : World} (h : Only S a w) (hb : Below w.heap.size w w') : Only S a w' := h.trans ⟨hb.os, hb.tape, hb.output, hb.size, fun k hk _ => hb.block k hk⟩
theorem only_grown {S : List Nat} {a w w' : World} {row : Option Nat} (h : Only S a w) (hg : w.grownBy w' row) (hr : ∀ k, row = some k → k ∈ S ∨ a.heap.size ≤ k) : Only S a w' :=
  ⟨hg.os.trans h.os, hg.tape.trans h.tape, hg.output.trans h.output, Nat.le_trans h.size hg.size, fun k hk hS => (hg.block k (Nat.lt_of_lt_of_le hk h.size) (fun e => by
    rcases hr k e.symm with h1 | h1
    · exact hS h1
    · omega)).trans (h.block k hk hS)⟩
theorem only_set {w : World} {b j : Nat} (v : Value) : Only [b] w (w.setCell ⟨b, j, none⟩ v) := ⟨rfl, rfl, rfl, by simp, fun k _ hn => heap_setCell_other _ _ _ _ (fun e => hn (by simp [e]))⟩
theorem bdr {w W : World} {B : Nat} (h : Below B w W) (k : Nat) : Below B w (W.drewN k) := ⟨h.os, h.tape, h.output, h.size, h.block⟩

theorem flat_len {α : Type} (f : α → List Value) (k : Nat) (hf : ∀ a, (f a).length = k) : ∀ l : List α, (l.flatMap f).length = l.length * k
  | [] => by simp
  | a :: l => by rw [List.flatMap_cons, List.length_append, hf, flat_len f k hf l, List.length_cons, Nat.add_mul]; omega
theorem flat_get {α : Type} (f : α → List Value) (k : Nat) (hf : ∀ a, (f a).length = k) : ∀ (l : List α) (i : Nat) (a : α), l[i]? = some a → ∀ j, j < k → (l.flatMap f)[i * k + j]? = (f a)[j]?
  | [], i, a, h, j, hj => by cases h
  | b :: l, 0, a, h, j, hj => by
    simp only [List.getElem?_cons_zero, Option.some.injEq] at h
    subst h
    rw [Nat.zero_mul, Nat.zero_add, List.flatMap_cons, List.getElem?_append_left (by rw [hf]; exact hj)]
  | b :: l, i + 1, a, h, j, hj => by
    rw [List.getElem?_cons_succ] at h
    rw [List.flatMap_cons, List.getElem?_append_right (by rw [hf, Nat.add_mul]; omega), hf, show (i + 1) * k + j - k = i * k + j by rw [Nat.add_mul]; omega]
    exact flat_get f k hf l i a h j hj
theorem flat_set {α : Type} (f : α → List Value) (k : Nat) (hf : ∀ a, (f a).length = k) : ∀ (l : List α) (i : Nat) (a b : α), l[i]? = some a → ∀ (j : Nat) (v : Value), j < k → f b = (f a).set j v → (l.flatMap f).set (i * k + j) v = (l.set i b).flatMap f
  | [], i, a, b, h, j, v, hj, e => by cases h
  | c :: l, 0, a, b, h, j, v, hj, e => by
    simp only [List.getElem?_cons_zero, Option.some.injEq] at h
    subst h
    rw [Nat.zero_mul, Nat.zero_add, List.flatMap_cons, List.set_append_left _ _ (by rw [hf]; exact hj), ← e, List.set_cons_zero, List.flatMap_cons]
  | c :: l, i + 1, a, b, h, j, v, hj, e => by
    rw [List.getElem?_cons_succ] at h
    rw [List.flatMap_cons, List.set_append_right _ _ (by rw [hf, Nat.add_mul]; omega), hf, show (i + 1) * k + j - k = i * k + j by rw [Nat.add_mul]; omega, List.set_cons_succ, List.flatMap_cons, flat_set f k hf l i a b h j v hj e]
theorem two_new (w : World) (A B : Array Value) (s t : TypeId) : ∃ W, (w.alloc (.cells A s)).alloc (.cells B t) = W ∧ Below w.heap.size w W ∧ W.heap[w.heap.size]? = some (.cells A s (0, 0)) ∧ W.heap[w.heap.size + 1]? = some (.cells B t (0, 0)) := by
  have hb1 : Below w.heap.size w (w.alloc (.cells A s)) := (Below.refl _ _).alloc (Nat.le_refl _) _
  refine ⟨_, rfl, hb1.alloc hb1.size _, (Below.heap_alloc _ _ _ (by simp)).trans (heap_new w _), ?_⟩
  have := heap_new (w.alloc (.cells A s)) (.cells B t)
  rw [show (w.alloc (.cells A s)).heap.size = w.heap.size + 1 by simp] at this
  exact this
theorem one_new (w : World) (A : Array Value) (s : TypeId) : ∃ W, w.alloc (.cells A s) = W ∧ Below w.heap.size w W ∧ W.heap[w.heap.size]? = some (.cells A s (0, 0)) := ⟨_, rfl, (Below.refl _ _).alloc (Nat.le_refl _) _, heap_new w _⟩
theorem info_parts {P : Program} {e : TypeId} {z : Value} {s b : Nat} (h : (P.info? e).map (fun i => (i.zero, i.size, i.bytes)) = some (some z, s, b)) : ∃ i0, P.info? e = some i0 ∧ i0.zero = some z ∧ i0.size = s ∧ i0.bytes = b := by
  cases hq : P.info? e with
  | none => rw [hq] at h; cases h
  | some i =>
    rw [hq] at h
    simp at h
    exact ⟨i, rfl, h.1, h.2.1, h.2.2⟩
theorem wpList_append_run {P : Program} {ops : Array Oper} {rest : List Oper} {o : Oper} {a : Act} {w : World} {Q : Exit → Act → World → Prop} (hgd : o.guard = none) (s x : Operand) (t u : TypeId)
    (ho : o.op = .call { callee := .builtin .append, args := #[s, x], argTypes := #[t, u] }) (v x' v' : Value) (w' : World) (hs : a.eval s = v) (hx : a.eval x = x')
    (hr : ∀ ty, (Builtin.append_ #[t, u] ty #[v, x']).run P w = .ok v' w') (h : wpList P ops Q rest (a.put o.dst v') w') : wpList P ops Q (o :: rest) a w := by
  refine wpList_plain hgd fun K hK => ?_
  unfold Oper.wp execOp
  simp only [ho, resolve, invoke, builtin, Sem.run_bind, Sem.run_pure, Result.andThen_ok, List.map_toArray, List.map_cons, List.map_nil, hs, hx, hr]
  exact hK _ _ h

/-- cells that can be read, n elements of sz cells -/
def See (w : World) (sz : Nat) (v : Value) (n : Nat) (xs : List Value) : Prop :=
  xs.length = n * sz ∧ (∀ u ∈ xs, u.oneCell' = true) ∧ ∃ a c, v = .slice a n c ∧ n ≤ c ∧ (a = none → c = 0) ∧ (0 < n → ∃ b off, a = some ⟨b, off, none⟩ ∧ b < w.heap.size ∧ ∀ (j : Nat) u, xs[j]? = some u → w.cell? ⟨b, off + j, none⟩ = some u)
theorem See.below {w w' : World} {sz n : Nat} {v : Value} {xs : List Value} (h : See w sz v n xs) (hb : Below w.heap.size w w') : See w' sz v n xs := by
  obtain ⟨h0, h5, a, c, h1, h2, h3, h4⟩ := h
  refine ⟨h0, h5, a, c, h1, h2, h3, fun hn => ?_⟩
  obtain ⟨b, off, e, hlt, hc⟩ := h4 hn
  exact ⟨b, off, e, Nat.lt_of_lt_of_le hlt hb.size, fun j u hu => (hb.cell (p := ⟨b, off + j, none⟩) hlt).trans (hc j u hu)⟩
theorem See.form {w : World} {sz n : Nat} {v : Value} {xs : List Value} (h : See w sz v n xs) : ∃ a c, v = .slice a n c := by
  obtain ⟨h0, h5, a, c, h1, _⟩ := h
  exact ⟨a, c, h1⟩
theorem see_own {w : World} {B sz n e : Nat} {v : Value} {xs : List Value} (h : w.ownsRow B e sz v n xs) (h1 : ∀ u ∈ xs, u.oneCell' = true) : See w sz v n xs := by
  refine ⟨h.1, h1, ?_⟩
  rcases h.2 with ⟨q1, q2⟩ | ⟨g, cap, cur, q1, q2, q3, q4, q5, q6, q7⟩
  · exact ⟨none, 0, by rw [q2]; exact q1, by omega, fun _ => rfl, fun h => by omega⟩
  · refine ⟨_, cap, q1, q4, fun e => (by cases e), fun _ => ⟨g, 0, rfl, heap_lt q3, fun j u hu => ?_⟩⟩
    have hj := (List.getElem?_eq_some_iff.1 hu).1
    rw [← q7, List.getElem?_take] at hu
    split at hu
    · rw [Array.getElem?_toList] at hu
      rw [Nat.zero_add, cell_of_heap q3]
      exact hu
    · cases hu
set_option maxRecDepth 20000 in
/-- a list that can be read is appended to a row of the call's own -/
theorem wpList_app {w : World} {ops : Array Oper} {rest : List Oper} {o : Oper} {a : Act} {Q : Exit → Act → World → Prop} (hgd : o.guard = none) (s x : Operand) (t e : TypeId)
    (ho : o.op = .call { callee := .builtin .append, args := #[s, x], argTypes := #[t, t] }) (z : Value) (sz by_ : Nat) (ht : Tryz.prog.underlying t = some (.slice e)) (hinf : (Tryz.prog.info? e).map (fun i => (i.zero, i.size, i.bytes)) = some (some z, sz, by_)) (hzs : z.cells.size = sz) (hsz : 0 < sz)
    (B : Nat) (v xv : Value) (nA nL : Nat) (A L : List Value) (hs : a.eval s = v) (hown : w.ownsRow B e sz v nA A) (hx : a.eval x = xv) (hL : See w sz xv nL L) (h63 : nA + nL ≤ maxLen) (hb : (nA + nL) * by_ ≤ 140737488355328) (hB : B ≤ w.heap.size)
    (h : ∀ v' w', w'.ownsRow B e sz v' (nA + nL) (A ++ L) → w.grownBy w' v.ownBlock → wpList Tryz.prog ops Q rest (a.put o.dst v') w') : wpList Tryz.prog ops Q (o :: rest) a w := by
  obtain ⟨i0, hi, hz0, hz1, hz2⟩ := info_parts hinf
  obtain ⟨hlen, hone, ad, c, rfl, hc, hnil, hcell⟩ := hL
  cases ad with
  | none =>
    obtain rfl := hnil rfl
    obtain rfl : nL = 0 := by omega
    obtain rfl : L = [] := List.eq_nil_of_length_eq_zero (by rw [hlen]; omega)
    refine wpList_append_own_none hgd s x t ho B e i0 sz ht hi v nA A hs hown hx ?_
    exact h v w (by rw [List.append_nil]; exact hown) ⟨rfl, rfl, rfl, Nat.le_refl _, fun _ _ _ => rfl⟩
  | some ad =>
    refine wpList_append_own w hgd s x t ho B e i0 z sz by_ ht hi hz0 hz1 hz2 hzs hsz v nA A hs hown ad nL c L hx hlen
      (fun j u hu => ?_) hone h63 hb hB (fun v' w' ho' hg _ => h v' w' ho' hg)
    have hn : 0 < nL := by
      have := (List.getElem?_eq_some_iff.1 hu).1
      rw [hlen] at this
      rcases Nat.eq_zero_or_pos nL with h0 | h0
      · rw [h0] at this; omega
      · exact h0
    obtain ⟨b, off, e, _, hcc⟩ := hcell hn
    injection e with e
    subst e
    rw [Addr.add_lit]
    exact hcc j u hu
theorem grown_base {w w' : World} {B : Nat} {v : Value} {e : TypeId} {size n : Nat} {xs : List Value} (h : w.grownBy w' v.ownBlock) (hB : B ≤ w.heap.size) (ho : w.ownsRow B e size v n xs) : Below B w w' := grown_below h hB ho

theorem see_nil (W : World) (sz : Nat) : See W sz (.slice none 0 0) 0 [] := by
  refine ⟨by simp, fun u hu => (by cases hu), none, 0, rfl, Nat.le_refl _, fun _ => rfl, fun h => ?_⟩
  exact absurd h (by decide)
/-- a list that came in, as it can be read -/
theorem see_in {W : World} {x : Addr} {len cap sz : Nat} {xs : List Value} (hs : 0 < sz) (hl : len ≤ cap) (hx : xs.length = len * sz) (h1 : ∀ u ∈ xs, u.oneCell' = true) (hc : ∀ (j : Nat) u, xs[j]? = some u → W.cell? (x.add j) = some u) : See W sz (.slice (some x) len cap) len xs := by
  refine ⟨hx, h1, _, _, rfl, hl, fun e => (by cases e), fun hn => ?_⟩
  obtain ⟨b, off, spot⟩ := x
  have hlt : 0 < xs.length := by rw [hx]; exact Nat.mul_pos hn hs
  have h0 := hc 0 _ (List.getElem?_eq_getElem hlt)
  have hspot : spot = none := by simpa [Addr.add] using World.cell?_spot h0
  subst hspot
  rw [Addr.add_lit] at h0
  refine ⟨b, off, rfl, block_lt_of_cell h0, fun j u hu => ?_⟩
  have := hc j u hu
  rw [Addr.add_lit] at this
  exact this
theorem see_take {w : World} {B e sz n cap : Nat} {A L : List Value} {g : Nat} (h : w.ownsRow B e sz (.slice (some ⟨g, 0, none⟩) (n + 1) cap) (n + 1) (A ++ L)) (hA : A.length = n * sz) (h1 : ∀ u ∈ A, u.oneCell' = true) : See w sz (.slice (some ⟨g, 0, none⟩) n cap) n A := by
  have hs := h.2
  rcases hs with ⟨q1, -⟩ | ⟨g', cap', cur, q1, q2, q3, q4, q5, q6, q7⟩
  · cases q1
  · injection q1 with e1 _ e3
    injection e1 with e1
    injection e1 with e1
    subst e1 e3
    refine ⟨hA, h1, _, _, rfl, by omega, fun e => (by cases e), fun _ => ⟨_, _, rfl, heap_lt q3, fun j u hu => ?_⟩⟩
    have hu2 : (A ++ L)[j]? = some u := by rw [List.getElem?_append_left (some_lt hu)]; exact hu
    rw [← q7, List.getElem?_take] at hu2
    split at hu2
    · rw [Array.getElem?_toList] at hu2
      rw [Nat.zero_add, cell_of_heap q3]
      exact hu2
    · cases hu2
theorem own_cap {w : World} {B e sz n cap g : Nat} {xs : List Value} (h : w.ownsRow B e sz (.slice (some ⟨g, 0, none⟩) n cap) n xs) : n ≤ cap := by
  rcases h.2 with ⟨q1, -⟩ | ⟨g', cap', cur, q1, q2, q3, q4, q5, q6, q7⟩
  · cases q1
  · injection q1 with _ _ e3
    omega
/-- one element, built for an append -/
theorem see_one {wr : World} {A : Array Value} {t : TypeId} {sz : Nat} (h : A.toList.length = sz) (h1 : ∀ u ∈ A.toList, u.oneCell' = true) : See (wr.alloc (.cells A t)) sz (.slice (some ⟨wr.heap.size, 0, none⟩) 1 1) 1 A.toList := by
  refine ⟨by omega, h1, _, 1, rfl, Nat.le_refl _, fun e => (by cases e), fun _ => ⟨_, _, rfl, heap_lt (heap_new wr _), fun j u hu => ?_⟩⟩
  rw [Nat.zero_add, cell_of_heap (heap_new wr _)]
  rw [Array.getElem?_toList] at hu
  exact hu
theorem bdN (w : World) (n : Nat) : Below w.heap.size w (w.drewN n) := ⟨rfl, rfl, rfl, Nat.le_refl _, fun _ _ => rfl⟩
theorem str_app (a b : List UInt8) : str a ++ str b = str (a ++ b) := by
  apply ByteArray.ext
  apply Array.ext'
  rw [ByteArray.data_append, Array.toList_append, str_data, str_data, str_data]

def zsC (l : List Int) : List Value := l.map fun (z : Int) => Value.int .i64 z
def scC (l : List ByteArray) : List Value := l.map Value.string
theorem zs_one (l : List Int) : ∀ u ∈ zsC l, u.oneCell' = true := fun u hu => by
  obtain ⟨s, _, rfl⟩ := List.mem_map.1 hu
  rfl
theorem sc_one (l : List ByteArray) : ∀ u ∈ scC l, u.oneCell' = true := fun u hu => by
  obtain ⟨s, _, rfl⟩ := List.mem_map.1 hu
  rfl
theorem bytes_one (l : List UInt8) : ∀ u ∈ Lib.byteCells l, u.oneCell' = true := fun u hu => by
  obtain ⟨s, _, rfl⟩ := List.mem_map.1 hu
  rfl
/-- the cells of one row of a list that can be read -/
theorem See.row {w : World} {a : Option Addr} {n c sz : Nat} {α : Type} {f : α → List Value} {A : List α} (h : See w sz (.slice a n c) n (A.flatMap f)) (hf : ∀ x, (f x).length = sz) (hs : 0 < sz) {i : Nat} {x : α} (hi : A[i]? = some x) : ∃ b off, a = some ⟨b, off, none⟩ ∧ b < w.heap.size ∧ ∀ j u, (f x)[j]? = some u → w.cell? ⟨b, off + i * sz + j, none⟩ = some u := by
  obtain ⟨h0, _, a', c', h1, h2, h3, h4⟩ := h
  injection h1 with e1 _ e2
  subst e1 e2
  have hl := some_lt hi
  rw [flat_len f sz hf] at h0
  have hn : A.length = n := Nat.eq_of_mul_eq_mul_right hs h0
  obtain ⟨b, off, e, hlt, hc⟩ := h4 (by omega)
  refine ⟨b, off, e, hlt, fun j u hu => ?_⟩
  have hj := some_lt hu
  rw [hf] at hj
  have := hc (i * sz + j) u (by rw [flat_get f sz hf A i x hi j hj]; exact hu)
  rwa [← Nat.add_assoc] at this
theorem See.z {w : World} {a : Option Addr} {n c : Nat} {A : List Int} (h : See w 1 (.slice a n c) n (zsC A)) {i : Nat} {z : Int} (hi : A[i]? = some z) : ∃ b off, a = some ⟨b, off, none⟩ ∧ b < w.heap.size ∧ w.cell? ⟨b, off + i, none⟩ = some (.int .i64 z) := by
  obtain ⟨h0, _, a', c', h1, h2, h3, h4⟩ := h
  injection h1 with e1 _ e2
  subst e1 e2
  have hl := some_lt hi
  simp [zsC] at h0
  obtain ⟨b, off, e, hlt, hc⟩ := h4 (by omega)
  exact ⟨b, off, e, hlt, hc i _ (by unfold zsC; rw [List.getElem?_map, hi]; rfl)⟩
theorem See.s {w : World} {a : Option Addr} {n c : Nat} {A : List ByteArray} (h : See w 1 (.slice a n c) n (scC A)) {i : Nat} {z : ByteArray} (hi : A[i]? = some z) : ∃ b off, a = some ⟨b, off, none⟩ ∧ b < w.heap.size ∧ w.cell? ⟨b, off + i, none⟩ = some (.string z) := by
  obtain ⟨h0, _, a', c', h1, h2, h3, h4⟩ := h
  injection h1 with e1 _ e2
  subst e1 e2
  have hl := some_lt hi
  simp [scC] at h0
  obtain ⟨b, off, e, hlt, hc⟩ := h4 (by omega)
  exact ⟨b, off, e, hlt, hc i _ (by unfold scC; rw [List.getElem?_map, hi]; rfl)⟩
end Go.Proofs.YtlmopjbfagijeaaGreatDoor.Sq

namespace Go.Proofs.YtlmopjbfagijeaaGreatDoor.Sc
open Go.RowKit Go.Lib

/-- a part of a text -/
theorem part_at {P : Program} (W : World) (t : TypeId) (ht : P.underlying t = some .string) (s : ByteArray) (a b : Nat) (r : ByteArray) (hab : a ≤ b) (hb : b ≤ s.size) (hr : s.extract a b = r) :
    (Instr.slice t (.string s) (some (.int .i64 (a : Int))) (some (.int .i64 (b : Int))) none).run P W = .ok (.string r) W := by
  rw [run_slice_string (P := P) W t s .i64 .i64 (a : Int) (b : Int) ht (by omega) (by omega) (by omega), Int.toNat_natCast, Int.toNat_natCast, hr]
theorem part_end {P : Program} (W : World) (t : TypeId) (ht : P.underlying t = some .string) (s : ByteArray) (a : Nat) (r : ByteArray) (ha : a ≤ s.size) (hr : s.extract a s.size = r) :
    (Instr.slice t (.string s) (some (.int .i64 (a : Int))) none none).run P W = .ok (.string r) W := by
  rw [run_slice_string_l W t s ht .i64 (a : Int) (by omega) (by omega), Int.toNat_natCast, hr]

theorem BuAt.iterAt {T : TypeId} {rest : List Value} {B b : Nat} {p : Value} {l : List UInt8} {w : World} (h : BuAt T rest B b p l w) {k : Nat} {s : ByteArray} {pos : Nat} (hk : w.heap[k]? = some (.stringIter s pos)) (pos' : Nat) : BuAt T rest B b p l (w.iterAt k s pos') := by
  obtain ⟨hB, v, hb, hown, hne⟩ := h
  have hkb : b ≠ k := by
    intro e1
    rw [e1, hk] at hb
    cases hb
  refine ⟨hB, v, (iterAt_other w k b s pos' hkb).trans hb, ⟨hown.1, ?_⟩, hne⟩
  rcases hown.2 with hn | ⟨g, cap, cur, hv, hbg, hg, rest⟩
  · exact .inl hn
  · have hkg : g ≠ k := by
      intro e1
      rw [e1, hk] at hg
      cases hg
    exact .inr ⟨g, cap, cur, hv, hbg, (iterAt_other w k g s pos' hkg).trans hg, rest⟩
theorem Bu.iterAt {T : TypeId} {rest : List Value} {B b : Nat} {l : List UInt8} {w : World} (h : Bu T rest B b l w) {k : Nat} {s : ByteArray} {pos : Nat} (hk : w.heap[k]? = some (.stringIter s pos)) (pos' : Nat) : Bu T rest B b l (w.iterAt k s pos') :=
  h.elim (fun x => .inl (x.iterAt hk pos')) (fun x => .inr (x.iterAt hk pos'))
theorem extract_size (s : ByteArray) (a b : Nat) (h : b ≤ s.size) : (s.extract a b).size = b - a := by
  rw [ByteArray.size_extract]
  omega
/-- what byteWord wrote up to a place, and what it will have written behind the bytes that are due -/
theorem wrL_part (s : ByteArray) (dn pos : Nat) (hd : dn ≤ pos) (h : ∀ j d, dn ≤ j → j < pos → s.data.toList[j]? = some d → plN d.toNat = false) :
    wrL (s.data.toList.take pos) = wrL (s.data.toList.take dn) ++ escL (s.extract dn pos).data.toList := by
  have e : (s.extract dn pos).data.toList = (s.data.toList.take pos).drop dn := by
    rw [extract_data, List.drop_take]
  have e2 : s.data.toList.take pos = s.data.toList.take dn ++ (s.data.toList.take pos).drop dn := by
    have h1 := (List.take_append_drop dn (s.data.toList.take pos)).symm
    rw [List.take_take, Nat.min_eq_left hd] at h1
    exact h1
  rw [e, ← wrL_none ((s.data.toList.take pos).drop dn), ← wrL_append, ← e2]
  intro c hc
  obtain ⟨i, hi⟩ := List.mem_iff_getElem?.1 hc
  rw [List.getElem?_drop, List.getElem?_take] at hi
  split at hi
  · exact h (dn + i) c (by omega) (by omega) hi
  · cases hi

set_option maxRecDepth 20000 in
set_option maxHeartbeats 1000000 in
theorem byteWord_any (s : ByteArray) (hs : s.size ≤ 8388608) (w : World) :
    Calls Tryz.prog 133 #[.string s] w fun e w' => e = .returned (.string (str (61 :: wrL s.data.toList))) ∧ Below w.heap.size w w' := by
  have hl : s.data.toList.length = s.size := (size_eq s).symm
  obtain ⟨n, hn⟩ : ∃ n, s.size = n := ⟨_, rfl⟩
  rw [hn] at hl hs
  have HS : Hid (s.size = n) := hn
  have hB0 := (Below.refl w.heap.size w).alloc (Nat.le_refl _) (.cells #[.pointer none, .slice none 0 0] 81)
  have h0 := bwrite_any okB w.heap.size w.heap.size [] { data := #[61] } _ (Bu.new 81 [] w) (by decide) hB0.size
  clear hn
  go_enter Tryz.func133, Tryz.ntmps133
  go_wp2_with (go_at_call 61; refine h0.mono ?_; rintro e w1 ⟨rfl, ⟨hu1, hb1⟩, _⟩)
  have hb1 := hB0.trans hb1
  have hlt1 := hu1.lt
  have hu1 : Bu 81 [] w.heap.size w.heap.size [61] w1 := hu1
  clear h0 hB0
  go_wp2
  go_loopg [4] n (fun gk d wr => ∃ pos dn : Nat, pos + gk = n ∧ d = .int .i64 (dn : Int) ∧ dn ≤ pos ∧ wr.heap[w1.heap.size]? = some (.stringIter s pos) ∧ Hid (Bu 81 [] w.heap.size w.heap.size (61 :: wrL (s.data.toList.take dn)) wr ∧ Below w.heap.size w wr ∧ ∀ j d, dn ≤ j → j < pos → s.data.toList[j]? = some d → plN d.toNat = false))
  case atStart => exact ⟨0, 0, by omega, rfl, Nat.le_refl _, World.iter_heap w1 s 0, by rw [List.take_zero]; exact hu1.below ((Below.refl w1.heap.size w1).alloc (Nat.le_refl _) (.stringIter s 0)), hb1.alloc (by omega) _, fun j d h1 h2 => by omega⟩
  case round =>
    obtain ⟨pos, dn, hk, rfl, hdn, hit, HI⟩ := hrel
    have HS := HS
    by_cases hp : pos < n
    · obtain ⟨c, hc⟩ : ∃ c, s.data.toList[pos]? = some c := ⟨_, List.getElem?_eq_getElem (by omega)⟩
      have hnx : ∀ ty, (Instr.next (.pointer (some ⟨w1.heap.size, 0, none⟩)) true ty).run Tryz.prog wr = _ := fun ty => Lib.run_next_any_at wr w1.heap.size s pos ty hit (by rw [HS.out]; omega)
      obtain ⟨r1, r2, r3, r4, r5⟩ := rune_at s pos (by rw [HS.out]; omega) c hc
      rw [HS.out] at r2
      by_cases hpl : plN c.toNat = true
      · rw [r4 hpl] at hnx
        have hit2 := Lib.iterAt_heap wr w1.heap.size s pos (pos + 1) hit
        have hb2 := Lib.below_iterAt HI.out.2.1 (k := w1.heap.size) (Nat.le_of_lt hlt1) s (pos + 1)
        have hu2 := HI.out.1.iterAt hit (pos + 1)
        have hst := stands_any c.toNat (wr.iterAt w1.heap.size s (pos + 1))
        rw [hpl] at hst
        have HP : Hid (wrL (s.data.toList.take (pos + 1)) = wrL (s.data.toList.take dn) ++ escL (s.extract dn pos).data.toList ++ [c]) := by
          show _ = _
          rw [wrL_take _ _ _ hc, wrL_part s dn pos hdn HI.out.2.2, one, if_pos hpl]
        have hix := fun W => index_at (P := Tryz.prog) W 9 s .i64 pos c Tryz.underlying9 hc
        have hsl := fun W => part_at (P := Tryz.prog) W 9 Tryz.underlying9 s dn pos _ hdn (by rw [HS.out]; omega) rfl
        have hes : (s.extract dn pos).size ≤ n := by rw [extract_size _ _ _ (by rw [HS.out]; omega)]; omega
        have hwl : (61 :: wrL (s.data.toList.take dn)).length ≤ 1 + 3 * n := by
          have := wrL_len (s.data.toList.take dn)
          rw [List.length_take] at this
          simp only [List.length_cons]
          omega
        generalize s.extract dn pos = q at hsl HP hes
        generalize wrL (s.data.toList.take dn) = L at hu2 HP hwl
        clear hit HI r1 r2 r3 r4 r5 hc
        change ∀ ty, (Instr.next (.pointer (some ⟨w1.heap.size, 0, none⟩)) true ty).run Tryz.prog wr = .ok (.tuple #[.bool true, .int .i64 pos, .int .i32 c.toNat]) (wr.iterAt w1.heap.size s (pos + 1)) at hnx
        generalize wr.iterAt w1.heap.size s (pos + 1) = W1 at *
        go_wp2_with (go_at_call 149; refine hst.mono ?_; rintro e w3 ⟨rfl, rfl⟩)
        have hes1 := writeEscaped_any okB w.heap.size w.heap.size (61 :: L) q w3 hu2 (by omega) hb2.size
        clear hst
        go_wp2_with (go_at_call 150; refine hes1.mono ?_; rintro e w4 ⟨rfl, ⟨hu4, hb4⟩, ho4⟩)
        have hql : (escL q.data.toList).length ≤ 3 * n := by rw [escL_len]; have := (size_eq q).symm; omega
        have hby := bbyte_any okB w.heap.size w.heap.size (61 :: L ++ escL q.data.toList) c w4 hu4 (by rw [List.length_append]; omega) (hb2.trans hb4).size
        have hit4 := ho4.iter (Nat.ne_of_gt hlt1) hit2
        clear hes1
        go_wp2_with (go_at_call 138; refine hby.mono ?_; rintro e w5 ⟨rfl, ⟨hu5, hb5⟩, ho5⟩)
        have hit5 := ho5.iter (Nat.ne_of_gt hlt1) hit4
        have hb5 := (hb2.trans hb4).trans hb5
        have HJ : Hid (Bu 81 [] w.heap.size w.heap.size (61 :: wrL (s.data.toList.take (pos + 1))) w5 ∧ Below w.heap.size w w5 ∧ ∀ j d, pos + 1 ≤ j → j < pos + 1 → s.data.toList[j]? = some d → plN d.toNat = false) := by
          refine ⟨?_, hb5, fun j d h1 h2 => by omega⟩
          rw [HP.out]
          exact hu5
        clear hby hu5 hu4 hu2 hb4 ho4 ho5 hit4 hit2 hnx HP hsl hix
        go_wp2
        go_roundg (gk - 1)
        case measure => omega
        case rel => exact ⟨pos + 1, pos + 1, by omega, by go_num, Nat.le_refl _, hit5, HJ⟩
      · have hpl : plN c.toNat = false := by simpa using hpl
        have hr5 := r5 hpl
        rw [hpl] at r3
        have hit2 := Lib.iterAt_heap wr w1.heap.size s pos (pos + (Utf8.decode s pos).2) hit
        have hb2 := Lib.below_iterAt HI.out.2.1 (k := w1.heap.size) (Nat.le_of_lt hlt1) s (pos + (Utf8.decode s pos).2)
        have hu2 := HI.out.1.iterAt hit (pos + (Utf8.decode s pos).2)
        have hst := stands_any (Utf8.decode s pos).1 (wr.iterAt w1.heap.size s (pos + (Utf8.decode s pos).2))
        rw [r3] at hst
        have HJ : Hid (Bu 81 [] w.heap.size w.heap.size (61 :: wrL (s.data.toList.take dn)) (wr.iterAt w1.heap.size s (pos + (Utf8.decode s pos).2)) ∧ Below w.heap.size w (wr.iterAt w1.heap.size s (pos + (Utf8.decode s pos).2)) ∧ ∀ j d, dn ≤ j → j < pos + (Utf8.decode s pos).2 → s.data.toList[j]? = some d → plN d.toNat = false) := by
          refine ⟨hu2, hb2, fun j d h1 h2 h3 => ?_⟩
          by_cases hj : j < pos
          · exact HI.out.2.2 j d h1 hj h3
          · exact hr5 j d (by omega) h2 h3
        clear HI hr5 r3 r4 r5 hit hu2 hb2 hc
        generalize (Utf8.decode s pos).1 = rn at *
        generalize (Utf8.decode s pos).2 = wd at *
        generalize wr.iterAt w1.heap.size s (pos + wd) = W1 at *
        go_wp2_with (go_at_call 149; refine hst.mono ?_; rintro e w3 ⟨rfl, rfl⟩)
        go_roundg (n - (pos + wd))
        case measure => omega
        case rel => exact ⟨pos + wd, dn, by omega, rfl, by omega, hit2, HJ⟩
    · have hnx : ∀ ty, (Instr.next (.pointer (some ⟨w1.heap.size, 0, none⟩)) true ty).run Tryz.prog wr = _ := fun ty => Lib.run_next_end_at wr w1.heap.size s pos ty hit (by rw [HS.out]; omega)
      obtain rfl : pos = n := by omega
      have HP : Hid (wrL s.data.toList = wrL (s.data.toList.take dn) ++ escL (s.extract dn pos).data.toList) := by
        have h1 := wrL_part s dn pos hdn HI.out.2.2
        rw [List.take_of_length_le (by omega)] at h1
        exact h1
      have hsl := fun W => part_end (P := Tryz.prog) W 9 Tryz.underlying9 s dn _ (by rw [HS.out]; omega) rfl
      rw [HS.out] at hsl
      have hes : (s.extract dn pos).size ≤ pos := by rw [extract_size _ _ _ (by rw [HS.out]; omega)]; omega
      have hwl : (61 :: wrL (s.data.toList.take dn)).length ≤ 1 + 3 * pos := by
        have := wrL_len (s.data.toList.take dn)
        rw [List.length_take] at this
        simp only [List.length_cons]
        omega
      generalize s.extract dn pos = q at hsl HP hes
      have hes1 := writeEscaped_any okB w.heap.size w.heap.size (61 :: wrL (s.data.toList.take dn)) q wr HI.out.1 (by omega) HI.out.2.1.size
      have HB : Hid (Below w.heap.size w wr) := HI.out.2.1
      generalize wrL (s.data.toList.take dn) = L at hes1 HP hwl
      clear hit HI
      go_wp2_with (go_at_call 150; refine hes1.mono ?_; rintro e w4 ⟨rfl, ⟨hu4, hb4⟩, ho4⟩)
      have hst := bstring_any w.heap.size w.heap.size (61 :: L ++ escL q.data.toList) w4 hu4
      rw [show 61 :: L ++ escL q.data.toList = 61 :: wrL s.data.toList by rw [HP.out]; rfl] at hst
      clear hes1
      go_wp2_with (go_at_call 62; refine hst.mono ?_; rintro e w5 ⟨rfl, hb5⟩)
      go_wp2
      go_ret
      exact ⟨rfl, (HB.out.trans hb4).trans hb5⟩
end Go.Proofs.YtlmopjbfagijeaaGreatDoor.Sc

namespace Go.Proofs.YtlmopjbfagijeaaGreatDoor.Sc
open Go.RowKit Go.Lib

/-- a line -/
abbrev Ln (lg : Bool) (b : Nat) (l : List UInt8) (w : World) : Prop := Bu 125 [.bool lg] b b l w
theorem okL : OkT 125 3 := ⟨by decide, by kernel_rfl⟩

set_option maxRecDepth 20000 in
set_option maxHeartbeats 1000000 in
theorem lineOf_any (s : ByteArray) (hs : s.size ≤ 140737488355328) (w : World) :
    Calls Tryz.prog 52 #[.string s] w fun e w' => e = .returned (.pointer (some ⟨w.heap.size, 0, none⟩)) ∧ Ln false w.heap.size s.data.toList w' ∧ Below w.heap.size w w' := by
  have hB0 := (Below.refl w.heap.size w).alloc (Nat.le_refl _) (.cells #[.pointer none, .slice none 0 0, .bool false] 125)
  have h0 := bwrite_any okL w.heap.size w.heap.size [] s _ (Bu.new 125 [.bool false] w) (by simp; omega) hB0.size
  go_enter Tryz.func52, Tryz.ntmps52
  go_wp2_with (go_at_call 61; refine h0.mono ?_; rintro e w1 ⟨rfl, ⟨hu1, hb1⟩, _⟩)
  go_wp2
  go_ret
  exact ⟨rfl, hu1, hB0.trans hb1⟩

set_option maxRecDepth 20000 in
set_option maxHeartbeats 1000000 in
theorem word_any (lg : Bool) (b : Nat) (l : List UInt8) (s : ByteArray) (w : World) (h : Ln lg b l w) (hlen : l.length + 1 + s.size ≤ 140737488355328) :
    Calls Tryz.prog 67 #[.pointer (some ⟨b, 0, none⟩), .string s] w fun e w' => e = .returned (.tuple #[]) ∧ (Ln lg b (l ++ 32 :: s.data.toList) w' ∧ Below b w w') ∧ Oth b w w' := by
  obtain ⟨x, hx, hxl⟩ : ∃ x : ByteArray, x = { data := #[32] } ∧ x.data.toList = [32] := ⟨_, rfl, rfl⟩
  have hxs : x.size = 1 := by rw [hx]; rfl
  have h0 := bwrite_any okL b b l x w h (by omega) (Nat.le_of_lt h.lt)
  rw [hxl] at h0
  go_enter Tryz.func67, Tryz.ntmps67
  rw [hx] at h0
  clear hx hxl
  go_wp2_with (go_at_call 61; refine h0.mono ?_)
  rintro e w1 ⟨rfl, ⟨hu1, hb1⟩, ho1⟩
  have h2 := bwrite_any okL b b (l ++ [32]) s w1 hu1 (by simp; omega) (Nat.le_of_lt hu1.lt)
  rw [List.append_assoc] at h2
  go_wp2_with (go_at_call 61; refine h2.mono ?_; rintro e w2 ⟨rfl, ⟨hu2, hb2⟩, ho2⟩)
  go_wp2
  go_end0
  exact ⟨rfl, ⟨hu2, hb1.trans hb2⟩, ho1.trans ho2⟩

set_option maxRecDepth 20000 in
theorem numberWord_any (n : Int) (hn : I64 n) (w : World) (h : ITab w) :
    Calls Tryz.prog 112 #[.int .i64 n] w fun e w' => e = .returned (.string (str (itoa n))) ∧ Below w.heap.size w w' := by
  have h0 := itoa_any n hn w h
  go_enter Tryz.func112, Tryz.ntmps112
  go_wp2_with (go_at_call 87; refine h0.mono ?_; rintro e w1 ⟨rfl, hb1⟩)
  go_ret
  exact ⟨rfl, hb1⟩

def nmL (L : List Int) : List UInt8 := L.flatMap fun n => 32 :: itoa n
theorem nmL_take (L : List Int) (k : Nat) (n : Int) (h : L[k]? = some n) : nmL (L.take (k + 1)) = nmL (L.take k) ++ 32 :: itoa n := by
  have e : L.take (k + 1) = L.take k ++ [n] := by
    rw [List.take_add_one, h]
    rfl
  rw [e]
  simp [nmL]
theorem nmL_len (L : List Int) (h : ∀ n ∈ L, I64 n) : (nmL L).length ≤ 21 * L.length := by
  induction L with
  | nil => simp [nmL]
  | cons a t ih =>
    have h1 := itoa_len a (h a (List.mem_cons_self ..)).1 (h a (List.mem_cons_self ..)).2
    have h2 := ih fun n hn => h n (List.mem_cons_of_mem _ hn)
    simp only [nmL, List.flatMap_cons, List.length_append, List.length_cons] at h2 ⊢
    omega
def intC (L : List Int) : List Value := L.map fun n => .int .i64 n

set_option maxRecDepth 20000 in
set_option maxHeartbeats 1000000 in
theorem numbers_any (lg : Bool) (b k m c : Nat) (L : List Int) (l : List UInt8) (w : World) (h : Ln lg b l w) (ht : ITab w) (hg : 3 < b) (hkb : k ≠ b) (hk : w.heap[k]? = some (.cells (intC L).toArray 3 (0, 0))) (hm : L.length = m) (hL : ∀ n ∈ L, I64 n)
    (hmb : m ≤ 1000) (hlen : l.length ≤ 1099511627776) :
    Calls Tryz.prog 70 #[.pointer (some ⟨b, 0, none⟩), .slice (some ⟨k, 0, none⟩) m c] w fun e w' => e = .returned (.tuple #[]) ∧ (Ln lg b (l ++ nmL L) w' ∧ Below b w w') ∧ Oth b w w' := by
  go_enter Tryz.func70, Tryz.ntmps70
  go_wp2
  go_loopg [8] m (fun gk i wr => ∃ j : Nat, j + gk = m ∧ i = .int .i64 (j : Int) ∧ wr.heap[k]? = some (.cells (intC L).toArray 3 (0, 0)) ∧ Hid (Ln lg b (l ++ nmL (L.take j)) wr ∧ Below b w wr ∧ Oth b w wr ∧ ITab wr))
  case atStart => exact ⟨0, by omega, rfl, hk, by simpa [nmL] using h, Below.refl _ _, Oth.refl _ _, ht⟩
  case round =>
    obtain ⟨j, hj, rfl, hk1, HI⟩ := hrel
    by_cases hlt : j < m
    · have hltI : (j : Int) < (m : Int) := by omega
      obtain ⟨n, hn⟩ : ∃ n, L[j]? = some n := ⟨_, List.getElem?_eq_getElem (by omega)⟩
      have hni := hL n (List.mem_of_getElem? hn)
      have c1 : wr.cell? ⟨k, j, none⟩ = some (.int .i64 n) := by
        rw [Lib.cell_of_heap hk1]
        simp [intC, hn]
      have hll := nmL_len (L.take j) fun n hn => hL n (List.mem_of_mem_take hn)
      rw [List.length_take] at hll
      have hil := itoa_len n hni.1 hni.2
      have hst := nmL_take L j n hn
      have h1 := numberWord_any n hni wr HI.out.2.2.2
      clear hn
      go_wp2_with (go_at_call 112; refine h1.mono ?_; rintro e w1 ⟨rfl, hb1⟩; clear h1)
      have h2 := word_any lg b (l ++ nmL (L.take j)) (str (itoa n)) w1 (HI.out.1.below hb1) (by rw [List.length_append, str_size]; omega)
      rw [str_data, List.append_assoc, ← hst] at h2
      have hk2 := (hb1.block _ (Array.getElem?_eq_some_iff.1 hk1).1).trans hk1
      go_wp2_with (go_at_call 67; refine h2.mono ?_; rintro e w2 ⟨rfl, ⟨hu2, hb2⟩, ho2⟩; clear h2)
      have hk3 := ho2.cells hkb (by decide) hk2
      have hbw := HI.out.2.1.trans ((hb1.mono (Nat.le_of_lt HI.out.1.lt)).trans hb2)
      have HJ : Hid (Ln lg b (l ++ nmL (L.take (j + 1))) w2 ∧ Below b w w2 ∧ Oth b w w2 ∧ ITab w2) :=
        ⟨hu2, hbw, HI.out.2.2.1.trans ((Oth.below hb1).trans ho2), ht.below hbw hg⟩
      clear hu2 hb2 ho2 hk2 hb1 hk1 HI hbw c1
      go_wp2
      go_roundg (gk - 1)
      case measure => omega
      case rel => exact ⟨j + 1, by omega, by go_num, hk3, HJ⟩
    · obtain rfl : j = m := by omega
      have hltI : ¬ (j : Int) < (j : Int) := by omega
      rw [List.take_of_length_le (by omega)] at HI
      go_wp2
      go_end0
      exact ⟨rfl, ⟨HI.out.1, HI.out.2.1⟩, HI.out.2.2.1⟩
end Go.Proofs.YtlmopjbfagijeaaGreatDoor.Sc

namespace Go.Proofs.YtlmopjbfagijeaaGreatDoor.Sc
open Go.RowKit Go.Lib

/-- a byte word -/
def byL (s : ByteArray) : List UInt8 := 61 :: wrL s.data.toList
theorem byL_len (s : ByteArray) : (byL s).length ≤ 1 + 3 * s.size := by
  have := wrL_len s.data.toList
  rw [← size_eq] at this
  simp only [byL, List.length_cons]
  omega
end Go.Proofs.YtlmopjbfagijeaaGreatDoor.Sc
