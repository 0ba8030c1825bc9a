import Derived.Test.YtcochbcaillldaaGreatDoorBaseM
import Derived.Laws.AppendOwnNone
import Derived.OwnWalk
import Derived.BigQuiet
import Derived.Deep.RegionHeldLaw
namespace Go.Proofs.YtcochbcaillldaaGreatDoor.Sq
open Go.RowKit Go.Lib Go.Deep

theorem some_lt {α : Type _} {l : List α} {i : Nat} {x : α} (h : l[i]? = some x) : i < l.length := (List.getElem?_eq_some_iff.1 h).1
theorem owns_keep {W W' : World} {B e n size : Nat} {v : Value} {xs : List Value} (h : W.ownsRow B e size v n xs) (hk : ∀ g, v.ownBlock = some g → W'.heap[g]? = W.heap[g]?) : W'.ownsRow B e size v n xs := by
  obtain ⟨q0, q⟩ := h
  refine ⟨q0, ?_⟩
  rcases q with q | ⟨g1, cap1, cur1, q1, q2, q3, q4⟩
  · exact .inl q
  · exact .inr ⟨g1, cap1, cur1, q1, q2, (hk g1 (by rw [q1]; rfl)).trans q3, q4⟩
theorem owns_below {W W' : World} {e n size : Nat} {v : Value} {xs : List Value} {B : Nat} (h : W.ownsRow B e size v n xs) (hb : Below W.heap.size W W') : W'.ownsRow B e size v n xs := owns_keep h fun g hg => hb.block g (h.lt g hg).2
theorem owns_base {W : World} {e n size : Nat} {v : Value} {xs : List Value} {B B' : Nat} (h : W.ownsRow B e size v n xs) (hB : B' ≤ B) : W.ownsRow B' e size v n xs := by
  obtain ⟨q0, q⟩ := h
  refine ⟨q0, ?_⟩
  rcases q with q | ⟨g1, cap1, cur1, q1, q2, q3⟩
  · exact .inl q
  · exact .inr ⟨g1, cap1, cur1, q1, Nat.le_trans hB q2, q3⟩
theorem owns_block {w : World} {B n size e k : Nat} {v : Value} {xs : List Value} (h : w.ownsRow B e size v n xs) (hv : v.ownBlock = some k) : ∃ cur, w.heap[k]? = some (.cells cur e (0, 0)) := by
  rcases h.2 with ⟨q1, _⟩ | ⟨g1, cap1, cur1, q1, q2, q3, q4⟩
  · rw [q1] at hv; cases hv
  · rw [q1] at hv
    simp [Value.ownBlock] at hv
    subst hv
    exact ⟨cur1, q3⟩
theorem owns_form {w : World} {B ty sz n : Nat} {v : Value} {xs : List Value} (h : w.ownsRow B ty sz v n xs) : ∃ a cap, v = .slice a n cap := by
  rcases h.2 with ⟨h1, h2⟩ | ⟨g, cap, cur, h1, _⟩
  · exact ⟨none, 0, by rw [h2]; exact h1⟩
  · exact ⟨_, cap, h1⟩
theorem owns_form2 {w : World} {B ty sz n : Nat} {v : Value} {xs : List Value} (h : w.ownsRow B ty sz v n xs) (hn : 0 < n) : ∃ g cap, v = .slice (some ⟨g, 0, none⟩) n cap := by
  rcases h.2 with ⟨h1, h2⟩ | ⟨g, cap, cur, h1, _⟩
  · omega
  · exact ⟨g, cap, h1⟩
theorem only_below {S : List Nat} {a w w' : World} (h : Only S a w) (hb : Below w.heap.size w w') : Only S a w' := h.trans ⟨hb.os, hb.tape, hb.output, hb.size, fun k hk _ => hb.block k hk⟩
theorem only_grown {S : List Nat} {a w w' : World} {row : Option Nat} (h : Only S a w) (hg : w.grownBy w' row) (hr : ∀ k, row = some k → k ∈ S ∨ a.heap.size ≤ k) : Only S a w' :=
  ⟨hg.os.trans h.os, hg.tape.trans h.tape, hg.output.trans h.output, Nat.le_trans h.size hg.size, fun k hk hS => (hg.block k (Nat.lt_of_lt_of_le hk h.size) (fun e => by
    rcases hr k e.symm with h1 | h1
    · exact hS h1
    · omega)).trans (h.block k hk hS)⟩
theorem only_set {w : World} {b j : Nat} (v : Value) : Only [b] w (w.setCell ⟨b, j, none⟩ v) := ⟨rfl, rfl, rfl, by simp, fun k _ hn => heap_setCell_other _ _ _ _ (fun e => hn (by simp [e]))⟩
theorem bdr {w W : World} {B : Nat} (h : Below B w W) (k : Nat) : Below B w (W.drewN k) := ⟨h.os, h.tape, h.output, h.size, h.block⟩

theorem flat_len {α : Type} (f : α → List Value) (k : Nat) (hf : ∀ a, (f a).length = k) : ∀ l : List α, (l.flatMap f).length = l.length * k
  | [] => by simp
  | a :: l => by rw [List.flatMap_cons, List.length_append, hf, flat_len f k hf l, List.length_cons, Nat.add_mul]; omega
theorem flat_get {α : Type} (f : α → List Value) (k : Nat) (hf : ∀ a, (f a).length = k) : ∀ (l : List α) (i : Nat) (a : α), l[i]? = some a → ∀ j, j < k → (l.flatMap f)[i * k + j]? = (f a)[j]?
  | [], i, a, h, j, hj => by cases h
  | b :: l, 0, a, h, j, hj => by
    simp only [List.getElem?_cons_zero, Option.some.injEq] at h
    subst h
    rw [Nat.zero_mul, Nat.zero_add, List.flatMap_cons, List.getElem?_append_left (by rw [hf]; exact hj)]
  | b :: l, i + 1, a, h, j, hj => by
    rw [List.getElem?_cons_succ] at h
    rw [List.flatMap_cons, List.getElem?_append_right (by rw [hf, Nat.add_mul]; omega), hf, show (i + 1) * k + j - k = i * k + j by rw [Nat.add_mul]; omega]
    exact flat_get f k hf l i a h j hj
theorem flat_set {α : Type} (f : α → List Value) (k : Nat) (hf : ∀ a, (f a).length = k) : ∀ (l : List α) (i : Nat) (a b : α), l[i]? = some a → ∀ (j : Nat) (v : Value), j < k → f b = (f a).set j v → (l.flatMap f).set (i * k + j) v = (l.set i b).flatMap f
  | [], i, a, b, h, j, v, hj, e => by cases h
  | c :: l, 0, a, b, h, j, v, hj, e => by
    simp only [List.getElem?_cons_zero, Option.some.injEq] at h
    subst h
    rw [Nat.zero_mul, Nat.zero_add, List.flatMap_cons, List.set_append_left _ _ (by rw [hf]; exact hj), ← e, List.set_cons_zero, List.flatMap_cons]
  | c :: l, i + 1, a, b, h, j, v, hj, e => by
    rw [List.getElem?_cons_succ] at h
    rw [List.flatMap_cons, List.set_append_right _ _ (by rw [hf, Nat.add_mul]; omega), hf, show (i + 1) * k + j - k = i * k + j by rw [Nat.add_mul]; omega, List.set_cons_succ, List.flatMap_cons, flat_set f k hf l i a b h j v hj e]
theorem two_new (w : World) (A B : Array Value) (s t : TypeId) : ∃ W, (w.alloc (.cells A s)).alloc (.cells B t) = W ∧ Below w.heap.size w W ∧ W.heap[w.heap.size]? = some (.cells A s (0, 0)) ∧ W.heap[w.heap.size + 1]? = some (.cells B t (0, 0)) := by
  have hb1 : Below w.heap.size w (w.alloc (.cells A s)) := (Below.refl _ _).alloc (Nat.le_refl _) _
  refine ⟨_, rfl, hb1.alloc hb1.size _, (Below.heap_alloc _ _ _ (by simp)).trans (heap_new w _), ?_⟩
  have := heap_new (w.alloc (.cells A s)) (.cells B t)
  rw [show (w.alloc (.cells A s)).heap.size = w.heap.size + 1 by simp] at this
  exact this
theorem one_new (w : World) (A : Array Value) (s : TypeId) : ∃ W, w.alloc (.cells A s) = W ∧ Below w.heap.size w W ∧ W.heap[w.heap.size]? = some (.cells A s (0, 0)) := ⟨_, rfl, (Below.refl _ _).alloc (Nat.le_refl _) _, heap_new w _⟩
theorem info_parts {P : Program} {e : TypeId} {z : Value} {s b : Nat} (h : (P.info? e).map (fun i => (i.zero, i.size, i.bytes)) = some (some z, s, b)) : ∃ i0, P.info? e = some i0 ∧ i0.zero = some z ∧ i0.size = s ∧ i0.bytes = b := by
  cases hq : P.info? e with
  | none => rw [hq] at h; cases h
  | some i =>
    rw [hq] at h
    simp at h
    exact ⟨i, rfl, h.1, h.2.1, h.2.2⟩
theorem wpList_append_run {P : Program} {ops : Array Oper} {rest : List Oper} {o : Oper} {a : Act} {w : World} {Q : Exit → Act → World → Prop} (hgd : o.guard = none) (s x : Operand) (t u : TypeId)
    (ho : o.op = .call { callee := .builtin .append, args := #[s, x], argTypes := #[t, u] }) (v x' v' : Value) (w' : World) (hs : a.eval s = v) (hx : a.eval x = x')
    (hr : ∀ ty, (Builtin.append_ #[t, u] ty #[v, x']).run P w = .ok v' w') (h : wpList P ops Q rest (a.put o.dst v') w') : wpList P ops Q (o :: rest) a w := by
  refine wpList_plain hgd fun K hK => ?_
  unfold Oper.wp execOp
  simp only [ho, resolve, invoke, builtin, Sem.run_bind, Sem.run_pure, Result.andThen_ok, List.map_toArray, List.map_cons, List.map_nil, hs, hx, hr]
  exact hK _ _ h

/-- cells that can be read, n elements of sz cells -/
def See (w : World) (sz : Nat) (v : Value) (n : Nat) (xs : List Value) : Prop :=
  xs.length = n * sz ∧ (∀ u ∈ xs, u.oneCell' = true) ∧ ∃ a c, v = .slice a n c ∧ n ≤ c ∧ (a = none → c = 0) ∧ (0 < n → ∃ b off, a = some ⟨b, off, none⟩ ∧ b < w.heap.size ∧ ∀ (j : Nat) u, xs[j]? = some u → w.cell? ⟨b, off + j, none⟩ = some u)
theorem See.below {w w' : World} {sz n : Nat} {v : Value} {xs : List Value} (h : See w sz v n xs) (hb : Below w.heap.size w w') : See w' sz v n xs := by
  obtain ⟨h0, h5, a, c, h1, h2, h3, h4⟩ := h
  refine ⟨h0, h5, a, c, h1, h2, h3, fun hn => ?_⟩
  obtain ⟨b, off, e, hlt, hc⟩ := h4 hn
  exact ⟨b, off, e, Nat.lt_of_lt_of_le hlt hb.size, fun j u hu => (hb.cell (p := ⟨b, off + j, none⟩) hlt).trans (hc j u hu)⟩
theorem See.form {w : World} {sz n : Nat} {v : Value} {xs : List Value} (h : See w sz v n xs) : ∃ a c, v = .slice a n c := by
  obtain ⟨h0, h5, a, c, h1, _⟩ := h
  exact ⟨a, c, h1⟩
theorem see_own {w : World} {B sz n e : Nat} {v : Value} {xs : List Value} (h : w.ownsRow B e sz v n xs) (h1 : ∀ u ∈ xs, u.oneCell' = true) : See w sz v n xs := by
  refine ⟨h.1, h1, ?_⟩
  rcases h.2 with ⟨q1, q2⟩ | ⟨g, cap, cur, q1, q2, q3, q4, q5, q6, q7⟩
  · exact ⟨none, 0, by rw [q2]; exact q1, by omega, fun _ => rfl, fun h => by omega⟩
  · refine ⟨_, cap, q1, q4, fun e => (by cases e), fun _ => ⟨g, 0, rfl, heap_lt q3, fun j u hu => ?_⟩⟩
    have hj := (List.getElem?_eq_some_iff.1 hu).1
    rw [← q7, List.getElem?_take] at hu
    split at hu
    · rw [Array.getElem?_toList] at hu
      rw [Nat.zero_add, cell_of_heap q3]
      exact hu
    · cases hu
set_option maxRecDepth 20000 in
/-- a list that can be read is appended to a row of the call's own -/
theorem wpList_app {w : World} {ops : Array Oper} {rest : List Oper} {o : Oper} {a : Act} {Q : Exit → Act → World → Prop} (hgd : o.guard = none) (s x : Operand) (t e : TypeId)
    (ho : o.op = .call { callee := .builtin .append, args := #[s, x], argTypes := #[t, t] }) (z : Value) (sz by_ : Nat) (ht : Tryz.prog.underlying t = some (.slice e)) (hinf : (Tryz.prog.info? e).map (fun i => (i.zero, i.size, i.bytes)) = some (some z, sz, by_)) (hzs : z.cells.size = sz) (hsz : 0 < sz)
    (B : Nat) (v xv : Value) (nA nL : Nat) (A L : List Value) (hs : a.eval s = v) (hown : w.ownsRow B e sz v nA A) (hx : a.eval x = xv) (hL : See w sz xv nL L) (h63 : nA + nL ≤ maxLen) (hb : (nA + nL) * by_ ≤ 140737488355328) (hB : B ≤ w.heap.size)
    (h : ∀ v' w', w'.ownsRow B e sz v' (nA + nL) (A ++ L) → w.grownBy w' v.ownBlock → wpList Tryz.prog ops Q rest (a.put o.dst v') w') : wpList Tryz.prog ops Q (o :: rest) a w := by
  obtain ⟨i0, hi, hz0, hz1, hz2⟩ := info_parts hinf
  obtain ⟨hlen, hone, ad, c, rfl, hc, hnil, hcell⟩ := hL
  cases ad with
  | none =>
    obtain rfl := hnil rfl
    obtain rfl : nL = 0 := by omega
    obtain rfl : L = [] := List.eq_nil_of_length_eq_zero (by rw [hlen]; omega)
    refine wpList_append_own_none hgd s x t ho B e i0 sz ht hi v nA A hs hown hx ?_
    exact h v w (by rw [List.append_nil]; exact hown) ⟨rfl, rfl, rfl, Nat.le_refl _, fun _ _ _ => rfl⟩
  | some ad =>
    refine wpList_append_own w hgd s x t ho B e i0 z sz by_ ht hi hz0 hz1 hz2 hzs hsz v nA A hs hown ad nL c L hx hlen
      (fun j u hu => ?_) hone h63 hb hB (fun v' w' ho' hg _ => h v' w' ho' hg)
    have hn : 0 < nL := by
      have := (List.getElem?_eq_some_iff.1 hu).1
      rw [hlen] at this
      rcases Nat.eq_zero_or_pos nL with h0 | h0
      · rw [h0] at this; omega
      · exact h0
    obtain ⟨b, off, e, _, hcc⟩ := hcell hn
    injection e with e
    subst e
    rw [Addr.add_lit]
    exact hcc j u hu
theorem grown_base {w w' : World} {B : Nat} {v : Value} {e : TypeId} {size n : Nat} {xs : List Value} (h : w.grownBy w' v.ownBlock) (hB : B ≤ w.heap.size) (ho : w.ownsRow B e size v n xs) : Below B w w' := grown_below h hB ho

theorem see_nil (W : World) (sz : Nat) : See W sz (.slice none 0 0) 0 [] := by
  refine ⟨by simp, fun u hu => (by cases hu), none, 0, rfl, Nat.le_refl _, fun _ => rfl, fun h => ?_⟩
  exact absurd h (by decide)
/-- a list that came in, as it can be read -/
theorem see_in {W : World} {x : Addr} {len cap sz : Nat} {xs : List Value} (hs : 0 < sz) (hl : len ≤ cap) (hx : xs.length = len * sz) (h1 : ∀ u ∈ xs, u.oneCell' = true) (hc : ∀ (j : Nat) u, xs[j]? = some u → W.cell? (x.add j) = some u) : See W sz (.slice (some x) len cap) len xs := by
  refine ⟨hx, h1, _, _, rfl, hl, fun e => (by cases e), fun hn => ?_⟩
  obtain ⟨b, off, spot⟩ := x
  have hlt : 0 < xs.length := by rw [hx]; exact Nat.mul_pos hn hs
  have h0 := hc 0 _ (List.getElem?_eq_getElem hlt)
  have hspot : spot = none := by simpa [Addr.add] using World.cell?_spot h0
  subst hspot
  rw [Addr.add_lit] at h0
  refine ⟨b, off, rfl, block_lt_of_cell h0, fun j u hu => ?_⟩
  have := hc j u hu
  rw [Addr.add_lit] at this
  exact this
theorem see_take {w : World} {B e sz n cap : Nat} {A L : List Value} {g : Nat} (h : w.ownsRow B e sz (.slice (some ⟨g, 0, none⟩) (n + 1) cap) (n + 1) (A ++ L)) (hA : A.length = n * sz) (h1 : ∀ u ∈ A, u.oneCell' = true) : See w sz (.slice (some ⟨g, 0, none⟩) n cap) n A := by
  have hs := h.2
  rcases hs with ⟨q1, -⟩ | ⟨g', cap', cur, q1, q2, q3, q4, q5, q6, q7⟩
  · cases q1
  · injection q1 with e1 _ e3
    injection e1 with e1
    injection e1 with e1
    subst e1 e3
    refine ⟨hA, h1, _, _, rfl, by omega, fun e => (by cases e), fun _ => ⟨_, _, rfl, heap_lt q3, fun j u hu => ?_⟩⟩
    have hu2 : (A ++ L)[j]? = some u := by rw [List.getElem?_append_left (some_lt hu)]; exact hu
    rw [← q7, List.getElem?_take] at hu2
    split at hu2
    · rw [Array.getElem?_toList] at hu2
      rw [Nat.zero_add, cell_of_heap q3]
      exact hu2
    · cases hu2
theorem own_cap {w : World} {B e sz n cap g : Nat} {xs : List Value} (h : w.ownsRow B e sz (.slice (some ⟨g, 0, none⟩) n cap) n xs) : n ≤ cap := by
  rcases h.2 with ⟨q1, -⟩ | ⟨g', cap', cur, q1, q2, q3, q4, q5, q6, q7⟩
  · cases q1
  · injection q1 with _ _ e3
    omega
/-- one element, built for an append -/
theorem see_one {wr : World} {A : Array Value} {t : TypeId} {sz : Nat} (h : A.toList.length = sz) (h1 : ∀ u ∈ A.toList, u.oneCell' = true) : See (wr.alloc (.cells A t)) sz (.slice (some ⟨wr.heap.size, 0, none⟩) 1 1) 1 A.toList := by
  refine ⟨by omega, h1, _, 1, rfl, Nat.le_refl _, fun e => (by cases e), fun _ => ⟨_, _, rfl, heap_lt (heap_new wr _), fun j u hu => ?_⟩⟩
  rw [Nat.zero_add, cell_of_heap (heap_new wr _)]
  rw [Array.getElem?_toList] at hu
  exact hu
theorem bdN (w : World) (n : Nat) : Below w.heap.size w (w.drewN n) := ⟨rfl, rfl, rfl, Nat.le_refl _, fun _ _ => rfl⟩
theorem str_app (a b : List UInt8) : str a ++ str b = str (a ++ b) := by
  apply ByteArray.ext
  apply Array.ext'
  rw [ByteArray.data_append, Array.toList_append, str_data, str_data, str_data]

def zsC (l : List Int) : List Value := l.map fun (z : Int) => Value.int .i64 z
def scC (l : List ByteArray) : List Value := l.map Value.string
theorem zs_one (l : List Int) : ∀ u ∈ zsC l, u.oneCell' = true := fun u hu => by
  obtain ⟨s, _, rfl⟩ := List.mem_map.1 hu
  rfl
theorem sc_one (l : List ByteArray) : ∀ u ∈ scC l, u.oneCell' = true := fun u hu => by
  obtain ⟨s, _, rfl⟩ := List.mem_map.1 hu
  rfl
theorem bytes_one (l : List UInt8) : ∀ u ∈ Lib.byteCells l, u.oneCell' = true := fun u hu => by
  obtain ⟨s, _, rfl⟩ := List.mem_map.1 hu
  rfl
/-- the cells of one row of a list that can be read -/
theorem See.row {w : World} {a : Option Addr} {n c sz : Nat} {α : Type} {f : α → List Value} {A : List α} (h : See w sz (.slice a n c) n (A.flatMap f)) (hf : ∀ x, (f x).length = sz) (hs : 0 < sz) {i : Nat} {x : α} (hi : A[i]? = some x) : ∃ b off, a = some ⟨b, off, none⟩ ∧ b < w.heap.size ∧ ∀ j u, (f x)[j]? = some u → w.cell? ⟨b, off + i * sz + j, none⟩ = some u := by
  obtain ⟨h0, _, a', c', h1, h2, h3, h4⟩ := h
  injection h1 with e1 _ e2
  subst e1 e2
  have hl := some_lt hi
  rw [flat_len f sz hf] at h0
  have hn : A.length = n := Nat.eq_of_mul_eq_mul_right hs h0
  obtain ⟨b, off, e, hlt, hc⟩ := h4 (by omega)
  refine ⟨b, off, e, hlt, fun j u hu => ?_⟩
  have hj := some_lt hu
  rw [hf] at hj
  have := hc (i * sz + j) u (by rw [flat_get f sz hf A i x hi j hj]; exact hu)
  rwa [← Nat.add_assoc] at this
theorem See.z {w : World} {a : Option Addr} {n c : Nat} {A : List Int} (h : See w 1 (.slice a n c) n (zsC A)) {i : Nat} {z : Int} (hi : A[i]? = some z) : ∃ b off, a = some ⟨b, off, none⟩ ∧ b < w.heap.size ∧ w.cell? ⟨b, off + i, none⟩ = some (.int .i64 z) := by
  obtain ⟨h0, _, a', c', h1, h2, h3, h4⟩ := h
  injection h1 with e1 _ e2
  subst e1 e2
  have hl := some_lt hi
  simp [zsC] at h0
  obtain ⟨b, off, e, hlt, hc⟩ := h4 (by omega)
  exact ⟨b, off, e, hlt, hc i _ (by unfold zsC; rw [List.getElem?_map, hi]; rfl)⟩
theorem See.s {w : World} {a : Option Addr} {n c : Nat} {A : List ByteArray} (h : See w 1 (.slice a n c) n (scC A)) {i : Nat} {z : ByteArray} (hi : A[i]? = some z) : ∃ b off, a = some ⟨b, off, none⟩ ∧ b < w.heap.size ∧ w.cell? ⟨b, off + i, none⟩ = some (.string z) := by
  obtain ⟨h0, _, a', c', h1, h2, h3, h4⟩ := h
  injection h1 with e1 _ e2
  subst e1 e2
  have hl := some_lt hi
  simp [scC] at h0
  obtain ⟨b, off, e, hlt, hc⟩ := h4 (by omega)
  exact ⟨b, off, e, hlt, hc i _ (by unfold scC; rw [List.getElem?_map, hi]; rfl)⟩
end Go.Proofs.YtcochbcaillldaaGreatDoor.Sq
