import Derived.Test.YthmjjpaengackaaPoB
import Derived.Test.YthmjjpaengackaaResB
import Derived.Maps.OwnSet
import Derived.Maps.Ext
import Derived.Maps.AppendAt
import Derived.Deep.RegionHeldLaw
namespace Go.Proofs.Ythmjjpaengackaa.Po
open Go.RowKit Go.Lib Go.Deep

theorem owns_keep {W W' : World} {B e n size : Nat} {v : Value} {xs : List Value} (h : W.ownsRow B e size v n xs) (hk : ∀ g, v.ownBlock = some g → W'.heap[g]? = W.heap[g]?) : W'.ownsRow B e size v n xs := by
  obtain ⟨q0, q⟩ := h
  refine ⟨q0, ?_⟩
  rcases q with q | ⟨g1, cap1, cur1, q1, q2, q3, q4⟩
  · exact .inl q
  · exact .inr ⟨g1, cap1, cur1, q1, q2, (hk g1 (by rw [q1]; rfl)).trans q3, q4⟩
theorem owns_below {W W' : World} {e n size : Nat} {v : Value} {xs : List Value} {B : Nat} (h : W.ownsRow B e size v n xs) (hb : Below W.heap.size W W') : W'.ownsRow B e size v n xs := owns_keep h fun g hg => hb.block g (h.lt g hg).2
theorem owns_base {W : World} {e n size : Nat} {v : Value} {xs : List Value} {B B' : Nat} (h : W.ownsRow B e size v n xs) (hB : B' ≤ B) : W.ownsRow B' e size v n xs := by
  obtain ⟨q0, q⟩ := h
  refine ⟨q0, ?_⟩
  rcases q with q | ⟨g1, cap1, cur1, q1, q2, q3⟩
  · exact .inl q
  · exact .inr ⟨g1, cap1, cur1, q1, Nat.le_trans hB q2, q3⟩
theorem owns_block {w : World} {B n size e k : Nat} {v : Value} {xs : List Value} (h : w.ownsRow B e size v n xs) (hv : v.ownBlock = some k) : ∃ cur, w.heap[k]? = some (.cells cur e (0, 0)) := by
  rcases h.2 with ⟨q1, _⟩ | ⟨g1, cap1, cur1, q1, q2, q3, q4⟩
  · rw [q1] at hv; cases hv
  · rw [q1] at hv
    simp [Value.ownBlock] at hv
    subst hv
    exact ⟨cur1, q3⟩
theorem owns_form {w : World} {B ty sz n : Nat} {v : Value} {xs : List Value} (h : w.ownsRow B ty sz v n xs) : ∃ a cap, v = .slice a n cap := by
  rcases h.2 with ⟨h1, h2⟩ | ⟨g, cap, cur, h1, _⟩
  · exact ⟨none, 0, by rw [h2]; exact h1⟩
  · exact ⟨_, cap, h1⟩
theorem owns_form2 {w : World} {B ty sz n : Nat} {v : Value} {xs : List Value} (h : w.ownsRow B ty sz v n xs) (hn : 0 < n) : ∃ g cap, v = .slice (some ⟨g, 0, none⟩) n cap := by
  rcases h.2 with ⟨h1, h2⟩ | ⟨g, cap, cur, h1, _⟩
  · omega
  · exact ⟨g, cap, h1⟩
theorem map_keep {W W' : World} {P : Program} {k : TypeId} {R : Value → Option (DataW Unit × List MemPlace)} {b n : Nat} {D : DataW Unit} (h : W.ownsMap P k R b n D) (hk : W'.heap[b]? = W.heap[b]?) : W'.ownsMap P k R b n D := by
  obtain ⟨es, clock, h1, h2⟩ := h
  exact ⟨es, clock, hk.trans h1, h2⟩
theorem map_block {W : World} {P : Program} {k : TypeId} {R : Value → Option (DataW Unit × List MemPlace)} {b n : Nat} {D : DataW Unit} (h : W.ownsMap P k R b n D) : ∃ es clock, W.heap[b]? = some (.map es clock) := by
  obtain ⟨es, clock, h1, _⟩ := h
  exact ⟨es, clock, h1⟩
theorem only_below {S : List Nat} {a w w' : World} (h : Only S a w) (hb : Below w.heap.size w w') : Only S a w' := h.trans ⟨hb.os, hb.tape, hb.output, hb.size, fun k hk _ => hb.block k hk⟩
theorem only_grown {S : List Nat} {a w w' : World} {row : Option Nat} (h : Only S a w) (hg : w.grownBy w' row) (hr : ∀ k, row = some k → k ∈ S ∨ a.heap.size ≤ k) : Only S a w' :=
  ⟨hg.os.trans h.os, hg.tape.trans h.tape, hg.output.trans h.output, Nat.le_trans h.size hg.size, fun k hk hS => (hg.block k (Nat.lt_of_lt_of_le hk h.size) (fun e => by
    rcases hr k e.symm with h1 | h1
    · exact hS h1
    · omega)).trans (h.block k hk hS)⟩
theorem only_set {w : World} {b j : Nat} (v : Value) : Only [b] w (w.setCell ⟨b, j, none⟩ v) := ⟨rfl, rfl, rfl, by simp, fun k _ hn => heap_setCell_other _ _ _ _ (fun e => hn (by simp [e]))⟩
theorem bdr {w W : World} {B : Nat} (h : Below B w W) (k : Nat) : Below B w (W.drewN k) := ⟨h.os, h.tape, h.output, h.size, h.block⟩

/-! rows of equal width -/
theorem flat_len {α : Type} (f : α → List Value) (k : Nat) (hf : ∀ a, (f a).length = k) : ∀ l : List α, (l.flatMap f).length = l.length * k
  | [] => by simp
  | a :: l => by rw [List.flatMap_cons, List.length_append, hf, flat_len f k hf l, List.length_cons, Nat.add_mul]; omega
theorem flat_get {α : Type} (f : α → List Value) (k : Nat) (hf : ∀ a, (f a).length = k) : ∀ (l : List α) (i : Nat) (a : α), l[i]? = some a → ∀ j, j < k → (l.flatMap f)[i * k + j]? = (f a)[j]?
  | [], i, a, h, j, hj => by cases h
  | b :: l, 0, a, h, j, hj => by
    simp only [List.getElem?_cons_zero, Option.some.injEq] at h
    subst h
    rw [Nat.zero_mul, Nat.zero_add, List.flatMap_cons, List.getElem?_append_left (by rw [hf]; exact hj)]
  | b :: l, i + 1, a, h, j, hj => by
    rw [List.getElem?_cons_succ] at h
    rw [List.flatMap_cons, List.getElem?_append_right (by rw [hf, Nat.add_mul]; omega), hf, show (i + 1) * k + j - k = i * k + j by rw [Nat.add_mul]; omega]
    exact flat_get f k hf l i a h j hj
theorem flat_set {α : Type} (f : α → List Value) (k : Nat) (hf : ∀ a, (f a).length = k) : ∀ (l : List α) (i : Nat) (a b : α), l[i]? = some a → ∀ (j : Nat) (v : Value), j < k → f b = (f a).set j v → (l.flatMap f).set (i * k + j) v = (l.set i b).flatMap f
  | [], i, a, b, h, j, v, hj, e => by cases h
  | c :: l, 0, a, b, h, j, v, hj, e => by
    simp only [List.getElem?_cons_zero, Option.some.injEq] at h
    subst h
    rw [Nat.zero_mul, Nat.zero_add, List.flatMap_cons, List.set_append_left _ _ (by rw [hf]; exact hj), ← e, List.set_cons_zero, List.flatMap_cons]
  | c :: l, i + 1, a, b, h, j, v, hj, e => by
    rw [List.getElem?_cons_succ] at h
    rw [List.flatMap_cons, List.set_append_right _ _ (by rw [hf, Nat.add_mul]; omega), hf, show (i + 1) * k + j - k = i * k + j by rw [Nat.add_mul]; omega, List.set_cons_succ, List.flatMap_cons, flat_set f k hf l i a b h j v hj e]
def obC (o : Ob) : List Value := [.string o.nm, .string o.tg, .int .i64 o.bk, .int .i64 o.ow]
def obV (o : Ob) : Value := .agg #[.string o.nm, .string o.tg, .int .i64 o.bk, .int .i64 o.ow]
def obsC (l : List Ob) : List Value := l.flatMap obC
def rwC (r : Ob × Bool) : List Value := [.string r.1.nm, .string r.1.tg, .int .i64 r.1.bk, .int .i64 r.1.ow, .bool r.2]
def rwsC (l : List (Ob × Bool)) : List Value := l.flatMap rwC
def rowsL (S : Ps) : List (Ob × Bool) := S.R.mapIdx fun i o => (o, decide (i ∈ S.Q))
theorem rowsL_len (S : Ps) : (rowsL S).length = S.R.length := by simp [rowsL]
theorem rowsL_get (S : Ps) (i : Nat) : (rowsL S)[i]? = (S.R[i]?).map fun o => (o, decide (i ∈ S.Q)) := by simp [rowsL]
theorem rowsL_put (S : Ps) (i : Nat) (o : Ob) : rowsL (putP S i o) = (rowsL S).set i (o, decide (i ∈ S.Q)) := by
  apply List.ext_getElem?
  intro j
  rw [rowsL_get, List.getElem?_set]
  show ((S.R.set i o)[j]?).map _ = _
  rw [List.getElem?_set, rowsL_len]
  by_cases e : i = j
  · subst e
    by_cases h : i < S.R.length
    · rw [if_pos rfl, if_pos h, if_pos rfl, if_pos h]; rfl
    · rw [if_pos rfl, if_neg h, if_pos rfl, if_neg h]; rfl
  · rw [if_neg e, if_neg e, rowsL_get]; rfl
theorem rowsL_q (S : Ps) (Q : List Nat) (i : Nat) (b : Bool) (h : ∀ j, decide (j ∈ Q) = if j = i then b else decide (j ∈ S.Q)) {o : Ob} (hi : S.R[i]? = some o) : rowsL ⟨S.fl, S.R, Q⟩ = (rowsL S).set i (o, b) := by
  apply List.ext_getElem?
  intro j
  rw [rowsL_get, List.getElem?_set, rowsL_len]
  show (S.R[j]?).map (fun o => (o, decide (j ∈ Q))) = _
  by_cases e : i = j
  · subst e
    rw [if_pos rfl, if_pos (some_lt hi), hi, h i, if_pos rfl]; rfl
  · rw [if_neg e, rowsL_get, h j, if_neg (fun x => e x.symm)]

/-! maps -/
noncomputable abbrev intR : Value → Option (DataW Unit × List MemPlace) := plainElem Try.prog 3
def natD (n : Nat) : DataW Unit := .lit (.int .i64 (n : Int))
structure Tab {K : Type} (lit : K → Lit) (D : DataW Unit) (f : K → Option Nat) : Prop where
  isMap : Maps.IsMap D
  has : ∀ k, Maps.has D (lit k) = (f k).isSome
  at_ : ∀ k b, f k = some b → ∀ z, D.atKey (lit k) z = natD b
theorem tab_nil {K : Type} (lit : K → Lit) : Tab lit (.map []) (fun _ => none) := ⟨Maps.isMap_empty, fun _ => rfl, fun _ _ h => by cases h⟩
theorem Tab.put {K : Type} [DecidableEq K] {lit : K → Lit} (inj : ∀ a b, lit a = lit b → a = b) (kl : ∀ a, WideAt.IsKeyLit (lit a)) {D : DataW Unit} {f : K → Option Nat} (h : Tab lit D f) (n : K) (b : Nat) : Tab lit (D.put (lit n) (natD b)) (fun k => if k = n then some b else f k) := by
  refine ⟨h.isMap.put _ _, fun k => ?_, fun k x hx z => ?_⟩
  · by_cases he : k = n
    · subst he
      rw [Maps.has_put_same h.isMap (kl _)]
      simp
    · rw [Maps.has_put_other (fun e => he (inj _ _ e)), h.has k]
      simp [he]
  · by_cases he : k = n
    · subst he
      simp only [if_true, Option.some.injEq] at hx
      rw [Maps.atKey_put_same h.isMap (kl _), hx]
    · rw [Maps.atKey_put_other (fun e => he (inj _ _ e))]
      simp only [if_neg he] at hx
      exact h.at_ k x hx z
theorem Tab.del {K : Type} [DecidableEq K] {lit : K → Lit} (inj : ∀ a b, lit a = lit b → a = b) {D : DataW Unit} {f : K → Option Nat} (h : Tab lit D f) (n : K) : Tab lit (D.del (lit n)) (fun k => if k = n then none else f k) := by
  refine ⟨h.isMap.del _, fun k => ?_, fun k x hx z => ?_⟩
  · by_cases he : k = n
    · subst he
      rw [Maps.has_del_same]
      simp
    · rw [Maps.has_del_other (fun e => he (inj _ _ e)), h.has k]
      simp [he]
  · by_cases he : k = n
    · subst he
      simp at hx
    · rw [Maps.atKey_del_other (fun e => he (inj _ _ e))]
      simp only [if_neg he] at hx
      exact h.at_ k x hx z
def litI (k : Int) : Lit := .int .i64 k
def litS (k : List UInt8) : Lit := .string k
theorem litI_inj (a b : Int) (h : litI a = litI b) : a = b := by unfold litI at h; injection h
theorem litS_inj (a b : List UInt8) (h : litS a = litS b) : a = b := by unfold litS at h; injection h
theorem litI_key (a : Int) : WideAt.IsKeyLit (litI a) := by simp [litI, WideAt.IsKeyLit]
theorem litS_key (a : List UInt8) : WideAt.IsKeyLit (litS a) := by simp [litS, WideAt.IsKeyLit]
theorem keyI : Maps.Keyed Try.prog 3 := Maps.int_keyed Try.underlying3
theorem keyS : Maps.Keyed Try.prog 9 := Maps.string_keyed Try.underlying9
theorem zeroInt (w : World) : (zeroValue 3).run Try.prog w = .ok (.int .i64 0) w := by kernel_rfl
theorem wf_nat {n : Nat} (h : (n : Int) ≤ 9223372036854775807) : (Lit.int .i64 (n : Int)).wf = true := by
  simp [Lit.wf, IntKind.min, IntKind.max, IntKind.signed, IntKind.bits]
  omega

/-! a state in memory -/
def stA (S : Ps) (rv : Value) (oa na : Nat) (mv : Value) (h : Nat) : Array Value := #[.int .i64 (S.fl : Int), rv, .map (some oa), .map (some na), mv, .int .i64 (h : Int), .int .i64 (S.Q.length : Int)]
def nsC (l : List Nat) : List Value := l.map fun (n : Nat) => Value.int .i64 (n : Int)
structure Inn (w : World) (q : Nat) (rv mv : Value) (oa na : Nat) (room : List Nat) (h nn : Nat) (S : Ps) : Prop where
  hq : w.heap[q]? = some (.cells (stA S rv oa na mv h) 74 (0, 0))
  hr : w.ownsRow 0 76 5 rv S.R.length (rwsC (rowsL S))
  hm : w.ownsRow 0 3 1 mv room.length (nsC room)
  ho : ∃ D f, w.ownsMap Try.prog 3 intR oa nn D ∧ Tab litI D f ∧ Is Ob.ow (-1) S.R f
  hn : ∃ D f, w.ownsMap Try.prog 9 intR na nn D ∧ Tab litS D f ∧ Is kyN [] S.R f
  ne : oa ≠ na
  rg : Rng room h S.Q
  ml : room.length ≤ 2 * S.R.length + 1
  lim : S.fl ≤ 65536 ∧ S.R.length ≤ 65600
def fp (q : Nat) (rv mv : Value) (oa na : Nat) : List Nat := q :: oa :: na :: (rv.ownBlock.toList ++ mv.ownBlock.toList)
theorem mem_fp {k q : Nat} {rv mv : Value} {oa na : Nat} : k ∈ fp q rv mv oa na ↔ k = q ∨ k = oa ∨ k = na ∨ rv.ownBlock = some k ∨ mv.ownBlock = some k := by
  unfold fp
  simp only [List.mem_cons, List.mem_append, Option.mem_toList]
def Lay (w : World) (q : Nat) (F : List Nat) (nn : Nat) (S : Ps) : Prop := ∃ rv mv oa na room h, F = fp q rv mv oa na ∧ Inn w q rv mv oa na room h nn S
def Turn (F : List Nat) (w w' : World) (q nn : Nat) (S : Ps) : Prop := Only F w w' ∧ ∃ F', Lay w' q F' nn S ∧ ∀ k, k ∈ F' → k ∈ F ∨ w.heap.size ≤ k

theorem Inn.kinds {w : World} {q : Nat} {rv mv : Value} {oa na : Nat} {room : List Nat} {h nn : Nat} {S : Ps} (hI : Inn w q rv mv oa na room h nn S) {k : Nat} (hk : k ∈ fp q rv mv oa na) :
    (∃ es clock, w.heap[k]? = some (.map es clock)) ∨ ∃ cur e, w.heap[k]? = some (.cells cur e (0, 0)) ∧ (e = 74 ∨ e = 76 ∨ e = 3) := by
  rcases mem_fp.1 hk with rfl | rfl | rfl | hv | hv
  · exact .inr ⟨_, _, hI.hq, .inl rfl⟩
  · obtain ⟨D, f, h1, _⟩ := hI.ho
    exact .inl (map_block h1)
  · obtain ⟨D, f, h1, _⟩ := hI.hn
    exact .inl (map_block h1)
  · obtain ⟨cur, hc⟩ := owns_block hI.hr hv
    exact .inr ⟨_, _, hc, .inr (.inl rfl)⟩
  · obtain ⟨cur, hc⟩ := owns_block hI.hm hv
    exact .inr ⟨_, _, hc, .inr (.inr rfl)⟩
theorem Inn.lt {w : World} {q : Nat} {rv mv : Value} {oa na : Nat} {room : List Nat} {h nn : Nat} {S : Ps} (hI : Inn w q rv mv oa na room h nn S) {k : Nat} (hk : k ∈ fp q rv mv oa na) : k < w.heap.size := by
  rcases hI.kinds hk with ⟨es, cl, h1⟩ | ⟨c', e', h1, h2⟩
  · exact (Array.getElem?_eq_some_iff.1 h1).1
  · exact (Array.getElem?_eq_some_iff.1 h1).1
theorem Inn.notin {w : World} {q : Nat} {rv mv : Value} {oa na : Nat} {room : List Nat} {h nn : Nat} {S : Ps} (hI : Inn w q rv mv oa na room h nn S) {k : Nat} {cur : Array Value} {e : TypeId} {fr : Nat × Nat} (hk : w.heap[k]? = some (.cells cur e fr))
    (he : ¬ (e = 74 ∨ e = 76 ∨ e = 3)) : k ∉ fp q rv mv oa na := fun hm => by
  rcases hI.kinds hm with ⟨es, cl, h1⟩ | ⟨c', e', h1, h2⟩
  · rw [hk] at h1; cases h1
  · rw [hk] at h1
    injection h1 with h1
    injection h1 with _ h1 _
    subst h1
    exact he h2
theorem Inn.keep {w W : World} {q : Nat} {rv mv : Value} {oa na : Nat} {room : List Nat} {h nn : Nat} {S : Ps} (hI : Inn w q rv mv oa na room h nn S) (h1 : ∀ k, k ∈ fp q rv mv oa na → W.heap[k]? = w.heap[k]?) : Inn W q rv mv oa na room h nn S := by
  refine ⟨(h1 q (mem_fp.2 (.inl rfl))).trans hI.hq, owns_keep hI.hr fun g hg => h1 g (mem_fp.2 (.inr (.inr (.inr (.inl hg))))), owns_keep hI.hm fun g hg => h1 g (mem_fp.2 (.inr (.inr (.inr (.inr hg))))), ?_, ?_, hI.ne, hI.rg, hI.ml, hI.lim⟩
  · obtain ⟨D, f, h2, h3⟩ := hI.ho
    exact ⟨D, f, map_keep h2 (h1 _ (mem_fp.2 (.inr (.inl rfl)))), h3⟩
  · obtain ⟨D, f, h2, h3⟩ := hI.hn
    exact ⟨D, f, map_keep h2 (h1 _ (mem_fp.2 (.inr (.inr (.inl rfl))))), h3⟩
theorem Inn.below {w W : World} {q : Nat} {rv mv : Value} {oa na : Nat} {room : List Nat} {h nn : Nat} {S : Ps} (hI : Inn w q rv mv oa na room h nn S) (hb : Below w.heap.size w W) : Inn W q rv mv oa na room h nn S := hI.keep fun k hk => hb.block k (hI.lt hk)
theorem Inn.cells {w : World} {q : Nat} {rv mv : Value} {oa na : Nat} {room : List Nat} {h nn : Nat} {S : Ps} (hI : Inn w q rv mv oa na room h nn S) :
    w.cell? ⟨q, 0, none⟩ = some (.int .i64 (S.fl : Int)) ∧ w.cell? ⟨q, 1, none⟩ = some rv ∧ w.cell? ⟨q, 2, none⟩ = some (.map (some oa)) ∧ w.cell? ⟨q, 3, none⟩ = some (.map (some na)) ∧ w.cell? ⟨q, 4, none⟩ = some mv ∧ w.cell? ⟨q, 5, none⟩ = some (.int .i64 (h : Int)) ∧ w.cell? ⟨q, 6, none⟩ = some (.int .i64 (S.Q.length : Int)) :=
  ⟨(cell_of_heap hI.hq).trans rfl, (cell_of_heap hI.hq).trans rfl, (cell_of_heap hI.hq).trans rfl, (cell_of_heap hI.hq).trans rfl, (cell_of_heap hI.hq).trans rfl, (cell_of_heap hI.hq).trans rfl, (cell_of_heap hI.hq).trans rfl⟩
theorem Inn.frozen {w : World} {q : Nat} {rv mv : Value} {oa na : Nat} {room : List Nat} {h nn : Nat} {S : Ps} (hI : Inn w q rv mv oa na room h nn S) (j : Nat) : w.frozen? ⟨q, j, none⟩ = false := frozen_of_heap hI.hq
theorem Inn.qr {w : World} {q : Nat} {rv mv : Value} {oa na : Nat} {room : List Nat} {h nn : Nat} {S : Ps} (hI : Inn w q rv mv oa na room h nn S) {g : Nat} (hg : rv.ownBlock = some g) : g ≠ q ∧ g ≠ oa ∧ g ≠ na ∧ mv.ownBlock ≠ some g := by
  obtain ⟨cur, hc⟩ := owns_block hI.hr hg
  obtain ⟨D, f, h1, _⟩ := hI.ho
  obtain ⟨es, cl, h1⟩ := map_block h1
  obtain ⟨D', f', h2, _⟩ := hI.hn
  obtain ⟨es', cl', h2⟩ := map_block h2
  refine ⟨fun e => ?_, fun e => ?_, fun e => ?_, fun e => ?_⟩
  · rw [e, hI.hq] at hc
    injection hc with hc
    injection hc with _ hc _
    cases hc
  · rw [e, h1] at hc; cases hc
  · rw [e, h2] at hc; cases hc
  · obtain ⟨c2, h3⟩ := owns_block hI.hm e
    rw [hc] at h3
    injection h3 with h3
    injection h3 with _ h3 _
    cases h3
theorem Inn.qm {w : World} {q : Nat} {rv mv : Value} {oa na : Nat} {room : List Nat} {h nn : Nat} {S : Ps} (hI : Inn w q rv mv oa na room h nn S) {g : Nat} (hg : mv.ownBlock = some g) : g ≠ q ∧ g ≠ oa ∧ g ≠ na ∧ rv.ownBlock ≠ some g := by
  obtain ⟨cur, hc⟩ := owns_block hI.hm hg
  obtain ⟨D, f, h1, _⟩ := hI.ho
  obtain ⟨es, cl, h1⟩ := map_block h1
  obtain ⟨D', f', h2, _⟩ := hI.hn
  obtain ⟨es', cl', h2⟩ := map_block h2
  refine ⟨fun e => ?_, fun e => ?_, fun e => ?_, fun e => (hI.qr e).2.2.2 hg⟩
  · rw [e, hI.hq] at hc
    injection hc with hc
    injection hc with _ hc _
    cases hc
  · rw [e, h1] at hc; cases hc
  · rw [e, h2] at hc; cases hc
theorem Inn.qo {w : World} {q : Nat} {rv mv : Value} {oa na : Nat} {room : List Nat} {h nn : Nat} {S : Ps} (hI : Inn w q rv mv oa na room h nn S) : oa ≠ q ∧ na ≠ q ∧ oa ≠ na := by
  obtain ⟨D, f, h1, _⟩ := hI.ho
  obtain ⟨es, cl, h1⟩ := map_block h1
  obtain ⟨D', f', h2, _⟩ := hI.hn
  obtain ⟨es', cl', h2⟩ := map_block h2
  refine ⟨fun e => ?_, fun e => ?_, hI.ne⟩
  · rw [e, hI.hq] at h1; cases h1
  · rw [e, hI.hq] at h2; cases h2

theorem Lay.below {w W : World} {q : Nat} {F : List Nat} {nn : Nat} {S : Ps} (h : Lay w q F nn S) (hb : Below w.heap.size w W) : Lay W q F nn S := by
  obtain ⟨rv, mv, oa, na, room, hd, hF, hI⟩ := h
  exact ⟨rv, mv, oa, na, room, hd, hF, hI.below hb⟩
theorem Lay.keep {w W : World} {q : Nat} {F : List Nat} {nn : Nat} {S : Ps} (h : Lay w q F nn S) (hk : ∀ k, k ∈ F → W.heap[k]? = w.heap[k]?) : Lay W q F nn S := by
  obtain ⟨rv, mv, oa, na, room, hd, rfl, hI⟩ := h
  exact ⟨rv, mv, oa, na, room, hd, rfl, hI.keep hk⟩
theorem Lay.lt {w : World} {q : Nat} {F : List Nat} {nn : Nat} {S : Ps} (h : Lay w q F nn S) : ∀ k, k ∈ F → k < w.heap.size := by
  obtain ⟨rv, mv, oa, na, room, hd, rfl, hI⟩ := h
  exact fun k hk => hI.lt hk
theorem Lay.notin {w : World} {q : Nat} {F : List Nat} {nn : Nat} {S : Ps} (h : Lay w q F nn S) {k : Nat} {cur : Array Value} {e : TypeId} {fr : Nat × Nat} (hk : w.heap[k]? = some (.cells cur e fr))
    (he : ¬ (e = 74 ∨ e = 76 ∨ e = 3)) : k ∉ F := by
  obtain ⟨rv, mv, oa, na, room, hd, rfl, hI⟩ := h
  exact hI.notin hk he
theorem Lay.up {w : World} {q : Nat} {F : List Nat} {nn : Nat} {S : Ps} (h : Lay w q F nn S) {N : Nat} (hN : nn ≤ N) : Lay w q F N S := by
  obtain ⟨rv, mv, oa, na, room, hd, hF, hI⟩ := h
  refine ⟨rv, mv, oa, na, room, hd, hF, hI.hq, hI.hr, hI.hm, ?_, ?_, hI.ne, hI.rg, hI.ml, hI.lim⟩
  · obtain ⟨D, f, h2, h3⟩ := hI.ho
    exact ⟨D, f, h2.mono hN, h3⟩
  · obtain ⟨D, f, h2, h3⟩ := hI.hn
    exact ⟨D, f, h2.mono hN, h3⟩
theorem Lay.turn {w W : World} {q : Nat} {F : List Nat} {nn : Nat} {S : Ps} (h : Lay w q F nn S) (hb : Below w.heap.size w W) : Turn F w W q nn S := ⟨only_below (Only.refl _ _) hb, F, h.below hb, fun _ hk => .inl hk⟩
theorem turn_trans {F F' : List Nat} {w w' w'' : World} {q nn : Nat} {S : Ps} (ho : Only F w w') (hF : ∀ k, k ∈ F' → k ∈ F ∨ w.heap.size ≤ k) (h : Turn F' w' w'' q nn S) : Turn F w w'' q nn S := by
  obtain ⟨h1, F2, h2, h3⟩ := h
  refine ⟨⟨h1.os.trans ho.os, h1.tape.trans ho.tape, h1.output.trans ho.output, Nat.le_trans ho.size h1.size, fun k hk hS => (h1.block k (Nat.lt_of_lt_of_le hk ho.size) (fun e => ?_)).trans (ho.block k hk hS)⟩, F2, h2, fun k hk => ?_⟩
  · rcases hF k e with h | h
    · exact hS h
    · omega
  · rcases h3 k hk with h | h
    · exact hF k h
    · exact .inr (Nat.le_trans ho.size h)
theorem Turn.then {F : List Nat} {w w' w'' : World} {q nn nn' : Nat} {S S' : Ps} (h : Turn F w w' q nn S) (h2 : ∀ F', Lay w' q F' nn S → Turn F' w' w'' q nn' S') : Turn F w w'' q nn' S' := by
  obtain ⟨h1, F2, h3, h4⟩ := h
  exact turn_trans h1 h4 (h2 F2 h3)
theorem Turn.below {F : List Nat} {w w' W : World} {q nn : Nat} {S : Ps} (h : Turn F w w' q nn S) (hb : Below w'.heap.size w' W) : Turn F w W q nn S := by
  obtain ⟨h1, F2, h2, h3⟩ := h
  exact ⟨only_below h1 hb, F2, h2.below hb, h3⟩
theorem Turn.ahead {F : List Nat} {w w' W : World} {q nn : Nat} {S : Ps} (hb : Below w.heap.size w w') (h : Turn F w' W q nn S) : Turn F w W q nn S := turn_trans (only_below (Only.refl _ _) hb) (fun _ hk => .inl hk) h
theorem Turn.up {F : List Nat} {w w' : World} {q nn N : Nat} {S : Ps} (h : Turn F w w' q nn S) (hN : nn ≤ N) : Turn F w w' q N S := by
  obtain ⟨h1, F2, h2, h3⟩ := h
  exact ⟨h1, F2, h2.up hN, h3⟩
theorem two_new (w : World) (A B : Array Value) (s t : TypeId) : ∃ W, (w.alloc (.cells A s)).alloc (.cells B t) = W ∧ Below w.heap.size w W ∧ W.heap[w.heap.size]? = some (.cells A s (0, 0)) ∧ W.heap[w.heap.size + 1]? = some (.cells B t (0, 0)) := by
  have hb1 : Below w.heap.size w (w.alloc (.cells A s)) := (Below.refl _ _).alloc (Nat.le_refl _) _
  refine ⟨_, rfl, hb1.alloc hb1.size _, (Below.heap_alloc _ _ _ (by simp)).trans (heap_new w _), ?_⟩
  have := heap_new (w.alloc (.cells A s)) (.cells B t)
  rw [show (w.alloc (.cells A s)).heap.size = w.heap.size + 1 by simp] at this
  exact this
theorem one_new (w : World) (A : Array Value) (s : TypeId) : ∃ W, w.alloc (.cells A s) = W ∧ Below w.heap.size w W ∧ W.heap[w.heap.size]? = some (.cells A s (0, 0)) := ⟨_, rfl, (Below.refl _ _).alloc (Nat.le_refl _) _, heap_new w _⟩
/-- a call by the layer at hand -/
theorem Turn.call {F : List Nat} {w W : World} {q nn N : Nat} {S S' : Ps} {f : Nat} {args : Array Value} {r : Value} (h : Turn F w W q nn S) (hc : ∀ F', Lay W q F' nn S → Calls Try.prog f args W fun e w' => e = .returned r ∧ Turn F' W w' q N S') : Calls Try.prog f args W fun e w' => e = .returned r ∧ Turn F w w' q N S' := by
  obtain ⟨h1, F2, h2, h3⟩ := h
  refine (hc F2 h2).mono ?_
  rintro e w' ⟨hx, hT⟩
  exact ⟨hx, turn_trans h1 h3 hT⟩
end Go.Proofs.Ythmjjpaengackaa.Po
