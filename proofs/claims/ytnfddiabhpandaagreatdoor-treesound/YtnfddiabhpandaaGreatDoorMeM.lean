import Derived.Test.YtnfddiabhpandaaGreatDoorPaX
import Derived.Test.YtnfddiabhpandaaGreatDoorBaseM
import Derived.Laws.AppendOwnNone
import Derived.OwnWalk
import Derived.BigQuiet
import Derived.Test.YtnfddiabhpandaaGreatDoorTaM
import Derived.Test.YtnfddiabhpandaaGreatDoorTrZ
import Derived.Maps.OwnSet
import Derived.Maps.Ext
import Derived.Maps.AppendAt
import Derived.Maps.RangeWalk
import Derived.Deep.RegionHeldLaw
namespace Go.Proofs.YtnfddiabhpandaaGreatDoor.Pa
open Go.RowKit Go.Lib

def sc (L : List ByteArray) : List Value := L.map Value.string
theorem sc_length (L : List ByteArray) : (sc L).length = L.length := by simp [sc]
theorem sc_at (L : List ByteArray) (j : Nat) (s : ByteArray) (h : L[j]? = some s) : (sc L)[j]? = some (.string s) := by simp [sc, h]
theorem sc_back {L : List ByteArray} {j : Nat} {u : Value} (h : (sc L)[j]? = some u) : ∃ s, L[j]? = some s ∧ u = .string s := by
  unfold sc at h
  rw [List.getElem?_map] at h
  obtain ⟨s, hs, rfl⟩ := Option.map_eq_some_iff.1 h
  exact ⟨s, hs, rfl⟩
theorem sc_one (L : List ByteArray) : ∀ u ∈ sc L, u.oneCell' = true := fun u hu => by
  obtain ⟨s, _, rfl⟩ := List.mem_map.1 hu
  rfl
theorem sc_append (a b : List ByteArray) : sc (a ++ b) = sc a ++ sc b := by simp [sc]
theorem bdN (w : World) (n : Nat) : Below w.heap.size w (w.drewN n) := ⟨rfl, rfl, rfl, Nat.le_refl _, fun _ _ => rfl⟩
theorem info9 : (Tryz.prog.info? 9).map (fun i => (i.zero, i.size, i.bytes)) = some (some (.string { data := #[] }), 1, 16) := by kernel_rfl
theorem info_9 : ∃ i0, Tryz.prog.info? 9 = some i0 ∧ i0.zero = some (.string { data := #[] }) ∧ i0.size = 1 ∧ i0.bytes = 16 := by
  have h := info9
  cases hq : Tryz.prog.info? 9 with
  | none => rw [hq] at h; cases h
  | some i =>
    rw [hq] at h
    simp at h
    exact ⟨i, rfl, h.1, h.2.1, h.2.2⟩

/-- texts in a row of the call's own -/
def Own (w : World) (B : Nat) (v : Value) (L : List ByteArray) : Prop := w.ownsRow B 9 1 v L.length (sc L)
/-- texts that can be read -/
def See (w : World) (v : Value) (L : List ByteArray) : Prop :=
  ∃ a c, v = .slice a L.length c ∧ L.length ≤ c ∧ (a = none → c = 0) ∧ (L ≠ [] → ∃ b off, a = some ⟨b, off, none⟩ ∧ b < w.heap.size ∧ ∀ (i : Nat) s, L[i]? = some s → w.cell? ⟨b, off + i, none⟩ = some (.string s))
theorem See.nil (w : World) : See w (.slice none 0 0) [] := ⟨none, 0, rfl, Nat.le_refl _, fun _ => rfl, fun h => absurd rfl h⟩
theorem See.below {w w' : World} {v : Value} {L : List ByteArray} (h : See w v L) (hb : Below w.heap.size w w') : See w' v L := by
  obtain ⟨a, c, h1, h2, h3, h4⟩ := h
  refine ⟨a, c, h1, h2, h3, fun hn => ?_⟩
  obtain ⟨b, off, e, hlt, hc⟩ := h4 hn
  exact ⟨b, off, e, Nat.lt_of_lt_of_le hlt hb.size, fun i s hs => (hb.cell (p := ⟨b, off + i, none⟩) hlt).trans (hc i s hs)⟩
theorem Own.nil (w : World) (B : Nat) : Own w B (.slice none 0 0) [] := World.ownsRow_nil _ _ _ _
theorem Own.len {w : World} {B : Nat} {v : Value} {L : List ByteArray} (h : Own w B v L) : ∃ a cap, v = .slice a L.length cap := by
  rcases h.2 with ⟨h1, h2⟩ | ⟨g, cap, cur, h1, _⟩
  · exact ⟨none, 0, by rw [h2]; exact h1⟩
  · exact ⟨_, cap, h1⟩
theorem Own.see {w : World} {B : Nat} {v : Value} {L : List ByteArray} (h : Own w B v L) : See w v L := by
  rcases h.2 with ⟨h1, h2⟩ | ⟨g, cap, cur, h1, h2, h3, h4, h5, h6, h7⟩
  · exact ⟨none, 0, by rw [h2]; exact h1, by omega, fun _ => rfl, fun h => absurd (List.eq_nil_of_length_eq_zero h2) h⟩
  · refine ⟨_, cap, h1, h4, fun e => (by cases e), fun _ => ⟨g, 0, rfl, heap_lt h3, fun i s hs => ?_⟩⟩
    have hi := (List.getElem?_eq_some_iff.1 hs).1
    have hu := sc_at L i s hs
    rw [← h7, List.getElem?_take, if_pos (by omega), Array.getElem?_toList] at hu
    rw [Nat.zero_add, cell_of_heap h3]
    exact hu
theorem Own.below {w w' : World} {B : Nat} {v : Value} {L : List ByteArray} (h : Own w B v L) (hb : Below w.heap.size w w') : Own w' B v L := by
  obtain ⟨h1, h2⟩ := h
  refine ⟨h1, ?_⟩
  rcases h2 with h0 | ⟨g, cap, cur, e1, e2, e3, e4⟩
  · exact .inl h0
  · exact .inr ⟨g, cap, cur, e1, e2, (hb.block _ (heap_lt e3)).trans e3, e4⟩
theorem Own.mono {w : World} {B B' : Nat} {v : Value} {L : List ByteArray} (h : Own w B v L) (hB : B' ≤ B) : Own w B' v L := by
  obtain ⟨h1, h2⟩ := h
  refine ⟨h1, ?_⟩
  rcases h2 with h0 | ⟨g, cap, cur, e1, e2, e3⟩
  · exact .inl h0
  · exact .inr ⟨g, cap, cur, e1, by omega, e3⟩
/-- the first texts of a list -/
theorem See.take {w : World} {a : Option Addr} {c n : Nat} {L : List ByteArray} (h : See w (.slice a L.length c) L) (hn : n ≤ L.length) : See w (.slice a n c) (L.take n) := by
  obtain ⟨a', c', h1, h2, h3, h4⟩ := h
  injection h1 with e1 _ e2
  subst e1 e2
  have hl : (L.take n).length = n := by rw [List.length_take]; omega
  refine ⟨a, c, by rw [hl], by omega, h3, fun hne => ?_⟩
  obtain ⟨b, off, e, hlt, hc⟩ := h4 (fun e => hne (by rw [e]; simp))
  refine ⟨b, off, e, hlt, fun i s hs => hc i s ?_⟩
  rw [List.getElem?_take] at hs
  by_cases hi : i < n
  · rw [if_pos hi] at hs; exact hs
  · rw [if_neg hi] at hs; cases hs

set_option maxRecDepth 20000 in
/-- a list that can be read is appended to a row of the call's own -/
theorem wpList_app {w : World} {ops : Array Oper} {rest : List Oper} {o : Oper} {a : Act} {Q : Exit → Act → World → Prop} (hgd : o.guard = none) (s x : Operand)
    (ho : o.op = .call { callee := .builtin .append, args := #[s, x], argTypes := #[31, 31] })
    (B : Nat) (v xv : Value) (A L : List ByteArray) (hs : a.eval s = v) (hown : Own w B v A) (hx : a.eval x = xv) (hL : See w xv L) (hb : (A.length + L.length) * 16 ≤ 140737488355328) (hB : B ≤ w.heap.size)
    (h : ∀ v' w', Own w' B v' (A ++ L) → Below B w w' → wpList Tryz.prog ops Q rest (a.put o.dst v') w') : wpList Tryz.prog ops Q (o :: rest) a w := by
  obtain ⟨i0, hi, hz0, hz1, hz2⟩ := info_9
  obtain ⟨ad, c, rfl, hc, hnil, hcell⟩ := hL
  cases ad with
  | none =>
    have hL0 : L = [] := by
      by_cases hn : L = []
      · exact hn
      · obtain ⟨b, off, e, _⟩ := hcell hn
        cases e
    subst hL0
    obtain rfl := hnil rfl
    refine wpList_append_own_none hgd s x 31 ho B 9 i0 1 Tryz.underlying31 hi v A.length (sc A) hs hown hx ?_
    exact h v w (by rw [List.append_nil]; exact hown) (Below.refl _ _)
  | some ad =>
    refine wpList_append_own w hgd s x 31 ho B 9 i0 (.string { data := #[] }) 1 16 Tryz.underlying31 hi hz0 hz1 hz2 rfl (by decide) v A.length (sc A) hs hown ad L.length c (sc L) hx (by rw [sc_length]; omega)
      (fun j u hu => ?_) (sc_one L) (by unfold maxLen; omega) hb hB (fun v' w' ho' hg _ => ?_)
    · obtain ⟨t, ht, rfl⟩ := sc_back hu
      obtain ⟨b, off, e, _, hcc⟩ := hcell (fun e => by rw [e] at ht; cases ht)
      injection e with e
      subst e
      rw [Addr.add_lit]
      exact hcc j t ht
    · refine h v' w' ?_ (grown_below hg hB hown)
      unfold Own
      rw [sc_append, List.length_append]
      exact ho'

/-- texts in a new block -/
theorem see_new (w : World) (cs : Array Value) (L : List ByteArray) (n c : Nat) (h : cs = (sc L).toArray) (hn : n = L.length) (hc : n ≤ c) : See (w.alloc (.cells cs 9)) (.slice (some ⟨w.heap.size, 0, none⟩) n c) L := by
  subst h hn
  refine ⟨_, _, rfl, hc, fun e => (by cases e), fun _ => ⟨w.heap.size, 0, rfl, by simp, fun i s hs => ?_⟩⟩
  rw [Nat.zero_add, cell_of_heap (heap_new w _)]
  simpa using sc_at L i s hs
end Go.Proofs.YtnfddiabhpandaaGreatDoor.Pa

namespace Go.Proofs.YtnfddiabhpandaaGreatDoor.Tr
open Go.RowKit Go.Lib Go.Deep

/-! rows of numbers -/
structure Rw where
  t : Bool
  p : Nat
  n : ByteArray
  x : Value
def rwC (r : Rw) : List Value := [.bool r.t, .int .i64 (r.p : Int), .string r.n, r.x]
def rwsC (rs : List Rw) : List Value := rs.flatMap rwC
theorem rwsC_cons (r : Rw) (rs : List Rw) : rwsC (r :: rs) = .bool r.t :: .int .i64 (r.p : Int) :: .string r.n :: r.x :: rwsC rs := rfl
theorem rwsC_append (a b : List Rw) : rwsC (a ++ b) = rwsC a ++ rwsC b := by simp [rwsC]
theorem rwsC_len (rs : List Rw) : (rwsC rs).length = rs.length * 4 := by
  induction rs with
  | nil => rfl
  | cons r rs ih => rw [rwsC_cons]; simp only [List.length_cons, ih]; omega
theorem rwsC_get : ∀ (rs : List Rw) (i : Nat) (r : Rw), rs[i]? = some r → ∀ j, j < 4 → (rwsC rs)[i * 4 + j]? = (rwC r)[j]?
  | [], i, r, h, j, hj => by cases h
  | a :: rs, 0, r, h, j, hj => by
    simp only [List.getElem?_cons_zero, Option.some.injEq] at h
    subst h
    rw [Nat.zero_mul, Nat.zero_add]
    show (rwC a ++ rwsC rs)[j]? = _
    rw [List.getElem?_append_left (by simpa [rwC] using hj)]
  | a :: rs, i + 1, r, h, j, hj => by
    rw [List.getElem?_cons_succ] at h
    rw [rwsC_cons, show (i + 1) * 4 + j = (i * 4 + j) + 1 + 1 + 1 + 1 by omega]
    simp only [List.getElem?_cons_succ]
    exact rwsC_get rs i r h j hj
theorem rwsC_set : ∀ (rs : List Rw) (i : Nat) (r : Rw), ((((rwsC rs).set (i * 4) (.bool r.t)).set (i * 4 + 1) (.int .i64 (r.p : Int))).set (i * 4 + 2) (.string r.n)).set (i * 4 + 3) r.x = rwsC (rs.set i r)
  | [], i, r => by simp [rwsC]
  | a :: rs, 0, r => by
    rw [rwsC_cons]
    simp only [Nat.zero_mul, Nat.zero_add, List.set_cons_zero, List.set_cons_succ, rwsC_cons]
  | a :: rs, i + 1, r => by
    rw [rwsC_cons, show (i + 1) * 4 = i * 4 + 1 + 1 + 1 + 1 by omega, show i * 4 + 1 + 1 + 1 + 1 + 1 = (i * 4 + 1) + 1 + 1 + 1 + 1 by omega, show i * 4 + 1 + 1 + 1 + 1 + 2 = (i * 4 + 2) + 1 + 1 + 1 + 1 by omega, show i * 4 + 1 + 1 + 1 + 1 + 3 = (i * 4 + 3) + 1 + 1 + 1 + 1 by omega]
    simp only [List.set_cons_succ, rwsC_cons]
    rw [← rwsC_set rs i r]
/-- four cells of a row written over -/
def put4 (W : World) (g o : Nat) (r : Rw) : World := (((W.setCell ⟨g, o, none⟩ (.bool r.t)).setCell ⟨g, o + 1, none⟩ (.int .i64 (r.p : Int))).setCell ⟨g, o + 2, none⟩ (.string r.n)).setCell ⟨g, o + 3, none⟩ r.x
theorem rows_put {w : World} {B ty g cap : Nat} {rs : List Rw} (h : w.ownsRow B ty 4 (.slice (some ⟨g, 0, none⟩) rs.length cap) rs.length (rwsC rs)) (i : Nat) (r : Rw) :
    (put4 w g (i * 4) r).ownsRow B ty 4 (.slice (some ⟨g, 0, none⟩) rs.length cap) rs.length (rwsC (rs.set i r)) ∧ w.grownBy (put4 w g (i * 4) r) (some g) := by
  have h1 := h.stored (i * 4) (.bool r.t)
  have h2 := h1.1.stored (i * 4 + 1) (.int .i64 (r.p : Int))
  have h3 := h2.1.stored (i * 4 + 2) (.string r.n)
  have h4 := h3.1.stored (i * 4 + 3) r.x
  rw [rwsC_set] at h4
  exact ⟨h4.1, ((h1.2.trans h2.2).trans h3.2).trans h4.2⟩
theorem rows_form {w : World} {B ty : Nat} {v : Value} {rs : List Rw} (h : w.ownsRow B ty 4 v rs.length (rwsC rs)) : ∃ a cap, v = .slice a rs.length cap := by
  rcases h.2 with ⟨h1, h2⟩ | ⟨g, cap, cur, h1, _⟩
  · exact ⟨none, 0, by rw [h2]; exact h1⟩
  · exact ⟨_, cap, h1⟩
theorem rows_form2 {w : World} {B ty : Nat} {v : Value} {rs : List Rw} (h : w.ownsRow B ty 4 v rs.length (rwsC rs)) {i : Nat} {r : Rw} (hi : rs[i]? = some r) : ∃ g cap, v = .slice (some ⟨g, 0, none⟩) rs.length cap := by
  rcases h.2 with ⟨h1, h2⟩ | ⟨g, cap, cur, h1, _⟩
  · have := (List.getElem?_eq_some_iff.1 hi).1
    omega
  · exact ⟨g, cap, h1⟩
theorem rows_cells {w : World} {B ty g cap : Nat} {rs : List Rw} (h : w.ownsRow B ty 4 (.slice (some ⟨g, 0, none⟩) rs.length cap) rs.length (rwsC rs)) {i : Nat} {r : Rw} (hi : rs[i]? = some r) :
    w.cell? ⟨g, i * 4, none⟩ = some (.bool r.t) ∧ w.cell? ⟨g, i * 4 + 1, none⟩ = some (.int .i64 (r.p : Int)) ∧ w.cell? ⟨g, i * 4 + 2, none⟩ = some (.string r.n) ∧ w.cell? ⟨g, i * 4 + 3, none⟩ = some r.x := by
  have hl := (List.getElem?_eq_some_iff.1 hi).1
  refine ⟨?_, ?_, ?_, ?_⟩
  · rw [h.cellAt (i * 4) (by omega)]; exact rwsC_get rs i r hi 0 (by omega)
  · rw [h.cellAt (i * 4 + 1) (by omega)]; exact rwsC_get rs i r hi 1 (by omega)
  · rw [h.cellAt (i * 4 + 2) (by omega)]; exact rwsC_get rs i r hi 2 (by omega)
  · rw [h.cellAt (i * 4 + 3) (by omega)]; exact rwsC_get rs i r hi 3 (by omega)

/-! what a map holds -/
def nodeD (v : Nat × Nat) : DataW Unit := .agg [.lit (.int .i64 (v.1 : Int)), .lit (.int .i64 (v.2 : Int))]
def nodeR (v : Value) : Option (DataW Unit × List MemPlace) :=
  match v with
  | .agg a => match a.toList with
    | [.int .i64 (.ofNat k), .int .i64 (.ofNat n)] => some (nodeD (k, n), [])
    | _ => none
  | _ => none
theorem nodeR_mk (k n : Nat) : nodeR (.agg #[.int .i64 (k : Int), .int .i64 (n : Int)]) = some (nodeD (k, n), []) := rfl
theorem nodeR_inv {v : Value} {y : DataW Unit × List MemPlace} (h : nodeR v = some y) : ∃ k n : Nat, v = .agg #[.int .i64 (k : Int), .int .i64 (n : Int)] ∧ y = (nodeD (k, n), []) := by
  unfold nodeR at h
  split at h
  · rename_i a
    split at h
    · rename_i k n e
      refine ⟨k, n, ?_, (Option.some.inj h).symm⟩
      rw [← Array.toList_inj.1 (show a.toList = (#[.int .i64 (k : Int), .int .i64 (n : Int)] : Array Value).toList from e)]
    · cases h
  · cases h
theorem nodeD_inj {a b : Nat × Nat} (h : nodeD a = nodeD b) : a = b := by
  unfold nodeD at h
  injection h with h
  injection h with h1 h2
  injection h2 with h2 _
  injection h1 with h1
  injection h1 with _ h1
  injection h2 with h2
  injection h2 with _ h2
  exact Prod.ext (by omega) (by omega)
structure Tab (D : DataW Unit) (f : Key → Option (Nat × Nat)) : Prop where
  isMap : Maps.IsMap D
  has : ∀ k, Maps.has D (.string k) = (f k).isSome
  at_ : ∀ k b, f k = some b → ∀ z, D.atKey (.string k) z = nodeD b
theorem tab_nil : Tab (.map []) (fun _ => none) := ⟨Maps.isMap_empty, fun _ => rfl, fun _ _ h => by cases h⟩
theorem Tab.put {D : DataW Unit} {f : Key → Option (Nat × Nat)} (h : Tab D f) (n : Key) (b : Nat × Nat) : Tab (D.put (.string n) (nodeD b)) (fun k => if k = n then some b else f k) := by
  refine ⟨h.isMap.put _ _, fun k => ?_, fun k x hx z => ?_⟩
  · by_cases he : k = n
    · subst he
      rw [Maps.has_put_same h.isMap (by simp [WideAt.IsKeyLit])]
      simp
    · rw [Maps.has_put_other (fun e => he (by injection e)), h.has k]
      simp [he]
  · by_cases he : k = n
    · subst he
      simp only [if_true, Option.some.injEq] at hx
      rw [Maps.atKey_put_same h.isMap (by simp [WideAt.IsKeyLit]), hx]
    · rw [Maps.atKey_put_other (fun e => he (by injection e))]
      simp only [if_neg he] at hx
      exact h.at_ k x hx z
theorem Tab.del {D : DataW Unit} {f : Key → Option (Nat × Nat)} (h : Tab D f) (n : Key) : Tab (D.del (.string n)) (fun k => if k = n then none else f k) := by
  refine ⟨h.isMap.del _, fun k => ?_, fun k x hx z => ?_⟩
  · by_cases he : k = n
    · subst he
      rw [Maps.has_del_same]
      simp
    · rw [Maps.has_del_other (fun e => he (by injection e)), h.has k]
      simp [he]
  · by_cases he : k = n
    · subst he
      simp at hx
    · rw [Maps.atKey_del_other (fun e => he (by injection e))]
      simp only [if_neg he] at hx
      exact h.at_ k x hx z
theorem zeroNode (w : World) : (zeroValue 149).run Tryz.prog w = .ok (.agg #[.int .i64 0, .int .i64 0]) w := by kernel_rfl
theorem keyLaw : Maps.Keyed Tryz.prog 9 := Maps.string_keyed Tryz.underlying9
set_option maxRecDepth 20000 in
/-- what a look-up tells -/
theorem look_any {w : World} {m n : Nat} {D : DataW Unit} {f : Key → Option (Nat × Nat)} (h : w.ownsMap Tryz.prog 9 nodeR m n D) (hD : Tab D f) (t : ByteArray) (ht : t.size ≤ maxLen) :
    (Instr.lookup 129 (.map (some m)) (.string t) false).run Tryz.prog w = .ok (.agg #[.int .i64 (((f (ky t)).getD (0, 0)).1 : Int), .int .i64 (((f (ky t)).getD (0, 0)).2 : Int)]) w := by
  obtain ⟨v, ps, h1, h2⟩ := h.lookup (t := 129) keyLaw Tryz.underlying129 (zeroNode w) (nodeR_mk 0 0) (WideMaps.keyOf_string_mk Tryz.underlying9 ht)
  obtain ⟨a, b, rfl, h3⟩ := nodeR_inv h2
  rw [h1]
  simp only [Prod.mk.injEq] at h3
  have h3 := h3.1
  have hh := hD.has t.data.toList
  unfold ky
  cases hf : f t.data.toList with
  | none =>
    rw [hf] at hh
    rw [Maps.atKey_of_not_has hh] at h3
    have e := nodeD_inj h3
    injection e with e1 e2
    rw [← e1, ← e2]
    rfl
  | some x =>
    rw [hD.at_ _ x hf] at h3
    have e := nodeD_inj h3
    subst e
    rfl

/-! a tree's state in memory -/
def dRow (o : Option (Nat × ByteArray)) (m : Nat) : Rw := match o with
  | some d => ⟨true, d.1, d.2, .map (some m)⟩
  | none => ⟨false, 0, e0, .map none⟩
def fRow (o : Option (Nat × ByteArray × Nat)) : Rw := match o with
  | some d => ⟨true, d.1, d.2.1, .int .i64 (d.2.2 : Int)⟩
  | none => ⟨false, 0, e0, .int .i64 0⟩
def dRows (D : List (Option (Nat × ByteArray))) (ms : Nat → Nat) : List Rw := D.mapIdx fun i o => dRow o (ms i)
def fRows (F : List (Option (Nat × ByteArray × Nat))) : List Rw := F.map fRow
theorem dRows_len (D : List (Option (Nat × ByteArray))) (ms : Nat → Nat) : (dRows D ms).length = D.length := by simp [dRows]
theorem fRows_len (F : List (Option (Nat × ByteArray × Nat))) : (fRows F).length = F.length := by simp [fRows]
theorem dRows_get (D : List (Option (Nat × ByteArray))) (ms : Nat → Nat) (i : Nat) : (dRows D ms)[i]? = (D[i]?).map fun o => dRow o (ms i) := by simp [dRows]
theorem fRows_get (F : List (Option (Nat × ByteArray × Nat))) (i : Nat) : (fRows F)[i]? = (F[i]?).map fRow := by simp [fRows]
def layR (rs : List Rw) (x : Nat) (r : Rw) : List Rw := if x < rs.length then rs.set x r else rs ++ [r]
theorem layR_len (rs : List Rw) (x : Nat) (r : Rw) : (layR rs x r).length = if x < rs.length then rs.length else rs.length + 1 := by
  unfold layR
  by_cases hx : x < rs.length
  · rw [if_pos hx, if_pos hx]; simp
  · rw [if_neg hx, if_neg hx]; simp
theorem dRows_lay (D : List (Option (Nat × ByteArray))) (ms : Nat → Nat) (x : Nat) (o : Option (Nat × ByteArray)) (m : Nat) (hx : x ≤ D.length) : dRows (layL D x o) (fun i => if i = x then m else ms i) = layR (dRows D ms) x (dRow o m) := by
  apply List.ext_getElem?
  intro i
  rw [dRows_get, layL_get o hx]
  unfold layR
  rw [dRows_len]
  by_cases hl : x < D.length
  · rw [if_pos hl, List.getElem?_set, dRows_len]
    by_cases hi : i = x
    · subst hi; rw [if_pos rfl, if_pos rfl, if_pos rfl, if_pos hl]; rfl
    · rw [if_neg hi, if_neg hi, if_neg (fun e => hi e.symm), dRows_get]
  · rw [if_neg hl]
    obtain rfl : x = D.length := by omega
    by_cases hi : i = D.length
    · subst hi
      rw [if_pos rfl, if_pos rfl, List.getElem?_append_right (by rw [dRows_len]; exact Nat.le_refl _), dRows_len]
      simp
    · rw [if_neg hi, if_neg hi]
      by_cases h2 : i < D.length
      · rw [List.getElem?_append_left (by rw [dRows_len]; exact h2), dRows_get]
      · rw [List.getElem?_eq_none (by omega), List.getElem?_eq_none (by simp [dRows_len]; omega)]
        rfl
theorem fRows_lay (F : List (Option (Nat × ByteArray × Nat))) (x : Nat) (o : Option (Nat × ByteArray × Nat)) : fRows (layL F x o) = layR (fRows F) x (fRow o) := by
  unfold layL layR fRows
  rw [List.length_map]
  by_cases hl : x < F.length
  · rw [if_pos hl, if_pos hl, List.map_set]
  · rw [if_neg hl, if_neg hl, List.map_append]
    rfl
theorem dRows_same {D : List (Option (Nat × ByteArray))} {ms ms' : Nat → Nat} (h : ∀ (i : Nat) d, D[i]? = some (some d) → ms i = ms' i) : dRows D ms = dRows D ms' := by
  apply List.ext_getElem?
  intro i
  rw [dRows_get, dRows_get]
  cases hq : D[i]? with
  | none => rfl
  | some o =>
    cases o with
    | none => rfl
    | some d =>
      have := h i d hq
      simp [this]

end Go.Proofs.YtnfddiabhpandaaGreatDoor.Tr

namespace Go.Proofs.YtnfddiabhpandaaGreatDoor.Tr
open Go.RowKit Go.Lib Go.Deep

theorem owns_keep {W W' : World} {B e n size : Nat} {v : Value} {xs : List Value} (h : W.ownsRow B e size v n xs) (hk : ∀ g, v.ownBlock = some g → W'.heap[g]? = W.heap[g]?) : W'.ownsRow B e size v n xs := by
  obtain ⟨q0, q⟩ := h
  refine ⟨q0, ?_⟩
  rcases q with q | ⟨g1, cap1, cur1, q1, q2, q3, q4⟩
  · exact .inl q
  · exact .inr ⟨g1, cap1, cur1, q1, q2, (hk g1 (by rw [q1]; rfl)).trans q3, q4⟩
theorem _root_.Go.World.ownsRow.below0 {W W' : World} {e n size : Nat} {v : Value} {xs : List Value} {B : Nat} (h : W.ownsRow B e size v n xs) (hb : Below W.heap.size W W') : W'.ownsRow B e size v n xs := owns_keep h fun g hg => hb.block g (h.lt g hg).2
theorem owns_block {w : World} {B n size e k : Nat} {v : Value} {xs : List Value} (h : w.ownsRow B e size v n xs) (hv : v.ownBlock = some k) : ∃ cur, w.heap[k]? = some (.cells cur e (0, 0)) := by
  rcases h.2 with ⟨q1, _⟩ | ⟨g1, cap1, cur1, q1, q2, q3, q4⟩
  · rw [q1] at hv; cases hv
  · rw [q1] at hv
    simp [Value.ownBlock] at hv
    subst hv
    exact ⟨cur1, q3⟩
theorem map_keep {W W' : World} {P : Program} {k : TypeId} {R : Value → Option (DataW Unit × List MemPlace)} {b n : Nat} {D : DataW Unit} (h : W.ownsMap P k R b n D) (hk : W'.heap[b]? = W.heap[b]?) : W'.ownsMap P k R b n D := by
  obtain ⟨es, clock, h1, h2⟩ := h
  exact ⟨es, clock, hk.trans h1, h2⟩
theorem map_block {W : World} {P : Program} {k : TypeId} {R : Value → Option (DataW Unit × List MemPlace)} {b n : Nat} {D : DataW Unit} (h : W.ownsMap P k R b n D) : ∃ es clock, W.heap[b]? = some (.map es clock) := by
  obtain ⟨es, clock, h1, _⟩ := h
  exact ⟨es, clock, h1⟩
theorem only_below {S : List Nat} {a w w' : World} (h : Only S a w) (hb : Below w.heap.size w w') : Only S a w' := h.trans ⟨hb.os, hb.tape, hb.output, hb.size, fun k hk _ => hb.block k hk⟩
theorem only_grown {S : List Nat} {a w w' : World} {row : Option Nat} (h : Only S a w) (hg : w.grownBy w' row) (hr : ∀ k, row = some k → k ∈ S ∨ a.heap.size ≤ k) : Only S a w' :=
  ⟨hg.os.trans h.os, hg.tape.trans h.tape, hg.output.trans h.output, Nat.le_trans h.size hg.size, fun k hk hS => (hg.block k (Nat.lt_of_lt_of_le hk h.size) (fun e => by
    rcases hr k e.symm with h1 | h1
    · exact hS h1
    · omega)).trans (h.block k hk hS)⟩

def stA (T : Ts) (dv fv : Value) (ld lf : Nat) : Array Value := #[.int .i64 (T.dr : Int), dv, .int .i64 (ld : Int), .int .i64 (T.fr : Int), fv, .int .i64 (lf : Int), .int .i64 (T.most : Int)]
/-- a tree's state at block q, in all its parts -/
structure Inn (w : World) (q : Nat) (dv fv : Value) (ld lf : Nat) (ms : Nat → Nat) (nn : Nat) (T : Ts) : Prop where
  hq : w.heap[q]? = some (.cells (stA T dv fv ld lf) 125 (0, 0))
  hd : w.ownsRow 0 172 4 dv T.D.length (rwsC (dRows T.D ms))
  hf : w.ownsRow 0 176 4 fv T.F.length (rwsC (fRows T.F))
  hm : ∀ (i : Nat) d, T.D[i]? = some (some d) → ∃ Dt, w.ownsMap Tryz.prog 9 nodeR (ms i) nn Dt ∧ Tab Dt (T.M i)
  hi : ∀ (i j : Nat) d e, T.D[i]? = some (some d) → T.D[j]? = some (some e) → ms i = ms j → i = j
  hld : ∀ i, i < ld → ∃ d, T.D[i]? = some (some d)
  hlf : ∀ i, i < lf → ∃ d, T.F[i]? = some (some d)
  ldl : ld ≤ T.D.length
  lfl : lf ≤ T.F.length
  dl : T.D.length ≤ T.dr
  fl : T.F.length ≤ T.fr
  lim : T.fr ≤ 65536 ∧ T.dr ≤ 4097 ∧ T.most ≤ 65536
def mpL (D : List (Option (Nat × ByteArray))) (ms : Nat → Nat) : List Nat := (List.range D.length).filterMap fun i => if (D[i]?).join.isSome = true then some (ms i) else none
theorem mem_mpL {D : List (Option (Nat × ByteArray))} {ms : Nat → Nat} {k : Nat} : k ∈ mpL D ms ↔ ∃ (i : Nat) (d : Nat × ByteArray), D[i]? = some (some d) ∧ k = ms i := by
  unfold mpL
  rw [List.mem_filterMap]
  constructor
  · rintro ⟨i, hi, h⟩
    cases hq : D[i]? with
    | none => rw [hq] at h; simp at h
    | some o =>
      cases o with
      | none => rw [hq] at h; simp at h
      | some d =>
        rw [hq] at h
        simp at h
        exact ⟨i, d, hq, h.symm⟩
  · rintro ⟨i, d, h, rfl⟩
    exact ⟨i, List.mem_range.2 (some_lt h), by rw [h]; simp⟩
def fp (q : Nat) (dv fv : Value) (D : List (Option (Nat × ByteArray))) (ms : Nat → Nat) : List Nat := q :: (dv.ownBlock.toList ++ (fv.ownBlock.toList ++ mpL D ms))
theorem mem_fp {k q : Nat} {dv fv : Value} {D : List (Option (Nat × ByteArray))} {ms : Nat → Nat} : k ∈ fp q dv fv D ms ↔ k = q ∨ dv.ownBlock = some k ∨ fv.ownBlock = some k ∨ ∃ (i : Nat) (d : Nat × ByteArray), D[i]? = some (some d) ∧ k = ms i := by
  unfold fp
  simp only [List.mem_cons, List.mem_append, Option.mem_toList, mem_mpL]
/-- F: the blocks that a call may turn -/
def Lay (w : World) (q : Nat) (F : List Nat) (nn : Nat) (T : Ts) : Prop := ∃ dv fv ld lf ms, F = fp q dv fv T.D ms ∧ Inn w q dv fv ld lf ms nn T
def Turn (F : List Nat) (w w' : World) (q nn : Nat) (T : Ts) : Prop := Only F w w' ∧ ∃ F', Lay w' q F' nn T ∧ ∀ k, k ∈ F' → k ∈ F ∨ w.heap.size ≤ k

theorem Inn.kinds {w : World} {q : Nat} {dv fv : Value} {ld lf : Nat} {ms : Nat → Nat} {nn : Nat} {T : Ts} (h : Inn w q dv fv ld lf ms nn T) {k : Nat} (hk : k ∈ fp q dv fv T.D ms) :
    (∃ es clock, w.heap[k]? = some (.map es clock)) ∨ ∃ cur e, w.heap[k]? = some (.cells cur e (0, 0)) ∧ (e = 125 ∨ e = 172 ∨ e = 176) := by
  rcases mem_fp.1 hk with rfl | hv | hv | ⟨i, d, h1, rfl⟩
  · exact .inr ⟨_, _, h.hq, .inl rfl⟩
  · obtain ⟨cur, hc⟩ := owns_block h.hd hv
    exact .inr ⟨_, _, hc, .inr (.inl rfl)⟩
  · obtain ⟨cur, hc⟩ := owns_block h.hf hv
    exact .inr ⟨_, _, hc, .inr (.inr rfl)⟩
  · obtain ⟨Dt, h2, _⟩ := h.hm i d h1
    exact .inl (map_block h2)
theorem Inn.lt {w : World} {q : Nat} {dv fv : Value} {ld lf : Nat} {ms : Nat → Nat} {nn : Nat} {T : Ts} (h : Inn w q dv fv ld lf ms nn T) {k : Nat} (hk : k ∈ fp q dv fv T.D ms) : k < w.heap.size := by
  rcases h.kinds hk with ⟨es, cl, h1⟩ | ⟨c', e', h1, h2⟩
  · exact (Array.getElem?_eq_some_iff.1 h1).1
  · exact (Array.getElem?_eq_some_iff.1 h1).1
theorem Inn.notin {w : World} {q : Nat} {dv fv : Value} {ld lf : Nat} {ms : Nat → Nat} {nn : Nat} {T : Ts} (h : Inn w q dv fv ld lf ms nn T) {k : Nat} {cur : Array Value} {e : TypeId} {fr : Nat × Nat} (hk : w.heap[k]? = some (.cells cur e fr))
    (he : ¬ (e = 125 ∨ e = 172 ∨ e = 176)) : k ∉ fp q dv fv T.D ms := fun hm => by
  rcases h.kinds hm with ⟨es, cl, h1⟩ | ⟨c', e', h1, h2⟩
  · rw [hk] at h1; cases h1
  · rw [hk] at h1
    injection h1 with h1
    injection h1 with _ h1 _
    subst h1
    exact he h2
theorem Inn.keep {w W : World} {q : Nat} {dv fv : Value} {ld lf : Nat} {ms : Nat → Nat} {nn : Nat} {T : Ts} (h : Inn w q dv fv ld lf ms nn T) (h1 : ∀ k, k ∈ fp q dv fv T.D ms → W.heap[k]? = w.heap[k]?) : Inn W q dv fv ld lf ms nn T :=
  ⟨(h1 q (mem_fp.2 (.inl rfl))).trans h.hq, owns_keep h.hd fun g hg => h1 g (mem_fp.2 (.inr (.inl hg))), owns_keep h.hf fun g hg => h1 g (mem_fp.2 (.inr (.inr (.inl hg)))),
    fun i d hd => by
      obtain ⟨Dt, h2, h3⟩ := h.hm i d hd
      exact ⟨Dt, map_keep h2 (h1 _ (mem_fp.2 (.inr (.inr (.inr ⟨i, d, hd, rfl⟩))))), h3⟩, h.hi, h.hld, h.hlf, h.ldl, h.lfl, h.dl, h.fl, h.lim⟩
theorem Inn.below {w W : World} {q : Nat} {dv fv : Value} {ld lf : Nat} {ms : Nat → Nat} {nn : Nat} {T : Ts} (h : Inn w q dv fv ld lf ms nn T) (hb : Below w.heap.size w W) : Inn W q dv fv ld lf ms nn T := h.keep fun k hk => hb.block k (h.lt hk)
theorem Inn.cells {w : World} {q : Nat} {dv fv : Value} {ld lf : Nat} {ms : Nat → Nat} {nn : Nat} {T : Ts} (h : Inn w q dv fv ld lf ms nn T) :
    w.cell? ⟨q, 0, none⟩ = some (.int .i64 (T.dr : Int)) ∧ w.cell? ⟨q, 1, none⟩ = some dv ∧ w.cell? ⟨q, 2, none⟩ = some (.int .i64 (ld : Int)) ∧ w.cell? ⟨q, 3, none⟩ = some (.int .i64 (T.fr : Int)) ∧ w.cell? ⟨q, 4, none⟩ = some fv ∧ w.cell? ⟨q, 5, none⟩ = some (.int .i64 (lf : Int)) ∧ w.cell? ⟨q, 6, none⟩ = some (.int .i64 (T.most : Int)) :=
  ⟨(cell_of_heap h.hq).trans rfl, (cell_of_heap h.hq).trans rfl, (cell_of_heap h.hq).trans rfl, (cell_of_heap h.hq).trans rfl, (cell_of_heap h.hq).trans rfl, (cell_of_heap h.hq).trans rfl, (cell_of_heap h.hq).trans rfl⟩
theorem Inn.frozen {w : World} {q : Nat} {dv fv : Value} {ld lf : Nat} {ms : Nat → Nat} {nn : Nat} {T : Ts} (h : Inn w q dv fv ld lf ms nn T) (j : Nat) : w.frozen? ⟨q, j, none⟩ = false := frozen_of_heap h.hq

theorem Lay.below {w W : World} {q : Nat} {F : List Nat} {nn : Nat} {T : Ts} (h : Lay w q F nn T) (hb : Below w.heap.size w W) : Lay W q F nn T := by
  obtain ⟨dv, fv, ld, lf, ms, hF, hI⟩ := h
  exact ⟨dv, fv, ld, lf, ms, hF, hI.below hb⟩
theorem Lay.lt {w : World} {q : Nat} {F : List Nat} {nn : Nat} {T : Ts} (h : Lay w q F nn T) : ∀ k, k ∈ F → k < w.heap.size := by
  obtain ⟨dv, fv, ld, lf, ms, rfl, hI⟩ := h
  exact fun k hk => hI.lt hk
theorem Lay.notin {w : World} {q : Nat} {F : List Nat} {nn : Nat} {T : Ts} (h : Lay w q F nn T) {k : Nat} {cur : Array Value} {e : TypeId} {fr : Nat × Nat} (hk : w.heap[k]? = some (.cells cur e fr))
    (he : ¬ (e = 125 ∨ e = 172 ∨ e = 176)) : k ∉ F := by
  obtain ⟨dv, fv, ld, lf, ms, rfl, hI⟩ := h
  exact hI.notin hk he
theorem Lay.up {w : World} {q : Nat} {F : List Nat} {nn : Nat} {T : Ts} (h : Lay w q F nn T) {N : Nat} (hN : nn ≤ N) : Lay w q F N T := by
  obtain ⟨dv, fv, ld, lf, ms, hF, hI⟩ := h
  exact ⟨dv, fv, ld, lf, ms, hF, hI.hq, hI.hd, hI.hf, fun i d hd => by
    obtain ⟨Dt, h2, h3⟩ := hI.hm i d hd
    exact ⟨Dt, h2.mono hN, h3⟩, hI.hi, hI.hld, hI.hlf, hI.ldl, hI.lfl, hI.dl, hI.fl, hI.lim⟩
theorem Lay.turn {w W : World} {q : Nat} {F : List Nat} {nn : Nat} {T : Ts} (h : Lay w q F nn T) (hb : Below w.heap.size w W) : Turn F w W q nn T := ⟨only_below (Only.refl _ _) hb, F, h.below hb, fun _ hk => .inl hk⟩
theorem turn_trans {F F' : List Nat} {w w' w'' : World} {q nn : Nat} {T : Ts} (ho : Only F w w') (hF : ∀ k, k ∈ F' → k ∈ F ∨ w.heap.size ≤ k) (h : Turn F' w' w'' q nn T) : Turn F w w'' q nn T := by
  obtain ⟨h1, F2, h2, h3⟩ := h
  refine ⟨⟨h1.os.trans ho.os, h1.tape.trans ho.tape, h1.output.trans ho.output, Nat.le_trans ho.size h1.size, fun k hk hS => (h1.block k (Nat.lt_of_lt_of_le hk ho.size) (fun e => ?_)).trans (ho.block k hk hS)⟩, F2, h2, fun k hk => ?_⟩
  · rcases hF k e with h | h
    · exact hS h
    · omega
  · rcases h3 k hk with h | h
    · exact hF k h
    · exact .inr (Nat.le_trans ho.size h)
theorem Turn.then {F : List Nat} {w w' w'' : World} {q nn nn' : Nat} {T T' : Ts} (h : Turn F w w' q nn T) (h2 : ∀ F', Lay w' q F' nn T → Turn F' w' w'' q nn' T') : Turn F w w'' q nn' T' := by
  obtain ⟨h1, F2, h3, h4⟩ := h
  exact turn_trans h1 h4 (h2 F2 h3)
theorem Turn.below {F : List Nat} {w w' W : World} {q nn : Nat} {T : Ts} (h : Turn F w w' q nn T) (hb : Below w'.heap.size w' W) : Turn F w W q nn T := by
  obtain ⟨h1, F2, h2, h3⟩ := h
  exact ⟨only_below h1 hb, F2, h2.below hb, h3⟩
theorem Turn.ahead {F : List Nat} {w w' W : World} {q nn : Nat} {T : Ts} (hb : Below w.heap.size w w') (h : Turn F w' W q nn T) : Turn F w W q nn T := turn_trans (only_below (Only.refl _ _) hb) (fun _ hk => .inl hk) h

theorem only_set {w : World} {b j : Nat} (v : Value) : Only [b] w (w.setCell ⟨b, j, none⟩ v) := ⟨rfl, rfl, rfl, by simp, fun k _ hn => heap_setCell_other _ _ _ _ (fun e => hn (by simp [e]))⟩
theorem only_drewN {S : List Nat} {a w : World} (h : Only S a w) (n : Nat) : Only S a (w.drewN n) := ⟨h.os, h.tape, h.output, h.size, h.block⟩
theorem only_drew {S : List Nat} {a w : World} (h : Only S a w) : Only S a w.drew := ⟨h.os, h.tape, h.output, h.size, h.block⟩
def hasR (rs : List Rw) (x : Int) : Bool := decide (0 ≤ x) && (match rs[x.toNat]? with | some r => r.t | none => false)
def lowR (rs : List Rw) : Nat := rs.findIdx fun r => !r.t
theorem lowR_le (rs : List Rw) : lowR rs ≤ rs.length := List.findIdx_le_length
theorem lowR_eq {rs : List Rw} {k : Nat} (h1 : ∀ i, i < k → ∃ r, rs[i]? = some r ∧ r.t = true) (h2 : ∀ r, rs[k]? = some r → r.t = false) (hk : k ≤ rs.length) : lowR rs = k := by
  have hle := lowR_le rs
  rcases Nat.lt_trichotomy (lowR rs) k with h | h | h
  · obtain ⟨r, hr, ht⟩ := h1 _ h
    have hlt := some_lt hr
    have := List.findIdx_getElem (p := fun r : Rw => !r.t) (xs := rs) (w := hlt)
    rw [List.getElem?_eq_getElem hlt] at hr
    injection hr with hr
    unfold lowR at hr
    rw [hr, ht] at this
    cases this
  · exact h
  · have hlt : k < rs.length := by omega
    have := List.not_of_lt_findIdx h
    have h3 := h2 _ (List.getElem?_eq_getElem hlt)
    rw [h3] at this
    cases this
/-- a row was laid -/
structure Clm (w w' : World) (q : Nat) (A : Array Value) (o : Nat) (v : Value) (ty : TypeId) (rs : List Rw) (v' : Value) : Prop where
  hq : w'.heap[q]? = some (.cells (A.setIfInBounds o v') 125 (0, 0))
  hr : w'.ownsRow 0 ty 4 v' rs.length (rwsC rs)
  ho : Only (q :: v.ownBlock.toList) w w'
  hv : ∀ k, v'.ownBlock = some k → v.ownBlock = some k ∨ w.heap.size ≤ k
/-- the map of a directory has turned -/
theorem Inn.hang {w W : World} {q : Nat} {dv fv : Value} {ld lf : Nat} {ms : Nat → Nat} {nn N : Nat} {T : Ts} (h : Inn w q dv fv ld lf ms nn T) {p : Nat} {d : Nat × ByteArray} (hp : T.D[p]? = some (some d)) (hg : w.grownBy W (some (ms p))) {n : ByteArray} {v : Option (Nat × Nat)} {Dt : DataW Unit} (hN : nn ≤ N)
    (h1 : W.ownsMap Tryz.prog 9 nodeR (ms p) N Dt) (h2 : Tab Dt (fun k => if k = ky n then v else T.M p k)) : Inn W q dv fv ld lf ms N (hangT T p n v) := by
  obtain ⟨D0, h3, -⟩ := h.hm p d hp
  obtain ⟨es, cl, h4⟩ := map_block h3
  have ne : ∀ {k : Nat} {cur : Array Value} {e : TypeId}, w.heap[k]? = some (.cells cur e (0, 0)) → W.heap[k]? = w.heap[k]? := fun {k cur e} hk => hg.block k (heap_lt hk) (fun e2 => by
    injection e2 with e2
    rw [e2, h4] at hk
    cases hk)
  refine ⟨(ne h.hq).trans h.hq, owns_keep h.hd fun g hg' => ?_, owns_keep h.hf fun g hg' => ?_, fun i e hi => ?_, h.hi, h.hld, h.hlf, h.ldl, h.lfl, h.dl, h.fl, h.lim⟩
  · obtain ⟨cur, hc⟩ := owns_block h.hd hg'
    exact ne hc
  · obtain ⟨cur, hc⟩ := owns_block h.hf hg'
    exact ne hc
  · by_cases hip : i = p
    · subst hip
      refine ⟨Dt, h1, ?_⟩
      have : (hangT T i n v).M i = fun k => if k = ky n then v else T.M i k := by
        funext k
        simp [hangT, putM]
      rw [this]
      exact h2
    · obtain ⟨D1, h5, h6⟩ := h.hm i e hi
      refine ⟨D1, (map_keep h5 (hg.block _ h5.lt (fun e2 => ?_))).mono hN, ?_⟩
      · injection e2 with e2
        exact hip (h.hi i p e d hi hp e2)
      · have : (hangT T p n v).M i = T.M i := by
          funext k
          simp [hangT, putM, hip]
        rw [this]
        exact h6
end Go.Proofs.YtnfddiabhpandaaGreatDoor.Tr
