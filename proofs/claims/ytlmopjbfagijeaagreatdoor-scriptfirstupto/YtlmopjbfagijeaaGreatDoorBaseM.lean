import Derived.WalkKit
import Derived.Lib.SliceRun
import Derived.Lib.BufferWrite
import Derived.Laws.CopyOwn
import Derived.Laws.IdiomStrings
import Derived.Deep.OwnRows
import Derived.WalkLawsBesides
import Derived.Deep.RegionLaw
import Derived.Deep.LoopGhost
import Derived.LoopN
import Derived.Deep.MidRow
import Derived.BigQuiet
import Derived.KernelRfl
import Derived.ArgAppend
import Derived.Test.YtlmopjbfagijeaaGreatDoorRows
import Derived.OwnWalk
import Derived.OrdersHeld
import Derived.BigFrame
import Derived.BigRegion
namespace Go.Proofs.YtlmopjbfagijeaaGreatDoor
open Go.RowKit Go.Lib

/-- Only the blocks of the list, and new ones, may have turned. -/
structure Only (S : List Nat) (w w' : World) : Prop where
  os : w'.os = w.os
  tape : w'.tape = w.tape
  output : w'.output = w.output
  size : w.heap.size ≤ w'.heap.size
  block : ∀ k, k < w.heap.size → k ∉ S → w'.heap[k]? = w.heap[k]?

theorem Only.refl (S : List Nat) (w : World) : Only S w w := ⟨rfl, rfl, rfl, Nat.le_refl _, fun _ _ _ => rfl⟩

theorem Only.trans {S : List Nat} {a b c : World} (h : Only S a b) (k : Only S b c) : Only S a c :=
  ⟨k.os.trans h.os, k.tape.trans h.tape, k.output.trans h.output, Nat.le_trans h.size k.size, fun i hi hS => (k.block i (Nat.lt_of_lt_of_le hi h.size) hS).trans (h.block i hi hS)⟩

theorem Only.alloc {S : List Nat} {a w : World} (h : Only S a w) (o : Obj) : Only S a (w.alloc o) :=
  h.trans ⟨rfl, rfl, rfl, by simp, fun k hk _ => Below.heap_alloc _ _ _ hk⟩

theorem Only.setCell {S : List Nat} {a w : World} (h : Only S a w) {p : Addr} (hp : p.block ∈ S) (u : Value) : Only S a (w.setCell p u) :=
  h.trans ⟨rfl, rfl, rfl, by simp [World.setCell], fun k _ hS => Below.heap_setCell _ _ _ _ (fun e => hS (e ▸ hp))⟩

theorem Only.setRow {S : List Nat} {a w : World} (h : Only S a w) {g : Nat} (hg : g ∈ S) (cs : Array Value) : Only S a (w.setRow g cs) :=
  h.trans ⟨rfl, rfl, rfl, by simp, fun k _ hS => setRow_other _ _ _ _ (fun e => hS (e ▸ hg))⟩

theorem Only.mono {S T : List Nat} {a w : World} (h : Only S a w) (hs : ∀ k ∈ S, k ∈ T) : Only T a w :=
  ⟨h.os, h.tape, h.output, h.size, fun k hk hT => h.block k hk (fun e => hT (hs k e))⟩

theorem Only.below {S : List Nat} {a w : World} {B : Nat} (h : Only S a w) (hB : B ≤ a.heap.size) (hs : ∀ k ∈ S, B ≤ k) : Below B a w :=
  ⟨h.os, h.tape, h.output, h.size, fun k hk => h.block k (by omega) (fun e => by have := hs k e; omega)⟩

theorem heap_lt {w : World} {k : Nat} {o : Obj} (h : w.heap[k]? = some o) : k < w.heap.size := (Array.getElem?_eq_some_iff.1 h).1

theorem cell_of_heap {w : World} {k j : Nat} {c : Array Value} {t : TypeId} {fr : Nat × Nat} (h : w.heap[k]? = some (.cells c t fr)) : w.cell? ⟨k, j, none⟩ = c[j]? := by
  simp [World.cell?, h]

theorem frozen_of_heap {w : World} {k j : Nat} {c : Array Value} {t : TypeId} (h : w.heap[k]? = some (.cells c t (0, 0))) : w.frozen? ⟨k, j, none⟩ = false := by
  simp [World.frozen?, h]

theorem setRow_alloc (w : World) (c c' : Array Value) (t : TypeId) (fr : Nat × Nat) : (w.alloc (.cells c t fr)).setRow w.heap.size c' = w.alloc (.cells c' t fr) := by
  have hm : ∀ (a : Array Obj) (x : Obj) (f : Obj → Obj), (a.push x).modify a.size f = a.push (f x) := by
    intro a x f
    apply Array.ext
    · simp
    · intro i h1 h2
      simp only [Array.getElem_modify, Array.getElem_push]
      by_cases h : a.size = i
      · subst h; simp
      · have hi : i < a.size := by simp at h1; omega
        simp [h, hi]
  unfold World.setRow
  show ({ w.alloc (.cells c t fr) with heap := (w.heap.push (.cells c t fr)).modify w.heap.size _ } : World) = _
  rw [hm]
  rfl

theorem heap_new (w : World) (o : Obj) : (w.alloc o).heap[w.heap.size]? = some o := by
  show (w.heap.push o)[w.heap.size]? = _
  simp

theorem add_block (a : Addr) (j : Nat) : (a.add j).block = a.block := by
  unfold Addr.add
  split <;> rfl

/-- 'copy(own, s)' behind 'own := make([]byte, len(s))'. -/
theorem run_copy_new_string {P : Program} (w : World) (dT sT ty e : TypeId) (z : Value) (s : ByteArray) (hu : P.underlying dT = some (.slice e)) (hs : (P.info? e).map (·.size) = some 1) :
    (Builtin.copy_ #[dT, sT] ty #[.slice (some ⟨w.heap.size, 0, none⟩) s.size s.size, .string s]).run P (w.alloc (.cells (madeCells #[z] s.size) e)) =
      .ok (goInt s.size) (w.alloc (.cells (byteCells s.data.toList).toArray e)) := by
  rw [run_copy_row_string (w.alloc (.cells (madeCells #[z] s.size) e)) dT sT ty e w.heap.size 0 s.size s.size s (madeCells #[z] s.size) e hu hs (heap_new _ _) (Nat.le_refl _) (by simp [size_madeCells]), setRow_alloc]
  have h1 : List.drop s.size (madeCells #[z] s.size).toList = [] := List.drop_eq_nil_of_le (by simp [size_madeCells])
  simp [h1]

/-- 'copy(out, rest)' behind 'out := make([]byte, n)', where the first n cells of rest are known. -/
theorem run_copy_new_cells {P : Program} (w : World) (dT sT ty e : TypeId) (z : Value) (cs : List Value) (a : Addr) (sLen sCap : Nat) (hu : P.underlying dT = some (.slice e)) (hs : (P.info? e).map (·.size) = some 1)
    (hn : cs.length ≤ sLen) (ha : a.block < w.heap.size) (hsrc : ∀ j v, cs[j]? = some v → w.cell? (a.add j) = some v) (h1 : ∀ v ∈ cs, v.oneCell' = true) :
    (Builtin.copy_ #[dT, sT] ty #[.slice (some ⟨w.heap.size, 0, none⟩) cs.length cs.length, .slice (some a) sLen sCap]).run P (w.alloc (.cells (madeCells #[z] cs.length) e)) =
      .ok (goInt cs.length) (w.alloc (.cells cs.toArray e)) := by
  rw [run_copy_row (P := P) (w.alloc (.cells (madeCells #[z] cs.length) e)) dT sT ty e w.heap.size 0 cs.length cs.length a sLen sCap (madeCells #[z] cs.length) e cs hu hs (heap_new _ _) (Nat.min_eq_right hn).symm
    (fun j v hj => by rw [← hsrc j v hj]; exact World.cell?_of_block (by rw [add_block]; exact Below.heap_alloc _ _ _ ha)) (by simp [size_madeCells]) h1, setRow_alloc]
  have h1 : List.drop cs.length (madeCells #[z] cs.length).toList = [] := List.drop_eq_nil_of_le (by simp [size_madeCells])
  simp [h1]

/-- 'clear(s)', s lying in a row that is known whole; nothing is asked of its length. -/
theorem run_clear_row {P : Program} (w : World) (t e ty : TypeId) (z : Value) (ht : P.underlying t = some (.slice e)) (hv : ∀ w, (zeroValue e).run P w = .ok z w) (hz : z.cells = #[z]) (h1 : z.oneCell' = true)
    (g o n c : Nat) (cur : Array Value) (T : TypeId) (hg : w.heap[g]? = some (.cells cur T (0, 0))) (hfit : o + n ≤ cur.size) :
    (Builtin.clear_ #[t] ty #[.slice (some ⟨g, o, none⟩) n c]).run P w = .ok (.tuple #[]) (w.setRow g (cur.toList.take o ++ List.replicate n z ++ cur.toList.drop (o + n)).toArray) := by
  have hzc : (Builtin.zeroCells z.cells n).toList = List.replicate n z := by
    rw [hz]
    simp [Builtin.zeroCells]
    apply List.ext_getElem
    · simp
    · intro i h1 h2
      simp [Nat.mod_one]
  have hst := run_storeCells_at P g o T (List.replicate n z) 0 cur w hg (by simpa using hfit) (by intro v hv'; rw [List.eq_of_mem_replicate hv']; exact h1)
  simp only [Nat.add_zero, List.length_replicate] at hst
  cases n with
  | zero =>
    simp [Builtin.clear_, run_underlying ht]
    exact (setRow_self w g cur T (0, 0) hg).symm
  | succ m => simp [Builtin.clear_, run_underlying ht, hv, hzc, hst]

theorem run_clear_empty {P : Program} (w : World) (t e ty : TypeId) (ht : P.underlying t = some (.slice e)) (a : Option Addr) (c : Nat) :
    (Builtin.clear_ #[t] ty #[.slice a 0 c]).run P w = .ok (.tuple #[]) w := by
  cases a <;> simp [Builtin.clear_, run_underlying ht]

end Go.Proofs.YtlmopjbfagijeaaGreatDoor

namespace Go.Proofs.YtlmopjbfagijeaaGreatDoor
open Go.RowKit Go.Lib

/-- 'append' to a row of the call's own, as one step of a region that draws. -/
theorem step_append_own {P : Program} {ops : Array Oper} {o : Oper} {a : Act} {w : World} {K : Act → World → Prop} {Q : Exit → Act → World → Prop} {E : Prop}
    (hg : o.guard = none) (s x : Operand) (t : TypeId) (hop : o.op = Op.call { callee := Callee.builtin Builtin.append, args := #[s, x], argTypes := #[t, t] })
    (base : Nat) (e : TypeId) (i : TypeInfo) (z : Value) (size bytes : Nat) (h1 : P.underlying t = some (.slice e)) (h2 : P.info? e = some i) (h3 : i.zero = some z) (h4 : i.size = size) (h5 : i.bytes = bytes) (h6 : z.cells.size = size) (h7 : 0 < size)
    (v : Value) (n : Nat) (xs : List Value) (hs : a.eval s = v) (hown : w.ownsRow base e size v n xs)
    (ad : Addr) (m c : Nat) (news : List Value) (hx : a.eval x = .slice (some ad) m c) (hn : news.length = m * size) (hc : ∀ j u, news[j]? = some u → w.cell? (ad.add j) = some u) (h1c : ∀ u ∈ news, u.oneCell' = true)
    (b1 : n + m ≤ maxLen) (b2 : (n + m) * bytes ≤ 140737488355328) (b3 : base ≤ w.heap.size)
    (hK : ∀ v' w', w'.ownsRow base e size v' (n + m) (xs ++ news) → w.grownBy w' v.ownBlock → K (a.put o.dst v') w') :
    if Region.wanted o (yielded ops a.tmps) = true then Oper.wp P o a w K Q else E := by
  have hw : Region.wanted o (yielded ops a.tmps) = true := by simp [Region.wanted, hg]
  rw [if_pos hw]
  exact wp_append_own w s x t hop base e i z size bytes h1 h2 h3 h4 h5 h6 h7 v n xs hs hown ad m c news hx hn hc h1c b1 b2 b3 (fun v' w' r1 r2 _ => hK v' w' r1 r2)

theorem byteCells_append (l r : List UInt8) : byteCells (l ++ r) = byteCells l ++ byteCells r := by simp [byteCells]

/-- 'string(b)', b a row of the call's own, or nil. -/
theorem convert_own {P : Program} (w : World) (src dst e : TypeId) (base : Nat) (v : Value) (l : List UInt8) (hs : P.underlying src = some (.slice e)) (he : P.underlying e = some (.int .u8)) (hd : P.underlying dst = some .string)
    (h : w.ownsRow base e 1 v l.length (byteCells l)) : (convert src dst v).run P w = .ok (.string ⟨l.toArray⟩) w := by
  rcases h.2 with ⟨rfl, h0⟩ | ⟨g, cap, cur, rfl, _, _, _, _, _, _⟩
  · obtain rfl : l = [] := List.eq_nil_of_length_eq_zero h0
    rw [run_convert_bytes_string w src dst e none 0 0 hs he hd]
    rfl
  · refine run_convert_bytes_back w src dst e ⟨g, 0, none⟩ cap l hs he hd fun j hj => ?_
    rw [Addr.add_lit, Nat.zero_add, h.cellAt j (by omega)]
    simp [byteCells, hj]

theorem grown_below {w w' : World} {B : Nat} {v : Value} {e : TypeId} {size n : Nat} {xs : List Value} (h : w.grownBy w' v.ownBlock) (hB : B ≤ w.heap.size) (ho : w.ownsRow B e size v n xs) : Below B w w' := by
  refine ⟨h.os, h.tape, h.output, h.size, fun k hk => h.block k (by omega) ?_⟩
  rcases ho.2 with ⟨rfl, _⟩ | ⟨g, cap, cur, rfl, hb, _⟩
  · simp [Value.ownBlock]
  · simp [Value.ownBlock]; omega

/-- a row of two new cells, one behind the other -/
theorem cells_new (w : World) (cs : Array Value) (e : TypeId) (j : Nat) (u : Value) (h : cs[j]? = some u) : (w.alloc (.cells cs e)).cell? ((⟨w.heap.size, 0, none⟩ : Addr).add j) = some u := by
  rw [Addr.add_lit, Nat.zero_add, cell_of_heap (heap_new w _)]
  exact h

end Go.Proofs.YtlmopjbfagijeaaGreatDoor

namespace Go.Proofs.YtlmopjbfagijeaaGreatDoor
open Go.RowKit Go.Lib

/-- cells laid over others, one behind the other -/
def setMany (cs : Array Value) (o : Nat) : List Value → Array Value
  | [] => cs
  | v :: vs => setMany (cs.setIfInBounds o v) (o + 1) vs

theorem heap_setCells (b : Nat) (t : TypeId) : ∀ (vs : List Value) (o : Nat) (cs : Array Value) (w : World), w.heap[b]? = some (.cells cs t (0, 0)) → (w.setCells b o vs).heap[b]? = some (.cells (setMany cs o vs) t (0, 0))
  | [], _, _, _, h => h
  | v :: vs, o, cs, w, h => by
    have h1 := heap_setCell_same w b o cs t v h
    exact heap_setCells b t vs (o + 1) _ _ h1

theorem heap_setCells_other (b k : Nat) (h : k ≠ b) : ∀ (vs : List Value) (o : Nat) (w : World), (w.setCells b o vs).heap[k]? = w.heap[k]?
  | [], _, _ => rfl
  | v :: vs, o, w => by
    have h1 := heap_setCells_other b k h vs (o + 1) (w.setCell ⟨b, o, none⟩ v)
    exact h1.trans (heap_setCell_other w ⟨b, o, none⟩ k v h)

theorem size_setCells (b : Nat) : ∀ (vs : List Value) (o : Nat) (w : World), (w.setCells b o vs).heap.size = w.heap.size ∧ (w.setCells b o vs).os = w.os ∧ (w.setCells b o vs).tape = w.tape ∧ (w.setCells b o vs).output = w.output
  | [], _, _ => ⟨rfl, rfl, rfl, rfl⟩
  | v :: vs, o, w => by
    obtain ⟨h1, h2, h3, h4⟩ := size_setCells b vs (o + 1) (w.setCell ⟨b, o, none⟩ v)
    exact ⟨h1.trans (by simp [World.setCell]), h2, h3, h4⟩

theorem Only.setCells {S : List Nat} {a w : World} (h : Only S a w) {b : Nat} (hb : b ∈ S) (o : Nat) (vs : List Value) : Only S a (w.setCells b o vs) := by
  obtain ⟨h1, h2, h3, h4⟩ := size_setCells b vs o w
  exact h.trans ⟨h2, h3, h4, by omega, fun k _ hk => heap_setCells_other b k (fun e => hk (e ▸ hb)) vs o w⟩

theorem Only.drew {S : List Nat} {a w : World} (h : Only S a w) : Only S a w.drew := ⟨h.os, h.tape, h.output, h.size, h.block⟩

theorem Below.setCells {B : Nat} {a w : World} (h : Below B a w) {b : Nat} (hb : B ≤ b) (o : Nat) (vs : List Value) : Below B a (w.setCells b o vs) := by
  obtain ⟨h1, h2, h3, h4⟩ := size_setCells b vs o w
  exact h.trans ⟨h2, h3, h4, by omega, fun k hk => heap_setCells_other b k (by omega) vs o w⟩

theorem setMany_mid (pre mid post : List Value) : ∀ (vs done : List Value), mid.length = vs.length → setMany (pre ++ done ++ mid ++ post).toArray (pre.length + done.length) vs = (pre ++ done ++ vs ++ post).toArray := by
  induction mid with
  | nil =>
    intro vs done h
    obtain rfl : vs = [] := List.eq_nil_of_length_eq_zero (by simpa using h.symm)
    rfl
  | cons x mid ih =>
    intro vs done h
    cases vs with
    | nil => simp at h
    | cons v vs =>
      have e : (pre ++ done ++ x :: mid ++ post).toArray.setIfInBounds (pre.length + done.length) v = (pre ++ (done ++ [v]) ++ mid ++ post).toArray := by
        have : (pre ++ done ++ x :: mid ++ post).set (pre.length + done.length) v = pre ++ (done ++ [v]) ++ mid ++ post := by
          rw [show pre ++ done ++ x :: mid ++ post = (pre ++ done) ++ (x :: (mid ++ post)) by simp, List.set_append_right _ _ (by simp)]
          simp
        simp only [List.setIfInBounds_toArray, this]
      show setMany _ _ vs = _
      rw [e]
      have := ih vs (done ++ [v]) (by simpa using h)
      simp only [List.length_append, List.length_cons, List.length_nil] at this
      rw [show pre.length + done.length + 1 = pre.length + (done.length + (0 + 1)) by omega, this]
      simp

/-- a part of a row laid anew -/
theorem setMany_part (pre mid post vs : List Value) (h : mid.length = vs.length) : setMany (pre ++ mid ++ post).toArray pre.length vs = (pre ++ vs ++ post).toArray := by
  have := setMany_mid pre mid post vs [] h
  simpa using this

theorem setMany_all (cs : Array Value) (vs : List Value) (h : cs.size = vs.length) : setMany cs 0 vs = vs.toArray := by
  have := setMany_part [] cs.toList [] vs (by simpa using h)
  simpa using this

theorem there_of_heap {w : World} {b o n : Nat} {cs : Array Value} {t : TypeId} (h : w.heap[b]? = some (.cells cs t (0, 0))) (hn : o + n ≤ cs.size) : w.there b o n := by
  intro j hj
  refine ⟨?_, frozen_of_heap h⟩
  rw [cell_of_heap h, Array.getElem?_eq_getElem (by omega)]
  rfl

theorem range_of_heap {w : World} {b : Nat} {pre mid post : List Value} {cs : Array Value} {t : TypeId} {fr : Nat × Nat} (h : w.heap[b]? = some (.cells cs t fr)) (hc : cs = (pre ++ mid ++ post).toArray) : w.rangeAt b pre.length mid := by
  intro j v hv
  subst hc
  have hj := (List.getElem?_eq_some_iff.1 hv).1
  rw [cell_of_heap h]
  simp only [List.getElem?_toArray, List.append_assoc]
  rw [List.getElem?_append_right (by omega), show pre.length + j - pre.length = j by omega, List.getElem?_append_left hj]
  exact hv

theorem put_none (a : Act) (v : Value) : a.put none v = a := rfl

end Go.Proofs.YtlmopjbfagijeaaGreatDoor

namespace Go.Proofs.YtlmopjbfagijeaaGreatDoor
open Go.RowKit Go.Lib

/-- Derived/Still.lean's Bool over a region, step by step, what has come up written out: the kernel reckons each step by itself. -/
theorem lexB_of {md : Region.Mode} {ops : Array Oper} (n : Nat) (L : Array Bool) (hs : Region.noSelect ops = true) (hn : ops.size = n) (hL : Array.replicate n false = L) (h : Region.lexFrom md ops n 0 L = true) : Region.lexB md ops = true := by
  subst hn hL
  simp only [Region.lexB, Bool.and_eq_true]
  exact ⟨hs, h⟩
theorem lex_step {md : Region.Mode} {ops : Array Oper} {fuel k : Nat} {L : Array Bool} (L' : Array Bool) (h1 : (Region.ready md ops L).contains k = true) (h2 : Region.free md ops L k = true) (h3 : L.setIfInBounds k true = L')
    (h : Region.lexFrom md ops fuel (k + 1) L' = true) : Region.lexFrom md ops (fuel + 1) k L = true := by
  subst h3
  simp only [Region.lexFrom, Bool.and_eq_true]
  exact ⟨⟨h1, h2⟩, h⟩
theorem lex_done {md : Region.Mode} {ops : Array Oper} {k : Nat} {L : Array Bool} (h : (Region.ready md ops L).isEmpty = true) : Region.lexFrom md ops 0 k L = true := h

end Go.Proofs.YtlmopjbfagijeaaGreatDoor

namespace Go.Proofs.YtlmopjbfagijeaaGreatDoor
open Go.RowKit Go.Lib

theorem run_load_one {P : Program} {ρ : Operand → Value} {o : Oper} (ty : TypeId) (x : Operand) (h : o.op = .load ty x) (b off : Nat) (v : Value) (hx : ρ x = .pointer (some ⟨b, off, none⟩)) (kd : IntKind)
    (hu : P.underlying ty = some (.int kd)) (w : World) (hc : w.cell? ⟨b, off, none⟩ = some v) : (execOp ρ o).run P w = .ok (.value v) w := by
  have hagg : (isAgg ty).run P w = .ok false w := by
    unfold isAgg
    rw [Sem.run_bind, run_underlying hu w]
    rfl
  unfold execOp
  simp [h, hx, Instr.loadAt, Instr.sureAddr, loadVar, hagg, hc]

theorem quiet_load {P : Program} {C : World → Prop} {a : Act} {o : Oper} {K : Act → Prop} (ty : TypeId) (x : Operand) (h : o.op = .load ty x) (b off : Nat) (v : Value) (hx : a.eval x = .pointer (some ⟨b, off, none⟩)) (kd : IntKind)
    (hu : P.underlying ty = some (.int kd)) (hc : ∀ w, C w → w.cell? ⟨b, off, none⟩ = some v) (hk : K (a.put o.dst v)) : o.quiet P a C K :=
  ⟨v, fun w hw => by unfold Oper.quietAt; rw [run_load_one ty x h b off v hx kd hu w (hc w hw)]; exact ⟨rfl, rfl⟩, hk⟩

/-- a world put under a name of its own, for the kernel too -/
theorem with_world {R : World → Prop} (w : World) {Q : World → Prop} (hq : Q w) (h : ∀ w2, Q w2 → R w2) : R w := h w hq

theorem cell_drewN (w : World) (n : Nat) (a : Addr) : (w.drewN n).cell? a = w.cell? a := rfl

end Go.Proofs.YtlmopjbfagijeaaGreatDoor

namespace Go.Proofs.YtlmopjbfagijeaaGreatDoor
open Go.RowKit Go.Lib

/-- 'copy(row[o:], s)', as many bytes as there is room for. -/
theorem run_copy_some_string {P : Program} (w : World) (dT sT ty elem : TypeId) (g o dLen dCap m : Nat) (s : ByteArray) (cur : Array Value) (t : TypeId)
    (hu : P.underlying dT = some (.slice elem)) (hs : (P.info? elem).map (·.size) = some 1) (hg : w.heap[g]? = some (.cells cur t (0, 0))) (hm : Nat.min s.size dLen = m) (hfit : o + m ≤ cur.size) :
    (Builtin.copy_ #[dT, sT] ty #[.slice (some ⟨g, o, none⟩) dLen dCap, .string s]).run P w =
      .ok (goInt m) (w.setRow g (cur.toList.take o ++ byteCells (s.data.toList.take m) ++ cur.toList.drop (o + m)).toArray) := by
  have hms : m ≤ s.size := by rw [← hm]; exact Nat.min_le_left _ _
  have hlen : (byteCells (s.data.toList.take m)).length = m := by rw [byteCells_length, List.length_take, ← size_eq]; omega
  have hst := run_storeCells_at P g o t (byteCells (s.data.toList.take m)) 0 cur w hg (by rw [hlen]; simpa using hfit) (byteCells_one _)
  have htk : List.take m (List.map (fun b : UInt8 => Value.int IntKind.u8 (b.toNat : Int)) s.data.toList) = byteCells (s.data.toList.take m) := by
    rw [← List.map_take]
    rfl
  rw [hlen] at hst
  simp only [Nat.add_zero] at hst
  cases hq : P.info? elem with
  | none => simp [hq] at hs
  | some i =>
    simp [Builtin.copy_, run_underlying hu, Builtin.lenOf, Builtin.firstCells, sizeOf, typeInfo, hq, hm]
    rw [htk, hst]
    simp [Result.andThen]

/-- a builtin's run, as one step of a region that draws -/
theorem step_copy_string {P : Program} {ops : Array Oper} {o : Oper} {a : Act} {w : World} {K : Act → World → Prop} {Q : Exit → Act → World → Prop} {E : Prop} (hgd : o.guard = none) (d x : Operand) (dT sT : TypeId)
    (ho : o.op = .call { callee := .builtin .copy, args := #[d, x], argTypes := #[dT, sT] }) (elem : TypeId) (hu : P.underlying dT = some (.slice elem)) (hsz : (P.info? elem).map (·.size) = some 1)
    (g off dLen dCap m : Nat) (s : ByteArray) (hd : a.eval d = .slice (some ⟨g, off, none⟩) dLen dCap) (hx : a.eval x = .string s) (cur : Array Value) (t : TypeId) (hg : w.heap[g]? = some (.cells cur t (0, 0)))
    (hm : Nat.min s.size dLen = m) (hfit : off + m ≤ cur.size) (cs : List Value) (hcs : cur.toList.take off ++ byteCells (s.data.toList.take m) ++ cur.toList.drop (off + m) = cs)
    (h : K (a.put o.dst (goInt m)) (w.setRow g cs.toArray)) :
    if Region.wanted o (yielded ops a.tmps) = true then Oper.wp P o a w K Q else E := by
  have hw : Region.wanted o (yielded ops a.tmps) = true := by simp [Region.wanted, hgd]
  rw [if_pos hw]
  have hrun := run_copy_some_string (P := P) w dT sT o.type elem g off dLen dCap m s cur t hu hsz hg hm hfit
  unfold Oper.wp
  rw [hcs] at hrun
  simp [execOp, ho, resolve, invoke, builtin, hd, hx, hrun, Result.andThen]
  exact h

theorem step_load_mid {P : Program} {ops : Array Oper} {o : Oper} {a : Act} {w : World} {K : Act → World → Prop} {Q : Exit → Act → World → Prop} {E : Prop} (hgd : o.guard = none) (ty : TypeId) (x : Operand) (ho : o.op = .load ty x)
    (b off : Nat) (hx : a.eval x = .pointer (some ⟨b, off, none⟩)) (cs : List Value) (d : TypeDesc) (hc : w.rangeAt b off cs) (hu : P.underlying ty = some d) (hd : d.isRow = true) (hi : (P.info? ty).map (·.size) = some cs.length)
    (h : K (a.put o.dst (.agg cs.toArray)) w) : if Region.wanted o (yielded ops a.tmps) = true then Oper.wp P o a w K Q else E := by
  have hw : Region.wanted o (yielded ops a.tmps) = true := by simp [Region.wanted, hgd]
  rw [if_pos hw]
  exact wp_load_mid ty x ho b off hx cs d hc hu hd hi h

theorem step_store_mid {P : Program} {ops : Array Oper} {o : Oper} {a : Act} {w : World} {K : Act → World → Prop} {Q : Exit → Act → World → Prop} {E : Prop} (hgd : o.guard = none) (ty : TypeId) (x y : Operand) (ho : o.op = .store ty x y)
    (b off : Nat) (cells : Array Value) (hx : a.eval x = .pointer (some ⟨b, off, none⟩)) (hy : a.eval y = .agg cells) (ht : w.there b off cells.size) (hi : (P.info? ty).map (·.size) = some cells.size) (h1 : cells.all (·.oneCell') = true)
    (h : K (a.put o.dst undef) (w.setCells b off cells.toList)) : if Region.wanted o (yielded ops a.tmps) = true then Oper.wp P o a w K Q else E := by
  have hw : Region.wanted o (yielded ops a.tmps) = true := by simp [Region.wanted, hgd]
  rw [if_pos hw]
  exact wp_store_mid ty x y ho b off cells hx hy ht hi h1 h

end Go.Proofs.YtlmopjbfagijeaaGreatDoor

namespace Go.Proofs.YtlmopjbfagijeaaGreatDoor
open Go.RowKit Go.Lib

theorem heap_setCell_fr (w : World) (g i : Nat) (cs : Array Value) (t : TypeId) (fr : Nat × Nat) (v : Value) (hg : w.heap[g]? = some (.cells cs t fr)) : (w.setCell ⟨g, i, none⟩ v).heap[g]? = some (.cells (cs.setIfInBounds i v) t fr) := by
  rw [setCell_eq_setRow w g i cs t fr v hg]
  exact setRow_heap w g cs _ t _ hg
theorem heap_setCells_fr (b : Nat) (t : TypeId) (fr : Nat × Nat) : ∀ (vs : List Value) (o : Nat) (cs : Array Value) (w : World), w.heap[b]? = some (.cells cs t fr) → (w.setCells b o vs).heap[b]? = some (.cells (setMany cs o vs) t fr)
  | [], _, _, _, h => h
  | v :: vs, o, cs, w, h => heap_setCells_fr b t fr vs (o + 1) _ _ (heap_setCell_fr w b o cs t fr v h)

/-- a row of the call's own whose frozen mark, if it has one, lies beyond its cells: what '[]byte(s)' lays -/
def RowF (w : World) (base : Nat) (e : TypeId) (v : Value) (xs : List Value) : Prop :=
  ∃ g cap cur fr, v = .slice (some ⟨g, 0, none⟩) xs.length cap ∧ base ≤ g ∧ w.heap[g]? = some (.cells cur e fr) ∧ (∀ j, j < cap → w.frozen? ⟨g, j, none⟩ = false) ∧ cur.size = cap ∧ xs.length ≤ cap ∧ cap ≤ maxLen ∧ cur.toList.take xs.length = xs

theorem RowF.of_owns {w : World} {base : Nat} {e : TypeId} {v : Value} {xs : List Value} (h : w.ownsRow base e 1 v xs.length xs) (hv : 0 < xs.length) : RowF w base e v xs := by
  rcases h.2 with ⟨rfl, h0⟩ | ⟨g, cap, cur, rfl, hb, hg, hn, hc, hs, ht⟩
  · omega
  · exact ⟨g, cap, cur, (0, 0), rfl, hb, hg, fun j _ => frozen_of_heap hg, by omega, hn, hc, by simpa using ht⟩

/-- 'append' to such a row -/
theorem run_append_rowF {P : Program} (w : World) (base : Nat) (t ty e : TypeId) (i : TypeInfo) (z : Value) (bytes : Nat) (ht : P.underlying t = some (.slice e)) (hi : P.info? e = some i) (hz : i.zero = some z)
    (hsize : i.size = 1) (hby : i.bytes = bytes) (hzs : z.cells.size = 1) (v : Value) (xs : List Value) (hv : RowF w base e v xs)
    (a : Addr) (m c : Nat) (news : List Value) (hl : news.length = m) (hnews : ∀ j u, news[j]? = some u → w.cell? (a.add j) = some u) (h1 : ∀ u ∈ news, u.oneCell' = true)
    (h63 : xs.length + m ≤ maxLen) (hbytes : (xs.length + m) * bytes ≤ 140737488355328) (hbase : base ≤ w.heap.size) :
    ∃ v' w', (Builtin.append_ #[t, t] ty #[v, .slice (some a) m c]).run P w = .ok v' w' ∧ RowF w' base e v' (xs ++ news) ∧ Below base w w' := by
  obtain ⟨g, cap, cur, fr, rfl, hb, hg, hf, hs, hn, hc, htk⟩ := hv
  by_cases hroom : xs.length + m ≤ cap
  · have hcell : ∀ j, j < news.length → (w.cell? ⟨g, 0 + xs.length * i.size + j, none⟩).isSome = true := by
      intro j hj
      rw [cell_of_heap hg, hsize, Array.getElem?_eq_getElem (by omega)]
      rfl
    have hfr : ∀ j, j < news.length → w.frozen? ⟨g, 0 + xs.length * i.size + j, none⟩ = false := by
      intro j hj
      rw [hsize]
      exact hf _ (by omega)
    have hrun := run_append_room_cells (P := P) w t ty e i ht hi g 0 xs.length cap a m c news (by rw [hsize]; omega) hnews h1 hroom hcell hfr
    have hpl : (cur.toList.take xs.length).length = xs.length := by rw [htk]
    have e2 : (cur.toList.take xs.length ++ (cur.toList.drop xs.length).take m ++ cur.toList.drop (xs.length + m)).toArray = cur := by
      rw [List.append_assoc, ← List.drop_drop, List.take_append_drop, List.take_append_drop, Array.toArray_toList]
    have e1 := setMany_part (cur.toList.take xs.length) ((cur.toList.drop xs.length).take m) (cur.toList.drop (xs.length + m)) news (by rw [List.length_take, List.length_drop, Array.length_toList]; omega)
    rw [e2, hpl, htk] at e1
    have ep : 0 + xs.length * i.size = xs.length := by rw [hsize]; omega
    rw [ep] at hrun
    refine ⟨_, _, hrun, ⟨g, cap, setMany cur xs.length news, fr, by rw [List.length_append, hl], hb, heap_setCells_fr g e fr news _ cur w hg, ?_, ?_, by rw [List.length_append]; omega, hc, ?_⟩, ?_⟩
    · intro j hj
      rw [World.frozen?_setCells]
      exact hf j hj
    · rw [e1]
      simp only [List.size_toArray, List.length_append, List.length_drop, Array.length_toList]
      omega
    · rw [e1]
      exact List.take_left
    · exact Below.setCells (Below.refl _ _) hb _ _
  · have hm : 0 < m := by omega
    obtain ⟨v', w', hrun, ho, hgr⟩ := run_append_arg_grows (P := P) w t ty e i z 1 bytes ht hi hz hsize hby hzs (by omega) ⟨g, 0, none⟩ xs.length cap xs (by omega)
      (fun j u hj => by
        have hj' := (List.getElem?_eq_some_iff.1 hj).1
        rw [Addr.add_lit, Nat.zero_add, cell_of_heap hg]
        have : (cur.toList.take xs.length)[j]? = some u := by rw [htk]; exact hj
        rw [List.getElem?_take, if_pos hj'] at this
        simpa using this)
      a m c news (by omega) hnews (by omega) h63 hbytes
    refine ⟨v', w', hrun, ?_, Below.grown (Below.refl _ _) hgr hbase (by simp)⟩
    have hll : (xs ++ news).length = xs.length + m := by rw [List.length_append, hl]
    have ho' : w'.ownsRow w.heap.size e 1 v' (xs ++ news).length (xs ++ news) := by rw [hll]; exact ho
    obtain ⟨g', cap', cur', fr', r1, r2, r3, r4, r5, r6, r7, r8⟩ := RowF.of_owns ho' (by omega)
    exact ⟨g', cap', cur', fr', r1, by omega, r3, r4, r5, r6, r7, r8⟩

end Go.Proofs.YtlmopjbfagijeaaGreatDoor

namespace Go.Proofs.YtlmopjbfagijeaaGreatDoor
open Go.RowKit Go.Lib

/-- a digit -/
def dig (n : Nat) : UInt8 := if n < 10 then UInt8.ofNat (48 + n) else UInt8.ofNat (87 + n)
/-- is it one? -/
def isDig (c : UInt8) : Bool := decide (48 ≤ c.toNat ∧ c.toNat ≤ 57 ∨ 97 ≤ c.toNat ∧ c.toNat ≤ 102)
/-- its value -/
def digVal (c : UInt8) : Nat := if c.toNat ≤ 57 then c.toNat - 48 else c.toNat - 87

theorem dig_is (n : Nat) (h : n < 16) : isDig (dig n) = true := by
  revert n
  decide
theorem dig_val (n : Nat) (h : n < 16) : digVal (dig n) = n := by
  revert n
  decide
theorem val_lt (c : UInt8) (h : isDig c = true) : digVal c < 16 := by
  simp only [isDig, decide_eq_true_eq] at h
  unfold digVal
  split <;> omega
theorem dig_digVal (c : UInt8) (h : isDig c = true) : dig (digVal c) = c := by
  simp only [isDig, decide_eq_true_eq] at h
  apply UInt8.toNat_inj.1
  unfold dig digVal
  have := c.toNat_lt
  split <;> split <;> simp [UInt8.toNat_ofNat'] <;> omega

/-- two digits a byte -/
def hexL : List UInt8 → List UInt8
  | [] => []
  | b :: r => dig (b.toNat / 16) :: dig (b.toNat % 16) :: hexL r

theorem hexL_length (l : List UInt8) : (hexL l).length = 2 * l.length := by
  induction l with
  | nil => rfl
  | cons b r ih => simp [hexL, ih]; omega

theorem hexL_append (l r : List UInt8) : hexL (l ++ r) = hexL l ++ hexL r := by
  induction l with
  | nil => rfl
  | cons b l ih => simp [hexL, ih]

theorem hexL_isDig (l : List UInt8) : ∀ c ∈ hexL l, isDig c = true := by
  induction l with
  | nil => intro c h; simp [hexL] at h
  | cons b r ih =>
    intro c h
    have := b.toNat_lt
    simp only [hexL, List.mem_cons] at h
    rcases h with rfl | rfl | h
    · exact dig_is _ (by omega)
    · exact dig_is _ (by omega)
    · exact ih c h

/-- pairs of digits as bytes -/
def unL : List UInt8 → List UInt8
  | a :: b :: r => UInt8.ofNat (16 * digVal a + digVal b) :: unL r
  | _ => []

theorem unL_hexL (l : List UInt8) : unL (hexL l) = l := by
  induction l with
  | nil => rfl
  | cons b r ih =>
    have := b.toNat_lt
    simp only [hexL, unL, ih, List.cons.injEq, and_true]
    rw [dig_val _ (by omega), dig_val _ (by omega)]
    apply UInt8.toNat_inj.1
    simp [UInt8.toNat_ofNat']
    omega

theorem unL_length : ∀ (l : List UInt8), (unL l).length = l.length / 2
  | [] => rfl
  | [_] => by simp [unL]
  | _ :: _ :: r => by simp [unL, unL_length r]; omega

theorem unL_append (l r : List UInt8) (h : l.length % 2 = 0) : unL (l ++ r) = unL l ++ unL r := by
  induction l using unL.induct with
  | case1 a b t ih => simp only [List.cons_append, unL, ih (by simp at h; omega)]
  | case2 l hl =>
    match l, h with
    | [], _ => rfl
    | [_], h => simp at h
    | a :: b :: t, _ => exact absurd rfl (hl a b t)

theorem hexL_unL (l : List UInt8) (h : l.length % 2 = 0) (hd : ∀ c ∈ l, isDig c = true) : hexL (unL l) = l := by
  induction l using unL.induct with
  | case1 a b t ih =>
    have ha := hd a (by simp)
    have hb := hd b (by simp)
    have h1 := val_lt a ha
    have h2 := val_lt b hb
    have e : (UInt8.ofNat (16 * digVal a + digVal b)).toNat = 16 * digVal a + digVal b := by simp [UInt8.toNat_ofNat']; omega
    simp only [unL, hexL, e]
    rw [show (16 * digVal a + digVal b) / 16 = digVal a by omega, show (16 * digVal a + digVal b) % 16 = digVal b by omega, dig_digVal a ha, dig_digVal b hb,
      ih (by simp at h; omega) (fun c hc => hd c (by simp [hc]))]
  | case2 l hl =>
    match l, h with
    | [], _ => rfl
    | [_], h => simp at h
    | a :: b :: t, _ => exact absurd rfl (hl a b t)

/-- the text as a string of the program's -/
def str (l : List UInt8) : ByteArray := ⟨l.toArray⟩
theorem str_size (l : List UInt8) : (str l).size = l.length := by simp [str, ByteArray.size]
theorem str_toList (l : List UInt8) : (str l).toList = l := by rw [toList_data]; simp [str]
theorem str_data (l : List UInt8) : (str l).data.toList = l := by simp [str]
theorem str_of (s : ByteArray) : str s.data.toList = s := by simp [str]

def hexS (s : ByteArray) : ByteArray := str (hexL s.data.toList)

/-- is there a text whose Hex it is? -/
def unOK (l : List UInt8) : Bool := decide (l.length % 2 = 0) && l.all isDig
def unS (s : ByteArray) : ByteArray := if unOK s.data.toList then str (unL s.data.toList) else ByteArray.empty
def unE (s : ByteArray) : Int := if unOK s.data.toList then 0 else 20

theorem take_succ_of (l : List UInt8) (k : Nat) (c : UInt8) (h : l[k]? = some c) : l.take (k + 1) = l.take k ++ [c] := by
  rw [List.take_add_one, h]
  rfl

theorem hexL_take (l : List UInt8) (k : Nat) (c : UInt8) (h : l[k]? = some c) : hexL (l.take (k + 1)) = hexL (l.take k) ++ [dig (c.toNat / 16), dig (c.toNat % 16)] := by
  rw [take_succ_of l k c h, hexL_append]
  rfl

theorem unL_take (l : List UInt8) (k : Nat) (a b : UInt8) (ha : l[2 * k]? = some a) (hb : l[2 * k + 1]? = some b) :
    unL (l.take (2 * (k + 1))) = unL (l.take (2 * k)) ++ [UInt8.ofNat (16 * digVal a + digVal b)] := by
  have hlt : 2 * k + 1 < l.length := (List.getElem?_eq_some_iff.1 hb).1
  rw [show 2 * (k + 1) = 2 * k + 1 + 1 by omega, take_succ_of l _ b hb, take_succ_of l _ a ha, List.append_assoc, unL_append _ _ (by simp; omega)]
  rfl

/-- the sixteen digits, as the program holds them -/
def digs : ByteArray := { data := #[48, 49, 50, 51, 52, 53, 54, 55, 56, 57, 97, 98, 99, 100, 101, 102] }
theorem digs_at (n : Nat) (h : n < 16) : digs.data[n]? = some (dig n) := by
  revert n
  decide

theorem index_at {P : Program} (w : World) (t : TypeId) (s : ByteArray) (k : IntKind) (i : Nat) (c : UInt8) (h : P.underlying t = some .string) (hc : s.data.toList[i]? = some c) :
    (Instr.index t (.string s) (.int k (i : Int))).run P w = .ok (.int .u8 (c.toNat : Int)) w := by
  have hi : i < s.size := by
    have := (List.getElem?_eq_some_iff.1 hc).1
    simpa using this
  rw [run_index_string w t s k i h, dif_pos (by omega)]
  have e : s[(i : Int).toNat]'(by omega) = c := by
    have h2 := (List.getElem?_eq_some_iff.1 hc).2
    rw [← h2]
    simp [ByteArray.getElem_eq_getElem_data]
  rw [e]

end Go.Proofs.YtlmopjbfagijeaaGreatDoor

namespace Go.Proofs.YtlmopjbfagijeaaGreatDoor
open Go.RowKit Go.Lib

theorem info5 : (Tryz.prog.info? 5).map (fun i => (i.zero, i.size, i.bytes)) = some (some (.int .u8 0), 1, 1) := by kernel_rfl

end Go.Proofs.YtlmopjbfagijeaaGreatDoor

namespace Go.Proofs.YtlmopjbfagijeaaGreatDoor
open Go.RowKit Go.Lib

/-- an operation that yields a value and leaves the world as it is, if it comes to its end at all -/
def Stays (P : Program) (o : Oper) : Prop := ∀ (a : Act) (w : World) (n : Next) (w' : World), (execOp a.eval o).run P w = .ok n w' → (∃ u, n = .value u) ∧ w' = w

theorem stays_move {P : Program} {o : Oper} (x : Operand) (h : o.op = .move x) : Stays P o := by
  intro a w n w' hr
  rw [BigFrame.run_move x h] at hr
  cases hr
  exact ⟨⟨_, rfl⟩, rfl⟩

theorem stays_extract {P : Program} {o : Oper} (x : Operand) (i : Nat) (h : o.op = .extract x i) : Stays P o := by
  intro a w n w' hr
  unfold execOp at hr
  simp only [h] at hr
  cases hx : a.eval x <;> simp [hx, Instr.extract, stuck] at hr
  rename_i vs
  cases hv : vs[i]? <;> simp [hv] at hr
  obtain ⟨rfl, rfl⟩ := hr
  exact ⟨⟨_, rfl⟩, rfl⟩

theorem stays_load {P : Program} {o : Oper} (ty : TypeId) (x : Operand) (h : o.op = .load ty x) (kd : IntKind) (hu : P.underlying ty = some (.int kd)) : Stays P o := by
  intro a w n w' hr
  have hagg : (isAgg ty).run P w = .ok false w := by
    unfold isAgg
    rw [Sem.run_bind, run_underlying hu w]
    rfl
  unfold execOp at hr
  simp only [h] at hr
  cases hx : a.eval x <;> simp [hx, Instr.loadAt, Instr.sureAddr, stuck] at hr
  rename_i p
  cases p <;> simp [loadVar, hagg] at hr
  rename_i p
  cases hc : w.cell? p with
  | some v =>
    simp [hc] at hr
    obtain ⟨rfl, rfl⟩ := hr
    exact ⟨⟨_, rfl⟩, rfl⟩
  | none =>
    simp [hc] at hr
    cases hf : World.farLoad P w p (Mode.plain == Mode.atomic) with
    | ok v =>
      rw [hf] at hr
      simp [Result.andThen] at hr
      obtain ⟨rfl, rfl⟩ := hr
      exact ⟨⟨_, rfl⟩, rfl⟩
    | error x =>
      rw [hf] at hr
      simp [Result.andThen] at hr

section
variable {P : Program} {ops : Array Oper} {Q : Exit → Act → World → Prop} {md : Region.Mode} {S : World → Prop}

/-- behind such an operation the world is the one ahead of it -/
theorem Stays.wpOp {j : Nat} {oj : Oper} (hj : ops[j]? = some oj) (hst : Stays P oj) {K : Act → World → Prop} {a : Act} {w : World} (h : wpOp P ops Q j K a w) : wpOp P ops Q j (fun a' w' => w' = w ∧ K a' w') a w := by
  unfold Go.wpOp at h ⊢
  rw [hj] at h ⊢
  dsimp only at h ⊢
  by_cases hw : Region.wanted oj (yielded ops a.tmps) = true
  · rw [if_pos hw] at h ⊢
    rcases h with h | h
    · left
      unfold Oper.wp at h ⊢
      cases hr : (execOp a.eval oj).run P w with
      | ok n w' =>
        obtain ⟨⟨u, rfl⟩, rfl⟩ := hst a w n w' hr
        rw [hr] at h
        exact ⟨rfl, h⟩
      | halt x w' =>
        rw [hr] at h
        cases x <;> exact h
    · exact .inr h
  · rw [if_neg hw] at h ⊢
    exact ⟨rfl, h⟩

/-- What may come up is taken first, if it yields its value in the world AT HAND, and all that could come ahead of it leaves that world as it is. -/
theorem held_here {i : Nat} {oi : Oper} {v : Value} (hi : ops[i]? = some oi) (hsel : ∀ (j : Nat) (o : Oper) cs b, ops[j]? = some o → o.op ≠ .select cs b)
    (hQ : ∀ c a w, Q (.panic c) (a.put oi.dst v) w → Q (.panic c) a w) (w : World) (hS : S w) : ∀ (fuel : Nat) (listed : Array Bool) (a : Act),
      (∀ j oj, ops[j]? = some oj → j ≠ i → listed.getD j true = false → (∀ e ∈ oj.after, Region.binds md e = true → e.on ≠ i) → oi.apart ops oj = true ∧ Stays P oj) →
      i ∈ Region.ready md ops listed → YieldsIf P ops (fun x => x = w) oi v a → wpAnyH P md ops Q S fuel (listed.setIfInBounds i true) (a.put oi.dst v) w → wpAnyH P md ops Q S (fuel + 1) listed a w := by
  intro fuel
  induction fuel with
  | zero =>
    intro listed a _ hr hy H
    refine ⟨fun h => absurd hr (by rw [h]; simp), fun j hj => ?_⟩
    by_cases hji : j = i
    · rw [hji]
      exact hy.wpOp hi rfl ⟨hS, H⟩
    · exact absurd (ready_mono hj hji) (by rw [H.1]; simp)
  | succ fuel ih =>
    intro listed a hfr hr hy H
    refine ⟨fun h => absurd hr (by rw [h]; simp), fun j hj => ?_⟩
    by_cases hji : j = i
    · rw [hji]
      exact hy.wpOp hi rfl ⟨hS, H⟩
    obtain ⟨hjun, oj, hoj, hall⟩ := mem_ready.1 hj
    have hno : ∀ e ∈ oj.after, Region.binds md e = true → e.on ≠ i := by
      intro e he hb heq
      have h1 := hall e he hb
      have h0 := (mem_ready.1 hr).1
      rw [heq] at h1
      cases hl : listed[i]? with
      | none => simp [hl] at h1
      | some b => simp [hl] at h0 h1; rw [h0] at h1; cases h1
    obtain ⟨hap, hstay⟩ := hfr j oj hoj hji hjun hno
    have hstep := hstay.wpOp hoj (wpOp_putIf hoj hap (fun cs b => hsel i oi cs b hi) (fun cs b => hsel j oj cs b hoj) hQ hy (H.2 j (ready_mono hj hji)))
    refine wpOp_mono (fun a' w' h => ?_) hstep
    obtain ⟨rfl, hy', hS', H'⟩ := h
    refine ⟨hS', ih (listed.setIfInBounds j true) a' ?_ (ready_mono hr (Ne.symm hji)) hy' (by rw [Array.setIfInBounds_comm _ _ hji]; exact H')⟩
    intro k ok hk hki hun hnk
    refine hfr k ok hk hki ?_ hnk
    by_cases hjk : j = k
    · rw [← hjk]; exact hjun
    · rwa [getD_set_ne true hjk] at hun

/-- which operations leave the world as it is -/
def stayB (tys : List TypeId) (o : Oper) : Bool :=
  match o.op with
  | .move _ => true
  | .extract _ _ => true
  | .load ty _ => tys.contains ty
  | _ => false
theorem stays_of {tys : List TypeId} (hty : ∀ ty ∈ tys, ∃ kd, P.underlying ty = some (.int kd)) {o : Oper} (h : stayB tys o = true) : Stays P o := by
  unfold stayB at h
  split at h
  · rename_i x hx; exact stays_move x hx
  · rename_i x i hx; exact stays_extract x i hx
  · rename_i ty x hx
    obtain ⟨kd, hkd⟩ := hty ty (by simpa using h)
    exact stays_load ty x hx kd hkd
  · cases h
def stayAll (md : Region.Mode) (ops : Array Oper) (listed : Array Bool) (i : Nat) (tys : List TypeId) : Bool :=
  (List.range ops.size).all fun j => j == i || listed.getD j true || (match ops[j]? with | none => true | some oj => oj.after.any (fun e => Region.binds md e && e.on == i) || stayB tys oj)

/-- held_here, by Bools -/
theorem held_load {tys : List TypeId} {i : Nat} {oi : Oper} {v : Value} {fuel : Nat} {listed : Array Bool} {a : Act} {w : World} (hi : ops[i]? = some oi) (hs : Region.noSelect ops = true) (hf : Region.free md ops listed i = true)
    (hty : ∀ ty ∈ tys, ∃ kd, P.underlying ty = some (.int kd)) (hst : stayAll md ops listed i tys = true) (hr : (Region.ready md ops listed).contains i = true)
    (hQ : ∀ c a w, Q (.panic c) (a.put oi.dst v) w → Q (.panic c) a w) (hy : YieldsIf P ops (fun x => x = w) oi v a) (hS : S w)
    (h : wpAnyH P md ops Q S fuel (listed.setIfInBounds i true) (a.put oi.dst v) w) : wpAnyH P md ops Q S (fuel + 1) listed a w := by
  refine held_here hi (Region.noSelect_spec hs) hQ w hS fuel listed a ?_ (by simpa using hr) hy h
  intro j oj hj hji hun hno
  refine ⟨Region.free_spec hi hf j oj hj hji hun hno, ?_⟩
  have h1 := List.all_eq_true.1 hst j (List.mem_range.2 (Array.getElem?_eq_some_iff.1 hj).1)
  simp only [hj, hun, Bool.or_eq_true, beq_iff_eq, hji, false_or, Bool.false_eq_true] at h1
  rcases h1 with h1 | h1
  · obtain ⟨e, he, hb⟩ := Array.any_eq_true'.1 h1
    simp only [Bool.and_eq_true, beq_iff_eq] at hb
    exact absurd hb.2 (hno e he hb.1)
  · exact stays_of hty h1

end

end Go.Proofs.YtlmopjbfagijeaaGreatDoor

namespace Go.Proofs.YtlmopjbfagijeaaGreatDoor.Kr
open Go.RowKit Go.Lib

theorem results_cell_tmp {P : Program} {fn : Func} {p u : Tmp} {ty : TypeId} (h : fn.results = #[.cell p ty, .tmp u]) (tmps : Array Value) (w : World) (g : Nat) (t : TypeId) (cs : Array Value) (fr : Nat × Nat) (d : TypeDesc)
    (hp : tmps.getD p undef = .pointer (some ⟨g, 0, none⟩)) (hg : w.heap[g]? = some (.cells cs t fr)) (hu : P.underlying ty = some d) (hd : (match d with | .struct _ | .array _ _ => true | _ => false) = true) (hi : (P.info? ty).map (·.size) = some cs.size) :
    (results fn tmps).run P w = .ok (.tuple #[.agg cs, tmps.getD u undef]) w := by
  have hp' : tmps[p]?.getD undef = .pointer (some ⟨g, 0, none⟩) := by simpa using hp
  simp [results, h, hp', asAddr, run_loadVar_row w g t ty cs fr d hg hu hd hi]
theorem results_cell_tmp2 {P : Program} {fn : Func} {p u q : Tmp} {ty : TypeId} (h : fn.results = #[.cell p ty, .tmp u, .tmp q]) (tmps : Array Value) (w : World) (g : Nat) (t : TypeId) (cs : Array Value) (fr : Nat × Nat) (d : TypeDesc)
    (hp : tmps.getD p undef = .pointer (some ⟨g, 0, none⟩)) (hg : w.heap[g]? = some (.cells cs t fr)) (hu : P.underlying ty = some d) (hd : (match d with | .struct _ | .array _ _ => true | _ => false) = true) (hi : (P.info? ty).map (·.size) = some cs.size) :
    (results fn tmps).run P w = .ok (.tuple #[.agg cs, tmps.getD u undef, tmps.getD q undef]) w := by
  have hp' : tmps[p]?.getD undef = .pointer (some ⟨g, 0, none⟩) := by simpa using hp
  simp [results, h, hp', asAddr, run_loadVar_row w g t ty cs fr d hg hu hd hi]

end Go.Proofs.YtlmopjbfagijeaaGreatDoor.Kr
