import Derived.Test.YtggfeppphhigdabDoorNumG
import Derived.Test.YtggfeppphhigdabDoorNumE
import Derived.Test.YtggfeppphhigdabDoorNumH
import Derived.Deep.RegionHeld
import Derived.Deep.Cut
namespace Go.Proofs.YtggfeppphhigdabDoor
open Go.RowKit Go.Lib Go.Deep

/-- the cells of a tag that runs along -/
def mcells (R S A B : List Nat) (n : Nat) : List Value := .bool true :: (nsL .u64 R ++ nsL .u64 S ++ nsL .u64 A ++ nsL .u8 B ++ [.int .i64 (n : Int)])
/-- a tag that runs along, in its block -/
structure Pm (w : World) (p : Nat) (R S A B : List Nat) (n : Nat) : Prop where
  heap : w.heap[p]? = some (.cells (mcells R S A B n).toArray 57 (0, 0))
  lr : R.length = 5
  ls : S.length = 5
  la : A.length = 5
  lb : B.length = 17
theorem mcells_length (R S A B : List Nat) (n : Nat) (h1 : R.length = 5) (h2 : S.length = 5) (h3 : A.length = 5) (h4 : B.length = 17) : (mcells R S A B n).length = 34 := by
  simp [mcells, nsL_length, h1, h2, h3, h4]
section
variable {w : World} {p : Nat} {R S A B : List Nat} {n : Nat}
theorem Pm.size (h : Pm w p R S A B n) : (mcells R S A B n).toArray.size = 34 := by rw [List.size_toArray]; exact mcells_length _ _ _ _ _ h.lr h.ls h.la h.lb
theorem Pm.lt (h : Pm w p R S A B n) : p < w.heap.size := heap_lt h.heap
theorem Pm.kept {w' : World} (h : Pm w p R S A B n) (hk : w'.heap[p]? = w.heap[p]?) : Pm w' p R S A B n := ⟨hk.trans h.heap, h.lr, h.ls, h.la, h.lb⟩
theorem Pm.below {w' : World} {X : Nat} (h : Pm w p R S A B n) (hb : Below X w w') (hp : p < X) : Pm w' p R S A B n := h.kept (hb.block p hp)
theorem Pm.drew (h : Pm w p R S A B n) : Pm w.drew p R S A B n := h.kept rfl
theorem Pm.made (h : Pm w p R S A B n) : w.cell? ⟨p, 0, none⟩ = some (.bool true) := (cell_of_heap h.heap).trans (by simp [mcells])
theorem Pm.full (h : Pm w p R S A B n) : w.cell? ⟨p, 33, none⟩ = some (.int .i64 (n : Int)) := by
  rw [cell_of_heap h.heap, List.getElem?_toArray]
  have e : (mcells R S A B n) = (.bool true :: (nsL .u64 R ++ nsL .u64 S ++ nsL .u64 A ++ nsL .u8 B)) ++ [.int .i64 (n : Int)] := by simp [mcells]
  rw [e, List.getElem?_append_right (by simp [nsL_length, h.lr, h.ls, h.la, h.lb])]
  simp [nsL_length, h.lr, h.ls, h.la, h.lb]
theorem Pm.frozen (h : Pm w p R S A B n) (i : Nat) : w.frozen? ⟨p, i, none⟩ = false := frozen_of_heap h.heap
theorem Pm.there (h : Pm w p R S A B n) (o k : Nat) (hk : o + k ≤ 34) : w.there p o k := there_of_heap h.heap (by rw [h.size]; exact hk)
theorem Pm.rR (h : Pm w p R S A B n) : w.rangeAt p 1 (nsL .u64 R) := range_of_heap (pre := [.bool true]) (mid := nsL .u64 R) (post := nsL .u64 S ++ nsL .u64 A ++ nsL .u8 B ++ [.int .i64 (n : Int)]) h.heap (by simp [mcells])
theorem Pm.rS (h : Pm w p R S A B n) : w.rangeAt p 6 (nsL .u64 S) := by
  have := range_of_heap (pre := .bool true :: nsL .u64 R) (mid := nsL .u64 S) (post := nsL .u64 A ++ nsL .u8 B ++ [.int .i64 (n : Int)]) h.heap (by simp [mcells])
  rwa [List.length_cons, nsL_length, h.lr] at this
theorem Pm.rA (h : Pm w p R S A B n) : w.rangeAt p 11 (nsL .u64 A) := by
  have := range_of_heap (pre := .bool true :: (nsL .u64 R ++ nsL .u64 S)) (mid := nsL .u64 A) (post := nsL .u8 B ++ [.int .i64 (n : Int)]) h.heap (by simp [mcells])
  rwa [List.length_cons, List.length_append, nsL_length, nsL_length, h.lr, h.ls] at this
theorem Pm.rB (h : Pm w p R S A B n) : w.rangeAt p 16 (nsL .u8 B) := by
  have := range_of_heap (pre := .bool true :: (nsL .u64 R ++ nsL .u64 S ++ nsL .u64 A)) (mid := nsL .u8 B) (post := [.int .i64 (n : Int)]) h.heap (by simp [mcells])
  rwa [List.length_cons, List.length_append, List.length_append, nsL_length, nsL_length, nsL_length, h.lr, h.ls, h.la] at this
theorem Pm.cB (h : Pm w p R S A B n) (i : Nat) (hi : i < 17) : w.cell? ⟨p, 16 + i, none⟩ = some (.int .u8 ((B.getD i 0 : Nat) : Int)) :=
  h.rB i _ (by simp [nsL, List.getD_eq_getElem?_getD, h.lb, hi])
theorem Pm.setA (h : Pm w p R S A B n) (A' : List Nat) (hl : A'.length = 5) : Pm (w.setCells p 11 (nsL .u64 A')) p R S A' B n := by
  refine ⟨?_, h.lr, h.ls, hl, h.lb⟩
  have h1 := heap_setCells p 57 (nsL .u64 A') 11 _ w h.heap
  have h2 := setMany_part (.bool true :: (nsL .u64 R ++ nsL .u64 S)) (nsL .u64 A) (nsL .u8 B ++ [.int .i64 (n : Int)]) (nsL .u64 A') (by rw [nsL_length, nsL_length, h.la, hl])
  rw [List.length_cons, List.length_append, nsL_length, nsL_length, h.lr, h.ls] at h2
  rw [show (mcells R S A B n).toArray = (Value.bool true :: (nsL .u64 R ++ nsL .u64 S) ++ nsL .u64 A ++ (nsL .u8 B ++ [Value.int .i64 (n : Int)])).toArray by simp [mcells], h2] at h1
  rw [h1]
  simp [mcells]
theorem Pm.setB (h : Pm w p R S A B n) (B' : List Nat) (hl : B'.length = 17) : Pm (w.setCells p 16 (nsL .u8 B')) p R S A B' n := by
  refine ⟨?_, h.lr, h.ls, h.la, hl⟩
  have h1 := heap_setCells p 57 (nsL .u8 B') 16 _ w h.heap
  have h2 := setMany_part (.bool true :: (nsL .u64 R ++ nsL .u64 S ++ nsL .u64 A)) (nsL .u8 B) [.int .i64 (n : Int)] (nsL .u8 B') (by rw [nsL_length, nsL_length, h.lb, hl])
  rw [List.length_cons, List.length_append, List.length_append, nsL_length, nsL_length, nsL_length, h.lr, h.ls, h.la] at h2
  rw [show (mcells R S A B n).toArray = (Value.bool true :: (nsL .u64 R ++ nsL .u64 S ++ nsL .u64 A) ++ nsL .u8 B ++ [Value.int .i64 (n : Int)]).toArray by simp [mcells], h2] at h1
  rw [h1]
  simp [mcells]
theorem Pm.setN (h : Pm w p R S A B n) (m : Nat) : Pm (w.setCell ⟨p, 33, none⟩ (.int .i64 (m : Int))) p R S A B m := by
  refine ⟨?_, h.lr, h.ls, h.la, h.lb⟩
  have h1 := heap_setCells p 57 [.int .i64 (m : Int)] 33 _ w h.heap
  have h2 := setMany_part (.bool true :: (nsL .u64 R ++ nsL .u64 S ++ nsL .u64 A ++ nsL .u8 B)) [.int .i64 (n : Int)] [] [.int .i64 (m : Int)] rfl
  rw [List.length_cons, List.length_append, List.length_append, List.length_append, nsL_length, nsL_length, nsL_length, nsL_length, h.lr, h.ls, h.la, h.lb] at h2
  rw [show (mcells R S A B n).toArray = (Value.bool true :: (nsL .u64 R ++ nsL .u64 S ++ nsL .u64 A ++ nsL .u8 B) ++ [Value.int .i64 (n : Int)] ++ []).toArray by simp [mcells], h2] at h1
  show (w.setCells p 33 [.int .i64 (m : Int)]).heap[p]? = _
  rw [h1]
  simp [mcells]
theorem Pm.putB (h : Pm w p R S A B n) (i x : Nat) (hi : i < 17) : Pm (w.setCell ⟨p, 16 + i, none⟩ (.int .u8 (x : Int))) p R S A (B.set i x) n := by
  refine ⟨?_, h.lr, h.ls, h.la, by rw [List.length_set, h.lb]⟩
  have h1 := heap_setCell_same w p (16 + i) _ 57 (.int .u8 (x : Int)) h.heap
  rw [h1]
  congr 2
  have e : (mcells R S A B n) = (.bool true :: (nsL .u64 R ++ nsL .u64 S ++ nsL .u64 A)) ++ (nsL .u8 B ++ [.int .i64 (n : Int)]) := by simp [mcells]
  have el : (Value.bool true :: (nsL .u64 R ++ nsL .u64 S ++ nsL .u64 A)).length = 16 := by simp [nsL_length, h.lr, h.ls, h.la]
  have e2 : nsL .u8 (B.set i x) = (nsL .u8 B).set i (.int .u8 (x : Int)) := by simp [nsL]
  rw [e, List.setIfInBounds_toArray, List.set_append_right _ _ (by omega), el, show 16 + i - 16 = i by omega, List.set_append_left _ _ (by rw [nsL_length, h.lb]; exact hi), ← e2]
  simp [mcells]
end

theorem exec_buildM {P : Program} {a : Act} {o : Oper} {w : World} (t : TypeId) (parts : Array (Nat × Operand)) (ho : o.op = .build t parts) (vals : List (Nat × Value)) (hv : (parts.map fun (i, x) => (i, a.eval x)).toList = vals) (C : Array Value) (hc : P.built t vals = some C) :
    (execOp a.eval o).run P w = .ok (.value (.agg C)) w := by
  subst hv
  unfold execOp
  simp only [ho, Sem.run_bind, run_build w t _ C hc, Result.andThen_ok]
  rfl
theorem wpList_build_eq {P : Program} {ops : Array Oper} {rest : List Oper} {o : Oper} {a : Act} {w : World} {Q : Exit → Act → World → Prop} (hg : o.guard = none) (t : TypeId) (parts : Array (Nat × Operand)) (ho : o.op = .build t parts)
    (vals : List (Nat × Value)) (hv : (parts.map fun (i, x) => (i, a.eval x)).toList = vals) (cells : Array Value) (hc : P.built t vals = some cells)
    (h : wpList P ops Q rest (a.put o.dst (.agg cells)) w) : wpList P ops Q (o :: rest) a w := by
  refine wpList_build hg t parts ho (by rw [hv, hc]; rfl) ?_
  rw [hv, hc]
  exact h

theorem size49 : (Tryd.prog.info? 57).map (·.size) = some 34 := by kernel_rfl

theorem mthere_yes {w : World} {p : Nat} (h : w.cell? ⟨p, 0, none⟩ = some (.bool true)) :
    Calls Tryd.prog 22 #[.pointer (some ⟨p, 0, none⟩)] w fun e w' => e = .returned (.bool true) ∧ w = w' := by
  go_enter Tryd.func22, Tryd.ntmps22
  go_wp2
  go_ret
  exact ⟨rfl, rfl⟩
theorem mthere_no (w : World) : Calls Tryd.prog 22 #[.pointer none] w fun e w' => e = .returned (.bool false) ∧ w = w' := by
  go_enter Tryd.func22, Tryd.ntmps22
  go_wp2
  go_ret
  exact ⟨rfl, rfl⟩

end Go.Proofs.YtggfeppphhigdabDoor
