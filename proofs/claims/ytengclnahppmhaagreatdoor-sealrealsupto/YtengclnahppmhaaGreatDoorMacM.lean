import Derived.Test.YtengclnahppmhaaGreatDoorPolM
import Derived.Deep.RegionHeld
import Derived.Deep.Cut
import Derived.Test.YtengclnahppmhaaGreatDoorBaseM
namespace Go.Proofs.YtengclnahppmhaaGreatDoor.Pol
open Go.RowKit Go.Lib Go.Deep

/-- the cells of a tag that runs along -/
def mcells (R S A B : List Nat) (n : Nat) : List Value := .bool true :: (nsL .u64 R ++ nsL .u64 S ++ nsL .u64 A ++ nsL .u8 B ++ [.int .i64 (n : Int)])
/-- a tag that runs along, in its block -/
structure Pm (w : World) (p : Nat) (R S A B : List Nat) (n : Nat) : Prop where
  heap : w.heap[p]? = some (.cells (mcells R S A B n).toArray 191 (0, 0))
  lr : R.length = 5
  ls : S.length = 5
  la : A.length = 5
  lb : B.length = 17
theorem mcells_length (R S A B : List Nat) (n : Nat) (h1 : R.length = 5) (h2 : S.length = 5) (h3 : A.length = 5) (h4 : B.length = 17) : (mcells R S A B n).length = 34 := by
  simp [mcells, nsL_length, h1, h2, h3, h4]
section
variable {w : World} {p : Nat} {R S A B : List Nat} {n : Nat}
theorem Pm.size (h : Pm w p R S A B n) : (mcells R S A B n).toArray.size = 34 := by rw [List.size_toArray]; exact mcells_length _ _ _ _ _ h.lr h.ls h.la h.lb
theorem Pm.lt (h : Pm w p R S A B n) : p < w.heap.size := heap_lt h.heap
theorem Pm.kept {w' : World} (h : Pm w p R S A B n) (hk : w'.heap[p]? = w.heap[p]?) : Pm w' p R S A B n := ⟨hk.trans h.heap, h.lr, h.ls, h.la, h.lb⟩
theorem Pm.below {w' : World} {X : Nat} (h : Pm w p R S A B n) (hb : Below X w w') (hp : p < X) : Pm w' p R S A B n := h.kept (hb.block p hp)
theorem Pm.drew (h : Pm w p R S A B n) : Pm w.drew p R S A B n := h.kept rfl
theorem Pm.made (h : Pm w p R S A B n) : w.cell? ⟨p, 0, none⟩ = some (.bool true) := (cell_of_heap h.heap).trans (by simp [mcells])
theorem Pm.full (h : Pm w p R S A B n) : w.cell? ⟨p, 33, none⟩ = some (.int .i64 (n : Int)) := by
  rw [cell_of_heap h.heap, List.getElem?_toArray]
  have e : (mcells R S A B n) = (.bool true :: (nsL .u64 R ++ nsL .u64 S ++ nsL .u64 A ++ nsL .u8 B)) ++ [.int .i64 (n : Int)] := by simp [mcells]
  rw [e, List.getElem?_append_right (by simp [nsL_length, h.lr, h.ls, h.la, h.lb])]
  simp [nsL_length, h.lr, h.ls, h.la, h.lb]
theorem Pm.frozen (h : Pm w p R S A B n) (i : Nat) : w.frozen? ⟨p, i, none⟩ = false := frozen_of_heap h.heap
theorem Pm.there (h : Pm w p R S A B n) (o k : Nat) (hk : o + k ≤ 34) : w.there p o k := there_of_heap h.heap (by rw [h.size]; exact hk)
theorem Pm.rR (h : Pm w p R S A B n) : w.rangeAt p 1 (nsL .u64 R) := range_of_heap (pre := [.bool true]) (mid := nsL .u64 R) (post := nsL .u64 S ++ nsL .u64 A ++ nsL .u8 B ++ [.int .i64 (n : Int)]) h.heap (by simp [mcells])
theorem Pm.rS (h : Pm w p R S A B n) : w.rangeAt p 6 (nsL .u64 S) := by
  have := range_of_heap (pre := .bool true :: nsL .u64 R) (mid := nsL .u64 S) (post := nsL .u64 A ++ nsL .u8 B ++ [.int .i64 (n : Int)]) h.heap (by simp [mcells])
  rwa [List.length_cons, nsL_length, h.lr] at this
theorem Pm.rA (h : Pm w p R S A B n) : w.rangeAt p 11 (nsL .u64 A) := by
  have := range_of_heap (pre := .bool true :: (nsL .u64 R ++ nsL .u64 S)) (mid := nsL .u64 A) (post := nsL .u8 B ++ [.int .i64 (n : Int)]) h.heap (by simp [mcells])
  rwa [List.length_cons, List.length_append, nsL_length, nsL_length, h.lr, h.ls] at this
theorem Pm.rB (h : Pm w p R S A B n) : w.rangeAt p 16 (nsL .u8 B) := by
  have := range_of_heap (pre := .bool true :: (nsL .u64 R ++ nsL .u64 S ++ nsL .u64 A)) (mid := nsL .u8 B) (post := [.int .i64 (n : Int)]) h.heap (by simp [mcells])
  rwa [List.length_cons, List.length_append, List.length_append, nsL_length, nsL_length, nsL_length, h.lr, h.ls, h.la] at this
theorem Pm.cB (h : Pm w p R S A B n) (i : Nat) (hi : i < 17) : w.cell? ⟨p, 16 + i, none⟩ = some (.int .u8 ((B.getD i 0 : Nat) : Int)) :=
  h.rB i _ (by simp [nsL, List.getD_eq_getElem?_getD, h.lb, hi])
theorem Pm.setA (h : Pm w p R S A B n) (A' : List Nat) (hl : A'.length = 5) : Pm (w.setCells p 11 (nsL .u64 A')) p R S A' B n := by
  refine ⟨?_, h.lr, h.ls, hl, h.lb⟩
  have h1 := heap_setCells p 191 (nsL .u64 A') 11 _ w h.heap
  have h2 := setMany_part (.bool true :: (nsL .u64 R ++ nsL .u64 S)) (nsL .u64 A) (nsL .u8 B ++ [.int .i64 (n : Int)]) (nsL .u64 A') (by rw [nsL_length, nsL_length, h.la, hl])
  rw [List.length_cons, List.length_append, nsL_length, nsL_length, h.lr, h.ls] at h2
  rw [show (mcells R S A B n).toArray = (Value.bool true :: (nsL .u64 R ++ nsL .u64 S) ++ nsL .u64 A ++ (nsL .u8 B ++ [Value.int .i64 (n : Int)])).toArray by simp [mcells], h2] at h1
  rw [h1]
  simp [mcells]
theorem Pm.setB (h : Pm w p R S A B n) (B' : List Nat) (hl : B'.length = 17) : Pm (w.setCells p 16 (nsL .u8 B')) p R S A B' n := by
  refine ⟨?_, h.lr, h.ls, h.la, hl⟩
  have h1 := heap_setCells p 191 (nsL .u8 B') 16 _ w h.heap
  have h2 := setMany_part (.bool true :: (nsL .u64 R ++ nsL .u64 S ++ nsL .u64 A)) (nsL .u8 B) [.int .i64 (n : Int)] (nsL .u8 B') (by rw [nsL_length, nsL_length, h.lb, hl])
  rw [List.length_cons, List.length_append, List.length_append, nsL_length, nsL_length, nsL_length, h.lr, h.ls, h.la] at h2
  rw [show (mcells R S A B n).toArray = (Value.bool true :: (nsL .u64 R ++ nsL .u64 S ++ nsL .u64 A) ++ nsL .u8 B ++ [Value.int .i64 (n : Int)]).toArray by simp [mcells], h2] at h1
  rw [h1]
  simp [mcells]
theorem Pm.setN (h : Pm w p R S A B n) (m : Nat) : Pm (w.setCell ⟨p, 33, none⟩ (.int .i64 (m : Int))) p R S A B m := by
  refine ⟨?_, h.lr, h.ls, h.la, h.lb⟩
  have h1 := heap_setCells p 191 [.int .i64 (m : Int)] 33 _ w h.heap
  have h2 := setMany_part (.bool true :: (nsL .u64 R ++ nsL .u64 S ++ nsL .u64 A ++ nsL .u8 B)) [.int .i64 (n : Int)] [] [.int .i64 (m : Int)] rfl
  rw [List.length_cons, List.length_append, List.length_append, List.length_append, nsL_length, nsL_length, nsL_length, nsL_length, h.lr, h.ls, h.la, h.lb] at h2
  rw [show (mcells R S A B n).toArray = (Value.bool true :: (nsL .u64 R ++ nsL .u64 S ++ nsL .u64 A ++ nsL .u8 B) ++ [Value.int .i64 (n : Int)] ++ []).toArray by simp [mcells], h2] at h1
  show (w.setCells p 33 [.int .i64 (m : Int)]).heap[p]? = _
  rw [h1]
  simp [mcells]
theorem Pm.putB (h : Pm w p R S A B n) (i x : Nat) (hi : i < 17) : Pm (w.setCell ⟨p, 16 + i, none⟩ (.int .u8 (x : Int))) p R S A (B.set i x) n := by
  refine ⟨?_, h.lr, h.ls, h.la, by rw [List.length_set, h.lb]⟩
  have h1 := heap_setCell_same w p (16 + i) _ 191 (.int .u8 (x : Int)) h.heap
  rw [h1]
  congr 2
  have e : (mcells R S A B n) = (.bool true :: (nsL .u64 R ++ nsL .u64 S ++ nsL .u64 A)) ++ (nsL .u8 B ++ [.int .i64 (n : Int)]) := by simp [mcells]
  have el : (Value.bool true :: (nsL .u64 R ++ nsL .u64 S ++ nsL .u64 A)).length = 16 := by simp [nsL_length, h.lr, h.ls, h.la]
  have e2 : nsL .u8 (B.set i x) = (nsL .u8 B).set i (.int .u8 (x : Int)) := by simp [nsL]
  rw [e, List.setIfInBounds_toArray, List.set_append_right _ _ (by omega), el, show 16 + i - 16 = i by omega, List.set_append_left _ _ (by rw [nsL_length, h.lb]; exact hi), ← e2]
  simp [mcells]
end

theorem exec_buildM {P : Program} {a : Act} {o : Oper} {w : World} (t : TypeId) (parts : Array (Nat × Operand)) (ho : o.op = .build t parts) (vals : List (Nat × Value)) (hv : (parts.map fun (i, x) => (i, a.eval x)).toList = vals) (C : Array Value) (hc : P.built t vals = some C) :
    (execOp a.eval o).run P w = .ok (.value (.agg C)) w := by
  subst hv
  unfold execOp
  simp only [ho, Sem.run_bind, run_build w t _ C hc, Result.andThen_ok]
  rfl
theorem wpList_build_eq {P : Program} {ops : Array Oper} {rest : List Oper} {o : Oper} {a : Act} {w : World} {Q : Exit → Act → World → Prop} (hg : o.guard = none) (t : TypeId) (parts : Array (Nat × Operand)) (ho : o.op = .build t parts)
    (vals : List (Nat × Value)) (hv : (parts.map fun (i, x) => (i, a.eval x)).toList = vals) (cells : Array Value) (hc : P.built t vals = some cells)
    (h : wpList P ops Q rest (a.put o.dst (.agg cells)) w) : wpList P ops Q (o :: rest) a w := by
  refine wpList_build hg t parts ho (by rw [hv, hc]; rfl) ?_
  rw [hv, hc]
  exact h

theorem size49 : (Tryz.prog.info? 191).map (·.size) = some 34 := by kernel_rfl

theorem mthere_yes {w : World} {p : Nat} (h : w.cell? ⟨p, 0, none⟩ = some (.bool true)) :
    Calls Tryz.prog 142 #[.pointer (some ⟨p, 0, none⟩)] w fun e w' => e = .returned (.bool true) ∧ w = w' := by
  go_enter Tryz.func142, Tryz.ntmps142
  go_wp2
  go_ret
  exact ⟨rfl, rfl⟩
theorem mthere_no (w : World) : Calls Tryz.prog 142 #[.pointer none] w fun e w' => e = .returned (.bool false) ∧ w = w' := by
  go_enter Tryz.func142, Tryz.ntmps142
  go_wp2
  go_ret
  exact ⟨rfl, rfl⟩

end Go.Proofs.YtengclnahppmhaaGreatDoor.Pol

namespace Go.Proofs.YtengclnahppmhaaGreatDoor.Pol
open Go.RowKit Go.Lib Go.Deep

theorem only_below {S : List Nat} {w w' : World} (h : Below w.heap.size w w') : Only S w w' := ⟨h.os, h.tape, h.output, h.size, fun k hk _ => h.block k hk⟩
theorem _root_.Go.Proofs.YtengclnahppmhaaGreatDoor.Only.belowS {S : List Nat} {a w w' : World} (h : Only S a w) (hb : Below w.heap.size w w') : Only S a w' := h.trans (only_below hb)

set_option maxRecDepth 20000 in
set_option maxHeartbeats 400000 in
theorem endBlock_any {w : World} {p : Nat} {S B : List Nat} {n r a : Nat} (hP0 : Pm w p (lim r) S (lim a) B n) (hn : n ≤ 16) (hr : r < 1361129467683753853853498429727072845824) (ha : a < 1361129467683753853853498429727072845824)
    (blk : List UInt8) (hl : blk.length = 17) (hB : nat8 blk = B.set n 1) (hnum : numL blk < 1361129467683753853853498429727072845824) :
    Calls Tryz.prog 144 #[.pointer (some ⟨p, 0, none⟩)] w fun e w' => e = .returned (.tuple #[]) ∧ (∃ X, X < 1361129467683753853853498429727072845824 ∧ X % Pp = (a + numL blk) * r % Pp ∧ Pm w' p (lim r) S (lim X) (List.replicate 17 0) 0) ∧ Only [p] w w' := by
  have c33 := hP0.full
  have hf := hP0.frozen (16 + n)
  have cB := hP0.cB n (by omega)
  have hnI : (n : Int) < 17 := by omega
  have HP1 : Hid (Pm (w.setCell ⟨p, 16 + n, none⟩ (.int .u8 1)).drew p (lim r) S (lim a) (nat8 blk) n) := by rw [hB]; exact (hP0.putB n 1 (by omega)).drew
  have HO1 : Hid (Only [p] w (w.setCell ⟨p, 16 + n, none⟩ (.int .u8 1)).drew) := ((Only.refl [p] w).setCell (by simp) _).drew
  have HVL : Hid (vl 67108864 (List.zipWith (· + ·) (lim a) (lim (numL blk))) * vl 67108864 (lim r) = (a + numL blk) * r) := by
    show _ = _
    rw [vl_zip_add _ _ _ (by rw [lim_length, lim_length]), vl_lim _ ha, vl_lim _ hnum, vl_lim _ hr]
  have HNU : Hid (∀ W, Calls Tryz.prog 141 #[.agg (ns .u8 (nat8 blk))] W fun e w' => e = .returned (.agg (ns .u64 (lim (numL blk)))) ∧ Below W.heap.size W w') := fun W => number_any blk hl W
  have HPL : Hid (∀ W, Calls Tryz.prog 146 #[.agg (ns .u64 (lim a)), .agg (ns .u64 (lim (numL blk)))] W fun e w' => e = .returned (.agg (ns .u64 (List.zipWith (· + ·) (lim a) (lim (numL blk))))) ∧ Below W.heap.size W w') := fun W =>
    plus_any _ _ (lim_length _) (lim_length _) (fun i => by have := lim_at a i; omega) (fun i => by have := lim_at (numL blk) i; omega) W
  have HTI : Hid (∀ W, Calls Tryz.prog 158 #[.agg (ns .u64 (List.zipWith (· + ·) (lim a) (lim (numL blk)))), .agg (ns .u64 (lim r))] W fun e w' => (∃ X, e = .returned (.agg (ns .u64 (lim X))) ∧ X < 1361129467683753853853498429727072845824 ∧ X % Pp = vl 67108864 (List.zipWith (· + ·) (lim a) (lim (numL blk))) * vl 67108864 (lim r) % Pp) ∧ Below W.heap.size W w') := fun W =>
    times_any _ _ (by rw [List.length_zipWith, lim_length, lim_length]; rfl) (lim_length _) (zip_lt _ _ 67108864 (by omega) (lim_at a) (lim_at (numL blk))) (lim_at r) W
  have hzA : (Tryz.prog.info? 188).map (·.size) = some (nsL .u64 (lim a)).length := by rw [nsL_length, lim_length]; exact size46
  have hzR : (Tryz.prog.info? 188).map (·.size) = some (nsL .u64 (lim r)).length := by rw [nsL_length, lim_length]; exact size46
  have hzB : (Tryz.prog.info? 185).map (·.size) = some (nsL .u8 (nat8 blk)).length := by rw [nsL_length, nat8_length, hl]; exact size42
  clear hP0 hB
  have hla := lim_length a
  have hlr := lim_length r
  have hbn : (nat8 blk).length = 17 := by rw [nat8_length, hl]
  revert HP1 HVL HNU HPL HTI hzA hzR hzB hla hlr hbn
  generalize List.zipWith (· + ·) (lim a) (lim (numL blk)) = Lz
  generalize lim (numL blk) = Ln
  generalize nat8 blk = Bn
  generalize lim a = La
  generalize lim r = Lr
  intro HP1 HVL HNU HPL HTI hzA hzR hzB hla hlr hbn
  clear hnum hl hr ha
  generalize B.getD n 0 = z0 at cB
  have hbl0 : Tryz.prog.built 185 [] = some (ns .u8 (List.replicate 17 0)) := by kernel_rfl
  have hz0 : (Tryz.prog.info? 185).map (·.size) = some (ns .u8 (List.replicate 17 0)).size := size42
  have ho0 := ns_one .u8 (List.replicate 17 0)
  obtain ⟨C0, hC0⟩ : ∃ C0, ns .u8 (List.replicate 17 0) = C0 := ⟨_, rfl⟩
  have HC0 : Hid (nsL .u8 (List.replicate 17 0) = C0.toList ∧ C0.size = 17) := ⟨by rw [← hC0]; rfl, by rw [← hC0]; rfl⟩
  rw [hC0] at hbl0 hz0 ho0
  clear hC0
  go_enter Tryz.func144, Tryz.ntmps144
  go_wp2
  go_region
  refine with_world (R := fun W => Exit.then _ _ _ _ W) (Q := fun W => Pm W p Lr S La Bn n ∧ Only [p] w W) _ ⟨HP1.out, HO1.out⟩ ?_
  clear HP1 HO1 c33 hf cB hnI
  rintro w1 ⟨hP1, hb1⟩
  go_upto_region 1 with fail
  refine wp_region_held_drew (S := fun W => W.rangeAt p 1 (nsL .u64 Lr) ∧ W.rangeAt p 16 (nsL .u8 Bn)) (by kernel_rfl) ⟨hP1.drew.rR, hP1.drew.rB⟩ ?_
  intro hS
  have hP := hP1.drew
  have hbV := hb1.drew
  clear hP1 hb1
  revert hP hS hbV
  generalize w1.drew = V
  intro hS hP hbV
  refine wpAnyH_take (i := 0) (oi := { dst := some 10, op := .move (.tmp 0), type := _, pos := _, after := _, guard := none }) (v := .pointer (some ⟨p, 0, none⟩)) rfl (by kernel_rfl) (by kernel_rfl) (by kernel_rfl) (fun _ _ _ h => h) (Or.inl ⟨by rfl, by intro x _; go_simp⟩) hS ?_
  (try simp only [Act.put, List.setIfInBounds_toArray, List.set_cons_zero, List.set_cons_succ])
  refine wpAnyH_take (i := 1) (oi := { dst := some 11, op := .move (.tmp 0), type := _, pos := _, after := _, guard := none }) (v := .pointer (some ⟨p, 0, none⟩)) rfl (by kernel_rfl) (by kernel_rfl) (by kernel_rfl) (fun _ _ _ h => h) (Or.inl ⟨by rfl, by intro x _; go_simp⟩) hS ?_
  (try simp only [Act.put, List.setIfInBounds_toArray, List.set_cons_zero, List.set_cons_succ])
  refine wpAnyH_take (i := 2) (oi := { dst := some 12, op := .nilCheck (.tmp 11), type := _, pos := _, after := _, guard := none }) (v := .pointer (some ⟨p, 0, none⟩)) rfl (by kernel_rfl) (by kernel_rfl) (by kernel_rfl) (fun _ _ _ h => h) (Or.inl ⟨by rfl, by intro x _; go_simp⟩) hS ?_
  (try simp only [Act.put, List.setIfInBounds_toArray, List.set_cons_zero, List.set_cons_succ])
  refine wpAnyH_take (i := 3) (oi := { dst := some 13, op := .fieldAddr 191 (.tmp 12) 3, type := _, pos := _, after := _, guard := none }) (v := .pointer (some ⟨p, 11, none⟩)) rfl (by kernel_rfl) (by kernel_rfl) (by kernel_rfl) (fun _ _ _ h => h) (Or.inl ⟨by rfl, by intro x _; go_simp⟩) hS ?_
  (try simp only [Act.put, List.setIfInBounds_toArray, List.set_cons_zero, List.set_cons_succ])
  refine wpAnyH_take (i := 5) (oi := { dst := some 15, op := .move (.tmp 0), type := _, pos := _, after := _, guard := none }) (v := .pointer (some ⟨p, 0, none⟩)) rfl (by kernel_rfl) (by kernel_rfl) (by kernel_rfl) (fun _ _ _ h => h) (Or.inl ⟨by rfl, by intro x _; go_simp⟩) hS ?_
  (try simp only [Act.put, List.setIfInBounds_toArray, List.set_cons_zero, List.set_cons_succ])
  refine wpAnyH_take (i := 6) (oi := { dst := some 16, op := .nilCheck (.tmp 15), type := _, pos := _, after := _, guard := none }) (v := .pointer (some ⟨p, 0, none⟩)) rfl (by kernel_rfl) (by kernel_rfl) (by kernel_rfl) (fun _ _ _ h => h) (Or.inl ⟨by rfl, by intro x _; go_simp⟩) hS ?_
  (try simp only [Act.put, List.setIfInBounds_toArray, List.set_cons_zero, List.set_cons_succ])
  refine wpAnyH_take (i := 7) (oi := { dst := some 17, op := .fieldAddr 191 (.tmp 16) 4, type := _, pos := _, after := _, guard := none }) (v := .pointer (some ⟨p, 16, none⟩)) rfl (by kernel_rfl) (by kernel_rfl) (by kernel_rfl) (fun _ _ _ h => h) (Or.inl ⟨by rfl, by intro x _; go_simp⟩) hS ?_
  (try simp only [Act.put, List.setIfInBounds_toArray, List.set_cons_zero, List.set_cons_succ])
  refine wpAnyH_take (i := 8) (oi := { dst := some 18, op := .load 185 (.tmp 17), type := _, pos := _, after := _, guard := none }) (v := .agg (nsL .u8 Bn).toArray) rfl (by kernel_rfl) (by kernel_rfl) (by kernel_rfl) (fun _ _ _ h => h) (yieldsIf_load_mid (by rfl) 185 (.tmp 17) rfl p 16 (by simp [Act.eval]) (nsL .u8 Bn) _ (fun x hx => hx.2) Tryz.underlying185 rfl hzB) hS ?_
  (try simp only [Act.put, List.setIfInBounds_toArray, List.set_cons_zero, List.set_cons_succ])
  refine wpAnyH_take (i := 11) (oi := { dst := some 21, op := .move (.tmp 0), type := _, pos := _, after := _, guard := none }) (v := .pointer (some ⟨p, 0, none⟩)) rfl (by kernel_rfl) (by kernel_rfl) (by kernel_rfl) (fun _ _ _ h => h) (Or.inl ⟨by rfl, by intro x _; go_simp⟩) hS ?_
  (try simp only [Act.put, List.setIfInBounds_toArray, List.set_cons_zero, List.set_cons_succ])
  refine wpAnyH_take (i := 12) (oi := { dst := some 22, op := .nilCheck (.tmp 21), type := _, pos := _, after := _, guard := none }) (v := .pointer (some ⟨p, 0, none⟩)) rfl (by kernel_rfl) (by kernel_rfl) (by kernel_rfl) (fun _ _ _ h => h) (Or.inl ⟨by rfl, by intro x _; go_simp⟩) hS ?_
  (try simp only [Act.put, List.setIfInBounds_toArray, List.set_cons_zero, List.set_cons_succ])
  refine wpAnyH_take (i := 13) (oi := { dst := some 23, op := .fieldAddr 191 (.tmp 22) 1, type := _, pos := _, after := _, guard := none }) (v := .pointer (some ⟨p, 1, none⟩)) rfl (by kernel_rfl) (by kernel_rfl) (by kernel_rfl) (fun _ _ _ h => h) (Or.inl ⟨by rfl, by intro x _; go_simp⟩) hS ?_
  (try simp only [Act.put, List.setIfInBounds_toArray, List.set_cons_zero, List.set_cons_succ])
  refine wpAnyH_take (i := 14) (oi := { dst := some 24, op := .load 188 (.tmp 23), type := _, pos := _, after := _, guard := none }) (v := .agg (nsL .u64 Lr).toArray) rfl (by kernel_rfl) (by kernel_rfl) (by kernel_rfl) (fun _ _ _ h => h) (yieldsIf_load_mid (by rfl) 188 (.tmp 23) rfl p 1 (by simp [Act.eval]) (nsL .u64 Lr) _ (fun x hx => hx.1) Tryz.underlying188 rfl hzR) hS ?_
  (try simp only [Act.put, List.setIfInBounds_toArray, List.set_cons_zero, List.set_cons_succ])
  refine wpAnyH_ready (rs := [4, 9]) (by kernel_rfl) (by simp) ?_
  refine AllReadyH.cons (o := { dst := some 14, op := .load 188 (.tmp 13), type := _, pos := _, after := _, guard := none }) rfl (fun K hK => ?_) (AllReadyH.cons (o := { dst := some 19, op := .call { callee := .value (.func 141), args := #[.tmp 18], argTypes := #[185] }, type := _, pos := _, after := _, guard := none }) rfl (fun K hK => ?_) AllReadyH.nil)
  · refine step_load_mid rfl 188 (.tmp 13) rfl p 11 (by simp [Act.eval]) (nsL .u64 La) _ hP.rA Tryz.underlying188 rfl hzA ?_
    refine hK.out _ _ hS (fun _ => ?_)
    clear hK K
    (try simp only [Act.put, List.setIfInBounds_toArray, List.set_cons_zero, List.set_cons_succ])
    refine wpAnyH_ready (rs := [9]) (by kernel_rfl) (by simp) ?_
    refine AllReadyH.cons (o := { dst := some 19, op := .call { callee := .value (.func 141), args := #[.tmp 18], argTypes := #[185] }, type := _, pos := _, after := _, guard := none }) rfl (fun K hK => ?_) AllReadyH.nil
    go_simp
    refine (HNU.out V).mono ?_
    rintro e w2 ⟨rfl, hb2'⟩
    have hP2 := hP.below hb2' hP.lt
    have hS2 : w2.rangeAt p 1 (nsL .u64 Lr) ∧ w2.rangeAt p 16 (nsL .u8 Bn) := ⟨hP2.rR, hP2.rB⟩
    have hb2 := hbV.belowS hb2'
    refine hK.out _ _ hS2 (fun _ => ?_)
    clear hK K hb2'
    (try simp only [Act.put, List.setIfInBounds_toArray, List.set_cons_zero, List.set_cons_succ])
    revert hP2 hS2 hb2
    clear hP hS hbV
    generalize w2 = wA
    intro hP hS hbA
    refine wpAnyH_ready (rs := [10]) (by kernel_rfl) (by simp) ?_
    refine AllReadyH.cons (o := { dst := some 20, op := .call { callee := .value (.func 146), args := #[.tmp 14, .tmp 19], argTypes := #[188, 188] }, type := _, pos := _, after := _, guard := none }) rfl (fun K hK => ?_) AllReadyH.nil
    go_simp
    refine (HPL.out wA).mono ?_
    rintro e w3 ⟨rfl, hb3⟩
    have hP3 := hP.below hb3 hP.lt
    have hS3 : w3.rangeAt p 1 (nsL .u64 Lr) ∧ w3.rangeAt p 16 (nsL .u8 Bn) := ⟨hP3.rR, hP3.rB⟩
    have hbW3 := hbA.belowS hb3
    refine hK.out _ _ hS3 (fun _ => ?_)
    clear hK K hP hb3 hbA
    (try simp only [Act.put, List.setIfInBounds_toArray, List.set_cons_zero, List.set_cons_succ])
    refine wpAnyH_ready (rs := [15]) (by kernel_rfl) (by simp) ?_
    refine AllReadyH.cons (o := { dst := some 25, op := .call { callee := .value (.func 158), args := #[.tmp 20, .tmp 24], argTypes := #[188, 188] }, type := _, pos := _, after := _, guard := none }) rfl (fun K hK => ?_) AllReadyH.nil
    go_simp
    refine (HTI.out w3).mono ?_
    rintro e w4 ⟨⟨X, rfl, hX1, hX2⟩, hb4⟩
    have hP4 := hP3.below hb4 hP3.lt
    have hS4 : w4.rangeAt p 1 (nsL .u64 Lr) ∧ w4.rangeAt p 16 (nsL .u8 Bn) := ⟨hP4.rR, hP4.rB⟩
    have hbW4 := hbW3.belowS hb4
    refine hK.out _ _ hS4 (fun _ => ?_)
    clear hK K hP3 hb4 hbW3
    (try simp only [Act.put, List.setIfInBounds_toArray, List.set_cons_zero, List.set_cons_succ])
    have HX : Hid (X < 1361129467683753853853498429727072845824 ∧ X % Pp = (a + numL blk) * r % Pp) := ⟨hX1, HVL.out ▸ hX2⟩
    clear hX1 hX2
    have hlX := lim_length X
    obtain ⟨L, hL⟩ : ∃ L, lim X = L := ⟨_, rfl⟩
    rw [hL] at hlX ⊢
    have HLX : Hid (lim X = L) := hL
    clear hL
    refine wpAnyH_take (i := 16) (oi := { dst := some 26, op := .nilCheck (.tmp 10), type := _, pos := _, after := _, guard := none }) (v := .pointer (some ⟨p, 0, none⟩)) rfl (by kernel_rfl) (by kernel_rfl) (by kernel_rfl) (fun _ _ _ h => h) (Or.inl ⟨by rfl, by intro x _; go_simp⟩) hS4 ?_
    (try simp only [Act.put, List.setIfInBounds_toArray, List.set_cons_zero, List.set_cons_succ])
    refine wpAnyH_take (i := 17) (oi := { dst := some 27, op := .fieldAddr 191 (.tmp 26) 3, type := _, pos := _, after := _, guard := none }) (v := .pointer (some ⟨p, 11, none⟩)) rfl (by kernel_rfl) (by kernel_rfl) (by kernel_rfl) (fun _ _ _ h => h) (Or.inl ⟨by rfl, by intro x _; go_simp⟩) hS4 ?_
    (try simp only [Act.put, List.setIfInBounds_toArray, List.set_cons_zero, List.set_cons_succ])
    refine wpAnyH_ready (rs := [18]) (by kernel_rfl) (by simp) ?_
    refine AllReadyH.cons (o := { dst := none, op := .store 188 (.tmp 27) (.tmp 25), type := _, pos := _, after := _, guard := none }) rfl (fun K hK => ?_) AllReadyH.nil
    refine step_store_mid rfl 188 (.tmp 27) (.tmp 25) rfl p 11 (ns .u64 L) (by simp [Act.eval]) (by simp [Act.eval]) (hP4.there 11 _ (by rw [ns_size, hlX]; decide)) (ns5 L hlX) (ns_one .u64 L) ?_
    have hP5 : Pm (w4.setCells p 11 (ns .u64 L).toList) p Lr S L Bn n := by simpa [ns] using hP4.setA L hlX
    have hb5 : Only [p] w (w4.setCells p 11 (ns .u64 L).toList) := hbW4.setCells (by simp) _ _
    refine hK.out _ _ ⟨hP5.rR, hP5.rB⟩ (fun _ => ?_)
    clear hK K hP4 hbW4 hS4
    (try simp only [Act.put])
    refine wpAnyH_done (by kernel_rfl) ?_ _
    revert hP5 hb5
    generalize w4.setCells p 11 (ns .u64 L).toList = w5
    intro hP5 hb5
    have hP6 := hP5.setB (List.replicate 17 0) rfl
    have hP7 := hP6.setN 0
    have ht6 := hP5.there 16 17 (by omega)
    have c33 := hP6.full
    have f33 := hP6.frozen 33
    have hb7 : Only [p] w ((w5.setCells p 16 (nsL .u8 (List.replicate 17 0))).setCell ⟨p, 33, none⟩ (.int .i64 ((0 : Nat) : Int))) := (hb5.setCells (by simp) _ _).setCell (by simp) _
    rw [HC0.out.1] at hP7 hb7 c33 f33
    rw [← HC0.out.2] at ht6
    clear hP5 hP6 hb5
    go_wp2_with (first | (refine wpList_build_eq rfl 185 #[] rfl [] (by simp) C0 hbl0 ?_) | (refine wpList_store_mid rfl 185 (.tmp 32) (.tmp 30) rfl p 16 C0 rfl rfl ht6 hz0 ho0 ?_))
    go_end0
    exact ⟨rfl, ⟨X, HX.out.1, HX.out.2, by rw [HLX.out]; exact hP7⟩, hb7⟩
  · go_simp
    refine (HNU.out V).mono ?_
    rintro e w2 ⟨rfl, hb2'⟩
    have hP2 := hP.below hb2' hP.lt
    have hS2 : w2.rangeAt p 1 (nsL .u64 Lr) ∧ w2.rangeAt p 16 (nsL .u8 Bn) := ⟨hP2.rR, hP2.rB⟩
    have hb2 := hbV.belowS hb2'
    refine hK.out _ _ hS2 (fun _ => ?_)
    clear hK K hb2'
    (try simp only [Act.put, List.setIfInBounds_toArray, List.set_cons_zero, List.set_cons_succ])
    refine wpAnyH_ready (rs := [4]) (by kernel_rfl) (by simp) ?_
    refine AllReadyH.cons (o := { dst := some 14, op := .load 188 (.tmp 13), type := _, pos := _, after := _, guard := none }) rfl (fun K hK => ?_) AllReadyH.nil
    refine step_load_mid rfl 188 (.tmp 13) rfl p 11 (by simp [Act.eval]) (nsL .u64 La) _ hP2.rA Tryz.underlying188 rfl hzA ?_
    refine hK.out _ _ hS2 (fun _ => ?_)
    clear hK K
    (try simp only [Act.put, List.setIfInBounds_toArray, List.set_cons_zero, List.set_cons_succ])
    revert hP2 hS2 hb2
    clear hP hS hbV
    generalize w2 = wA
    intro hP hS hbA
    refine wpAnyH_ready (rs := [10]) (by kernel_rfl) (by simp) ?_
    refine AllReadyH.cons (o := { dst := some 20, op := .call { callee := .value (.func 146), args := #[.tmp 14, .tmp 19], argTypes := #[188, 188] }, type := _, pos := _, after := _, guard := none }) rfl (fun K hK => ?_) AllReadyH.nil
    go_simp
    refine (HPL.out wA).mono ?_
    rintro e w3 ⟨rfl, hb3⟩
    have hP3 := hP.below hb3 hP.lt
    have hS3 : w3.rangeAt p 1 (nsL .u64 Lr) ∧ w3.rangeAt p 16 (nsL .u8 Bn) := ⟨hP3.rR, hP3.rB⟩
    have hbW3 := hbA.belowS hb3
    refine hK.out _ _ hS3 (fun _ => ?_)
    clear hK K hP hb3 hbA
    (try simp only [Act.put, List.setIfInBounds_toArray, List.set_cons_zero, List.set_cons_succ])
    refine wpAnyH_ready (rs := [15]) (by kernel_rfl) (by simp) ?_
    refine AllReadyH.cons (o := { dst := some 25, op := .call { callee := .value (.func 158), args := #[.tmp 20, .tmp 24], argTypes := #[188, 188] }, type := _, pos := _, after := _, guard := none }) rfl (fun K hK => ?_) AllReadyH.nil
    go_simp
    refine (HTI.out w3).mono ?_
    rintro e w4 ⟨⟨X, rfl, hX1, hX2⟩, hb4⟩
    have hP4 := hP3.below hb4 hP3.lt
    have hS4 : w4.rangeAt p 1 (nsL .u64 Lr) ∧ w4.rangeAt p 16 (nsL .u8 Bn) := ⟨hP4.rR, hP4.rB⟩
    have hbW4 := hbW3.belowS hb4
    refine hK.out _ _ hS4 (fun _ => ?_)
    clear hK K hP3 hb4 hbW3
    (try simp only [Act.put, List.setIfInBounds_toArray, List.set_cons_zero, List.set_cons_succ])
    have HX : Hid (X < 1361129467683753853853498429727072845824 ∧ X % Pp = (a + numL blk) * r % Pp) := ⟨hX1, HVL.out ▸ hX2⟩
    clear hX1 hX2
    have hlX := lim_length X
    obtain ⟨L, hL⟩ : ∃ L, lim X = L := ⟨_, rfl⟩
    rw [hL] at hlX ⊢
    have HLX : Hid (lim X = L) := hL
    clear hL
    refine wpAnyH_take (i := 16) (oi := { dst := some 26, op := .nilCheck (.tmp 10), type := _, pos := _, after := _, guard := none }) (v := .pointer (some ⟨p, 0, none⟩)) rfl (by kernel_rfl) (by kernel_rfl) (by kernel_rfl) (fun _ _ _ h => h) (Or.inl ⟨by rfl, by intro x _; go_simp⟩) hS4 ?_
    (try simp only [Act.put, List.setIfInBounds_toArray, List.set_cons_zero, List.set_cons_succ])
    refine wpAnyH_take (i := 17) (oi := { dst := some 27, op := .fieldAddr 191 (.tmp 26) 3, type := _, pos := _, after := _, guard := none }) (v := .pointer (some ⟨p, 11, none⟩)) rfl (by kernel_rfl) (by kernel_rfl) (by kernel_rfl) (fun _ _ _ h => h) (Or.inl ⟨by rfl, by intro x _; go_simp⟩) hS4 ?_
    (try simp only [Act.put, List.setIfInBounds_toArray, List.set_cons_zero, List.set_cons_succ])
    refine wpAnyH_ready (rs := [18]) (by kernel_rfl) (by simp) ?_
    refine AllReadyH.cons (o := { dst := none, op := .store 188 (.tmp 27) (.tmp 25), type := _, pos := _, after := _, guard := none }) rfl (fun K hK => ?_) AllReadyH.nil
    refine step_store_mid rfl 188 (.tmp 27) (.tmp 25) rfl p 11 (ns .u64 L) (by simp [Act.eval]) (by simp [Act.eval]) (hP4.there 11 _ (by rw [ns_size, hlX]; decide)) (ns5 L hlX) (ns_one .u64 L) ?_
    have hP5 : Pm (w4.setCells p 11 (ns .u64 L).toList) p Lr S L Bn n := by simpa [ns] using hP4.setA L hlX
    have hb5 : Only [p] w (w4.setCells p 11 (ns .u64 L).toList) := hbW4.setCells (by simp) _ _
    refine hK.out _ _ ⟨hP5.rR, hP5.rB⟩ (fun _ => ?_)
    clear hK K hP4 hbW4 hS4
    (try simp only [Act.put])
    refine wpAnyH_done (by kernel_rfl) ?_ _
    revert hP5 hb5
    generalize w4.setCells p 11 (ns .u64 L).toList = w5
    intro hP5 hb5
    have hP6 := hP5.setB (List.replicate 17 0) rfl
    have hP7 := hP6.setN 0
    have ht6 := hP5.there 16 17 (by omega)
    have c33 := hP6.full
    have f33 := hP6.frozen 33
    have hb7 : Only [p] w ((w5.setCells p 16 (nsL .u8 (List.replicate 17 0))).setCell ⟨p, 33, none⟩ (.int .i64 ((0 : Nat) : Int))) := (hb5.setCells (by simp) _ _).setCell (by simp) _
    rw [HC0.out.1] at hP7 hb7 c33 f33
    rw [← HC0.out.2] at ht6
    clear hP5 hP6 hb5
    go_wp2_with (first | (refine wpList_build_eq rfl 185 #[] rfl [] (by simp) C0 hbl0 ?_) | (refine wpList_store_mid rfl 185 (.tmp 32) (.tmp 30) rfl p 16 C0 rfl rfl ht6 hz0 ho0 ?_))
    go_end0
    exact ⟨rfl, ⟨X, HX.out.1, HX.out.2, by rw [HLX.out]; exact hP7⟩, hb7⟩
end Go.Proofs.YtengclnahppmhaaGreatDoor.Pol

namespace Go.Proofs.YtengclnahppmhaaGreatDoor.Pol
open Go.RowKit Go.Lib Go.Deep

theorem fill_drop (m : Nat) (l : List Nat) : (fill m l).drop l.length = List.replicate (m - l.length) 0 := by simp [fill]
theorem nsL_take (kd : IntKind) (l : List Nat) (k : Nat) : (nsL kd l).take k = nsL kd (l.take k) := by simp [nsL]
theorem nsL_drop (kd : IntKind) (l : List Nat) (k : Nat) : (nsL kd l).drop k = nsL kd (l.drop k) := by simp [nsL]

/-- bytes laid behind those that make no whole block yet -/
theorem copyB (R S A : List Nat) (rest y : List UInt8) (n q m : Nat) (h1 : R.length = 5) (h2 : S.length = 5) (h3 : A.length = 5) (hq : rest.length = q) (hm : y.length = m) (hl : q + m ≤ 16) :
    (mcells R S A (fill 17 (nat8 rest)) n).toArray.toList.take (16 + q) ++ byteCells y ++ (mcells R S A (fill 17 (nat8 rest)) n).toArray.toList.drop (16 + q + m) = mcells R S A (fill 17 (nat8 (rest ++ y))) n := by
  have e1 : mcells R S A (fill 17 (nat8 rest)) n = ((.bool true :: (nsL .u64 R ++ nsL .u64 S ++ nsL .u64 A)) ++ nsL .u8 (nat8 rest)) ++ (nsL .u8 (List.replicate m 0) ++ (nsL .u8 (List.replicate (17 - q - m) 0) ++ [.int .i64 (n : Int)])) := by
    have : List.replicate (17 - q) 0 = List.replicate m 0 ++ List.replicate (17 - q - m) (0 : Nat) := by rw [List.replicate_append_replicate]; congr 1; omega
    simp only [mcells, fill, nat8_length, hq, this, nsL_append, List.cons_append, List.append_assoc]
  have l1 : (((Value.bool true :: (nsL .u64 R ++ nsL .u64 S ++ nsL .u64 A)) ++ nsL .u8 (nat8 rest))).length = 16 + q := by simp [nsL_length, nat8_length, h1, h2, h3, hq]; omega
  have l2 : (nsL .u8 (List.replicate m 0)).length = m := by simp [nsL_length]
  rw [List.toList_toArray, e1, List.take_left' l1, ← List.drop_drop, List.drop_left' l1, List.drop_left' l2, ← nat8_cells y]
  have : 17 - (nat8 rest ++ nat8 y).length = 17 - q - m := by rw [List.length_append, nat8_length, nat8_length, hq, hm]; omega
  simp only [mcells, fill, this, nat8_append, nsL_append, List.cons_append, List.append_assoc]

/-- a tag that took a text -/
structure Mac (w : World) (p r s : Nat) (l : List UInt8) : Prop where
  ex : ∃ A, A < 1361129467683753853853498429727072845824 ∧ A % Pp = accN r l (l.length / 16) ∧ Pm w p (lim r) (lim s) (lim A) (fill 17 (nat8 (l.drop (16 * (l.length / 16))))) (l.length % 16)
theorem Mac.lt {w : World} {p r s : Nat} {l : List UInt8} (h : Mac w p r s l) : p < w.heap.size := by
  obtain ⟨A, _, _, hP⟩ := h.ex
  exact hP.lt
theorem Mac.kept {w w' : World} {p r s : Nat} {l : List UInt8} (h : Mac w p r s l) (hk : w'.heap[p]? = w.heap[p]?) : Mac w' p r s l := by
  obtain ⟨A, h1, h2, hP⟩ := h.ex
  exact ⟨A, h1, h2, hP.kept hk⟩
theorem Mac.below {w w' : World} {B p r s : Nat} {l : List UInt8} (h : Mac w p r s l) (hb : Below B w w') (hp : p < B) : Mac w' p r s l := h.kept (hb.block p hp)
theorem Mac.only {w w' : World} {S : List Nat} {p r s : Nat} {l : List UInt8} (h : Mac w p r s l) (hb : Only S w w') (hp : p ∉ S) : Mac w' p r s l := h.kept (hb.block p h.lt hp)
theorem Mac.made {w : World} {p r s : Nat} {l : List UInt8} (h : Mac w p r s l) : w.cell? ⟨p, 0, none⟩ = some (.bool true) := by
  obtain ⟨A, _, _, hP⟩ := h.ex
  exact hP.made

theorem step_mod (A N r acc : Nat) (h : A % Pp = acc) : (A + N) * r % Pp = (acc + N) * r % Pp := by
  subst h
  rw [Nat.mul_mod, Nat.mul_mod (A % Pp + N), Nat.mod_add_mod]
theorem acc_full (r : Nat) (l y : List UInt8) (h : l.length % 16 + y.length = 16) :
    (l ++ y).length / 16 = l.length / 16 + 1 ∧ (l ++ y).length % 16 = 0 ∧ (l ++ y).drop (16 * ((l ++ y).length / 16)) = [] ∧
      accN r (l ++ y) ((l ++ y).length / 16) = (accN r l (l.length / 16) + numL (l.drop (16 * (l.length / 16)) ++ y ++ [1])) * r % Pp := by
  have e1 : (l ++ y).length / 16 = l.length / 16 + 1 := by rw [List.length_append]; omega
  have e3 : (l ++ y).drop (16 * (l.length / 16)) = l.drop (16 * (l.length / 16)) ++ y := List.drop_append_of_le_length (by omega)
  refine ⟨e1, by rw [List.length_append]; omega, List.drop_eq_nil_of_le (by rw [List.length_append]; omega), ?_⟩
  rw [e1, accN, accN_append _ _ _ _ (by omega), e3, List.take_of_length_le (by rw [List.length_append, List.length_drop]; omega), pstep]
theorem acc_some (r : Nat) (l y : List UInt8) (h : l.length % 16 + y.length < 16) :
    (l ++ y).length / 16 = l.length / 16 ∧ (l ++ y).length % 16 = l.length % 16 + y.length ∧ (l ++ y).drop (16 * ((l ++ y).length / 16)) = l.drop (16 * (l.length / 16)) ++ y ∧ accN r (l ++ y) ((l ++ y).length / 16) = accN r l (l.length / 16) := by
  have e1 : (l ++ y).length / 16 = l.length / 16 := by rw [List.length_append]; omega
  refine ⟨e1, by rw [List.length_append]; omega, ?_, ?_⟩
  · rw [e1]
    exact List.drop_append_of_le_length (by omega)
  · rw [e1, accN_append _ _ _ _ (by omega)]
/-- the tag's last block -/
theorem acc_end (r : Nat) (l : List UInt8) : accN r l ((l.length + 15) / 16) = if l.length % 16 = 0 then accN r l (l.length / 16) else (accN r l (l.length / 16) + numL (l.drop (16 * (l.length / 16)) ++ [1])) * r % Pp := by
  by_cases h : l.length % 16 = 0
  · rw [if_pos h, show (l.length + 15) / 16 = l.length / 16 by omega]
  · rw [if_neg h, show (l.length + 15) / 16 = l.length / 16 + 1 by omega, accN, List.take_of_length_le (by rw [List.length_drop]; omega), pstep]
theorem num_block (x : List UInt8) (h : x.length ≤ 16) : numL (x ++ [1]) < 1361129467683753853853498429727072845824 := by
  have h1 := numL_lt (x ++ [1])
  have h2 : numL (x ++ [1]) = numL x + 256 ^ x.length * 1 := by rw [numL_append]; rfl
  have h3 := numL_lt x
  have h4 : 256 ^ x.length ≤ 256 ^ 16 := Nat.pow_le_pow_right (by omega) h
  simp only [Nat.reducePow] at h4
  omega
theorem set_block (x : List UInt8) (h : x.length ≤ 16) : nat8 (x ++ [1] ++ List.replicate (16 - x.length) 0) = (fill 17 (nat8 x)).set x.length 1 := by
  have := fill_set 17 x.length (nat8 x) 1 (nat8_length x) (by omega)
  rw [this]
  simp [fill, nat8]

theorem size5 : (Tryz.prog.info? 5).map (·.size) = some 1 := by kernel_rfl
theorem slice_rest {x : ByteArray} {m : Nat} (_hm : m ≤ x.size) : (x.extract m x.size).data.toList = x.data.toList.drop m ∧ (x.extract m x.size).size = x.size - m := by
  refine ⟨?_, ?_⟩
  · have : (x.extract m x.size).data = x.data.extract m x.size := by simp
    rw [this, Array.toList_extract]
    simp [List.extract]
    have e : x.data.toList.length = x.size := by rw [Array.length_toList]; rfl
    rw [List.take_of_length_le]
    rw [List.length_drop, e]
    exact Nat.le_refl _
  · simp

end Go.Proofs.YtengclnahppmhaaGreatDoor.Pol

namespace Go.Proofs.YtengclnahppmhaaGreatDoor.Pol
open Go.RowKit Go.Lib Go.Deep

theorem run_slice_l {P : Program} (W : World) (x : ByteArray) (m : Nat) (hm : m ≤ x.size) (h9 : P.underlying 9 = some .string) (_h63 : x.size ≤ 9223372036854775807) : (Instr.slice 9 (.string x) (some (.int .i64 (m : Int))) none none).run P W = .ok (.string (x.extract m x.size)) W :=
  run_slice_string_l (P := P) W 9 x h9 .i64 (m : Int) (by omega) (by omega)

set_option maxRecDepth 20000 in
set_option maxHeartbeats 2000000 in
theorem take_any (p r s : Nat) (l : List UInt8) (data : ByteArray) (w : World) (hM : Mac w p r s l) (hr : r < 1361129467683753853853498429727072845824) (h63 : data.size ≤ 9223372036854775807) :
    Calls Tryz.prog 143 #[.pointer (some ⟨p, 0, none⟩), .string data] w fun e w' => e = .returned (.tuple #[]) ∧ Mac w' p r s (l ++ data.data.toList) ∧ Only [p] w w' := by
  go_enter Tryz.func143, Tryz.ntmps143
  go_wp2
  go_loopg [1] data.size (fun gk tx wr => ∃ (x : ByteArray) (done : List UInt8), tx = .string x ∧ x.size = gk ∧ done ++ x.data.toList = data.data.toList ∧ Mac wr p r s (l ++ done) ∧ Only [p] w wr)
  case atStart => exact ⟨data, [], rfl, rfl, rfl, by rw [List.append_nil]; exact hM, Only.refl _ _⟩
  case round =>
    clear hM
    obtain ⟨x, done, rfl, hx, hdn, hM, hO⟩ := hrel
    have HX : Hid (x.size = gk) := hx
    have HDN : Hid (done ++ x.data.toList = data.data.toList) := hdn
    have hxs : x.size ≤ data.size := by
      have := congrArg List.length hdn
      rw [List.length_append, ← size_eq, ← size_eq] at this
      omega
    clear hdn
    by_cases hpos : 0 < x.size
    · have hposI : (0 : Int) < (x.size : Int) := by omega
      obtain ⟨A, hA1, hA2, hP⟩ := hM.ex
      obtain ⟨cur, hcur⟩ : ∃ cur, l ++ done = cur := ⟨_, rfl⟩
      rw [hcur] at hA2 hP
      obtain ⟨rest, hrest⟩ : ∃ rest, cur.drop (16 * (cur.length / 16)) = rest := ⟨_, rfl⟩
      obtain ⟨q, hq⟩ : ∃ q, cur.length % 16 = q := ⟨_, rfl⟩
      rw [hrest, hq] at hP
      have hq16 : q < 16 := by omega
      have hrq : rest.length = q := by rw [← hrest, List.length_drop]; omega
      obtain ⟨m, hm⟩ : ∃ m, Nat.min x.size (16 - q) = m := ⟨_, rfl⟩
      have hm1 : m ≤ x.size := by rw [← hm]; exact Nat.min_le_left _ _
      have hm2 : q + m ≤ 16 := by have : m ≤ 16 - q := by rw [← hm]; exact Nat.min_le_right _ _
                                  omega
      have hm3 : 0 < m := by rw [← hm]; exact Nat.lt_min.2 ⟨hpos, by omega⟩
      have hym : (x.data.toList.take m).length = m := by rw [List.length_take, ← size_eq]; omega
      have hcs := copyB (lim r) (lim s) (lim A) rest (x.data.toList.take m) q q m (lim_length _) (lim_length _) (lim_length _) hrq hym hm2
      have hfit : 16 + q + m ≤ (mcells (lim r) (lim s) (lim A) (fill 17 (nat8 rest)) q).toArray.size := by rw [hP.size]; omega
      have hP1 : Pm (wr.drew.setRow p (mcells (lim r) (lim s) (lim A) (fill 17 (nat8 (rest ++ x.data.toList.take m))) q).toArray) p (lim r) (lim s) (lim A) (fill 17 (nat8 (rest ++ x.data.toList.take m))) q :=
        ⟨setRow_heap _ _ _ _ _ _ hP.drew.heap, hP.lr, hP.ls, hP.la, fill_length _ _ (by rw [nat8_length, List.length_append, hrq, hym]; omega)⟩
      have hO1 : Only [p] w (wr.drew.setRow p (mcells (lim r) (lim s) (lim A) (fill 17 (nat8 (rest ++ x.data.toList.take m))) q).toArray) := hO.drew.setRow (by simp) _
      have hg := hP.drew.heap
      have c33 := hP.full
      have c33d : wr.drew.cell? ⟨p, 33, none⟩ = some (.int .i64 (q : Int)) := c33
      have q0 : (0 : Int) ≤ (q : Int) := by omega
      have q1 : (q : Int) ≤ 16 := by omega
      have q2 : ¬ 17 = q := by omega
      clear hP hO hM
      revert hcs hfit hP1 hO1 hg
      generalize (mcells (lim r) (lim s) (lim A) (fill 17 (nat8 rest)) q).toArray = C0
      generalize hC1 : mcells (lim r) (lim s) (lim A) (fill 17 (nat8 (rest ++ x.data.toList.take m))) q = C1
      intro hcs hfit hP1 hO1 hg
      go_wp2_with fail
      go_region_law (refine step_copy_string rfl (.tmp 15) (.tmp 16) 96 9 rfl 5 Tryz.underlying96 size5 p (16 + q) (16 - q) (17 - q) m x (by simp [Act.eval, Act.put]) (by simp [Act.eval, Act.put]) C0 191 hg hm hfit C1 hcs ?_)
      refine with_world (R := fun W => Exit.then _ _ _ _ W) (Q := fun W => Pm W p (lim r) (lim s) (lim A) (fill 17 (nat8 (rest ++ x.data.toList.take m))) q ∧ Only [p] w W) _ ⟨hP1, hO1⟩ ?_
      clear hcs hfit hP1 hO1 hg c33 c33d hC1
      rintro w1 ⟨hP1, hO1⟩
      have hsl := fun W => run_slice_l (P := Tryz.prog) W x m hm1 Tryz.underlying9 (by omega)
      obtain ⟨hy1, hy2⟩ := slice_rest hm1
      have HE : Hid ((done ++ x.data.toList.take m) ++ (x.extract m x.size).data.toList = data.data.toList) := by
        show _ = _
        rw [hy1, List.append_assoc, List.take_append_drop]
        exact HDN.out
      revert hsl hy2 HE
      clear hy1
      generalize x.extract m x.size = y
      intro hsl hy2 HE
      have c33 := hP1.full
      have f33 := hP1.frozen 33
      have hP2 := hP1.setN (q + m)
      have hO2 : Only [p] w (w1.setCell ⟨p, 33, none⟩ (.int .i64 ((q + m : Nat) : Int))) := hO1.setCell (by simp) _
      rw [Int.natCast_add] at hP2 hO2
      have HMC : Hid (l ++ (done ++ x.data.toList.take m) = cur ++ x.data.toList.take m) := by show _ = _; rw [← List.append_assoc, hcur]
      clear hcur hP1 hO1
      by_cases h16 : q + m = 16
      · have h16I : (q : Int) + (m : Int) = 16 := by omega
        obtain ⟨a1, a2, a3, a4⟩ := acc_full r cur (x.data.toList.take m) (by omega)
        rw [hrest] at a4
        have hnb := num_block (rest ++ x.data.toList.take m) (by rw [List.length_append]; omega)
        have hsb := set_block (rest ++ x.data.toList.take m) (by rw [List.length_append]; omega)
        rw [List.length_append, hrq, hym, h16, Nat.sub_self, List.replicate_zero, List.append_nil] at hsb
        have hbl : (rest ++ x.data.toList.take m ++ [1]).length = 17 := by rw [List.length_append, List.length_append, hrq, hym, h16]; rfl
        rw [h16I] at hP2 hO2
        have hP2' : Pm (w1.setCell ⟨p, 33, none⟩ (.int .i64 16)) p (lim r) (lim s) (lim A) (fill 17 (nat8 (rest ++ x.data.toList.take m))) 16 := by rw [← h16]; exact hP2
        have hend := endBlock_any hP2' (by omega) hr hA1 _ hbl hsb hnb
        have HF : Hid (∀ W X, X < 1361129467683753853853498429727072845824 → X % Pp = (A + numL (rest ++ x.data.toList.take m ++ [1])) * r % Pp → Pm W p (lim r) (lim s) (lim X) (List.replicate 17 0) 0 → Mac W p r s (l ++ (done ++ x.data.toList.take m))) := fun W X h1 h2 h3 => by
          rw [HMC.out]
          refine ⟨X, h1, ?_, ?_⟩
          · rw [h2, a4, step_mod A _ r _ hA2]
          · rw [a3, a2]
            exact h3
        clear hP2 hP2' a1 a2 a3 a4 hnb hsb hbl hA2
        go_wp2_with (go_at_call 144; refine hend.mono ?_; rintro e w3 ⟨rfl, ⟨X, hX1, hX2, hX3⟩, hO3⟩)
        have hMf := HF.out w3 X hX1 hX2 hX3
        have hOf := hO2.trans hO3
        clear HF hX1 hX2 hX3 hend hO2 hO3
        go_roundg y.size
        case measure => have := HX.out; omega
        case rel => exact ⟨y, done ++ x.data.toList.take m, rfl, rfl, HE.out, hMf, hOf⟩
      · have h16I : ¬ (q : Int) + (m : Int) = 16 := by omega
        obtain ⟨a1, a2, a3, a4⟩ := acc_some r cur (x.data.toList.take m) (by omega)
        have hMf : Mac (w1.setCell ⟨p, 33, none⟩ (.int .i64 ((q : Int) + (m : Int)))) p r s (l ++ (done ++ x.data.toList.take m)) := by
          rw [HMC.out]
          refine ⟨A, hA1, by rw [a4, hA2], ?_⟩
          rw [a3, a2, hrest, hq, hym]
          exact hP2
        clear hP2 a1 a2 a3 a4 hA2
        go_wp2
        go_roundg y.size
        case measure => have := HX.out; omega
        case rel => exact ⟨y, done ++ x.data.toList.take m, rfl, rfl, HE.out, hMf, hO2⟩
    · have hposI : ¬ (0 : Int) < (x.size : Int) := by omega
      have hx0 : x.data.toList = [] := List.eq_nil_of_length_eq_zero (by rw [← size_eq]; omega)
      have HD : Hid (l ++ data.data.toList = l ++ done) := by show _ = _; rw [← HDN.out, hx0, List.append_nil]
      clear hx0
      go_wp2
      go_end0
      rw [HD.out]
      exact ⟨rfl, hM, hO⟩

end Go.Proofs.YtengclnahppmhaaGreatDoor.Pol

namespace Go.Proofs.YtengclnahppmhaaGreatDoor.Pol
open Go.RowKit Go.Lib Go.Deep

def zero34 : Array Value := #[.bool false] ++ ns .u64 (List.replicate 15 0) ++ ns .u8 (List.replicate 17 0) ++ #[.int .i64 0]
theorem zero34_run (w : World) : (zeroValue 191).run Tryz.prog w = .ok (.agg zero34) w := by kernel_rfl
theorem wpList_alloc_zero {P : Program} {ops : Array Oper} {rest : List Oper} {o : Oper} {a : Act} {w : World} {Q : Exit → Act → World → Prop} (hg : o.guard = none) (t : TypeId) (z : Array Value) (ho : o.op = .alloc t)
    (hz : (zeroValue t).run P w = .ok (.agg z) w) (h : wpList P ops Q rest (a.put o.dst (.pointer (some ⟨w.heap.size, 0, none⟩))) (w.alloc (.cells z t))) : wpList P ops Q (o :: rest) a w := by
  refine wpList_plain hg fun K hK => ?_
  unfold Oper.wp execOp
  simp [ho, hz, Instr.alloc, Oper.upon, Result.andThen]
  exact hK _ _ h

/-- what comes of the limbs at the end -/
theorem end_contracts (X s acc : Nat) (hX : X < 1361129467683753853853498429727072845824) (hacc : X % Pp = acc) (hs : s < 340282366920938463463374607431768211456) :
    ∃ Z LV y, LV.length = 5 ∧ (∀ W, Calls Tryz.prog 145 #[.agg (ns .u64 (lim X))] W fun e w' => e = .returned (.agg (ns .u64 (lim acc))) ∧ Below W.heap.size W w')
      ∧ (∀ W, Calls Tryz.prog 146 #[.agg (ns .u64 (lim acc)), .agg (ns .u64 (lim s))] W fun e w' => e = .returned (.agg (ns .u64 Z)) ∧ Below W.heap.size W w')
      ∧ (∀ W, Calls Tryz.prog 147 #[.agg (ns .u64 Z)] W fun e w' => e = .returned (.tuple #[.agg (ns .u64 LV), .int .u64 ((y : Nat) : Int)]) ∧ Below W.heap.size W w')
      ∧ (∀ W, Calls Tryz.prog 148 #[.agg (ns .u64 LV)] W fun e w' => e = .returned (.string (str (bytL 16 (acc + s)))) ∧ Below W.heap.size W w') := by
  have hal : acc < 1361129467683753853853498429727072845824 := by rw [← hacc]; exact Nat.lt_of_le_of_lt (Nat.mod_le _ _) hX
  refine ⟨List.zipWith (· + ·) (lim acc) (lim s), lim (acc + s), (acc + s) / 1361129467683753853853498429727072845824, lim_length _, fun W => ?_, fun W => ?_, fun W => ?_, fun W => ?_⟩
  · have h := least_any X hX W
    rw [hacc] at h
    exact h
  · exact plus_any _ _ (lim_length _) (lim_length _) (fun i => by have := lim_at acc i; omega) (fun i => by have := lim_at s i; omega) W
  · have h := spread_any (List.zipWith (· + ·) (lim acc) (lim s)) (by rw [List.length_zipWith, lim_length, lim_length]; rfl) (fun i => by have := zip_lt _ _ 67108864 (by omega) (lim_at acc) (lim_at s) i; omega) W
    rw [vl_zip_add _ _ _ (by rw [lim_length, lim_length]), vl_lim _ hal, vl_lim s (by omega)] at h
    exact h
  · have e1 : lim (acc + s) = lim ((acc + s) % 1361129467683753853853498429727072845824) := (dg_mod 67108864 5 (acc + s) (by omega)).symm
    have e2 : bytL 16 (acc + s) = bytL 16 ((acc + s) % 1361129467683753853853498429727072845824) := by
      unfold bytL
      rw [← dg_mod 256 16 (acc + s) (by omega), ← dg_mod 256 16 (_ % 1361129467683753853853498429727072845824) (by omega)]
      congr 2
      simp only [Nat.reducePow]
      omega
    rw [e1, e2]
    exact text_any _ (Nat.mod_lt _ (by omega)) W

set_option maxRecDepth 20000 in
set_option maxHeartbeats 2000000 in
theorem sum_any {w : World} {p r s : Nat} {l : List UInt8} (hM : Mac w p r s l) (hr : r < 1361129467683753853853498429727072845824) (hs : s < 340282366920938463463374607431768211456) :
    Calls Tryz.prog 126 #[.pointer (some ⟨p, 0, none⟩)] w fun e w' => e = .returned (.string (str (bytL 16 (tagN r s l)))) ∧ Below w.heap.size w w' := by
  have hth := mthere_yes hM.made
  obtain ⟨A, hA1, hA2, hP0⟩ := hM.ex
  have hacc := acc_end r l
  have hls := lim_length s
  have hrest : (l.drop (16 * (l.length / 16))).length = l.length % 16 := by rw [List.length_drop]; omega
  have HTN : Hid (tagN r s l = accN r l ((l.length + 15) / 16) + s) := rfl
  revert hP0 hacc hrest
  generalize l.drop (16 * (l.length / 16)) = rest
  have hq16 : l.length % 16 < 16 := by omega
  generalize l.length % 16 = q at *
  intro hP0 hacc hrest
  have hheap := hP0.heap
  have hsz := hP0.size
  have hszM : (Tryz.prog.info? 191).map (·.size) = some (mcells (lim r) (lim s) (lim A) (fill 17 (nat8 rest)) q).toArray.size := by rw [hsz]; exact size49
  have hone : (mcells (lim r) (lim s) (lim A) (fill 17 (nat8 rest)) q).toArray.all (·.oneCell') = true := all_oneCell_toArray (by
    intro v hv
    simp only [mcells, List.mem_cons, List.mem_append, List.not_mem_nil, or_false] at hv
    rcases hv with rfl | ((((h | h) | h) | h) | rfl)
    · rfl
    · exact nsL_one _ _ v h
    · exact nsL_one _ _ v h
    · exact nsL_one _ _ v h
    · exact nsL_one _ _ v h
    · rfl)
  have HN : Hid (Pm ((w.alloc (.cells zero34 191)).setCells w.heap.size 0 (mcells (lim r) (lim s) (lim A) (fill 17 (nat8 rest)) q).toArray.toList) w.heap.size (lim r) (lim s) (lim A) (fill 17 (nat8 rest)) q
      ∧ Pm ((w.alloc (.cells zero34 191)).setCells w.heap.size 0 (mcells (lim r) (lim s) (lim A) (fill 17 (nat8 rest)) q).toArray.toList) p (lim r) (lim s) (lim A) (fill 17 (nat8 rest)) q
      ∧ Below w.heap.size w ((w.alloc (.cells zero34 191)).setCells w.heap.size 0 (mcells (lim r) (lim s) (lim A) (fill 17 (nat8 rest)) q).toArray.toList)) := by
    refine ⟨⟨?_, hP0.lr, hP0.ls, hP0.la, hP0.lb⟩, ?_, Below.setCells ((Below.refl _ _).alloc (Nat.le_refl _) _) (Nat.le_refl _) _ _⟩
    · have h := heap_setCells w.heap.size 191 (mcells (lim r) (lim s) (lim A) (fill 17 (nat8 rest)) q).toArray.toList 0 zero34 _ (heap_new w (.cells zero34 191))
      rw [setMany_all _ _ (by rw [Array.length_toList, hsz]; rfl), Array.toArray_toList] at h
      exact h
    · exact hP0.kept ((heap_setCells_other _ _ (by have := hP0.lt; omega) _ _ _).trans (Below.heap_alloc _ _ _ hP0.lt))
  have hplt := hP0.lt
  have hth34 : (w.alloc (.cells zero34 191)).there w.heap.size 0 (mcells (lim r) (lim s) (lim A) (fill 17 (nat8 rest)) q).toArray.size := there_of_heap (heap_new _ _) (by rw [hsz]; decide)
  have hzr := zero34_run w
  clear hP0 hM
  revert hheap hsz hszM hone HN hth34
  generalize (mcells (lim r) (lim s) (lim A) (fill 17 (nat8 rest)) q).toArray = C
  intro hheap hsz hszM hone HN hth34
  revert hzr HN hth34
  generalize zero34 = Z34
  intro hzr HN hth34
  go_enter Tryz.func126, Tryz.ntmps126
  go_wp2_with fail
  refine hth.mono ?_
  rintro e w' ⟨rfl, rfl⟩
  go_upto_region 4 with (first | (refine wpList_load_row rfl 191 (.tmp 10) rfl p rfl 191 _ (0, 0) _ hheap Tryz.underlying191 rfl hszM ?_) | (refine wpList_alloc_zero rfl 191 _ rfl hzr ?_) | (refine wpList_store_mid rfl 191 (.tmp 3) (.tmp 11) rfl w.heap.size 0 C rfl rfl hth34 hszM hone ?_))
  refine with_world (R := fun W => Code.wp _ _ _ _ W) (Q := fun W => Pm W w.heap.size (lim r) (lim s) (lim A) (fill 17 (nat8 rest)) q ∧ Pm W p (lim r) (lim s) (lim A) (fill 17 (nat8 rest)) q ∧ Below w.heap.size w W) _ HN.out ?_
  clear HN hth34 hheap hsz hszM hone hzr hth
  rintro w3 ⟨hG, hP, hb⟩
  have hpg : p ≠ w.heap.size := by omega
  have hgw : w.heap.size ≤ w.heap.size := Nat.le_refl _
  generalize hgg : w.heap.size = g at hG hpg ⊢
  have HG : Hid (w.heap.size = g) := hgg
  clear hgg hgw
  have c33 := hG.full
  by_cases hq0 : q = 0
  · subst hq0
    rw [if_pos rfl] at hacc
    rw [← hacc] at hA2
    obtain ⟨Z, LV, y, hlV, k1, k2, k3, k4⟩ := end_contracts A s _ hA1 hA2 hs
    rw [← HTN.out] at k4
    have HLE : Hid _ := k1
    have HPL : Hid _ := k2
    have HSP : Hid _ := k3
    have HTX : Hid _ := k4
    clear k1 k2 k3 k4 HTN hA2 hA1 hacc
    have hlX := lim_length A
    revert hG hP HLE HPL hlX hls
    generalize lim A = LX
    generalize lim s = LS
    generalize lim (accN r l ((l.length + 15) / 16)) = LA
    intro hlS hP hG HLE HPL hlX
    go_upto_region 6 with fail
    have hzX : (Tryz.prog.info? 188).map (·.size) = some (nsL .u64 LX).length := by rw [nsL_length, hlX]; exact size46
    have hzS : (Tryz.prog.info? 188).map (·.size) = some (nsL .u64 LS).length := by rw [nsL_length, hlS]; exact size46
    refine wp_region_held_drew (S := fun W => W.rangeAt g 11 (nsL .u64 LX) ∧ W.rangeAt p 6 (nsL .u64 LS)) (by kernel_rfl) ⟨hG.drew.rA, hP.drew.rS⟩ ?_
    intro hS
    have hGV := hG.drew
    have hPV := hP.drew
    have hbV := hb.drew
    clear hG hP hb
    revert hS hGV hPV hbV
    generalize w3.drew = V
    intro hS hGV hPV hbV
    refine wpAnyH_take (i := 0) (oi := { dst := some 17, op := .fieldAddr 191 (.tmp 3) 3, type := _, pos := _, after := _, guard := none }) (v := .pointer (some ⟨g, 11, none⟩)) rfl (by kernel_rfl) (by kernel_rfl) (by kernel_rfl) (fun _ _ _ h => h) (Or.inl ⟨by rfl, by intro x _; go_simp⟩) hS ?_
    (try simp only [Act.put, List.setIfInBounds_toArray, List.set_cons_zero, List.set_cons_succ])
    refine wpAnyH_take (i := 1) (oi := { dst := some 18, op := .load 188 (.tmp 17), type := _, pos := _, after := _, guard := none }) (v := .agg (nsL .u64 LX).toArray) rfl (by kernel_rfl) (by kernel_rfl) (by kernel_rfl) (fun _ _ _ h => h) (yieldsIf_load_mid (by rfl) 188 (.tmp 17) rfl g 11 (by simp [Act.eval]) (nsL .u64 LX) _ (fun x hx => hx.1) Tryz.underlying188 rfl hzX) hS ?_
    (try simp only [Act.put, List.setIfInBounds_toArray, List.set_cons_zero, List.set_cons_succ])
    refine wpAnyH_take (i := 3) (oi := { dst := some 20, op := .move (.tmp 0), type := _, pos := _, after := _, guard := none }) (v := .pointer (some ⟨p, 0, none⟩)) rfl (by kernel_rfl) (by kernel_rfl) (by kernel_rfl) (fun _ _ _ h => h) (Or.inl ⟨by rfl, by intro x _; go_simp⟩) hS ?_
    (try simp only [Act.put, List.setIfInBounds_toArray, List.set_cons_zero, List.set_cons_succ])
    refine wpAnyH_take (i := 4) (oi := { dst := some 21, op := .nilCheck (.tmp 20), type := _, pos := _, after := _, guard := none }) (v := .pointer (some ⟨p, 0, none⟩)) rfl (by kernel_rfl) (by kernel_rfl) (by kernel_rfl) (fun _ _ _ h => h) (Or.inl ⟨by rfl, by intro x _; go_simp⟩) hS ?_
    (try simp only [Act.put, List.setIfInBounds_toArray, List.set_cons_zero, List.set_cons_succ])
    refine wpAnyH_take (i := 5) (oi := { dst := some 22, op := .fieldAddr 191 (.tmp 21) 2, type := _, pos := _, after := _, guard := none }) (v := .pointer (some ⟨p, 6, none⟩)) rfl (by kernel_rfl) (by kernel_rfl) (by kernel_rfl) (fun _ _ _ h => h) (Or.inl ⟨by rfl, by intro x _; go_simp⟩) hS ?_
    (try simp only [Act.put, List.setIfInBounds_toArray, List.set_cons_zero, List.set_cons_succ])
    refine wpAnyH_take (i := 6) (oi := { dst := some 23, op := .load 188 (.tmp 22), type := _, pos := _, after := _, guard := none }) (v := .agg (nsL .u64 LS).toArray) rfl (by kernel_rfl) (by kernel_rfl) (by kernel_rfl) (fun _ _ _ h => h) (yieldsIf_load_mid (by rfl) 188 (.tmp 22) rfl p 6 (by simp [Act.eval]) (nsL .u64 LS) _ (fun x hx => hx.2) Tryz.underlying188 rfl hzS) hS ?_
    (try simp only [Act.put, List.setIfInBounds_toArray, List.set_cons_zero, List.set_cons_succ])
    refine wpAnyH_ready (rs := [2, 12]) (by kernel_rfl) (by simp) ?_
    refine AllReadyH.cons (o := { dst := some 19, op := .call { callee := .value (.func 145), args := #[.tmp 18], argTypes := #[188] }, type := _, pos := _, after := _, guard := none }) rfl (fun K hK => ?_) (AllReadyH.cons (o := { dst := some 4, op := .alloc 188, type := _, pos := _, after := _, guard := none }) rfl (fun K hK => ?_) AllReadyH.nil)
    · go_simp
      refine (HLE.out V).mono ?_
      rintro e W2 ⟨rfl, hbc⟩
      have hG2 := hGV.below hbc hGV.lt
      have hP2 := hPV.below hbc hPV.lt
      have hb2 := hbV.trans (hbc.mono hbV.size)
      have hS2 : W2.rangeAt g 11 (nsL .u64 LX) ∧ W2.rangeAt p 6 (nsL .u64 LS) := ⟨hG2.rA, hP2.rS⟩
      refine hK.out _ _ hS2 (fun _ => ?_)
      clear hK K
      (try simp only [Act.put, List.setIfInBounds_toArray, List.set_cons_zero, List.set_cons_succ])
      revert hG2 hP2 hb2 hS2
      clear hGV hPV hbV hbc hS
      generalize W2 = V
      intro hGV hPV hbV hS
      refine wpAnyH_ready (rs := [7, 12]) (by kernel_rfl) (by simp) ?_
      refine AllReadyH.cons (o := { dst := some 24, op := .call { callee := .value (.func 146), args := #[.tmp 19, .tmp 23], argTypes := #[188, 188] }, type := _, pos := _, after := _, guard := none }) rfl (fun K hK => ?_) (AllReadyH.cons (o := { dst := some 4, op := .alloc 188, type := _, pos := _, after := _, guard := none }) rfl (fun K hK => ?_) AllReadyH.nil)
      · go_simp
        refine (HPL.out V).mono ?_
        rintro e W2 ⟨rfl, hbc⟩
        have hG2 := hGV.below hbc hGV.lt
        have hP2 := hPV.below hbc hPV.lt
        have hb2 := hbV.trans (hbc.mono hbV.size)
        have hS2 : W2.rangeAt g 11 (nsL .u64 LX) ∧ W2.rangeAt p 6 (nsL .u64 LS) := ⟨hG2.rA, hP2.rS⟩
        refine hK.out _ _ hS2 (fun _ => ?_)
        clear hK K
        (try simp only [Act.put, List.setIfInBounds_toArray, List.set_cons_zero, List.set_cons_succ])
        revert hG2 hP2 hb2 hS2
        clear hGV hPV hbV hbc hS
        generalize W2 = V
        intro hGV hPV hbV hS
        refine wpAnyH_ready (rs := [8, 12]) (by kernel_rfl) (by simp) ?_
        refine AllReadyH.cons (o := { dst := some 25, op := .call { callee := .value (.func 147), args := #[.tmp 24], argTypes := #[188] }, type := _, pos := _, after := _, guard := none }) rfl (fun K hK => ?_) (AllReadyH.cons (o := { dst := some 4, op := .alloc 188, type := _, pos := _, after := _, guard := none }) rfl (fun K hK => ?_) AllReadyH.nil)
        · go_simp
          refine (HSP.out V).mono ?_
          rintro e W2 ⟨rfl, hbc⟩
          have hG2 := hGV.below hbc hGV.lt
          have hP2 := hPV.below hbc hPV.lt
          have hb2 := hbV.trans (hbc.mono hbV.size)
          have hS2 : W2.rangeAt g 11 (nsL .u64 LX) ∧ W2.rangeAt p 6 (nsL .u64 LS) := ⟨hG2.rA, hP2.rS⟩
          refine hK.out _ _ hS2 (fun _ => ?_)
          clear hK K
          (try simp only [Act.put, List.setIfInBounds_toArray, List.set_cons_zero, List.set_cons_succ])
          revert hG2 hP2 hb2 hS2
          clear hGV hPV hbV hbc hS
          generalize W2 = V
          intro hGV hPV hbV hS
          refine wpAnyH_take (i := 9) (oi := { dst := some 16, op := .move (.tmp 25), type := _, pos := _, after := _, guard := none }) (v := .tuple #[.agg (ns .u64 LV), .int .u64 (y : Int)]) rfl (by kernel_rfl) (by kernel_rfl) (by kernel_rfl) (fun _ _ _ h => h) (Or.inl ⟨by rfl, by intro x _; go_simp⟩) hS ?_
          (try simp only [Act.put, List.setIfInBounds_toArray, List.set_cons_zero, List.set_cons_succ])
          refine wpAnyH_take (i := 10) (oi := { dst := some 26, op := .extract (.tmp 16) 0, type := _, pos := _, after := _, guard := none }) (v := .agg (ns .u64 LV)) rfl (by kernel_rfl) (by kernel_rfl) (by kernel_rfl) (fun _ _ _ h => h) (Or.inl ⟨by rfl, by intro x _; go_simp⟩) hS ?_
          (try simp only [Act.put, List.setIfInBounds_toArray, List.set_cons_zero, List.set_cons_succ])
          refine wpAnyH_take (i := 11) (oi := { dst := some 27, op := .extract (.tmp 16) 1, type := _, pos := _, after := _, guard := none }) (v := .int .u64 (y : Int)) rfl (by kernel_rfl) (by kernel_rfl) (by kernel_rfl) (fun _ _ _ h => h) (Or.inl ⟨by rfl, by intro x _; go_simp⟩) hS ?_
          (try simp only [Act.put, List.setIfInBounds_toArray, List.set_cons_zero, List.set_cons_succ])
          refine wpAnyH_ready (rs := [12]) (by kernel_rfl) (by simp) ?_
          refine AllReadyH.cons (o := { dst := some 4, op := .alloc 188, type := _, pos := _, after := _, guard := none }) rfl (fun K hK => ?_) AllReadyH.nil
          go_simp
          have hG2 := hGV.kept (Below.heap_alloc V (.cells #[.int .u64 0, .int .u64 0, .int .u64 0, .int .u64 0, .int .u64 0] 188) _ hGV.lt)
          have hP2 := hPV.kept (Below.heap_alloc V (.cells #[.int .u64 0, .int .u64 0, .int .u64 0, .int .u64 0, .int .u64 0] 188) _ hPV.lt)
          have hn2 : Nb .u64 188 (V.alloc (.cells #[.int .u64 0, .int .u64 0, .int .u64 0, .int .u64 0, .int .u64 0] 188)) V.heap.size (List.replicate 5 0) := heap_new _ _
          have hb2 := hbV.alloc hbV.size (.cells #[.int .u64 0, .int .u64 0, .int .u64 0, .int .u64 0, .int .u64 0] 188)
          have hgx : g ≠ V.heap.size ∧ p ≠ V.heap.size ∧ w.heap.size ≤ V.heap.size := ⟨by have := hGV.lt; omega, by have := hPV.lt; omega, hbV.size⟩
          have hS2 : (V.alloc (.cells #[.int .u64 0, .int .u64 0, .int .u64 0, .int .u64 0, .int .u64 0] 188)).rangeAt g 11 (nsL .u64 LX) ∧ (V.alloc (.cells #[.int .u64 0, .int .u64 0, .int .u64 0, .int .u64 0, .int .u64 0] 188)).rangeAt p 6 (nsL .u64 LS) := ⟨hG2.rA, hP2.rS⟩
          refine hK.out _ _ hS2 (fun _ => ?_)
          clear hK K
          (try simp only [Act.put, List.setIfInBounds_toArray, List.set_cons_zero, List.set_cons_succ])
          revert hG2 hP2 hn2 hb2 hgx hS2
          clear hGV hPV hbV hS
          generalize V.alloc (.cells #[.int .u64 0, .int .u64 0, .int .u64 0, .int .u64 0, .int .u64 0] 188) = V2
          generalize V.heap.size = h
          intro hGV hPV hn hbV hgx hS
          revert hGV hPV hn hbV hgx hS
          generalize V2 = V
          intro hGV hPV hn hbV hgx hS
          refine wpAnyH_ready (rs := [13]) (by kernel_rfl) (by simp) ?_
          refine AllReadyH.cons (o := { dst := none, op := .store 188 (.tmp 4) (.tmp 26), type := _, pos := _, after := _, guard := none }) rfl (fun K hK => ?_) AllReadyH.nil
          refine step_store_mid rfl 188 (.tmp 4) (.tmp 26) rfl h 0 (ns .u64 LV) (by simp [Act.eval]) (by simp [Act.eval]) (hn.there _ (by rw [ns_size, hlV]; rfl)) (ns5 LV hlV) (ns_one .u64 LV) ?_
          have hG8 := hGV.kept (heap_setCells_other h g hgx.1 (ns .u64 LV).toList 0 V)
          have hP8 := hPV.kept (heap_setCells_other h p hgx.2.1 (ns .u64 LV).toList 0 V)
          have hn8 := hn.store LV (by rw [hlV]; rfl)
          have hb8 := Below.setCells hbV hgx.2.2 0 (ns .u64 LV).toList
          have hS8 : (V.setCells h 0 (ns .u64 LV).toList).rangeAt g 11 (nsL .u64 LX) ∧ (V.setCells h 0 (ns .u64 LV).toList).rangeAt p 6 (nsL .u64 LS) := ⟨hG8.rA, hP8.rS⟩
          refine hK.out _ _ hS8 (fun _ => ?_)
          clear hK K
          (try simp only [Act.put])
          refine wpAnyH_take (i := 14) (oi := { dst := some 5, op := .assign (.tmp 27), type := _, pos := _, after := _, guard := none }) (v := .int .u64 (y : Int)) rfl (by kernel_rfl) (by kernel_rfl) (by kernel_rfl) (fun _ _ _ h => h) (Or.inl ⟨by rfl, by intro x _; go_simp⟩) hS8 ?_
          (try simp only [Act.put, List.setIfInBounds_toArray, List.set_cons_zero, List.set_cons_succ])
          refine wpAnyH_done (by kernel_rfl) ?_ _
          revert hn8 hb8
          clear hS8 hG8 hP8
          generalize V.setCells h 0 (ns .u64 LV).toList = w8
          intro hn8 hb8
          have hszV := ns5 LV hlV
          have htx := HTX.out w8
          unfold Nb at hn8
          go_wp2_with (first | (refine wpList_load_row rfl 188 (.tmp 4) rfl h rfl 188 _ (0, 0) _ hn8 Tryz.underlying188 rfl hszV ?_) | (go_at_call 148; refine htx.mono ?_; rintro e w9 ⟨rfl, hb9⟩))
          go_ret
          exact ⟨rfl, hb8.trans (hb9.mono hb8.size)⟩
        · go_simp
          have hG2 := hGV.kept (Below.heap_alloc V (.cells #[.int .u64 0, .int .u64 0, .int .u64 0, .int .u64 0, .int .u64 0] 188) _ hGV.lt)
          have hP2 := hPV.kept (Below.heap_alloc V (.cells #[.int .u64 0, .int .u64 0, .int .u64 0, .int .u64 0, .int .u64 0] 188) _ hPV.lt)
          have hn2 : Nb .u64 188 (V.alloc (.cells #[.int .u64 0, .int .u64 0, .int .u64 0, .int .u64 0, .int .u64 0] 188)) V.heap.size (List.replicate 5 0) := heap_new _ _
          have hb2 := hbV.alloc hbV.size (.cells #[.int .u64 0, .int .u64 0, .int .u64 0, .int .u64 0, .int .u64 0] 188)
          have hgx : g ≠ V.heap.size ∧ p ≠ V.heap.size ∧ w.heap.size ≤ V.heap.size := ⟨by have := hGV.lt; omega, by have := hPV.lt; omega, hbV.size⟩
          have hS2 : (V.alloc (.cells #[.int .u64 0, .int .u64 0, .int .u64 0, .int .u64 0, .int .u64 0] 188)).rangeAt g 11 (nsL .u64 LX) ∧ (V.alloc (.cells #[.int .u64 0, .int .u64 0, .int .u64 0, .int .u64 0, .int .u64 0] 188)).rangeAt p 6 (nsL .u64 LS) := ⟨hG2.rA, hP2.rS⟩
          refine hK.out _ _ hS2 (fun _ => ?_)
          clear hK K
          (try simp only [Act.put, List.setIfInBounds_toArray, List.set_cons_zero, List.set_cons_succ])
          revert hG2 hP2 hn2 hb2 hgx hS2
          clear hGV hPV hbV hS
          generalize V.alloc (.cells #[.int .u64 0, .int .u64 0, .int .u64 0, .int .u64 0, .int .u64 0] 188) = V2
          generalize V.heap.size = h
          intro hGV hPV hn hbV hgx hS
          revert hGV hPV hn hbV hgx hS
          generalize V2 = V
          intro hGV hPV hn hbV hgx hS
          refine wpAnyH_ready (rs := [8]) (by kernel_rfl) (by simp) ?_
          refine AllReadyH.cons (o := { dst := some 25, op := .call { callee := .value (.func 147), args := #[.tmp 24], argTypes := #[188] }, type := _, pos := _, after := _, guard := none }) rfl (fun K hK => ?_) AllReadyH.nil
          go_simp
          refine (HSP.out V).mono ?_
          rintro e W2 ⟨rfl, hbc⟩
          have hG2 := hGV.below hbc hGV.lt
          have hP2 := hPV.below hbc hPV.lt
          have hb2 := hbV.trans (hbc.mono hbV.size)
          have hn2 := hn.below hbc hn.lt
          have hS2 : W2.rangeAt g 11 (nsL .u64 LX) ∧ W2.rangeAt p 6 (nsL .u64 LS) := ⟨hG2.rA, hP2.rS⟩
          refine hK.out _ _ hS2 (fun _ => ?_)
          clear hK K
          (try simp only [Act.put, List.setIfInBounds_toArray, List.set_cons_zero, List.set_cons_succ])
          revert hG2 hP2 hb2 hn2 hS2
          clear hGV hPV hbV hbc hS hn
          generalize W2 = V
          intro hGV hPV hbV hn hS
          refine wpAnyH_take (i := 9) (oi := { dst := some 16, op := .move (.tmp 25), type := _, pos := _, after := _, guard := none }) (v := .tuple #[.agg (ns .u64 LV), .int .u64 (y : Int)]) rfl (by kernel_rfl) (by kernel_rfl) (by kernel_rfl) (fun _ _ _ h => h) (Or.inl ⟨by rfl, by intro x _; go_simp⟩) hS ?_
          (try simp only [Act.put, List.setIfInBounds_toArray, List.set_cons_zero, List.set_cons_succ])
          refine wpAnyH_take (i := 10) (oi := { dst := some 26, op := .extract (.tmp 16) 0, type := _, pos := _, after := _, guard := none }) (v := .agg (ns .u64 LV)) rfl (by kernel_rfl) (by kernel_rfl) (by kernel_rfl) (fun _ _ _ h => h) (Or.inl ⟨by rfl, by intro x _; go_simp⟩) hS ?_
          (try simp only [Act.put, List.setIfInBounds_toArray, List.set_cons_zero, List.set_cons_succ])
          refine wpAnyH_take (i := 11) (oi := { dst := some 27, op := .extract (.tmp 16) 1, type := _, pos := _, after := _, guard := none }) (v := .int .u64 (y : Int)) rfl (by kernel_rfl) (by kernel_rfl) (by kernel_rfl) (fun _ _ _ h => h) (Or.inl ⟨by rfl, by intro x _; go_simp⟩) hS ?_
          (try simp only [Act.put, List.setIfInBounds_toArray, List.set_cons_zero, List.set_cons_succ])
          refine wpAnyH_ready (rs := [13]) (by kernel_rfl) (by simp) ?_
          refine AllReadyH.cons (o := { dst := none, op := .store 188 (.tmp 4) (.tmp 26), type := _, pos := _, after := _, guard := none }) rfl (fun K hK => ?_) AllReadyH.nil
          refine step_store_mid rfl 188 (.tmp 4) (.tmp 26) rfl h 0 (ns .u64 LV) (by simp [Act.eval]) (by simp [Act.eval]) (hn.there _ (by rw [ns_size, hlV]; rfl)) (ns5 LV hlV) (ns_one .u64 LV) ?_
          have hG8 := hGV.kept (heap_setCells_other h g hgx.1 (ns .u64 LV).toList 0 V)
          have hP8 := hPV.kept (heap_setCells_other h p hgx.2.1 (ns .u64 LV).toList 0 V)
          have hn8 := hn.store LV (by rw [hlV]; rfl)
          have hb8 := Below.setCells hbV hgx.2.2 0 (ns .u64 LV).toList
          have hS8 : (V.setCells h 0 (ns .u64 LV).toList).rangeAt g 11 (nsL .u64 LX) ∧ (V.setCells h 0 (ns .u64 LV).toList).rangeAt p 6 (nsL .u64 LS) := ⟨hG8.rA, hP8.rS⟩
          refine hK.out _ _ hS8 (fun _ => ?_)
          clear hK K
          (try simp only [Act.put])
          refine wpAnyH_take (i := 14) (oi := { dst := some 5, op := .assign (.tmp 27), type := _, pos := _, after := _, guard := none }) (v := .int .u64 (y : Int)) rfl (by kernel_rfl) (by kernel_rfl) (by kernel_rfl) (fun _ _ _ h => h) (Or.inl ⟨by rfl, by intro x _; go_simp⟩) hS8 ?_
          (try simp only [Act.put, List.setIfInBounds_toArray, List.set_cons_zero, List.set_cons_succ])
          refine wpAnyH_done (by kernel_rfl) ?_ _
          revert hn8 hb8
          clear hS8 hG8 hP8
          generalize V.setCells h 0 (ns .u64 LV).toList = w8
          intro hn8 hb8
          have hszV := ns5 LV hlV
          have htx := HTX.out w8
          unfold Nb at hn8
          go_wp2_with (first | (refine wpList_load_row rfl 188 (.tmp 4) rfl h rfl 188 _ (0, 0) _ hn8 Tryz.underlying188 rfl hszV ?_) | (go_at_call 148; refine htx.mono ?_; rintro e w9 ⟨rfl, hb9⟩))
          go_ret
          exact ⟨rfl, hb8.trans (hb9.mono hb8.size)⟩
      · go_simp
        have hG2 := hGV.kept (Below.heap_alloc V (.cells #[.int .u64 0, .int .u64 0, .int .u64 0, .int .u64 0, .int .u64 0] 188) _ hGV.lt)
        have hP2 := hPV.kept (Below.heap_alloc V (.cells #[.int .u64 0, .int .u64 0, .int .u64 0, .int .u64 0, .int .u64 0] 188) _ hPV.lt)
        have hn2 : Nb .u64 188 (V.alloc (.cells #[.int .u64 0, .int .u64 0, .int .u64 0, .int .u64 0, .int .u64 0] 188)) V.heap.size (List.replicate 5 0) := heap_new _ _
        have hb2 := hbV.alloc hbV.size (.cells #[.int .u64 0, .int .u64 0, .int .u64 0, .int .u64 0, .int .u64 0] 188)
        have hgx : g ≠ V.heap.size ∧ p ≠ V.heap.size ∧ w.heap.size ≤ V.heap.size := ⟨by have := hGV.lt; omega, by have := hPV.lt; omega, hbV.size⟩
        have hS2 : (V.alloc (.cells #[.int .u64 0, .int .u64 0, .int .u64 0, .int .u64 0, .int .u64 0] 188)).rangeAt g 11 (nsL .u64 LX) ∧ (V.alloc (.cells #[.int .u64 0, .int .u64 0, .int .u64 0, .int .u64 0, .int .u64 0] 188)).rangeAt p 6 (nsL .u64 LS) := ⟨hG2.rA, hP2.rS⟩
        refine hK.out _ _ hS2 (fun _ => ?_)
        clear hK K
        (try simp only [Act.put, List.setIfInBounds_toArray, List.set_cons_zero, List.set_cons_succ])
        revert hG2 hP2 hn2 hb2 hgx hS2
        clear hGV hPV hbV hS
        generalize V.alloc (.cells #[.int .u64 0, .int .u64 0, .int .u64 0, .int .u64 0, .int .u64 0] 188) = V2
        generalize V.heap.size = h
        intro hGV hPV hn hbV hgx hS
        revert hGV hPV hn hbV hgx hS
        generalize V2 = V
        intro hGV hPV hn hbV hgx hS
        refine wpAnyH_ready (rs := [7]) (by kernel_rfl) (by simp) ?_
        refine AllReadyH.cons (o := { dst := some 24, op := .call { callee := .value (.func 146), args := #[.tmp 19, .tmp 23], argTypes := #[188, 188] }, type := _, pos := _, after := _, guard := none }) rfl (fun K hK => ?_) AllReadyH.nil
        go_simp
        refine (HPL.out V).mono ?_
        rintro e W2 ⟨rfl, hbc⟩
        have hG2 := hGV.below hbc hGV.lt
        have hP2 := hPV.below hbc hPV.lt
        have hb2 := hbV.trans (hbc.mono hbV.size)
        have hn2 := hn.below hbc hn.lt
        have hS2 : W2.rangeAt g 11 (nsL .u64 LX) ∧ W2.rangeAt p 6 (nsL .u64 LS) := ⟨hG2.rA, hP2.rS⟩
        refine hK.out _ _ hS2 (fun _ => ?_)
        clear hK K
        (try simp only [Act.put, List.setIfInBounds_toArray, List.set_cons_zero, List.set_cons_succ])
        revert hG2 hP2 hb2 hn2 hS2
        clear hGV hPV hbV hbc hS hn
        generalize W2 = V
        intro hGV hPV hbV hn hS
        refine wpAnyH_ready (rs := [8]) (by kernel_rfl) (by simp) ?_
        refine AllReadyH.cons (o := { dst := some 25, op := .call { callee := .value (.func 147), args := #[.tmp 24], argTypes := #[188] }, type := _, pos := _, after := _, guard := none }) rfl (fun K hK => ?_) AllReadyH.nil
        go_simp
        refine (HSP.out V).mono ?_
        rintro e W2 ⟨rfl, hbc⟩
        have hG2 := hGV.below hbc hGV.lt
        have hP2 := hPV.below hbc hPV.lt
        have hb2 := hbV.trans (hbc.mono hbV.size)
        have hn2 := hn.below hbc hn.lt
        have hS2 : W2.rangeAt g 11 (nsL .u64 LX) ∧ W2.rangeAt p 6 (nsL .u64 LS) := ⟨hG2.rA, hP2.rS⟩
        refine hK.out _ _ hS2 (fun _ => ?_)
        clear hK K
        (try simp only [Act.put, List.setIfInBounds_toArray, List.set_cons_zero, List.set_cons_succ])
        revert hG2 hP2 hb2 hn2 hS2
        clear hGV hPV hbV hbc hS hn
        generalize W2 = V
        intro hGV hPV hbV hn hS
        refine wpAnyH_take (i := 9) (oi := { dst := some 16, op := .move (.tmp 25), type := _, pos := _, after := _, guard := none }) (v := .tuple #[.agg (ns .u64 LV), .int .u64 (y : Int)]) rfl (by kernel_rfl) (by kernel_rfl) (by kernel_rfl) (fun _ _ _ h => h) (Or.inl ⟨by rfl, by intro x _; go_simp⟩) hS ?_
        (try simp only [Act.put, List.setIfInBounds_toArray, List.set_cons_zero, List.set_cons_succ])
        refine wpAnyH_take (i := 10) (oi := { dst := some 26, op := .extract (.tmp 16) 0, type := _, pos := _, after := _, guard := none }) (v := .agg (ns .u64 LV)) rfl (by kernel_rfl) (by kernel_rfl) (by kernel_rfl) (fun _ _ _ h => h) (Or.inl ⟨by rfl, by intro x _; go_simp⟩) hS ?_
        (try simp only [Act.put, List.setIfInBounds_toArray, List.set_cons_zero, List.set_cons_succ])
        refine wpAnyH_take (i := 11) (oi := { dst := some 27, op := .extract (.tmp 16) 1, type := _, pos := _, after := _, guard := none }) (v := .int .u64 (y : Int)) rfl (by kernel_rfl) (by kernel_rfl) (by kernel_rfl) (fun _ _ _ h => h) (Or.inl ⟨by rfl, by intro x _; go_simp⟩) hS ?_
        (try simp only [Act.put, List.setIfInBounds_toArray, List.set_cons_zero, List.set_cons_succ])
        refine wpAnyH_ready (rs := [13]) (by kernel_rfl) (by simp) ?_
        refine AllReadyH.cons (o := { dst := none, op := .store 188 (.tmp 4) (.tmp 26), type := _, pos := _, after := _, guard := none }) rfl (fun K hK => ?_) AllReadyH.nil
        refine step_store_mid rfl 188 (.tmp 4) (.tmp 26) rfl h 0 (ns .u64 LV) (by simp [Act.eval]) (by simp [Act.eval]) (hn.there _ (by rw [ns_size, hlV]; rfl)) (ns5 LV hlV) (ns_one .u64 LV) ?_
        have hG8 := hGV.kept (heap_setCells_other h g hgx.1 (ns .u64 LV).toList 0 V)
        have hP8 := hPV.kept (heap_setCells_other h p hgx.2.1 (ns .u64 LV).toList 0 V)
        have hn8 := hn.store LV (by rw [hlV]; rfl)
        have hb8 := Below.setCells hbV hgx.2.2 0 (ns .u64 LV).toList
        have hS8 : (V.setCells h 0 (ns .u64 LV).toList).rangeAt g 11 (nsL .u64 LX) ∧ (V.setCells h 0 (ns .u64 LV).toList).rangeAt p 6 (nsL .u64 LS) := ⟨hG8.rA, hP8.rS⟩
        refine hK.out _ _ hS8 (fun _ => ?_)
        clear hK K
        (try simp only [Act.put])
        refine wpAnyH_take (i := 14) (oi := { dst := some 5, op := .assign (.tmp 27), type := _, pos := _, after := _, guard := none }) (v := .int .u64 (y : Int)) rfl (by kernel_rfl) (by kernel_rfl) (by kernel_rfl) (fun _ _ _ h => h) (Or.inl ⟨by rfl, by intro x _; go_simp⟩) hS8 ?_
        (try simp only [Act.put, List.setIfInBounds_toArray, List.set_cons_zero, List.set_cons_succ])
        refine wpAnyH_done (by kernel_rfl) ?_ _
        revert hn8 hb8
        clear hS8 hG8 hP8
        generalize V.setCells h 0 (ns .u64 LV).toList = w8
        intro hn8 hb8
        have hszV := ns5 LV hlV
        have htx := HTX.out w8
        unfold Nb at hn8
        go_wp2_with (first | (refine wpList_load_row rfl 188 (.tmp 4) rfl h rfl 188 _ (0, 0) _ hn8 Tryz.underlying188 rfl hszV ?_) | (go_at_call 148; refine htx.mono ?_; rintro e w9 ⟨rfl, hb9⟩))
        go_ret
        exact ⟨rfl, hb8.trans (hb9.mono hb8.size)⟩
    · go_simp
      have hG2 := hGV.kept (Below.heap_alloc V (.cells #[.int .u64 0, .int .u64 0, .int .u64 0, .int .u64 0, .int .u64 0] 188) _ hGV.lt)
      have hP2 := hPV.kept (Below.heap_alloc V (.cells #[.int .u64 0, .int .u64 0, .int .u64 0, .int .u64 0, .int .u64 0] 188) _ hPV.lt)
      have hn2 : Nb .u64 188 (V.alloc (.cells #[.int .u64 0, .int .u64 0, .int .u64 0, .int .u64 0, .int .u64 0] 188)) V.heap.size (List.replicate 5 0) := heap_new _ _
      have hb2 := hbV.alloc hbV.size (.cells #[.int .u64 0, .int .u64 0, .int .u64 0, .int .u64 0, .int .u64 0] 188)
      have hgx : g ≠ V.heap.size ∧ p ≠ V.heap.size ∧ w.heap.size ≤ V.heap.size := ⟨by have := hGV.lt; omega, by have := hPV.lt; omega, hbV.size⟩
      have hS2 : (V.alloc (.cells #[.int .u64 0, .int .u64 0, .int .u64 0, .int .u64 0, .int .u64 0] 188)).rangeAt g 11 (nsL .u64 LX) ∧ (V.alloc (.cells #[.int .u64 0, .int .u64 0, .int .u64 0, .int .u64 0, .int .u64 0] 188)).rangeAt p 6 (nsL .u64 LS) := ⟨hG2.rA, hP2.rS⟩
      refine hK.out _ _ hS2 (fun _ => ?_)
      clear hK K
      (try simp only [Act.put, List.setIfInBounds_toArray, List.set_cons_zero, List.set_cons_succ])
      revert hG2 hP2 hn2 hb2 hgx hS2
      clear hGV hPV hbV hS
      generalize V.alloc (.cells #[.int .u64 0, .int .u64 0, .int .u64 0, .int .u64 0, .int .u64 0] 188) = V2
      generalize V.heap.size = h
      intro hGV hPV hn hbV hgx hS
      revert hGV hPV hn hbV hgx hS
      generalize V2 = V
      intro hGV hPV hn hbV hgx hS
      refine wpAnyH_ready (rs := [2]) (by kernel_rfl) (by simp) ?_
      refine AllReadyH.cons (o := { dst := some 19, op := .call { callee := .value (.func 145), args := #[.tmp 18], argTypes := #[188] }, type := _, pos := _, after := _, guard := none }) rfl (fun K hK => ?_) AllReadyH.nil
      go_simp
      refine (HLE.out V).mono ?_
      rintro e W2 ⟨rfl, hbc⟩
      have hG2 := hGV.below hbc hGV.lt
      have hP2 := hPV.below hbc hPV.lt
      have hb2 := hbV.trans (hbc.mono hbV.size)
      have hn2 := hn.below hbc hn.lt
      have hS2 : W2.rangeAt g 11 (nsL .u64 LX) ∧ W2.rangeAt p 6 (nsL .u64 LS) := ⟨hG2.rA, hP2.rS⟩
      refine hK.out _ _ hS2 (fun _ => ?_)
      clear hK K
      (try simp only [Act.put, List.setIfInBounds_toArray, List.set_cons_zero, List.set_cons_succ])
      revert hG2 hP2 hb2 hn2 hS2
      clear hGV hPV hbV hbc hS hn
      generalize W2 = V
      intro hGV hPV hbV hn hS
      refine wpAnyH_ready (rs := [7]) (by kernel_rfl) (by simp) ?_
      refine AllReadyH.cons (o := { dst := some 24, op := .call { callee := .value (.func 146), args := #[.tmp 19, .tmp 23], argTypes := #[188, 188] }, type := _, pos := _, after := _, guard := none }) rfl (fun K hK => ?_) AllReadyH.nil
      go_simp
      refine (HPL.out V).mono ?_
      rintro e W2 ⟨rfl, hbc⟩
      have hG2 := hGV.below hbc hGV.lt
      have hP2 := hPV.below hbc hPV.lt
      have hb2 := hbV.trans (hbc.mono hbV.size)
      have hn2 := hn.below hbc hn.lt
      have hS2 : W2.rangeAt g 11 (nsL .u64 LX) ∧ W2.rangeAt p 6 (nsL .u64 LS) := ⟨hG2.rA, hP2.rS⟩
      refine hK.out _ _ hS2 (fun _ => ?_)
      clear hK K
      (try simp only [Act.put, List.setIfInBounds_toArray, List.set_cons_zero, List.set_cons_succ])
      revert hG2 hP2 hb2 hn2 hS2
      clear hGV hPV hbV hbc hS hn
      generalize W2 = V
      intro hGV hPV hbV hn hS
      refine wpAnyH_ready (rs := [8]) (by kernel_rfl) (by simp) ?_
      refine AllReadyH.cons (o := { dst := some 25, op := .call { callee := .value (.func 147), args := #[.tmp 24], argTypes := #[188] }, type := _, pos := _, after := _, guard := none }) rfl (fun K hK => ?_) AllReadyH.nil
      go_simp
      refine (HSP.out V).mono ?_
      rintro e W2 ⟨rfl, hbc⟩
      have hG2 := hGV.below hbc hGV.lt
      have hP2 := hPV.below hbc hPV.lt
      have hb2 := hbV.trans (hbc.mono hbV.size)
      have hn2 := hn.below hbc hn.lt
      have hS2 : W2.rangeAt g 11 (nsL .u64 LX) ∧ W2.rangeAt p 6 (nsL .u64 LS) := ⟨hG2.rA, hP2.rS⟩
      refine hK.out _ _ hS2 (fun _ => ?_)
      clear hK K
      (try simp only [Act.put, List.setIfInBounds_toArray, List.set_cons_zero, List.set_cons_succ])
      revert hG2 hP2 hb2 hn2 hS2
      clear hGV hPV hbV hbc hS hn
      generalize W2 = V
      intro hGV hPV hbV hn hS
      refine wpAnyH_take (i := 9) (oi := { dst := some 16, op := .move (.tmp 25), type := _, pos := _, after := _, guard := none }) (v := .tuple #[.agg (ns .u64 LV), .int .u64 (y : Int)]) rfl (by kernel_rfl) (by kernel_rfl) (by kernel_rfl) (fun _ _ _ h => h) (Or.inl ⟨by rfl, by intro x _; go_simp⟩) hS ?_
      (try simp only [Act.put, List.setIfInBounds_toArray, List.set_cons_zero, List.set_cons_succ])
      refine wpAnyH_take (i := 10) (oi := { dst := some 26, op := .extract (.tmp 16) 0, type := _, pos := _, after := _, guard := none }) (v := .agg (ns .u64 LV)) rfl (by kernel_rfl) (by kernel_rfl) (by kernel_rfl) (fun _ _ _ h => h) (Or.inl ⟨by rfl, by intro x _; go_simp⟩) hS ?_
      (try simp only [Act.put, List.setIfInBounds_toArray, List.set_cons_zero, List.set_cons_succ])
      refine wpAnyH_take (i := 11) (oi := { dst := some 27, op := .extract (.tmp 16) 1, type := _, pos := _, after := _, guard := none }) (v := .int .u64 (y : Int)) rfl (by kernel_rfl) (by kernel_rfl) (by kernel_rfl) (fun _ _ _ h => h) (Or.inl ⟨by rfl, by intro x _; go_simp⟩) hS ?_
      (try simp only [Act.put, List.setIfInBounds_toArray, List.set_cons_zero, List.set_cons_succ])
      refine wpAnyH_ready (rs := [13]) (by kernel_rfl) (by simp) ?_
      refine AllReadyH.cons (o := { dst := none, op := .store 188 (.tmp 4) (.tmp 26), type := _, pos := _, after := _, guard := none }) rfl (fun K hK => ?_) AllReadyH.nil
      refine step_store_mid rfl 188 (.tmp 4) (.tmp 26) rfl h 0 (ns .u64 LV) (by simp [Act.eval]) (by simp [Act.eval]) (hn.there _ (by rw [ns_size, hlV]; rfl)) (ns5 LV hlV) (ns_one .u64 LV) ?_
      have hG8 := hGV.kept (heap_setCells_other h g hgx.1 (ns .u64 LV).toList 0 V)
      have hP8 := hPV.kept (heap_setCells_other h p hgx.2.1 (ns .u64 LV).toList 0 V)
      have hn8 := hn.store LV (by rw [hlV]; rfl)
      have hb8 := Below.setCells hbV hgx.2.2 0 (ns .u64 LV).toList
      have hS8 : (V.setCells h 0 (ns .u64 LV).toList).rangeAt g 11 (nsL .u64 LX) ∧ (V.setCells h 0 (ns .u64 LV).toList).rangeAt p 6 (nsL .u64 LS) := ⟨hG8.rA, hP8.rS⟩
      refine hK.out _ _ hS8 (fun _ => ?_)
      clear hK K
      (try simp only [Act.put])
      refine wpAnyH_take (i := 14) (oi := { dst := some 5, op := .assign (.tmp 27), type := _, pos := _, after := _, guard := none }) (v := .int .u64 (y : Int)) rfl (by kernel_rfl) (by kernel_rfl) (by kernel_rfl) (fun _ _ _ h => h) (Or.inl ⟨by rfl, by intro x _; go_simp⟩) hS8 ?_
      (try simp only [Act.put, List.setIfInBounds_toArray, List.set_cons_zero, List.set_cons_succ])
      refine wpAnyH_done (by kernel_rfl) ?_ _
      revert hn8 hb8
      clear hS8 hG8 hP8
      generalize V.setCells h 0 (ns .u64 LV).toList = w8
      intro hn8 hb8
      have hszV := ns5 LV hlV
      have htx := HTX.out w8
      unfold Nb at hn8
      go_wp2_with (first | (refine wpList_load_row rfl 188 (.tmp 4) rfl h rfl 188 _ (0, 0) _ hn8 Tryz.underlying188 rfl hszV ?_) | (go_at_call 148; refine htx.mono ?_; rintro e w9 ⟨rfl, hb9⟩))
      go_ret
      exact ⟨rfl, hb8.trans (hb9.mono hb8.size)⟩
  · have hq0I : (0 : Int) < (q : Int) := by omega
    rw [if_neg hq0] at hacc
    have hnb := num_block rest (by omega)
    have hsb := set_block rest (by omega)
    rw [hrest] at hsb
    have hnp : numL (rest ++ [1] ++ List.replicate (16 - q) 0) = numL (rest ++ [1]) := numL_pad _ _
    have hend := endBlock_any hG (by omega) hr hA1 (rest ++ [1] ++ List.replicate (16 - q) 0) (by rw [List.length_append, List.length_append, List.length_replicate, hrest]; simp; omega) hsb (by rw [hnp]; exact hnb)
    rw [hnp, step_mod A _ r _ hA2, ← hacc] at hend
    go_upto_region 6 with (go_at_call 144; refine hend.mono ?_; rintro e w4 ⟨rfl, ⟨X, hX1, hX2, hX3⟩, hO4⟩)
    have hP4 := hP.kept (hO4.block p hP.lt (by simp; omega))
    have hb4 : Below w.heap.size w w4 := hb.trans (hO4.below hb.size (by have := HG.out; simp; omega))
    clear hG hP hb hend hO4 hnb hsb hnp c33
    revert hX3 hP4 hb4
    generalize w4 = w3
    intro hG hP hb
    obtain ⟨Z, LV, y, hlV, k1, k2, k3, k4⟩ := end_contracts X s _ hX1 hX2 hs
    rw [← HTN.out] at k4
    have HLE : Hid _ := k1
    have HPL : Hid _ := k2
    have HSP : Hid _ := k3
    have HTX : Hid _ := k4
    clear k1 k2 k3 k4 HTN hA2 hA1 hacc hX1 hX2
    have hlX := lim_length X
    revert hG hP HLE HPL hlX hls
    generalize lim X = LX
    generalize lim s = LS
    generalize lim (accN r l ((l.length + 15) / 16) % Pp) = LA
    intro hlS hG hP HLE HPL hlX
    have hzX : (Tryz.prog.info? 188).map (·.size) = some (nsL .u64 LX).length := by rw [nsL_length, hlX]; exact size46
    have hzS : (Tryz.prog.info? 188).map (·.size) = some (nsL .u64 LS).length := by rw [nsL_length, hlS]; exact size46
    refine wp_region_held_drew (S := fun W => W.rangeAt g 11 (nsL .u64 LX) ∧ W.rangeAt p 6 (nsL .u64 LS)) (by kernel_rfl) ⟨hG.drew.rA, hP.drew.rS⟩ ?_
    intro hS
    have hGV := hG.drew
    have hPV := hP.drew
    have hbV := hb.drew
    clear hG hP hb
    revert hS hGV hPV hbV
    generalize w3.drew = V
    intro hS hGV hPV hbV
    refine wpAnyH_take (i := 0) (oi := { dst := some 17, op := .fieldAddr 191 (.tmp 3) 3, type := _, pos := _, after := _, guard := none }) (v := .pointer (some ⟨g, 11, none⟩)) rfl (by kernel_rfl) (by kernel_rfl) (by kernel_rfl) (fun _ _ _ h => h) (Or.inl ⟨by rfl, by intro x _; go_simp⟩) hS ?_
    (try simp only [Act.put, List.setIfInBounds_toArray, List.set_cons_zero, List.set_cons_succ])
    refine wpAnyH_take (i := 1) (oi := { dst := some 18, op := .load 188 (.tmp 17), type := _, pos := _, after := _, guard := none }) (v := .agg (nsL .u64 LX).toArray) rfl (by kernel_rfl) (by kernel_rfl) (by kernel_rfl) (fun _ _ _ h => h) (yieldsIf_load_mid (by rfl) 188 (.tmp 17) rfl g 11 (by simp [Act.eval]) (nsL .u64 LX) _ (fun x hx => hx.1) Tryz.underlying188 rfl hzX) hS ?_
    (try simp only [Act.put, List.setIfInBounds_toArray, List.set_cons_zero, List.set_cons_succ])
    refine wpAnyH_take (i := 3) (oi := { dst := some 20, op := .move (.tmp 0), type := _, pos := _, after := _, guard := none }) (v := .pointer (some ⟨p, 0, none⟩)) rfl (by kernel_rfl) (by kernel_rfl) (by kernel_rfl) (fun _ _ _ h => h) (Or.inl ⟨by rfl, by intro x _; go_simp⟩) hS ?_
    (try simp only [Act.put, List.setIfInBounds_toArray, List.set_cons_zero, List.set_cons_succ])
    refine wpAnyH_take (i := 4) (oi := { dst := some 21, op := .nilCheck (.tmp 20), type := _, pos := _, after := _, guard := none }) (v := .pointer (some ⟨p, 0, none⟩)) rfl (by kernel_rfl) (by kernel_rfl) (by kernel_rfl) (fun _ _ _ h => h) (Or.inl ⟨by rfl, by intro x _; go_simp⟩) hS ?_
    (try simp only [Act.put, List.setIfInBounds_toArray, List.set_cons_zero, List.set_cons_succ])
    refine wpAnyH_take (i := 5) (oi := { dst := some 22, op := .fieldAddr 191 (.tmp 21) 2, type := _, pos := _, after := _, guard := none }) (v := .pointer (some ⟨p, 6, none⟩)) rfl (by kernel_rfl) (by kernel_rfl) (by kernel_rfl) (fun _ _ _ h => h) (Or.inl ⟨by rfl, by intro x _; go_simp⟩) hS ?_
    (try simp only [Act.put, List.setIfInBounds_toArray, List.set_cons_zero, List.set_cons_succ])
    refine wpAnyH_take (i := 6) (oi := { dst := some 23, op := .load 188 (.tmp 22), type := _, pos := _, after := _, guard := none }) (v := .agg (nsL .u64 LS).toArray) rfl (by kernel_rfl) (by kernel_rfl) (by kernel_rfl) (fun _ _ _ h => h) (yieldsIf_load_mid (by rfl) 188 (.tmp 22) rfl p 6 (by simp [Act.eval]) (nsL .u64 LS) _ (fun x hx => hx.2) Tryz.underlying188 rfl hzS) hS ?_
    (try simp only [Act.put, List.setIfInBounds_toArray, List.set_cons_zero, List.set_cons_succ])
    refine wpAnyH_ready (rs := [2, 12]) (by kernel_rfl) (by simp) ?_
    refine AllReadyH.cons (o := { dst := some 19, op := .call { callee := .value (.func 145), args := #[.tmp 18], argTypes := #[188] }, type := _, pos := _, after := _, guard := none }) rfl (fun K hK => ?_) (AllReadyH.cons (o := { dst := some 4, op := .alloc 188, type := _, pos := _, after := _, guard := none }) rfl (fun K hK => ?_) AllReadyH.nil)
    · go_simp
      refine (HLE.out V).mono ?_
      rintro e W2 ⟨rfl, hbc⟩
      have hG2 := hGV.below hbc hGV.lt
      have hP2 := hPV.below hbc hPV.lt
      have hb2 := hbV.trans (hbc.mono hbV.size)
      have hS2 : W2.rangeAt g 11 (nsL .u64 LX) ∧ W2.rangeAt p 6 (nsL .u64 LS) := ⟨hG2.rA, hP2.rS⟩
      refine hK.out _ _ hS2 (fun _ => ?_)
      clear hK K
      (try simp only [Act.put, List.setIfInBounds_toArray, List.set_cons_zero, List.set_cons_succ])
      revert hG2 hP2 hb2 hS2
      clear hGV hPV hbV hbc hS
      generalize W2 = V
      intro hGV hPV hbV hS
      refine wpAnyH_ready (rs := [7, 12]) (by kernel_rfl) (by simp) ?_
      refine AllReadyH.cons (o := { dst := some 24, op := .call { callee := .value (.func 146), args := #[.tmp 19, .tmp 23], argTypes := #[188, 188] }, type := _, pos := _, after := _, guard := none }) rfl (fun K hK => ?_) (AllReadyH.cons (o := { dst := some 4, op := .alloc 188, type := _, pos := _, after := _, guard := none }) rfl (fun K hK => ?_) AllReadyH.nil)
      · go_simp
        refine (HPL.out V).mono ?_
        rintro e W2 ⟨rfl, hbc⟩
        have hG2 := hGV.below hbc hGV.lt
        have hP2 := hPV.below hbc hPV.lt
        have hb2 := hbV.trans (hbc.mono hbV.size)
        have hS2 : W2.rangeAt g 11 (nsL .u64 LX) ∧ W2.rangeAt p 6 (nsL .u64 LS) := ⟨hG2.rA, hP2.rS⟩
        refine hK.out _ _ hS2 (fun _ => ?_)
        clear hK K
        (try simp only [Act.put, List.setIfInBounds_toArray, List.set_cons_zero, List.set_cons_succ])
        revert hG2 hP2 hb2 hS2
        clear hGV hPV hbV hbc hS
        generalize W2 = V
        intro hGV hPV hbV hS
        refine wpAnyH_ready (rs := [8, 12]) (by kernel_rfl) (by simp) ?_
        refine AllReadyH.cons (o := { dst := some 25, op := .call { callee := .value (.func 147), args := #[.tmp 24], argTypes := #[188] }, type := _, pos := _, after := _, guard := none }) rfl (fun K hK => ?_) (AllReadyH.cons (o := { dst := some 4, op := .alloc 188, type := _, pos := _, after := _, guard := none }) rfl (fun K hK => ?_) AllReadyH.nil)
        · go_simp
          refine (HSP.out V).mono ?_
          rintro e W2 ⟨rfl, hbc⟩
          have hG2 := hGV.below hbc hGV.lt
          have hP2 := hPV.below hbc hPV.lt
          have hb2 := hbV.trans (hbc.mono hbV.size)
          have hS2 : W2.rangeAt g 11 (nsL .u64 LX) ∧ W2.rangeAt p 6 (nsL .u64 LS) := ⟨hG2.rA, hP2.rS⟩
          refine hK.out _ _ hS2 (fun _ => ?_)
          clear hK K
          (try simp only [Act.put, List.setIfInBounds_toArray, List.set_cons_zero, List.set_cons_succ])
          revert hG2 hP2 hb2 hS2
          clear hGV hPV hbV hbc hS
          generalize W2 = V
          intro hGV hPV hbV hS
          refine wpAnyH_take (i := 9) (oi := { dst := some 16, op := .move (.tmp 25), type := _, pos := _, after := _, guard := none }) (v := .tuple #[.agg (ns .u64 LV), .int .u64 (y : Int)]) rfl (by kernel_rfl) (by kernel_rfl) (by kernel_rfl) (fun _ _ _ h => h) (Or.inl ⟨by rfl, by intro x _; go_simp⟩) hS ?_
          (try simp only [Act.put, List.setIfInBounds_toArray, List.set_cons_zero, List.set_cons_succ])
          refine wpAnyH_take (i := 10) (oi := { dst := some 26, op := .extract (.tmp 16) 0, type := _, pos := _, after := _, guard := none }) (v := .agg (ns .u64 LV)) rfl (by kernel_rfl) (by kernel_rfl) (by kernel_rfl) (fun _ _ _ h => h) (Or.inl ⟨by rfl, by intro x _; go_simp⟩) hS ?_
          (try simp only [Act.put, List.setIfInBounds_toArray, List.set_cons_zero, List.set_cons_succ])
          refine wpAnyH_take (i := 11) (oi := { dst := some 27, op := .extract (.tmp 16) 1, type := _, pos := _, after := _, guard := none }) (v := .int .u64 (y : Int)) rfl (by kernel_rfl) (by kernel_rfl) (by kernel_rfl) (fun _ _ _ h => h) (Or.inl ⟨by rfl, by intro x _; go_simp⟩) hS ?_
          (try simp only [Act.put, List.setIfInBounds_toArray, List.set_cons_zero, List.set_cons_succ])
          refine wpAnyH_ready (rs := [12]) (by kernel_rfl) (by simp) ?_
          refine AllReadyH.cons (o := { dst := some 4, op := .alloc 188, type := _, pos := _, after := _, guard := none }) rfl (fun K hK => ?_) AllReadyH.nil
          go_simp
          have hG2 := hGV.kept (Below.heap_alloc V (.cells #[.int .u64 0, .int .u64 0, .int .u64 0, .int .u64 0, .int .u64 0] 188) _ hGV.lt)
          have hP2 := hPV.kept (Below.heap_alloc V (.cells #[.int .u64 0, .int .u64 0, .int .u64 0, .int .u64 0, .int .u64 0] 188) _ hPV.lt)
          have hn2 : Nb .u64 188 (V.alloc (.cells #[.int .u64 0, .int .u64 0, .int .u64 0, .int .u64 0, .int .u64 0] 188)) V.heap.size (List.replicate 5 0) := heap_new _ _
          have hb2 := hbV.alloc hbV.size (.cells #[.int .u64 0, .int .u64 0, .int .u64 0, .int .u64 0, .int .u64 0] 188)
          have hgx : g ≠ V.heap.size ∧ p ≠ V.heap.size ∧ w.heap.size ≤ V.heap.size := ⟨by have := hGV.lt; omega, by have := hPV.lt; omega, hbV.size⟩
          have hS2 : (V.alloc (.cells #[.int .u64 0, .int .u64 0, .int .u64 0, .int .u64 0, .int .u64 0] 188)).rangeAt g 11 (nsL .u64 LX) ∧ (V.alloc (.cells #[.int .u64 0, .int .u64 0, .int .u64 0, .int .u64 0, .int .u64 0] 188)).rangeAt p 6 (nsL .u64 LS) := ⟨hG2.rA, hP2.rS⟩
          refine hK.out _ _ hS2 (fun _ => ?_)
          clear hK K
          (try simp only [Act.put, List.setIfInBounds_toArray, List.set_cons_zero, List.set_cons_succ])
          revert hG2 hP2 hn2 hb2 hgx hS2
          clear hGV hPV hbV hS
          generalize V.alloc (.cells #[.int .u64 0, .int .u64 0, .int .u64 0, .int .u64 0, .int .u64 0] 188) = V2
          generalize V.heap.size = h
          intro hGV hPV hn hbV hgx hS
          revert hGV hPV hn hbV hgx hS
          generalize V2 = V
          intro hGV hPV hn hbV hgx hS
          refine wpAnyH_ready (rs := [13]) (by kernel_rfl) (by simp) ?_
          refine AllReadyH.cons (o := { dst := none, op := .store 188 (.tmp 4) (.tmp 26), type := _, pos := _, after := _, guard := none }) rfl (fun K hK => ?_) AllReadyH.nil
          refine step_store_mid rfl 188 (.tmp 4) (.tmp 26) rfl h 0 (ns .u64 LV) (by simp [Act.eval]) (by simp [Act.eval]) (hn.there _ (by rw [ns_size, hlV]; rfl)) (ns5 LV hlV) (ns_one .u64 LV) ?_
          have hG8 := hGV.kept (heap_setCells_other h g hgx.1 (ns .u64 LV).toList 0 V)
          have hP8 := hPV.kept (heap_setCells_other h p hgx.2.1 (ns .u64 LV).toList 0 V)
          have hn8 := hn.store LV (by rw [hlV]; rfl)
          have hb8 := Below.setCells hbV hgx.2.2 0 (ns .u64 LV).toList
          have hS8 : (V.setCells h 0 (ns .u64 LV).toList).rangeAt g 11 (nsL .u64 LX) ∧ (V.setCells h 0 (ns .u64 LV).toList).rangeAt p 6 (nsL .u64 LS) := ⟨hG8.rA, hP8.rS⟩
          refine hK.out _ _ hS8 (fun _ => ?_)
          clear hK K
          (try simp only [Act.put])
          refine wpAnyH_take (i := 14) (oi := { dst := some 5, op := .assign (.tmp 27), type := _, pos := _, after := _, guard := none }) (v := .int .u64 (y : Int)) rfl (by kernel_rfl) (by kernel_rfl) (by kernel_rfl) (fun _ _ _ h => h) (Or.inl ⟨by rfl, by intro x _; go_simp⟩) hS8 ?_
          (try simp only [Act.put, List.setIfInBounds_toArray, List.set_cons_zero, List.set_cons_succ])
          refine wpAnyH_done (by kernel_rfl) ?_ _
          revert hn8 hb8
          clear hS8 hG8 hP8
          generalize V.setCells h 0 (ns .u64 LV).toList = w8
          intro hn8 hb8
          have hszV := ns5 LV hlV
          have htx := HTX.out w8
          unfold Nb at hn8
          go_wp2_with (first | (refine wpList_load_row rfl 188 (.tmp 4) rfl h rfl 188 _ (0, 0) _ hn8 Tryz.underlying188 rfl hszV ?_) | (go_at_call 148; refine htx.mono ?_; rintro e w9 ⟨rfl, hb9⟩))
          go_ret
          exact ⟨rfl, hb8.trans (hb9.mono hb8.size)⟩
        · go_simp
          have hG2 := hGV.kept (Below.heap_alloc V (.cells #[.int .u64 0, .int .u64 0, .int .u64 0, .int .u64 0, .int .u64 0] 188) _ hGV.lt)
          have hP2 := hPV.kept (Below.heap_alloc V (.cells #[.int .u64 0, .int .u64 0, .int .u64 0, .int .u64 0, .int .u64 0] 188) _ hPV.lt)
          have hn2 : Nb .u64 188 (V.alloc (.cells #[.int .u64 0, .int .u64 0, .int .u64 0, .int .u64 0, .int .u64 0] 188)) V.heap.size (List.replicate 5 0) := heap_new _ _
          have hb2 := hbV.alloc hbV.size (.cells #[.int .u64 0, .int .u64 0, .int .u64 0, .int .u64 0, .int .u64 0] 188)
          have hgx : g ≠ V.heap.size ∧ p ≠ V.heap.size ∧ w.heap.size ≤ V.heap.size := ⟨by have := hGV.lt; omega, by have := hPV.lt; omega, hbV.size⟩
          have hS2 : (V.alloc (.cells #[.int .u64 0, .int .u64 0, .int .u64 0, .int .u64 0, .int .u64 0] 188)).rangeAt g 11 (nsL .u64 LX) ∧ (V.alloc (.cells #[.int .u64 0, .int .u64 0, .int .u64 0, .int .u64 0, .int .u64 0] 188)).rangeAt p 6 (nsL .u64 LS) := ⟨hG2.rA, hP2.rS⟩
          refine hK.out _ _ hS2 (fun _ => ?_)
          clear hK K
          (try simp only [Act.put, List.setIfInBounds_toArray, List.set_cons_zero, List.set_cons_succ])
          revert hG2 hP2 hn2 hb2 hgx hS2
          clear hGV hPV hbV hS
          generalize V.alloc (.cells #[.int .u64 0, .int .u64 0, .int .u64 0, .int .u64 0, .int .u64 0] 188) = V2
          generalize V.heap.size = h
          intro hGV hPV hn hbV hgx hS
          revert hGV hPV hn hbV hgx hS
          generalize V2 = V
          intro hGV hPV hn hbV hgx hS
          refine wpAnyH_ready (rs := [8]) (by kernel_rfl) (by simp) ?_
          refine AllReadyH.cons (o := { dst := some 25, op := .call { callee := .value (.func 147), args := #[.tmp 24], argTypes := #[188] }, type := _, pos := _, after := _, guard := none }) rfl (fun K hK => ?_) AllReadyH.nil
          go_simp
          refine (HSP.out V).mono ?_
          rintro e W2 ⟨rfl, hbc⟩
          have hG2 := hGV.below hbc hGV.lt
          have hP2 := hPV.below hbc hPV.lt
          have hb2 := hbV.trans (hbc.mono hbV.size)
          have hn2 := hn.below hbc hn.lt
          have hS2 : W2.rangeAt g 11 (nsL .u64 LX) ∧ W2.rangeAt p 6 (nsL .u64 LS) := ⟨hG2.rA, hP2.rS⟩
          refine hK.out _ _ hS2 (fun _ => ?_)
          clear hK K
          (try simp only [Act.put, List.setIfInBounds_toArray, List.set_cons_zero, List.set_cons_succ])
          revert hG2 hP2 hb2 hn2 hS2
          clear hGV hPV hbV hbc hS hn
          generalize W2 = V
          intro hGV hPV hbV hn hS
          refine wpAnyH_take (i := 9) (oi := { dst := some 16, op := .move (.tmp 25), type := _, pos := _, after := _, guard := none }) (v := .tuple #[.agg (ns .u64 LV), .int .u64 (y : Int)]) rfl (by kernel_rfl) (by kernel_rfl) (by kernel_rfl) (fun _ _ _ h => h) (Or.inl ⟨by rfl, by intro x _; go_simp⟩) hS ?_
          (try simp only [Act.put, List.setIfInBounds_toArray, List.set_cons_zero, List.set_cons_succ])
          refine wpAnyH_take (i := 10) (oi := { dst := some 26, op := .extract (.tmp 16) 0, type := _, pos := _, after := _, guard := none }) (v := .agg (ns .u64 LV)) rfl (by kernel_rfl) (by kernel_rfl) (by kernel_rfl) (fun _ _ _ h => h) (Or.inl ⟨by rfl, by intro x _; go_simp⟩) hS ?_
          (try simp only [Act.put, List.setIfInBounds_toArray, List.set_cons_zero, List.set_cons_succ])
          refine wpAnyH_take (i := 11) (oi := { dst := some 27, op := .extract (.tmp 16) 1, type := _, pos := _, after := _, guard := none }) (v := .int .u64 (y : Int)) rfl (by kernel_rfl) (by kernel_rfl) (by kernel_rfl) (fun _ _ _ h => h) (Or.inl ⟨by rfl, by intro x _; go_simp⟩) hS ?_
          (try simp only [Act.put, List.setIfInBounds_toArray, List.set_cons_zero, List.set_cons_succ])
          refine wpAnyH_ready (rs := [13]) (by kernel_rfl) (by simp) ?_
          refine AllReadyH.cons (o := { dst := none, op := .store 188 (.tmp 4) (.tmp 26), type := _, pos := _, after := _, guard := none }) rfl (fun K hK => ?_) AllReadyH.nil
          refine step_store_mid rfl 188 (.tmp 4) (.tmp 26) rfl h 0 (ns .u64 LV) (by simp [Act.eval]) (by simp [Act.eval]) (hn.there _ (by rw [ns_size, hlV]; rfl)) (ns5 LV hlV) (ns_one .u64 LV) ?_
          have hG8 := hGV.kept (heap_setCells_other h g hgx.1 (ns .u64 LV).toList 0 V)
          have hP8 := hPV.kept (heap_setCells_other h p hgx.2.1 (ns .u64 LV).toList 0 V)
          have hn8 := hn.store LV (by rw [hlV]; rfl)
          have hb8 := Below.setCells hbV hgx.2.2 0 (ns .u64 LV).toList
          have hS8 : (V.setCells h 0 (ns .u64 LV).toList).rangeAt g 11 (nsL .u64 LX) ∧ (V.setCells h 0 (ns .u64 LV).toList).rangeAt p 6 (nsL .u64 LS) := ⟨hG8.rA, hP8.rS⟩
          refine hK.out _ _ hS8 (fun _ => ?_)
          clear hK K
          (try simp only [Act.put])
          refine wpAnyH_take (i := 14) (oi := { dst := some 5, op := .assign (.tmp 27), type := _, pos := _, after := _, guard := none }) (v := .int .u64 (y : Int)) rfl (by kernel_rfl) (by kernel_rfl) (by kernel_rfl) (fun _ _ _ h => h) (Or.inl ⟨by rfl, by intro x _; go_simp⟩) hS8 ?_
          (try simp only [Act.put, List.setIfInBounds_toArray, List.set_cons_zero, List.set_cons_succ])
          refine wpAnyH_done (by kernel_rfl) ?_ _
          revert hn8 hb8
          clear hS8 hG8 hP8
          generalize V.setCells h 0 (ns .u64 LV).toList = w8
          intro hn8 hb8
          have hszV := ns5 LV hlV
          have htx := HTX.out w8
          unfold Nb at hn8
          go_wp2_with (first | (refine wpList_load_row rfl 188 (.tmp 4) rfl h rfl 188 _ (0, 0) _ hn8 Tryz.underlying188 rfl hszV ?_) | (go_at_call 148; refine htx.mono ?_; rintro e w9 ⟨rfl, hb9⟩))
          go_ret
          exact ⟨rfl, hb8.trans (hb9.mono hb8.size)⟩
      · go_simp
        have hG2 := hGV.kept (Below.heap_alloc V (.cells #[.int .u64 0, .int .u64 0, .int .u64 0, .int .u64 0, .int .u64 0] 188) _ hGV.lt)
        have hP2 := hPV.kept (Below.heap_alloc V (.cells #[.int .u64 0, .int .u64 0, .int .u64 0, .int .u64 0, .int .u64 0] 188) _ hPV.lt)
        have hn2 : Nb .u64 188 (V.alloc (.cells #[.int .u64 0, .int .u64 0, .int .u64 0, .int .u64 0, .int .u64 0] 188)) V.heap.size (List.replicate 5 0) := heap_new _ _
        have hb2 := hbV.alloc hbV.size (.cells #[.int .u64 0, .int .u64 0, .int .u64 0, .int .u64 0, .int .u64 0] 188)
        have hgx : g ≠ V.heap.size ∧ p ≠ V.heap.size ∧ w.heap.size ≤ V.heap.size := ⟨by have := hGV.lt; omega, by have := hPV.lt; omega, hbV.size⟩
        have hS2 : (V.alloc (.cells #[.int .u64 0, .int .u64 0, .int .u64 0, .int .u64 0, .int .u64 0] 188)).rangeAt g 11 (nsL .u64 LX) ∧ (V.alloc (.cells #[.int .u64 0, .int .u64 0, .int .u64 0, .int .u64 0, .int .u64 0] 188)).rangeAt p 6 (nsL .u64 LS) := ⟨hG2.rA, hP2.rS⟩
        refine hK.out _ _ hS2 (fun _ => ?_)
        clear hK K
        (try simp only [Act.put, List.setIfInBounds_toArray, List.set_cons_zero, List.set_cons_succ])
        revert hG2 hP2 hn2 hb2 hgx hS2
        clear hGV hPV hbV hS
        generalize V.alloc (.cells #[.int .u64 0, .int .u64 0, .int .u64 0, .int .u64 0, .int .u64 0] 188) = V2
        generalize V.heap.size = h
        intro hGV hPV hn hbV hgx hS
        revert hGV hPV hn hbV hgx hS
        generalize V2 = V
        intro hGV hPV hn hbV hgx hS
        refine wpAnyH_ready (rs := [7]) (by kernel_rfl) (by simp) ?_
        refine AllReadyH.cons (o := { dst := some 24, op := .call { callee := .value (.func 146), args := #[.tmp 19, .tmp 23], argTypes := #[188, 188] }, type := _, pos := _, after := _, guard := none }) rfl (fun K hK => ?_) AllReadyH.nil
        go_simp
        refine (HPL.out V).mono ?_
        rintro e W2 ⟨rfl, hbc⟩
        have hG2 := hGV.below hbc hGV.lt
        have hP2 := hPV.below hbc hPV.lt
        have hb2 := hbV.trans (hbc.mono hbV.size)
        have hn2 := hn.below hbc hn.lt
        have hS2 : W2.rangeAt g 11 (nsL .u64 LX) ∧ W2.rangeAt p 6 (nsL .u64 LS) := ⟨hG2.rA, hP2.rS⟩
        refine hK.out _ _ hS2 (fun _ => ?_)
        clear hK K
        (try simp only [Act.put, List.setIfInBounds_toArray, List.set_cons_zero, List.set_cons_succ])
        revert hG2 hP2 hb2 hn2 hS2
        clear hGV hPV hbV hbc hS hn
        generalize W2 = V
        intro hGV hPV hbV hn hS
        refine wpAnyH_ready (rs := [8]) (by kernel_rfl) (by simp) ?_
        refine AllReadyH.cons (o := { dst := some 25, op := .call { callee := .value (.func 147), args := #[.tmp 24], argTypes := #[188] }, type := _, pos := _, after := _, guard := none }) rfl (fun K hK => ?_) AllReadyH.nil
        go_simp
        refine (HSP.out V).mono ?_
        rintro e W2 ⟨rfl, hbc⟩
        have hG2 := hGV.below hbc hGV.lt
        have hP2 := hPV.below hbc hPV.lt
        have hb2 := hbV.trans (hbc.mono hbV.size)
        have hn2 := hn.below hbc hn.lt
        have hS2 : W2.rangeAt g 11 (nsL .u64 LX) ∧ W2.rangeAt p 6 (nsL .u64 LS) := ⟨hG2.rA, hP2.rS⟩
        refine hK.out _ _ hS2 (fun _ => ?_)
        clear hK K
        (try simp only [Act.put, List.setIfInBounds_toArray, List.set_cons_zero, List.set_cons_succ])
        revert hG2 hP2 hb2 hn2 hS2
        clear hGV hPV hbV hbc hS hn
        generalize W2 = V
        intro hGV hPV hbV hn hS
        refine wpAnyH_take (i := 9) (oi := { dst := some 16, op := .move (.tmp 25), type := _, pos := _, after := _, guard := none }) (v := .tuple #[.agg (ns .u64 LV), .int .u64 (y : Int)]) rfl (by kernel_rfl) (by kernel_rfl) (by kernel_rfl) (fun _ _ _ h => h) (Or.inl ⟨by rfl, by intro x _; go_simp⟩) hS ?_
        (try simp only [Act.put, List.setIfInBounds_toArray, List.set_cons_zero, List.set_cons_succ])
        refine wpAnyH_take (i := 10) (oi := { dst := some 26, op := .extract (.tmp 16) 0, type := _, pos := _, after := _, guard := none }) (v := .agg (ns .u64 LV)) rfl (by kernel_rfl) (by kernel_rfl) (by kernel_rfl) (fun _ _ _ h => h) (Or.inl ⟨by rfl, by intro x _; go_simp⟩) hS ?_
        (try simp only [Act.put, List.setIfInBounds_toArray, List.set_cons_zero, List.set_cons_succ])
        refine wpAnyH_take (i := 11) (oi := { dst := some 27, op := .extract (.tmp 16) 1, type := _, pos := _, after := _, guard := none }) (v := .int .u64 (y : Int)) rfl (by kernel_rfl) (by kernel_rfl) (by kernel_rfl) (fun _ _ _ h => h) (Or.inl ⟨by rfl, by intro x _; go_simp⟩) hS ?_
        (try simp only [Act.put, List.setIfInBounds_toArray, List.set_cons_zero, List.set_cons_succ])
        refine wpAnyH_ready (rs := [13]) (by kernel_rfl) (by simp) ?_
        refine AllReadyH.cons (o := { dst := none, op := .store 188 (.tmp 4) (.tmp 26), type := _, pos := _, after := _, guard := none }) rfl (fun K hK => ?_) AllReadyH.nil
        refine step_store_mid rfl 188 (.tmp 4) (.tmp 26) rfl h 0 (ns .u64 LV) (by simp [Act.eval]) (by simp [Act.eval]) (hn.there _ (by rw [ns_size, hlV]; rfl)) (ns5 LV hlV) (ns_one .u64 LV) ?_
        have hG8 := hGV.kept (heap_setCells_other h g hgx.1 (ns .u64 LV).toList 0 V)
        have hP8 := hPV.kept (heap_setCells_other h p hgx.2.1 (ns .u64 LV).toList 0 V)
        have hn8 := hn.store LV (by rw [hlV]; rfl)
        have hb8 := Below.setCells hbV hgx.2.2 0 (ns .u64 LV).toList
        have hS8 : (V.setCells h 0 (ns .u64 LV).toList).rangeAt g 11 (nsL .u64 LX) ∧ (V.setCells h 0 (ns .u64 LV).toList).rangeAt p 6 (nsL .u64 LS) := ⟨hG8.rA, hP8.rS⟩
        refine hK.out _ _ hS8 (fun _ => ?_)
        clear hK K
        (try simp only [Act.put])
        refine wpAnyH_take (i := 14) (oi := { dst := some 5, op := .assign (.tmp 27), type := _, pos := _, after := _, guard := none }) (v := .int .u64 (y : Int)) rfl (by kernel_rfl) (by kernel_rfl) (by kernel_rfl) (fun _ _ _ h => h) (Or.inl ⟨by rfl, by intro x _; go_simp⟩) hS8 ?_
        (try simp only [Act.put, List.setIfInBounds_toArray, List.set_cons_zero, List.set_cons_succ])
        refine wpAnyH_done (by kernel_rfl) ?_ _
        revert hn8 hb8
        clear hS8 hG8 hP8
        generalize V.setCells h 0 (ns .u64 LV).toList = w8
        intro hn8 hb8
        have hszV := ns5 LV hlV
        have htx := HTX.out w8
        unfold Nb at hn8
        go_wp2_with (first | (refine wpList_load_row rfl 188 (.tmp 4) rfl h rfl 188 _ (0, 0) _ hn8 Tryz.underlying188 rfl hszV ?_) | (go_at_call 148; refine htx.mono ?_; rintro e w9 ⟨rfl, hb9⟩))
        go_ret
        exact ⟨rfl, hb8.trans (hb9.mono hb8.size)⟩
    · go_simp
      have hG2 := hGV.kept (Below.heap_alloc V (.cells #[.int .u64 0, .int .u64 0, .int .u64 0, .int .u64 0, .int .u64 0] 188) _ hGV.lt)
      have hP2 := hPV.kept (Below.heap_alloc V (.cells #[.int .u64 0, .int .u64 0, .int .u64 0, .int .u64 0, .int .u64 0] 188) _ hPV.lt)
      have hn2 : Nb .u64 188 (V.alloc (.cells #[.int .u64 0, .int .u64 0, .int .u64 0, .int .u64 0, .int .u64 0] 188)) V.heap.size (List.replicate 5 0) := heap_new _ _
      have hb2 := hbV.alloc hbV.size (.cells #[.int .u64 0, .int .u64 0, .int .u64 0, .int .u64 0, .int .u64 0] 188)
      have hgx : g ≠ V.heap.size ∧ p ≠ V.heap.size ∧ w.heap.size ≤ V.heap.size := ⟨by have := hGV.lt; omega, by have := hPV.lt; omega, hbV.size⟩
      have hS2 : (V.alloc (.cells #[.int .u64 0, .int .u64 0, .int .u64 0, .int .u64 0, .int .u64 0] 188)).rangeAt g 11 (nsL .u64 LX) ∧ (V.alloc (.cells #[.int .u64 0, .int .u64 0, .int .u64 0, .int .u64 0, .int .u64 0] 188)).rangeAt p 6 (nsL .u64 LS) := ⟨hG2.rA, hP2.rS⟩
      refine hK.out _ _ hS2 (fun _ => ?_)
      clear hK K
      (try simp only [Act.put, List.setIfInBounds_toArray, List.set_cons_zero, List.set_cons_succ])
      revert hG2 hP2 hn2 hb2 hgx hS2
      clear hGV hPV hbV hS
      generalize V.alloc (.cells #[.int .u64 0, .int .u64 0, .int .u64 0, .int .u64 0, .int .u64 0] 188) = V2
      generalize V.heap.size = h
      intro hGV hPV hn hbV hgx hS
      revert hGV hPV hn hbV hgx hS
      generalize V2 = V
      intro hGV hPV hn hbV hgx hS
      refine wpAnyH_ready (rs := [2]) (by kernel_rfl) (by simp) ?_
      refine AllReadyH.cons (o := { dst := some 19, op := .call { callee := .value (.func 145), args := #[.tmp 18], argTypes := #[188] }, type := _, pos := _, after := _, guard := none }) rfl (fun K hK => ?_) AllReadyH.nil
      go_simp
      refine (HLE.out V).mono ?_
      rintro e W2 ⟨rfl, hbc⟩
      have hG2 := hGV.below hbc hGV.lt
      have hP2 := hPV.below hbc hPV.lt
      have hb2 := hbV.trans (hbc.mono hbV.size)
      have hn2 := hn.below hbc hn.lt
      have hS2 : W2.rangeAt g 11 (nsL .u64 LX) ∧ W2.rangeAt p 6 (nsL .u64 LS) := ⟨hG2.rA, hP2.rS⟩
      refine hK.out _ _ hS2 (fun _ => ?_)
      clear hK K
      (try simp only [Act.put, List.setIfInBounds_toArray, List.set_cons_zero, List.set_cons_succ])
      revert hG2 hP2 hb2 hn2 hS2
      clear hGV hPV hbV hbc hS hn
      generalize W2 = V
      intro hGV hPV hbV hn hS
      refine wpAnyH_ready (rs := [7]) (by kernel_rfl) (by simp) ?_
      refine AllReadyH.cons (o := { dst := some 24, op := .call { callee := .value (.func 146), args := #[.tmp 19, .tmp 23], argTypes := #[188, 188] }, type := _, pos := _, after := _, guard := none }) rfl (fun K hK => ?_) AllReadyH.nil
      go_simp
      refine (HPL.out V).mono ?_
      rintro e W2 ⟨rfl, hbc⟩
      have hG2 := hGV.below hbc hGV.lt
      have hP2 := hPV.below hbc hPV.lt
      have hb2 := hbV.trans (hbc.mono hbV.size)
      have hn2 := hn.below hbc hn.lt
      have hS2 : W2.rangeAt g 11 (nsL .u64 LX) ∧ W2.rangeAt p 6 (nsL .u64 LS) := ⟨hG2.rA, hP2.rS⟩
      refine hK.out _ _ hS2 (fun _ => ?_)
      clear hK K
      (try simp only [Act.put, List.setIfInBounds_toArray, List.set_cons_zero, List.set_cons_succ])
      revert hG2 hP2 hb2 hn2 hS2
      clear hGV hPV hbV hbc hS hn
      generalize W2 = V
      intro hGV hPV hbV hn hS
      refine wpAnyH_ready (rs := [8]) (by kernel_rfl) (by simp) ?_
      refine AllReadyH.cons (o := { dst := some 25, op := .call { callee := .value (.func 147), args := #[.tmp 24], argTypes := #[188] }, type := _, pos := _, after := _, guard := none }) rfl (fun K hK => ?_) AllReadyH.nil
      go_simp
      refine (HSP.out V).mono ?_
      rintro e W2 ⟨rfl, hbc⟩
      have hG2 := hGV.below hbc hGV.lt
      have hP2 := hPV.below hbc hPV.lt
      have hb2 := hbV.trans (hbc.mono hbV.size)
      have hn2 := hn.below hbc hn.lt
      have hS2 : W2.rangeAt g 11 (nsL .u64 LX) ∧ W2.rangeAt p 6 (nsL .u64 LS) := ⟨hG2.rA, hP2.rS⟩
      refine hK.out _ _ hS2 (fun _ => ?_)
      clear hK K
      (try simp only [Act.put, List.setIfInBounds_toArray, List.set_cons_zero, List.set_cons_succ])
      revert hG2 hP2 hb2 hn2 hS2
      clear hGV hPV hbV hbc hS hn
      generalize W2 = V
      intro hGV hPV hbV hn hS
      refine wpAnyH_take (i := 9) (oi := { dst := some 16, op := .move (.tmp 25), type := _, pos := _, after := _, guard := none }) (v := .tuple #[.agg (ns .u64 LV), .int .u64 (y : Int)]) rfl (by kernel_rfl) (by kernel_rfl) (by kernel_rfl) (fun _ _ _ h => h) (Or.inl ⟨by rfl, by intro x _; go_simp⟩) hS ?_
      (try simp only [Act.put, List.setIfInBounds_toArray, List.set_cons_zero, List.set_cons_succ])
      refine wpAnyH_take (i := 10) (oi := { dst := some 26, op := .extract (.tmp 16) 0, type := _, pos := _, after := _, guard := none }) (v := .agg (ns .u64 LV)) rfl (by kernel_rfl) (by kernel_rfl) (by kernel_rfl) (fun _ _ _ h => h) (Or.inl ⟨by rfl, by intro x _; go_simp⟩) hS ?_
      (try simp only [Act.put, List.setIfInBounds_toArray, List.set_cons_zero, List.set_cons_succ])
      refine wpAnyH_take (i := 11) (oi := { dst := some 27, op := .extract (.tmp 16) 1, type := _, pos := _, after := _, guard := none }) (v := .int .u64 (y : Int)) rfl (by kernel_rfl) (by kernel_rfl) (by kernel_rfl) (fun _ _ _ h => h) (Or.inl ⟨by rfl, by intro x _; go_simp⟩) hS ?_
      (try simp only [Act.put, List.setIfInBounds_toArray, List.set_cons_zero, List.set_cons_succ])
      refine wpAnyH_ready (rs := [13]) (by kernel_rfl) (by simp) ?_
      refine AllReadyH.cons (o := { dst := none, op := .store 188 (.tmp 4) (.tmp 26), type := _, pos := _, after := _, guard := none }) rfl (fun K hK => ?_) AllReadyH.nil
      refine step_store_mid rfl 188 (.tmp 4) (.tmp 26) rfl h 0 (ns .u64 LV) (by simp [Act.eval]) (by simp [Act.eval]) (hn.there _ (by rw [ns_size, hlV]; rfl)) (ns5 LV hlV) (ns_one .u64 LV) ?_
      have hG8 := hGV.kept (heap_setCells_other h g hgx.1 (ns .u64 LV).toList 0 V)
      have hP8 := hPV.kept (heap_setCells_other h p hgx.2.1 (ns .u64 LV).toList 0 V)
      have hn8 := hn.store LV (by rw [hlV]; rfl)
      have hb8 := Below.setCells hbV hgx.2.2 0 (ns .u64 LV).toList
      have hS8 : (V.setCells h 0 (ns .u64 LV).toList).rangeAt g 11 (nsL .u64 LX) ∧ (V.setCells h 0 (ns .u64 LV).toList).rangeAt p 6 (nsL .u64 LS) := ⟨hG8.rA, hP8.rS⟩
      refine hK.out _ _ hS8 (fun _ => ?_)
      clear hK K
      (try simp only [Act.put])
      refine wpAnyH_take (i := 14) (oi := { dst := some 5, op := .assign (.tmp 27), type := _, pos := _, after := _, guard := none }) (v := .int .u64 (y : Int)) rfl (by kernel_rfl) (by kernel_rfl) (by kernel_rfl) (fun _ _ _ h => h) (Or.inl ⟨by rfl, by intro x _; go_simp⟩) hS8 ?_
      (try simp only [Act.put, List.setIfInBounds_toArray, List.set_cons_zero, List.set_cons_succ])
      refine wpAnyH_done (by kernel_rfl) ?_ _
      revert hn8 hb8
      clear hS8 hG8 hP8
      generalize V.setCells h 0 (ns .u64 LV).toList = w8
      intro hn8 hb8
      have hszV := ns5 LV hlV
      have htx := HTX.out w8
      unfold Nb at hn8
      go_wp2_with (first | (refine wpList_load_row rfl 188 (.tmp 4) rfl h rfl 188 _ (0, 0) _ hn8 Tryz.underlying188 rfl hszV ?_) | (go_at_call 148; refine htx.mono ?_; rintro e w9 ⟨rfl, hb9⟩))
      go_ret
      exact ⟨rfl, hb8.trans (hb9.mono hb8.size)⟩

end Go.Proofs.YtengclnahppmhaaGreatDoor.Pol

namespace Go.Proofs.YtengclnahppmhaaGreatDoor.Pol
open Go.RowKit Go.Lib Go.Deep

theorem index_agg {P : Program} (w : World) (t e : TypeId) (n : Nat) (cs : Array Value) (k kd : IntKind) (i : Nat) (v : Value) (h : P.underlying t = some (.array n e)) (he : P.underlying e = some (.int kd)) (hs : (P.info? e).map (·.size) = some 1)
    (hi : i < n) (hv : cs[i]? = some v) : (Instr.index t (.agg cs) (.int k (i : Int))).run P w = .ok v w := by
  have hagg : (isAgg e).run P w = .ok false w := by
    unfold isAgg
    rw [Sem.run_bind, run_underlying he w]
    rfl
  cases hq : P.info? e with
  | none => simp [hq] at hs
  | some q =>
    have hz : q.size = 1 := by simpa [hq] using hs
    simp [Instr.index, asIntOf, run_underlying h, hi, sizeOf, typeInfo, hq, hz, part, hagg, hv]

theorem Nb.range {kd : IntKind} {t : TypeId} {w : World} {g : Nat} {l : List Nat} (h : Nb kd t w g l) : w.rangeAt g 0 (nsL kd l) := range_of_heap (pre := []) (mid := nsL kd l) (post := []) h (by simp [ns])

/-- the program's table -/
structure KTab (w : World) : Prop where
  kt : w.rangeAt 3 0 (nsL .u8 (nat8 keptL))
theorem KTab.below {w w' : World} {B : Nat} (h : KTab w) (hb : Below B w w') (hB : 3 < B) : KTab w' := ⟨fun j v hv => by
  rw [hb.cell (p := ⟨3, 0 + j, none⟩) hB]
  exact h.kt j v hv⟩

theorem built_mac (R S : List Nat) (hR : R.length = 5) (hS : S.length = 5) : Tryz.prog.built 191 [(0, .bool true), (1, .agg (ns .u64 R)), (2, .agg (ns .u64 S))] = some (mcells R S (List.replicate 5 0) (List.replicate 17 0) 0).toArray := by
  obtain ⟨a, b, c, d, e, rfl⟩ : ∃ a b c d e, R = [a, b, c, d, e] := by
    match R, hR with
    | [a, b, c, d, e], _ => exact ⟨_, _, _, _, _, rfl⟩
  obtain ⟨f, g, h, i, j, rfl⟩ : ∃ a b c d e, S = [a, b, c, d, e] := by
    match S, hS with
    | [a, b, c, d, e], _ => exact ⟨_, _, _, _, _, rfl⟩
  kernel_rfl

theorem clamp_getD (key : List UInt8) (k : Nat) (hk : k < 16) (hl : 16 ≤ key.length) : (clampL key).getD k 0 = key.getD k 0 &&& keptL.getD k 0 := by
  have h1 : k < key.length := by omega
  have h2 : k < keptL.length := hk
  simp [clampL, List.getD_eq_getElem?_getD, List.getElem?_zipWith, hk, h1, h2]

/-- what New holds -/
structure Nw (w wr : World) (a d : List Nat) : Prop where
  one : Nb .u8 185 wr w.heap.size a
  two : Nb .u8 185 wr (w.heap.size + 1) d
  bel : Below w.heap.size w wr

theorem new_no (key : ByteArray) (hk : key.size ≠ 32) (w : World) :
    Calls Tryz.prog 121 #[.string key] w fun e w' => e = .returned (.tuple #[.pointer none, .int .i64 40]) ∧ w = w' := by
  have hkI : ¬ (key.size : Int) = 32 := by omega
  go_enter Tryz.func121, Tryz.ntmps121
  go_wp2
  go_ret2
  exact ⟨rfl, rfl⟩

theorem copy_lists (l : List UInt8) (h : l.length = 16) : (ns .u8 (dg 256 17 0)).toList.take 0 ++ byteCells (l.take 16) ++ (ns .u8 (dg 256 17 0)).toList.drop (0 + 16) = nsL .u8 (nat8 (l ++ [0])) := by
  rw [List.take_zero, List.nil_append, List.take_of_length_le (l := l) (by omega), nat8_append, nsL_append, nat8_cells]
  rfl

set_option maxRecDepth 20000 in
set_option maxHeartbeats 2000000 in
theorem new_yes (key : ByteArray) (hk : key.size = 32) (w : World) (hT : KTab w) (h1 : 3 < w.heap.size) :
    Calls Tryz.prog 121 #[.string key] w fun e w' => (∃ p, e = .returned (.tuple #[.pointer (some ⟨p, 0, none⟩), .int .i64 0]) ∧ w.heap.size ≤ p ∧ Mac w' p (rOf key.data.toList) (sOf key.data.toList) []) ∧ Below w.heap.size w w' := by
  have hkl : key.data.toList.length = 32 := by rw [← size_eq]; exact hk
  have hcl := clampL_length key.data.toList (by omega)
  have HN1 : Hid (∀ W, Calls Tryz.prog 141 #[.agg (ns .u8 (nat8 (clampL key.data.toList ++ [0])))] W fun e w' => e = .returned (.agg (ns .u64 (lim (rOf key.data.toList)))) ∧ Below W.heap.size W w') := fun W => by
    have h := number_any (clampL key.data.toList ++ [0]) (by rw [List.length_append, hcl]; rfl) W
    rw [show numL (clampL key.data.toList ++ [0]) = rOf key.data.toList from numL_pad _ 1] at h
    exact h
  have HN2 : Hid (∀ W, Calls Tryz.prog 141 #[.agg (ns .u8 (nat8 (key.data.toList.drop 16 ++ [0])))] W fun e w' => e = .returned (.agg (ns .u64 (lim (sOf key.data.toList)))) ∧ Below W.heap.size W w') := fun W => by
    have h := number_any (key.data.toList.drop 16 ++ [0]) (by rw [List.length_append, List.length_drop, hkl]; rfl) W
    rw [show numL (key.data.toList.drop 16 ++ [0]) = sOf key.data.toList from numL_pad _ 1] at h
    exact h
  have hbl := built_mac (lim (rOf key.data.toList)) (lim (sOf key.data.toList)) (lim_length _) (lim_length _)
  have HMC : Hid (∀ W : World, Mac (W.alloc (.cells (mcells (lim (rOf key.data.toList)) (lim (sOf key.data.toList)) (List.replicate 5 0) (List.replicate 17 0) 0).toArray 191)) W.heap.size (rOf key.data.toList) (sOf key.data.toList) []) := fun W => by
    refine ⟨0, by omega, rfl, ?_⟩
    rw [show lim 0 = List.replicate 5 0 from dg_zero _ _]
    exact ⟨heap_new _ _, lim_length _, lim_length _, rfl, rfl⟩
  have hlZ : (nat8 (clampL key.data.toList ++ [0])).length = 17 := by rw [nat8_length, List.length_append, hcl]; rfl
  have hlD : (nat8 (key.data.toList.drop 16 ++ [0])).length = 17 := by rw [nat8_length, List.length_append, List.length_drop, hkl]; rfl
  have hla : (nat8 (key.data.toList.take 16 ++ [0])).length = 17 := by rw [nat8_length, List.length_append, List.length_take, hkl]; rfl
  have HZ : Hid (∀ k, k < 16 → (nat8 (clampL key.data.toList ++ [0])).getD k 0 = (nat8 (key.data.toList.take 16 ++ [0])).getD k 0 &&& (nat8 keptL).getD k 0) := fun k hk' => by
    rw [nat8_getD, nat8_getD, nat8_getD]
    have e1 : (clampL key.data.toList ++ [0]).getD k 0 = (clampL key.data.toList).getD k 0 := by rw [List.getD_eq_getElem?_getD, List.getElem?_append_left (by omega), ← List.getD_eq_getElem?_getD]
    have e2 : (key.data.toList.take 16 ++ [0]).getD k 0 = key.data.toList.getD k 0 := by rw [List.getD_eq_getElem?_getD, List.getElem?_append_left (by rw [List.length_take]; omega), List.getElem?_take, if_pos hk', ← List.getD_eq_getElem?_getD]
    rw [e1, e2, clamp_getD _ _ hk' (by omega), UInt8.toNat_and]
  have HE : Hid ((nat8 (clampL key.data.toList ++ [0])).drop 16 = (nat8 (key.data.toList.take 16 ++ [0])).drop 16) := by
    show _ = _
    have h1 : (nat8 (clampL key.data.toList)).length = 16 := by rw [nat8_length, hcl]
    have h2 : (nat8 (key.data.toList.take 16)).length = 16 := by rw [nat8_length, List.length_take, hkl]; rfl
    rw [nat8_append, nat8_append, List.drop_left' h1, List.drop_left' h2]
  have HB : Hid (∀ k, (nat8 (key.data.toList.take 16 ++ [0])).getD k 0 < 256 ∧ (nat8 keptL).getD k 0 < 256) := fun k => by
    rw [nat8_getD, nat8_getD]
    exact ⟨UInt8.toNat_lt _, UInt8.toNat_lt _⟩
  have hs1 : ∀ W : World, (Instr.slice 9 (.string key) none (some (.int .i64 16)) none).run Tryz.prog W = .ok (.string (key.extract 0 16)) W := fun W => run_slice_string_h (P := Tryz.prog) W 9 key Tryz.underlying9 .i64 16 (by omega) (by omega)
  have hs2 : ∀ W : World, (Instr.slice 9 (.string key) (some (.int .i64 16)) none none).run Tryz.prog W = .ok (.string (key.extract 16 key.size)) W := fun W => run_slice_string_l (P := Tryz.prog) W 9 key Tryz.underlying9 .i64 16 (by omega) (by omega)
  obtain ⟨x1, x2⟩ := slice_rest (x := key) (m := 16) (by omega)
  have x3 : (key.extract 0 16).data.toList = key.data.toList.take 16 := by simp [List.extract]
  have x4 : (key.extract 0 16).size = 16 := by simp; omega
  have hcs1 := copy_lists (key.data.toList.take 16) (by rw [List.length_take, hkl]; rfl)
  have hcs2 := copy_lists (key.data.toList.drop 16) (by rw [List.length_drop, hkl])
  rw [← x3] at hcs1
  rw [← x1] at hcs2
  rw [x3] at hcs1
  rw [x1] at hcs2
  have HS0 : Hid (Nw w ((w.alloc (.cells (ns .u8 (dg 256 17 0)) 185)).alloc (.cells (ns .u8 (dg 256 17 0)) 185)) (dg 256 17 0) (dg 256 17 0)) :=
    ⟨(Nb.new _ _ _ _).alloc _, Nb.newN _ _ _ _ _ (by simp), ((Below.refl _ _).alloc (Nat.le_refl _) _).alloc (by simp) _⟩
  rw [zeros17] at HS0
  have hl0 : (dg 256 17 0).length = 17 := rfl
  have hfit : (ns .u8 (dg 256 17 0)).size = 17 := rfl
  have hI43 : Hid (∀ k : Nat, k < 16 → ∀ W, (Instr.index 186 (.agg (nsL .u8 (nat8 keptL)).toArray) (.int .i64 (k : Int))).run Tryz.prog W = .ok (.int .u8 (((nat8 keptL).getD k 0 : Nat) : Int)) W) := fun k hk W =>
    index_agg W 186 5 16 _ .i64 .u8 k _ Tryz.underlying186 Tryz.underlying5 size5 hk (ns_at .u8 (nat8 keptL) k hk)
  have hl16 : (Tryz.prog.info? 186).map (·.size) = some (nsL .u8 (nat8 keptL)).length := by kernel_rfl
  have hkI : (key.size : Int) = 32 := by omega
  go_enter Tryz.func121, Tryz.ntmps121
  go_upto_region 4 with fail
  refine with_world (R := fun W => Code.wp _ _ _ _ W) (Q := fun W => Nw w W (dg 256 17 0) (dg 256 17 0)) _ HS0.out ?_
  clear HS0
  intro w1 H1
  have y1 : Nat.min (key.extract 0 16).size 17 = 16 := by rw [x4]; rfl
  have y2 : Nat.min (key.extract 16 key.size).size 17 = 16 := by rw [x2, hk]; rfl
  have z1 : (key.extract 0 16).data.toList.take 16 = (key.data.toList.take 16).take 16 := by rw [x3]
  have z2 : (key.extract 16 key.size).data.toList.take 16 = (key.data.toList.drop 16).take 16 := by rw [x1]
  rw [← z1] at hcs1
  rw [← z2] at hcs2
  clear x1 x2 x3 x4 z1 z2 hkl hcl
  revert HN1 HN2 hbl HMC hlZ hlD hla HZ HE HB hs1 hs2 hcs1 hcs2 y1 y2 hfit hl0
  generalize nat8 (clampL key.data.toList ++ [0]) = Z
  generalize nat8 (key.data.toList.drop 16 ++ [0]) = D
  generalize nat8 (key.data.toList.take 16 ++ [0]) = A
  generalize key.extract 0 16 = k1
  generalize key.extract 16 key.size = k2
  generalize lim (rOf key.data.toList) = LR
  generalize lim (sOf key.data.toList) = LS
  generalize (mcells LR LS (List.replicate 5 0) (List.replicate 17 0) 0).toArray = C
  intro HN1 HN2 hbl HMC hlZ hlD hla HZ HE HB hs1 hs2 hcs1 hcs2 hl0 hfit y1 y2
  have hg1 := H1.one.drew
  have HR1 : Hid (Nw w (w1.drew.setRow w.heap.size (nsL .u8 A).toArray) A (dg 256 17 0)) := ⟨setRow_heap _ _ _ _ _ _ hg1, H1.two.drew.kept (setRow_other _ _ _ _ (by simp)), H1.bel.drew.trans ⟨rfl, rfl, rfl, by simp, fun j hj => setRow_other _ _ _ _ (by omega)⟩⟩
  unfold Nb at hg1
  clear H1
  go_region_law (refine step_copy_string rfl (.tmp 11) (.tmp 13) 96 9 rfl 5 Tryz.underlying96 size5 w.heap.size 0 17 17 16 k1 (by simp [Act.eval, Act.put]) (by simp [Act.eval, Act.put]) (ns .u8 (dg 256 17 0)) 185 hg1 y1 (by rw [hfit]; omega) (nsL .u8 A) hcs1 ?_)
  refine with_world (R := fun W => Exit.then _ _ _ _ W) (Q := fun W => Nw w W A (dg 256 17 0)) _ HR1.out ?_
  clear HR1 hg1 hcs1 y1 hs1
  intro w2 H2
  have hg2 := H2.two.drew
  have HR2 : Hid (Nw w (w2.drew.setRow (w.heap.size + 1) (nsL .u8 D).toArray) A D) := ⟨H2.one.drew.kept (setRow_other _ _ _ _ (by simp)), setRow_heap _ _ _ _ _ _ hg2, H2.bel.drew.trans ⟨rfl, rfl, rfl, by simp, fun j hj => setRow_other _ _ _ _ (by omega)⟩⟩
  unfold Nb at hg2
  clear H2
  go_upto_region 5 with fail
  go_region_law (refine step_copy_string rfl (.tmp 15) (.tmp 17) 96 9 rfl 5 Tryz.underlying96 size5 (w.heap.size + 1) 0 17 17 16 k2 (by simp [Act.eval, Act.put]) (by simp [Act.eval, Act.put]) (ns .u8 (dg 256 17 0)) 185 hg2 y2 (by rw [hfit]; omega) (nsL .u8 D) hcs2 ?_)
  refine with_world (R := fun W => Exit.then _ _ _ _ W) (Q := fun W => Nw w W A D) _ HR2.out ?_
  clear HR2 hg2 hcs2 y2 hs2
  intro w3 H3
  have hkt := (hT.below H3.bel h1).kt
  revert hkt hI43 hl16 HZ HB
  generalize nat8 keptL = KL
  intro hI43 hl16 HZ HB hkt
  go_wp2_with (refine wpList_load_mid rfl 186 (.global 3) rfl 3 0 rfl _ _ hkt Tryz.underlying186 rfl hl16 ?_)
  clear hkt
  go_loopg [20] 16 (fun gk i wr => ∃ k : Nat, k + gk = 16 ∧ i = .int .i64 k ∧ Nw w wr (Z.take k ++ A.drop k) D)
  case atStart => exact ⟨0, by omega, rfl, H3⟩
  case round =>
    clear H3
    obtain ⟨k, hkk, rfl, HS⟩ := hrel
    have HK : Hid (k + gk = 16) := hkk
    have hk' : k ≤ 16 := by omega
    clear hkk
    by_cases hlt : k < 16
    · have hltI : (k : Int) < 16 := by omega
      have hltI2 : (k : Int) < 17 := by omega
      have hix := hI43.out k hlt
      obtain ⟨hx, hy⟩ := HB.out k
      have hz := HZ.out k hlt
      have c0 := HS.one.cell k (by rw [List.length_append, List.length_take, List.length_drop]; omega)
      rw [mix_get Z A k (by omega)] at c0
      have f0 := HS.one.frozen k
      have HR : Hid (Nw w (wr.setCell ⟨w.heap.size, k, none⟩ (.int .u8 ((A.getD k 0 &&& KL.getD k 0 : Nat) : Int))) (Z.take (k + 1) ++ A.drop (k + 1)) D) := by
        rw [← hz]
        refine ⟨?_, HS.two.beside (by simp) _, HS.bel.setCell (Nat.le_refl _) _⟩
        rw [← mix_set Z A k (by omega) (by omega)]
        exact HS.one.put k _
      have hand := u8_and_nat _ _ hx hy
      clear hz HS
      revert hix hx hy c0 HR hand
      generalize A.getD k 0 &&& KL.getD k 0 = o
      generalize A.getD k 0 = x
      generalize KL.getD k 0 = y
      intro hix hx hy c0 HR hand
      go_wp2
      go_roundg (gk - 1)
      case measure => have := HK.out; omega
      case rel => exact ⟨k + 1, by have := HK.out; omega, by go_num, HR.out⟩
    · obtain rfl : k = 16 := by omega
      rw [← HE.out, List.take_append_drop] at HS
      have hzZ : (Tryz.prog.info? 185).map (·.size) = some (nsL .u8 Z).length := by rw [nsL_length, hlZ]; exact size42
      have hzD : (Tryz.prog.info? 185).map (·.size) = some (nsL .u8 D).length := by rw [nsL_length, hlD]; exact size42
      clear HK HZ HB HE hI43 hl16
      go_upto_region 11 with fail
      refine wp_region_held_drew (S := fun W => Nb .u8 185 W w.heap.size Z ∧ Nb .u8 185 W (w.heap.size + 1) D) (by kernel_rfl) ⟨HS.one.drew, HS.two.drew⟩ ?_
      intro hS
      have hbV := HS.bel.drew
      clear HS
      revert hS hbV
      generalize wr.drew = V
      intro hS hbV
      refine wpAnyH_take (i := 0) (oi := { dst := some 31, op := .load 185 (.tmp 4), type := _, pos := _, after := _, guard := none }) (v := .agg (nsL .u8 Z).toArray) rfl (by kernel_rfl) (by kernel_rfl) (by kernel_rfl) (fun _ _ _ h => h) (yieldsIf_load_mid (by rfl) 185 (.tmp 4) rfl w.heap.size 0 (by simp [Act.eval]) (nsL .u8 Z) _ (fun x hx => hx.1.range) Tryz.underlying185 rfl hzZ) hS ?_
      (try simp only [Act.put, List.setIfInBounds_toArray, List.set_cons_zero, List.set_cons_succ])
      refine wpAnyH_take (i := 2) (oi := { dst := some 33, op := .load 185 (.tmp 5), type := _, pos := _, after := _, guard := none }) (v := .agg (nsL .u8 D).toArray) rfl (by kernel_rfl) (by kernel_rfl) (by kernel_rfl) (fun _ _ _ h => h) (yieldsIf_load_mid (by rfl) 185 (.tmp 5) rfl (w.heap.size + 1) 0 (by simp [Act.eval]) (nsL .u8 D) _ (fun x hx => hx.2.range) Tryz.underlying185 rfl hzD) hS ?_
      (try simp only [Act.put, List.setIfInBounds_toArray, List.set_cons_zero, List.set_cons_succ])
      refine wpAnyH_ready (rs := [1]) (by kernel_rfl) (by simp) ?_
      refine AllReadyH.cons (o := { dst := some 32, op := .call { callee := .value (.func 141), args := #[.tmp 31], argTypes := #[185] }, type := _, pos := _, after := _, guard := none }) rfl (fun K hK => ?_) AllReadyH.nil
      go_simp
      refine (HN1.out V).mono ?_
      rintro e W2 ⟨rfl, hbc⟩
      have hS2 : Nb .u8 185 W2 w.heap.size Z ∧ Nb .u8 185 W2 (w.heap.size + 1) D := ⟨hS.1.below hbc hS.1.lt, hS.2.below hbc hS.2.lt⟩
      have hb2 := hbV.trans (hbc.mono hbV.size)
      refine hK.out _ _ hS2 (fun _ => ?_)
      clear hK K
      (try simp only [Act.put, List.setIfInBounds_toArray, List.set_cons_zero, List.set_cons_succ])
      revert hS2 hb2
      clear hbV hbc hS
      generalize W2 = V
      intro hS hbV
      refine wpAnyH_ready (rs := [3]) (by kernel_rfl) (by simp) ?_
      refine AllReadyH.cons (o := { dst := some 34, op := .call { callee := .value (.func 141), args := #[.tmp 33], argTypes := #[185] }, type := _, pos := _, after := _, guard := none }) rfl (fun K hK => ?_) AllReadyH.nil
      go_simp
      refine (HN2.out V).mono ?_
      rintro e W2 ⟨rfl, hbc⟩
      have hS2 : Nb .u8 185 W2 w.heap.size Z ∧ Nb .u8 185 W2 (w.heap.size + 1) D := ⟨hS.1.below hbc hS.1.lt, hS.2.below hbc hS.2.lt⟩
      have hb2 := hbV.trans (hbc.mono hbV.size)
      refine hK.out _ _ hS2 (fun _ => ?_)
      clear hK K
      (try simp only [Act.put, List.setIfInBounds_toArray, List.set_cons_zero, List.set_cons_succ])
      revert hS2 hb2
      clear hbV hbc hS
      generalize W2 = V
      intro hS hbV
      refine wpAnyH_take (i := 4) (oi := { dst := some 35, op := .build 191 #[(0, .const (.bool true)), (1, .tmp 32), (2, .tmp 34)], type := _, pos := _, after := _, guard := none }) (v := .agg C) rfl (by kernel_rfl) (by kernel_rfl) (by kernel_rfl) (fun _ _ _ h => h) (Or.inl ⟨by rfl, by intro x _; exact exec_buildM _ _ rfl _ (by simp [Act.eval]) _ hbl⟩) hS ?_
      (try simp only [Act.put, List.setIfInBounds_toArray, List.set_cons_zero, List.set_cons_succ])
      refine wpAnyH_ready (rs := [5]) (by kernel_rfl) (by simp) ?_
      refine AllReadyH.cons (o := { dst := some 36, op := .box 191 (.tmp 35), type := _, pos := _, after := _, guard := none }) rfl (fun K hK => ?_) AllReadyH.nil
      go_simp
      have hS2 : Nb .u8 185 (V.alloc (.cells C 191)) w.heap.size Z ∧ Nb .u8 185 (V.alloc (.cells C 191)) (w.heap.size + 1) D := ⟨hS.1.alloc _, hS.2.alloc _⟩
      have hb2 := hbV.alloc hbV.size (.cells C 191)
      have hM := HMC.out V
      have hpg := hbV.size
      refine hK.out _ _ hS2 (fun _ => ?_)
      clear hK K
      (try simp only [Act.put, List.setIfInBounds_toArray, List.set_cons_zero, List.set_cons_succ])
      revert hM hS2 hb2 hpg
      generalize V.alloc (.cells C 191) = V2
      generalize V.heap.size = pg
      intro hS hbV hM hpg
      refine wpAnyH_take (i := 6) (oi := { dst := some 2, op := .assign (.tmp 36), type := _, pos := _, after := _, guard := none }) (v := .pointer (some ⟨pg, 0, none⟩)) rfl (by kernel_rfl) (by kernel_rfl) (by kernel_rfl) (fun _ _ _ h => h) (Or.inl ⟨by rfl, by intro x _; go_simp⟩) hS ?_
      (try simp only [Act.put, List.setIfInBounds_toArray, List.set_cons_zero, List.set_cons_succ])
      refine wpAnyH_take (i := 7) (oi := { dst := some 3, op := .assign (.const (.int .i64 0)), type := _, pos := _, after := _, guard := none }) (v := .int .i64 0) rfl (by kernel_rfl) (by kernel_rfl) (by kernel_rfl) (fun _ _ _ h => h) (Or.inl ⟨by rfl, by intro x _; go_simp⟩) hS ?_
      (try simp only [Act.put, List.setIfInBounds_toArray, List.set_cons_zero, List.set_cons_succ])
      refine wpAnyH_done (by kernel_rfl) ?_ _
      go_wp2
      go_ret2
      exact ⟨⟨pg, rfl, hpg, hM⟩, hbV⟩
end Go.Proofs.YtengclnahppmhaaGreatDoor.Pol

namespace Go.Proofs.YtengclnahppmhaaGreatDoor.Pol
open Go.RowKit Go.Lib Go.Deep

theorem write_any {w : World} {p r s : Nat} {l : List UInt8} (hM : Mac w p r s l) (hr : r < 1361129467683753853853498429727072845824) (data : ByteArray) (h63 : data.size ≤ 9223372036854775807) :
    Calls Tryz.prog 123 #[.pointer (some ⟨p, 0, none⟩), .string data] w fun e w' => e = .returned (.int .i64 0) ∧ Mac w' p r s (l ++ data.data.toList) ∧ Only [p] w w' := by
  have hth := mthere_yes hM.made
  have htk := take_any p r s l data w hM hr h63
  clear hM
  go_enter Tryz.func123, Tryz.ntmps123
  go_wp2_with fail
  refine hth.mono ?_
  rintro e w' ⟨rfl, rfl⟩
  go_wp2_with fail
  refine htk.mono ?_
  rintro e w1 ⟨rfl, h1, h2⟩
  clear htk hth
  go_wp2
  go_ret
  exact ⟨rfl, h1, h2⟩
theorem write_nil (data : ByteArray) (w : World) : Calls Tryz.prog 123 #[.pointer none, .string data] w fun e w' => e = .returned (.int .i64 2) ∧ w = w' := by
  have hth := mthere_no w
  go_enter Tryz.func123, Tryz.ntmps123
  go_wp2_with fail
  refine hth.mono ?_
  rintro e w' ⟨rfl, rfl⟩
  go_wp2
  go_ret
  exact ⟨rfl, rfl⟩
theorem sum_nil (w : World) : Calls Tryz.prog 126 #[.pointer none] w fun e w' => e = .returned (.string (str [])) ∧ w = w' := by
  have hth := mthere_no w
  go_enter Tryz.func126, Tryz.ntmps126
  go_wp2_with fail
  refine hth.mono ?_
  rintro e w' ⟨rfl, rfl⟩
  go_wp2
  go_ret
  exact ⟨rfl, rfl⟩

end Go.Proofs.YtengclnahppmhaaGreatDoor.Pol
