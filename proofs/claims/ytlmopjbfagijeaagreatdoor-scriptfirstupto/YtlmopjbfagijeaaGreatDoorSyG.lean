import Derived.RangeFuncNested
import Derived.RangeFuncBound
import Derived.RangeFuncCalls
import Derived.RangeFuncLeaves
import Derived.Shelf.Abstract
import Derived.Shelf.RegionOpen
import Derived.WalkKit
import Derived.OwnWalkIn
import Derived.TacticsInMore
import Derived.LoopNIn
import Derived.LoopIn
import Derived.Test.YtlmopjbfagijeaaGreatDoorSyF
import Derived.Test.YtlmopjbfagijeaaGreatDoorYgM
namespace Go.Proofs.YtlmopjbfagijeaaGreatDoor.Sc
open Go.RowKit Go.Lib Go.Deep Go.Shelf

theorem chunk_any (a : Option Addr) (n c : Nat) (w : World) :
    Calls Tryz.prog 71 #[.slice a n c, .int .i64 64] w fun e w' => e = .returned (.func (.func 113) #[] #[.pointer (some ⟨w.heap.size, 0, none⟩), .pointer (some ⟨w.heap.size + 1, 0, none⟩)]) ∧ w' = (w.alloc (.cells #[.slice a n c] 51)).alloc (.cells #[.int .i64 64] 3) := by
  go_enter Tryz.func71, Tryz.ntmps71
  go_wp2
  go_ret
  exact ⟨rfl, rfl⟩
section
attribute [local go_sem] Oper.semAt_some
/-- the number of a piece of n bytes -/
abbrev Pc (n : Nat) := { k : Nat // 64 * k < n }
/-- the pieces' numbers -/
def pcs {n : Nat} (ys : List (Pc n)) : List Nat := ys.map Subtype.val
theorem pcs_snoc {n : Nat} (ys : List (Pc n)) (x : Pc n) : pcs (ys ++ [x]) = pcs ys ++ [x.1] := by simp only [pcs, List.map_append]; rfl
theorem pcs_len {n : Nat} (ys : List (Pc n)) : (pcs ys).length = ys.length := List.length_map _
def pcN (n k : Nat) : Nat := min 64 (n - 64 * k)
def pcV (b n : Nat) (x : Pc n) : Array Value := #[.slice (some ⟨b, 64 * x.1, none⟩) (pcN n x.1) (pcN n x.1)]
set_option maxRecDepth 100000 in
set_option maxHeartbeats 2000000 in
theorem chunk1_in (F : Fence) (m : Nat) (hf : F.fn 113) (hro : F.round = none) (hm : 1 ≤ m) (l p q n₀ b0 b n c : Nat) (hnc : n ≤ c) (hn : n ≤ 140737488355328) (hp : p < n₀) (hq : q < n₀) (hpb : p ≠ b0) (hqb : q ≠ b0) (J Jx : List (Pc n) → World → Prop)
    (hY : ∀ pre x W, J pre W → pre.length < n → YieldAt F (m - 1) Tryz.prog l (pcV b n x) W fun e W' =>
      (e = .returned (.bool true) ∧ J (pre ++ [x]) W' ∧ KeR n₀ b0 W W') ∨ (e = .returned (.bool false) ∧ Jx (pre ++ [x]) W'))
    (W : World) (hnW : n₀ ≤ W.heap.size) (hJd : ∀ pre U, J pre U → J pre U.drew) (h1 : W.heap[p]? = some (.cells #[.slice (some ⟨b, 0, none⟩) n c] 51 (0, 0))) (h2 : W.heap[q]? = some (.cells #[.int .i64 64] 3 (0, 0))) (h0 : J [] W) :
    CallsIn F m Tryz.prog 113 #[.func (.yield l) #[] #[], .pointer (some ⟨p, 0, none⟩), .pointer (some ⟨q, 0, none⟩)] W fun e W' => (∃ v, e = .returned v) ∧
      ((∃ ys : List (Pc n), pcs ys = List.range ((n + 63) / 64) ∧ J ys W') ∨ (∃ pre, True ∧ Jx pre W')) := by
  refine callsIn_of_wp Tryz.func113 rfl hf ?_ hro
  simp only [Tryz.ntmps113, List.size_toArray, List.length_cons, List.length_nil, Nat.reduceAdd, Nat.reduceSub, Array.replicate_succ, Array.replicate_zero, List.push_toArray, List.append_toArray, List.nil_append, List.cons_append]
  gi_wp2
  gi_loopw [4] (fun i wr => ∃ (k : Nat) (pre : List (Pc n)), i = .int .i64 ((64 * k : Nat) : Int) ∧ 64 * k < n + 64 ∧ pcs pre = List.range k ∧ J pre wr ∧ KeR n₀ b0 W wr)
    (fun i _ => n + 64 - (RowKit.intOf i).toNat)
  case atStart => exact ⟨0, [], rfl, by omega, rfl, h0, KeR.refl _ _ _⟩
  case round =>
    obtain ⟨k, pre, rfl, hk, hpre, hJs, hkp⟩ := hrel
    have e1 : wr.heap[p]? = some (.cells #[.slice (some ⟨b, 0, none⟩) n c] 51 (0, 0)) := (hkp.2 p hp hpb hnW).trans h1
    have e2 : wr.heap[q]? = some (.cells #[.int .i64 64] 3 (0, 0)) := (hkp.2 q hq hqb hnW).trans h2
    have c1 : wr.cell? ⟨p, 0, none⟩ = some (.slice (some ⟨b, 0, none⟩) n c) := by rw [Lib.cell_of_heap e1]; rfl
    have c2 : wr.cell? ⟨q, 0, none⟩ = some (.int .i64 64) := by rw [Lib.cell_of_heap e2]; rfl
    have hpl : pre.length = k := by have := congrArg List.length hpre; rw [pcs_len, List.length_range] at this; exact this
    by_cases hlt : 64 * k < n
    · have hltI : ((64 * k : Nat) : Int) < (n : Int) := by omega
      obtain ⟨e, he⟩ : ∃ e, pcN n k = e := ⟨_, rfl⟩
      obtain ⟨fn, tmps, assign, body, hy, hR⟩ := hY pre ⟨k, hlt⟩ wr.drew (hJd pre wr hJs) (by omega)
      simp only [pcV, he] at hy
      have hen : e = min 64 (n - 64 * k) := he.symm
      have hmin : min (64 : Int) ((n - 64 * k : Nat) : Int) = ((e : Nat) : Int) := by omega
      have hto : ((64 : Int) * (k : Int) + (e : Int)).toNat - 64 * k = e := by omega
      have hle1 : e ≤ 64 := by omega
      have hle2 : 64 * k + e ≤ n := by omega
      clear hen he
      have hfol : Tryz.prog.follows .mixedOrders = true := by kernel_rfl
      gi_wp2
      gi_region_o
      all_goals
        gi_wp2
        refine hR.mono ?_
        rintro e3 W3 (⟨rfl, hJ3, hk3⟩ | ⟨rfl, hJx3⟩)
        · have hk3 : KeR n₀ b0 W W3 := hkp.trans (KeR.trans (KeR.below (bd1 wr)) hk3)
          have g2 : W3.heap[q]? = some (.cells #[.int .i64 64] 3 (0, 0)) := (hk3.2 q hq hqb hnW).trans h2
          have d2 : W3.cell? ⟨q, 0, none⟩ = some (.int .i64 64) := by rw [Lib.cell_of_heap g2]; rfl
          gi_wp2
          go_roundw
          case rel => exact ⟨k + 1, pre ++ [⟨k, hlt⟩], by go_num, by omega, by rw [pcs_snoc, hpre, List.range_succ], hJ3, hk3⟩
          case measure => simp [RowKit.intOf]; omega
        · gi_wp2
          refine bodyPost_ret (results_none rfl _ _ _) rfl ?_
          exact ⟨⟨_, rfl⟩, .inr ⟨_, trivial, hJx3⟩⟩
    · have hltI : ¬ ((64 * k : Nat) : Int) < (n : Int) := by omega
      gi_wp2
      go_end0
      have hke : k = (n + 63) / 64 := by omega
      exact ⟨⟨_, rfl⟩, .inl ⟨pre, by rw [hpre, hke], hJs⟩⟩
end
end Go.Proofs.YtlmopjbfagijeaaGreatDoor.Sc
