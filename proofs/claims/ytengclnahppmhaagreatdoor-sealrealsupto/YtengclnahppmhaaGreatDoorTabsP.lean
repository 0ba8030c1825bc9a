import Derived.Test.YtengclnahppmhaaGreatDoorCards
import Derived.Test.YtengclnahppmhaaGreatDoorTie
import Derived.Test.YtengclnahppmhaaGreatDoorMacM
import Derived.WalkKit
import Derived.ProofKit
import Derived.OpenShut
import Derived.LaidSub
import Derived.Deep.DeepHandedRow
import Derived.Lib.LaidTab
namespace Go.Proofs.YtengclnahppmhaaGreatDoor.Pol
open Go.ChangeShapes Go.WideShapes Go.ChangeAt Go.RowKit

def ints (l : List Nat) : List Int := l.map fun (n : Nat) => (n : Int)
theorem ints_getD (l : List Nat) (i : Nat) : (ints l).getD i 0 = ((l.getD i 0 : Nat) : Int) := by
  unfold ints
  rw [List.getD_eq_getElem?_getD, List.getD_eq_getElem?_getD, List.getElem?_map]
  cases l[i]? <;> simp

def nKept : String := (Rows.sealIdealsRow.named[5]?).getD default
theorem gKept : Tryz.prog.globalNamed nKept = some 3 := by kernel_rfl
theorem gKeptT : (Tryz.prog.globals[3]?).map (·.type) = some 186 := by kernel_rfl
theorem cells16u : Tryz.prog.cellsOf 186 = 16 := by kernel_rfl
theorem cells1b : Tryz.prog.cellsOf 5 = 1 := by kernel_rfl

theorem ktab_of_laid {W : World} (h : laidMetH Tryz.prog [(nKept, Rows.laid_casket_poly_kept)] W) : KTab W := by
  have h1 : Lib.TabIs Tryz.prog W nKept .u8 (ints (nat8 keptL)) :=
    Lib.tabIs_of_head (rest := []) gKept gKeptT Tryz.underlying186 Tryz.underlying5 cells1b cells16u h
  refine ⟨fun j v hv => ?_⟩
  have hj : j < (nat8 keptL).length := by
    have := (List.getElem?_eq_some_iff.1 hv).1
    rwa [nsL_length] at this
  have hv' : (nsL .u8 (nat8 keptL))[j]? = some (.int .u8 (((nat8 keptL).getD j 0 : Nat) : Int)) := by simp [nsL, List.getD_eq_getElem?_getD, hj]
  rw [hv'] at hv
  have := h1.cell gKept j (by simpa [ints] using hj)
  rw [ints_getD] at this
  rw [Nat.zero_add, this]
  exact hv

theorem one_le {W : World} (h : W.ShapedOpen Tryz.prog) : 3 < W.heap.size := by
  have h3 : ((((begin Tryz.prog (fun _ _ => 0) default).world.heap[7]?).bind Obj.row?).isSome) = true := by kernel_rfl
  obtain ⟨⟨z, t⟩, hz⟩ := Option.isSome_iff_exists.1 h3
  have hg : 7 < Tryz.prog.globals.size := of_decide_eq_true (by kernel_rfl)
  obtain ⟨cs, hc, _⟩ := h.1 7 z t hg hz
  have := (Array.getElem?_eq_some_iff.1 hc).1
  omega

/-- a variable's cells, as its initialiser lays them -/
def lay (cs : Array Value) : Obj → Obj
  | .cells _ t frozen => .cells cs t frozen
  | o => o

end Go.Proofs.YtengclnahppmhaaGreatDoor.Pol
