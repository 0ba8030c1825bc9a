import Derived.Test.YtengclnahppmhaaGreatDoorCards
import Derived.Test.YtengclnahppmhaaGreatDoorTie
import Derived.Test.YtengclnahppmhaaGreatDoorShM1
import Derived.WalkKit
import Derived.ProofKit
import Derived.OpenShut
import Derived.LaidSub
import Derived.Deep.DeepHandedRow
import Derived.Lib.LaidTab
namespace Go.Proofs.YtengclnahppmhaaGreatDoor
open Go.ChangeShapes Go.WideShapes Go.ChangeAt Go.RowKit

def nFirst : String := (Rows.sealRealsRow.named[0]?).getD default
def nStep : String := (Rows.sealRealsRow.named[1]?).getD default
theorem gFirst : Tryz.prog.globalNamed nFirst = some 0 := by kernel_rfl
theorem gFirstT : (Tryz.prog.globals[0]?).map (·.type) = some 143 := by kernel_rfl
theorem gStep : Tryz.prog.globalNamed nStep = some 2 := by kernel_rfl
theorem gStepT : (Tryz.prog.globals[2]?).map (·.type) = some 172 := by kernel_rfl
theorem cellsW : Tryz.prog.cellsOf 143 = 8 := by kernel_rfl
theorem cellsS : Tryz.prog.cellsOf 172 = 64 := by kernel_rfl
theorem cellsU : Tryz.prog.cellsOf 141 = 1 := by kernel_rfl

def ints (l : List Nat) : List Int := l.map fun (n : Nat) => (n : Int)
theorem ints_getD (l : List Nat) (i : Nat) : (ints l).getD i 0 = ((l.getD i 0 : Nat) : Int) := by
  unfold ints
  rw [List.getD_eq_getElem?_getD, List.getD_eq_getElem?_getD, List.getElem?_map]
  cases l[i]? <;> simp

theorem range_of_tab {W : World} {name : String} {g : Nat} {l : List Nat} (h : Lib.TabIs Tryz.prog W name .u32 (ints l)) (hg : Tryz.prog.globalNamed name = some g) : W.rangeAt g 0 (u32L l) := by
  intro j v hv
  have hj : j < l.length := by
    have := (List.getElem?_eq_some_iff.1 hv).1
    simpa [u32L] using this
  rw [u32L_at l j hj] at hv
  have := h.cell hg j (by simpa [ints] using hj)
  rw [ints_getD] at this
  rw [Nat.zero_add, this]
  exact hv

theorem tabs_of_laid {W : World} (h : laidMetH Tryz.prog [(nFirst, Rows.laid_casket_sha_firstWords), (nStep, Rows.laid_casket_sha_stepWords)] W) : Tabs W := by
  have h1 : Lib.TabIs Tryz.prog W nFirst .u32 (ints first.list) :=
    Lib.tabIs_of_head (rest := [(nStep, Rows.laid_casket_sha_stepWords)]) gFirst gFirstT Tryz.underlying143 Tryz.underlying141 cellsU cellsW h
  have h' : laidMetH Tryz.prog [(nStep, Rows.laid_casket_sha_stepWords)] W := by
    have e : ([(nFirst, Rows.laid_casket_sha_firstWords), (nStep, Rows.laid_casket_sha_stepWords)] : List (String × DataW Unit)).filter (fun x => x.1 == nStep) = [(nStep, Rows.laid_casket_sha_stepWords)] := by kernel_rfl
    have := h.filter fun x => x.1 == nStep
    rwa [e] at this
  have h2 : Lib.TabIs Tryz.prog W nStep .u32 (ints kk) :=
    Lib.tabIs_of_head (rest := []) gStep gStepT Tryz.underlying172 Tryz.underlying141 cellsU cellsS h'
  exact ⟨range_of_tab h1 gFirst, range_of_tab h2 gStep⟩

theorem four_le {W : World} (h : W.ShapedOpen Tryz.prog) : 8 ≤ W.heap.size := by
  have h3 : ((((begin Tryz.prog (fun _ _ => 0) default).world.heap[7]?).bind Obj.row?).isSome) = true := by kernel_rfl
  obtain ⟨⟨z, t⟩, hz⟩ := Option.isSome_iff_exists.1 h3
  have hg : 7 < Tryz.prog.globals.size := of_decide_eq_true (by kernel_rfl)
  obtain ⟨cs, hc, _⟩ := h.1 7 z t hg hz
  have := (Array.getElem?_eq_some_iff.1 hc).1
  omega

/-- a variable's cells, as its initialiser lays them -/
def lay (cs : Array Value) : Obj → Obj
  | .cells _ t frozen => .cells cs t frozen
  | o => o

end Go.Proofs.YtengclnahppmhaaGreatDoor
