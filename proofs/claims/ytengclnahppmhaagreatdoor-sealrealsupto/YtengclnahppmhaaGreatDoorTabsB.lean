import Derived.Test.YtengclnahppmhaaGreatDoorTabsA
import Derived.Test.YtengclnahppmhaaGreatDoorRfM1
namespace Go.Proofs.YtengclnahppmhaaGreatDoor
open Go.ChangeShapes Go.WideShapes Go.ChangeAt Go.RowKit

def nRoots : String := (Rows.sealIdealsRow.named[0]?).getD default
def nPows : String := (Rows.sealIdealsRow.named[1]?).getD default
def laid4 : List (String × DataW Unit) := [(nRoots, Rows.laid_casket_casketref2_roots), (nPows, Rows.laid_casket_casketref2_powers), (nFirst, Rows.laid_casket_sha_firstWords), (nStep, Rows.laid_casket_sha_stepWords)]
theorem gRoots : Tryz.prog.globalNamed nRoots = some 4 := by kernel_rfl
theorem gRootsT : (Tryz.prog.globals[4]?).map (·.type) = some 197 := by kernel_rfl
theorem gPows : Tryz.prog.globalNamed nPows = some 7 := by kernel_rfl
theorem gPowsT : (Tryz.prog.globals[7]?).map (·.type) = some 212 := by kernel_rfl
theorem cellsR : Tryz.prog.cellsOf 197 = 64 := by kernel_rfl
theorem cellsP : Tryz.prog.cellsOf 212 = 33 := by kernel_rfl
theorem cellsI : Tryz.prog.cellsOf 3 = 1 := by kernel_rfl

theorem irange_of_tab {W : World} {name : String} {g : Nat} {l : List Nat} (h : Lib.TabIs Tryz.prog W name .i64 (ints l)) (hg : Tryz.prog.globalNamed name = some g) : W.rangeAt g 0 (i64L l) := by
  intro j v hv
  have hj : j < l.length := by
    have := (List.getElem?_eq_some_iff.1 hv).1
    simpa [i64L] using this
  rw [i64L_at l j hj] at hv
  have := h.cell hg j (by simpa [ints] using hj)
  rw [ints_getD] at this
  rw [Nat.zero_add, this]
  exact hv

theorem one_of {W : World} {n : String} {d : DataW Unit} (h : laidMetH Tryz.prog laid4 W) (e : laid4.filter (fun x => x.1 == n) = [(n, d)]) : laidMetH Tryz.prog [(n, d)] W := by
  have := h.filter fun x => x.1 == n
  rwa [e] at this

theorem tabs4 {W : World} (h : laidMetH Tryz.prog laid4 W) : Tabs W ∧ RTabs W := by
  have h1 : Lib.TabIs Tryz.prog W nFirst .u32 (ints first.list) := Lib.tabIs_of_head (rest := []) gFirst gFirstT Tryz.underlying143 Tryz.underlying141 cellsU cellsW (one_of (n := nFirst) (d := Rows.laid_casket_sha_firstWords) h (by kernel_rfl))
  have h2 : Lib.TabIs Tryz.prog W nStep .u32 (ints kk) := Lib.tabIs_of_head (rest := []) gStep gStepT Tryz.underlying172 Tryz.underlying141 cellsU cellsS (one_of (n := nStep) (d := Rows.laid_casket_sha_stepWords) h (by kernel_rfl))
  have h3 : Lib.TabIs Tryz.prog W nRoots .i64 (ints kk) := Lib.tabIs_of_head (rest := []) gRoots gRootsT Tryz.underlying197 Tryz.underlying3 cellsI cellsR (one_of (n := nRoots) (d := Rows.laid_casket_casketref2_roots) h (by kernel_rfl))
  have h4 : Lib.TabIs Tryz.prog W nPows .i64 (ints pows) := Lib.tabIs_of_head (rest := []) gPows gPowsT Tryz.underlying212 Tryz.underlying3 cellsI cellsP (one_of (n := nPows) (d := Rows.laid_casket_casketref2_powers) h (by kernel_rfl))
  exact ⟨⟨range_of_tab h1 gFirst, range_of_tab h2 gStep⟩, ⟨irange_of_tab h3 gRoots, irange_of_tab h4 gPows⟩⟩

end Go.Proofs.YtengclnahppmhaaGreatDoor
