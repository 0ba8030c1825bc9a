import Derived.Test.YtbjiamaaocjbfaaDoorTabsA
import Derived.Test.YtbjiamaaocjbfaaDoorRfM1
namespace Go.Proofs.YtbjiamaaocjbfaaDoor
open Go.ChangeShapes Go.WideShapes Go.ChangeAt Go.RowKit

def nRoots : String := (Rows.keyringPrintsRow.named[5]?).getD default
def nPows : String := (Rows.keyringPrintsRow.named[6]?).getD default
def laid4 : List (String × DataW Unit) := [(nRoots, Rows.laid_casket_casketref2_roots), (nPows, Rows.laid_casket_casketref2_powers), (nFirst, Rows.laid_casket_sha_firstWords), (nStep, Rows.laid_casket_sha_stepWords)]
theorem gRoots : Tryd.prog.globalNamed nRoots = some 2 := by kernel_rfl
theorem gRootsT : (Tryd.prog.globals[2]?).map (·.type) = some 115 := by kernel_rfl
theorem gPows : Tryd.prog.globalNamed nPows = some 4 := by kernel_rfl
theorem gPowsT : (Tryd.prog.globals[4]?).map (·.type) = some 138 := by kernel_rfl
theorem cellsR : Tryd.prog.cellsOf 115 = 64 := by kernel_rfl
theorem cellsP : Tryd.prog.cellsOf 138 = 33 := by kernel_rfl
theorem cellsI : Tryd.prog.cellsOf 3 = 1 := by kernel_rfl

theorem irange_of_tab {W : World} {name : String} {g : Nat} {l : List Nat} (h : Lib.TabIs Tryd.prog W name .i64 (ints l)) (hg : Tryd.prog.globalNamed name = some g) : W.rangeAt g 0 (i64L l) := by
  intro j v hv
  have hj : j < l.length := by
    have := (List.getElem?_eq_some_iff.1 hv).1
    simpa [i64L] using this
  rw [i64L_at l j hj] at hv
  have := h.cell hg j (by simpa [ints] using hj)
  rw [ints_getD] at this
  rw [Nat.zero_add, this]
  exact hv

theorem one_of {W : World} {n : String} {d : DataW Unit} (h : laidMetH Tryd.prog laid4 W) (e : laid4.filter (fun x => x.1 == n) = [(n, d)]) : laidMetH Tryd.prog [(n, d)] W := by
  have := h.filter fun x => x.1 == n
  rwa [e] at this

theorem tabs4 {W : World} (h : laidMetH Tryd.prog laid4 W) : Tabs W ∧ RTabs W := by
  have h1 : Lib.TabIs Tryd.prog W nFirst .u32 (ints first.list) := Lib.tabIs_of_head (rest := []) gFirst gFirstT Tryd.underlying89 Tryd.underlying87 cellsU cellsW (one_of (n := nFirst) (d := Rows.laid_casket_sha_firstWords) h (by kernel_rfl))
  have h2 : Lib.TabIs Tryd.prog W nStep .u32 (ints kk) := Lib.tabIs_of_head (rest := []) gStep gStepT Tryd.underlying111 Tryd.underlying87 cellsU cellsS (one_of (n := nStep) (d := Rows.laid_casket_sha_stepWords) h (by kernel_rfl))
  have h3 : Lib.TabIs Tryd.prog W nRoots .i64 (ints kk) := Lib.tabIs_of_head (rest := []) gRoots gRootsT Tryd.underlying115 Tryd.underlying3 cellsI cellsR (one_of (n := nRoots) (d := Rows.laid_casket_casketref2_roots) h (by kernel_rfl))
  have h4 : Lib.TabIs Tryd.prog W nPows .i64 (ints pows) := Lib.tabIs_of_head (rest := []) gPows gPowsT Tryd.underlying138 Tryd.underlying3 cellsI cellsP (one_of (n := nPows) (d := Rows.laid_casket_casketref2_powers) h (by kernel_rfl))
  exact ⟨⟨range_of_tab h1 gFirst, range_of_tab h2 gStep⟩, ⟨irange_of_tab h3 gRoots, irange_of_tab h4 gPows⟩⟩

end Go.Proofs.YtbjiamaaocjbfaaDoor
