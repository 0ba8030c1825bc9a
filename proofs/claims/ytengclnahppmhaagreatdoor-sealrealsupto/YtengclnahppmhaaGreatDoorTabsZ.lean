import Derived.Test.YtengclnahppmhaaGreatDoorTabsS
import Derived.Test.YtengclnahppmhaaGreatDoorTabsB
import Derived.Test.YtengclnahppmhaaGreatDoorTabsDp
namespace Go.Proofs.YtengclnahppmhaaGreatDoor.Sr
open Go.ChangeShapes Go.WideShapes Go.ChangeAt Go.RowKit

/-- the tables out of what a row lays -/
theorem zt_of_laid {W : World} {L : List (String × DataW Unit)} (h : laidMetH Tryz.prog L W)
    (e1 : L.filter (fun x => x.1 == Cha.nFirst) = [(Cha.nFirst, Rows.laid_casket_chacha_firstWords)]) (e2 : L.filter (fun x => x.1 == Cha.nDouble) = [(Cha.nDouble, Rows.laid_casket_chacha_doubleRound)])
    (e3 : L.filter (fun x => x.1 == Pol.nKept) = [(Pol.nKept, Rows.laid_casket_poly_kept)]) (e4 : L.filter (fun x => x.1 == nFirst || x.1 == nStep) = [(nFirst, Rows.laid_casket_sha_firstWords), (nStep, Rows.laid_casket_sha_stepWords)])
    (e5 : L.filter (fun x => x.1 == nRoots) = [(nRoots, Rows.laid_casket_casketref2_roots)]) (e6 : L.filter (fun x => x.1 == nPows) = [(nPows, Rows.laid_casket_casketref2_powers)]) (e7 : L.filter (fun x => x.1 == Cha.nPlaces) = [(Cha.nPlaces, Rows.laid_casket_casketref4_places)])
    (hS : W.ShapedOpen Tryz.prog) : (Tabs W ∧ Ae.ATabs W ∧ 8 ≤ W.heap.size) ∧ RTabs W ∧ Cha.PTabs W := by
  have h5 := h.filter fun x => x.1 == nRoots
  have h6 := h.filter fun x => x.1 == nPows
  rw [e5] at h5
  rw [e6] at h6
  have g5 : Lib.TabIs Tryz.prog W nRoots .i64 (ints kk) := Lib.tabIs_of_head (rest := []) gRoots gRootsT Tryz.underlying197 Tryz.underlying3 cellsI cellsR h5
  have g6 : Lib.TabIs Tryz.prog W nPows .i64 (ints pows) := Lib.tabIs_of_head (rest := []) gPows gPowsT Tryz.underlying212 Tryz.underlying3 cellsI cellsP h6
  exact ⟨Rs.st_of_laid h e1 e2 e3 e4 hS, ⟨irange_of_tab g5 gRoots, irange_of_tab g6 gPows⟩, Ae.ptabs6 h e7⟩

end Go.Proofs.YtengclnahppmhaaGreatDoor.Sr
