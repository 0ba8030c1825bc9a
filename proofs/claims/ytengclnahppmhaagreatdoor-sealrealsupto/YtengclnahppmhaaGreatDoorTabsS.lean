import Derived.Test.YtengclnahppmhaaGreatDoorTabsD
import Derived.Test.YtengclnahppmhaaGreatDoorTabsA
namespace Go.Proofs.YtengclnahppmhaaGreatDoor.Rs
open Go.ChangeShapes Go.WideShapes Go.ChangeAt Go.RowKit

/-- the tables out of what a row lays -/
theorem st_of_laid {W : World} {L : List (String × DataW Unit)} (h : laidMetH Tryz.prog L W)
    (e1 : L.filter (fun x => x.1 == Cha.nFirst) = [(Cha.nFirst, Rows.laid_casket_chacha_firstWords)]) (e2 : L.filter (fun x => x.1 == Cha.nDouble) = [(Cha.nDouble, Rows.laid_casket_chacha_doubleRound)])
    (e3 : L.filter (fun x => x.1 == Pol.nKept) = [(Pol.nKept, Rows.laid_casket_poly_kept)]) (e4 : L.filter (fun x => x.1 == nFirst || x.1 == nStep) = [(nFirst, Rows.laid_casket_sha_firstWords), (nStep, Rows.laid_casket_sha_stepWords)])
    (hS : W.ShapedOpen Tryz.prog) : Tabs W ∧ Ae.ATabs W ∧ 8 ≤ W.heap.size := by
  have h4 := h.filter fun x => x.1 == nFirst || x.1 == nStep
  rw [e4] at h4
  exact ⟨tabs_of_laid h4, Ae.tabs6 h e1 e2 e3 hS, four_le hS⟩

end Go.Proofs.YtengclnahppmhaaGreatDoor.Rs
