import Derived.Test.YtengclnahppmhaaGreatDoorTabsC
import Derived.Test.YtengclnahppmhaaGreatDoorTabsP
import Derived.Test.YtengclnahppmhaaGreatDoorAeZ
namespace Go.Proofs.YtengclnahppmhaaGreatDoor.Ae
open Go.ChangeShapes Go.WideShapes Go.ChangeAt Go.RowKit

/-- the tables out of what a row lays -/
theorem tabs6 {W : World} {L : List (String × DataW Unit)} (h : laidMetH Tryz.prog L W)
    (e1 : L.filter (fun x => x.1 == Cha.nFirst) = [(Cha.nFirst, Rows.laid_casket_chacha_firstWords)]) (e2 : L.filter (fun x => x.1 == Cha.nDouble) = [(Cha.nDouble, Rows.laid_casket_chacha_doubleRound)])
    (e3 : L.filter (fun x => x.1 == Pol.nKept) = [(Pol.nKept, Rows.laid_casket_poly_kept)]) (hS : W.ShapedOpen Tryz.prog) : ATabs W := by
  have h1 := h.filter fun x => x.1 == Cha.nFirst
  have h2 := h.filter fun x => x.1 == Cha.nDouble
  have h3 := h.filter fun x => x.1 == Pol.nKept
  rw [e1] at h1
  rw [e2] at h2
  rw [e3] at h3
  exact ⟨⟨Cha.range_first h1, Cha.range_double h2⟩, Pol.ktab_of_laid h3, Cha.three_le hS⟩
end Go.Proofs.YtengclnahppmhaaGreatDoor.Ae
