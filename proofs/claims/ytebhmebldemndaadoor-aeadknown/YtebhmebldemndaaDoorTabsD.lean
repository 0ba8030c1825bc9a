import Derived.Test.YtebhmebldemndaaDoorTabsC
import Derived.Test.YtebhmebldemndaaDoorTabsP
import Derived.Test.YtebhmebldemndaaDoorAe6A
namespace Go.Proofs.YtebhmebldemndaaDoor.Ae
open Go.ChangeShapes Go.WideShapes Go.ChangeAt Go.RowKit

/-- the tables out of what a row lays -/
theorem tabs6 {W : World} {L : List (String × DataW Unit)} (h : laidMetH Tryd.prog L W)
    (e1 : L.filter (fun x => x.1 == Cha.nFirst) = [(Cha.nFirst, Rows.laid_casket_chacha_firstWords)]) (e2 : L.filter (fun x => x.1 == Cha.nDouble) = [(Cha.nDouble, Rows.laid_casket_chacha_doubleRound)])
    (e3 : L.filter (fun x => x.1 == Pol.nKept) = [(Pol.nKept, Rows.laid_casket_poly_kept)]) (hS : W.ShapedOpen Tryd.prog) : ATabs W := by
  have h1 := h.filter fun x => x.1 == Cha.nFirst
  have h2 := h.filter fun x => x.1 == Cha.nDouble
  have h3 := h.filter fun x => x.1 == Pol.nKept
  rw [e1] at h1
  rw [e2] at h2
  rw [e3] at h3
  exact ⟨⟨Cha.range_first h1, Cha.range_double h2⟩, Pol.ktab_of_laid h3, Cha.three_le hS⟩
theorem ptabs6 {W : World} {L : List (String × DataW Unit)} (h : laidMetH Tryd.prog L W) (e1 : L.filter (fun x => x.1 == Cha.nPlaces) = [(Cha.nPlaces, Rows.laid_casket_casketref4_places)]) : Cha.PTabs W := by
  have h1 := h.filter fun x => x.1 == Cha.nPlaces
  rw [e1] at h1
  exact ⟨Cha.range_places h1⟩

end Go.Proofs.YtebhmebldemndaaDoor.Ae
