import Derived.Test.YtbjiamaaocjbfaaGreatDoorTabsD
import Derived.Test.YtbjiamaaocjbfaaGreatDoorTabsA
import Derived.Test.YtbjiamaaocjbfaaGreatDoorCaM
import Derived.Test.YtbjiamaaocjbfaaGreatDoorTabsI
namespace Go.Proofs.YtbjiamaaocjbfaaGreatDoor.Kp
open Go.ChangeShapes Go.WideShapes Go.ChangeAt Go.RowKit

/-- the tables out of what a row lays -/
theorem kt_of_laid {W : World} {L : List (String × DataW Unit)} (h : laidMetH Tryz.prog L W)
    (e1 : L.filter (fun x => x.1 == Cha.nFirst) = [(Cha.nFirst, Rows.laid_casket_chacha_firstWords)]) (e2 : L.filter (fun x => x.1 == Cha.nDouble) = [(Cha.nDouble, Rows.laid_casket_chacha_doubleRound)])
    (e3 : L.filter (fun x => x.1 == Pol.nKept) = [(Pol.nKept, Rows.laid_casket_poly_kept)]) (e4 : L.filter (fun x => x.1 == nFirst || x.1 == nStep) = [(nFirst, Rows.laid_casket_sha_firstWords), (nStep, Rows.laid_casket_sha_stepWords)])
    (e5 : L.filter (fun x => x.1 == nPow) = [(nPow, Rows.laid_internal_strconv_uint64pow10)]) (hS : W.ShapedOpen Tryz.prog) : KT W := by
  have h4 := h.filter fun x => x.1 == nFirst || x.1 == nStep
  have h5 := h.filter fun x => x.1 == nPow
  rw [e4] at h4
  rw [e5] at h5
  exact ⟨⟨tabs_of_laid h4, Ae.tabs6 h e1 e2 e3 hS, four_le hS⟩, itab_of_laid h5⟩

end Go.Proofs.YtbjiamaaocjbfaaGreatDoor.Kp
