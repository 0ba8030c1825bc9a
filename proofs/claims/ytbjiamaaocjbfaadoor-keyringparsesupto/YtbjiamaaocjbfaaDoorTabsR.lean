import Derived.Test.YtbjiamaaocjbfaaDoorTabsI
import Derived.Test.YtbjiamaaocjbfaaDoorTabsB
namespace Go.Proofs.YtbjiamaaocjbfaaDoor.Kp
open Go.ChangeShapes Go.WideShapes Go.ChangeAt Go.RowKit

/-- the tables out of what a row lays -/
theorem rt_of_laid {W : World} {L : List (String × DataW Unit)} (h : laidMetH Tryd.prog L W)
    (e4 : L.filter (fun x => x.1 == nRoots || x.1 == nPows || x.1 == nFirst || x.1 == nStep) = laid4)
    (e5 : L.filter (fun x => x.1 == nPow) = [(nPow, Rows.laid_internal_strconv_uint64pow10)]) : (Tabs W ∧ RTabs W) ∧ Kr.ITab W := by
  have h4 := h.filter fun x => x.1 == nRoots || x.1 == nPows || x.1 == nFirst || x.1 == nStep
  have h5 := h.filter fun x => x.1 == nPow
  rw [e4] at h4
  rw [e5] at h5
  exact ⟨tabs4 h4, itab_of_laid h5⟩

end Go.Proofs.YtbjiamaaocjbfaaDoor.Kp
