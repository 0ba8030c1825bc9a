import Derived.Test.YtengclnahppmhaaGreatDoorTabsD
import Derived.Test.YtengclnahppmhaaGreatDoorTabsCp
namespace Go.Proofs.YtengclnahppmhaaGreatDoor.Ae
open Go.ChangeShapes Go.WideShapes Go.ChangeAt Go.RowKit

theorem ptabs6 {W : World} {L : List (String × DataW Unit)} (h : laidMetH Tryz.prog L W) (e1 : L.filter (fun x => x.1 == Cha.nPlaces) = [(Cha.nPlaces, Rows.laid_casket_casketref4_places)]) : Cha.PTabs W := by
  have h1 := h.filter fun x => x.1 == Cha.nPlaces
  rw [e1] at h1
  exact ⟨Cha.range_places h1⟩

end Go.Proofs.YtengclnahppmhaaGreatDoor.Ae
