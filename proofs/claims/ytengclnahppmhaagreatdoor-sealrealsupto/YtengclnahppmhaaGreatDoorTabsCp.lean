import Derived.Test.YtengclnahppmhaaGreatDoorTabsC
namespace Go.Proofs.YtengclnahppmhaaGreatDoor.Cha
open Go.ChangeShapes Go.WideShapes Go.ChangeAt Go.RowKit

/-- the reference's table -/
structure PTabs (w : World) : Prop where
  pl : w.rangeAt 1 0 (i64L plc)
theorem PTabs.kept {w w' : World} (h : PTabs w) (hb : ∀ k, k < 8 → w'.heap[k]? = w.heap[k]?) : PTabs w' := by
  constructor
  intro j v hv
  rw [World.cell?_of_block (hb 1 (by omega))]
  exact h.pl j v hv
theorem PTabs.below {w w' : World} {B : Nat} (h : PTabs w) (hb : Below B w w') (hB : 8 ≤ B) : PTabs w' := h.kept fun k hk => hb.block k (by omega)

def nPlaces : String := (Rows.sealIdealsRow.named[2]?).getD default
theorem gPlaces : Tryz.prog.globalNamed nPlaces = some 1 := by kernel_rfl
theorem gPlacesT : (Tryz.prog.globals[1]?).map (·.type) = some 152 := by kernel_rfl
theorem cells32i : Tryz.prog.cellsOf 152 = 32 := by kernel_rfl

theorem range_places {W : World} (h0 : laidMetH Tryz.prog [(nPlaces, Rows.laid_casket_casketref4_places)] W) : W.rangeAt 1 0 (i64L plc) := by
  have h3 : Lib.TabIs Tryz.prog W nPlaces .i64 (ints plc) :=
    Lib.tabIs_of_head (rest := []) gPlaces gPlacesT Tryz.underlying152 Tryz.underlying3 cells1i cells32i h0
  intro j v hv
  have hj : j < plc.length := by
    have := (List.getElem?_eq_some_iff.1 hv).1
    rwa [i64L_length] at this
  rw [i64L_at plc j hj] at hv
  have := h3.cell gPlaces j (by simpa [ints] using hj)
  rw [ints_getD] at this
  rw [Nat.zero_add, this]
  exact hv

theorem tabs_of_laid3 {W : World} (h : laidMetH Tryz.prog [(nPlaces, Rows.laid_casket_casketref4_places), (nFirst, Rows.laid_casket_chacha_firstWords), (nDouble, Rows.laid_casket_chacha_doubleRound)] W) : CTabs W ∧ PTabs W := by
  have h0 : laidMetH Tryz.prog [(nPlaces, Rows.laid_casket_casketref4_places)] W := by
    have e : ([(nPlaces, Rows.laid_casket_casketref4_places), (nFirst, Rows.laid_casket_chacha_firstWords), (nDouble, Rows.laid_casket_chacha_doubleRound)] : List (String × DataW Unit)).filter (fun x => x.1 == nPlaces) = [(nPlaces, Rows.laid_casket_casketref4_places)] := by kernel_rfl
    have := h.filter fun x => x.1 == nPlaces
    rwa [e] at this
  have h1 : laidMetH Tryz.prog [(nFirst, Rows.laid_casket_chacha_firstWords)] W := by
    have e : ([(nPlaces, Rows.laid_casket_casketref4_places), (nFirst, Rows.laid_casket_chacha_firstWords), (nDouble, Rows.laid_casket_chacha_doubleRound)] : List (String × DataW Unit)).filter (fun x => x.1 == nFirst) = [(nFirst, Rows.laid_casket_chacha_firstWords)] := by kernel_rfl
    have := h.filter fun x => x.1 == nFirst
    rwa [e] at this
  have h2 : laidMetH Tryz.prog [(nDouble, Rows.laid_casket_chacha_doubleRound)] W := by
    have e : ([(nPlaces, Rows.laid_casket_casketref4_places), (nFirst, Rows.laid_casket_chacha_firstWords), (nDouble, Rows.laid_casket_chacha_doubleRound)] : List (String × DataW Unit)).filter (fun x => x.1 == nDouble) = [(nDouble, Rows.laid_casket_chacha_doubleRound)] := by kernel_rfl
    have := h.filter fun x => x.1 == nDouble
    rwa [e] at this
  refine ⟨⟨range_first h1, range_double h2⟩, ⟨?_⟩⟩
  have h3 : Lib.TabIs Tryz.prog W nPlaces .i64 (ints plc) :=
    Lib.tabIs_of_head (rest := []) gPlaces gPlacesT Tryz.underlying152 Tryz.underlying3 cells1i cells32i h0
  intro j v hv
  have hj : j < plc.length := by
    have := (List.getElem?_eq_some_iff.1 hv).1
    rwa [i64L_length] at this
  rw [i64L_at plc j hj] at hv
  have := h3.cell gPlaces j (by simpa [ints] using hj)
  rw [ints_getD] at this
  rw [Nat.zero_add, this]
  exact hv

end Go.Proofs.YtengclnahppmhaaGreatDoor.Cha
