import Derived.Test.YtebhmebldemndaaDoorCards
import Derived.Test.YtebhmebldemndaaDoorTie
import Derived.Test.YtebhmebldemndaaDoorChM1
import Derived.WalkKit
import Derived.ProofKit
import Derived.OpenShut
import Derived.LaidSub
import Derived.Deep.DeepHandedRow
import Derived.Lib.LaidTab
namespace Go.Proofs.YtebhmebldemndaaDoor.Cha
open Go.ChangeShapes Go.WideShapes Go.ChangeAt Go.RowKit

def ints (l : List Nat) : List Int := l.map fun (n : Nat) => (n : Int)
theorem ints_getD (l : List Nat) (i : Nat) : (ints l).getD i 0 = ((l.getD i 0 : Nat) : Int) := by
  unfold ints
  rw [List.getD_eq_getElem?_getD, List.getD_eq_getElem?_getD, List.getElem?_map]
  cases l[i]? <;> simp

/-- an array of arrays that reads as the rows holds their numbers, row for row -/
theorem cells_of_rows {H : Type} {enc : TypeId × Value → H} {P : Program} {w : World} {base : Nat} {sp : Nat → Bool} {held : Bool} {fuel : Nat} {t e e2 : TypeId} {n m : Nat} {k : IntKind} {cs : List Value} {rows : List (List Int)} {p : List MemPlace}
    (ht : P.underlying t = some (.array n e)) (he : P.underlying e = some (.array m e2)) (he2 : P.underlying e2 = some (.int k)) (hce2 : P.cellsOf e2 = 1) (hce : P.cellsOf e = m) (hct : P.cellsOf t = n * m)
    (h : DataW.trod enc P w base sp held fuel t cs = some (.agg (rows.map fun r => Lib.tabData k r), p)) : ∀ i r, rows[i]? = some r → i < n → (cs.drop (i * m)).take m = r.map fun z => Value.int k z := by
  cases fuel with
  | zero => simp [DataW.trod] at h
  | succ fuel =>
    simp only [DataW.trod, ht, hce, hct] at h
    split at h
    · obtain ⟨xs, hm, hx⟩ := Option.map_eq_some_iff.1 h
      have hxs : xs.map (·.1) = rows.map fun r => (Lib.tabData k r : DataW H) := by
        have := congrArg Prod.fst hx
        simpa using this
      intro i r hr hi
      obtain ⟨b, hb, hf⟩ := Lib.mapM_at hm i i (by simp [hi])
      have h2 : (xs.map (·.1))[i]? = some b.1 := by simp [hb]
      rw [hxs, List.getElem?_map, hr] at h2
      have h3 : b.1 = Lib.tabData k r := (Option.some.inj h2).symm
      obtain ⟨b1, b2⟩ := b
      dsimp only at h3
      subst h3
      exact Lib.cells_of_tab he he2 hce2 hce hf
    · cases h

def nFirst : String := (Rows.aeadLongRow.named[0]?).getD default
def nDouble : String := (Rows.aeadLongRow.named[1]?).getD default
theorem gFirst : Tryd.prog.globalNamed nFirst = some 1 := by kernel_rfl
theorem gFirstT : (Tryd.prog.globals[1]?).map (·.type) = some 90 := by kernel_rfl
theorem gDouble : Tryd.prog.globalNamed nDouble = some 2 := by kernel_rfl
theorem gDoubleT : (Tryd.prog.globals[2]?).map (·.type) = some 93 := by kernel_rfl
theorem cells4u : Tryd.prog.cellsOf 90 = 4 := by kernel_rfl
theorem cells1u : Tryd.prog.cellsOf 52 = 1 := by kernel_rfl
theorem cells1i : Tryd.prog.cellsOf 3 = 1 := by kernel_rfl
theorem cells4i : Tryd.prog.cellsOf 92 = 4 := by kernel_rfl
theorem cells8x4 : Tryd.prog.cellsOf 93 = 8 * 4 := by kernel_rfl

def rows8 : List (List Nat) := [[0, 4, 8, 12], [1, 5, 9, 13], [2, 6, 10, 14], [3, 7, 11, 15], [0, 5, 10, 15], [1, 6, 11, 12], [2, 7, 8, 13], [3, 4, 9, 14]]
theorem rows8_at : ∀ j, j < 32 → (rows8.getD (j / 4) [])[j % 4]? = plc[j]? := by decide

theorem range_first {W : World} (h : laidMetH Tryd.prog [(nFirst, Rows.laid_casket_chacha_firstWords)] W) : W.rangeAt 1 0 (u32L con4) := by
  have h1 : Lib.TabIs Tryd.prog W nFirst .u32 (ints con4) :=
    Lib.tabIs_of_head (rest := []) gFirst gFirstT Tryd.underlying90 Tryd.underlying52 cells1u cells4u h
  intro j v hv
  have hj : j < con4.length := by
    have := (List.getElem?_eq_some_iff.1 hv).1
    rwa [u32L_length] at this
  rw [u32L_at con4 j hj] at hv
  have := h1.cell gFirst j (by simpa [ints] using hj)
  rw [ints_getD] at this
  rw [Nat.zero_add, this]
  exact hv

theorem range_double {W : World} (h0 : laidMetH Tryd.prog [(nDouble, Rows.laid_casket_chacha_doubleRound)] W) : W.rangeAt 2 0 (i64L plc) := by
  have h : laidMet Tryd.prog [(nDouble, Rows.laid_casket_chacha_doubleRound)] W := h0
  obtain ⟨ps, ⟨g', t', cs, fuel, p, q, hg', ht', hvar, hd, _, _⟩, _⟩ := h
  obtain rfl := Option.some.inj (gDouble.symm.trans hg')
  obtain rfl := Option.some.inj (gDoubleT.symm.trans ht')
  have hr := cells_of_rows (rows := rows8.map ints) Tryd.underlying93 Tryd.underlying92 Tryd.underlying3 cells1i cells4i cells8x4 hd
  intro j v hv
  have hj : j < 32 := by
    have := (List.getElem?_eq_some_iff.1 hv).1
    rwa [i64L_length] at this
  have hlt : j / 4 < 8 := by omega
  have hi : rows8[j / 4]? = some (rows8.getD (j / 4) []) := by
    rw [List.getD_eq_getElem?_getD, List.getElem?_eq_getElem (by show j / 4 < 8; exact hlt)]
    rfl
  have h1 := hr (j / 4) (ints (rows8.getD (j / 4) [])) (by rw [List.getElem?_map, hi]; rfl) hlt
  have h2 : cs[j]? = ((ints (rows8.getD (j / 4) [])).map fun z => Value.int .i64 z)[j % 4]? := by
    rw [← h1, List.getElem?_take, if_pos (by omega), List.getElem?_drop, show j / 4 * 4 + j % 4 = j by omega, Array.getElem?_toList]
  have h3 : cs[j]? = (i64L plc)[j]? := by
    rw [h2, ints, List.map_map, List.getElem?_map, rows8_at j hj, i64L, List.getElem?_map]
    rfl
  have h4 := World.var?_cell gDouble hvar j
  rw [Nat.zero_add, h4, ← hv, ← h3]

theorem ctabs_of_laid {W : World} (h : laidMetH Tryd.prog [(nFirst, Rows.laid_casket_chacha_firstWords), (nDouble, Rows.laid_casket_chacha_doubleRound)] W) : CTabs W := by
  have h1 : laidMetH Tryd.prog [(nFirst, Rows.laid_casket_chacha_firstWords)] W := by
    have e : ([(nFirst, Rows.laid_casket_chacha_firstWords), (nDouble, Rows.laid_casket_chacha_doubleRound)] : List (String × DataW Unit)).filter (fun x => x.1 == nFirst) = [(nFirst, Rows.laid_casket_chacha_firstWords)] := by kernel_rfl
    have := h.filter fun x => x.1 == nFirst
    rwa [e] at this
  have h2 : laidMetH Tryd.prog [(nDouble, Rows.laid_casket_chacha_doubleRound)] W := by
    have e : ([(nFirst, Rows.laid_casket_chacha_firstWords), (nDouble, Rows.laid_casket_chacha_doubleRound)] : List (String × DataW Unit)).filter (fun x => x.1 == nDouble) = [(nDouble, Rows.laid_casket_chacha_doubleRound)] := by kernel_rfl
    have := h.filter fun x => x.1 == nDouble
    rwa [e] at this
  exact ⟨range_first h1, range_double h2⟩

/-- the reference's table -/
structure PTabs (w : World) : Prop where
  pl : w.rangeAt 3 0 (i64L plc)
theorem PTabs.kept {w w' : World} (h : PTabs w) (hb : ∀ k, k < 4 → w'.heap[k]? = w.heap[k]?) : PTabs w' := by
  constructor
  intro j v hv
  rw [World.cell?_of_block (hb 3 (by omega))]
  exact h.pl j v hv
theorem PTabs.below {w w' : World} {B : Nat} (h : PTabs w) (hb : Below B w w') (hB : 4 ≤ B) : PTabs w' := h.kept fun k hk => hb.block k (by omega)

def nPlaces : String := (Rows.aeadSealsRow.named[3]?).getD default
theorem gPlaces : Tryd.prog.globalNamed nPlaces = some 3 := by kernel_rfl
theorem gPlacesT : (Tryd.prog.globals[3]?).map (·.type) = some 110 := by kernel_rfl
theorem cells32i : Tryd.prog.cellsOf 110 = 32 := by kernel_rfl

theorem range_places {W : World} (h0 : laidMetH Tryd.prog [(nPlaces, Rows.laid_casket_casketref4_places)] W) : W.rangeAt 3 0 (i64L plc) := by
  have h3 : Lib.TabIs Tryd.prog W nPlaces .i64 (ints plc) :=
    Lib.tabIs_of_head (rest := []) gPlaces gPlacesT Tryd.underlying110 Tryd.underlying3 cells1i cells32i h0
  intro j v hv
  have hj : j < plc.length := by
    have := (List.getElem?_eq_some_iff.1 hv).1
    rwa [i64L_length] at this
  rw [i64L_at plc j hj] at hv
  have := h3.cell gPlaces j (by simpa [ints] using hj)
  rw [ints_getD] at this
  rw [Nat.zero_add, this]
  exact hv

theorem tabs_of_laid3 {W : World} (h : laidMetH Tryd.prog [(nPlaces, Rows.laid_casket_casketref4_places), (nFirst, Rows.laid_casket_chacha_firstWords), (nDouble, Rows.laid_casket_chacha_doubleRound)] W) : CTabs W ∧ PTabs W := by
  have h0 : laidMetH Tryd.prog [(nPlaces, Rows.laid_casket_casketref4_places)] W := by
    have e : ([(nPlaces, Rows.laid_casket_casketref4_places), (nFirst, Rows.laid_casket_chacha_firstWords), (nDouble, Rows.laid_casket_chacha_doubleRound)] : List (String × DataW Unit)).filter (fun x => x.1 == nPlaces) = [(nPlaces, Rows.laid_casket_casketref4_places)] := by kernel_rfl
    have := h.filter fun x => x.1 == nPlaces
    rwa [e] at this
  have h1 : laidMetH Tryd.prog [(nFirst, Rows.laid_casket_chacha_firstWords)] W := by
    have e : ([(nPlaces, Rows.laid_casket_casketref4_places), (nFirst, Rows.laid_casket_chacha_firstWords), (nDouble, Rows.laid_casket_chacha_doubleRound)] : List (String × DataW Unit)).filter (fun x => x.1 == nFirst) = [(nFirst, Rows.laid_casket_chacha_firstWords)] := by kernel_rfl
    have := h.filter fun x => x.1 == nFirst
    rwa [e] at this
  have h2 : laidMetH Tryd.prog [(nDouble, Rows.laid_casket_chacha_doubleRound)] W := by
    have e : ([(nPlaces, Rows.laid_casket_casketref4_places), (nFirst, Rows.laid_casket_chacha_firstWords), (nDouble, Rows.laid_casket_chacha_doubleRound)] : List (String × DataW Unit)).filter (fun x => x.1 == nDouble) = [(nDouble, Rows.laid_casket_chacha_doubleRound)] := by kernel_rfl
    have := h.filter fun x => x.1 == nDouble
    rwa [e] at this
  refine ⟨⟨range_first h1, range_double h2⟩, ⟨?_⟩⟩
  have h3 : Lib.TabIs Tryd.prog W nPlaces .i64 (ints plc) :=
    Lib.tabIs_of_head (rest := []) gPlaces gPlacesT Tryd.underlying110 Tryd.underlying3 cells1i cells32i h0
  intro j v hv
  have hj : j < plc.length := by
    have := (List.getElem?_eq_some_iff.1 hv).1
    rwa [i64L_length] at this
  rw [i64L_at plc j hj] at hv
  have := h3.cell gPlaces j (by simpa [ints] using hj)
  rw [ints_getD] at this
  rw [Nat.zero_add, this]
  exact hv

theorem three_le {W : World} (h : W.ShapedOpen Tryd.prog) : 4 ≤ W.heap.size := by
  have h3 : ((((begin Tryd.prog (fun _ _ => 0) default).world.heap[3]?).bind Obj.row?).isSome) = true := by kernel_rfl
  obtain ⟨⟨z, t⟩, hz⟩ := Option.isSome_iff_exists.1 h3
  have hg : 3 < Tryd.prog.globals.size := of_decide_eq_true (by kernel_rfl)
  obtain ⟨cs, hc, _⟩ := h.1 3 z t hg hz
  have := (Array.getElem?_eq_some_iff.1 hc).1
  omega

/-- a variable's cells, as its initialiser lays them -/
def lay (cs : Array Value) : Obj → Obj
  | .cells _ t frozen => .cells cs t frozen
  | o => o

end Go.Proofs.YtebhmebldemndaaDoor.Cha
