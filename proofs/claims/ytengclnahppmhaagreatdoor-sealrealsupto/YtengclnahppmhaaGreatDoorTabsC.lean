import Derived.Test.YtengclnahppmhaaGreatDoorCards
import Derived.Test.YtengclnahppmhaaGreatDoorTie
import Derived.Test.YtengclnahppmhaaGreatDoorChZ1
import Derived.WalkKit
import Derived.ProofKit
import Derived.OpenShut
import Derived.LaidSub
import Derived.Deep.DeepHandedRow
import Derived.Lib.LaidTab
namespace Go.Proofs.YtengclnahppmhaaGreatDoor.Cha
open Go.ChangeShapes Go.WideShapes Go.ChangeAt Go.RowKit

def ints (l : List Nat) : List Int := l.map fun (n : Nat) => (n : Int)
theorem ints_getD (l : List Nat) (i : Nat) : (ints l).getD i 0 = ((l.getD i 0 : Nat) : Int) := by
  unfold ints
  rw [List.getD_eq_getElem?_getD, List.getD_eq_getElem?_getD, List.getElem?_map]
  cases l[i]? <;> simp

/-- an array of arrays that reads as the rows holds their numbers, row for row -/
theorem cells_of_rows {H : Type} {enc : TypeId × Value → H} {P : Program} {w : World} {base : Nat} {sp : Nat → Bool} {held : Bool} {fuel : Nat} {t e e2 : TypeId} {n m : Nat} {k : IntKind} {cs : List Value} {rows : List (List Int)} {p : List MemPlace}
    (ht : P.underlying t = some (.array n e)) (he : P.underlying e = some (.array m e2)) (he2 : P.underlying e2 = some (.int k)) (hce2 : P.cellsOf e2 = 1) (hce : P.cellsOf e = m) (hct : P.cellsOf t = n * m)
    (h : DataW.trod enc P w base sp held fuel t cs = some (.agg (rows.map fun r => Lib.tabData k r), p)) : ∀ i r, rows[i]? = some r → i < n → (cs.drop (i * m)).take m = r.map fun z => Value.int k z := by
  cases fuel with
  | zero => simp [DataW.trod] at h
  | succ fuel =>
    simp only [DataW.trod, ht, hce, hct] at h
    split at h
    · obtain ⟨xs, hm, hx⟩ := Option.map_eq_some_iff.1 h
      have hxs : xs.map (·.1) = rows.map fun r => (Lib.tabData k r : DataW H) := by
        have := congrArg Prod.fst hx
        simpa using this
      intro i r hr hi
      obtain ⟨b, hb, hf⟩ := Lib.mapM_at hm i i (by simp [hi])
      have h2 : (xs.map (·.1))[i]? = some b.1 := by simp [hb]
      rw [hxs, List.getElem?_map, hr] at h2
      have h3 : b.1 = Lib.tabData k r := (Option.some.inj h2).symm
      obtain ⟨b1, b2⟩ := b
      dsimp only at h3
      subst h3
      exact Lib.cells_of_tab he he2 hce2 hce hf
    · cases h

def nFirst : String := (Rows.sealIdealsRow.named[3]?).getD default
def nDouble : String := (Rows.sealIdealsRow.named[4]?).getD default
theorem gFirst : Tryz.prog.globalNamed nFirst = some 5 := by kernel_rfl
theorem gFirstT : (Tryz.prog.globals[5]?).map (·.type) = some 205 := by kernel_rfl
theorem gDouble : Tryz.prog.globalNamed nDouble = some 6 := by kernel_rfl
theorem gDoubleT : (Tryz.prog.globals[6]?).map (·.type) = some 208 := by kernel_rfl
theorem cells4u : Tryz.prog.cellsOf 205 = 4 := by kernel_rfl
theorem cells1u : Tryz.prog.cellsOf 141 = 1 := by kernel_rfl
theorem cells1i : Tryz.prog.cellsOf 3 = 1 := by kernel_rfl
theorem cells4i : Tryz.prog.cellsOf 207 = 4 := by kernel_rfl
theorem cells8x4 : Tryz.prog.cellsOf 208 = 8 * 4 := by kernel_rfl

def rows8 : List (List Nat) := [[0, 4, 8, 12], [1, 5, 9, 13], [2, 6, 10, 14], [3, 7, 11, 15], [0, 5, 10, 15], [1, 6, 11, 12], [2, 7, 8, 13], [3, 4, 9, 14]]
theorem rows8_at : ∀ j, j < 32 → (rows8.getD (j / 4) [])[j % 4]? = plc[j]? := by decide

theorem range_first {W : World} (h : laidMetH Tryz.prog [(nFirst, Rows.laid_casket_chacha_firstWords)] W) : W.rangeAt 5 0 (u32L con4) := by
  have h1 : Lib.TabIs Tryz.prog W nFirst .u32 (ints con4) :=
    Lib.tabIs_of_head (rest := []) gFirst gFirstT Tryz.underlying205 Tryz.underlying141 cells1u cells4u h
  intro j v hv
  have hj : j < con4.length := by
    have := (List.getElem?_eq_some_iff.1 hv).1
    rwa [u32L_length] at this
  rw [u32L_at con4 j hj] at hv
  have := h1.cell gFirst j (by simpa [ints] using hj)
  rw [ints_getD] at this
  rw [Nat.zero_add, this]
  exact hv

theorem range_double {W : World} (h0 : laidMetH Tryz.prog [(nDouble, Rows.laid_casket_chacha_doubleRound)] W) : W.rangeAt 6 0 (i64L plc) := by
  have h : laidMet Tryz.prog [(nDouble, Rows.laid_casket_chacha_doubleRound)] W := h0
  obtain ⟨ps, ⟨g', t', cs, fuel, p, q, hg', ht', hvar, hd, _, _⟩, _⟩ := h
  obtain rfl := Option.some.inj (gDouble.symm.trans hg')
  obtain rfl := Option.some.inj (gDoubleT.symm.trans ht')
  have hr := cells_of_rows (rows := rows8.map ints) Tryz.underlying208 Tryz.underlying207 Tryz.underlying3 cells1i cells4i cells8x4 hd
  intro j v hv
  have hj : j < 32 := by
    have := (List.getElem?_eq_some_iff.1 hv).1
    rwa [i64L_length] at this
  have hlt : j / 4 < 8 := by omega
  have hi : rows8[j / 4]? = some (rows8.getD (j / 4) []) := by
    rw [List.getD_eq_getElem?_getD, List.getElem?_eq_getElem (by show j / 4 < 8; exact hlt)]
    rfl
  have h1 := hr (j / 4) (ints (rows8.getD (j / 4) [])) (by rw [List.getElem?_map, hi]; rfl) hlt
  have h2 : cs[j]? = ((ints (rows8.getD (j / 4) [])).map fun z => Value.int .i64 z)[j % 4]? := by
    rw [← h1, List.getElem?_take, if_pos (by omega), List.getElem?_drop, show j / 4 * 4 + j % 4 = j by omega, Array.getElem?_toList]
  have h3 : cs[j]? = (i64L plc)[j]? := by
    rw [h2, ints, List.map_map, List.getElem?_map, rows8_at j hj, i64L, List.getElem?_map]
    rfl
  have h4 := World.var?_cell gDouble hvar j
  rw [Nat.zero_add, h4, ← hv, ← h3]

theorem ctabs_of_laid {W : World} (h : laidMetH Tryz.prog [(nFirst, Rows.laid_casket_chacha_firstWords), (nDouble, Rows.laid_casket_chacha_doubleRound)] W) : CTabs W := by
  have h1 : laidMetH Tryz.prog [(nFirst, Rows.laid_casket_chacha_firstWords)] W := by
    have e : ([(nFirst, Rows.laid_casket_chacha_firstWords), (nDouble, Rows.laid_casket_chacha_doubleRound)] : List (String × DataW Unit)).filter (fun x => x.1 == nFirst) = [(nFirst, Rows.laid_casket_chacha_firstWords)] := by kernel_rfl
    have := h.filter fun x => x.1 == nFirst
    rwa [e] at this
  have h2 : laidMetH Tryz.prog [(nDouble, Rows.laid_casket_chacha_doubleRound)] W := by
    have e : ([(nFirst, Rows.laid_casket_chacha_firstWords), (nDouble, Rows.laid_casket_chacha_doubleRound)] : List (String × DataW Unit)).filter (fun x => x.1 == nDouble) = [(nDouble, Rows.laid_casket_chacha_doubleRound)] := by kernel_rfl
    have := h.filter fun x => x.1 == nDouble
    rwa [e] at this
  exact ⟨range_first h1, range_double h2⟩

theorem three_le {W : World} (h : W.ShapedOpen Tryz.prog) : 8 ≤ W.heap.size := by
  have h3 : ((((begin Tryz.prog (fun _ _ => 0) default).world.heap[7]?).bind Obj.row?).isSome) = true := by kernel_rfl
  obtain ⟨⟨z, t⟩, hz⟩ := Option.isSome_iff_exists.1 h3
  have hg : 7 < Tryz.prog.globals.size := of_decide_eq_true (by kernel_rfl)
  obtain ⟨cs, hc, _⟩ := h.1 7 z t hg hz
  have := (Array.getElem?_eq_some_iff.1 hc).1
  omega

/-- a variable's cells, as its initialiser lays them -/
def lay (cs : Array Value) : Obj → Obj
  | .cells _ t frozen => .cells cs t frozen
  | o => o

end Go.Proofs.YtengclnahppmhaaGreatDoor.Cha
