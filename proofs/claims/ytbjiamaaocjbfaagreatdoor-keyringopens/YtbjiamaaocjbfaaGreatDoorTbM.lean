import Derived.Test.YtbjiamaaocjbfaaGreatDoorCards
import Derived.Test.YtbjiamaaocjbfaaGreatDoorTie
import Derived.Test.YtbjiamaaocjbfaaGreatDoorShM1
import Derived.WalkKit
import Derived.ProofKit
import Derived.OpenShut
import Derived.LaidSub
import Derived.Deep.DeepHandedRow
import Derived.Lib.LaidTab
import Derived.Test.YtbjiamaaocjbfaaGreatDoorItB
import Derived.Test.YtbjiamaaocjbfaaGreatDoorTabsD
import Derived.Test.YtbjiamaaocjbfaaGreatDoorCaM
import Derived.SizedLaws
namespace Go.Proofs.YtbjiamaaocjbfaaGreatDoor
open Go.ChangeShapes Go.WideShapes Go.ChangeAt Go.RowKit

def nFirst : String := (Rows.keyringToldRow.named[0]?).getD default
def nStep : String := (Rows.keyringToldRow.named[1]?).getD default
theorem gFirst : Tryz.prog.globalNamed nFirst = some 0 := by kernel_rfl
theorem gFirstT : (Tryz.prog.globals[0]?).map (·.type) = some 96 := by kernel_rfl
theorem gStep : Tryz.prog.globalNamed nStep = some 1 := by kernel_rfl
theorem gStepT : (Tryz.prog.globals[1]?).map (·.type) = some 117 := by kernel_rfl
theorem cellsW : Tryz.prog.cellsOf 96 = 8 := by kernel_rfl
theorem cellsS : Tryz.prog.cellsOf 117 = 64 := by kernel_rfl
theorem cellsU : Tryz.prog.cellsOf 94 = 1 := by kernel_rfl

def ints (l : List Nat) : List Int := l.map fun (n : Nat) => (n : Int)
theorem ints_getD (l : List Nat) (i : Nat) : (ints l).getD i 0 = ((l.getD i 0 : Nat) : Int) := by
  unfold ints
  rw [List.getD_eq_getElem?_getD, List.getD_eq_getElem?_getD, List.getElem?_map]
  cases l[i]? <;> simp

theorem range_of_tab {W : World} {name : String} {g : Nat} {l : List Nat} (h : Lib.TabIs Tryz.prog W name .u32 (ints l)) (hg : Tryz.prog.globalNamed name = some g) : W.rangeAt g 0 (u32L l) := by
  intro j v hv
  have hj : j < l.length := by
    have := (List.getElem?_eq_some_iff.1 hv).1
    simpa [u32L] using this
  rw [u32L_at l j hj] at hv
  have := h.cell hg j (by simpa [ints] using hj)
  rw [ints_getD] at this
  rw [Nat.zero_add, this]
  exact hv

theorem tabs_of_laid {W : World} (h : laidMetH Tryz.prog [(nFirst, Rows.laid_casket_sha_firstWords), (nStep, Rows.laid_casket_sha_stepWords)] W) : Tabs W := by
  have h1 : Lib.TabIs Tryz.prog W nFirst .u32 (ints first.list) :=
    Lib.tabIs_of_head (rest := [(nStep, Rows.laid_casket_sha_stepWords)]) gFirst gFirstT Tryz.underlying96 Tryz.underlying94 cellsU cellsW h
  have h' : laidMetH Tryz.prog [(nStep, Rows.laid_casket_sha_stepWords)] W := by
    have e : ([(nFirst, Rows.laid_casket_sha_firstWords), (nStep, Rows.laid_casket_sha_stepWords)] : List (String × DataW Unit)).filter (fun x => x.1 == nStep) = [(nStep, Rows.laid_casket_sha_stepWords)] := by kernel_rfl
    have := h.filter fun x => x.1 == nStep
    rwa [e] at this
  have h2 : Lib.TabIs Tryz.prog W nStep .u32 (ints kk) :=
    Lib.tabIs_of_head (rest := []) gStep gStepT Tryz.underlying117 Tryz.underlying94 cellsU cellsS h'
  exact ⟨range_of_tab h1 gFirst, range_of_tab h2 gStep⟩

theorem four_le {W : World} (h : W.ShapedOpen Tryz.prog) : 9 ≤ W.heap.size := by
  have h3 : ((((begin Tryz.prog (fun _ _ => 0) default).world.heap[8]?).bind Obj.row?).isSome) = true := by kernel_rfl
  obtain ⟨⟨z, t⟩, hz⟩ := Option.isSome_iff_exists.1 h3
  have hg : 8 < Tryz.prog.globals.size := of_decide_eq_true (by kernel_rfl)
  obtain ⟨cs, hc, _⟩ := h.1 8 z t hg hz
  have := (Array.getElem?_eq_some_iff.1 hc).1
  omega

/-- a variable's cells, as its initialiser lays them -/
def lay (cs : Array Value) : Obj → Obj
  | .cells _ t frozen => .cells cs t frozen
  | o => o

end Go.Proofs.YtbjiamaaocjbfaaGreatDoor

namespace Go.Proofs.YtbjiamaaocjbfaaGreatDoor.Kp
open Go.ChangeShapes Go.WideShapes Go.ChangeAt Go.RowKit

def nPow : String := (Rows.keyringToldRow.named[5]?).getD default
theorem gPow : Tryz.prog.globalNamed nPow = some 3 := by kernel_rfl
theorem gPowT : (Tryz.prog.globals[3]?).map (·.type) = some 172 := by kernel_rfl
theorem cellsP : Tryz.prog.cellsOf 172 = 20 := by kernel_rfl
theorem cellsQ : Tryz.prog.cellsOf 99 = 1 := by kernel_rfl
theorem itab_of_laid {W : World} (h : laidMetH Tryz.prog [(nPow, Rows.laid_internal_strconv_uint64pow10)] W) : Kr.ITab W := by
  have h1 : Lib.TabIs Tryz.prog W nPow .u64 Lib.pow10Tab :=
    Lib.tabIs_of_head (rest := []) gPow gPowT Tryz.underlying172 Tryz.underlying99 cellsQ cellsP h
  unfold Lib.TabIs World.var? at h1
  rw [gPow, Option.bind_some] at h1
  cases e : W.heap[3]? with
  | none => rw [e] at h1; cases h1
  | some o =>
    rw [e] at h1
    cases o with
    | cells cs t fr => exact ⟨t, fr, by rw [e]; rw [show cs = _ from Option.some.inj h1]⟩
    | _ => cases h1
def bytes8 (l : List Nat) : Array Value := (l.map fun (n : Nat) => Value.int .u8 (n : Int)).toArray
def dB32 : List Nat := [0, 1, 28, 2, 29, 14, 24, 3, 30, 22, 20, 15, 25, 17, 4, 8, 31, 27, 13, 23, 21, 19, 16, 7, 26, 12, 18, 6, 11, 5, 10, 9]
def dB64 : List Nat := [0, 1, 56, 2, 57, 49, 28, 3, 61, 58, 42, 50, 38, 29, 17, 4, 62, 47, 59, 36, 45, 43, 51, 22, 53, 39, 33, 30, 24, 18, 12, 5, 63, 55, 48, 27, 60, 41, 37, 16, 46, 35, 44, 21, 52, 32, 23, 11, 54, 26, 40, 15, 34, 20, 31, 10, 25, 14, 19, 9, 13, 8, 7, 6]
def pow10V : Array Value := (Lib.pow10Tab.map fun z => Value.int .u64 z).toArray

end Go.Proofs.YtbjiamaaocjbfaaGreatDoor.Kp

namespace Go.Proofs.YtbjiamaaocjbfaaGreatDoor.Kp
open Go.ChangeShapes Go.WideShapes Go.ChangeAt Go.RowKit

/-- the tables out of what a row lays -/
theorem kt_of_laid {W : World} {L : List (String × DataW Unit)} (h : laidMetH Tryz.prog L W)
    (e1 : L.filter (fun x => x.1 == Cha.nFirst) = [(Cha.nFirst, Rows.laid_casket_chacha_firstWords)]) (e2 : L.filter (fun x => x.1 == Cha.nDouble) = [(Cha.nDouble, Rows.laid_casket_chacha_doubleRound)])
    (e3 : L.filter (fun x => x.1 == Pol.nKept) = [(Pol.nKept, Rows.laid_casket_poly_kept)]) (e4 : L.filter (fun x => x.1 == nFirst || x.1 == nStep) = [(nFirst, Rows.laid_casket_sha_firstWords), (nStep, Rows.laid_casket_sha_stepWords)])
    (e5 : L.filter (fun x => x.1 == nPow) = [(nPow, Rows.laid_internal_strconv_uint64pow10)]) (hS : W.ShapedOpen Tryz.prog) : KT W := by
  have h4 := h.filter fun x => x.1 == nFirst || x.1 == nStep
  have h5 := h.filter fun x => x.1 == nPow
  rw [e4] at h4
  rw [e5] at h5
  exact ⟨⟨tabs_of_laid h4, Ae.tabs6 h e1 e2 e3 hS, four_le hS⟩, itab_of_laid h5⟩

end Go.Proofs.YtbjiamaaocjbfaaGreatDoor.Kp

namespace Go.Proofs.YtbjiamaaocjbfaaGreatDoor
open Go.ChangeShapes Go.WideShapes Go.ChangeAt Go.RowKit

/-- a text that came in is within reach -/
theorem sized_str {H : Type} {P : Program} {ts : List TypeId} {ds : List (DataW H)} (h : (DataW.weightsEach P ts ds).all (· ≤ reachBytes) = true) {j : Nat} {t : TypeId} {s : ByteArray} (ht : ts[j]? = some t) (hd : ds[j]? = some (.lit (.string s.data.toList))) : s.size ≤ 140737488351232 := by
  have h1 := of_decide_eq_true (List.all_eq_true.1 h _ (DataW.weights_mem_each ht hd s.data.toList.length (by simp [DataW.weights])))
  have e : s.data.toList.length = s.size := by rw [Array.length_toList]; rfl
  unfold reachBytes at h1
  omega

end Go.Proofs.YtbjiamaaocjbfaaGreatDoor
