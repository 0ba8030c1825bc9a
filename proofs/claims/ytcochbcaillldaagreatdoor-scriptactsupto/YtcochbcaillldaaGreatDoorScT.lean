import Derived.Test.YtcochbcaillldaaGreatDoorScD
import Derived.Test.YtcochbcaillldaaGreatDoorCards
import Derived.Test.YtcochbcaillldaaGreatDoorTie
import Derived.Lib.LaidTab
import Derived.WalkKit
import Derived.ProofKit
import Derived.JoinedCond
import Derived.LaidSub
import Derived.OpenShut
import Derived.Deep.DeepHandedRow
namespace Go.Proofs.YtcochbcaillldaaGreatDoor.Sc
open Go.ChangeShapes Go.WideShapes Go.ChangeAt Go.RowKit

def nPow : String := (Rows.scriptActsRow.named[0]?).getD default
theorem gPow : Tryz.prog.globalNamed nPow = some 3 := by kernel_rfl
theorem gPowT : (Tryz.prog.globals[3]?).map (·.type) = some 228 := by kernel_rfl
theorem cellsPt : Tryz.prog.cellsOf 228 = 20 := by kernel_rfl
theorem cellsQt : Tryz.prog.cellsOf 216 = 1 := by kernel_rfl
theorem itab_of_laid {W : World} (h : laidMetH Tryz.prog [(nPow, Rows.laid_internal_strconv_uint64pow10)] W) : ITab W := by
  have h1 : Lib.TabIs Tryz.prog W nPow .u64 Lib.pow10Tab :=
    Lib.tabIs_of_head (rest := []) gPow gPowT Tryz.underlying228 Tryz.underlying216 cellsQt cellsPt h
  unfold Lib.TabIs World.var? at h1
  rw [gPow, Option.bind_some] at h1
  cases e : W.heap[3]? with
  | none => rw [e] at h1; cases h1
  | some o =>
    rw [e] at h1
    cases o with
    | cells cs t fr => exact ⟨t, fr, by rw [e]; rw [show cs = _ from Option.some.inj h1]⟩
    | _ => cases h1
def bytes8 (l : List Nat) : Array Value := (l.map fun (n : Nat) => Value.int .u8 (n : Int)).toArray
def dB32 : List Nat := [0, 1, 28, 2, 29, 14, 24, 3, 30, 22, 20, 15, 25, 17, 4, 8, 31, 27, 13, 23, 21, 19, 16, 7, 26, 12, 18, 6, 11, 5, 10, 9]
def dB64 : List Nat := [0, 1, 56, 2, 57, 49, 28, 3, 61, 58, 42, 50, 38, 29, 17, 4, 62, 47, 59, 36, 45, 43, 51, 22, 53, 39, 33, 30, 24, 18, 12, 5, 63, 55, 48, 27, 60, 41, 37, 16, 46, 35, 44, 21, 52, 32, 23, 11, 54, 26, 40, 15, 34, 20, 31, 10, 25, 14, 19, 9, 13, 8, 7, 6]
def pow10V : Array Value := (Lib.pow10Tab.map fun z => Value.int .u64 z).toArray
def lay (cs : Array Value) : Obj → Obj
  | .cells _ t fr => .cells cs t fr
  | o => o
end Go.Proofs.YtcochbcaillldaaGreatDoor.Sc
