import Derived.Test.YtnfddiabhpandaaGreatDoorCards
import Derived.Test.YtnfddiabhpandaaGreatDoorTie
import Derived.WalkKit
import Derived.ProofKit
import Derived.OpenShut
import Derived.LaidSub
import Derived.Deep.DeepHandedRow
import Derived.Lib.LaidTab
namespace Go.Proofs.YtnfddiabhpandaaGreatDoor.Pa
open Go.ChangeShapes Go.WideShapes Go.ChangeAt Go.RowKit

def lay (cs : Array Value) : Obj → Obj
  | .cells _ t fr => .cells cs t fr
  | o => o
def firstC : Array Value := (Go.Pinned.utf8FirstZ.map fun (n : Nat) => Value.int .u8 (n : Int)).toArray
def accC : Array Value := (([128, 191, 160, 191, 128, 159, 144, 191, 128, 143] : List Nat).map fun (n : Nat) => Value.int .u8 (n : Int)).toArray ++ (List.replicate 22 (Value.int .u8 0)).toArray
end Go.Proofs.YtnfddiabhpandaaGreatDoor.Pa
