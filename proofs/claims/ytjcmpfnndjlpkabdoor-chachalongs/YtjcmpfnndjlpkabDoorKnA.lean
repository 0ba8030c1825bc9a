import Derived.Test.YtjcmpfnndjlpkabDoorChaP
import Derived.KernelRfl
namespace Go.Proofs.YtjcmpfnndjlpkabDoor
open Go.RowKit Go.Lib

def riseL (n : Nat) : List UInt8 := (List.range n).map fun i => UInt8.ofNat i

set_option maxRecDepth 100000 in
theorem known_quarter : qr ⟨286331153, 16909060, 2609737539, 19088743⟩ = ⟨3928658676, 3407673550, 1166100270, 1484899515⟩ := by kernel_rfl
set_option maxRecDepth 100000 in
theorem known_block : (blockL (riseL 32) 1 [0, 0, 0, 9, 0, 0, 0, 74, 0, 0, 0, 0]).take 4 = [16, 241, 231, 228] ∧ (blockL (riseL 32) 1 [0, 0, 0, 9, 0, 0, 0, 74, 0, 0, 0, 0]).drop 60 = [162, 80, 60, 78] := ⟨by kernel_rfl, by kernel_rfl⟩
set_option maxRecDepth 100000 in
theorem known_hash : (hchL (riseL 32) [0, 0, 0, 9, 0, 0, 0, 74, 0, 0, 0, 0, 49, 65, 89, 39]).take 4 = [130, 65, 59, 66] ∧ (hchL (riseL 32) [0, 0, 0, 9, 0, 0, 0, 74, 0, 0, 0, 0, 49, 65, 89, 39]).drop 28 = [38, 211, 236, 220] := ⟨by kernel_rfl, by kernel_rfl⟩

end Go.Proofs.YtjcmpfnndjlpkabDoor
