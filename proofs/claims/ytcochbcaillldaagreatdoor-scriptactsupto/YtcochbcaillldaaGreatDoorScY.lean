import Derived.Test.YtcochbcaillldaaGreatDoorScF
namespace Go.Proofs.YtcochbcaillldaaGreatDoor.Sc
open Go.RowKit Go.Lib

/-- a byte word -/
def byL (s : ByteArray) : List UInt8 := 61 :: wrL s.data.toList
theorem byL_len (s : ByteArray) : (byL s).length ≤ 1 + 3 * s.size := by
  have := wrL_len s.data.toList
  rw [← size_eq] at this
  simp only [byL, List.length_cons]
  omega
end Go.Proofs.YtcochbcaillldaaGreatDoor.Sc
