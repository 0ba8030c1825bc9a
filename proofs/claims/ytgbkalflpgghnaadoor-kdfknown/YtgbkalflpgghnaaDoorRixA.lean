import Derived.Test.YtgbkalflpgghnaaDoorHexA
namespace Go.Proofs.YtgbkalflpgghnaaDoor
open Go.RowKit Go.Lib Go.Deep

/-- a byte of a text, by a drawn index (kept in RefB and ChaE too: for a seat that has neither) -/
theorem rindex_at {P : Program} (w : World) (t : TypeId) (s : ByteArray) (k : IntKind) (z : Int) (i : Nat) (c : UInt8) (h : P.underlying t = some .string) (hz : z = (i : Int)) (hc : s.data.toList[i]? = some c) :
    (Instr.index t (.string s) (.int k z)).run P w = .ok (.int .u8 (c.toNat : Int)) w := by
  subst hz
  exact index_at w t s k i c h hc


end Go.Proofs.YtgbkalflpgghnaaDoor
