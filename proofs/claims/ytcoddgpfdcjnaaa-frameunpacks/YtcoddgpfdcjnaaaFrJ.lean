import Derived.Test.YtcoddgpfdcjnaaaFrG
import Derived.Test.YtcoddgpfdcjnaaaFrH
namespace Go.Proofs.Ytcoddgpfdcjnaaa.Fr
open Go.RowKit Go.Lib Go.Deep

theorem unpacks_walk (k : Int) (t : ByteArray) (w : World) : Calls Try.prog 3 #[.int .i64 k, .string t] w fun e w' => e = .returned (.bool true) ∧ Below w.heap.size w w' := by
  have c1 := unpack_any k t
  have c2 := runpack_any k t
  have c3 := num_any (unpE k t)
  generalize unpY k t = Y at c1 c2
  generalize unpE k t = E at c1 c2 c3
  go_enter Try.func3, Try.ntmps3
  go_wp2_with fail
  refine (c1 _).mono ?_
  rintro e w1 ⟨rfl, hb1⟩
  go_wp2_with fail
  refine (c2 _).mono ?_
  rintro e w2 ⟨rfl, hb2⟩
  have hb2' := hb1.trans (hb2.mono hb1.size)
  clear hb1 hb2
  go_wp2_with fail
  refine (c3 _).mono ?_
  rintro e w3 ⟨rfl, rfl⟩
  go_wp2
  go_ret
  exact ⟨rfl, hb2'⟩
end Go.Proofs.Ytcoddgpfdcjnaaa.Fr
