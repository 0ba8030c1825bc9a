import Derived.Test.YtcoddgpfdcjnaabFrO
import Derived.Test.YtcoddgpfdcjnaabFrG
namespace Go.Proofs.Ytcoddgpfdcjnaab.Fr
open Go.RowKit Go.Lib Go.Deep

theorem packs_walk (k : Int) (b : ByteArray) (z o : Int) (hb : b.size ≤ 140737488351232) (w : World) : Calls Try.prog 3 #[.int .i64 k, .string b, .int .i64 z, .int .i64 o] w fun e w' => e = .returned (.bool true) ∧ Below w.heap.size w w' := by
  have c1 := pack_any k b z hb
  have c2 := rpack_any k b z hb
  have c3 := num_any (packE k b z)
  generalize packY k b z = S at c1 c2
  generalize packE k b z = F at c1 c2 c3
  have c4 := unpack_any o S
  have c5 := runpack_any o S
  have c6 := num_any (unpE o S)
  generalize unpY o S = Y at c4 c5
  generalize unpE o S = E at c4 c5 c6
  go_enter Try.func3, Try.ntmps3
  go_wp2_with fail
  refine (c1 _).mono ?_
  rintro e w1 ⟨rfl, hb1⟩
  go_wp2_with fail
  refine (c2 _).mono ?_
  rintro e w2 ⟨rfl, hb2⟩
  have hb2' := hb1.trans (hb2.mono hb1.size)
  clear hb1 hb2
  go_wp2_with fail
  refine (c3 _).mono ?_
  rintro e w3 ⟨rfl, rfl⟩
  go_wp2_with fail
  refine (c4 _).mono ?_
  rintro e w4 ⟨rfl, hb4⟩
  have hb4' := hb2'.trans (hb4.mono hb2'.size)
  clear hb4
  go_wp2_with fail
  refine (c5 _).mono ?_
  rintro e w5 ⟨rfl, hb5⟩
  have hb5' := hb4'.trans (hb5.mono hb4'.size)
  clear hb5
  go_wp2_with fail
  refine (c6 _).mono ?_
  rintro e w6 ⟨rfl, rfl⟩
  go_wp2
  go_ret
  exact ⟨rfl, hb5'⟩
end Go.Proofs.Ytcoddgpfdcjnaab.Fr
