import Derived.Test.YtjjabkimmgcejaaDoorPasP
namespace Go.Proofs.YtjjabkimmgcejaaDoor
open Go.RowKit Go.Lib

set_option maxRecDepth 20000 in
set_option maxHeartbeats 1000000 in
theorem fourBytes_any (n : Nat) (hn : n < 256) (w : World) :
    Calls Tryd.prog 39 #[.int .u32 (n : Int)] w fun e w' => e = .returned (.string (str [0, 0, 0, UInt8.ofNat n])) ∧ Below w.heap.size w w' := by
  have hob := four_bytes n w
  rw [show (n : Int) % 256 = (n : Int) by omega] at hob
  have d1 : (n : Int) / 16777216 = 0 := by omega
  have d2 : (n : Int) / 65536 = 0 := by omega
  have d3 : (n : Int) / 256 = 0 := by omega
  have d4 : (n : Int) % 256 = (n : Int) := by omega
  revert hob
  generalize str [0, 0, 0, UInt8.ofNat n] = y
  intro hob
  go_enter Tryd.func39, Tryd.ntmps39
  go_wp2
  go_ret
  exact ⟨rfl, (Below.refl _ _).alloc (Nat.le_refl _) _⟩

end Go.Proofs.YtjjabkimmgcejaaDoor
