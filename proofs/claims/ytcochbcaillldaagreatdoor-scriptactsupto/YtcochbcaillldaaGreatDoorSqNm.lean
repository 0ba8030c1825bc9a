import Derived.Test.YtcochbcaillldaaGreatDoorSpM
namespace Go.Proofs.YtcochbcaillldaaGreatDoor.Sc
open Go.RowKit Go.Lib Go.Deep
set_option maxRecDepth 20000 in
set_option maxHeartbeats 1000000 in
theorem num_any (c : Int) (hc : 0 ≤ c ∧ c < 1000) (w : World) : Calls Tryz.prog 12 #[.int .i64 c] w fun e w' => e = .returned (.int .i64 c) ∧ w' = w := by
  have h1 := hc.1
  have h2 := hc.2
  go_enter Tryz.func12, Tryz.ntmps12
  go_wp2_with fail
  go_ret
  exact ⟨rfl, rfl⟩
end Go.Proofs.YtcochbcaillldaaGreatDoor.Sc
