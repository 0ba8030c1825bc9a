import Derived.Test.YtpoipgmphhfgeabDoorPaC
namespace Go.Proofs.YtpoipgmphhfgeabDoor.Pa
open Go.RowKit Go.Lib

set_option maxRecDepth 20000 in
theorem num_any (e : Int) (w : World) : Calls Tryd.prog 7 #[.int .i64 e] w fun x w' => x = .returned (.int .i64 e) ∧ w' = w := by
  go_enter Tryd.func7, Tryd.ntmps7
  go_wp2
  go_ret
  exact ⟨rfl, rfl⟩
end Go.Proofs.YtpoipgmphhfgeabDoor.Pa
