import Derived.Test.YtebhmebldemndabDoorRf6A
namespace Go.Proofs.YtebhmebldemndabDoor.Ae
open Go.RowKit Go.Lib Go.Deep

theorem lnum_any (n : Int) (w : World) : Calls Tryd.prog 6 #[.int .i64 n] w fun e w' => e = .returned (.int .i64 n) ∧ w = w' := by
  go_enter Tryd.func6, Tryd.ntmps6
  go_wp2
  go_ret
  exact ⟨rfl, rfl⟩

end Go.Proofs.YtebhmebldemndabDoor.Ae
