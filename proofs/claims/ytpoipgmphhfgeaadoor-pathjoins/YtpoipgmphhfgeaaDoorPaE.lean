import Derived.Test.YtpoipgmphhfgeaaDoorPaC
namespace Go.Proofs.YtpoipgmphhfgeaaDoor.Pa
open Go.RowKit Go.Lib

set_option maxRecDepth 20000 in
theorem num_any (e : Int) (w : World) : Calls Tryd.prog 9 #[.int .i64 e] w fun x w' => x = .returned (.int .i64 e) ∧ w' = w := by
  go_enter Tryd.func9, Tryd.ntmps9
  go_wp2
  go_ret
  exact ⟨rfl, rfl⟩
end Go.Proofs.YtpoipgmphhfgeaaDoor.Pa
