import Derived.Test.YtpoipgmphhfgeaaPaC
namespace Go.Proofs.Ytpoipgmphhfgeaa.Pa
open Go.RowKit Go.Lib

set_option maxRecDepth 20000 in
theorem num_any (e : Int) (w : World) : Calls Try.prog 6 #[.int .i64 e] w fun x w' => x = .returned (.int .i64 e) ∧ w' = w := by
  go_enter Try.func6, Try.ntmps6
  go_wp2
  go_ret
  exact ⟨rfl, rfl⟩
end Go.Proofs.Ytpoipgmphhfgeaa.Pa
