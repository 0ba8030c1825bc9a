import Derived.Test.YtbjiamaaocjbfaaGreatDoorCaM
import Derived.Test.YtbjiamaaocjbfaaGreatDoorK7D
namespace Go.Proofs.YtbjiamaaocjbfaaGreatDoor.Kp
open Go.RowKit Go.Lib Go.Deep Kr

theorem printC : PrintC KT := fun id v ss w hS hi hn hw => print_any id v ss w hS hi hn hw.k.t hw.i hw.k.i

end Go.Proofs.YtbjiamaaocjbfaaGreatDoor.Kp
