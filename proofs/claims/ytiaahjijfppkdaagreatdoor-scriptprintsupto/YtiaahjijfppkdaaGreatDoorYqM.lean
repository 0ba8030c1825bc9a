import Derived.Test.YtiaahjijfppkdaaGreatDoorSyK
import Derived.Test.YtiaahjijfppkdaaGreatDoorSyL
import Derived.Test.YtiaahjijfppkdaaGreatDoorSyO
import Derived.Test.YtiaahjijfppkdaaGreatDoorYiM
namespace Go.Proofs.YtiaahjijfppkdaaGreatDoor.Sc
open Go.RowKit Go.Lib Go.Deep

theorem rPlay_any (p : PlR) (hok : p.Ok) (V : List ActV) (hV : VOk V) (hn : V.length = p.nacts) (hln : lnsT V ≤ 4194304) (w : World) (hs : SeeV w p.acts V) (ht : ITab w) :
    Calls Tryz.prog 18 #[.agg p.cells] w fun e w' => e = .returned (printV p V) ∧ Below w.heap.size w w' := by
  cases hid : p.ideal with
  | false => exact rPrint_real p hok hid V hV hn hln w hs ht
  | true =>
    by_cases hm : p.master.size = 0
    · exact rPrint_ideal p hok hid hm V hV hn hln w hs ht
    · exact rPrint_bad p hok hid hm V hV hn hln w hs ht
end Go.Proofs.YtiaahjijfppkdaaGreatDoor.Sc

namespace Go.Proofs.YtiaahjijfppkdaaGreatDoor.Sc
open Go.RowKit Go.Lib Go.Deep
set_option maxRecDepth 20000 in
set_option maxHeartbeats 1000000 in
theorem num_any (c : Int) (hc : 0 ≤ c ∧ c < 1000) (w : World) : Calls Tryz.prog 12 #[.int .i64 c] w fun e w' => e = .returned (.int .i64 c) ∧ w' = w := by
  have h1 := hc.1
  have h2 := hc.2
  go_enter Tryz.func12, Tryz.ntmps12
  go_wp2_with fail
  go_ret
  exact ⟨rfl, rfl⟩
end Go.Proofs.YtiaahjijfppkdaaGreatDoor.Sc
