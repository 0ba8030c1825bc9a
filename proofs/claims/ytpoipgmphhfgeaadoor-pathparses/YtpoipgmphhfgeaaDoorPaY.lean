import Derived.Test.YtpoipgmphhfgeaaDoorPaV
import Derived.Test.YtpoipgmphhfgeaaDoorPaR
namespace Go.Proofs.YtpoipgmphhfgeaaDoor.Pa
open Go.RowKit Go.Lib

set_option maxRecDepth 20000 in
set_option maxHeartbeats 1000000 in
theorem parses_walk (s : ByteArray) (w : World) : Calls Tryd.prog 3 #[.string s] w fun e w' => e = .returned (.bool true) ∧ Below w.heap.size w w' := by
  have h1 := parse_any s w
  have h2 := rparse_any s
  have hn : (parseY s).length ≤ 9223372036854775000 := by have := (parse_len s).1; omega
  generalize parseE s = E at *
  generalize parseY s = L at *
  go_enter Tryd.func3, Tryd.ntmps3
  go_wp2_with fail
  refine h1.mono ?_
  rintro e w1 ⟨⟨u1, rfl, ho1⟩, hb1⟩
  go_wp2_with fail
  refine (h2 _).mono ?_
  rintro e w2 ⟨⟨u2, rfl, ho2⟩, hb2⟩
  have h3 := same_any w2 u1 u2 L ((ho1.below hb2).see) ho2.see hn
  have hb12 := hb1.trans (hb2.mono hb1.size)
  go_wp2_with fail
  refine h3.mono ?_
  rintro e w3 ⟨rfl, hb3⟩
  have hb13 := hb12.trans (hb3.mono hb12.size)
  go_wp2_with (go_at_call 9; refine (num_any _ _).mono ?_; rintro e w4 ⟨rfl, rfl⟩)
  go_ret
  exact ⟨rfl, hb13⟩
end Go.Proofs.YtpoipgmphhfgeaaDoor.Pa
