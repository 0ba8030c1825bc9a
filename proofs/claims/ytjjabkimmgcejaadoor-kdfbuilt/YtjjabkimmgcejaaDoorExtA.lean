import Derived.Test.YtjjabkimmgcejaaDoorHmacA
namespace Go.Proofs.YtjjabkimmgcejaaDoor
open Go.RowKit Go.Lib

theorem num3_any (n : Int) (w : World) : Calls Tryd.prog 15 #[.int .i64 n] w fun e w' => e = .returned (.int .i64 n) ∧ w = w' := by
  go_enter Tryd.func15, Tryd.ntmps15
  go_wp2
  go_ret
  exact ⟨rfl, rfl⟩
theorem kextract_any (salt secret : ByteArray) (h1 : salt.size ≤ 140737488351232) (h2 : secret.size ≤ 140737488351232) (w : World) (ht : Tabs w) (h4 : 4 ≤ w.heap.size) :
    Calls Tryd.prog 22 #[.string salt, .string secret] w fun e w' => e = .returned (.string (str (hmacL salt.data.toList secret.data.toList))) ∧ Below w.heap.size w w' := by
  have hh := hmac_one salt secret (by omega) (by omega) w ht h4
  go_enter Tryd.func22, Tryd.ntmps22
  go_wp2_with (go_at_call 9; refine hh.mono ?_; rintro e w1 ⟨rfl, hb1⟩)
  go_ret
  exact ⟨rfl, hb1⟩

end Go.Proofs.YtjjabkimmgcejaaDoor
