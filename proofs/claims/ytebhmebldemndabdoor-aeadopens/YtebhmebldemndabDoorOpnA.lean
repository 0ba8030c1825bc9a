import Derived.Test.YtebhmebldemndabDoorAe6O
import Derived.Test.YtebhmebldemndabDoorRf6D
import Derived.Test.YtebhmebldemndabDoorLn6A
namespace Go.Proofs.YtebhmebldemndabDoor.Ae
open Go.RowKit Go.Lib Go.Deep
open Cha (PTabs)

/-- AeadOpens where nothing can be sealed: Open of the box alone -/
theorem aeadOpens_no (hO : OpenC) (key nonce aad box : ByteArray) (at' by' : Int) (w : World) (b0 : key.size ≤ 140737488351232) (b1 : nonce.size ≤ 140737488351232) (b2 : aad.size ≤ 140737488351232) (b3 : box.size ≤ 140737488351232) (hT : ATabs w) (hP : PTabs w) (h0 : ¬ sealE key nonce aad box = 0) :
    Calls Tryd.prog 3 #[.string key, .string nonce, .string aad, .string box, .int .i64 at', .int .i64 by'] w fun e w' => e = .returned (.bool true) ∧ Below w.heap.size w w' := by
  have h1 := hO key nonce aad box w (by omega) (by omega) (by omega) (by omega) hT
  have h2 := fun W (k1 : PTabs W) (k2 : 4 ≤ W.heap.size) => ropen_any key nonce aad box (by omega) (by omega) W k1 k2
  have h5 := fun W (k1 : PTabs W) (k2 : 4 ≤ W.heap.size) => rseal_any key nonce aad box (by omega) (by omega) W k1 k2
  have h4 := hT.s
  clear hO hT
  generalize openY key nonce aad box = Y at h1 h2
  generalize openE key nonce aad box = E at h1 h2
  generalize sealY key nonce aad box = Z at h5
  generalize sealE key nonce aad box = F at h5 h0
  go_enter Tryd.func3, Tryd.ntmps3
  go_wp2_with fail
  refine h1.mono ?_
  rintro e w1 ⟨rfl, hb1⟩
  have z1 := hb1.size
  have h3 := h2 w1 (hP.below hb1 h4) (by omega)
  go_wp2_with fail
  refine h3.mono ?_
  rintro e w2 ⟨rfl, hb2⟩
  have hb := hb1.trans (hb2.mono z1)
  have z2 := hb.size
  have h6 := h5 w2 (hP.below hb h4) (by omega)
  go_wp2_with (go_at_call 6; refine (lnum_any _ _).mono ?_; rintro e w' ⟨rfl, rfl⟩)
  refine h6.mono ?_
  rintro e w3 ⟨rfl, hb3⟩
  go_wp2
  go_ret
  exact ⟨rfl, hb.trans (hb3.mono z2)⟩

end Go.Proofs.YtebhmebldemndabDoor.Ae
