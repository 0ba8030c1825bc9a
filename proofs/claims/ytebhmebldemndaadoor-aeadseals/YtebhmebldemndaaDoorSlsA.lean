import Derived.Test.YtebhmebldemndaaDoorAe6S
import Derived.Test.YtebhmebldemndaaDoorRf6B
import Derived.Test.YtebhmebldemndaaDoorSz6B
namespace Go.Proofs.YtebhmebldemndaaDoor.Ae
open Go.RowKit Go.Lib Go.Deep
open Cha (PTabs)

theorem aeadSeals_walk (hS : SealC) (key nonce aad plain : ByteArray) (w : World) (b0 : key.size ≤ 140737488351232) (b1 : nonce.size ≤ 140737488351232) (b2 : aad.size ≤ 140737488351232) (b3 : plain.size ≤ 140737488351232) (hT : ATabs w) (hP : PTabs w) :
    Calls Tryd.prog 8 #[.string key, .string nonce, .string aad, .string plain] w fun e w' => e = .returned (.bool true) ∧ Below w.heap.size w w' := by
  have h1 := hS key nonce aad plain w (by omega) (by omega) (by omega) (by omega) hT
  have h2 := fun W (k1 : PTabs W) (k2 : 4 ≤ W.heap.size) => rseal_any key nonce aad plain (by omega) (by omega) W k1 k2
  have h4 := hT.s
  clear hS hT
  generalize sealY key nonce aad plain = Y at h1 h2
  generalize sealE key nonce aad plain = E at h1 h2
  go_enter Tryd.func8, Tryd.ntmps8
  go_wp2_with fail
  refine h1.mono ?_
  rintro e w1 ⟨rfl, hb1⟩
  have z1 := hb1.size
  have h3 := h2 w1 (hP.below hb1 h4) (by omega)
  go_wp2_with fail
  refine h3.mono ?_
  rintro e w2 ⟨rfl, hb2⟩
  have hb := hb1.trans (hb2.mono z1)
  go_wp2_with (go_at_call 11; refine (lnum_any _ _).mono ?_; rintro e w' ⟨rfl, rfl⟩)
  go_ret
  exact ⟨rfl, hb⟩

end Go.Proofs.YtebhmebldemndaaDoor.Ae
