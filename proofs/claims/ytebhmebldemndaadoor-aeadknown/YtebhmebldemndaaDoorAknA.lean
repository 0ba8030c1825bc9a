import Derived.Test.YtebhmebldemndaaDoorAknP
import Derived.Test.YtebhmebldemndaaDoorAe6S
import Derived.Test.YtebhmebldemndaaDoorAe6O
import Derived.Test.YtebhmebldemndaaDoorAeC
import Derived.Test.YtebhmebldemndaaDoorSz6B
import Derived.Test.YtebhmebldemndaaDoorHexB
namespace Go.Proofs.YtebhmebldemndaaDoor.Ae
open Go.RowKit Go.Lib Go.Deep

set_option maxRecDepth 100000 in
theorem ak_xs : hexL akS = [100, 51, 49, 97, 56, 100, 51, 52, 54, 52, 56, 101, 54, 48, 100, 98, 55, 98, 56, 54, 97, 102, 98, 99, 53, 51, 101, 102, 55, 101, 99, 50, 97, 52, 97, 100, 101, 100, 53, 49, 50, 57, 54, 101, 48, 56, 102, 101, 97, 57, 101, 50, 98, 53, 97, 55, 51, 54, 101, 101, 54, 50, 100, 54, 51, 100, 98, 101, 97, 52, 53, 101, 56, 99, 97, 57, 54, 55, 49, 50, 56, 50, 102, 97, 102, 98, 54, 57, 100, 97, 57, 50, 55, 50, 56, 98, 49, 97, 55, 49, 100, 101, 48, 97, 57, 101, 48, 54, 48, 98, 50, 57, 48, 53, 100, 54, 97, 53, 98, 54, 55, 101, 99, 100, 51, 98, 51, 54, 57, 50, 100, 100, 98, 100, 55, 102, 50, 100, 55, 55, 56, 98, 56, 99, 57, 56, 48, 51, 97, 101, 101, 51, 50, 56, 48, 57, 49, 98, 53, 56, 102, 97, 98, 51, 50, 52, 101, 52, 102, 97, 100, 54, 55, 53, 57, 52, 53, 53, 56, 53, 56, 48, 56, 98, 52, 56, 51, 49, 100, 55, 98, 99, 51, 102, 102, 52, 100, 101, 102, 48, 56, 101, 52, 98, 55, 97, 57, 100, 101, 53, 55, 54, 100, 50, 54, 53, 56, 54, 99, 101, 99, 54, 52, 98, 54, 49, 49, 54, 49, 97, 101, 49, 48, 98, 53, 57, 52, 102, 48, 57, 101, 50, 54, 97, 55, 101, 57, 48, 50, 101, 99, 98, 100, 48, 54, 48, 48, 54, 57, 49] := by kernel_rfl
set_option maxRecDepth 100000 in
theorem ak_xt : hexL akT = [98, 100, 54, 100, 49, 55, 57, 100, 51, 101, 56, 51, 100, 52, 51, 98, 57, 53, 55, 54, 53, 55, 57, 52, 57, 51, 99, 48, 101, 57, 51, 57, 53, 55, 50, 97, 49, 55, 48, 48, 50, 53, 50, 98, 102, 97, 99, 99, 98, 101, 100, 50, 57, 48, 50, 99, 50, 49, 51, 57, 54, 99, 98, 98, 55, 51, 49, 99, 55, 102, 49, 98, 48, 98, 52, 97, 97, 54, 52, 52, 48, 98, 102, 51, 97, 56, 50, 102, 52, 101, 100, 97, 55, 101, 51, 57, 97, 101, 54, 52, 99, 54, 55, 48, 56, 99, 53, 52, 99, 50, 49, 54, 99, 98, 57, 54, 98, 55, 50, 101, 49, 50, 49, 51, 98, 52, 53, 50, 50, 102, 56, 99, 57, 98, 97, 52, 48, 100, 98, 53, 100, 57, 52, 53, 98, 49, 49, 98, 54, 57, 98, 57, 56, 50, 99, 49, 98, 98, 57, 101, 51, 102, 51, 102, 97, 99, 50, 98, 99, 51, 54, 57, 52, 56, 56, 102, 55, 54, 98, 50, 51, 56, 51, 53, 54, 53, 100, 51, 102, 102, 102, 57, 50, 49, 102, 57, 54, 54, 52, 99, 57, 55, 54, 51, 55, 100, 97, 57, 55, 54, 56, 56, 49, 50, 102, 54, 49, 53, 99, 54, 56, 98, 49, 51, 98, 53, 50, 101, 99, 48, 56, 55, 53, 57, 50, 52, 99, 49, 99, 55, 57, 56, 55, 57, 52, 55, 100, 101, 97, 102, 100, 56, 55, 56, 48, 97, 99, 102, 52, 57] := by kernel_rfl
theorem ak_k : riseL 128 32 = akKey := by kernel_rfl
theorem ak_n : riseL 64 24 = akN2 := by kernel_rfl

set_option maxRecDepth 20000 in
set_option maxHeartbeats 4000000 in
theorem aeadKnown_walk (hS : SealC) (hO : OpenC) (w : World) (hT : ATabs w) :
    Calls Tryd.prog 4 #[] w fun e w' => e = .returned (.bool true) ∧ Below w.heap.size w w' := by
  have HTT : Hid (∀ W, Below w.heap.size w W → ATabs W) := fun W h => hT.below h
  have xa := fun W => lrising_any 192 8 (by omega) W
  have xk := fun W => lrising_any 128 32 (by omega) W
  have xn := fun W => lrising_any 64 24 (by omega) W
  rw [ak_k] at xk
  rw [ak_n] at xn
  have ha : ({ data := #[80, 81, 82, 83] } : ByteArray) ++ str (riseL 192 8) = str akAad := by kernel_rfl
  have hsum : 4 + (str (riseL 192 8)).size ≤ 9223372036854775807 := by rw [str_size, riseL_length]; omega
  have z1 : (str akKey).size = 32 := by kernel_rfl
  have z2 : (str akN2).size = 24 := by kernel_rfl
  have z3 : ({ data := #[7, 0, 0, 0, 64, 65, 66, 67, 68, 69, 70, 71] } : ByteArray).size = 12 := by kernel_rfl
  have z4 : (str akAad).size = 12 := by kernel_rfl
  have z5 : ({ data := #[76, 97, 100, 105, 101, 115, 32, 97, 110, 100, 32, 71, 101, 110, 116, 108, 101, 109, 101, 110, 32, 111, 102, 32, 116, 104, 101, 32, 99, 108, 97, 115, 115, 32, 111, 102, 32, 39, 57, 57, 58, 32, 73, 102, 32, 73, 32, 99, 111, 117, 108, 100, 32, 111, 102, 102, 101, 114, 32, 121, 111, 117, 32, 111, 110, 108, 121, 32, 111, 110, 101, 32, 116, 105, 112, 32, 102, 111, 114, 32, 116, 104, 101, 32, 102, 117, 116, 117, 114, 101, 44, 32, 115, 117, 110, 115, 99, 114, 101, 101, 110, 32, 119, 111, 117, 108, 100, 32, 98, 101, 32, 105, 116, 46] } : ByteArray).size = 114 := by kernel_rfl
  have h1 := fun W k => hS (str akKey) { data := #[7, 0, 0, 0, 64, 65, 66, 67, 68, 69, 70, 71] } (str akAad) { data := #[76, 97, 100, 105, 101, 115, 32, 97, 110, 100, 32, 71, 101, 110, 116, 108, 101, 109, 101, 110, 32, 111, 102, 32, 116, 104, 101, 32, 99, 108, 97, 115, 115, 32, 111, 102, 32, 39, 57, 57, 58, 32, 73, 102, 32, 73, 32, 99, 111, 117, 108, 100, 32, 111, 102, 102, 101, 114, 32, 121, 111, 117, 32, 111, 110, 108, 121, 32, 111, 110, 101, 32, 116, 105, 112, 32, 102, 111, 114, 32, 116, 104, 101, 32, 102, 117, 116, 117, 114, 101, 44, 32, 115, 117, 110, 115, 99, 114, 101, 101, 110, 32, 119, 111, 117, 108, 100, 32, 98, 101, 32, 105, 116, 46] } W (by omega) (by omega) (by omega) (by omega) k
  rw [(sealE_yes z1 (.inl z3) (by omega) (by omega)).1, (sealE_yes z1 (.inl z3) (by omega) (by omega)).2, str_data, str_data, show sealL akKey ({ data := #[7, 0, 0, 0, 64, 65, 66, 67, 68, 69, 70, 71] } : ByteArray).data.toList akAad ({ data := #[76, 97, 100, 105, 101, 115, 32, 97, 110, 100, 32, 71, 101, 110, 116, 108, 101, 109, 101, 110, 32, 111, 102, 32, 116, 104, 101, 32, 99, 108, 97, 115, 115, 32, 111, 102, 32, 39, 57, 57, 58, 32, 73, 102, 32, 73, 32, 99, 111, 117, 108, 100, 32, 111, 102, 102, 101, 114, 32, 121, 111, 117, 32, 111, 110, 108, 121, 32, 111, 110, 101, 32, 116, 105, 112, 32, 102, 111, 114, 32, 116, 104, 101, 32, 102, 117, 116, 117, 114, 101, 44, 32, 115, 117, 110, 115, 99, 114, 101, 101, 110, 32, 119, 111, 117, 108, 100, 32, 98, 101, 32, 105, 116, 46] } : ByteArray).data.toList = akS from ak_s] at h1
  have h2 := fun W k => hS (str akKey) (str akN2) (str akAad) { data := #[76, 97, 100, 105, 101, 115, 32, 97, 110, 100, 32, 71, 101, 110, 116, 108, 101, 109, 101, 110, 32, 111, 102, 32, 116, 104, 101, 32, 99, 108, 97, 115, 115, 32, 111, 102, 32, 39, 57, 57, 58, 32, 73, 102, 32, 73, 32, 99, 111, 117, 108, 100, 32, 111, 102, 102, 101, 114, 32, 121, 111, 117, 32, 111, 110, 108, 121, 32, 111, 110, 101, 32, 116, 105, 112, 32, 102, 111, 114, 32, 116, 104, 101, 32, 102, 117, 116, 117, 114, 101, 44, 32, 115, 117, 110, 115, 99, 114, 101, 101, 110, 32, 119, 111, 117, 108, 100, 32, 98, 101, 32, 105, 116, 46] } W (by omega) (by omega) (by omega) (by omega) k
  rw [(sealE_yes z1 (.inr z2) (by omega) (by omega)).1, (sealE_yes z1 (.inr z2) (by omega) (by omega)).2, str_data, str_data, str_data, show sealL akKey akN2 akAad ({ data := #[76, 97, 100, 105, 101, 115, 32, 97, 110, 100, 32, 71, 101, 110, 116, 108, 101, 109, 101, 110, 32, 111, 102, 32, 116, 104, 101, 32, 99, 108, 97, 115, 115, 32, 111, 102, 32, 39, 57, 57, 58, 32, 73, 102, 32, 73, 32, 99, 111, 117, 108, 100, 32, 111, 102, 102, 101, 114, 32, 121, 111, 117, 32, 111, 110, 108, 121, 32, 111, 110, 101, 32, 116, 105, 112, 32, 102, 111, 114, 32, 116, 104, 101, 32, 102, 117, 116, 117, 114, 101, 44, 32, 115, 117, 110, 115, 99, 114, 101, 101, 110, 32, 119, 111, 117, 108, 100, 32, 98, 101, 32, 105, 116, 46] } : ByteArray).data.toList = akT from ak_t] at h2
  have z6 : (str akT).size = 130 := by kernel_rfl
  have hTd : (str akT).data.toList = sealL (str akKey).data.toList (str akN2).data.toList (str akAad).data.toList ({ data := #[76, 97, 100, 105, 101, 115, 32, 97, 110, 100, 32, 71, 101, 110, 116, 108, 101, 109, 101, 110, 32, 111, 102, 32, 116, 104, 101, 32, 99, 108, 97, 115, 115, 32, 111, 102, 32, 39, 57, 57, 58, 32, 73, 102, 32, 73, 32, 99, 111, 117, 108, 100, 32, 111, 102, 102, 101, 114, 32, 121, 111, 117, 32, 111, 110, 108, 121, 32, 111, 110, 101, 32, 116, 105, 112, 32, 102, 111, 114, 32, 116, 104, 101, 32, 102, 117, 116, 117, 114, 101, 44, 32, 115, 117, 110, 115, 99, 114, 101, 101, 110, 32, 119, 111, 117, 108, 100, 32, 98, 101, 32, 105, 116, 46] } : ByteArray).data.toList := by rw [str_data, str_data, str_data, str_data]; exact ak_t.symm
  have h3 := fun W k => hO (str akKey) (str akN2) (str akAad) (str akT) W (by omega) (by omega) (by omega) (by omega) k
  rw [(open_seal z1 (.inr z2) (by omega) (by omega) (str akT) hTd).1, (open_seal z1 (.inr z2) (by omega) (by omega) (str akT) hTd).2] at h3
  have x1 := fun W => hex_any (str akS) W (by rw [str_size]; decide)
  have x2 := fun W => hex_any (str akT) W (by rw [str_size]; decide)
  rw [show hexS (str akS) = { data := #[100, 51, 49, 97, 56, 100, 51, 52, 54, 52, 56, 101, 54, 48, 100, 98, 55, 98, 56, 54, 97, 102, 98, 99, 53, 51, 101, 102, 55, 101, 99, 50, 97, 52, 97, 100, 101, 100, 53, 49, 50, 57, 54, 101, 48, 56, 102, 101, 97, 57, 101, 50, 98, 53, 97, 55, 51, 54, 101, 101, 54, 50, 100, 54, 51, 100, 98, 101, 97, 52, 53, 101, 56, 99, 97, 57, 54, 55, 49, 50, 56, 50, 102, 97, 102, 98, 54, 57, 100, 97, 57, 50, 55, 50, 56, 98, 49, 97, 55, 49, 100, 101, 48, 97, 57, 101, 48, 54, 48, 98, 50, 57, 48, 53, 100, 54, 97, 53, 98, 54, 55, 101, 99, 100, 51, 98, 51, 54, 57, 50, 100, 100, 98, 100, 55, 102, 50, 100, 55, 55, 56, 98, 56, 99, 57, 56, 48, 51, 97, 101, 101, 51, 50, 56, 48, 57, 49, 98, 53, 56, 102, 97, 98, 51, 50, 52, 101, 52, 102, 97, 100, 54, 55, 53, 57, 52, 53, 53, 56, 53, 56, 48, 56, 98, 52, 56, 51, 49, 100, 55, 98, 99, 51, 102, 102, 52, 100, 101, 102, 48, 56, 101, 52, 98, 55, 97, 57, 100, 101, 53, 55, 54, 100, 50, 54, 53, 56, 54, 99, 101, 99, 54, 52, 98, 54, 49, 49, 54, 49, 97, 101, 49, 48, 98, 53, 57, 52, 102, 48, 57, 101, 50, 54, 97, 55, 101, 57, 48, 50, 101, 99, 98, 100, 48, 54, 48, 48, 54, 57, 49] } from congrArg str ((congrArg hexL (str_data _)).trans ak_xs)] at x1
  rw [show hexS (str akT) = { data := #[98, 100, 54, 100, 49, 55, 57, 100, 51, 101, 56, 51, 100, 52, 51, 98, 57, 53, 55, 54, 53, 55, 57, 52, 57, 51, 99, 48, 101, 57, 51, 57, 53, 55, 50, 97, 49, 55, 48, 48, 50, 53, 50, 98, 102, 97, 99, 99, 98, 101, 100, 50, 57, 48, 50, 99, 50, 49, 51, 57, 54, 99, 98, 98, 55, 51, 49, 99, 55, 102, 49, 98, 48, 98, 52, 97, 97, 54, 52, 52, 48, 98, 102, 51, 97, 56, 50, 102, 52, 101, 100, 97, 55, 101, 51, 57, 97, 101, 54, 52, 99, 54, 55, 48, 56, 99, 53, 52, 99, 50, 49, 54, 99, 98, 57, 54, 98, 55, 50, 101, 49, 50, 49, 51, 98, 52, 53, 50, 50, 102, 56, 99, 57, 98, 97, 52, 48, 100, 98, 53, 100, 57, 52, 53, 98, 49, 49, 98, 54, 57, 98, 57, 56, 50, 99, 49, 98, 98, 57, 101, 51, 102, 51, 102, 97, 99, 50, 98, 99, 51, 54, 57, 52, 56, 56, 102, 55, 54, 98, 50, 51, 56, 51, 53, 54, 53, 100, 51, 102, 102, 102, 57, 50, 49, 102, 57, 54, 54, 52, 99, 57, 55, 54, 51, 55, 100, 97, 57, 55, 54, 56, 56, 49, 50, 102, 54, 49, 53, 99, 54, 56, 98, 49, 51, 98, 53, 50, 101, 99, 48, 56, 55, 53, 57, 50, 52, 99, 49, 99, 55, 57, 56, 55, 57, 52, 55, 100, 101, 97, 102, 100, 56, 55, 56, 48, 97, 99, 102, 52, 57] } from congrArg str ((congrArg hexL (str_data _)).trans ak_xt)] at x2
  clear hTd z1 z2 z3 z4 z5 z6 hS hO hT
  generalize str akT = yT at h2 h3 x2
  generalize str akS = yS at h1 x1
  generalize str akAad = yA at ha h1 h2 h3
  generalize str akKey = yK at xk h1 h2 h3
  generalize str akN2 = yN at xn h2 h3
  generalize str (riseL 192 8) = yR at xa ha hsum
  go_enter Tryd.func4, Tryd.ntmps4
  go_wp2_with fail
  refine (xa w).mono ?_
  rintro e w1 ⟨rfl, hb1⟩
  have q1 := xk w1
  go_wp2_with (first | (go_at_call 11; refine (lnum_any _ _).mono ?_; rintro e w' ⟨rfl, rfl⟩) | fail)
  refine q1.mono ?_
  rintro e w2 ⟨rfl, hb2'⟩
  have hb2 := hb1.trans (hb2'.mono hb1.size)
  clear hb1 hb2' q1
  have q1 := h1 w2 (HTT.out _ hb2)
  go_wp2_with (first | (go_at_call 11; refine (lnum_any _ _).mono ?_; rintro e w' ⟨rfl, rfl⟩) | fail)
  refine q1.mono ?_
  rintro e w3 ⟨rfl, hb3'⟩
  have hb3 := hb2.trans (hb3'.mono hb2.size)
  clear hb2 hb3' q1
  have q1 := xk w3
  go_wp2_with (first | (go_at_call 11; refine (lnum_any _ _).mono ?_; rintro e w' ⟨rfl, rfl⟩) | fail)
  refine q1.mono ?_
  rintro e w4 ⟨rfl, hb4'⟩
  have hb4 := hb3.trans (hb4'.mono hb3.size)
  clear hb3 hb4' q1
  have q1 := xn w4
  go_wp2_with (first | (go_at_call 11; refine (lnum_any _ _).mono ?_; rintro e w' ⟨rfl, rfl⟩) | fail)
  refine q1.mono ?_
  rintro e w5 ⟨rfl, hb5'⟩
  have hb5 := hb4.trans (hb5'.mono hb4.size)
  clear hb4 hb5' q1
  have q1 := h2 w5 (HTT.out _ hb5)
  go_wp2_with (first | (go_at_call 11; refine (lnum_any _ _).mono ?_; rintro e w' ⟨rfl, rfl⟩) | fail)
  refine q1.mono ?_
  rintro e w6 ⟨rfl, hb6'⟩
  have hb6 := hb5.trans (hb6'.mono hb5.size)
  clear hb5 hb6' q1
  have q1 := x1 w6
  go_wp2_with (first | (go_at_call 11; refine (lnum_any _ _).mono ?_; rintro e w' ⟨rfl, rfl⟩) | fail)
  refine q1.mono ?_
  rintro e w7 ⟨rfl, hb7'⟩
  have hb7 := hb6.trans (hb7'.mono hb6.size)
  clear hb6 hb7' q1
  have q1 := x2 w7
  go_wp2_with (first | (go_at_call 11; refine (lnum_any _ _).mono ?_; rintro e w' ⟨rfl, rfl⟩) | fail)
  refine q1.mono ?_
  rintro e w8 ⟨rfl, hb8'⟩
  have hb8 := hb7.trans (hb8'.mono hb7.size)
  clear hb7 hb8' q1
  have q1 := xk w8
  go_wp2_with (first | (go_at_call 11; refine (lnum_any _ _).mono ?_; rintro e w' ⟨rfl, rfl⟩) | fail)
  refine q1.mono ?_
  rintro e w9 ⟨rfl, hb9'⟩
  have hb9 := hb8.trans (hb9'.mono hb8.size)
  clear hb8 hb9' q1
  have q1 := xn w9
  go_wp2_with (first | (go_at_call 11; refine (lnum_any _ _).mono ?_; rintro e w' ⟨rfl, rfl⟩) | fail)
  refine q1.mono ?_
  rintro e w10 ⟨rfl, hb10'⟩
  have hb10 := hb9.trans (hb10'.mono hb9.size)
  clear hb9 hb10' q1
  have q1 := h3 w10 (HTT.out _ hb10)
  go_wp2_with (first | (go_at_call 11; refine (lnum_any _ _).mono ?_; rintro e w' ⟨rfl, rfl⟩) | fail)
  refine q1.mono ?_
  rintro e w11 ⟨rfl, hb11'⟩
  have hb11 := hb10.trans (hb11'.mono hb10.size)
  clear hb10 hb11' q1
  go_wp2_with (go_at_call 11; refine (lnum_any _ _).mono ?_; rintro e w' ⟨rfl, rfl⟩)
  go_ret
  exact ⟨rfl, hb11⟩

end Go.Proofs.YtebhmebldemndaaDoor.Ae
