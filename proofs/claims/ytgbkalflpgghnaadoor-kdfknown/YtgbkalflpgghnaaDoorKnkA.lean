import Derived.Test.YtgbkalflpgghnaaDoorKnkP
import Derived.Test.YtgbkalflpgghnaaDoorPasF
import Derived.Test.YtgbkalflpgghnaaDoorHexB
namespace Go.Proofs.YtgbkalflpgghnaaDoor
open Go.RowKit Go.Lib Go.Deep

set_option maxRecDepth 20000 in
set_option maxHeartbeats 4000000 in
theorem kdfKnown_walk (w : World) (ht : Tabs w) (h4 : 2 ≤ w.heap.size) :
    Calls Tryd.prog 3 #[] w fun e w' => e = .returned (.bool true) ∧ Below w.heap.size w w' := by
  have HTT : Hid (∀ W, Below w.heap.size w W → Tabs W ∧ 2 ≤ W.heap.size) := fun W h => ⟨ht.below h (by omega), by have := h.size; omega⟩
  have Xm1 : Hid (∀ W, Calls Tryd.prog 6 #[.int .u8 11, .int .i64 20] W fun e w' => e = .returned (.string (str (List.replicate 20 11))) ∧ Below W.heap.size W w') := fun W => many_any 11 20 (by omega) W
  have Xm3 : Hid (∀ W, Calls Tryd.prog 6 #[.int .u8 170, .int .i64 131] W fun e w' => e = .returned (.string (str (List.replicate 131 170))) ∧ Below W.heap.size W w') := fun W => many_any 170 131 (by omega) W
  have Xm4 : Hid (∀ W, Calls Tryd.prog 6 #[.int .u8 11, .int .i64 22] W fun e w' => e = .returned (.string (str (List.replicate 22 11))) ∧ Below W.heap.size W w') := fun W => many_any 11 22 (by omega) W
  have Xr1 : Hid (∀ W, Calls Tryd.prog 8 #[.int .u8 0, .int .i64 13] W fun e w' => e = .returned (.string (str (riseL 0 13))) ∧ Below W.heap.size W w') := fun W => krising_any 0 13 (by omega) W
  have Xr2 : Hid (∀ W, Calls Tryd.prog 8 #[.int .u8 240, .int .i64 10] W fun e w' => e = .returned (.string (str (riseL 240 10))) ∧ Below W.heap.size W w') := fun W => krising_any 240 10 (by omega) W
  have Xh1 : Hid (∀ W, Below w.heap.size w W → Calls Tryd.prog 5 #[.string (str (List.replicate 20 11)), .slice (some ⟨W.heap.size, 0, none⟩) 1 1] (W.alloc (.cells #[.string { data := #[72, 105, 32, 84, 104, 101, 114, 101] }] 9)) fun e w' => e = .returned (.string (str [176, 52, 76, 97, 216, 219, 56, 83, 92, 168, 175, 206, 175, 11, 241, 43, 136, 29, 194, 0, 201, 131, 61, 167, 38, 233, 55, 108, 46, 50, 207, 247])) ∧ Below W.heap.size W w') := fun W hb => by
    have h := hmac_one (str (List.replicate 20 11)) { data := #[72, 105, 32, 84, 104, 101, 114, 101] } (by rw [str_size, List.length_replicate]; omega) (by decide) W (HTT.out W hb).1 (HTT.out W hb).2
    rw [str_data, show hmacL (List.replicate 20 11) ({ data := #[72, 105, 32, 84, 104, 101, 114, 101] } : ByteArray).data.toList = _ from kn_h1] at h
    exact h
  have Xh3 : Hid (∀ W, Below w.heap.size w W → Calls Tryd.prog 5 #[.string (str (List.replicate 131 170)), .slice (some ⟨W.heap.size, 0, none⟩) 1 1] (W.alloc (.cells #[.string { data := #[84, 101, 115, 116, 32, 85, 115, 105, 110, 103, 32, 76, 97, 114, 103, 101, 114, 32, 84, 104, 97, 110, 32, 66, 108, 111, 99, 107, 45, 83, 105, 122, 101, 32, 75, 101, 121, 32, 45, 32, 72, 97, 115, 104, 32, 75, 101, 121, 32, 70, 105, 114, 115, 116] }] 9)) fun e w' => e = .returned (.string (str [96, 228, 49, 89, 30, 224, 182, 127, 13, 138, 38, 170, 203, 245, 183, 127, 142, 11, 198, 33, 55, 40, 197, 20, 5, 70, 4, 15, 14, 227, 127, 84])) ∧ Below W.heap.size W w') := fun W hb => by
    have h := hmac_one (str (List.replicate 131 170)) { data := #[84, 101, 115, 116, 32, 85, 115, 105, 110, 103, 32, 76, 97, 114, 103, 101, 114, 32, 84, 104, 97, 110, 32, 66, 108, 111, 99, 107, 45, 83, 105, 122, 101, 32, 75, 101, 121, 32, 45, 32, 72, 97, 115, 104, 32, 75, 101, 121, 32, 70, 105, 114, 115, 116] } (by rw [str_size, List.length_replicate]; omega) (by decide) W (HTT.out W hb).1 (HTT.out W hb).2
    rw [str_data, show hmacL (List.replicate 131 170) ({ data := #[84, 101, 115, 116, 32, 85, 115, 105, 110, 103, 32, 76, 97, 114, 103, 101, 114, 32, 84, 104, 97, 110, 32, 66, 108, 111, 99, 107, 45, 83, 105, 122, 101, 32, 75, 101, 121, 32, 45, 32, 72, 97, 115, 104, 32, 75, 101, 121, 32, 70, 105, 114, 115, 116] } : ByteArray).data.toList = _ from kn_h3] at h
    exact h
  have Xh2 : Hid (∀ W, Below w.heap.size w W → Calls Tryd.prog 5 #[.string { data := #[74, 101, 102, 101] }, .slice (some ⟨W.heap.size, 0, none⟩) 3 3] (W.alloc (.cells #[.string { data := #[119, 104, 97, 116, 32, 100, 111, 32, 121, 97, 32, 119, 97, 110, 116, 32] }, .string { data := #[] }, .string { data := #[102, 111, 114, 32, 110, 111, 116, 104, 105, 110, 103, 63] }] 9)) fun e w' => e = .returned (.string (str [91, 220, 193, 70, 191, 96, 117, 78, 106, 4, 36, 38, 8, 149, 117, 199, 90, 0, 63, 8, 157, 39, 57, 131, 157, 236, 88, 185, 100, 236, 56, 67])) ∧ Below W.heap.size W w') := fun W hb => by
    have hb2 : Below W.heap.size W (W.alloc (.cells #[.string { data := #[119, 104, 97, 116, 32, 100, 111, 32, 121, 97, 32, 119, 97, 110, 116, 32] }, .string { data := #[] }, .string { data := #[102, 111, 114, 32, 110, 111, 116, 104, 105, 110, 103, 63] }] 9)) := (Below.refl _ _).alloc (Nat.le_refl _) _
    have h := hmac_any { data := #[74, 101, 102, 101] } (by decide) _ ((HTT.out W hb).1.below hb2 (by have := (HTT.out W hb).2; omega)) (by have := (HTT.out W hb).2; simp; omega) (some ⟨W.heap.size, 0, none⟩) 3 3 [{ data := #[119, 104, 97, 116, 32, 100, 111, 32, 121, 97, 32, 119, 97, 110, 116, 32] }, { data := #[] }, { data := #[102, 111, 114, 32, 110, 111, 116, 104, 105, 110, 103, 63] }] (lst_three _ _ _ W) (fun h => by cases h) (by omega) (by decide)
    rw [show hmacL ({ data := #[74, 101, 102, 101] } : ByteArray).data.toList (joinL [{ data := #[119, 104, 97, 116, 32, 100, 111, 32, 121, 97, 32, 119, 97, 110, 116, 32] }, { data := #[] }, { data := #[102, 111, 114, 32, 110, 111, 116, 104, 105, 110, 103, 63] }]) = _ from kn_h2] at h
    refine h.mono ?_
    rintro e w' ⟨rfl, h2⟩
    exact ⟨rfl, hb2.trans (h2.mono (by simp))⟩
  have Xp : Hid (∀ W, Below w.heap.size w W → Calls Tryd.prog 7 #[.string (str (riseL 0 13)), .string (str (List.replicate 22 11))] W fun e w' => e = .returned (.string (str [7, 119, 9, 54, 44, 46, 50, 223, 13, 220, 63, 13, 196, 123, 186, 99, 144, 182, 199, 59, 181, 15, 156, 49, 34, 236, 132, 74, 215, 194, 179, 229])) ∧ Below W.heap.size W w') := fun W hb => by
    have h := kextr_any (str (riseL 0 13)) (str (List.replicate 22 11)) (by rw [str_size, riseL_length]; omega) (by rw [str_size, List.length_replicate]; omega) W (HTT.out W hb).1 (HTT.out W hb).2
    rw [str_data, str_data, kn_p] at h
    exact h
  have Xs : Hid (∀ W, Below w.heap.size w W → Calls Tryd.prog 9 #[.string (str [7, 119, 9, 54, 44, 46, 50, 223, 13, 220, 63, 13, 196, 123, 186, 99, 144, 182, 199, 59, 181, 15, 156, 49, 34, 236, 132, 74, 215, 194, 179, 229]), .string (str (riseL 240 10)), .int .i64 42] W fun e w' => e = .returned (.tuple #[.string (str [60, 178, 95, 37, 250, 172, 213, 122, 144, 67, 79, 100, 208, 54, 47, 42, 45, 45, 10, 144, 207, 26, 90, 76, 93, 176, 45, 86, 236, 196, 197, 191, 52, 0, 114, 8, 213, 184, 135, 24, 88, 101]), .int .i64 0]) ∧ Below W.heap.size W w') := fun W hb => by
    have h := kexpand_any (str [7, 119, 9, 54, 44, 46, 50, 223, 13, 220, 63, 13, 196, 123, 186, 99, 144, 182, 199, 59, 181, 15, 156, 49, 34, 236, 132, 74, 215, 194, 179, 229]) (str (riseL 240 10)) 42 (by decide) (by rw [str_size, riseL_length]; omega) (by omega) (by omega) W (HTT.out W hb).1 (HTT.out W hb).2
    rw [str_data, str_data, show expL [7, 119, 9, 54, 44, 46, 50, 223, 13, 220, 63, 13, 196, 123, 186, 99, 144, 182, 199, 59, 181, 15, 156, 49, 34, 236, 132, 74, 215, 194, 179, 229] (riseL 240 10) (42 : Int).toNat = _ from kn_s] at h
    exact h
  have Xo1 : Hid (∀ W, Below w.heap.size w W → Calls Tryd.prog 11 #[.string { data := #[112, 97, 115, 115, 119, 111, 114, 100] }, .string { data := #[115, 97, 108, 116] }, .int .i64 1, .int .i64 32] W fun e w' => e = .returned (.tuple #[.string (str [18, 15, 182, 207, 252, 248, 179, 44, 67, 231, 34, 82, 86, 196, 248, 55, 168, 101, 72, 201, 44, 204, 53, 72, 8, 5, 152, 124, 183, 11, 225, 123]), .int .i64 0]) ∧ Below W.heap.size W w') := fun W hb => by
    have h := kpbkdf_any { data := #[112, 97, 115, 115, 119, 111, 114, 100] } { data := #[115, 97, 108, 116] } 1 32 (by decide) (by decide) (by omega) (by omega) (by omega) (by omega) W (HTT.out W hb).1 (HTT.out W hb).2
    rw [show pasL ({ data := #[112, 97, 115, 115, 119, 111, 114, 100] } : ByteArray).data.toList ({ data := #[115, 97, 108, 116] } : ByteArray).data.toList ((1 : Int).toNat - 1) (32 : Int).toNat = _ from kn_o1] at h
    exact h
  have Xo2 : Hid (∀ W, Below w.heap.size w W → Calls Tryd.prog 11 #[.string { data := #[112, 97, 115, 115, 119, 111, 114, 100] }, .string { data := #[115, 97, 108, 116] }, .int .i64 2, .int .i64 32] W fun e w' => e = .returned (.tuple #[.string (str [174, 77, 12, 149, 175, 107, 70, 211, 45, 10, 223, 249, 40, 240, 109, 208, 42, 48, 63, 142, 243, 194, 81, 223, 214, 226, 216, 90, 149, 71, 76, 67]), .int .i64 0]) ∧ Below W.heap.size W w') := fun W hb => by
    have h := kpbkdf_any { data := #[112, 97, 115, 115, 119, 111, 114, 100] } { data := #[115, 97, 108, 116] } 2 32 (by decide) (by decide) (by omega) (by omega) (by omega) (by omega) W (HTT.out W hb).1 (HTT.out W hb).2
    rw [show pasL ({ data := #[112, 97, 115, 115, 119, 111, 114, 100] } : ByteArray).data.toList ({ data := #[115, 97, 108, 116] } : ByteArray).data.toList ((2 : Int).toNat - 1) (32 : Int).toNat = _ from kn_o2] at h
    exact h
  have Xo3 : Hid (∀ W, Below w.heap.size w W → Calls Tryd.prog 11 #[.string { data := #[112, 97, 115, 115, 119, 111, 114, 100, 80, 65, 83, 83, 87, 79, 82, 68, 112, 97, 115, 115, 119, 111, 114, 100] }, .string { data := #[115, 97, 108, 116, 83, 65, 76, 84, 115, 97, 108, 116, 83, 65, 76, 84, 115, 97, 108, 116, 83, 65, 76, 84, 115, 97, 108, 116, 83, 65, 76, 84, 115, 97, 108, 116] }, .int .i64 4096, .int .i64 40] W fun e w' => e = .returned (.tuple #[.string (str [52, 140, 137, 219, 203, 211, 43, 47, 50, 216, 20, 184, 17, 110, 132, 207, 43, 23, 52, 126, 188, 24, 0, 24, 28, 78, 42, 31, 184, 221, 83, 225, 198, 53, 81, 140, 125, 172, 71, 233]), .int .i64 0]) ∧ Below W.heap.size W w') := fun W hb => by
    have h := kpbkdf_any { data := #[112, 97, 115, 115, 119, 111, 114, 100, 80, 65, 83, 83, 87, 79, 82, 68, 112, 97, 115, 115, 119, 111, 114, 100] } { data := #[115, 97, 108, 116, 83, 65, 76, 84, 115, 97, 108, 116, 83, 65, 76, 84, 115, 97, 108, 116, 83, 65, 76, 84, 115, 97, 108, 116, 83, 65, 76, 84, 115, 97, 108, 116] } 4096 40 (by decide) (by decide) (by omega) (by omega) (by omega) (by omega) W (HTT.out W hb).1 (HTT.out W hb).2
    rw [show pasL ({ data := #[112, 97, 115, 115, 119, 111, 114, 100, 80, 65, 83, 83, 87, 79, 82, 68, 112, 97, 115, 115, 119, 111, 114, 100] } : ByteArray).data.toList ({ data := #[115, 97, 108, 116, 83, 65, 76, 84, 115, 97, 108, 116, 83, 65, 76, 84, 115, 97, 108, 116, 83, 65, 76, 84, 115, 97, 108, 116, 83, 65, 76, 84, 115, 97, 108, 116] } : ByteArray).data.toList ((4096 : Int).toNat - 1) (40 : Int).toNat = _ from kn_o3] at h
    exact h
  have Yh1 : Hid (∀ W, Calls Tryd.prog 4 #[.string (str [176, 52, 76, 97, 216, 219, 56, 83, 92, 168, 175, 206, 175, 11, 241, 43, 136, 29, 194, 0, 201, 131, 61, 167, 38, 233, 55, 108, 46, 50, 207, 247])] W fun e w' => e = .returned (.string { data := #[98, 48, 51, 52, 52, 99, 54, 49, 100, 56, 100, 98, 51, 56, 53, 51, 53, 99, 97, 56, 97, 102, 99, 101, 97, 102, 48, 98, 102, 49, 50, 98, 56, 56, 49, 100, 99, 50, 48, 48, 99, 57, 56, 51, 51, 100, 97, 55, 50, 54, 101, 57, 51, 55, 54, 99, 50, 101, 51, 50, 99, 102, 102, 55] }) ∧ Below W.heap.size W w') := fun W => by
    have h := hex_any (str [176, 52, 76, 97, 216, 219, 56, 83, 92, 168, 175, 206, 175, 11, 241, 43, 136, 29, 194, 0, 201, 131, 61, 167, 38, 233, 55, 108, 46, 50, 207, 247]) W (by decide)
    rw [show hexS (str [176, 52, 76, 97, 216, 219, 56, 83, 92, 168, 175, 206, 175, 11, 241, 43, 136, 29, 194, 0, 201, 131, 61, 167, 38, 233, 55, 108, 46, 50, 207, 247]) = { data := #[98, 48, 51, 52, 52, 99, 54, 49, 100, 56, 100, 98, 51, 56, 53, 51, 53, 99, 97, 56, 97, 102, 99, 101, 97, 102, 48, 98, 102, 49, 50, 98, 56, 56, 49, 100, 99, 50, 48, 48, 99, 57, 56, 51, 51, 100, 97, 55, 50, 54, 101, 57, 51, 55, 54, 99, 50, 101, 51, 50, 99, 102, 102, 55] } from congrArg str ((congrArg hexL (str_data _)).trans kn_xh1)] at h
    exact h
  have Yh2 : Hid (∀ W, Calls Tryd.prog 4 #[.string (str [91, 220, 193, 70, 191, 96, 117, 78, 106, 4, 36, 38, 8, 149, 117, 199, 90, 0, 63, 8, 157, 39, 57, 131, 157, 236, 88, 185, 100, 236, 56, 67])] W fun e w' => e = .returned (.string { data := #[53, 98, 100, 99, 99, 49, 52, 54, 98, 102, 54, 48, 55, 53, 52, 101, 54, 97, 48, 52, 50, 52, 50, 54, 48, 56, 57, 53, 55, 53, 99, 55, 53, 97, 48, 48, 51, 102, 48, 56, 57, 100, 50, 55, 51, 57, 56, 51, 57, 100, 101, 99, 53, 56, 98, 57, 54, 52, 101, 99, 51, 56, 52, 51] }) ∧ Below W.heap.size W w') := fun W => by
    have h := hex_any (str [91, 220, 193, 70, 191, 96, 117, 78, 106, 4, 36, 38, 8, 149, 117, 199, 90, 0, 63, 8, 157, 39, 57, 131, 157, 236, 88, 185, 100, 236, 56, 67]) W (by decide)
    rw [show hexS (str [91, 220, 193, 70, 191, 96, 117, 78, 106, 4, 36, 38, 8, 149, 117, 199, 90, 0, 63, 8, 157, 39, 57, 131, 157, 236, 88, 185, 100, 236, 56, 67]) = { data := #[53, 98, 100, 99, 99, 49, 52, 54, 98, 102, 54, 48, 55, 53, 52, 101, 54, 97, 48, 52, 50, 52, 50, 54, 48, 56, 57, 53, 55, 53, 99, 55, 53, 97, 48, 48, 51, 102, 48, 56, 57, 100, 50, 55, 51, 57, 56, 51, 57, 100, 101, 99, 53, 56, 98, 57, 54, 52, 101, 99, 51, 56, 52, 51] } from congrArg str ((congrArg hexL (str_data _)).trans kn_xh2)] at h
    exact h
  have Yh3 : Hid (∀ W, Calls Tryd.prog 4 #[.string (str [96, 228, 49, 89, 30, 224, 182, 127, 13, 138, 38, 170, 203, 245, 183, 127, 142, 11, 198, 33, 55, 40, 197, 20, 5, 70, 4, 15, 14, 227, 127, 84])] W fun e w' => e = .returned (.string { data := #[54, 48, 101, 52, 51, 49, 53, 57, 49, 101, 101, 48, 98, 54, 55, 102, 48, 100, 56, 97, 50, 54, 97, 97, 99, 98, 102, 53, 98, 55, 55, 102, 56, 101, 48, 98, 99, 54, 50, 49, 51, 55, 50, 56, 99, 53, 49, 52, 48, 53, 52, 54, 48, 52, 48, 102, 48, 101, 101, 51, 55, 102, 53, 52] }) ∧ Below W.heap.size W w') := fun W => by
    have h := hex_any (str [96, 228, 49, 89, 30, 224, 182, 127, 13, 138, 38, 170, 203, 245, 183, 127, 142, 11, 198, 33, 55, 40, 197, 20, 5, 70, 4, 15, 14, 227, 127, 84]) W (by decide)
    rw [show hexS (str [96, 228, 49, 89, 30, 224, 182, 127, 13, 138, 38, 170, 203, 245, 183, 127, 142, 11, 198, 33, 55, 40, 197, 20, 5, 70, 4, 15, 14, 227, 127, 84]) = { data := #[54, 48, 101, 52, 51, 49, 53, 57, 49, 101, 101, 48, 98, 54, 55, 102, 48, 100, 56, 97, 50, 54, 97, 97, 99, 98, 102, 53, 98, 55, 55, 102, 56, 101, 48, 98, 99, 54, 50, 49, 51, 55, 50, 56, 99, 53, 49, 52, 48, 53, 52, 54, 48, 52, 48, 102, 48, 101, 101, 51, 55, 102, 53, 52] } from congrArg str ((congrArg hexL (str_data _)).trans kn_xh3)] at h
    exact h
  have Yp : Hid (∀ W, Calls Tryd.prog 4 #[.string (str [7, 119, 9, 54, 44, 46, 50, 223, 13, 220, 63, 13, 196, 123, 186, 99, 144, 182, 199, 59, 181, 15, 156, 49, 34, 236, 132, 74, 215, 194, 179, 229])] W fun e w' => e = .returned (.string { data := #[48, 55, 55, 55, 48, 57, 51, 54, 50, 99, 50, 101, 51, 50, 100, 102, 48, 100, 100, 99, 51, 102, 48, 100, 99, 52, 55, 98, 98, 97, 54, 51, 57, 48, 98, 54, 99, 55, 51, 98, 98, 53, 48, 102, 57, 99, 51, 49, 50, 50, 101, 99, 56, 52, 52, 97, 100, 55, 99, 50, 98, 51, 101, 53] }) ∧ Below W.heap.size W w') := fun W => by
    have h := hex_any (str [7, 119, 9, 54, 44, 46, 50, 223, 13, 220, 63, 13, 196, 123, 186, 99, 144, 182, 199, 59, 181, 15, 156, 49, 34, 236, 132, 74, 215, 194, 179, 229]) W (by decide)
    rw [show hexS (str [7, 119, 9, 54, 44, 46, 50, 223, 13, 220, 63, 13, 196, 123, 186, 99, 144, 182, 199, 59, 181, 15, 156, 49, 34, 236, 132, 74, 215, 194, 179, 229]) = { data := #[48, 55, 55, 55, 48, 57, 51, 54, 50, 99, 50, 101, 51, 50, 100, 102, 48, 100, 100, 99, 51, 102, 48, 100, 99, 52, 55, 98, 98, 97, 54, 51, 57, 48, 98, 54, 99, 55, 51, 98, 98, 53, 48, 102, 57, 99, 51, 49, 50, 50, 101, 99, 56, 52, 52, 97, 100, 55, 99, 50, 98, 51, 101, 53] } from congrArg str ((congrArg hexL (str_data _)).trans kn_xp)] at h
    exact h
  have Ys : Hid (∀ W, Calls Tryd.prog 4 #[.string (str [60, 178, 95, 37, 250, 172, 213, 122, 144, 67, 79, 100, 208, 54, 47, 42, 45, 45, 10, 144, 207, 26, 90, 76, 93, 176, 45, 86, 236, 196, 197, 191, 52, 0, 114, 8, 213, 184, 135, 24, 88, 101])] W fun e w' => e = .returned (.string { data := #[51, 99, 98, 50, 53, 102, 50, 53, 102, 97, 97, 99, 100, 53, 55, 97, 57, 48, 52, 51, 52, 102, 54, 52, 100, 48, 51, 54, 50, 102, 50, 97, 50, 100, 50, 100, 48, 97, 57, 48, 99, 102, 49, 97, 53, 97, 52, 99, 53, 100, 98, 48, 50, 100, 53, 54, 101, 99, 99, 52, 99, 53, 98, 102, 51, 52, 48, 48, 55, 50, 48, 56, 100, 53, 98, 56, 56, 55, 49, 56, 53, 56, 54, 53] }) ∧ Below W.heap.size W w') := fun W => by
    have h := hex_any (str [60, 178, 95, 37, 250, 172, 213, 122, 144, 67, 79, 100, 208, 54, 47, 42, 45, 45, 10, 144, 207, 26, 90, 76, 93, 176, 45, 86, 236, 196, 197, 191, 52, 0, 114, 8, 213, 184, 135, 24, 88, 101]) W (by decide)
    rw [show hexS (str [60, 178, 95, 37, 250, 172, 213, 122, 144, 67, 79, 100, 208, 54, 47, 42, 45, 45, 10, 144, 207, 26, 90, 76, 93, 176, 45, 86, 236, 196, 197, 191, 52, 0, 114, 8, 213, 184, 135, 24, 88, 101]) = { data := #[51, 99, 98, 50, 53, 102, 50, 53, 102, 97, 97, 99, 100, 53, 55, 97, 57, 48, 52, 51, 52, 102, 54, 52, 100, 48, 51, 54, 50, 102, 50, 97, 50, 100, 50, 100, 48, 97, 57, 48, 99, 102, 49, 97, 53, 97, 52, 99, 53, 100, 98, 48, 50, 100, 53, 54, 101, 99, 99, 52, 99, 53, 98, 102, 51, 52, 48, 48, 55, 50, 48, 56, 100, 53, 98, 56, 56, 55, 49, 56, 53, 56, 54, 53] } from congrArg str ((congrArg hexL (str_data _)).trans kn_xs)] at h
    exact h
  have Yo1 : Hid (∀ W, Calls Tryd.prog 4 #[.string (str [18, 15, 182, 207, 252, 248, 179, 44, 67, 231, 34, 82, 86, 196, 248, 55, 168, 101, 72, 201, 44, 204, 53, 72, 8, 5, 152, 124, 183, 11, 225, 123])] W fun e w' => e = .returned (.string { data := #[49, 50, 48, 102, 98, 54, 99, 102, 102, 99, 102, 56, 98, 51, 50, 99, 52, 51, 101, 55, 50, 50, 53, 50, 53, 54, 99, 52, 102, 56, 51, 55, 97, 56, 54, 53, 52, 56, 99, 57, 50, 99, 99, 99, 51, 53, 52, 56, 48, 56, 48, 53, 57, 56, 55, 99, 98, 55, 48, 98, 101, 49, 55, 98] }) ∧ Below W.heap.size W w') := fun W => by
    have h := hex_any (str [18, 15, 182, 207, 252, 248, 179, 44, 67, 231, 34, 82, 86, 196, 248, 55, 168, 101, 72, 201, 44, 204, 53, 72, 8, 5, 152, 124, 183, 11, 225, 123]) W (by decide)
    rw [show hexS (str [18, 15, 182, 207, 252, 248, 179, 44, 67, 231, 34, 82, 86, 196, 248, 55, 168, 101, 72, 201, 44, 204, 53, 72, 8, 5, 152, 124, 183, 11, 225, 123]) = { data := #[49, 50, 48, 102, 98, 54, 99, 102, 102, 99, 102, 56, 98, 51, 50, 99, 52, 51, 101, 55, 50, 50, 53, 50, 53, 54, 99, 52, 102, 56, 51, 55, 97, 56, 54, 53, 52, 56, 99, 57, 50, 99, 99, 99, 51, 53, 52, 56, 48, 56, 48, 53, 57, 56, 55, 99, 98, 55, 48, 98, 101, 49, 55, 98] } from congrArg str ((congrArg hexL (str_data _)).trans kn_xo1)] at h
    exact h
  have Yo2 : Hid (∀ W, Calls Tryd.prog 4 #[.string (str [174, 77, 12, 149, 175, 107, 70, 211, 45, 10, 223, 249, 40, 240, 109, 208, 42, 48, 63, 142, 243, 194, 81, 223, 214, 226, 216, 90, 149, 71, 76, 67])] W fun e w' => e = .returned (.string { data := #[97, 101, 52, 100, 48, 99, 57, 53, 97, 102, 54, 98, 52, 54, 100, 51, 50, 100, 48, 97, 100, 102, 102, 57, 50, 56, 102, 48, 54, 100, 100, 48, 50, 97, 51, 48, 51, 102, 56, 101, 102, 51, 99, 50, 53, 49, 100, 102, 100, 54, 101, 50, 100, 56, 53, 97, 57, 53, 52, 55, 52, 99, 52, 51] }) ∧ Below W.heap.size W w') := fun W => by
    have h := hex_any (str [174, 77, 12, 149, 175, 107, 70, 211, 45, 10, 223, 249, 40, 240, 109, 208, 42, 48, 63, 142, 243, 194, 81, 223, 214, 226, 216, 90, 149, 71, 76, 67]) W (by decide)
    rw [show hexS (str [174, 77, 12, 149, 175, 107, 70, 211, 45, 10, 223, 249, 40, 240, 109, 208, 42, 48, 63, 142, 243, 194, 81, 223, 214, 226, 216, 90, 149, 71, 76, 67]) = { data := #[97, 101, 52, 100, 48, 99, 57, 53, 97, 102, 54, 98, 52, 54, 100, 51, 50, 100, 48, 97, 100, 102, 102, 57, 50, 56, 102, 48, 54, 100, 100, 48, 50, 97, 51, 48, 51, 102, 56, 101, 102, 51, 99, 50, 53, 49, 100, 102, 100, 54, 101, 50, 100, 56, 53, 97, 57, 53, 52, 55, 52, 99, 52, 51] } from congrArg str ((congrArg hexL (str_data _)).trans kn_xo2)] at h
    exact h
  have Yo3 : Hid (∀ W, Calls Tryd.prog 4 #[.string (str [52, 140, 137, 219, 203, 211, 43, 47, 50, 216, 20, 184, 17, 110, 132, 207, 43, 23, 52, 126, 188, 24, 0, 24, 28, 78, 42, 31, 184, 221, 83, 225, 198, 53, 81, 140, 125, 172, 71, 233])] W fun e w' => e = .returned (.string { data := #[51, 52, 56, 99, 56, 57, 100, 98, 99, 98, 100, 51, 50, 98, 50, 102, 51, 50, 100, 56, 49, 52, 98, 56, 49, 49, 54, 101, 56, 52, 99, 102, 50, 98, 49, 55, 51, 52, 55, 101, 98, 99, 49, 56, 48, 48, 49, 56, 49, 99, 52, 101, 50, 97, 49, 102, 98, 56, 100, 100, 53, 51, 101, 49, 99, 54, 51, 53, 53, 49, 56, 99, 55, 100, 97, 99, 52, 55, 101, 57] }) ∧ Below W.heap.size W w') := fun W => by
    have h := hex_any (str [52, 140, 137, 219, 203, 211, 43, 47, 50, 216, 20, 184, 17, 110, 132, 207, 43, 23, 52, 126, 188, 24, 0, 24, 28, 78, 42, 31, 184, 221, 83, 225, 198, 53, 81, 140, 125, 172, 71, 233]) W (by decide)
    rw [show hexS (str [52, 140, 137, 219, 203, 211, 43, 47, 50, 216, 20, 184, 17, 110, 132, 207, 43, 23, 52, 126, 188, 24, 0, 24, 28, 78, 42, 31, 184, 221, 83, 225, 198, 53, 81, 140, 125, 172, 71, 233]) = { data := #[51, 52, 56, 99, 56, 57, 100, 98, 99, 98, 100, 51, 50, 98, 50, 102, 51, 50, 100, 56, 49, 52, 98, 56, 49, 49, 54, 101, 56, 52, 99, 102, 50, 98, 49, 55, 51, 52, 55, 101, 98, 99, 49, 56, 48, 48, 49, 56, 49, 99, 52, 101, 50, 97, 49, 102, 98, 56, 100, 100, 53, 51, 101, 49, 99, 54, 51, 53, 53, 49, 56, 99, 55, 100, 97, 99, 52, 55, 101, 57] } from congrArg str ((congrArg hexL (str_data _)).trans kn_xo3)] at h
    exact h
  revert Xm1 Xm3 Xm4 Xr1 Xr2 Xh1 Xh3 Xh2 Xp Xs Xo1 Xo2 Xo3 Yh1 Yh2 Yh3 Yp Ys Yo1 Yo2 Yo3
  generalize str [176, 52, 76, 97, 216, 219, 56, 83, 92, 168, 175, 206, 175, 11, 241, 43, 136, 29, 194, 0, 201, 131, 61, 167, 38, 233, 55, 108, 46, 50, 207, 247] = y1
  generalize str [91, 220, 193, 70, 191, 96, 117, 78, 106, 4, 36, 38, 8, 149, 117, 199, 90, 0, 63, 8, 157, 39, 57, 131, 157, 236, 88, 185, 100, 236, 56, 67] = y2
  generalize str [96, 228, 49, 89, 30, 224, 182, 127, 13, 138, 38, 170, 203, 245, 183, 127, 142, 11, 198, 33, 55, 40, 197, 20, 5, 70, 4, 15, 14, 227, 127, 84] = y3
  generalize str [7, 119, 9, 54, 44, 46, 50, 223, 13, 220, 63, 13, 196, 123, 186, 99, 144, 182, 199, 59, 181, 15, 156, 49, 34, 236, 132, 74, 215, 194, 179, 229] = yp
  generalize str [60, 178, 95, 37, 250, 172, 213, 122, 144, 67, 79, 100, 208, 54, 47, 42, 45, 45, 10, 144, 207, 26, 90, 76, 93, 176, 45, 86, 236, 196, 197, 191, 52, 0, 114, 8, 213, 184, 135, 24, 88, 101] = ys
  generalize str [18, 15, 182, 207, 252, 248, 179, 44, 67, 231, 34, 82, 86, 196, 248, 55, 168, 101, 72, 201, 44, 204, 53, 72, 8, 5, 152, 124, 183, 11, 225, 123] = z1
  generalize str [174, 77, 12, 149, 175, 107, 70, 211, 45, 10, 223, 249, 40, 240, 109, 208, 42, 48, 63, 142, 243, 194, 81, 223, 214, 226, 216, 90, 149, 71, 76, 67] = z2
  generalize str [52, 140, 137, 219, 203, 211, 43, 47, 50, 216, 20, 184, 17, 110, 132, 207, 43, 23, 52, 126, 188, 24, 0, 24, 28, 78, 42, 31, 184, 221, 83, 225, 198, 53, 81, 140, 125, 172, 71, 233] = z3
  generalize str (List.replicate 20 11) = m1
  generalize str (List.replicate 131 170) = m3
  generalize str (List.replicate 22 11) = m4
  generalize str (riseL 0 13) = r1
  generalize str (riseL 240 10) = r2
  intro Xm1 Xm3 Xm4 Xr1 Xr2 Xh1 Xh3 Xh2 Xp Xs Xo1 Xo2 Xo3 Yh1 Yh2 Yh3 Yp Ys Yo1 Yo2 Yo3
  go_enter Tryd.func3, Tryd.ntmps3
  go_wp2_with fail
  refine (Xm1.out w).mono ?_
  rintro e w1 ⟨rfl, hb1⟩
  have z1 := hb1.size
  go_wp2_with fail
  refine (Xh1.out w1 hb1).mono ?_
  rintro e w2 ⟨rfl, hb2'⟩
  have hb2 := hb1.trans (hb2'.mono z1)
  clear hb1 hb2' z1
  have z2 := hb2.size
  go_wp2_with fail
  refine (Yh1.out w2).mono ?_
  rintro e w3 ⟨rfl, hb3'⟩
  have hb3 := hb2.trans (hb3'.mono z2)
  clear hb2 hb3' z2
  have z3 := hb3.size
  go_wp2_with fail
  refine (Xh2.out w3 hb3).mono ?_
  rintro e w4 ⟨rfl, hb4'⟩
  have hb4 := hb3.trans (hb4'.mono z3)
  clear hb3 hb4' z3
  have z4 := hb4.size
  go_wp2_with fail
  refine (Yh2.out w4).mono ?_
  rintro e w5 ⟨rfl, hb5'⟩
  have hb5 := hb4.trans (hb5'.mono z4)
  clear hb4 hb5' z4
  have z5 := hb5.size
  go_wp2_with fail
  refine (Xm3.out w5).mono ?_
  rintro e w6 ⟨rfl, hb6'⟩
  have hb6 := hb5.trans (hb6'.mono z5)
  clear hb5 hb6' z5
  have z6 := hb6.size
  go_wp2_with fail
  refine (Xh3.out w6 hb6).mono ?_
  rintro e w7 ⟨rfl, hb7'⟩
  have hb7 := hb6.trans (hb7'.mono z6)
  clear hb6 hb7' z6
  have z7 := hb7.size
  go_wp2_with fail
  refine (Yh3.out w7).mono ?_
  rintro e w8 ⟨rfl, hb8'⟩
  have hb8 := hb7.trans (hb8'.mono z7)
  clear hb7 hb8' z7
  have z8 := hb8.size
  go_wp2_with fail
  refine (Xr1.out w8).mono ?_
  rintro e w9 ⟨rfl, hb9'⟩
  have hb9 := hb8.trans (hb9'.mono z8)
  clear hb8 hb9' z8
  have z9 := hb9.size
  go_wp2_with fail
  refine (Xm4.out w9).mono ?_
  rintro e w10 ⟨rfl, hb10'⟩
  have hb10 := hb9.trans (hb10'.mono z9)
  clear hb9 hb10' z9
  have z10 := hb10.size
  go_wp2_with fail
  refine (Xp.out w10 hb10).mono ?_
  rintro e w11 ⟨rfl, hb11'⟩
  have hb11 := hb10.trans (hb11'.mono z10)
  clear hb10 hb11' z10
  have z11 := hb11.size
  go_wp2_with fail
  refine (Xr2.out w11).mono ?_
  rintro e w12 ⟨rfl, hb12'⟩
  have hb12 := hb11.trans (hb12'.mono z11)
  clear hb11 hb12' z11
  have z12 := hb12.size
  go_wp2_with fail
  refine (Xs.out w12 hb12).mono ?_
  rintro e w13 ⟨rfl, hb13'⟩
  have hb13 := hb12.trans (hb13'.mono z12)
  clear hb12 hb13' z12
  have z13 := hb13.size
  go_wp2_with fail
  refine (knum_any 0 w13).mono ?_
  rintro e w' ⟨rfl, rfl⟩
  go_wp2_with fail
  refine (Yp.out w13).mono ?_
  rintro e w14 ⟨rfl, hb14'⟩
  have hb14 := hb13.trans (hb14'.mono z13)
  clear hb13 hb14' z13
  have z14 := hb14.size
  go_wp2_with fail
  refine (Ys.out w14).mono ?_
  rintro e w15 ⟨rfl, hb15'⟩
  have hb15 := hb14.trans (hb15'.mono z14)
  clear hb14 hb15' z14
  have z15 := hb15.size
  go_wp2_with fail
  refine (Xo1.out w15 hb15).mono ?_
  rintro e w16 ⟨rfl, hb16'⟩
  have hb16 := hb15.trans (hb16'.mono z15)
  clear hb15 hb16' z15
  have z16 := hb16.size
  go_wp2_with fail
  refine (Xo2.out w16 hb16).mono ?_
  rintro e w17 ⟨rfl, hb17'⟩
  have hb17 := hb16.trans (hb17'.mono z16)
  clear hb16 hb17' z16
  have z17 := hb17.size
  go_wp2_with fail
  refine (Xo3.out w17 hb17).mono ?_
  rintro e w18 ⟨rfl, hb18'⟩
  have hb18 := hb17.trans (hb18'.mono z17)
  clear hb17 hb18' z17
  have z18 := hb18.size
  go_wp2_with fail
  refine (knum_any 0 w18).mono ?_
  rintro e w' ⟨rfl, rfl⟩
  go_wp2_with fail
  refine (knum_any 0 w18).mono ?_
  rintro e w' ⟨rfl, rfl⟩
  go_wp2_with fail
  refine (knum_any 0 w18).mono ?_
  rintro e w' ⟨rfl, rfl⟩
  go_wp2_with fail
  refine (Yo1.out w18).mono ?_
  rintro e w19 ⟨rfl, hb19'⟩
  have hb19 := hb18.trans (hb19'.mono z18)
  clear hb18 hb19' z18
  have z19 := hb19.size
  go_wp2_with fail
  refine (Yo2.out w19).mono ?_
  rintro e w20 ⟨rfl, hb20'⟩
  have hb20 := hb19.trans (hb20'.mono z19)
  clear hb19 hb20' z19
  have z20 := hb20.size
  go_wp2_with fail
  refine (Yo3.out w20).mono ?_
  rintro e w21 ⟨rfl, hb21'⟩
  have hb21 := hb20.trans (hb21'.mono z20)
  clear hb20 hb21' z20
  have z21 := hb21.size
  go_wp2
  go_ret
  exact ⟨rfl, hb21⟩

end Go.Proofs.YtgbkalflpgghnaaDoor
