import Derived.Test.YtjjabkimmgcejaaDoorPasF
import Derived.Test.YtjjabkimmgcejaaDoorExtA
import Derived.Test.YtjjabkimmgcejaaDoorKdfE
namespace Go.Proofs.YtjjabkimmgcejaaDoor
open Go.RowKit Go.Lib

theorem expAll_take (key info : List UInt8) (m n : Nat) (h : m ≤ n) : (expAll key info n).take (32 * m) = expAll key info m := by
  induction n with
  | zero =>
    obtain rfl : m = 0 := by omega
    rfl
  | succ n ih =>
    by_cases hm : m = n + 1
    · subst hm
      exact List.take_of_length_le (by rw [expAll_length]; omega)
    · rw [expAll, List.take_append_of_le_length (by rw [expAll_length]; omega)]
      exact ih (by omega)
theorem expL_take (key info : List UInt8) (m n : Nat) (h : m ≤ n) : (expL key info n).take m = expL key info m := by
  rw [expL, expL, List.take_take, ← expAll_take key info ((m + 31) / 32) ((n + 31) / 32) (by omega), List.take_take]
  congr 1
  omega
theorem pasAll_take (key salt : List UInt8) (R m n : Nat) (h : m ≤ n) : (pasAll key salt R n).take (32 * m) = pasAll key salt R m := by
  induction n with
  | zero =>
    obtain rfl : m = 0 := by omega
    rfl
  | succ n ih =>
    by_cases hm : m = n + 1
    · subst hm
      exact List.take_of_length_le (by rw [pasAll_length]; omega)
    · rw [pasAll, List.take_append_of_le_length (by rw [pasAll_length]; omega)]
      exact ih (by omega)
theorem pasL_take (key salt : List UInt8) (R m n : Nat) (h : m ≤ n) : (pasL key salt R n).take m = pasL key salt R m := by
  rw [pasL, pasL, List.take_take, ← pasAll_take key salt R ((m + 31) / 32) ((n + 31) / 32) (by omega), List.take_take]
  congr 1
  omega
theorem pasL_length (key salt : List UInt8) (R n : Nat) : (pasL key salt R n).length = n := by
  rw [pasL, List.length_take, pasAll_length]
  omega
theorem ext_take (a : List UInt8) (m : Nat) : (str a).extract 0 m = str (a.take m) := by
  apply ByteArray.ext
  apply Array.ext'
  rw [extract_data, str_data, str_data, List.drop_zero, Nat.sub_zero]

set_option maxRecDepth 40000 in
set_option maxHeartbeats 4000000 in
theorem kdfPrefix_walk (key salt : ByteArray) (few many rounds : Int) (w : World) (b0 : key.size ≤ 140737488351232) (b1 : salt.size ≤ 140737488351232) (ht : Tabs w) (h4 : 4 ≤ w.heap.size) :
    Calls Tryd.prog 5 #[.string key, .string salt, .int .i64 few, .int .i64 many, .int .i64 rounds] w fun e w' => e = .returned (.bool true) ∧ Below w.heap.size w w' := by
  go_enter Tryd.func5, Tryd.ntmps5
  go_wp2_with fail
  refine (clipped_any many 0 1024 (by omega) (by omega) w).mono ?_
  rintro e w' ⟨⟨n, rfl, _, hn⟩, rfl⟩
  go_wp2_with fail
  refine (clipped_any few 0 n (by omega) (by omega) w).mono ?_
  rintro e w' ⟨⟨m, rfl, _, hm⟩, rfl⟩
  go_wp2_with fail
  refine (clipped_any rounds 1 8 (by omega) (by omega) w).mono ?_
  rintro e w' ⟨⟨r, rfl, hr1, hr2⟩, rfl⟩
  have k1 := fun W => kexpand_any key salt (m : Int) b0 b1 (by omega) (by omega) W
  have k2 := fun W => kexpand_any key salt (n : Int) b0 b1 (by omega) (by omega) W
  have k3 := fun W => kpbkdf_any key salt (r : Int) (m : Int) b0 b1 (by omega) (by omega) (by omega) (by omega) W
  have k4 := fun W => kpbkdf_any key salt (r : Int) (n : Int) b0 b1 (by omega) (by omega) (by omega) (by omega) W
  have k5 := fun W => kexpand_bad key salt (8161 + (n : Int)) (by omega) W
  have k6 := fun W => kpbkdf_long key salt (r : Int) (1025 + (n : Int)) (by omega) (by omega) (by omega) W
  have k7 := fun W => kpbkdf_rounds key salt (4096 + (r : Int)) (n : Int) (by omega) W
  rw [Int.toNat_natCast] at k1 k2 k3 k4
  rw [Int.toNat_natCast] at k3 k4
  have s1 : (str (expL key.data.toList salt.data.toList m)).size = m := by rw [str_size, expL_length]
  have s2 : (str (expL key.data.toList salt.data.toList n)).size = n := by rw [str_size, expL_length]
  have s3 : (str (pasL key.data.toList salt.data.toList (r - 1) m)).size = m := by rw [str_size, pasL_length]
  have s4 : (str (pasL key.data.toList salt.data.toList (r - 1) n)).size = n := by rw [str_size, pasL_length]
  have x1 : (str (expL key.data.toList salt.data.toList n)).extract 0 m = str (expL key.data.toList salt.data.toList m) := by rw [ext_take, expL_take _ _ m n hm]
  have x2 : (str (pasL key.data.toList salt.data.toList (r - 1) n)).extract 0 m = str (pasL key.data.toList salt.data.toList (r - 1) m) := by rw [ext_take, pasL_take _ _ _ m n hm]
  revert k1 k2 k3 k4 s1 s2 s3 s4 x1 x2
  generalize str (expL key.data.toList salt.data.toList m) = y1
  generalize str (expL key.data.toList salt.data.toList n) = y2
  generalize str (pasL key.data.toList salt.data.toList (r - 1) m) = y3
  generalize str (pasL key.data.toList salt.data.toList (r - 1) n) = y4
  intro k1 k2 k3 k4 s1 s2 s3 s4 x1 x2
  have hmn : (m : Int) ≤ (n : Int) := by omega
  have hm2 : (m : Int) ≤ (y2.size : Int) := by omega
  have hm4 : (m : Int) ≤ (y4.size : Int) := by omega
  have v5 : IntKind.i64.wrap (8161 + (n : Int)) = 8161 + (n : Int) := by rw [IntKind.wrap_i64]; omega
  have v6 : IntKind.i64.wrap (1025 + (n : Int)) = 1025 + (n : Int) := by rw [IntKind.wrap_i64]; omega
  have v7 : IntKind.i64.wrap (4096 + (r : Int)) = 4096 + (r : Int) := by rw [IntKind.wrap_i64]; omega
  go_wp2_with fail
  refine (k1 w ht h4).mono ?_
  rintro e w1 ⟨rfl, hb1⟩
  have z1 := hb1.size
  go_wp2_with fail
  refine (k2 w1 (ht.below hb1 (by omega)) (by omega)).mono ?_
  rintro e w2 ⟨rfl, hb2'⟩
  have hb2 := hb1.trans (hb2'.mono z1)
  clear hb1 hb2'
  have z2 := hb2.size
  go_wp2_with fail
  refine (k3 w2 (ht.below hb2 (by omega)) (by omega)).mono ?_
  rintro e w3 ⟨rfl, hb3'⟩
  have hb3 := hb2.trans (hb3'.mono z2)
  clear hb2 hb3'
  have z3 := hb3.size
  go_wp2_with fail
  refine (k4 w3 (ht.below hb3 (by omega)) (by omega)).mono ?_
  rintro e w4 ⟨rfl, hb4'⟩
  have hb4 := hb3.trans (hb4'.mono z3)
  clear hb3 hb4' k1 k2 k3 k4
  have z4 := hb4.size
  go_wp2_with (go_at_call 15; refine (num3_any _ _).mono ?_; rintro e w' ⟨rfl, rfl⟩)
  refine (k5 w4).mono ?_
  rintro e w5 ⟨rfl, hb5'⟩
  have hb5 := hb4.trans (hb5'.mono z4)
  clear hb4 hb5'
  have z5 := hb5.size
  go_wp2_with fail
  refine (k6 w5).mono ?_
  rintro e w6 ⟨rfl, hb6'⟩
  have hb6 := hb5.trans (hb6'.mono z5)
  clear hb5 hb6'
  have z6 := hb6.size
  go_wp2_with fail
  refine (k7 w6).mono ?_
  rintro e w7 ⟨rfl, hb7'⟩
  have hb7 := hb6.trans (hb7'.mono z6)
  clear hb6 hb7'
  go_wp2_with (go_at_call 15; refine (num3_any _ _).mono ?_; rintro e w' ⟨rfl, rfl⟩)
  go_ret
  exact ⟨rfl, hb7⟩

end Go.Proofs.YtjjabkimmgcejaaDoor
