import Derived.Test.YtjjabkimmgcejaaDoorKdfE
namespace Go.Proofs.YtjjabkimmgcejaaDoor
open Go.RowKit Go.Lib Go.Deep

theorem hmac_long (key text : List UInt8) (h : 64 < key.length) : hmacL (shaL key) text = hmacL key text := by
  unfold hmacL outerL innerL
  rw [k64_long key h]
theorem fill_zeros (l : List UInt8) (n : Nat) (h : l.length + n ≤ 64) : fill64 (l ++ zeros n) = fill64 l := by
  unfold fill64 zeros
  rw [List.append_assoc, List.length_append, List.length_replicate, List.replicate_append_replicate]
  congr 2
  omega
theorem hmac_zeros (key text : List UInt8) (n : Nat) (h : key.length + n ≤ 64) : hmacL (key ++ zeros n) text = hmacL key text := by
  have e : fill64 (k64 (key ++ zeros n)) = fill64 (k64 key) := by
    rw [k64, k64, if_pos (by rw [List.length_append]; simp [zeros]; omega), if_pos (by omega), fill_zeros key n h]
  unfold hmacL outerL innerL
  rw [e]

set_option maxRecDepth 20000 in
set_option maxHeartbeats 1000000 in
theorem kdfKeys_walk (key : ByteArray) (n : Int) (text : ByteArray) (w : World) (hk : key.size ≤ 140737488351232) (hx : text.size ≤ 140737488351232) (ht : Tabs w) (h4 : 4 ≤ w.heap.size) :
    Calls Tryd.prog 3 #[.string key, .int .i64 n, .string text] w fun e w' => e = .returned (.bool true) ∧ Below w.heap.size w w' := by
  have hl : key.data.toList.length = key.size := (size_eq key).symm
  have h32 : ((str (hmacL key.data.toList text.data.toList)).size : Int) = 32 := by rw [str_size, hmacL_length]; rfl
  have hh := hmac_one key text (by omega) (by omega)
  by_cases hlong : 64 < key.size
  · have hle : (64 : Int) < (key.size : Int) := by omega
    have hsu := sum_one key
    have hh2 := hmac_one (str (shaL key.data.toList)) text (by rw [str_size, shaL_length]; omega) (by omega)
    rw [str_data, hmac_long _ _ (by omega)] at hh2
    revert hh hh2 hsu h32
    generalize str (hmacL key.data.toList text.data.toList) = y
    generalize str (shaL key.data.toList) = ky
    intro h32 hh hsu hh2
    go_enter Tryd.func3, Tryd.ntmps3
    go_wp2_with fail
    refine (hh w ht h4).mono ?_
    rintro e w1 ⟨rfl, hb1⟩
    have z1 := hb1.size
    go_wp2_with fail
    refine (hsu w1 (ht.below hb1 (by omega)) (by omega) (by omega)).mono ?_
    rintro e w2 ⟨rfl, hb2'⟩
    have hb2 := hb1.trans (hb2'.mono z1)
    clear hb1 hb2'
    have z2 := hb2.size
    have hh3 := hh2 w2 (ht.below hb2 (by omega)) (by omega)
    go_wp2_with (go_at_call 9; refine hh3.mono ?_; rintro e w3 ⟨rfl, hb3⟩)
    go_ret
    exact ⟨rfl, hb2.trans (hb3.mono z2)⟩
  · have hle : ¬ (64 : Int) < (key.size : Int) := by omega
    have hcl := clipped_any n 0 (64 - key.size) (by omega) (by omega)
    rw [show ((64 - key.size : Nat) : Int) = 64 - (key.size : Int) by omega, show ((0 : Nat) : Int) = 0 from rfl] at hcl
    have HM : Hid (∀ r : Nat, r ≤ 64 - key.size → (∀ W : World, Calls Tryd.prog 12 #[.int .u8 0, .int .i64 (r : Int)] W fun e w' => e = .returned (.string (str (zeros r))) ∧ Below W.heap.size W w') ∧ key.size + (str (zeros r)).size ≤ 9223372036854775807 ∧
        (∀ W : World, Tabs W → 4 ≤ W.heap.size → Calls Tryd.prog 9 #[.string (key ++ str (zeros r)), .slice (some ⟨W.heap.size, 0, none⟩) 1 1] (W.alloc (.cells #[.string text] 9)) fun e w' => e = .returned (.string (str (hmacL key.data.toList text.data.toList))) ∧ Below W.heap.size W w')) := fun r hr => by
      have hzl : (zeros r : List UInt8).length = r := by simp [zeros]
      refine ⟨fun W => many_any 0 r (by omega) W, by rw [str_size, hzl]; omega, fun W hT h4W => ?_⟩
      have hd : (key ++ str (zeros r)).data.toList = key.data.toList ++ zeros r := by rw [ByteArray.data_append, Array.toList_append, str_data]
      have h := hmac_one (key ++ str (zeros r)) text (by rw [size_eq, hd, List.length_append, hzl, hl]; omega) (by omega) W hT h4W
      rw [hd, hmac_zeros _ _ _ (by rw [hl]; omega)] at h
      exact h
    revert hh h32 HM
    generalize str (hmacL key.data.toList text.data.toList) = y
    intro h32 hh HM
    go_enter Tryd.func3, Tryd.ntmps3
    go_wp2_with fail
    refine (hh w ht h4).mono ?_
    rintro e w1 ⟨rfl, hb1⟩
    have z1 := hb1.size
    go_wp2_with fail
    refine (hcl w1).mono ?_
    rintro e w1' ⟨⟨r, rfl, _, hr⟩, rfl⟩
    obtain ⟨hm1, hm2, hm3⟩ := HM.out r hr
    clear hcl HM
    revert hm1 hm2 hm3
    generalize str (zeros r) = z
    intro hm1 hm2 hm3
    go_wp2_with fail
    refine (hm1 w1).mono ?_
    rintro e w2 ⟨rfl, hb2'⟩
    have hb2 := hb1.trans (hb2'.mono z1)
    clear hb1 hb2' hm1
    have z2 := hb2.size
    have hh3 := hm3 w2 (ht.below hb2 (by omega)) (by omega)
    go_wp2_with (go_at_call 9; refine hh3.mono ?_; rintro e w3 ⟨rfl, hb3⟩)
    go_ret
    exact ⟨rfl, hb2.trans (hb3.mono z2)⟩

end Go.Proofs.YtjjabkimmgcejaaDoor
