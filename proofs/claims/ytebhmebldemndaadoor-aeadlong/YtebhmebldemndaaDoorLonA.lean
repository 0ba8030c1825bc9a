import Derived.Test.YtebhmebldemndaaDoorAe6S
import Derived.Test.YtebhmebldemndaaDoorAe6O
import Derived.Test.YtebhmebldemndaaDoorAeC
import Derived.Test.YtebhmebldemndaaDoorSz6B
import Derived.Test.YtebhmebldemndaaDoorChaM
namespace Go.Proofs.YtebhmebldemndaaDoor.Ae
open Go.RowKit Go.Lib Go.Deep

set_option maxRecDepth 20000 in
set_option maxHeartbeats 2000000 in
theorem aeadLong_walk (hS : SealC) (hO : OpenC) (key nonce aad plain : ByteArray) (w : World) (b0 : key.size ≤ 140737488351232) (b1 : nonce.size ≤ 140737488351232) (b2 : aad.size ≤ 140737488351232) (b3 : plain.size ≤ 140737488351232) (hT : ATabs w) :
    Calls Tryd.prog 3 #[.string key, .string nonce, .string aad, .string plain] w fun e w' => e = .returned (.bool true) ∧ Below w.heap.size w w' := by
  by_cases h1 : 100000 < aad.size
  · have i1 : (100000 : Int) < (aad.size : Int) := by omega
    go_enter Tryd.func3, Tryd.ntmps3
    go_wp2
    go_ret
    exact ⟨rfl, Below.refl _ _⟩
  have i1 : ¬ (100000 : Int) < (aad.size : Int) := by omega
  by_cases h2 : 100000 < plain.size
  · have i2 : (100000 : Int) < (plain.size : Int) := by omega
    go_enter Tryd.func3, Tryd.ntmps3
    go_wp2
    go_ret
    exact ⟨rfl, Below.refl _ _⟩
  have i2 : ¬ (100000 : Int) < (plain.size : Int) := by omega
  have HTT : Hid (∀ W, Below w.heap.size w W → ATabs W) := fun W h => hT.below h
  have hk := fun W => sized6_any key 32 (by omega) b0 W
  have hn := fun W => sized6_any nonce 24 (by omega) b1 W
  obtain ⟨yk, hyk⟩ : ∃ y, str (szZ key.data.toList 32) = y := ⟨_, rfl⟩
  obtain ⟨yn, hyn⟩ : ∃ y, str (szZ nonce.data.toList 24) = y := ⟨_, rfl⟩
  have sk : yk.size = 32 := by rw [← hyk, str_size, szZ_length]
  have sn : yn.size = 24 := by rw [← hyn, str_size, szZ_length]
  rw [hyk] at hk
  rw [hyn] at hn
  clear hyk hyn hT
  have hln : yn.data.toList.length = 24 := by rw [← size_eq]; exact sn
  have hhc := fun W (k : ATabs W) => Cha.hch_yes yk (yn.extract 0 16) sk (by simp; omega) W k.c k.s
  rw [show (yn.extract 0 16).data.toList = yn.data.toList.take 16 by rw [extract_data, List.drop_zero]] at hhc
  obtain ⟨yu, hyu⟩ : ∃ y, str (Cha.hchL yk.data.toList (yn.data.toList.take 16)) = y := ⟨_, rfl⟩
  obtain ⟨yo, hyo⟩ : ∃ y, str ([0, 0, 0, 0] ++ yn.data.toList.drop 16) = y := ⟨_, rfl⟩
  have su : yu.size = 32 := by rw [← hyu, str_size, Cha.hchL_length]
  have so : yo.size = 12 := by rw [← hyo, str_size, List.length_append, List.length_drop, hln]; rfl
  have hcat : ({ data := #[0, 0, 0, 0] } : ByteArray) ++ yn.extract 16 24 = yo := by
    rw [← hyo, ← str_of (({ data := #[0, 0, 0, 0] } : ByteArray) ++ _), ByteArray.data_append, Array.toList_append, extract_data, List.take_of_length_le (by rw [List.length_drop]; omega)]
  have hlo : yo.data.toList.length = 12 := by rw [← size_eq]; exact so
  have hsame : sealL yk.data.toList yn.data.toList aad.data.toList plain.data.toList = sealL yu.data.toList yo.data.toList aad.data.toList plain.data.toList := by
    unfold sealL keyL nonL
    rw [if_neg (by omega), if_neg (by omega), if_pos hlo, if_pos hlo, ← hyu, ← hyo, str_data, str_data]
  rw [hyu] at hhc
  have hs1 := fun W k => hS yk yn aad plain W (by omega) (by omega) (by omega) (by omega) k
  rw [(sealE_yes sk (.inr sn) (by omega) (by omega)).1, (sealE_yes sk (.inr sn) (by omega) (by omega)).2, hsame] at hs1
  have hs2 := fun W k => hS yu yo aad plain W (by omega) (by omega) (by omega) (by omega) k
  rw [(sealE_yes su (.inl so) (by omega) (by omega)).1, (sealE_yes su (.inl so) (by omega) (by omega)).2] at hs2
  obtain ⟨S, hSS⟩ : ∃ y, str (sealL yu.data.toList yo.data.toList aad.data.toList plain.data.toList) = y := ⟨_, rfl⟩
  have hSd : S.data.toList = sealL yu.data.toList yo.data.toList aad.data.toList plain.data.toList := by rw [← hSS, str_data]
  have hSz : S.size = plain.size + 16 := by rw [size_eq, hSd, sealL_length, ← size_eq]
  rw [hSS] at hs1 hs2
  have ho := fun W k => hO yu yo aad S W (by omega) (by omega) (by omega) (by omega) k
  rw [(open_seal su (.inl so) (by omega) (by omega) S hSd).1, (open_seal su (.inl so) (by omega) (by omega) S hSd).2] at ho
  clear hyu hyo hSS hSd hSz hsame hS hO hln hlo
  go_enter Tryd.func3, Tryd.ntmps3
  go_wp2_with fail
  refine (hk w).mono ?_
  rintro e w1 ⟨rfl, hb1⟩
  go_wp2_with fail
  refine (hn w1).mono ?_
  rintro e w2 ⟨rfl, hb2'⟩
  have hb2 := hb1.trans (hb2'.mono hb1.size)
  clear hb1 hb2'
  have q1 := hhc w2 (HTT.out _ hb2)
  go_wp2_with fail
  refine q1.mono ?_
  rintro e w3 ⟨rfl, hb3'⟩
  have hb3 := hb2.trans (hb3'.mono hb2.size)
  clear hb2 hb3' q1
  have q1 := hs1 w3 (HTT.out _ hb3)
  go_wp2_with (first | (go_at_call 11; refine (lnum_any _ _).mono ?_; rintro e w' ⟨rfl, rfl⟩) | (go_at_call 12; fail))
  refine q1.mono ?_
  rintro e w4 ⟨rfl, hb4'⟩
  have hb4 := hb3.trans (hb4'.mono hb3.size)
  clear hb3 hb4' q1
  have q1 := hs2 w4 (HTT.out _ hb4)
  go_wp2_with fail
  refine q1.mono ?_
  rintro e w5 ⟨rfl, hb5'⟩
  have hb5 := hb4.trans (hb5'.mono hb4.size)
  clear hb4 hb5' q1
  have q1 := ho w5 (HTT.out _ hb5)
  go_wp2_with fail
  refine q1.mono ?_
  rintro e w6 ⟨rfl, hb6'⟩
  have hb6 := hb5.trans (hb6'.mono hb5.size)
  clear hb5 hb6' q1
  go_wp2_with (go_at_call 11; refine (lnum_any _ _).mono ?_; rintro e w' ⟨rfl, rfl⟩)
  go_ret
  exact ⟨rfl, hb6⟩

end Go.Proofs.YtebhmebldemndaaDoor.Ae
