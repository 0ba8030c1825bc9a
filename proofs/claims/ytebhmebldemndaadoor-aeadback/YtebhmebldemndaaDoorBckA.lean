import Derived.Test.YtebhmebldemndaaDoorAe6S
import Derived.Test.YtebhmebldemndaaDoorAe6O
import Derived.Test.YtebhmebldemndaaDoorAeC
import Derived.Test.YtebhmebldemndaaDoorSz6B
namespace Go.Proofs.YtebhmebldemndaaDoor.Ae
open Go.RowKit Go.Lib Go.Deep

set_option maxRecDepth 20000 in
set_option maxHeartbeats 2000000 in
theorem aeadBack_walk (hS : SealC) (hO : OpenC) (key nonce : ByteArray) (long : Bool) (aad plain : ByteArray) (cut : Int) (w : World) (b0 : key.size ≤ 140737488351232) (b1 : nonce.size ≤ 140737488351232) (b2 : aad.size ≤ 140737488351232) (b3 : plain.size ≤ 140737488351232) (hT : ATabs w) :
    Calls Tryd.prog 5 #[.string key, .string nonce, .bool long, .string aad, .string plain, .int .i64 cut] w fun e w' => e = .returned (.bool true) ∧ Below w.heap.size w w' := by
  have HTT : Hid (∀ W, Below w.heap.size w W → ATabs W) := fun W h => hT.below h
  have hk := fun W => sized6_any key 32 (by omega) b0 W
  have hn := fun W => nonced_any nonce long b1 W
  obtain ⟨yk, hyk⟩ : ∃ y, str (szZ key.data.toList 32) = y := ⟨_, rfl⟩
  obtain ⟨yn, hyn⟩ : ∃ y, str (szZ nonce.data.toList (if long then 24 else 12)) = y := ⟨_, rfl⟩
  have sk : yk.size = 32 := by rw [← hyk, str_size, szZ_length]
  have sn : yn.size = 12 ∨ yn.size = 24 := by rw [← hyn, str_size, szZ_length]; cases long <;> simp
  rw [hyk] at hk
  rw [hyn] at hn
  clear hyk hyn hT
  have hse := fun W k => hS yk yn aad plain W (by omega) (by omega) (by omega) (by omega) k
  by_cases hbig : 1048576 < aad.size ∨ 1048576 < plain.size
  · rw [(sealE_big sk sn hbig).1, (sealE_big sk sn hbig).2] at hse
    by_cases h1 : 1048576 < aad.size
    · have i1 : (1048576 : Int) < (aad.size : Int) := by omega
      go_enter Tryd.func5, Tryd.ntmps5
      go_wp2_with fail
      refine (hk w).mono ?_
      rintro e w1 ⟨rfl, hb1⟩
      go_wp2_with fail
      refine (hn w1).mono ?_
      rintro e w2 ⟨rfl, hb2'⟩
      have hb2 := hb1.trans (hb2'.mono hb1.size)
      have hse2 := hse w2 (HTT.out _ hb2)
      go_wp2_with fail
      refine hse2.mono ?_
      rintro e w3 ⟨rfl, hb3'⟩
      have hb3 := hb2.trans (hb3'.mono hb2.size)
      go_wp2_with (go_at_call 11; refine (lnum_any _ _).mono ?_; rintro e w' ⟨rfl, rfl⟩)
      go_ret
      exact ⟨rfl, hb3⟩
    · have i1 : ¬ (1048576 : Int) < (aad.size : Int) := by omega
      have i2 : (1048576 : Int) < (plain.size : Int) := by omega
      go_enter Tryd.func5, Tryd.ntmps5
      go_wp2_with fail
      refine (hk w).mono ?_
      rintro e w1 ⟨rfl, hb1⟩
      go_wp2_with fail
      refine (hn w1).mono ?_
      rintro e w2 ⟨rfl, hb2'⟩
      have hb2 := hb1.trans (hb2'.mono hb1.size)
      have hse2 := hse w2 (HTT.out _ hb2)
      go_wp2_with fail
      refine hse2.mono ?_
      rintro e w3 ⟨rfl, hb3'⟩
      have hb3 := hb2.trans (hb3'.mono hb2.size)
      go_wp2_with (go_at_call 11; refine (lnum_any _ _).mono ?_; rintro e w' ⟨rfl, rfl⟩)
      go_ret
      exact ⟨rfl, hb3⟩
  · have i1 : ¬ (1048576 : Int) < (aad.size : Int) := by omega
    have i2 : ¬ (1048576 : Int) < (plain.size : Int) := by omega
    rw [(sealE_yes sk sn (by omega) (by omega)).1, (sealE_yes sk sn (by omega) (by omega)).2] at hse
    obtain ⟨S, hSS⟩ : ∃ y, str (sealL yk.data.toList yn.data.toList aad.data.toList plain.data.toList) = y := ⟨_, rfl⟩
    have hSd : S.data.toList = sealL yk.data.toList yn.data.toList aad.data.toList plain.data.toList := by rw [← hSS, str_data]
    have hSz : S.size = plain.size + 16 := by rw [size_eq, hSd, sealL_length, ← size_eq]
    rw [hSS] at hse
    have ho := fun W k => hO yk yn aad S W (by omega) (by omega) (by omega) (by omega) k
    rw [(open_seal sk sn (by omega) (by omega) S hSd).1, (open_seal sk sn (by omega) (by omega) S hSd).2] at ho
    obtain ⟨m, hm⟩ : ∃ m, cut.tmod 16 = m := ⟨_, rfl⟩
    have hm1 : m < 16 := by rw [← hm]; exact Int.tmod_lt_of_pos cut (by omega)
    have hm2 : -16 < m := by rw [← hm]; exact Int.lt_tmod_of_pos cut (by omega)
    have v1 : IntKind.i64.wrap m = m := by rw [IntKind.wrap_i64]; omega
    have v2 : IntKind.i64.wrap (m + 16) = m + 16 := by rw [IntKind.wrap_i64]; omega
    obtain ⟨j, hj, hj2⟩ : ∃ j : Nat, (m + 16).tmod 16 = (j : Int) ∧ j < 16 := ⟨((m + 16).tmod 16).toNat, by
      rw [Int.tmod_eq_emod_of_nonneg (by omega)]; omega, by rw [Int.tmod_eq_emod_of_nonneg (by omega)]; omega⟩
    have v3 : IntKind.i64.wrap (j : Int) = (j : Int) := by rw [IntKind.wrap_i64]; omega
    have ho2 := fun W k => hO yk yn aad (S.extract 0 j) W (by omega) (by omega) (by omega) (by simp; omega) k
    rw [(openE_short sk sn (by omega) (show (S.extract 0 j).size < 16 by simp; omega)).1, (openE_short sk sn (by omega) (show (S.extract 0 j).size < 16 by simp; omega)).2] at ho2
    have hszI : (S.size : Int) = (plain.size : Int) + 16 := by omega
    have hwz : IntKind.i64.wrap ((plain.size : Int) + 16) = (plain.size : Int) + 16 := by rw [IntKind.wrap_i64]; omega
    clear hSS hSd hS hO
    go_enter Tryd.func5, Tryd.ntmps5
    go_wp2_with fail
    refine (hk w).mono ?_
    rintro e w1 ⟨rfl, hb1⟩
    go_wp2_with fail
    refine (hn w1).mono ?_
    rintro e w2 ⟨rfl, hb2'⟩
    have hb2 := hb1.trans (hb2'.mono hb1.size)
    have hse2 := hse w2 (HTT.out _ hb2)
    clear hb1 hb2'
    go_wp2_with fail
    refine hse2.mono ?_
    rintro e w3 ⟨rfl, hb3'⟩
    have hb3 := hb2.trans (hb3'.mono hb2.size)
    clear hb2 hb3' hse2
    have ho1 := ho w3 (HTT.out _ hb3)
    go_wp2_with (first | (go_at_call 11; refine (lnum_any _ _).mono ?_; rintro e w' ⟨rfl, rfl⟩) | (go_at_call 13; fail))
    refine ho1.mono ?_
    rintro e w4 ⟨rfl, hb4'⟩
    have hb4 := hb3.trans (hb4'.mono hb3.size)
    clear hb3 hb4' ho1
    have ho3 := ho2 w4 (HTT.out _ hb4)
    go_wp2_with fail
    refine ho3.mono ?_
    rintro e w5 ⟨rfl, hb5'⟩
    have hb5 := hb4.trans (hb5'.mono hb4.size)
    clear hb4 hb5' ho3
    go_wp2_with (go_at_call 11; refine (lnum_any _ _).mono ?_; rintro e w' ⟨rfl, rfl⟩)
    go_ret
    exact ⟨rfl, hb5⟩

end Go.Proofs.YtebhmebldemndaaDoor.Ae
