import Derived.Test.YtengclnahppmhaaGreatDoorRfM2
import Derived.Test.YtengclnahppmhaaGreatDoorKdfA
import Derived.Test.YtengclnahppmhaaGreatDoorKdM1
namespace Go.Proofs.YtengclnahppmhaaGreatDoor
open Go.RowKit Go.Lib

set_option maxRecDepth 20000 in
set_option maxHeartbeats 1000000 in
theorem padded_any (key : ByteArray) (hks : key.size ≤ 281474976710656) (m : UInt8) (w : World) (hr : RTabs w) (h4 : 8 ≤ w.heap.size) :
    Calls Tryz.prog 98 #[.string key, .int .u8 (m.toNat : Int)] w fun e w' => e = .returned (.string (str (maskL m (fill64 (k64 key.data.toList))))) ∧ Below w.heap.size w w' := by
  obtain ⟨i0, hi, hz0, hz1, hz2⟩ := info_parts info5
  have hm8 := m.toNat_lt
  have hkl0 : key.data.toList.length = key.size := (size_eq key).symm
  by_cases hk : key.size ≤ 64
  · have hle : ¬ (64 : Int) < (key.size : Int) := by omega
    have HG : Hid (k64 key.data.toList = key.data.toList) := by show _ = _; rw [k64, if_pos (by omega)]
    clear hkl0
    revert HG
    generalize hky : key = ky
    intro HG
    rw [hky] at hk hle
    clear hky hks
    have hkl : ky.data.toList.length = ky.size := (size_eq ky).symm
    have hlen : (fill64 ky.data.toList).length = 64 := fill64_length _ (by omega)
    have HF : Hid (∀ i, (fill64 ky.data.toList)[i]? = some (if i < ky.size then ky.data.toList.getD i 0 else 0) ∨ 64 ≤ i) := fun i => by
      by_cases h64 : 64 ≤ i
      · exact Or.inr h64
      · left
        rw [fill64]
        by_cases hik : i < ky.size
        · rw [if_pos hik, List.getElem?_append_left (by omega), List.getD_eq_getElem?_getD, List.getElem?_eq_getElem (by omega)]
          rfl
        · rw [if_neg hik, List.getElem?_append_right (by omega), zeros, List.getElem?_replicate, if_pos (by omega)]
    have HK : Hid (∀ i, i < ky.size → ky.data.toList[i]? = some (ky.data.toList.getD i 0)) := fun i h => by
      rw [List.getD_eq_getElem?_getD, List.getElem?_eq_getElem (by omega)]
      rfl
    obtain ⟨l, hl⟩ : ∃ l, fill64 ky.data.toList = l := ⟨_, rfl⟩
    rw [hl] at hlen HF
    have HLG : Hid (fill64 ky.data.toList = l) := hl
    clear hl
    go_enter Tryz.func98, Tryz.ntmps98
    go_wp2
    go_loopg [6, 7] 64 (fun gk v i wr => ∃ k : Nat, k + gk = 64 ∧ i = .int .i64 k ∧ wr.ownsRow w.heap.size 5 1 v k (Lib.byteCells (maskL m (l.take k))) ∧ Below w.heap.size w wr)
    case atStart => exact ⟨0, by omega, rfl, World.ownsRow_nil _ _ _ _, Below.refl _ _⟩
    case round =>
      obtain ⟨k, hk', rfl, hown, hbel⟩ := hrel
      have HKK : Hid (k + gk = 64) := hk'
      have hk'' : k ≤ 64 := by omega
      clear hk'
      by_cases hlt : k < 64
      · obtain ⟨x, hx⟩ : ∃ x, l[k]? = some x := ⟨_, List.getElem?_eq_getElem (by omega)⟩
        have hx8 := x.toNat_lt
        have hxor : bits .xor .u8 (x.toNat : Int) (m.toNat : Int) = ((x ^^^ m).toNat : Int) := by rw [u8_xor_nat _ _ hx8 hm8, UInt8.toNat_xor]
        have HS : Hid (Lib.byteCells (maskL m (l.take (k + 1))) = Lib.byteCells (maskL m (l.take k)) ++ [.int .u8 ((x ^^^ m).toNat : Int)]) := by
          show _ = _
          rw [maskL_take m l k x hx, byteCells_append]
          rfl
        have hone : ∀ u ∈ [Value.int .u8 ((x ^^^ m).toNat : Int)], u.oneCell' = true := byteCells_one [x ^^^ m]
        have hml : k + 1 ≤ maxLen := by unfold maxLen; omega
        have hxe : x = (if k < ky.size then ky.data.toList.getD k 0 else 0) := by
          rcases HF.out k with h | h
          · rw [hx] at h; exact Option.some.inj h
          · omega
        clear hx
        by_cases hik : k < ky.size
        · have hikI : (k : Int) < (ky.size : Int) := by omega
          rw [if_pos hik] at hxe
          have hix := fun W => rindex_at (P := Tryz.prog) W 9 ky .i64 (k : Int) k x Tryz.underlying9 rfl (by rw [hxe]; exact HK.out k hik)
          clear hxe
          revert hix hxor HS hone
          generalize (x.toNat : Int) = xi
          generalize ((x ^^^ m).toNat : Int) = yi
          intro hxor HS hone hix
          go_wp2_with (at_builtin; refine wpList_append_own _ rfl _ _ 96 rfl w.heap.size 5 i0 (.int .u8 0) 1 1 Tryz.underlying96 hi hz0 hz1 hz2 rfl (by decide) _ _ _ rfl (hown.alloc _) ⟨wr.heap.size, 0, none⟩ 1 1 [.int .u8 yi] rfl rfl (by intro i u h; exact cells_new wr #[.int .u8 yi] 5 i u (by simpa using h)) hone hml (by omega) (by have := hbel.size; simp; omega) ?_; intro v' w' hown' hgrow' _)
          have R : w'.ownsRow w.heap.size 5 1 v' (k + 1) (Lib.byteCells (maskL m (l.take (k + 1)))) := by rw [HS.out]; exact hown'
          have hb' : Below w.heap.size w w' := by
            have h1 := hbel.alloc hbel.size (.cells #[.int .u8 yi] 5)
            exact h1.trans (grown_below hgrow' h1.size (hown.alloc _))
          clear hown' hgrow' hown
          go_wp2
          go_roundg (gk - 1)
          case measure => have := HKK.out; omega
          case rel => exact ⟨k + 1, by have := HKK.out; omega, by go_num, R, hb'⟩
        · have hikI : ¬ (k : Int) < (ky.size : Int) := by omega
          rw [if_neg hik] at hxe
          subst hxe
          have hxor : bits .xor .u8 0 (m.toNat : Int) = (((0 : UInt8) ^^^ m).toNat : Int) := hxor
          revert hxor HS hone
          generalize (((0 : UInt8) ^^^ m).toNat : Int) = yi
          intro HS hone hxor
          go_wp2_with (at_builtin; refine wpList_append_own _ rfl _ _ 96 rfl w.heap.size 5 i0 (.int .u8 0) 1 1 Tryz.underlying96 hi hz0 hz1 hz2 rfl (by decide) _ _ _ rfl (hown.alloc _) ⟨wr.heap.size, 0, none⟩ 1 1 [.int .u8 yi] rfl rfl (by intro i u h; exact cells_new wr #[.int .u8 yi] 5 i u (by simpa using h)) hone hml (by omega) (by have := hbel.size; simp; omega) ?_; intro v' w' hown' hgrow' _)
          have R : w'.ownsRow w.heap.size 5 1 v' (k + 1) (Lib.byteCells (maskL m (l.take (k + 1)))) := by rw [HS.out]; exact hown'
          have hb' : Below w.heap.size w w' := by
            have h1 := hbel.alloc hbel.size (.cells #[.int .u8 yi] 5)
            exact h1.trans (grown_below hgrow' h1.size (hown.alloc _))
          clear hown' hgrow' hown
          go_wp2
          go_roundg (gk - 1)
          case measure => have := HKK.out; omega
          case rel => exact ⟨k + 1, by have := HKK.out; omega, by go_num, R, hb'⟩
      · have e64 : k = 64 := by omega
        subst e64
        rw [List.take_of_length_le (by omega)] at hown
        have hml64 : (maskL m l).length = 64 := by rw [maskL_length, hlen]
        have hcv := convert_own (P := Tryz.prog) wr 96 9 5 w.heap.size _ (maskL m l) Tryz.underlying96 Tryz.underlying5 Tryz.underlying9 (by rw [hml64]; exact hown)
        clear hown
        go_wp2
        go_ret
        rw [HG.out, HLG.out]
        exact ⟨rfl, hbel⟩
  · have hle : (64 : Int) < (key.size : Int) := by omega
    have HG : Hid (k64 key.data.toList = (str (shaL key.data.toList)).data.toList) := by show _ = _; rw [k64, if_neg (by omega), str_data]
    have hrs := rsum_any key hks w hr h4
    have hk : (str (shaL key.data.toList)).size ≤ 64 := by rw [str_size, shaL_length]; omega
    clear hkl0
    revert HG hrs hk
    generalize str (shaL key.data.toList) = ky
    intro HG hrs hk
    have hkl : ky.data.toList.length = ky.size := (size_eq ky).symm
    have hlen : (fill64 ky.data.toList).length = 64 := fill64_length _ (by omega)
    have HF : Hid (∀ i, (fill64 ky.data.toList)[i]? = some (if i < ky.size then ky.data.toList.getD i 0 else 0) ∨ 64 ≤ i) := fun i => by
      by_cases h64 : 64 ≤ i
      · exact Or.inr h64
      · left
        rw [fill64]
        by_cases hik : i < ky.size
        · rw [if_pos hik, List.getElem?_append_left (by omega), List.getD_eq_getElem?_getD, List.getElem?_eq_getElem (by omega)]
          rfl
        · rw [if_neg hik, List.getElem?_append_right (by omega), zeros, List.getElem?_replicate, if_pos (by omega)]
    have HK : Hid (∀ i, i < ky.size → ky.data.toList[i]? = some (ky.data.toList.getD i 0)) := fun i h => by
      rw [List.getD_eq_getElem?_getD, List.getElem?_eq_getElem (by omega)]
      rfl
    obtain ⟨l, hl⟩ : ∃ l, fill64 ky.data.toList = l := ⟨_, rfl⟩
    rw [hl] at hlen HF
    have HLG : Hid (fill64 ky.data.toList = l) := hl
    clear hl
    go_enter Tryz.func98, Tryz.ntmps98
    go_wp2_with fail
    refine hrs.mono ?_
    clear hrs
    rintro e w0 ⟨rfl, hb0⟩
    go_wp2
    go_loopg [6, 7] 64 (fun gk v i wr => ∃ k : Nat, k + gk = 64 ∧ i = .int .i64 k ∧ wr.ownsRow w.heap.size 5 1 v k (Lib.byteCells (maskL m (l.take k))) ∧ Below w.heap.size w wr)
    case atStart => exact ⟨0, by omega, rfl, World.ownsRow_nil _ _ _ _, hb0⟩
    case round =>
      obtain ⟨k, hk', rfl, hown, hbel⟩ := hrel
      have HKK : Hid (k + gk = 64) := hk'
      have hk'' : k ≤ 64 := by omega
      clear hk'
      by_cases hlt : k < 64
      · obtain ⟨x, hx⟩ : ∃ x, l[k]? = some x := ⟨_, List.getElem?_eq_getElem (by omega)⟩
        have hx8 := x.toNat_lt
        have hxor : bits .xor .u8 (x.toNat : Int) (m.toNat : Int) = ((x ^^^ m).toNat : Int) := by rw [u8_xor_nat _ _ hx8 hm8, UInt8.toNat_xor]
        have HS : Hid (Lib.byteCells (maskL m (l.take (k + 1))) = Lib.byteCells (maskL m (l.take k)) ++ [.int .u8 ((x ^^^ m).toNat : Int)]) := by
          show _ = _
          rw [maskL_take m l k x hx, byteCells_append]
          rfl
        have hone : ∀ u ∈ [Value.int .u8 ((x ^^^ m).toNat : Int)], u.oneCell' = true := byteCells_one [x ^^^ m]
        have hml : k + 1 ≤ maxLen := by unfold maxLen; omega
        have hxe : x = (if k < ky.size then ky.data.toList.getD k 0 else 0) := by
          rcases HF.out k with h | h
          · rw [hx] at h; exact Option.some.inj h
          · omega
        clear hx
        by_cases hik : k < ky.size
        · have hikI : (k : Int) < (ky.size : Int) := by omega
          rw [if_pos hik] at hxe
          have hix := fun W => rindex_at (P := Tryz.prog) W 9 ky .i64 (k : Int) k x Tryz.underlying9 rfl (by rw [hxe]; exact HK.out k hik)
          clear hxe
          revert hix hxor HS hone
          generalize (x.toNat : Int) = xi
          generalize ((x ^^^ m).toNat : Int) = yi
          intro hxor HS hone hix
          go_wp2_with (at_builtin; refine wpList_append_own _ rfl _ _ 96 rfl w.heap.size 5 i0 (.int .u8 0) 1 1 Tryz.underlying96 hi hz0 hz1 hz2 rfl (by decide) _ _ _ rfl (hown.alloc _) ⟨wr.heap.size, 0, none⟩ 1 1 [.int .u8 yi] rfl rfl (by intro i u h; exact cells_new wr #[.int .u8 yi] 5 i u (by simpa using h)) hone hml (by omega) (by have := hbel.size; simp; omega) ?_; intro v' w' hown' hgrow' _)
          have R : w'.ownsRow w.heap.size 5 1 v' (k + 1) (Lib.byteCells (maskL m (l.take (k + 1)))) := by rw [HS.out]; exact hown'
          have hb' : Below w.heap.size w w' := by
            have h1 := hbel.alloc hbel.size (.cells #[.int .u8 yi] 5)
            exact h1.trans (grown_below hgrow' h1.size (hown.alloc _))
          clear hown' hgrow' hown
          go_wp2
          go_roundg (gk - 1)
          case measure => have := HKK.out; omega
          case rel => exact ⟨k + 1, by have := HKK.out; omega, by go_num, R, hb'⟩
        · have hikI : ¬ (k : Int) < (ky.size : Int) := by omega
          rw [if_neg hik] at hxe
          subst hxe
          have hxor : bits .xor .u8 0 (m.toNat : Int) = (((0 : UInt8) ^^^ m).toNat : Int) := hxor
          revert hxor HS hone
          generalize (((0 : UInt8) ^^^ m).toNat : Int) = yi
          intro HS hone hxor
          go_wp2_with (at_builtin; refine wpList_append_own _ rfl _ _ 96 rfl w.heap.size 5 i0 (.int .u8 0) 1 1 Tryz.underlying96 hi hz0 hz1 hz2 rfl (by decide) _ _ _ rfl (hown.alloc _) ⟨wr.heap.size, 0, none⟩ 1 1 [.int .u8 yi] rfl rfl (by intro i u h; exact cells_new wr #[.int .u8 yi] 5 i u (by simpa using h)) hone hml (by omega) (by have := hbel.size; simp; omega) ?_; intro v' w' hown' hgrow' _)
          have R : w'.ownsRow w.heap.size 5 1 v' (k + 1) (Lib.byteCells (maskL m (l.take (k + 1)))) := by rw [HS.out]; exact hown'
          have hb' : Below w.heap.size w w' := by
            have h1 := hbel.alloc hbel.size (.cells #[.int .u8 yi] 5)
            exact h1.trans (grown_below hgrow' h1.size (hown.alloc _))
          clear hown' hgrow' hown
          go_wp2
          go_roundg (gk - 1)
          case measure => have := HKK.out; omega
          case rel => exact ⟨k + 1, by have := HKK.out; omega, by go_num, R, hb'⟩
      · have e64 : k = 64 := by omega
        subst e64
        rw [List.take_of_length_le (by omega)] at hown
        have hml64 : (maskL m l).length = 64 := by rw [maskL_length, hlen]
        have hcv := convert_own (P := Tryz.prog) wr 96 9 5 w.heap.size _ (maskL m l) Tryz.underlying96 Tryz.underlying5 Tryz.underlying9 (by rw [hml64]; exact hown)
        clear hown
        go_wp2
        go_ret
        rw [HG.out, HLG.out]
        exact ⟨rfl, hbel⟩

set_option maxRecDepth 20000 in
set_option maxHeartbeats 1000000 in
theorem keyed_any (key text : ByteArray) (hk : key.size ≤ 281474976710656) (htx : text.size ≤ 140737488355328) (w : World) (hr : RTabs w) (h4 : 8 ≤ w.heap.size) :
    Calls Tryz.prog 76 #[.string key, .string text] w fun e w' => e = .returned (.string (str (hmacL key.data.toList text.data.toList))) ∧ Below w.heap.size w w' := by
  have hp := fun m W hR h4 => padded_any key hk m W hR h4
  have hpi : ∀ W, RTabs W → 8 ≤ W.heap.size → Calls Tryz.prog 98 #[.string key, .int .u8 54] W fun e w' => e = .returned (.string (str (innerL key.data.toList))) ∧ Below W.heap.size W w' := fun W hR h4 => hp 54 W hR h4
  have hpo : ∀ W, RTabs W → 8 ≤ W.heap.size → Calls Tryz.prog 98 #[.string key, .int .u8 92] W fun e w' => e = .returned (.string (str (outerL key.data.toList))) ∧ Below W.heap.size W w' := fun W hR h4 => hp 92 W hR h4
  clear hp
  have d1 : (str (innerL key.data.toList) ++ text).data.toList = innerL key.data.toList ++ text.data.toList := by rw [ByteArray.data_append, Array.toList_append, str_data]
  have s1 : (str (innerL key.data.toList)).size = 64 := by rw [str_size, innerL_length]
  have s2 : (str (outerL key.data.toList)).size = 64 := by rw [str_size, outerL_length]
  have a1 : (str (innerL key.data.toList)).size + text.size ≤ 9223372036854775807 := by omega
  have hs1 := rsum_any (str (innerL key.data.toList) ++ text) (by rw [size_eq, d1, List.length_append, innerL_length, ← size_eq]; omega)
  rw [d1] at hs1
  have s3 : (str (shaL (innerL key.data.toList ++ text.data.toList))).size = 32 := by rw [str_size, shaL_length]
  have a2 : (str (outerL key.data.toList)).size + (str (shaL (innerL key.data.toList ++ text.data.toList))).size ≤ 9223372036854775807 := by omega
  have d2 : (str (outerL key.data.toList) ++ str (shaL (innerL key.data.toList ++ text.data.toList))).data.toList = outerL key.data.toList ++ shaL (innerL key.data.toList ++ text.data.toList) := by rw [ByteArray.data_append, Array.toList_append, str_data, str_data]
  have hs2 := rsum_any (str (outerL key.data.toList) ++ str (shaL (innerL key.data.toList ++ text.data.toList))) (by rw [size_eq, d2, List.length_append, outerL_length, shaL_length]; omega)
  rw [d2] at hs2
  have HH : Hid (hmacL key.data.toList text.data.toList = shaL (outerL key.data.toList ++ shaL (innerL key.data.toList ++ text.data.toList))) := rfl
  rw [HH.out]
  clear d1 d2 s1 s2 s3 HH
  revert hpi hpo hs1 hs2 a1 a2
  generalize str (shaL (outerL key.data.toList ++ shaL (innerL key.data.toList ++ text.data.toList))) = y4
  generalize str (shaL (innerL key.data.toList ++ text.data.toList)) = y3
  generalize str (outerL key.data.toList) = y2
  generalize str (innerL key.data.toList) = y1
  intro hpi hpo a1 hs1 a2 hs2
  go_enter Tryz.func76, Tryz.ntmps76
  go_wp2_with fail
  refine (hpi w hr h4).mono ?_
  rintro e w1 ⟨rfl, hb1⟩
  have z1 := hb1.size
  go_wp2_with fail
  refine (hpo w1 (hr.below hb1 h4) (by omega)).mono ?_
  rintro e w2 ⟨rfl, hb2'⟩
  have hb2 := hb1.trans (hb2'.mono z1)
  clear hb1 hb2'
  have z2 := hb2.size
  go_wp2_with fail
  refine (hs1 w2 (hr.below hb2 h4) (by omega)).mono ?_
  rintro e w3 ⟨rfl, hb3'⟩
  have hb3 := hb2.trans (hb3'.mono z2)
  clear hb2 hb3'
  have z3 := hb3.size
  have hs3 := hs2 w3 (hr.below hb3 h4) (by omega)
  go_wp2_with (go_at_call 99; refine hs3.mono ?_; rintro e w4 ⟨rfl, hb4⟩)
  go_ret
  exact ⟨rfl, hb3.trans (hb4.mono z3)⟩

end Go.Proofs.YtengclnahppmhaaGreatDoor

namespace Go.Proofs.YtengclnahppmhaaGreatDoor
open Go.RowKit Go.Lib

set_option maxRecDepth 20000 in
set_option maxHeartbeats 2000000 in
theorem rexpand_any (key info : ByteArray) (n : Int) (hk : key.size ≤ 140737488351232) (hin : info.size ≤ 140737488351232) (h1 : 0 ≤ n) (h2 : n ≤ 8160) (w : World) (hr : RTabs w) (h4 : 8 ≤ w.heap.size) :
    Calls Tryz.prog 53 #[.string key, .string info, .int .i64 n] w fun e w' => e = .returned (.tuple #[.string (str (expL key.data.toList info.data.toList n.toNat)), .int .i64 0]) ∧ Below w.heap.size w w' := by
  obtain ⟨N, rfl⟩ := Int.eq_ofNat_of_zero_le h1
  rw [Int.toNat_natCast]
  have e1 : ¬ (N : Int) < 0 := by omega
  have e2 : ¬ (8160 : Int) < (N : Int) := by omega
  have HN : Hid (expL key.data.toList info.data.toList N = (expAll key.data.toList info.data.toList ((N + 31) / 32)).take N) := rfl
  go_enter Tryz.func53, Tryz.ntmps53
  go_wp2
  go_loopg [8, 9, 10] ((N + 31) / 32) (fun gk av lv i wr => ∃ k : Nat, k + gk = (N + 31) / 32 ∧ i = .int .i64 ((k : Int) + 1) ∧ av = .string (str (expAll key.data.toList info.data.toList k)) ∧ lv = .string (str (expLast key.data.toList info.data.toList k)) ∧ Below w.heap.size w wr)
  case atStart => exact ⟨0, by omega, rfl, rfl, rfl, Below.refl _ _⟩
  case round =>
    obtain ⟨k, hk', rfl, rfl, rfl, hbel⟩ := hrel
    have HK : Hid (k + gk = (N + 31) / 32) := hk'
    have hk'' : k ≤ (N + 31) / 32 := by omega
    clear hk'
    have hsA : (str (expAll key.data.toList info.data.toList k)).size = 32 * k := by rw [str_size, expAll_length]
    by_cases hlt : k < (N + 31) / 32
    · have hsl : ((str (expAll key.data.toList info.data.toList k)).size : Int) < (N : Int) := by omega
      have hlast := expLast_le key.data.toList info.data.toList k
      have hob := one_byte (k + 1) wr
      rw [show ((k + 1 : Nat) : Int) = (k : Int) + 1 by omega, show ((k : Int) + 1) % 256 = (k : Int) + 1 by omega] at hob
      have d1 : (str (expLast key.data.toList info.data.toList k) ++ info ++ str [UInt8.ofNat (k + 1)]).data.toList = expLast key.data.toList info.data.toList k ++ (info.data.toList ++ [UInt8.ofNat (k + 1)]) := by
        rw [ByteArray.data_append, Array.toList_append, ByteArray.data_append, Array.toList_append, str_data, str_data, List.append_assoc]
      have a1 : (str (expLast key.data.toList info.data.toList k)).size + info.size ≤ 9223372036854775807 := by rw [str_size]; omega
      have d0 : (str (expLast key.data.toList info.data.toList k) ++ info).size = (expLast key.data.toList info.data.toList k).length + info.size := by rw [size_eq, ByteArray.data_append, Array.toList_append, str_data, List.length_append, ← size_eq]
      have s1 : (str [UInt8.ofNat (k + 1)]).size = 1 := by rw [str_size]; rfl
      have a2 : (str (expLast key.data.toList info.data.toList k) ++ info).size + (str [UInt8.ofNat (k + 1)]).size ≤ 9223372036854775807 := by omega
      have hke := fun W hR h4 => keyed_any key (str (expLast key.data.toList info.data.toList k) ++ info ++ str [UInt8.ofNat (k + 1)]) (by omega) (by rw [size_eq, d1]; simp only [List.length_append, List.length_cons, List.length_nil]; rw [← size_eq]; omega) W hR h4
      rw [d1] at hke
      have HL1 : Hid (expLast key.data.toList info.data.toList (k + 1) = hmacL key.data.toList (expLast key.data.toList info.data.toList k ++ (info.data.toList ++ [UInt8.ofNat (k + 1)]))) := rfl
      rw [← HL1.out] at hke
      have hcat : str (expAll key.data.toList info.data.toList k) ++ str (expLast key.data.toList info.data.toList (k + 1)) = str (expAll key.data.toList info.data.toList (k + 1)) := by
        apply ByteArray.ext
        apply Array.ext'
        rw [ByteArray.data_append, Array.toList_append, str_data, str_data, str_data]
        rfl
      have hsz' := expLast_le key.data.toList info.data.toList (k + 1)
      have a3 : (str (expAll key.data.toList info.data.toList k)).size + (str (expLast key.data.toList info.data.toList (k + 1))).size ≤ 9223372036854775807 := by rw [hsA, str_size]; omega
      clear d1 d0 s1 hlast hsz' HL1
      obtain ⟨yA', hA'⟩ : ∃ y, str (expAll key.data.toList info.data.toList (k + 1)) = y := ⟨_, rfl⟩
      obtain ⟨yL', hL'⟩ : ∃ y, str (expLast key.data.toList info.data.toList (k + 1)) = y := ⟨_, rfl⟩
      have HA' : Hid (str (expAll key.data.toList info.data.toList (k + 1)) = yA') := hA'
      have HL' : Hid (str (expLast key.data.toList info.data.toList (k + 1)) = yL') := hL'
      rw [hA', hL'] at hcat
      rw [hL'] at hke a3
      clear hA' hL'
      revert hob a1 a2 hke hcat a3 hsl hsA
      generalize str (expAll key.data.toList info.data.toList k) = yA
      generalize str (expLast key.data.toList info.data.toList k) = yL
      generalize str [UInt8.ofNat (k + 1)] = yb
      intro hsA hsl hob a1 a2 hcat hke a3
      have w1 : IntKind.i64.wrap ((k : Int) + 1 + 1) = (k : Int) + 1 + 1 := by rw [IntKind.wrap_i64]; omega
      have zz := hbel.size
      have hke2 := hke (wr.alloc (.cells #[.int .u8 ((k : Int) + 1)] 5)) (hr.below (hbel.alloc zz _) h4) (by simp; omega)
      go_wp2_with (go_at_call 76; refine hke2.mono ?_; rintro e w2 ⟨rfl, hb2⟩)
      have hb' : Below w.heap.size w w2 := (hbel.alloc zz _).trans (hb2.mono (by simp; omega))
      clear hke hke2 hb2 hob
      go_roundg (gk - 1)
      case measure => have := HK.out; omega
      case rel => exact ⟨k + 1, by have := HK.out; omega, by go_num, by rw [HA'.out], by rw [HL'.out], hb'⟩
    · have HKE : Hid (k = (N + 31) / 32) := by show _ = _; omega
      have hsl : ¬ ((str (expAll key.data.toList info.data.toList k)).size : Int) < (N : Int) := by omega
      have HR : Hid ((str (expAll key.data.toList info.data.toList k)).extract 0 N = str (expL key.data.toList info.data.toList N)) := by
        show _ = _
        rw [HN.out, ← HKE.out]
        apply ByteArray.ext
        apply Array.ext'
        rw [extract_data, str_data, str_data, List.drop_zero, Nat.sub_zero]
      have hnl : (N : Int) ≤ ((str (expAll key.data.toList info.data.toList k)).size : Int) := by omega
      clear hsA
      revert hsl HR hnl
      generalize str (expAll key.data.toList info.data.toList k) = yA
      intro hsl HR hnl
      go_wp2
      go_ret2
      rw [← HR.out]
      exact ⟨rfl, hbel⟩

theorem rexpand_bad (key info : ByteArray) (n : Int) (h : n < 0 ∨ 8160 < n) (w : World) :
    Calls Tryz.prog 53 #[.string key, .string info, .int .i64 n] w fun e w' => e = .returned (.tuple #[.string { data := #[] }, .int .i64 31]) ∧ Below w.heap.size w w' := by
  by_cases h1 : n < 0
  · go_enter Tryz.func53, Tryz.ntmps53
    go_wp2
    go_ret2
    exact ⟨rfl, Below.refl _ _⟩
  · have h2 : (8160 : Int) < n := by omega
    go_enter Tryz.func53, Tryz.ntmps53
    go_wp2
    go_ret2
    exact ⟨rfl, Below.refl _ _⟩
end Go.Proofs.YtengclnahppmhaaGreatDoor

namespace Go.Proofs.YtengclnahppmhaaGreatDoor
open Go.RowKit Go.Lib

theorem rextract_any (salt secret : ByteArray) (h1 : salt.size ≤ 140737488351232) (h2 : secret.size ≤ 140737488351232) (w : World) (hr : RTabs w) (h4 : 8 ≤ w.heap.size) :
    Calls Tryz.prog 54 #[.string salt, .string secret] w fun e w' => e = .returned (.string (str (hmacL salt.data.toList secret.data.toList))) ∧ Below w.heap.size w w' := by
  have hh := keyed_any salt secret (by omega) (by omega) w hr h4
  go_enter Tryz.func54, Tryz.ntmps54
  go_wp2_with (go_at_call 76; refine hh.mono ?_; rintro e w1 ⟨rfl, hb1⟩)
  go_ret
  exact ⟨rfl, hb1⟩

end Go.Proofs.YtengclnahppmhaaGreatDoor
