import Derived.Test.YtggfeppphhigdabDoorR5E
namespace Go.Proofs.YtggfeppphhigdabDoor
open Go.RowKit Go.Lib Go.Deep

theorem clamp_at (key : List UInt8) (k : Nat) (hk : k < 16) (c : UInt8) (hc : key[k]? = some c) : (clampL key).take (k + 1) = (clampL key).take k ++ [c &&& keptL.getD k 0] := by
  rw [List.take_add_one]
  congr 1
  have h2 : k < keptL.length := hk
  simp [clampL, List.getElem?_zipWith, hk, hc, List.getD_eq_getElem?_getD, h2]
theorem byteCells_one (l : List UInt8) : ∀ v ∈ Lib.byteCells l, v.oneCell' = true := by
  intro v hv
  obtain ⟨n, _, rfl⟩ := List.mem_map.1 hv
  rfl
theorem kept_three (k : Nat) (hk : k < 16) (h : k % 4 = 3) : keptL.getD k 0 = 15 := by
  have : k = 3 ∨ k = 7 ∨ k = 11 ∨ k = 15 := by omega
  rcases this with rfl | rfl | rfl | rfl <;> rfl
theorem kept_four (k : Nat) (hk : k < 16) (h : k % 4 = 0) (h0 : 0 < k) : keptL.getD k 0 = 252 := by
  have : k = 4 ∨ k = 8 ∨ k = 12 := by omega
  rcases this with rfl | rfl | rfl <;> rfl
theorem kept_else (k : Nat) (hk : k < 16) (h : k % 4 ≠ 3) (h0 : ¬ (k % 4 = 0 ∧ 0 < k)) : keptL.getD k 0 = 255 := by
  have : k = 0 ∨ k = 1 ∨ k = 2 ∨ k = 5 ∨ k = 6 ∨ k = 9 ∨ k = 10 ∨ k = 13 ∨ k = 14 := by omega
  rcases this with rfl | rfl | rfl | rfl | rfl | rfl | rfl | rfl | rfl <;> rfl

set_option maxRecDepth 20000 in
set_option maxHeartbeats 1000000 in
theorem clamped_any (key : ByteArray) (hs : key.size = 32) (w : World) :
    Calls Tryd.prog 15 #[.string key] w fun e w' => e = .returned (.string (str (clampL key.data.toList))) ∧ Below w.heap.size w w' := by
  obtain ⟨i0, hi, hz0, hz1, hz2⟩ := info_parts info5
  have hkl : key.data.toList.length = 32 := by rw [← size_eq]; exact hs
  have HCL := clampL_length key.data.toList (by omega)
  go_enter Tryd.func15, Tryd.ntmps15
  go_wp2
  go_loopg [3, 4] 16 (fun gk v i wr => ∃ k : Nat, k + gk = 16 ∧ i = .int .i64 k ∧ wr.ownsRow w.heap.size 5 1 v k (Lib.byteCells ((clampL key.data.toList).take k)) ∧ Below w.heap.size w wr)
  case atStart => exact ⟨0, by omega, rfl, World.ownsRow_nil _ _ _ _, Below.refl _ _⟩
  case round =>
    obtain ⟨k, hk, rfl, hown, hbel⟩ := hrel
    have HK : Hid (k + gk = 16) := hk
    have hk' : k ≤ 16 := by omega
    clear hk
    by_cases hlt : k < 16
    · have hltI : (k : Int) < 16 := by omega
      have hml : k + 1 ≤ maxLen := by unfold maxLen; omega
      obtain ⟨c, hc⟩ : ∃ c, key.data.toList[k]? = some c := ⟨_, List.getElem?_eq_getElem (by omega)⟩
      have hca := clamp_at key.data.toList k hlt c hc
      have hix := fun W => rindex_at (P := Tryd.prog) W 9 key .i64 (k : Int) k c Tryd.underlying9 rfl hc
      have hc8 := c.toNat_lt
      by_cases h3 : k % 4 = 3
      · have h3I : (k : Int) % 4 = 3 := by omega
        rw [kept_three k hlt h3] at hca
        have e := and15 c
        have HS : Hid (Lib.byteCells ((clampL key.data.toList).take (k + 1)) = Lib.byteCells ((clampL key.data.toList).take k) ++ [.int .u8 ((c.toNat : Int) % 16)]) := by
          show _ = _
          rw [hca, byteCells_append]
          simp [Lib.byteCells, e]
        clear hca hc e
        obtain ⟨cs, hcs⟩ : ∃ cs, Lib.byteCells ((clampL key.data.toList).take k) = cs := ⟨_, rfl⟩
        rw [hcs] at HS hown
        clear hcs
        revert HS hix hc8
        generalize c.toNat = x
        intro hix hc8 HS
        have hone : ∀ u ∈ [Value.int .u8 ((x : Int) % 16)], u.oneCell' = true := by intro u hu; simp only [List.mem_singleton] at hu; subst hu; rfl
        go_wp2_with (at_builtin; refine wpList_append_own _ rfl _ _ 48 rfl w.heap.size 5 i0 (.int .u8 0) 1 1 Tryd.underlying48 hi hz0 hz1 hz2 rfl (by decide) _ _ _ rfl (hown.alloc _) ⟨wr.heap.size, 0, none⟩ 1 1 [.int .u8 ((x : Int) % 16)] rfl rfl (by intro j u h; exact cells_new wr #[.int .u8 ((x : Int) % 16)] 5 j u (by simpa using h)) hone hml (by omega) (by have := hbel.size; simp; omega) ?_; intro v' w' hown' hgrow' _)
        have R : w'.ownsRow w.heap.size 5 1 v' (k + 1) (Lib.byteCells ((clampL key.data.toList).take (k + 1))) := by rw [HS.out]; exact hown'
        have hb' : Below w.heap.size w w' := by
          have h1 := hbel.alloc hbel.size (.cells #[.int .u8 ((x : Int) % 16)] 5)
          exact h1.trans (grown_below hgrow' h1.size (hown.alloc _))
        clear hown' hgrow' hown hix
        go_wp2
        go_roundg (gk - 1)
        case measure => have := HK.out; omega
        case rel => exact ⟨k + 1, by have := HK.out; omega, by go_num, R, hb'⟩
      · have h3I : ¬ (k : Int) % 4 = 3 := by omega
        by_cases h4 : k % 4 = 0 ∧ 0 < k
        · have h4I : (k : Int) % 4 = 0 := by omega
          have h5I : (0 : Int) < (k : Int) := by omega
          rw [kept_four k hlt h4.1 h4.2] at hca
          have e := and252 c
          have HS : Hid (Lib.byteCells ((clampL key.data.toList).take (k + 1)) = Lib.byteCells ((clampL key.data.toList).take k) ++ [.int .u8 ((c.toNat : Int) / 4 * 4)]) := by
            show _ = _
            rw [hca, byteCells_append]
            simp [Lib.byteCells, e]
          clear hca hc e
          obtain ⟨cs, hcs⟩ : ∃ cs, Lib.byteCells ((clampL key.data.toList).take k) = cs := ⟨_, rfl⟩
          rw [hcs] at HS hown
          clear hcs
          revert HS hix hc8
          generalize c.toNat = x
          intro hix hc8 HS
          have hone : ∀ u ∈ [Value.int .u8 ((x : Int) / 4 * 4)], u.oneCell' = true := by intro u hu; simp only [List.mem_singleton] at hu; subst hu; rfl
          go_wp2_with (at_builtin; refine wpList_append_own _ rfl _ _ 48 rfl w.heap.size 5 i0 (.int .u8 0) 1 1 Tryd.underlying48 hi hz0 hz1 hz2 rfl (by decide) _ _ _ rfl (hown.alloc _) ⟨wr.heap.size, 0, none⟩ 1 1 [.int .u8 ((x : Int) / 4 * 4)] rfl rfl (by intro j u h; exact cells_new wr #[.int .u8 ((x : Int) / 4 * 4)] 5 j u (by simpa using h)) hone hml (by omega) (by have := hbel.size; simp; omega) ?_; intro v' w' hown' hgrow' _)
          have R : w'.ownsRow w.heap.size 5 1 v' (k + 1) (Lib.byteCells ((clampL key.data.toList).take (k + 1))) := by rw [HS.out]; exact hown'
          have hb' : Below w.heap.size w w' := by
            have h1 := hbel.alloc hbel.size (.cells #[.int .u8 ((x : Int) / 4 * 4)] 5)
            exact h1.trans (grown_below hgrow' h1.size (hown.alloc _))
          clear hown' hgrow' hown hix
          go_wp2
          go_roundg (gk - 1)
          case measure => have := HK.out; omega
          case rel => exact ⟨k + 1, by have := HK.out; omega, by go_num, R, hb'⟩
        · rw [kept_else k hlt h3 h4, and255 c] at hca
          have HS : Hid (Lib.byteCells ((clampL key.data.toList).take (k + 1)) = Lib.byteCells ((clampL key.data.toList).take k) ++ [.int .u8 (c.toNat : Int)]) := by
            show _ = _
            rw [hca, byteCells_append]
            rfl
          clear hca hc
          obtain ⟨cs, hcs⟩ : ∃ cs, Lib.byteCells ((clampL key.data.toList).take k) = cs := ⟨_, rfl⟩
          rw [hcs] at HS hown
          clear hcs
          revert HS hix hc8
          generalize c.toNat = x
          intro hix hc8 HS
          have hone : ∀ u ∈ [Value.int .u8 (x : Int)], u.oneCell' = true := by intro u hu; simp only [List.mem_singleton] at hu; subst hu; rfl
          by_cases h4' : k % 4 = 0
          · have h4I : (k : Int) % 4 = 0 := by omega
            have h5I : ¬ (0 : Int) < (k : Int) := by omega
            go_wp2_with (at_builtin; refine wpList_append_own _ rfl _ _ 48 rfl w.heap.size 5 i0 (.int .u8 0) 1 1 Tryd.underlying48 hi hz0 hz1 hz2 rfl (by decide) _ _ _ rfl (hown.alloc _) ⟨wr.heap.size, 0, none⟩ 1 1 [.int .u8 (x : Int)] rfl rfl (by intro j u h; exact cells_new wr #[.int .u8 (x : Int)] 5 j u (by simpa using h)) hone hml (by omega) (by have := hbel.size; simp; omega) ?_; intro v' w' hown' hgrow' _)
            have R : w'.ownsRow w.heap.size 5 1 v' (k + 1) (Lib.byteCells ((clampL key.data.toList).take (k + 1))) := by rw [HS.out]; exact hown'
            have hb' : Below w.heap.size w w' := by
              have h1 := hbel.alloc hbel.size (.cells #[.int .u8 (x : Int)] 5)
              exact h1.trans (grown_below hgrow' h1.size (hown.alloc _))
            clear hown' hgrow' hown hix
            go_wp2
            go_roundg (gk - 1)
            case measure => have := HK.out; omega
            case rel => exact ⟨k + 1, by have := HK.out; omega, by go_num, R, hb'⟩
          · have h4I : ¬ (k : Int) % 4 = 0 := by omega
            go_wp2_with (at_builtin; refine wpList_append_own _ rfl _ _ 48 rfl w.heap.size 5 i0 (.int .u8 0) 1 1 Tryd.underlying48 hi hz0 hz1 hz2 rfl (by decide) _ _ _ rfl (hown.alloc _) ⟨wr.heap.size, 0, none⟩ 1 1 [.int .u8 (x : Int)] rfl rfl (by intro j u h; exact cells_new wr #[.int .u8 (x : Int)] 5 j u (by simpa using h)) hone hml (by omega) (by have := hbel.size; simp; omega) ?_; intro v' w' hown' hgrow' _)
            have R : w'.ownsRow w.heap.size 5 1 v' (k + 1) (Lib.byteCells ((clampL key.data.toList).take (k + 1))) := by rw [HS.out]; exact hown'
            have hb' : Below w.heap.size w w' := by
              have h1 := hbel.alloc hbel.size (.cells #[.int .u8 (x : Int)] 5)
              exact h1.trans (grown_below hgrow' h1.size (hown.alloc _))
            clear hown' hgrow' hown hix
            go_wp2
            go_roundg (gk - 1)
            case measure => have := HK.out; omega
            case rel => exact ⟨k + 1, by have := HK.out; omega, by go_num, R, hb'⟩
    · obtain rfl : k = 16 := by omega
      rw [List.take_of_length_le (by rw [HCL]; omega)] at hown
      have hcv := convert_own (P := Tryd.prog) wr 48 9 5 w.heap.size _ (clampL key.data.toList) Tryd.underlying48 Tryd.underlying5 Tryd.underlying9 (by rw [HCL]; exact hown)
      clear hown
      go_wp2
      go_ret
      exact ⟨rfl, hbel⟩

end Go.Proofs.YtggfeppphhigdabDoor
