import Derived.Test.YtggfeppphhigdaaDoorMacW
import Derived.Test.YtggfeppphhigdaaDoorPolL
import Derived.BigQuiet
namespace Go.Proofs.YtggfeppphhigdaaDoor
open Go.RowKit Go.Lib Go.Deep

theorem byteCells_one (l : List UInt8) : ∀ v ∈ Lib.byteCells l, v.oneCell' = true := by
  intro v hv
  obtain ⟨n, _, rfl⟩ := List.mem_map.1 hv
  rfl
theorem rindex_at {P : Program} (w : World) (t : TypeId) (s : ByteArray) (k : IntKind) (z : Int) (i : Nat) (c : UInt8) (h : P.underlying t = some .string) (hz : z = (i : Int)) (hc : s.data.toList[i]? = some c) :
    (Instr.index t (.string s) (.int k z)).run P w = .ok (.int .u8 (c.toNat : Int)) w := by
  subst hz
  exact index_at w t s k i c h hc

theorem num_any (n : Int) (w : World) : Calls Tryd.prog 10 #[.int .i64 n] w fun e w' => e = .returned (.int .i64 n) ∧ w = w' := by
  go_enter Tryd.func10, Tryd.ntmps10
  go_wp2
  go_ret
  exact ⟨rfl, rfl⟩

/-- a key of any text -/
def keyL (s : List UInt8) : List UInt8 := (List.range 32).map fun i => s.getD (i % s.length) 0
theorem keyL_length (s : List UInt8) : (keyL s).length = 32 := by simp [keyL]
theorem keyL_take (s : List UInt8) (k : Nat) (hk : k < 32) : (keyL s).take (k + 1) = (keyL s).take k ++ [s.getD (k % s.length) 0] := by
  rw [List.take_add_one]
  congr 1
  simp [keyL, hk]

set_option maxRecDepth 20000 in
set_option maxHeartbeats 1000000 in
theorem keyed_any (s : ByteArray) (w : World) :
    Calls Tryd.prog 8 #[.string s] w fun e w' => e = .returned (.string (str (keyL s.data.toList))) ∧ Below w.heap.size w w' := by
  obtain ⟨i0, hi, hz0, hz1, hz2⟩ := info_parts info5
  have hsl : s.data.toList.length = s.size := (size_eq s).symm
  go_enter Tryd.func8, Tryd.ntmps8
  go_wp2
  go_loopg [3, 4] 32 (fun gk v i wr => ∃ k : Nat, k + gk = 32 ∧ i = .int .i64 k ∧ wr.ownsRow w.heap.size 5 1 v k (Lib.byteCells ((keyL s.data.toList).take k)) ∧ Below w.heap.size w wr)
  case atStart => exact ⟨0, by omega, rfl, World.ownsRow_nil _ _ _ _, Below.refl _ _⟩
  case round =>
    obtain ⟨k, hk, rfl, hown, hbel⟩ := hrel
    have HK : Hid (k + gk = 32) := hk
    have hk' : k ≤ 32 := by omega
    clear hk
    by_cases hlt : k < 32
    · have hltI : (k : Int) < 32 := by omega
      have hml : k + 1 ≤ maxLen := by unfold maxLen; omega
      have HS : Hid (Lib.byteCells ((keyL s.data.toList).take (k + 1)) = Lib.byteCells ((keyL s.data.toList).take k) ++ [.int .u8 ((s.data.toList.getD (k % s.data.toList.length) 0).toNat : Int)]) := by
        show _ = _
        rw [keyL_take _ k hlt, byteCells_append]
        rfl
      have hone : ∀ u ∈ [Value.int .u8 ((s.data.toList.getD (k % s.data.toList.length) 0).toNat : Int)], u.oneCell' = true := byteCells_one [_]
      by_cases h0 : s.size = 0
      · have he : s.toList.isEmpty = true := by rw [toList_data, List.isEmpty_iff]; exact List.eq_nil_of_length_eq_zero (by omega)
        have hz : (s.data.toList.getD (k % s.data.toList.length) 0).toNat = 0 := by
          rw [show s.data.toList = [] from List.eq_nil_of_length_eq_zero (by omega)]
          rfl
        rw [hz] at HS hone
        obtain ⟨cs, hcs⟩ : ∃ cs, Lib.byteCells ((keyL s.data.toList).take k) = cs := ⟨_, rfl⟩
        rw [hcs] at HS hown
        clear hcs
        go_wp2_with (at_builtin; refine wpList_append_own _ rfl _ _ 34 rfl w.heap.size 5 i0 (.int .u8 0) 1 1 Tryd.underlying34 hi hz0 hz1 hz2 rfl (by decide) _ _ _ rfl (hown.alloc _) ⟨wr.heap.size, 0, none⟩ 1 1 [.int .u8 0] rfl rfl (by intro j u h; exact cells_new wr #[.int .u8 0] 5 j u (by simpa using h)) hone hml (by omega) (by have := hbel.size; simp; omega) ?_; intro v' w' hown' hgrow' _)
        have R : w'.ownsRow w.heap.size 5 1 v' (k + 1) (Lib.byteCells ((keyL s.data.toList).take (k + 1))) := by rw [HS.out]; exact hown'
        have hb' : Below w.heap.size w w' := by
          have h1 := hbel.alloc hbel.size (.cells #[.int .u8 0] 5)
          exact h1.trans (grown_below hgrow' h1.size (hown.alloc _))
        clear hown' hgrow' hown
        go_wp2
        go_roundg (gk - 1)
        case measure => have := HK.out; omega
        case rel => exact ⟨k + 1, by have := HK.out; omega, by go_num, R, hb'⟩
      · have he : s.toList.isEmpty = false := by
          rw [toList_data, List.isEmpty_eq_false_iff]
          intro h
          rw [h] at hsl
          exact h0 hsl.symm
        have hm : k % s.size < s.size := Nat.mod_lt _ (by omega)
        obtain ⟨c, hc⟩ : ∃ c, s.data.toList[k % s.size]? = some c := ⟨_, List.getElem?_eq_getElem (by omega)⟩
        have hcg : s.data.toList.getD (k % s.data.toList.length) 0 = c := by rw [hsl, List.getD_eq_getElem?_getD, hc]; rfl
        rw [hcg] at HS hone
        have hsI : ¬ (s.size : Int) = 0 := by omega
        have hix := fun W => rindex_at (P := Tryd.prog) W 9 s .i64 ((k : Int) % (s.size : Int)) (k % s.size) c Tryd.underlying9 (by rw [Int.natCast_emod]) hc
        have hix2 := fun W => rindex_at (P := Tryd.prog) W 9 s .i64 ((k : Int).tmod (s.size : Int)) (k % s.size) c Tryd.underlying9 (by rw [Int.tmod_eq_emod_of_nonneg (by omega), Int.natCast_emod]) hc
        clear hc hcg hm
        obtain ⟨ci, hci⟩ : ∃ ci, (c.toNat : Int) = ci := ⟨_, rfl⟩
        obtain ⟨cs, hcs⟩ : ∃ cs, Lib.byteCells ((keyL s.data.toList).take k) = cs := ⟨_, rfl⟩
        rw [hci, hcs] at HS
        rw [hci] at hone
        rw [hcs] at hown
        simp only [hci] at hix hix2
        clear hci hcs
        go_wp2_with (at_builtin; refine wpList_append_own _ rfl _ _ 34 rfl w.heap.size 5 i0 (.int .u8 0) 1 1 Tryd.underlying34 hi hz0 hz1 hz2 rfl (by decide) _ _ _ rfl (hown.alloc _) ⟨wr.heap.size, 0, none⟩ 1 1 [.int .u8 ci] rfl rfl (by intro j u h; exact cells_new wr #[.int .u8 ci] 5 j u (by simpa using h)) hone hml (by omega) (by have := hbel.size; simp; omega) ?_; intro v' w' hown' hgrow' _)
        have R : w'.ownsRow w.heap.size 5 1 v' (k + 1) (Lib.byteCells ((keyL s.data.toList).take (k + 1))) := by rw [HS.out]; exact hown'
        have hb' : Below w.heap.size w w' := by
          have h1 := hbel.alloc hbel.size (.cells #[.int .u8 ci] 5)
          exact h1.trans (grown_below hgrow' h1.size (hown.alloc _))
        clear hown' hgrow' hown hix hix2
        go_wp2
        go_roundg (gk - 1)
        case measure => have := HK.out; omega
        case rel => exact ⟨k + 1, by have := HK.out; omega, by go_num, R, hb'⟩
    · obtain rfl : k = 32 := by omega
      rw [List.take_of_length_le (by rw [keyL_length]; omega)] at hown
      have hcv := convert_own (P := Tryd.prog) wr 34 9 5 w.heap.size _ (keyL s.data.toList) Tryd.underlying34 Tryd.underlying5 Tryd.underlying9 (by rw [keyL_length]; exact hown)
      clear hown
      go_wp2
      go_ret
      exact ⟨rfl, hbel⟩

theorem tagged_any (key text want : ByteArray) (hk : key.size = 32) (h63 : text.size ≤ 9223372036854775807) (w : World) (hT : KTab w) (h1 : 0 < w.heap.size) (hw : want = str (tagL key.data.toList text.data.toList)) :
    Calls Tryd.prog 14 #[.string key, .string text, .string want] w fun e w' => e = .returned (.bool true) ∧ Below w.heap.size w w' := by
  have ht := tag_yes key text hk h63 w hT h1
  rw [← hw] at ht
  clear hw
  go_enter Tryd.func14, Tryd.ntmps14
  go_wp2_with fail
  refine ht.mono ?_
  rintro e w1 ⟨rfl, hb1⟩
  clear ht
  go_wp2_with fail
  refine (num_any 0 w1).mono ?_
  rintro e w2 ⟨rfl, rfl⟩
  go_wp2
  go_ret
  exact ⟨by simp, hb1⟩

end Go.Proofs.YtggfeppphhigdaaDoor
