import Derived.Test.YtjjabkimmgcejaaDoorPasP
import Derived.Test.YtjjabkimmgcejaaDoorRefB
import Derived.BigRegion
namespace Go.Proofs.YtjjabkimmgcejaaDoor
open Go.RowKit Go.Lib

set_option maxRecDepth 20000 in
set_option maxHeartbeats 1000000 in
theorem lxored_any (a b : ByteArray) (ha : a.size = 32) (hb : b.size = 32) (w : World) :
    Calls Tryd.prog 23 #[.string a, .string b] w fun e w' => e = .returned (.string (str (xorL a.data.toList b.data.toList))) ∧ Below w.heap.size w w' := by
  obtain ⟨i0, hi, hz0, hz1, hz2⟩ := info_parts info5
  have hal : a.data.toList.length = 32 := by rw [← size_eq]; exact ha
  have hbl : b.data.toList.length = 32 := by rw [← size_eq]; exact hb
  have HLX : Hid ((xorL a.data.toList b.data.toList).length = 32) := by show _ = _; rw [xorL_length, hal, hbl]; rfl
  go_enter Tryd.func23, Tryd.ntmps23
  go_wp2
  go_loopg [5, 6] 32 (fun gk v i wr => ∃ k : Nat, k + gk = 32 ∧ i = .int .i64 k ∧ wr.ownsRow w.heap.size 5 1 v k (Lib.byteCells ((xorL a.data.toList b.data.toList).take k)) ∧ Below w.heap.size w wr)
  case atStart => exact ⟨0, by omega, rfl, World.ownsRow_nil _ _ _ _, Below.refl _ _⟩
  case round =>
    obtain ⟨k, hk, rfl, hown, hbel⟩ := hrel
    have HK : Hid (k + gk = 32) := hk
    have hk' : k ≤ 32 := by omega
    clear hk
    by_cases hlt : k < 32
    · obtain ⟨x, hx⟩ : ∃ x, a.data.toList[k]? = some x := ⟨_, List.getElem?_eq_getElem (by omega)⟩
      obtain ⟨y, hy⟩ : ∃ y, b.data.toList[k]? = some y := ⟨_, List.getElem?_eq_getElem (by omega)⟩
      have hx8 := x.toNat_lt
      have hy8 := y.toNat_lt
      have hxor : bits .xor .u8 (x.toNat : Int) (y.toNat : Int) = ((x ^^^ y).toNat : Int) := by rw [u8_xor_nat _ _ hx8 hy8, UInt8.toNat_xor]
      have HS : Hid (Lib.byteCells ((xorL a.data.toList b.data.toList).take (k + 1)) = Lib.byteCells ((xorL a.data.toList b.data.toList).take k) ++ [.int .u8 ((x ^^^ y).toNat : Int)]) := by
        show _ = _
        rw [xorL_take _ _ k x y hx hy, byteCells_append]
        rfl
      have hone : ∀ u ∈ [Value.int .u8 ((x ^^^ y).toNat : Int)], u.oneCell' = true := byteCells_one [x ^^^ y]
      have hml : k + 1 ≤ maxLen := by unfold maxLen; omega
      have hix := fun W => rindex_at (P := Tryd.prog) W 9 a .i64 (k : Int) k x Tryd.underlying9 rfl hx
      have hiy := fun W => rindex_at (P := Tryd.prog) W 9 b .i64 (k : Int) k y Tryd.underlying9 rfl hy
      clear hx hy hx8 hy8
      revert hix hiy hxor HS hone
      generalize (x.toNat : Int) = xi
      generalize (y.toNat : Int) = yi
      generalize ((x ^^^ y).toNat : Int) = zi
      intro hxor HS hone hix hiy
      go_wp2_with fail
      go_region_law (refine step_append_own rfl (.tmp 19) (.tmp 27) 42 rfl w.heap.size 5 i0 (.int .u8 0) 1 1 Tryd.underlying42 hi hz0 hz1 hz2 rfl (by decide) _ _ _ (by simp [Act.eval]) (hown.alloc _) ⟨wr.heap.size, 0, none⟩ 1 1 [.int .u8 zi] (by simp [Act.eval]) rfl (by intro i u h; exact cells_new wr #[.int .u8 zi] 5 i u (by simpa using h)) hone hml (by omega) (by have := hbel.size; simp; omega) ?_; intro v' w' hown' hgrow')
      all_goals
        have R : w'.ownsRow w.heap.size 5 1 v' (k + 1) (Lib.byteCells ((xorL a.data.toList b.data.toList).take (k + 1))) := by rw [HS.out]; exact hown'
        have hb' : Below w.heap.size w w' := by
          have h1 := (hbel.alloc hbel.size (.cells #[.int .u8 zi] 5)).drew
          exact h1.trans (grown_below hgrow' h1.size (hown.alloc _))
        clear hown' hgrow' hown hix hiy
        go_wp2
        go_roundg (gk - 1)
        case measure => have := HK.out; omega
        case rel => exact ⟨k + 1, by have := HK.out; omega, by go_num, R, hb'⟩
    · obtain rfl : k = 32 := by omega
      rw [List.take_of_length_le (by rw [HLX.out]; omega)] at hown
      have hcv := convert_own (P := Tryd.prog) wr 42 9 5 w.heap.size _ (xorL a.data.toList b.data.toList) Tryd.underlying42 Tryd.underlying5 Tryd.underlying9 (by rw [HLX.out]; exact hown)
      go_wp2
      go_ret
      exact ⟨rfl, hbel⟩

end Go.Proofs.YtjjabkimmgcejaaDoor
