import Derived.Test.YtebhmebldemndaaDoorBaseM
import Derived.Test.YtebhmebldemndaaDoorRows
import Derived.OwnWalk
import Derived.KernelRfl
import Derived.BigQuiet
import Derived.BigRegion
import Derived.Laws.BitsAll
namespace Go.Proofs.YtebhmebldemndaaDoor
open Go.RowKit Go.Lib Go.Deep

theorem rindex_at {P : Program} (w : World) (t : TypeId) (s : ByteArray) (k : IntKind) (z : Int) (i : Nat) (c : UInt8) (h : P.underlying t = some .string) (hz : z = (i : Int)) (hc : s.data.toList[i]? = some c) :
    (Instr.index t (.string s) (.int k z)).run P w = .ok (.int .u8 (c.toNat : Int)) w := by
  subst hz
  exact index_at w t s k i c h hc
theorem below_drewN (w : World) (n : Nat) : Below w.heap.size w (w.drewN n) := ⟨rfl, rfl, rfl, Nat.le_refl _, fun _ _ => rfl⟩
theorem take_snoc (l : List UInt8) (k : Nat) (c : UInt8) (h : l[k]? = some c) : l.take (k + 1) = l.take k ++ [c] := by
  rw [List.take_add_one, h]
  rfl

theorem xor_zero_iff (x y : Nat) : x ^^^ y = 0 ↔ x = y := by
  constructor
  · intro h
    have h1 : (x ^^^ y) ^^^ y = x := by rw [Nat.xor_assoc, Nat.xor_self, Nat.xor_zero]
    rw [h, Nat.zero_xor] at h1
    exact h1.symm
  · rintro rfl
    exact Nat.xor_self _

set_option maxRecDepth 20000 in
set_option maxHeartbeats 1000000 in
theorem equal_any (a b : ByteArray) (_ha : a.size ≤ 9223372036854775807) (hb : b.size ≤ 9223372036854775807) (w : World) :
    Calls Tryd.prog 28 #[.string a, .string b] w fun e w' => e = .returned (.bool (a.toList == b.toList)) ∧ Below w.heap.size w w' := by
  have hal : a.data.toList.length = a.size := (size_eq a).symm
  have hbl : b.data.toList.length = b.size := (size_eq b).symm
  by_cases hs : a.size = b.size
  · have hsI : (a.size : Int) = (b.size : Int) := by omega
    have HE : Hid ((a.toList == b.toList) = decide (a.data.toList = b.data.toList)) := by
      show _ = _
      rw [toList_data, toList_data]
      by_cases h : a.data.toList = b.data.toList
      · rw [decide_eq_true h, h]
        exact beq_self_eq_true _
      · rw [decide_eq_false h]
        exact beq_eq_false_iff_ne.2 h
    go_enter Tryd.func28, Tryd.ntmps28
    go_wp2
    go_loopg [5, 14] a.size (fun gk dv i wr => ∃ k d : Nat, k + gk = a.size ∧ i = .int .i64 k ∧ dv = .int .u8 (d : Int) ∧ d < 256 ∧ (d = 0 ↔ a.data.toList.take k = b.data.toList.take k) ∧ Below w.heap.size w wr)
    case atStart => exact ⟨0, 0, by omega, rfl, rfl, by omega, by simp, Below.refl _ _⟩
    case round =>
      obtain ⟨k, d, hkk, rfl, rfl, hd, hiff, hbel⟩ := hrel
      have HK : Hid (k + gk = a.size) := hkk
      have HI : Hid (d = 0 ↔ a.data.toList.take k = b.data.toList.take k) := hiff
      have hk' : k ≤ a.size := by omega
      clear hkk hiff
      by_cases hlt : k < a.size
      · have hltI : (k : Int) < (a.size : Int) := by omega
        have hltI2 : (k : Int) < (b.size : Int) := by omega
        obtain ⟨x, hx⟩ : ∃ x, a.data.toList[k]? = some x := ⟨_, List.getElem?_eq_getElem (by omega)⟩
        obtain ⟨y, hy⟩ : ∃ y, b.data.toList[k]? = some y := ⟨_, List.getElem?_eq_getElem (by omega)⟩
        have hix := fun W => rindex_at (P := Tryd.prog) W 9 a .i64 (k : Int) k x Tryd.underlying9 rfl hx
        have hiy := fun W => rindex_at (P := Tryd.prog) W 9 b .i64 (k : Int) k y Tryd.underlying9 rfl hy
        have hx8 := x.toNat_lt
        have hy8 := y.toNat_lt
        have hxor := u8_xor_nat x.toNat y.toNat hx8 hy8
        have hxl : x.toNat ^^^ y.toNat < 256 := Nat.xor_lt_two_pow (n := 8) hx8 hy8
        have hor := u8_or_nat d (x.toNat ^^^ y.toNat) hd hxl
        have hol : d ||| (x.toNat ^^^ y.toNat) < 256 := Nat.or_lt_two_pow (n := 8) hd hxl
        have HN : Hid (d ||| (x.toNat ^^^ y.toNat) = 0 ↔ a.data.toList.take (k + 1) = b.data.toList.take (k + 1)) := by
          show _ ↔ _
          rw [take_snoc _ k x hx, take_snoc _ k y hy, Nat.or_eq_zero_iff, xor_zero_iff, HI.out]
          constructor
          · rintro ⟨h1, h2⟩
            rw [h1, UInt8.toNat_inj.1 h2]
          · intro h
            have hl1 : (a.data.toList.take k).length = (b.data.toList.take k).length := by rw [List.length_take, List.length_take]; omega
            obtain ⟨h1, h2⟩ := List.append_inj h hl1
            exact ⟨h1, by rw [List.singleton_inj.1 h2]⟩
        clear hx hy HI hxl
        revert hix hiy hxor hor hol HN hx8 hy8
        generalize d ||| (x.toNat ^^^ y.toNat) = o
        generalize x.toNat ^^^ y.toNat = xx
        generalize x.toNat = xn
        generalize y.toNat = yn
        intro hix hiy hx8 hy8 hxor hor hol HN
        go_wp2_with fail
        go_quiet (fail)
        refine with_world (R := fun W => Exit.inBlock _ _ _ _ W) (Q := fun W => Below w.heap.size w W) _ (hbel.trans ((below_drewN wr nq).mono hbel.size)) ?_
        clear hbel hix hiy
        intro w1 hbel
        go_wp2
        go_roundg (gk - 1)
        case measure => have := HK.out; omega
        case rel => exact ⟨k + 1, o, by have := HK.out; omega, by go_num, rfl, hol, HN.out, hbel⟩
      · obtain rfl : k = a.size := by omega
        have hltI : ¬ ((a.size : Nat) : Int) < (a.size : Int) := by omega
        have HD : Hid (d = 0 ↔ a.data.toList = b.data.toList) := by
          have h := HI.out
          rw [List.take_of_length_le (by omega), List.take_of_length_le (by omega)] at h
          exact h
        clear HI
        have HR : Hid (decide (a.data.toList = b.data.toList) = decide (d = 0)) := by
          show _ = _
          by_cases h : d = 0
          · rw [decide_eq_true h, decide_eq_true (HD.out.1 h)]
          · rw [decide_eq_false h, decide_eq_false (fun h2 => h (HD.out.2 h2))]
        go_wp2
        go_ret
        rw [HE.out, HR.out]
        refine ⟨?_, hbel⟩
        congr 2
        by_cases h : d = 0
        · subst h; rfl
        · have h' : ¬ (d : Int) = 0 := by omega
          simp [h]
  · have hsI : ¬ (a.size : Int) = (b.size : Int) := by omega
    have HE : Hid ((a.toList == b.toList) = false) := by
      show _ = _
      rw [toList_data, toList_data, beq_eq_false_iff_ne]
      intro h
      apply hs
      rw [← hal, ← hbl, h]
    go_enter Tryd.func28, Tryd.ntmps28
    go_wp2
    go_ret
    rw [HE.out]
    exact ⟨rfl, Below.refl _ _⟩

end Go.Proofs.YtebhmebldemndaaDoor
