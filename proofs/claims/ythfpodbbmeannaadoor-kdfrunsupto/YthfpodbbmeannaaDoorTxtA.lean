import Derived.Test.YthfpodbbmeannaaDoorMkA
import Derived.Test.YthfpodbbmeannaaDoorHmacA
import Derived.Lib.AppendStr
namespace Go.Proofs.YthfpodbbmeannaaDoor
open Go.RowKit Go.Lib

set_option maxRecDepth 20000 in
set_option maxHeartbeats 1000000 in
theorem texts_any (w : World) (a : Option Addr) (len cap : Nat) (ss : List ByteArray) (hL : Lst w a len ss) (hsm : len ≤ 2147483647) :
    Calls Tryd.prog 10 #[.slice a len cap] w fun e w' => ∃ v, e = .returned v ∧ w'.ownsRow w.heap.size 9 1 v len (strCells ss) ∧ Below w.heap.size w w' := by
  obtain ⟨i0, hi, hz0, hz1, hz2⟩ := info_parts info9
  have HL : Hid (Lst w a len ss) := hL
  have hl := hL.sz
  clear hL
  go_enter Tryd.func10, Tryd.ntmps10
  go_wp2
  go_loopg [3, 4] len (fun gk v i wr => ∃ k : Nat, k + gk = len ∧ i = .int .i64 k ∧ wr.ownsRow w.heap.size 9 1 v k (strCells (ss.take k)) ∧ Below w.heap.size w wr)
  case atStart => exact ⟨0, by omega, rfl, World.ownsRow_nil _ _ _ _, Below.refl _ _⟩
  case round =>
    obtain ⟨k, hk, rfl, hown, hbel⟩ := hrel
    have HK : Hid (k + gk = len) := hk
    have hk' : k ≤ len := by omega
    clear hk
    by_cases hlt : k < len
    · obtain ⟨s, hs⟩ : ∃ s, ss[k]? = some s := ⟨_, List.getElem?_eq_getElem (by omega)⟩
      obtain ⟨b, off, rfl, hbl, hcell⟩ := (HL.out.below hbel).cell k s hs
      have HS : Hid (strCells (ss.take (k + 1)) = strCells (ss.take k) ++ [.string s]) := strCells_take ss k s hs
      clear hs hbl
      have hone : ∀ u ∈ [Value.string s], u.oneCell' = true := strCells_one [s]
      have hml : k + 1 ≤ maxLen := by unfold maxLen; omega
      go_wp2_with (at_builtin; refine wpList_append_own _ rfl _ _ 22 rfl w.heap.size 9 i0 (.string { data := #[] }) 1 16 Tryd.underlying22 hi hz0 hz1 hz2 rfl (by decide) _ _ _ rfl (hown.alloc _) ⟨wr.heap.size, 0, none⟩ 1 1 [.string s] rfl rfl (by intro j u h; exact cells_new wr #[.string s] 9 j u (by simpa using h)) hone hml (by omega) (by have := hbel.size; simp; omega) ?_; intro v' w' hown' hgrow' _)
      have R : w'.ownsRow w.heap.size 9 1 v' (k + 1) (strCells (ss.take (k + 1))) := by rw [HS.out]; exact hown'
      have hb' : Below w.heap.size w w' := by
        have h1 := hbel.alloc hbel.size (.cells #[.string s] 9)
        exact h1.trans (grown_below hgrow' h1.size (hown.alloc _))
      clear hown' hgrow' hown hcell
      go_wp2
      go_roundg (gk - 1)
      case measure => have := HK.out; omega
      case rel => exact ⟨k + 1, by have := HK.out; omega, by go_num, R, hb'⟩
    · obtain rfl : k = len := by omega
      rw [List.take_of_length_le (by omega)] at hown
      go_wp2
      go_ret
      exact ⟨_, rfl, hown, hbel⟩

theorem lst_ownsN {w : World} {B n : Nat} {v : Value} {ss : List ByteArray} (h : w.ownsRow B 9 1 v n (strCells ss)) : ∃ a cap, v = .slice a n cap ∧ Lst w a n ss ∧ (a = none → cap = 0) := by
  rcases h.2 with ⟨h1, h2⟩ | ⟨g, cap, cur, h1, _⟩
  · obtain ⟨a, cap, e, hl⟩ := lst_owns h
    refine ⟨a, cap, e, hl, fun _ => ?_⟩
    rw [h1] at e
    cases e
    rfl
  · obtain ⟨a, cap', e, hl⟩ := lst_owns h
    refine ⟨a, cap', e, hl, fun ha => ?_⟩
    rw [h1] at e
    cases e
    cases ha

theorem cat_str (J : List UInt8) (s : ByteArray) : str J ++ s = str (J ++ s.data.toList) := by
  apply ByteArray.ext
  apply Array.ext'
  rw [ByteArray.data_append, Array.toList_append, str_data, str_data]

set_option maxRecDepth 20000 in
set_option maxHeartbeats 1000000 in
theorem whole_any (w : World) (a : Option Addr) (len cap : Nat) (ss : List ByteArray) (hL : Lst w a len ss) (hsm : (joinL ss).length ≤ 1048576) :
    Calls Tryd.prog 11 #[.slice a len cap] w fun e w' => e = .returned (.string (str (joinL ss))) ∧ w = w' := by
  have HL : Hid (Lst w a len ss) := hL
  have hl := hL.sz
  have htop := hL.top
  clear hL
  go_enter Tryd.func11, Tryd.ntmps11
  go_wp2
  go_loopg [3, 4] len (fun gk so i wr => ∃ k : Nat, k + gk = len ∧ i = .int .i64 k ∧ so = .string (str (joinL (ss.take k))) ∧ wr = w)
  case atStart => exact ⟨0, by omega, rfl, rfl, rfl⟩
  case round =>
    obtain ⟨k, hk, rfl, rfl, rfl⟩ := hrel
    have HK : Hid (k + gk = len) := hk
    have hk' : k ≤ len := by omega
    clear hk
    by_cases hlt : k < len
    · obtain ⟨s, hs⟩ : ∃ s, ss[k]? = some s := ⟨_, List.getElem?_eq_getElem (by omega)⟩
      obtain ⟨b, off, rfl, hbl, hcell⟩ := HL.out.cell k s hs
      have hjt := joinL_take ss k s hs
      have hJ' := joinL_le ss (k + 1)
      have hcat := cat_str (joinL (ss.take k)) s
      rw [← hjt] at hcat
      have hadd : (str (joinL (ss.take k))).size + s.size ≤ 9223372036854775807 := by
        rw [str_size, size_eq s, ← List.length_append, ← hjt]
        omega
      clear hs hbl hjt hJ'
      obtain ⟨y', hy'⟩ : ∃ y, str (joinL (ss.take (k + 1))) = y := ⟨_, rfl⟩
      have HY : Hid (str (joinL (ss.take (k + 1))) = y') := hy'
      rw [hy'] at hcat
      clear hy'
      revert hcat hadd
      generalize str (joinL (ss.take k)) = y
      intro hcat hadd
      go_wp2
      go_roundg (gk - 1)
      case measure => have := HK.out; omega
      case rel => exact ⟨k + 1, by have := HK.out; omega, by go_num, by rw [HY.out], rfl⟩
    · obtain rfl : k = len := by omega
      rw [List.take_of_length_le (by omega)]
      go_wp2
      go_ret
      exact ⟨rfl, rfl⟩

end Go.Proofs.YthfpodbbmeannaaDoor
