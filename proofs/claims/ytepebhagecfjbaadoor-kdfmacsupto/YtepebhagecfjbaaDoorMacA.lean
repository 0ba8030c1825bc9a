import Derived.Test.YtepebhagecfjbaaDoorMkA
import Derived.Test.YtepebhagecfjbaaDoorRef3A
import Derived.Test.YtepebhagecfjbaaDoorHmacA
import Derived.Lib.AppendStr
namespace Go.Proofs.YtepebhagecfjbaaDoor
open Go.RowKit Go.Lib

set_option maxRecDepth 20000 in
set_option maxHeartbeats 1000000 in
theorem texts_any (w : World) (a : Option Addr) (len cap : Nat) (ss : List ByteArray) (hL : Lst w a len ss) (hsm : len ≤ 2147483647) :
    Calls Tryd.prog 17 #[.slice a len cap] w fun e w' => ∃ v, e = .returned v ∧ w'.ownsRow w.heap.size 9 1 v len (strCells ss) ∧ Below w.heap.size w w' := by
  obtain ⟨i0, hi, hz0, hz1, hz2⟩ := info_parts info9
  have HL : Hid (Lst w a len ss) := hL
  have hl := hL.sz
  clear hL
  go_enter Tryd.func17, Tryd.ntmps17
  go_wp2
  go_loopg [3, 4] len (fun gk v i wr => ∃ k : Nat, k + gk = len ∧ i = .int .i64 k ∧ wr.ownsRow w.heap.size 9 1 v k (strCells (ss.take k)) ∧ Below w.heap.size w wr)
  case atStart => exact ⟨0, by omega, rfl, World.ownsRow_nil _ _ _ _, Below.refl _ _⟩
  case round =>
    obtain ⟨k, hk, rfl, hown, hbel⟩ := hrel
    have HK : Hid (k + gk = len) := hk
    have hk' : k ≤ len := by omega
    clear hk
    by_cases hlt : k < len
    · obtain ⟨s, hs⟩ : ∃ s, ss[k]? = some s := ⟨_, List.getElem?_eq_getElem (by omega)⟩
      obtain ⟨b, off, rfl, hbl, hcell⟩ := (HL.out.below hbel).cell k s hs
      have HS : Hid (strCells (ss.take (k + 1)) = strCells (ss.take k) ++ [.string s]) := strCells_take ss k s hs
      clear hs hbl
      have hone : ∀ u ∈ [Value.string s], u.oneCell' = true := strCells_one [s]
      have hml : k + 1 ≤ maxLen := by unfold maxLen; omega
      go_wp2_with (at_builtin; refine wpList_append_own _ rfl _ _ 33 rfl w.heap.size 9 i0 (.string { data := #[] }) 1 16 Tryd.underlying33 hi hz0 hz1 hz2 rfl (by decide) _ _ _ rfl (hown.alloc _) ⟨wr.heap.size, 0, none⟩ 1 1 [.string s] rfl rfl (by intro j u h; exact cells_new wr #[.string s] 9 j u (by simpa using h)) hone hml (by omega) (by have := hbel.size; simp; omega) ?_; intro v' w' hown' hgrow' _)
      have R : w'.ownsRow w.heap.size 9 1 v' (k + 1) (strCells (ss.take (k + 1))) := by rw [HS.out]; exact hown'
      have hb' : Below w.heap.size w w' := by
        have h1 := hbel.alloc hbel.size (.cells #[.string s] 9)
        exact h1.trans (grown_below hgrow' h1.size (hown.alloc _))
      clear hown' hgrow' hown hcell
      go_wp2
      go_roundg (gk - 1)
      case measure => have := HK.out; omega
      case rel => exact ⟨k + 1, by have := HK.out; omega, by go_num, R, hb'⟩
    · obtain rfl : k = len := by omega
      rw [List.take_of_length_le (by omega)] at hown
      go_wp2
      go_ret
      exact ⟨_, rfl, hown, hbel⟩

set_option maxRecDepth 20000 in
set_option maxHeartbeats 1000000 in
theorem joined_any (w : World) (a : Option Addr) (len cap : Nat) (ss : List ByteArray) (hL : Lst w a len ss) (hsm : (joinL ss).length ≤ 140737488355328) :
    Calls Tryd.prog 37 #[.slice a len cap] w fun e w' => e = .returned (.string (str (joinL ss))) ∧ Below w.heap.size w w' := by
  obtain ⟨i0, hi, hz0, hz1, hz2⟩ := info_parts info5
  have HL : Hid (Lst w a len ss) := hL
  have hl := hL.sz
  have htop := hL.top
  clear hL
  go_enter Tryd.func37, Tryd.ntmps37
  go_wp2
  go_loopg [3, 4] len (fun gk v i wr => ∃ k : Nat, k + gk = len ∧ i = .int .i64 k ∧ wr.ownsRow w.heap.size 5 1 v (joinL (ss.take k)).length (Lib.byteCells (joinL (ss.take k))) ∧ Below w.heap.size w wr)
  case atStart => exact ⟨0, by omega, rfl, World.ownsRow_nil _ _ _ _, Below.refl _ _⟩
  case round =>
    obtain ⟨k, hk, rfl, hown, hbel⟩ := hrel
    have HK : Hid (k + gk = len) := hk
    have hk' : k ≤ len := by omega
    clear hk
    by_cases hlt : k < len
    · obtain ⟨s, hs⟩ : ∃ s, ss[k]? = some s := ⟨_, List.getElem?_eq_getElem (by omega)⟩
      obtain ⟨b, off, rfl, hbl, hcell⟩ := (HL.out.below hbel).cell k s hs
      have hjt := joinL_take ss k s hs
      have hJ' := joinL_le ss (k + 1)
      rw [hjt, List.length_append, ← size_eq] at hJ'
      have HS : Hid (joinL (ss.take (k + 1)) = joinL (ss.take k) ++ s.data.toList) := hjt
      clear hs hbl hjt
      have hml : (joinL (ss.take k)).length + s.size ≤ maxLen := by unfold maxLen; omega
      go_wp2_with (at_builtin; refine Go.Lib.wpList_append_own_string _ rfl _ _ 31 9 rfl w.heap.size 5 i0 Tryd.underlying31 Tryd.underlying9 hi hz0 hz1 hz2 _ _ _ rfl hown s rfl hml (by omega) hbel.size ?_; intro v' w' hown' hgrow' _)
      have R : w'.ownsRow w.heap.size 5 1 v' (joinL (ss.take (k + 1))).length (Lib.byteCells (joinL (ss.take (k + 1)))) := by
        rw [HS.out, List.length_append, ← size_eq, byteCells_append]
        exact hown'
      have hb' : Below w.heap.size w w' := hbel.trans (grown_below hgrow' hbel.size hown)
      clear hown' hgrow' hown hcell
      go_wp2
      go_roundg (gk - 1)
      case measure => have := HK.out; omega
      case rel => exact ⟨k + 1, by have := HK.out; omega, by go_num, R, hb'⟩
    · obtain rfl : k = len := by omega
      rw [List.take_of_length_le (by omega)] at hown
      have hcv := convert_own (P := Tryd.prog) wr 31 9 5 w.heap.size _ (joinL ss) Tryd.underlying31 Tryd.underlying5 Tryd.underlying9 hown
      go_wp2
      go_ret
      exact ⟨rfl, hbel⟩

set_option maxRecDepth 20000 in
set_option maxHeartbeats 1000000 in
theorem rhmac_any (key : ByteArray) (hk : key.size ≤ 1048576) (w : World) (hr : RTabs w) (h4 : 4 ≤ w.heap.size) (a : Option Addr) (len cap : Nat) (ss : List ByteArray) (hL : Lst w a len ss) (hJ : (joinL ss).length ≤ 4194304) :
    Calls Tryd.prog 18 #[.string key, .slice a len cap] w fun e w' => e = .returned (.string (str (hmacL key.data.toList (joinL ss)))) ∧ Below w.heap.size w w' := by
  have hj := joined_any w a len cap ss hL (by omega)
  have hke := keyed_any key (str (joinL ss)) (by omega) (by rw [str_size]; omega)
  rw [str_data] at hke
  revert hj hke
  generalize str (hmacL key.data.toList (joinL ss)) = y
  generalize str (joinL ss) = z
  intro hj hke
  clear hL
  go_enter Tryd.func18, Tryd.ntmps18
  go_wp2_with fail
  refine hj.mono ?_
  rintro e w1 ⟨rfl, hb1⟩
  have z1 := hb1.size
  have hk1 := hke w1 (hr.below hb1 h4) (by omega)
  go_wp2_with (go_at_call 38; refine hk1.mono ?_; rintro e w2 ⟨rfl, hb2⟩)
  go_ret
  exact ⟨rfl, hb1.trans (hb2.mono z1)⟩

set_option maxRecDepth 20000 in
set_option maxHeartbeats 1000000 in
theorem same_any (w : World) (a1 a2 : Option Addr) (len c1 c2 : Nat) (ss : List ByteArray) (hL1 : Lst w a1 len ss) (hL2 : Lst w a2 len ss) :
    Calls Tryd.prog 19 #[.slice a1 len c1, .slice a2 len c2] w fun e w' => e = .returned (.bool true) ∧ Below w.heap.size w w' := by
  have hl := hL1.sz
  have htop := hL1.top
  have HL : Hid (Lst w a1 len ss ∧ Lst w a2 len ss) := ⟨hL1, hL2⟩
  clear hL1 hL2
  go_enter Tryd.func19, Tryd.ntmps19
  go_wp2
  go_loopg [5] len (fun gk i wr => ∃ k : Nat, k + gk = len ∧ i = .int .i64 k ∧ Below w.heap.size w wr)
  case atStart => exact ⟨0, by omega, rfl, Below.refl _ _⟩
  case round =>
    obtain ⟨k, hk, rfl, hbel⟩ := hrel
    have HK : Hid (k + gk = len) := hk
    have hk' : k ≤ len := by omega
    clear hk
    by_cases hlt : k < len
    · obtain ⟨s, hs⟩ : ∃ s, ss[k]? = some s := ⟨_, List.getElem?_eq_getElem (by omega)⟩
      obtain ⟨b, off, rfl, _, hcell⟩ := (HL.out.1.below hbel).cell k s hs
      obtain ⟨b', off', rfl, _, hcell'⟩ := (HL.out.2.below hbel).cell k s hs
      clear hs
      go_wp2_with fail
      go_quiet (fail)
      have hb' : Below w.heap.size w (wr.drewN nq) := hbel.trans ((below_drewN wr nq).mono hbel.size)
      clear hcell hcell'
      go_wp2
      go_roundg (gk - 1)
      case measure => have := HK.out; omega
      case rel => exact ⟨k + 1, by have := HK.out; omega, by go_num, hb'⟩
    · obtain rfl : k = len := by omega
      go_wp2
      go_ret
      exact ⟨rfl, hbel⟩

end Go.Proofs.YtepebhagecfjbaaDoor
