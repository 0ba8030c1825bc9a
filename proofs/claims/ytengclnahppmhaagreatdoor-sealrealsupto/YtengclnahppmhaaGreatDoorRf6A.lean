import Derived.Test.YtengclnahppmhaaGreatDoorAeZ
import Derived.Test.YtengclnahppmhaaGreatDoorBaseM
namespace Go.Proofs.YtengclnahppmhaaGreatDoor.Ae
open Go.RowKit Go.Lib Go.Deep

theorem cells_zero (k : Nat) : Lib.byteCells (List.replicate (k + 1) (0 : UInt8)) = Lib.byteCells (List.replicate k 0) ++ [.int .u8 0] := by
  rw [List.replicate_succ', byteCells_append]
  rfl
theorem cells_le (n k : Nat) : Lib.byteCells (leN n (k + 1)) = Lib.byteCells (leN n k) ++ [.int .u8 ((n / 256 ^ k % 256 : Nat) : Int)] := by
  rw [leN, byteCells_append]
  congr 1

set_option maxRecDepth 20000 in
set_option maxHeartbeats 1000000 in
theorem rzeros_any (n : Nat) (hn : n ≤ 4611686018427387904) (w : World) :
    Calls Tryz.prog 73 #[.int .i64 (n : Int)] w fun e w' => e = .returned (.string (str (fillZ n))) ∧ Below w.heap.size w w' := by
  obtain ⟨i0, hi, hz0, hz1, hz2⟩ := info_parts info5
  have HS : Hid (∀ k, Lib.byteCells (List.replicate (k + 1) (0 : UInt8)) = Lib.byteCells (List.replicate k 0) ++ [.int .u8 0]) := cells_zero
  have HC : Hid (∀ k v W, World.ownsRow W w.heap.size 5 1 v k (Lib.byteCells (List.replicate k 0)) → (convert 96 9 v).run Tryz.prog W = .ok (.string (str (List.replicate k 0))) W) := fun k v W h =>
    convert_own (P := Tryz.prog) W 96 9 5 w.heap.size _ _ Tryz.underlying96 Tryz.underlying5 Tryz.underlying9 (by rw [List.length_replicate]; exact h)
  have hone : ∀ u ∈ [Value.int .u8 0], u.oneCell' = true := by simp [Value.oneCell']
  have hlt := fillN_lt n
  go_enter Tryz.func73, Tryz.ntmps73
  go_wp2
  go_loopg [0, 3] (fillN n) (fun gk x v wr => ∃ k : Nat, k + gk = fillN n ∧ x = .int .i64 ((n + k : Nat) : Int) ∧ wr.ownsRow w.heap.size 5 1 v k (Lib.byteCells (List.replicate k 0)) ∧ Below w.heap.size w wr)
  case atStart => exact ⟨0, by omega, rfl, World.ownsRow_nil _ _ _ _, Below.refl _ _⟩
  case round =>
    obtain ⟨k, hk, rfl, hown, hbel⟩ := hrel
    have HK : Hid (k + gk = fillN n) := hk
    have hk' : k ≤ fillN n := by omega
    have HR : Hid (k < fillN n → (n + k) % 16 ≠ 0) := fun h => by unfold fillN at h; omega
    have HZ : Hid (k = fillN n → (n + k) % 16 = 0) := fun h => by unfold fillN at h; omega
    clear hk
    obtain ⟨x, hx⟩ : ∃ x, n + k = x := ⟨_, rfl⟩
    have HX : Hid (n + k = x) := hx
    have hxl : x ≤ 4611686018427388000 := by omega
    rw [hx] at HR HZ ⊢
    clear hx
    obtain ⟨m, hm⟩ : ∃ m : Nat, x % 16 = m := ⟨_, rfl⟩
    have htm : (x : Int).tmod 16 = (m : Int) := by rw [Int.tmod_eq_emod_of_nonneg (by omega)]; omega
    have hwm : IntKind.i64.wrap (m : Int) = (m : Int) := by rw [IntKind.wrap_i64]; omega
    rw [hm] at HR HZ
    clear hm
    by_cases hlt : k < fillN n
    · have hm0 : ¬ (m : Int) = 0 := by have := HR.out hlt; omega
      have hml : k + 1 ≤ maxLen := by unfold maxLen; omega
      have hwx : IntKind.i64.wrap ((x : Int) + 1) = (x : Int) + 1 := by rw [IntKind.wrap_i64]; omega
      go_wp2_with (at_builtin; refine wpList_append_own _ rfl _ _ 96 rfl w.heap.size 5 i0 (.int .u8 0) 1 1 Tryz.underlying96 hi hz0 hz1 hz2 rfl (by decide) _ _ _ rfl (hown.alloc _) ⟨wr.heap.size, 0, none⟩ 1 1 [.int .u8 0] rfl rfl (by intro i u h; exact cells_new wr #[.int .u8 0] 5 i u (by simpa using h)) hone hml (by omega) (by have := hbel.size; simp; omega) ?_; intro v' w' hown' hgrow' _)
      have R : w'.ownsRow w.heap.size 5 1 v' (k + 1) (Lib.byteCells (List.replicate (k + 1) 0)) := by rw [HS.out]; exact hown'
      have hb' : Below w.heap.size w w' := by
        have h1 := hbel.alloc hbel.size (.cells #[.int .u8 0] 5)
        exact h1.trans (grown_below hgrow' h1.size (hown.alloc _))
      clear hown' hgrow' hown
      go_wp2
      go_roundg (gk - 1)
      case measure => have := HK.out; omega
      case rel => exact ⟨k + 1, by have := HK.out; omega, by rw [show ((n + (k + 1) : Nat) : Int) = (x : Int) + 1 by have := HX.out; omega], R, hb'⟩
    · have hke : k = fillN n := by omega
      have hm0 : (m : Int) = 0 := by have := HZ.out hke; omega
      have hcv := HC.out k _ wr hown
      clear hown
      rw [hke] at hcv
      go_wp2
      go_ret
      exact ⟨rfl, hbel⟩

set_option maxRecDepth 20000 in
set_option maxHeartbeats 1000000 in
theorem reight_any (n : Nat) (hn : n ≤ 4611686018427387904) (w : World) :
    Calls Tryz.prog 74 #[.int .i64 (n : Int)] w fun e w' => e = .returned (.string (str (le8 n))) ∧ Below w.heap.size w w' := by
  obtain ⟨i0, hi, hz0, hz1, hz2⟩ := info_parts info5
  have HS : Hid (∀ k, Lib.byteCells (leN n (k + 1)) = Lib.byteCells (leN n k) ++ [.int .u8 ((n / 256 ^ k % 256 : Nat) : Int)]) := cells_le n
  have HC : Hid (∀ v W, World.ownsRow W w.heap.size 5 1 v 8 (Lib.byteCells (leN n 8)) → (convert 96 9 v).run Tryz.prog W = .ok (.string (str (le8 n))) W) := fun v W h =>
    convert_own (P := Tryz.prog) W 96 9 5 w.heap.size _ _ Tryz.underlying96 Tryz.underlying5 Tryz.underlying9 (by rw [show (le8 n).length = 8 from leN_length n 8]; exact h)
  have HD : Hid (∀ k, n / 256 ^ k / 256 = n / 256 ^ (k + 1)) := fun k => by rw [Nat.div_div_eq_div_mul, Nat.pow_succ]
  go_enter Tryz.func74, Tryz.ntmps74
  go_wp2
  go_loopg [0, 3, 4] 8 (fun gk x v i wr => ∃ k : Nat, k + gk = 8 ∧ i = .int .i64 (k : Int) ∧ x = .int .i64 ((n / 256 ^ k : Nat) : Int) ∧ wr.ownsRow w.heap.size 5 1 v k (Lib.byteCells (leN n k)) ∧ Below w.heap.size w wr)
  case atStart => exact ⟨0, by omega, rfl, by simp, World.ownsRow_nil _ _ _ _, Below.refl _ _⟩
  case round =>
    obtain ⟨k, hk, rfl, rfl, hown, hbel⟩ := hrel
    have HK : Hid (k + gk = 8) := hk
    have hk' : k ≤ 8 := by omega
    clear hk
    have hxl : n / 256 ^ k ≤ 4611686018427387904 := Nat.le_trans (Nat.div_le_self _ _) hn
    have HSk : Hid (Lib.byteCells (leN n (k + 1)) = Lib.byteCells (leN n k) ++ [.int .u8 ((n / 256 ^ k % 256 : Nat) : Int)]) := HS.out k
    have HDk : Hid (n / 256 ^ k / 256 = n / 256 ^ (k + 1)) := HD.out k
    generalize n / 256 ^ k = x at hxl HSk HDk
    obtain ⟨m, hm⟩ : ∃ m : Nat, x % 256 = m := ⟨_, rfl⟩
    obtain ⟨y, hy⟩ : ∃ y : Nat, x / 256 = y := ⟨_, rfl⟩
    have htm : (x : Int).tmod 256 = (m : Int) := by rw [Int.tmod_eq_emod_of_nonneg (by omega)]; omega
    have hwm : IntKind.i64.wrap (m : Int) = (m : Int) := by rw [IntKind.wrap_i64]; omega
    have hum : IntKind.u8.wrap (m : Int) = (m : Int) := by rw [IntKind.wrap_u8]; omega
    have hty : (x : Int).tdiv 256 = (y : Int) := by rw [Int.tdiv_eq_ediv_of_nonneg (by omega)]; omega
    have hwy : IntKind.i64.wrap (y : Int) = (y : Int) := by rw [IntKind.wrap_i64]; omega
    rw [hm] at HSk
    rw [hy] at HDk
    by_cases hlt : k < 8
    · have hltI : (k : Int) < 8 := by omega
      have hml : k + 1 ≤ maxLen := by unfold maxLen; omega
      have hone : ∀ u ∈ [Value.int .u8 (m : Int)], u.oneCell' = true := by simp [Value.oneCell']
      clear hm hy
      go_wp2_with (at_builtin; refine wpList_append_own _ rfl _ _ 96 rfl w.heap.size 5 i0 (.int .u8 0) 1 1 Tryz.underlying96 hi hz0 hz1 hz2 rfl (by decide) _ _ _ rfl (hown.alloc _) ⟨wr.heap.size, 0, none⟩ 1 1 [.int .u8 (m : Int)] rfl rfl (by intro i u h; exact cells_new wr #[.int .u8 (m : Int)] 5 i u (by simpa using h)) hone hml (by omega) (by have := hbel.size; simp; omega) ?_; intro v' w' hown' hgrow' _)
      have R : w'.ownsRow w.heap.size 5 1 v' (k + 1) (Lib.byteCells (leN n (k + 1))) := by rw [HSk.out]; exact hown'
      have hb' : Below w.heap.size w w' := by
        have h1 := hbel.alloc hbel.size (.cells #[.int .u8 (m : Int)] 5)
        exact h1.trans (grown_below hgrow' h1.size (hown.alloc _))
      clear hown' hgrow' hown
      go_wp2
      go_roundg (gk - 1)
      case measure => have := HK.out; omega
      case rel => exact ⟨k + 1, by have := HK.out; omega, by go_num, by rw [← HDk.out], R, hb'⟩
    · obtain rfl : k = 8 := by omega
      have hcv := HC.out _ wr hown
      clear hown
      go_wp2
      go_ret
      exact ⟨rfl, hbel⟩

end Go.Proofs.YtengclnahppmhaaGreatDoor.Ae
