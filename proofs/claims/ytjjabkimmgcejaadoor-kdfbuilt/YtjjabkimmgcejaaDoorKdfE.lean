import Derived.Test.YtjjabkimmgcejaaDoorHmacA
namespace Go.Proofs.YtjjabkimmgcejaaDoor
open Go.RowKit Go.Lib Go.Deep

set_option maxRecDepth 20000 in
set_option maxHeartbeats 1000000 in
theorem many_any (c : UInt8) (n : Nat) (hn : n ≤ 1048576) (w : World) :
    Calls Tryd.prog 12 #[.int .u8 (c.toNat : Int), .int .i64 (n : Int)] w fun e w' => e = .returned (.string (str (List.replicate n c))) ∧ Below w.heap.size w w' := by
  obtain ⟨i0, hi, hz0, hz1, hz2⟩ := info_parts info5
  have hone : ∀ u ∈ [Value.int .u8 (c.toNat : Int)], u.oneCell' = true := byteCells_one [c]
  have HS : Hid (∀ k, Lib.byteCells (List.replicate (k + 1) c) = Lib.byteCells (List.replicate k c) ++ [.int .u8 (c.toNat : Int)]) := fun k => by
    rw [List.replicate_succ', byteCells_append]
    rfl
  have HC : Hid (∀ k v W, World.ownsRow W w.heap.size 5 1 v k (Lib.byteCells (List.replicate k c)) → (convert 42 9 v).run Tryd.prog W = .ok (.string (str (List.replicate k c))) W) := fun k v W h =>
    convert_own (P := Tryd.prog) W 42 9 5 w.heap.size _ _ Tryd.underlying42 Tryd.underlying5 Tryd.underlying9 (by rw [List.length_replicate]; exact h)
  have H0 : Hid (Lib.byteCells (List.replicate 0 c) = []) := rfl
  revert hone HS
  generalize (c.toNat : Int) = x
  intro hone HS
  go_enter Tryd.func12, Tryd.ntmps12
  go_wp2
  go_loopg [5, 6] n (fun gk v i wr => ∃ k : Nat, k + gk = n ∧ i = .int .i64 k ∧ wr.ownsRow w.heap.size 5 1 v k (Lib.byteCells (List.replicate k c)) ∧ Below w.heap.size w wr)
  case atStart => exact ⟨0, by omega, rfl, World.ownsRow_nil _ _ _ _, Below.refl _ _⟩
  case round =>
    obtain ⟨k, hk, rfl, hown, hbel⟩ := hrel
    have HK : Hid (k + gk = n) := hk
    have hk' : k ≤ n := by omega
    clear hk
    by_cases hlt : k < n
    · have hml : k + 1 ≤ maxLen := by unfold maxLen; omega
      go_wp2_with (at_builtin; refine wpList_append_own _ rfl _ _ 42 rfl w.heap.size 5 i0 (.int .u8 0) 1 1 Tryd.underlying42 hi hz0 hz1 hz2 rfl (by decide) _ _ _ rfl (hown.alloc _) ⟨wr.heap.size, 0, none⟩ 1 1 [.int .u8 x] rfl rfl (by intro i u h; exact cells_new wr #[.int .u8 x] 5 i u (by simpa using h)) hone hml (by omega) (by have := hbel.size; simp; omega) ?_; intro v' w' hown' hgrow' _)
      have R : w'.ownsRow w.heap.size 5 1 v' (k + 1) (Lib.byteCells (List.replicate (k + 1) c)) := by rw [HS.out]; exact hown'
      have hb' : Below w.heap.size w w' := by
        have h1 := hbel.alloc hbel.size (.cells #[.int .u8 x] 5)
        exact h1.trans (grown_below hgrow' h1.size (hown.alloc _))
      clear hown' hgrow' hown
      go_wp2
      go_roundg (gk - 1)
      case measure => have := HK.out; omega
      case rel => exact ⟨k + 1, by have := HK.out; omega, by go_num, R, hb'⟩
    · obtain rfl : k = n := by omega
      have hcv := HC.out k _ wr hown
      clear hown
      go_wp2
      go_ret
      exact ⟨rfl, hbel⟩

set_option maxRecDepth 20000 in
set_option maxHeartbeats 1000000 in
theorem clipped_any (n : Int) (lo hi : Nat) (hlh : lo ≤ hi) (hh : hi ≤ 1048576) (w : World) :
    Calls Tryd.prog 11 #[.int .i64 n, .int .i64 (lo : Int), .int .i64 (hi : Int)] w fun e w' => (∃ r : Nat, e = .returned (.int .i64 (r : Int)) ∧ lo ≤ r ∧ r ≤ hi) ∧ w = w' := by
  have w1 : IntKind.i64.wrap ((hi : Int) - (lo : Int)) = (hi : Int) - (lo : Int) := by rw [IntKind.wrap_i64]; omega
  have w2 : IntKind.i64.wrap ((hi : Int) - (lo : Int) + 1) = (hi : Int) - (lo : Int) + 1 := by rw [IntKind.wrap_i64]; omega
  obtain ⟨D, hD⟩ : ∃ D : Int, (hi : Int) - (lo : Int) + 1 = D := ⟨_, rfl⟩
  have hD0 : 0 < D := by omega
  have hne : (D == 0) = false := by simp; omega
  obtain ⟨m, hm⟩ : ∃ m : Int, n.tmod D = m := ⟨_, rfl⟩
  have hm1 : m < D := by rw [← hm]; exact Int.tmod_lt_of_pos n hD0
  have hm2 : -D < m := by rw [← hm]; exact Int.lt_tmod_of_pos n hD0
  have HD : Hid ((hi : Int) - (lo : Int) + 1 = D) := hD
  have hwm : IntKind.i64.wrap m = m := by rw [IntKind.wrap_i64]; omega
  by_cases hneg : m < 0
  · have w3 : IntKind.i64.wrap (m + (hi : Int)) = m + (hi : Int) := by rw [IntKind.wrap_i64]; omega
    have w4 : IntKind.i64.wrap (m + (hi : Int) - (lo : Int)) = m + (hi : Int) - (lo : Int) := by rw [IntKind.wrap_i64]; omega
    have w5 : IntKind.i64.wrap (m + (hi : Int) - (lo : Int) + 1) = m + (hi : Int) - (lo : Int) + 1 := by rw [IntKind.wrap_i64]; omega
    have w6 : IntKind.i64.wrap ((lo : Int) + (m + (hi : Int) - (lo : Int) + 1)) = (lo : Int) + (m + (hi : Int) - (lo : Int) + 1) := by rw [IntKind.wrap_i64]; omega
    go_enter Tryd.func11, Tryd.ntmps11
    go_wp2
    go_ret
    refine ⟨⟨((lo : Int) + (m + (hi : Int) - (lo : Int) + 1)).toNat, ?_, by omega, by have := HD.out; omega⟩, rfl⟩
    rw [Int.toNat_of_nonneg (by have := HD.out; omega)]
    rfl
  · have hge : ¬ m < 0 := hneg
    have w6 : IntKind.i64.wrap ((lo : Int) + m) = (lo : Int) + m := by rw [IntKind.wrap_i64]; omega
    go_enter Tryd.func11, Tryd.ntmps11
    go_wp2
    go_ret
    refine ⟨⟨((lo : Int) + m).toNat, ?_, by omega, by have := HD.out; omega⟩, rfl⟩
    rw [Int.toNat_of_nonneg (by omega)]
    rfl

end Go.Proofs.YtjjabkimmgcejaaDoor
