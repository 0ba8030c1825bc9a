import Derived.Test.YtbdgbefjmfcgcaaDoorIxMh
namespace Go.Proofs.YtbdgbefjmfcgcaaDoor.Ix
open Go.RowKit Go.Lib Go.Deep

theorem tmod_fix (n : Int) (m : Nat) (hm : 0 < m) (hm2 : m ≤ 1099511627776) : (wrap64 (n.tmod (m : Int) + (m : Int))).tmod (m : Int) = n % (m : Int) := by
  have h1 : n.tmod (m : Int) < (m : Int) := Int.tmod_lt_of_pos n (by omega)
  have h2 : -(m : Int) < n.tmod (m : Int) := by
    by_cases h : 0 ≤ n
    · have := Int.tmod_nonneg (m : Int) h
      omega
    · have e := Int.neg_tmod (-n) (m : Int)
      rw [Int.neg_neg] at e
      have := Int.tmod_lt_of_pos (-n) (b := (m : Int)) (by omega)
      omega
  have h3 : wrap64 (n.tmod (m : Int) + (m : Int)) = n.tmod (m : Int) + (m : Int) := by
    unfold wrap64
    omega
  rw [h3, Int.tmod_eq_emod_of_nonneg (by omega), Int.add_emod_right, Int.tmod_def, Int.sub_mul_emod_self_left]
theorem mod_any (n : Int) (m : Nat) (hm : 0 < m) (hm2 : m ≤ 1099511627776) (w : World) : Calls Tryd.prog 16 #[.int .i64 n, .int .i64 (m : Int)] w fun e w' => e = .returned (.int .i64 (n % (m : Int))) ∧ w' = w := by
  have h0 : ¬ (m : Int) = 0 := by omega
  have HF : Hid _ := tmod_fix n m hm hm2
  go_enter Tryd.func16, Tryd.ntmps16
  go_wp2
  go_ret
  exact ⟨by rw [← HF.out]; rfl, rfl⟩
theorem modN_any (n : Int) (m : Nat) (hm : 0 < m) (hm2 : m ≤ 1099511627776) : ∃ r : Nat, r < m ∧ ∀ w, Calls Tryd.prog 16 #[.int .i64 n, .int .i64 (m : Int)] w fun e w' => e = .returned (.int .i64 (r : Int)) ∧ w' = w := by
  have h1 := Int.emod_nonneg n (b := (m : Int)) (by omega)
  have h2 := Int.emod_lt_of_pos n (b := (m : Int)) (by omega)
  refine ⟨(n % (m : Int)).toNat, by omega, fun w => ?_⟩
  rw [show (((n % (m : Int)).toNat : Nat) : Int) = n % (m : Int) by omega]
  exact mod_any n m hm hm2 w
/-- a configuration that was made -/
structure Mde (c : Cn) : Prop where
  may : c.May
  sl : c.sl ≤ 64
  fl : c.fl ≤ 64
  dr : c.dr ≤ 63
  pg : c.pg ≤ 1087
theorem mde_of (a0 a1 a2 a3 a4 a5 : Nat) (h0 : a0 < 64) (h1 : a1 < 64) (h2 : a2 < 64) (h3 : a3 < 65537) (h4 : a4 < 65521) (h5 : a5 < 1024) : Mde ⟨1 + a0, 1 + a1, a2, a3, 16 + a4, 64 + a5⟩ := by
  refine ⟨⟨by simp only [Cn.In]; omega, ?_⟩, by simp only; omega, by simp only; omega, by simp only; omega, by simp only; omega⟩
  unfold Cn.pgs Cn.len Cn.body
  simp only
  have : (36 * a2 + 40 * (1 + a1) + 44 * (1 + a1 + (1 + a0)) + 4 + (64 + a5 - 5) - 1) / (64 + a5 - 5) ≤ 200 := by
    apply Nat.le_of_lt_succ
    rw [Nat.div_lt_iff_lt_mul (by omega)]
    have : 59 * (200 + 1) ≤ (64 + a5 - 5) * (200 + 1) := Nat.mul_le_mul_right _ (by omega)
    omega
  omega
theorem modI_any (n m : Int) (hm : 0 < m ∧ m ≤ 1099511627776) (w : World) : Calls Tryd.prog 16 #[.int .i64 n, .int .i64 m] w fun e w' => e = .returned (.int .i64 (n % m)) ∧ w' = w := by
  obtain ⟨k, rfl⟩ : ∃ k : Nat, m = (k : Int) := ⟨m.toNat, by omega⟩
  exact mod_any n k (by omega) (by omega) w
end Go.Proofs.YtbdgbefjmfcgcaaDoor.Ix
