import Derived.Test.YtcoddgpfdcjnaabFrG
import Derived.Test.YtcoddgpfdcjnaabFrQ
namespace Go.Proofs.Ytcoddgpfdcjnaab.Fr
open Go.RowKit Go.Lib Go.Deep

theorem size_at (n l z : Nat) (hn : n ≤ 1048571) (hl : l ≤ 1048576) (hz : bk (max (n + 5) l) = z) (w : World) : Calls Try.prog 12 #[.int .i64 (n : Int), .int .i64 (l : Int)] w fun e w' => e = .returned (.tuple #[.int .i64 (z : Int), .int .i64 0]) ∧ w' = w := by
  have h := size_any (n : Int) (l : Int) w
  have e1 : sizY (n : Int) (l : Int) = z := by unfold sizY; rw [if_neg (by omega), if_neg (by omega), Int.toNat_natCast, Int.toNat_natCast, hz]
  have e2 : sizE (n : Int) (l : Int) = 0 := by unfold sizE; rw [if_neg (by omega), if_neg (by omega)]
  rw [e1, e2] at h
  exact h
theorem pack_at (k : Nat) (b : ByteArray) (z : Nat) (hk : 1 ≤ k ∧ k ≤ 255) (hb : 5 + b.size ≤ z) (hz : z ≤ 1048576) (w : World) : Calls Try.prog 6 #[.int .i64 (k : Int), .string b, .int .i64 (z : Int)] w fun e w' => e = .returned (.tuple #[.string (str (frL k b.data.toList z)), .int .i64 0]) ∧ Below w.heap.size w w' := by
  have h := pack_any (k : Int) b (z : Int) (by omega) w
  have e1 : packE (k : Int) b (z : Int) = 0 := packE_of ⟨by omega, by omega, by omega, by omega⟩
  have e2 : packY (k : Int) b (z : Int) = str (frL k b.data.toList z) := by unfold packY; rw [if_pos e1, Int.toNat_natCast, Int.toNat_natCast]
  rw [e1, e2] at h
  exact h
theorem clip_nat (n : Int) (lo hi : Nat) (h : lo ≤ hi) (hn : -9223372036854775808 ≤ n ∧ n ≤ 9223372036854775807) (h2 : hi ≤ 1099511627776) : ∃ m : Nat, lo ≤ m ∧ m ≤ hi ∧ ∀ w, Calls Try.prog 11 #[.int .i64 n, .int .i64 (lo : Int), .int .i64 (hi : Int)] w fun e w' => e = .returned (.int .i64 (m : Int)) ∧ w' = w := by
  have c := clipped_any n (lo : Int) (hi : Int) hn (by omega) (by omega) (by omega)
  have h3 := Int.emod_nonneg n (show (hi : Int) - lo + 1 ≠ 0 by omega)
  have h4 := Int.emod_lt_of_pos n (show (0 : Int) < (hi : Int) - lo + 1 by omega)
  obtain ⟨m, hm⟩ : ∃ m : Nat, (lo : Int) + n % ((hi : Int) - lo + 1) = (m : Int) := ⟨((lo : Int) + n % ((hi : Int) - lo + 1)).toNat, by omega⟩
  rw [hm] at c
  exact ⟨m, by omega, by omega, c⟩
theorem beq_str (a b : ByteArray) : (a.toList == b.toList) = decide (a = b) := by
  rw [toList_data, toList_data]
  by_cases h : a = b
  · subst h; simp
  · rw [decide_eq_false h, beq_eq_false_iff_ne]
    intro h2
    exact h (by rw [← str_of a, ← str_of b, h2])
/-- frames of one kind and size say their bodies -/
theorem frL_inj (k : Nat) (a b : List UInt8) (m n : Nat) (hk : 1 ≤ k ∧ k ≤ 255) (ha : 5 + a.length ≤ m) (hm : m ≤ 1048576) (hb : 5 + b.length ≤ n) (hn : n ≤ 1048576) (h : frL k a m = frL k b n) : a = b := by
  have h1 := (unp_pack k a m hk hm ha (k : Int)).2
  have h2 := (unp_pack k b n hk hn hb (k : Int)).2
  rw [if_pos rfl] at h1 h2
  rw [h, h2] at h1
  have := congrArg (fun s : ByteArray => s.data.toList) h1
  simp only [str_data] at this
  exact this.symm

set_option maxHeartbeats 1000000 in
theorem alike_walk (a b : ByteArray) (least : Int) (_ha : a.size ≤ 140737488351232) (_hb : b.size ≤ 140737488351232) (w1 : -9223372036854775808 ≤ least ∧ least ≤ 9223372036854775807) (w : World) :
    Calls Try.prog 4 #[.string a, .string b, .int .i64 least] w fun e w' => e = .returned (.bool true) ∧ Below w.heap.size w w' := by
  obtain ⟨l, _, hl, c1⟩ := clip_nat least 0 70000 (by omega) w1 (by omega)
  by_cases h0 : 100000 < a.size
  · have h0' : (100000 : Int) < (a.size : Int) := by omega
    go_enter Try.func4, Try.ntmps4
    go_wp2_with fail
    refine (c1 _).mono ?_
    rintro e w' ⟨rfl, rfl⟩
    go_wp2
    go_ret
    exact ⟨rfl, Below.refl _ _⟩
  · have h0' : ¬ (100000 : Int) < (a.size : Int) := by omega
    by_cases h1 : 100000 < b.size
    · have h1' : (100000 : Int) < (b.size : Int) := by omega
      go_enter Try.func4, Try.ntmps4
      go_wp2_with fail
      refine (c1 _).mono ?_
      rintro e w' ⟨rfl, rfl⟩
      go_wp2
      go_ret
      exact ⟨rfl, Below.refl _ _⟩
    · have h1' : ¬ (100000 : Int) < (b.size : Int) := by omega
      have c2 := size_at a.size l _ (by omega) (by omega) rfl
      have c3 := size_at b.size l _ (by omega) (by omega) rfl
      have g1 := bk_ge (max (a.size + 5) l)
      have g2 := bk_ge (max (b.size + 5) l)
      have g3 := bk_le (max (a.size + 5) l) (by omega)
      have g4 := bk_le (max (b.size + 5) l) (by omega)
      have HAB : a = b → bk (max (a.size + 5) l) = bk (max (b.size + 5) l) := fun h => by rw [h]
      generalize bk (max (a.size + 5) l) = m at *
      generalize bk (max (b.size + 5) l) = n at *
      have c4 := pack_at 1 a m (by omega) (by omega) g3
      have c5 := pack_at 1 b n (by omega) (by omega) g4
      have q1 : (str (frL 1 a.data.toList m)).size = m := by rw [str_size, frL_length 1 _ m (by rw [← size_eq]; omega)]
      have q2 : (str (frL 1 b.data.toList n)).size = n := by rw [str_size, frL_length 1 _ n (by rw [← size_eq]; omega)]
      have q3 : (str (frL 1 a.data.toList m)) = (str (frL 1 b.data.toList n)) ↔ a = b := by
        constructor
        · intro h
          have h2 := congrArg (fun s : ByteArray => s.data.toList) h
          simp only [str_data] at h2
          have h3 := frL_inj 1 _ _ m n (by omega) (by rw [← size_eq]; omega) g3 (by rw [← size_eq]; omega) g4 h2
          rw [← str_of a, ← str_of b, h3]
        · intro h
          rw [HAB h, h]
      generalize str (frL 1 a.data.toList m) = s at *
      generalize str (frL 1 b.data.toList n) = t at *
      have q4 : (a.toList == b.toList) = (s.toList == t.toList) := by
        rw [beq_str, beq_str]
        by_cases h : a = b
        · rw [decide_eq_true h, decide_eq_true (q3.2 h)]
        · rw [decide_eq_false h, decide_eq_false (fun h2 => h (q3.1 h2))]
      have hnum := num_any 0
      clear q3 HAB
      go_enter Try.func4, Try.ntmps4
      go_wp2_with fail
      refine (c1 _).mono ?_
      rintro e w' ⟨rfl, rfl⟩
      go_wp2_with fail
      refine (c2 _).mono ?_
      rintro e w' ⟨rfl, rfl⟩
      go_wp2_with fail
      refine (c3 _).mono ?_
      rintro e w' ⟨rfl, rfl⟩
      go_wp2_with fail
      refine (hnum _).mono ?_
      rintro e w' ⟨rfl, rfl⟩
      go_wp2_with fail
      refine (hnum _).mono ?_
      rintro e w' ⟨rfl, rfl⟩
      go_wp2_with fail
      refine (c4 _).mono ?_
      rintro e w4 ⟨rfl, hb4⟩
      go_wp2_with fail
      refine (c5 _).mono ?_
      rintro e w5 ⟨rfl, hb5⟩
      have hb5' := hb4.trans (hb5.mono hb4.size)
      clear hb4 hb5
      go_wp2_with fail
      refine (hnum _).mono ?_
      rintro e w3 ⟨rfl, rfl⟩
      go_wp2_with fail
      refine (hnum _).mono ?_
      rintro e w3 ⟨rfl, rfl⟩
      go_wp2
      go_ret
      exact ⟨rfl, hb5'⟩
end Go.Proofs.Ytcoddgpfdcjnaab.Fr
