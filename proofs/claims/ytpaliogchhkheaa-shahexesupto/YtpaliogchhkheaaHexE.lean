import Derived.Test.YtpaliogchhkheaaHexD
namespace Go.Proofs.Ytpaliogchhkheaa
open Go.RowKit Go.Lib Go.Deep

theorem digit_yes (c : UInt8) (w : World) (h : isDig c = true) :
    Calls Try.prog 10 #[.int .u8 (c.toNat : Int)] w fun e w' => e = .returned (.int .i64 (digVal c : Int)) ∧ w = w' := by
  refine (digit_any c w).mono ?_
  rintro e w' ⟨rfl, rfl⟩
  simp [digI, h]
theorem digit_no (c : UInt8) (w : World) (h : isDig c = false) :
    Calls Try.prog 10 #[.int .u8 (c.toNat : Int)] w fun e w' => e = .returned (.int .i64 (-1)) ∧ w = w' := by
  refine (digit_any c w).mono ?_
  rintro e w' ⟨rfl, rfl⟩
  simp [digI, h]

set_option maxHeartbeats 1000000 in
theorem refUnhex_even (s : ByteArray) (w : World) (hs : s.size ≤ 16777216) (h2 : s.size % 2 = 0) :
    Calls Try.prog 6 #[.string s] w fun e w' => e = .returned (.tuple #[.string (unS s), .int .i64 (unE s)]) ∧ Below w.heap.size w w' := by
  obtain ⟨i0, hi, hz0, hz1, hz2⟩ := info_parts info5
  have hrem : ((s.size : Int).tmod 2) = 0 := by rw [Int.tmod_eq_emod_of_nonneg (by omega)]; omega
  go_enter Try.func6, Try.ntmps6
  go_wp2
  go_loopg [4, 5] (s.size / 2) (fun gk v i wr => ∃ k : Nat, k + gk = s.size / 2 ∧ i = .int .i64 (2 * (k : Int)) ∧ (s.data.toList.take (2 * k)).all isDig = true ∧ wr.ownsRow w.heap.size 5 1 v (unL (s.data.toList.take (2 * k))).length (byteCells (unL (s.data.toList.take (2 * k)))) ∧ Below w.heap.size w wr)
  case atStart => exact ⟨0, by omega, rfl, by simp, by simpa [unL, byteCells] using World.ownsRow_nil w w.heap.size 5 1, Below.refl _ _⟩
  case round =>
    clear hrem
    obtain ⟨k, hk, rfl, hall, hown, hbel⟩ := hrel
    have HK : Hid (k + gk = s.size / 2) := hk
    have HL : Hid ((s.data.toList.take (2 * k)).all isDig = true) := hall
    have hk' : k ≤ s.size / 2 := by omega
    clear hk hall
    by_cases hlt : k < s.size / 2
    · have hlt' : 2 * (k : Int) < (s.size : Int) := by omega
      obtain ⟨a, ha⟩ : ∃ c, s.data.toList[2 * k]? = some c := ⟨_, List.getElem?_eq_getElem (by simp; omega)⟩
      obtain ⟨b, hb⟩ : ∃ c, s.data.toList[2 * k + 1]? = some c := ⟨_, List.getElem?_eq_getElem (by simp; omega)⟩
      have hia := fun w => index_at' (P := Try.prog) w 9 s .i64 (2 * (k : Int)) (2 * k) a Try.underlying9 (by omega) ha
      have hib := fun w => index_at' (P := Try.prog) w 9 s .i64 (2 * (k : Int) + 1) (2 * k + 1) b Try.underlying9 (by omega) hb
      clear h2
      by_cases da : isDig a = true
      · by_cases db : isDig b = true
        · have hx := val_lt a da
          have hy := val_lt b db
          have hone : ∀ u ∈ [Value.int .u8 ((16 * digVal a + digVal b : Nat) : Int)], u.oneCell' = true := by
            intro u hu
            simp only [List.mem_cons, List.not_mem_nil, or_false] at hu
            subst hu
            rfl
          have hlen : (unL (s.data.toList.take (2 * k))).length ≤ 8388608 := by rw [unL_length]; simp; omega
          have hml : (unL (s.data.toList.take (2 * k))).length + 1 ≤ maxLen := by unfold maxLen; omega
          have hmod : (16 * (digVal a : Int) + (digVal b : Int)) % 256 = 16 * (digVal a : Int) + (digVal b : Int) := by omega
          go_wp2_with (first | (go_at_call_of 10 a; refine (digit_yes a _ da).mono ?_; rintro e w'' ⟨rfl, rfl⟩) | (go_at_call_of 10 b; refine (digit_yes b _ db).mono ?_; rintro e w'' ⟨rfl, rfl⟩) | (at_builtin; refine wpList_append_own _ rfl _ _ 30 rfl w.heap.size 5 i0 (.int .u8 0) 1 1 Try.underlying30 hi hz0 hz1 hz2 rfl (by decide) _ _ _ rfl (hown.alloc _) ⟨wr.heap.size, 0, none⟩ 1 1 [.int .u8 (16 * (digVal a : Int) + (digVal b : Int))] rfl rfl (one_cell wr _) hone hml (by omega) (by have := hbel.size; simp; omega) ?_; intro v' w' hown' hgrow' _))
          have R := un_rel ha hb da db hbel HL.out hown hown' _ hgrow'
          clear hown' hgrow' hown
          go_wp2
          go_roundg (gk - 1)
          case measure => have := HK.out; omega
          case rel => exact ⟨k + 1, by have := HK.out; omega, by go_num, R.1, R.2.1, R.2.2⟩
        · have db' : isDig b = false := by simpa using db
          go_wp2_with (first | (go_at_call_of 10 a; refine (digit_yes a _ da).mono ?_; rintro e w'' ⟨rfl, rfl⟩) | (go_at_call_of 10 b; refine (digit_no b _ db').mono ?_; rintro e w'' ⟨rfl, rfl⟩))
          go_ret2
          simp only [unS, unE, unOK_no hb db']
          exact ⟨rfl, hbel⟩
      · have da' : isDig a = false := by simpa using da
        by_cases db : isDig b = true
        · go_wp2_with (first | (go_at_call_of 10 a; refine (digit_no a _ da').mono ?_; rintro e w'' ⟨rfl, rfl⟩) | (go_at_call_of 10 b; refine (digit_yes b _ db).mono ?_; rintro e w'' ⟨rfl, rfl⟩))
          go_ret2
          simp only [unS, unE, unOK_no ha da']
          exact ⟨rfl, hbel⟩
        · have db' : isDig b = false := by simpa using db
          go_wp2_with (first | (go_at_call_of 10 a; refine (digit_no a _ da').mono ?_; rintro e w'' ⟨rfl, rfl⟩) | (go_at_call_of 10 b; refine (digit_no b _ db').mono ?_; rintro e w'' ⟨rfl, rfl⟩))
          go_ret2
          simp only [unS, unE, unOK_no ha da']
          exact ⟨rfl, hbel⟩
    · obtain rfl : k = s.size / 2 := by omega
      have htk : s.data.toList.take (2 * (s.size / 2)) = s.data.toList := List.take_of_length_le (by simp; omega)
      have hall := HL.out
      rw [htk] at hown hall
      have hok : unOK s.data.toList = true := by simp [unOK, hall, h2]
      have hcv := convert_own (P := Try.prog) wr 30 9 5 w.heap.size _ (unL s.data.toList) Try.underlying30 Try.underlying5 Try.underlying9 hown
      have hnl : ¬ 2 * ((s.size / 2 : Nat) : Int) < (s.size : Int) := by omega
      clear h2 htk hall HL
      go_wp2
      go_ret2
      simp only [unS, unE, hok]
      exact ⟨rfl, hbel⟩

theorem refUnhex_any (s : ByteArray) (w : World) (hs : s.size ≤ 16777216) :
    Calls Try.prog 6 #[.string s] w fun e w' => e = .returned (.tuple #[.string (unS s), .int .i64 (unE s)]) ∧ Below w.heap.size w w' := by
  by_cases h2 : s.size % 2 = 0
  · exact refUnhex_even s w hs h2
  · have hrem : ((s.size : Int).tmod 2) = 1 := by rw [Int.tmod_eq_emod_of_nonneg (by omega)]; omega
    have hok : unOK s.data.toList = false := by simp [unOK]; intro h; exact absurd h h2
    clear h2
    go_enter Try.func6, Try.ntmps6
    go_wp2
    go_ret2
    simp only [unS, unE, hok]
    exact ⟨rfl, Below.refl _ _⟩

theorem num_any (n : Int) (w : World) : Calls Try.prog 8 #[.int .i64 n] w fun e w' => e = .returned (.int .i64 n) ∧ w = w' := by
  go_enter Try.func8, Try.ntmps8
  go_wp2
  go_ret
  exact ⟨rfl, rfl⟩

theorem unOK_hex (l : List UInt8) : unOK (hexL l) = true := by
  have h1 : (hexL l).all isDig = true := List.all_eq_true.2 (hexL_isDig l)
  simp [unOK, h1, hexL_length]
theorem unS_hexS (s : ByteArray) : unS (hexS s) = s := by
  unfold unS hexS
  rw [str_data, unOK_hex, unL_hexL, str_of]
  rfl
theorem unE_hexS (s : ByteArray) : unE (hexS s) = 0 := by
  unfold unE hexS
  rw [str_data, unOK_hex]
  rfl
theorem hexS_size (s : ByteArray) : (hexS s).size = 2 * s.size := by
  unfold hexS
  rw [str_size, hexL_length]
  simp

theorem unhex_back (s : ByteArray) (w : World) (hs : s.size ≤ 4194304) :
    Calls Try.prog 5 #[.string (hexS s)] w fun e w' => e = .returned (.tuple #[.string s, .int .i64 0]) ∧ Below w.heap.size w w' := by
  refine (unhex_any (hexS s) w (by rw [hexS_size]; omega)).mono ?_
  rintro e w' ⟨rfl, hb⟩
  rw [unS_hexS, unE_hexS]
  exact ⟨rfl, hb⟩

set_option maxHeartbeats 1000000 in
theorem hexes_walk (s : ByteArray) (w : World) (hs : s.size ≤ 4194304) :
    Calls Try.prog 3 #[.string s] w fun e w' => e = .returned (.bool true) ∧ Below w.heap.size w w' := by
  have hs' : s.size ≤ 16777216 := by omega
  go_enter Try.func3, Try.ntmps3
  go_wp2_with (go_at_call 4; refine (hex_any s _ hs).mono ?_; rintro e w1 ⟨rfl, hb1⟩)
  go_wp2_with (go_at_call 5; refine (unhex_any s _ hs').mono ?_; rintro e w2 ⟨rfl, hb2⟩)
  go_wp2_with (go_at_call 6; refine (refUnhex_any s _ hs').mono ?_; rintro e w3 ⟨rfl, hb3⟩)
  go_wp2_with (first | (go_at_call 7; refine (refHex_any s _ hs).mono ?_; rintro e w4 ⟨rfl, hb4⟩) | (go_at_call 8; refine (num_any _ _).mono ?_; rintro e w'' ⟨rfl, rfl⟩))
  go_wp2_with (first | (go_at_call 5; refine (unhex_back s _ hs).mono ?_; rintro e w5 ⟨rfl, hb5⟩) | (go_at_call 8; refine (num_any _ _).mono ?_; rintro e w'' ⟨rfl, rfl⟩))
  go_ret
  exact ⟨rfl, (((hb1.trans (hb2.mono hb1.size)).trans (hb3.mono (hb1.trans (hb2.mono hb1.size)).size)).trans (hb4.mono ((hb1.trans (hb2.mono hb1.size)).trans (hb3.mono (hb1.trans (hb2.mono hb1.size)).size)).size)).trans (hb5.mono (((hb1.trans (hb2.mono hb1.size)).trans (hb3.mono (hb1.trans (hb2.mono hb1.size)).size)).trans (hb4.mono ((hb1.trans (hb2.mono hb1.size)).trans (hb3.mono (hb1.trans (hb2.mono hb1.size)).size)).size)).size)⟩

end Go.Proofs.Ytpaliogchhkheaa
