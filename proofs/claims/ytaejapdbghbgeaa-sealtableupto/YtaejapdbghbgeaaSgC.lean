import Derived.Test.YtaejapdbghbgeaaSgB
namespace Go.Proofs.Ytaejapdbghbgeaa.Se
open Go.RowKit Go.Lib Go.Deep

def nextX (x : Int) : Int := (x * 69069 + 12345) % 2147483648
def cL (n : Nat) : Nat → Nat → Int → Int → List UInt8
  | 0, _, _, _ => []
  | k + 1, i, x, m => if (n : Int) - 8 ≤ (i : Int) then UInt8.ofNat (m % 256).toNat :: cL n k (i + 1) (nextX x) (m / 256) else UInt8.ofNat (nextX x / 65536 % 256).toNat :: cL n k (i + 1) (nextX x) m
/-- the coins of a seed and a number -/
def coinL (n : Nat) (seed m : Int) : List UInt8 := cL n n 0 (seed % 1000003) m
theorem cL_length (n : Nat) : ∀ k i x m, (cL n k i x m).length = k
  | 0, _, _, _ => rfl
  | k + 1, i, x, m => by
    unfold cL
    split
    · rw [List.length_cons, cL_length n k]
    · rw [List.length_cons, cL_length n k]
/-- the bytes of a number, the lowest first -/
def nb : Nat → Int → List UInt8
  | 0, _ => []
  | k + 1, m => UInt8.ofNat (m % 256).toNat :: nb k (m / 256)
theorem cL_nb (n : Nat) : ∀ (k i : Nat) (x m : Int), (n : Int) - 8 ≤ (i : Int) → cL n k i x m = nb k m
  | 0, _, _, _, _ => rfl
  | k + 1, i, x, m, h => by
    unfold cL nb
    rw [if_pos h, cL_nb n k (i + 1) (nextX x) (m / 256) (by omega)]
theorem cL_tail (n : Nat) (hn : 8 ≤ n) : ∀ (k i : Nat) (x m : Int), k + i = n → i + 8 ≤ n → (cL n k i x m).drop (k - 8) = nb 8 m
  | 0, i, x, m, h, h2 => by omega
  | k + 1, i, x, m, h, h2 => by
    by_cases h8 : k + 1 = 8
    · rw [h8, Nat.sub_self, List.drop_zero, cL_nb n 8 i x m (by omega)]
    · unfold cL
      rw [if_neg (by omega), show k + 1 - 8 = (k - 8) + 1 by omega, List.drop_succ_cons]
      exact cL_tail n hn k (i + 1) (nextX x) m (by omega) (by omega)
theorem nb_inj : ∀ k (a b : Int), 0 ≤ a → 0 ≤ b → a < 256 ^ k → b < 256 ^ k → nb k a = nb k b → a = b
  | 0, a, b, h1, h2, h3, h4, _ => by simp at h3 h4; omega
  | k + 1, a, b, h1, h2, h3, h4, h => by
    unfold nb at h
    injection h with h5 h6
    have e1 : (UInt8.ofNat (a % 256).toNat).toNat = (UInt8.ofNat (b % 256).toNat).toNat := by rw [h5]
    simp at e1
    rw [Int.pow_succ] at h3 h4
    have := nb_inj k (a / 256) (b / 256) (by omega) (by omega) (by omega) (by omega) h6
    omega
theorem coinL_length (n : Nat) (seed m : Int) : (coinL n seed m).length = n := cL_length n n 0 _ m
def coinS (n : Nat) (seed m : Int) : ByteArray := str (coinL n seed m)
theorem coinS_size (n : Nat) (seed m : Int) : (coinS n seed m).size = n := by unfold coinS; rw [str_size, coinL_length]
/-- no two numbers have the same tag -/
theorem coin_tag {n n' : Nat} {s s' a b : Int} (hn : 16 ≤ n) (hn' : 16 ≤ n') (h1 : 0 ≤ a) (h2 : 0 ≤ b) (h3 : a ≤ 4294967296) (h4 : b ≤ 4294967296) (h : tagS (coinS n s a) = tagS (coinS n' s' b)) : a = b := by
  have at_ : ∀ {n : Nat} {s a : Int}, 16 ≤ n → (tagS (coinS n s a)).data.toList.drop 8 = nb 8 a := fun {n s a} hn => by
    unfold tagS
    rw [if_neg (by rw [coinS_size]; omega), coinS_size, extract_data, List.drop_take, List.drop_drop]
    unfold coinS
    rw [str_data, List.take_of_length_le (by rw [List.length_drop, coinL_length]; omega), show n - 16 + 8 = n - 8 by omega]
    exact cL_tail n (by omega) n 0 _ a (by omega) (by omega)
  have e := at_ (s := s) (a := a) hn
  rw [h, at_ (s := s') (a := b) hn'] at e
  exact (nb_inj 8 b a h2 h1 (by omega) (by omega) e).symm

set_option maxRecDepth 20000 in
set_option maxHeartbeats 1000000 in
theorem coinsC_any (n : Nat) (hn : n ≤ 1048616) (seed m0 : Int) (hs : -9223372036854775808 ≤ seed ∧ seed ≤ 9223372036854775807) (hm : 0 ≤ m0 ∧ m0 ≤ 4294967296) (w : World) : Calls Try.prog 19 #[.int .i64 (n : Int), .int .i64 seed, .int .i64 m0] w fun e w' => e = .returned (.string (coinS n seed m0)) ∧ Below w.heap.size w w' := by
  have hmd := fun W => smod_any seed 1000003 hs (by omega) W
  obtain ⟨X0, hX0⟩ : ∃ X0, seed % 1000003 = X0 := ⟨_, rfl⟩
  have hX : 0 ≤ X0 ∧ X0 < 2147483648 := by omega
  have HA : Hid (coinL n seed m0 = cL n n 0 X0 m0) := by show _ = _; unfold coinL; rw [hX0]
  rw [hX0] at hmd
  unfold coinS
  generalize coinL n seed m0 = cA at *
  obtain ⟨i0, hi, hz0, hz1, hz2⟩ := info_parts info5
  clear hX0
  have r0 : IntKind.i64.wrap ((n : Int) - 8) = (n : Int) - 8 := by rw [IntKind.wrap_i64]; omega
  go_enter Try.func19, Try.ntmps19
  go_wp2_with fail
  refine (hmd _).mono ?_
  rintro e w2 ⟨rfl, rfl⟩
  go_wp2_with fail
  go_loopg [2, 7, 8, 9] n (fun gk mv lv xv iv wr => ∃ (k : Nat) (L : List UInt8) (X m : Int) (av : Option Addr) (cv : Nat), k + gk = n ∧ iv = .int .i64 (k : Int) ∧ lv = .slice av k cv ∧ xv = .int .i64 X ∧ mv = .int .i64 m ∧ (0 ≤ X ∧ X < 2147483648) ∧ (0 ≤ m ∧ m ≤ 4294967296) ∧ Hid (L.length = k ∧ cA = L ++ cL n (n - k) k X m) ∧ Hid (wr.ownsRow w2.heap.size 5 1 (.slice av k cv) k (Lib.byteCells L)) ∧ Hid (Below w2.heap.size w2 wr))
  case atStart => exact ⟨0, [], X0, m0, none, 0, by omega, rfl, rfl, rfl, rfl, hX, hm, ⟨rfl, HA.out⟩, ⟨rfl, .inl ⟨rfl, rfl⟩⟩, Below.refl _ _⟩
  case round =>
    obtain ⟨k, L, X, m, av, cv, hk, rfl, rfl, rfl, rfl, hX1, hm1, HV, HO, HB⟩ := hrel
    have HK : Hid (k + gk = n) := hk
    have hkn : k ≤ n := by omega
    clear hk
    by_cases hlt : k < n
    · have hltI : (k : Int) < (n : Int) := by omega
      have e1 : IntKind.i64.wrap (X * 69069) = X * 69069 := by rw [IntKind.wrap_i64]; omega
      have e2 : IntKind.i64.wrap (X * 69069 + 12345) = X * 69069 + 12345 := by rw [IntKind.wrap_i64]; omega
      have e3 : (X * 69069 + 12345).tmod 2147483648 = nextX X := by rw [Int.tmod_eq_emod_of_nonneg (by omega)]; rfl
      have hY : 0 ≤ nextX X ∧ nextX X < 2147483648 := by unfold nextX; omega
      have HY : Hid (nextX X = nextX X) := rfl
      have HCL : Hid (cL n (n - k) k X m = if (n : Int) - 8 ≤ (k : Int) then UInt8.ofNat (m % 256).toNat :: cL n (n - (k + 1)) (k + 1) (nextX X) (m / 256) else UInt8.ofNat (nextX X / 65536 % 256).toNat :: cL n (n - (k + 1)) (k + 1) (nextX X) m) := by
        show _ = _
        rw [show n - k = (n - (k + 1)) + 1 by omega]
        rfl
      clear HY
      generalize nextX X = Y at *
      have e4 : IntKind.i64.wrap Y = Y := by rw [IntKind.wrap_i64]; omega
      have e5 : Y.tdiv 65536 = Y / 65536 := Int.tdiv_eq_ediv_of_nonneg (by omega)
      have e6 : IntKind.i64.wrap (Y / 65536) = Y / 65536 := by rw [IntKind.wrap_i64]; omega
      have e7 : (Y / 65536).tmod 256 = Y / 65536 % 256 := Int.tmod_eq_emod_of_nonneg (by omega)
      have e8 : IntKind.i64.wrap (Y / 65536 % 256) = Y / 65536 % 256 := by rw [IntKind.wrap_i64]; omega
      have e9 : IntKind.u8.wrap (Y / 65536 % 256) = Y / 65536 % 256 := by
        rw [IntKind.wrap]; simp [IntKind.bits, IntKind.signed]
      by_cases hc8 : (n : Int) - 8 ≤ (k : Int)
      · have f1 : m.tmod 256 = m % 256 := Int.tmod_eq_emod_of_nonneg (by omega)
        have f2 : IntKind.i64.wrap (m % 256) = m % 256 := by rw [IntKind.wrap_i64]; omega
        have f3 : m.tdiv 256 = m / 256 := Int.tdiv_eq_ediv_of_nonneg (by omega)
        have f4 : IntKind.i64.wrap (m / 256) = m / 256 := by rw [IntKind.wrap_i64]; omega
        have f5 : IntKind.u8.wrap (m % 256) = m % 256 := by rw [IntKind.wrap]; simp [IntKind.bits, IntKind.signed]
        have hm2 : 0 ≤ m / 256 ∧ m / 256 ≤ 4294967296 := by omega
        have hbv : (((UInt8.ofNat (m % 256).toNat).toNat : Nat) : Int) = m % 256 := by simp; omega
        obtain ⟨bv, hb⟩ : ∃ bv, UInt8.ofNat (m % 256).toNat = bv := ⟨_, rfl⟩
        have HV2 : Hid ((L ++ [bv]).length = k + 1 ∧ cA = (L ++ [bv]) ++ cL n (n - (k + 1)) (k + 1) Y (m / 256)) := by
          obtain ⟨v1, v2⟩ := HV.out
          refine ⟨by rw [List.length_append, v1]; rfl, ?_⟩
          rw [v2, HCL.out, if_pos hc8, hb, List.append_assoc]
          rfl
        rw [hb] at hbv
        obtain ⟨y, hy⟩ : ∃ y, m % 256 = y := ⟨_, rfl⟩
        rw [hy] at f1 f2 f5 hbv
        have HBC : Hid (Lib.byteCells L ++ [Value.int .u8 y] = Lib.byteCells (L ++ [bv])) := by show _ = _; rw [← hbv]; simp [Lib.byteCells]
        clear hb hy HCL HV
        obtain ⟨W9, hW9⟩ : ∃ W, wr.alloc (.cells #[.int .u8 y] 5) = W := ⟨_, rfl⟩
        have hb9 : Below wr.heap.size wr W9 := by rw [← hW9]; exact (Below.refl _ _).alloc (Nat.le_refl _) _
        have HO9 : Hid (W9.ownsRow w2.heap.size 5 1 (.slice av k cv) k (Lib.byteCells L)) := owns_keep HO.out (fun g hg => hb9.block g (World.ownsRow.lt HO.out g hg).2)
        have HB9 : Hid (Below w2.heap.size w2 W9) := HB.out.trans (hb9.mono HB.out.size)
        have HC9 : Hid (∀ j u, ([.int .u8 y] : List Value)[j]? = some u → W9.cell? ((⟨wr.heap.size, 0, none⟩ : Addr).add j) = some u) := fun j u hj => by rw [← hW9]; exact cells_new wr #[.int .u8 y] 5 j u (by simpa using hj)
        have hz9 : k + 1 ≤ maxLen ∧ (k + 1) * 1 ≤ 140737488355328 ∧ w2.heap.size ≤ W9.heap.size := ⟨by unfold maxLen; omega, by omega, HB9.out.size⟩
        clear hb9
        go_wp2_with (first | (at_builtin; (try rw [hW9]); refine wpList_append_own _ rfl _ _ 28 rfl w2.heap.size 5 i0 _ 1 1 Try.underlying28 hi hz0 hz1 hz2 rfl (by decide) _ _ _ rfl HO9.out _ _ _ [.int .u8 y] rfl rfl HC9.out (by simp [Value.oneCell']) hz9.1 hz9.2.1 hz9.2.2 ?_; intro v' w10 hown hgrow _) | fail)
        obtain ⟨a10, c10, rfl⟩ := own_len hown
        have HB10 : Hid (Below w2.heap.size w2 w10) := HB9.out.trans (grown_below hgrow hz9.2.2 HO9.out)
        rw [HBC.out] at hown
        have HO10 : Hid _ := hown
        clear hown hgrow
        go_wp2_with fail
        go_roundg (gk - 1)
        case measure => have := HK.out; omega
        case rel => exact ⟨k + 1, L ++ [bv], Y, m / 256, a10, c10, by have := HK.out; omega, by go_num, rfl, rfl, rfl, hY, hm2, HV2, HO10, HB10⟩
      · have hbv : (((UInt8.ofNat (Y / 65536 % 256).toNat).toNat : Nat) : Int) = Y / 65536 % 256 := by simp; omega
        obtain ⟨bv, hb⟩ : ∃ bv, UInt8.ofNat (Y / 65536 % 256).toNat = bv := ⟨_, rfl⟩
        have HV2 : Hid ((L ++ [bv]).length = k + 1 ∧ cA = (L ++ [bv]) ++ cL n (n - (k + 1)) (k + 1) Y m) := by
          obtain ⟨v1, v2⟩ := HV.out
          refine ⟨by rw [List.length_append, v1]; rfl, ?_⟩
          rw [v2, HCL.out, if_neg hc8, hb, List.append_assoc]
          rfl
        rw [hb] at hbv
        obtain ⟨y, hy⟩ : ∃ y, Y / 65536 % 256 = y := ⟨_, rfl⟩
        rw [hy] at e7 e8 e9 hbv
        have HBC : Hid (Lib.byteCells L ++ [Value.int .u8 y] = Lib.byteCells (L ++ [bv])) := by show _ = _; rw [← hbv]; simp [Lib.byteCells]
        clear hb hy HCL HV
        obtain ⟨W9, hW9⟩ : ∃ W, wr.alloc (.cells #[.int .u8 y] 5) = W := ⟨_, rfl⟩
        have hb9 : Below wr.heap.size wr W9 := by rw [← hW9]; exact (Below.refl _ _).alloc (Nat.le_refl _) _
        have HO9 : Hid (W9.ownsRow w2.heap.size 5 1 (.slice av k cv) k (Lib.byteCells L)) := owns_keep HO.out (fun g hg => hb9.block g (World.ownsRow.lt HO.out g hg).2)
        have HB9 : Hid (Below w2.heap.size w2 W9) := HB.out.trans (hb9.mono HB.out.size)
        have HC9 : Hid (∀ j u, ([.int .u8 y] : List Value)[j]? = some u → W9.cell? ((⟨wr.heap.size, 0, none⟩ : Addr).add j) = some u) := fun j u hj => by rw [← hW9]; exact cells_new wr #[.int .u8 y] 5 j u (by simpa using hj)
        have hz9 : k + 1 ≤ maxLen ∧ (k + 1) * 1 ≤ 140737488355328 ∧ w2.heap.size ≤ W9.heap.size := ⟨by unfold maxLen; omega, by omega, HB9.out.size⟩
        clear hb9
        go_wp2_with (first | (at_builtin; (try rw [hW9]); refine wpList_append_own _ rfl _ _ 28 rfl w2.heap.size 5 i0 _ 1 1 Try.underlying28 hi hz0 hz1 hz2 rfl (by decide) _ _ _ rfl HO9.out _ _ _ [.int .u8 y] rfl rfl HC9.out (by simp [Value.oneCell']) hz9.1 hz9.2.1 hz9.2.2 ?_; intro v' w10 hown hgrow _) | fail)
        obtain ⟨a10, c10, rfl⟩ := own_len hown
        have HB10 : Hid (Below w2.heap.size w2 w10) := HB9.out.trans (grown_below hgrow hz9.2.2 HO9.out)
        rw [HBC.out] at hown
        have HO10 : Hid _ := hown
        clear hown hgrow
        go_wp2_with fail
        go_roundg (gk - 1)
        case measure => have := HK.out; omega
        case rel => exact ⟨k + 1, L ++ [bv], Y, m, a10, c10, by have := HK.out; omega, by go_num, rfl, rfl, rfl, hY, hm1, HV2, HO10, HB10⟩
    · obtain rfl : k = n := by omega
      have hltI : ¬ (k : Int) < (k : Int) := by omega
      have hcA : cA = L := by
        obtain ⟨v1, v2⟩ := HV.out
        rw [Nat.sub_self] at v2
        rw [v2]
        unfold cL
        rw [List.append_nil]
      have hcv := convert_own (P := Try.prog) wr 28 9 5 w2.heap.size (.slice av k cv) L Try.underlying28 Try.underlying5 Try.underlying9 (by rw [HV.out.1]; exact HO.out)
      subst hcA
      clear HV HA
      change _ = Result.ok (Value.string (str cA)) wr at hcv
      go_wp2
      go_ret
      exact ⟨rfl, HB.out⟩
end Go.Proofs.Ytaejapdbghbgeaa.Se
