import Derived.Test.YtcoddgpfdcjnaabBaseM
namespace Go.Proofs.Ytcoddgpfdcjnaab.Fr
open Go.RowKit Go.Lib

/-- P9.3, P9.4: frames -/
def hdL (k n : Nat) : List UInt8 := [UInt8.ofNat k, UInt8.ofNat (n / 16777216), UInt8.ofNat (n / 65536), UInt8.ofNat (n / 256 % 256), UInt8.ofNat (n % 256)]
def frL (k : Nat) (b : List UInt8) (z : Nat) : List UInt8 := hdL k b.length ++ b ++ List.replicate (z - 5 - b.length) 0
def packE (k : Int) (b : ByteArray) (z : Int) : Int := if k < 1 ∨ 255 < k then 92 else if 1048576 < z then 3 else if z < 5 + (b.size : Int) then 90 else 0
def packY (k : Int) (b : ByteArray) (z : Int) : ByteArray := if packE k b z = 0 then str (frL k.toNat b.data.toList z.toNat) else str []
/-- the number that a head tells -/
def cnt (l : List UInt8) : Nat := (l.getD 1 0).toNat * 16777216 + (l.getD 2 0).toNat * 65536 + (l.getD 3 0).toNat * 256 + (l.getD 4 0).toNat
def unpE (k : Int) (t : ByteArray) : Int :=
  if 1048576 < t.size then 3 else if k < 1 ∨ 255 < k ∨ t.size < 5 ∨ ((t.data.toList.getD 0 0).toNat : Int) ≠ k then 92
  else if t.size - 5 < cnt t.data.toList then 90 else if (t.data.toList.drop (5 + cnt t.data.toList)).all (· == 0) = true then 0 else 91
def unpY (k : Int) (t : ByteArray) : ByteArray := if unpE k t = 0 then str ((t.data.toList.drop 5).take (cnt t.data.toList)) else str []

theorem packE_0 {k : Int} {b : ByteArray} {z : Int} (h : packE k b z = 0) : 1 ≤ k ∧ k ≤ 255 ∧ z ≤ 1048576 ∧ 5 + (b.size : Int) ≤ z := by
  unfold packE at h
  split at h
  · omega
  · split at h
    · omega
    · split at h <;> omega
theorem packE_of {k : Int} {b : ByteArray} {z : Int} (h : 1 ≤ k ∧ k ≤ 255 ∧ z ≤ 1048576 ∧ 5 + (b.size : Int) ≤ z) : packE k b z = 0 := by
  unfold packE
  rw [if_neg (by omega), if_neg (by omega), if_neg (by omega)]
theorem unpE_0 {k : Int} {t : ByteArray} (h : unpE k t = 0) : 1 ≤ k ∧ k ≤ 255 ∧ 5 ≤ t.size ∧ t.size ≤ 1048576 ∧ ((t.data.toList.getD 0 0).toNat : Int) = k ∧ cnt t.data.toList ≤ t.size - 5 ∧ (t.data.toList.drop (5 + cnt t.data.toList)).all (· == 0) = true := by
  unfold unpE at h
  split at h
  · omega
  · split at h
    · omega
    · split at h
      · omega
      · split at h
        · rename_i h1 h2 h3 h4
          refine ⟨by omega, by omega, by omega, by omega, by omega, by omega, h4⟩
        · omega
theorem unpE_of {k : Int} {t : ByteArray} (h : 1 ≤ k ∧ k ≤ 255 ∧ 5 ≤ t.size ∧ t.size ≤ 1048576 ∧ ((t.data.toList.getD 0 0).toNat : Int) = k ∧ cnt t.data.toList ≤ t.size - 5 ∧ (t.data.toList.drop (5 + cnt t.data.toList)).all (· == 0) = true) : unpE k t = 0 := by
  unfold unpE
  rw [if_neg (by omega), if_neg (by omega), if_neg (by omega), if_pos h.2.2.2.2.2.2]

theorem hdL_length (k n : Nat) : (hdL k n).length = 5 := rfl
theorem frL_length (k : Nat) (b : List UInt8) (z : Nat) (h : 5 + b.length ≤ z) : (frL k b z).length = z := by
  unfold frL
  rw [List.length_append, List.length_append, hdL_length, List.length_replicate]
  omega
theorem ofNat_toNat (n : Nat) (h : n < 256) : (UInt8.ofNat n).toNat = n := by simp [UInt8.toNat_ofNat']; omega
theorem cnt_hd (k n : Nat) (r : List UInt8) (hn : n ≤ 1048576) : cnt (hdL k n ++ r) = n := by
  unfold cnt hdL
  simp only [List.cons_append, List.getD_cons_succ, List.getD_cons_zero]
  rw [ofNat_toNat _ (by omega), ofNat_toNat _ (by omega), ofNat_toNat _ (by omega), ofNat_toNat _ (by omega)]
  omega
theorem getD0_hd (k n : Nat) (r : List UInt8) (hk : k < 256) : ((hdL k n ++ r).getD 0 0).toNat = k := by
  unfold hdL
  simp only [List.cons_append, List.getD_cons_zero]
  exact ofNat_toNat _ hk
/-- what was packed comes back -/
theorem unp_pack (k : Nat) (b : List UInt8) (z : Nat) (hk : 1 ≤ k ∧ k ≤ 255) (hz : z ≤ 1048576) (hb : 5 + b.length ≤ z) (o : Int) :
    unpE o (str (frL k b z)) = (if o = k then 0 else 92) ∧ unpY o (str (frL k b z)) = (if o = k then str b else str []) := by
  have hl := frL_length k b z hb
  have hs : (str (frL k b z)).size = z := by rw [str_size, hl]
  have hc : cnt (str (frL k b z)).data.toList = b.length := by
    rw [str_data]
    unfold frL
    rw [List.append_assoc]
    exact cnt_hd k _ _ (by omega)
  have h0 : ((str (frL k b z)).data.toList.getD 0 0).toNat = k := by
    rw [str_data]
    unfold frL
    rw [List.append_assoc]
    exact getD0_hd k _ _ (by omega)
  have hd : ((str (frL k b z)).data.toList.drop (5 + b.length)).all (· == 0) = true := by
    rw [str_data]
    unfold frL
    rw [List.drop_left' (by rw [List.length_append, hdL_length])]
    simp
  by_cases h : o = k
  · subst h
    have e : unpE k (str (frL k b z)) = 0 := unpE_of ⟨by omega, by omega, by omega, by omega, by omega, by rw [hc]; omega, by rw [hc]; exact hd⟩
    refine ⟨by rw [e, if_pos rfl], ?_⟩
    rw [if_pos rfl]
    unfold unpY
    rw [if_pos e, hc, str_data]
    unfold frL
    rw [List.append_assoc, List.drop_left' (hdL_length k _), List.take_left' rfl]
  · have e : unpE o (str (frL k b z)) = 92 := by
      unfold unpE
      rw [if_neg (by omega), if_pos (by omega)]
    refine ⟨by rw [e, if_neg h], ?_⟩
    rw [if_neg h]
    unfold unpY
    rw [if_neg (by rw [e]; decide)]
theorem unpY_size (k : Int) (t : ByteArray) : (unpY k t).size ≤ t.size := by
  unfold unpY
  split
  · rw [str_size, List.length_take, List.length_drop, size_eq t]
    exact Nat.le_trans (Nat.min_le_right _ _) (Nat.sub_le _ _)
  · exact Nat.zero_le _
theorem five_of (l : List UInt8) (h : 5 ≤ l.length) : ∃ x0 x1 x2 x3 x4 r, l = x0 :: x1 :: x2 :: x3 :: x4 :: r := by
  rcases l with _ | ⟨x0, _ | ⟨x1, _ | ⟨x2, _ | ⟨x3, _ | ⟨x4, r⟩⟩⟩⟩⟩
  · simp at h
  · simp at h
  · simp at h
  · simp at h
  · simp at h
  · exact ⟨x0, x1, x2, x3, x4, r, rfl⟩
/-- what is taken is just what Pack writes -/
theorem pack_unp (k : Int) (t : ByteArray) (h : unpE k t = 0) : packE k (unpY k t) (t.size : Int) = 0 ∧ packY k (unpY k t) (t.size : Int) = t := by
  obtain ⟨h1, h2, h3, h4, h5, h6, h7⟩ := unpE_0 h
  have hl : t.data.toList.length = t.size := (size_eq t).symm
  have hy : unpY k t = str ((t.data.toList.drop 5).take (cnt t.data.toList)) := if_pos h
  have hn : (unpY k t).size = cnt t.data.toList := by
    rw [hy, str_size, List.length_take, List.length_drop, hl]
    omega
  have hp : packE k (unpY k t) (t.size : Int) = 0 := packE_of ⟨h1, h2, by omega, by omega⟩
  refine ⟨hp, ?_⟩
  unfold packY
  rw [if_pos hp, hy, str_data, Int.toNat_natCast]
  have key : frL k.toNat ((t.data.toList.drop 5).take (cnt t.data.toList)) t.size = t.data.toList := by
    revert h5 h6 h7
    obtain ⟨l, hll⟩ : ∃ l, t.data.toList = l := ⟨_, rfl⟩
    rw [hll] at hl ⊢
    intro h5 h6 h7
    obtain ⟨x0, x1, x2, x3, x4, r, rfl⟩ := five_of l (by omega)
    have hr : r.length = t.size - 5 := by simp at hl; omega
    have b1 := x1.toNat_lt; have b2 := x2.toNat_lt; have b3 := x3.toNat_lt; have b4 := x4.toNat_lt
    have hc : cnt (x0 :: x1 :: x2 :: x3 :: x4 :: r) = x1.toNat * 16777216 + x2.toNat * 65536 + x3.toNat * 256 + x4.toNat := rfl
    have h0 : (x0.toNat : Int) = k := h5
    rw [hc] at h6 h7 ⊢
    have hdr : (x0 :: x1 :: x2 :: x3 :: x4 :: r).drop 5 = r := rfl
    rw [hdr]
    obtain ⟨n, hn⟩ : ∃ n, x1.toNat * 16777216 + x2.toNat * 65536 + x3.toNat * 256 + x4.toNat = n := ⟨_, rfl⟩
    rw [hn] at h6 h7 ⊢
    have hdn : (x0 :: x1 :: x2 :: x3 :: x4 :: r).drop (5 + n) = r.drop n := by rw [Nat.add_comm]; rfl
    rw [hdn] at h7
    have htl : (r.take n).length = n := by rw [List.length_take]; omega
    unfold frL
    rw [htl]
    have e1 : hdL k.toNat n = [x0, x1, x2, x3, x4] := by
      unfold hdL
      congr 1
      · rw [← h0, Int.toNat_natCast]; simp
      · congr 1
        · apply UInt8.toNat_inj.1; rw [ofNat_toNat _ (by omega)]; omega
        · congr 1
          · apply UInt8.toNat_inj.1; rw [ofNat_toNat _ (by omega)]; omega
          · congr 1
            · apply UInt8.toNat_inj.1; rw [ofNat_toNat _ (by omega)]; omega
            · congr 1
              apply UInt8.toNat_inj.1; rw [ofNat_toNat _ (by omega)]; omega
    have e2 : List.replicate (t.size - 5 - n) (0 : UInt8) = r.drop n := by
      symm
      rw [List.eq_replicate_iff]
      refine ⟨by rw [List.length_drop]; omega, fun c hc => ?_⟩
      have := List.all_eq_true.1 h7 c hc
      exact eq_of_beq this
    rw [e1, e2, List.append_assoc, List.take_append_drop]
    rfl
  rw [key, str_of]
end Go.Proofs.Ytcoddgpfdcjnaab.Fr
