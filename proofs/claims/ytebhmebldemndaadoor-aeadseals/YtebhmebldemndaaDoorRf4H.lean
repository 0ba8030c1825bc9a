import Derived.Test.YtebhmebldemndaaDoorRf4G
import Derived.Test.YtebhmebldemndaaDoorChaS
namespace Go.Proofs.YtebhmebldemndaaDoor.Cha
open Go.RowKit Go.Lib Go.Deep

theorem over_fill (key : List UInt8) (c : Nat) (nonce data : List UInt8) : (List.range data.length).map (fun i => data.getD i 0 ^^^ streamB key c nonce i) = overL key c nonce data := rfl

set_option maxRecDepth 20000 in
set_option maxHeartbeats 4000000 in
theorem rxor_yes (key nonce data : ByteArray) (c : Nat) (hk : key.size = 32) (hn : nonce.size = 12) (hd : data.size ≤ 281474976710656) (hc : c < 4294967296) (hroom : c + (data.size + 63) / 64 ≤ 4294967296) (w : World) (hP : PTabs w) (h3 : 4 ≤ w.heap.size) :
    Calls Tryd.prog 39 #[.string key, .int .i64 (c : Int), .string nonce, .string data] w fun e w' => e = .returned (.tuple #[.string (str (overL key.data.toList c nonce.data.toList data.data.toList)), .int .i64 0]) ∧ Below w.heap.size w w' := by
  obtain ⟨i0, hi, hz0, hz1, hz2⟩ := info_parts info5
  have hwr := wrong_any key nonce (c : Int) 12 (by unfold maxLen; omega) (by unfold maxLen; omega) w
  rw [wrong_ok hk hn (by omega) (by omega)] at hwr
  have hz : data.data.toList.length = data.size := (size_eq data).symm
  obtain ⟨nb, hnb⟩ : ∃ nb, (data.size + 63) / 64 = nb := ⟨_, rfl⟩
  rw [hnb] at hroom
  have HNB : Hid ((data.size + 63) / 64 = nb) := hnb
  have hq : ((data.size : Int) + 63) / 64 = (nb : Int) := by omega
  have hq2 : ((data.size : Int) + 63).tdiv 64 = (nb : Int) := by rw [Int.tdiv_eq_ediv_of_nonneg (by omega)]; exact hq
  have hgt : ¬ (4294967296 < (c : Int) + (nb : Int)) := by omega
  have hgt2 : decide (4294967296 < (c : Int) + (nb : Int)) = false := decide_eq_false hgt
  clear hnb
  have HBL : Hid (∀ (n : Nat), c + n < 4294967296 → ∀ W, Below w.heap.size w W → Calls Tryd.prog 57 #[.string key, .int .i64 ((c : Int) + (n : Int)), .string nonce] W fun e w' => e = .returned (.string (str (blockL key.data.toList (c + n) nonce.data.toList))) ∧ Below W.heap.size W w') := fun n hn2 W hb => by
    have h := rblock_any key nonce (c + n) hk hn hn2 W (hP.below hb h3) (by have := hb.size; omega)
    rwa [show ((c + n : Nat) : Int) = (c : Int) + (n : Int) by omega] at h
  have HOV : Hid ((List.range data.size).map (fun i => data.data.toList.getD i 0 ^^^ streamB key.data.toList c nonce.data.toList i) = overL key.data.toList c nonce.data.toList data.data.toList) := by
    show _ = _
    rw [← over_fill, hz]
  go_enter Tryd.func39, Tryd.ntmps39
  go_wp2_with fail
  refine hwr.mono ?_
  rintro e w1 ⟨rfl, rfl⟩
  go_wp2_with (at_make; refine wpList_make_full _ rfl _ _ 40 rfl w.heap.size 5 i0 (.int .u8 0) 1 Tryd.underlying40 hi hz0 hz1 .i64 .i64 _ _ data.size rfl rfl rfl rfl (by rw [hz2]; omega) (by unfold maxLen; omega) (Nat.le_refl _) ?_; intro w1 hown1 hg1)
  have hb1 : Below w.heap.size w w1 := Below.grown (Below.refl _ _) hg1 (Nat.le_refl _) (by simp)
  have HR1 := Rw.made hown1
  clear hown1 hg1 hwr hq hq2 hgt hgt2
  go_loopg [12, 13] data.size (fun gk sv i wr => ∃ (k : Nat) (ys : ByteArray), k + gk = data.size ∧ i = .int .i64 k ∧ sv = .string ys ∧ (k % 64 ≠ 0 → ys = str (blockL key.data.toList (c + k / 64) nonce.data.toList)) ∧ Rw wr w.heap.size (fillL (fun i => data.data.toList.getD i 0 ^^^ streamB key.data.toList c nonce.data.toList i) data.size k) ∧ Below w.heap.size w wr)
  case atStart => exact ⟨0, _, by omega, rfl, rfl, fun h => absurd rfl h, by rw [fillL_zero]; exact HR1, hb1⟩
  case round =>
    clear HR1 hb1
    obtain ⟨k, ys, hkk, rfl, rfl, hys, HR, hB⟩ := hrel
    have HK : Hid (k + gk = data.size) := hkk
    have hk' : k ≤ data.size := by omega
    clear hkk
    by_cases hlt : k < data.size
    · have hltI : (k : Int) < (data.size : Int) := by omega
      have hk63 : (k : Int) < 9223372036854775807 := by omega
      obtain ⟨x, hx⟩ : ∃ x, data.data.toList[k]? = some x := ⟨_, List.getElem?_eq_getElem (by omega)⟩
      have hix := fun W => rindex_at (P := Tryd.prog) W 9 data .i64 (k : Int) k x Tryd.underlying9 rfl hx
      obtain ⟨y, hy⟩ : ∃ y, (blockL key.data.toList (c + k / 64) nonce.data.toList)[k % 64]? = some y := ⟨_, List.getElem?_eq_getElem (by rw [blockL_length]; omega)⟩
      have hiy := fun W => rindex_at (P := Tryd.prog) W 9 (str (blockL key.data.toList (c + k / 64) nonce.data.toList)) .i64 ((k : Int) % 64) (k % 64) y Tryd.underlying9 (by omega) (by rw [str_data]; exact hy)
      have HXY : Hid (data.data.toList.getD k 0 ^^^ streamB key.data.toList c nonce.data.toList k = x ^^^ y) := by
        show _ = _
        rw [streamB, List.getD_eq_getElem?_getD, List.getD_eq_getElem?_getD, hx, hy]
        rfl
      have hx8 := x.toNat_lt
      have hy8 := y.toNat_lt
      have hxor : bits .xor .u8 (x.toNat : Int) (y.toNat : Int) = ((x ^^^ y).toNat : Int) := by rw [u8_xor_nat _ _ hx8 hy8, UInt8.toNat_xor]
      have HNX : Hid ((k + 1) % 64 ≠ 0 → str (blockL key.data.toList (c + k / 64) nonce.data.toList) = str (blockL key.data.toList (c + (k + 1) / 64) nonce.data.toList)) := fun h => by rw [show (k + 1) / 64 = k / 64 by omega]
      have HFL : Hid (∀ W, Rw W w.heap.size (fillL (fun i => data.data.toList.getD i 0 ^^^ streamB key.data.toList c nonce.data.toList i) data.size k) → Rw (W.setCell ⟨w.heap.size, k, none⟩ (.int .u8 ((x ^^^ y).toNat : Int))) w.heap.size (fillL (fun i => data.data.toList.getD i 0 ^^^ streamB key.data.toList c nonce.data.toList i) data.size (k + 1)) ∧ W.cell? ⟨w.heap.size, k, none⟩ = some (.int .u8 0) ∧ W.frozen? ⟨w.heap.size, k, none⟩ = false) := fun W h => by
        refine ⟨?_, h.cell k 0 (fillL_at _ data.size k hlt), h.frozen k⟩
        have h1 := h.put k (x ^^^ y)
        have h2 := fillL_set (fun i => data.data.toList.getD i 0 ^^^ streamB key.data.toList c nonce.data.toList i) data.size k hlt
        rw [HXY.out] at h2
        rwa [h2] at h1
      have hblk := HBL.out (k / 64) (by have := HNB.out; omega)
      have hkd : (k : Int) / 64 = ((k / 64 : Nat) : Int) := by omega
      clear hx hy hx8 hy8 HXY
      revert hiy hys HNX hblk
      generalize str (blockL key.data.toList (c + k / 64) nonce.data.toList) = yb
      intro hys hiy HNX hblk
      revert hix hiy hxor HFL
      generalize (x.toNat : Int) = xi
      generalize (y.toNat : Int) = yi
      generalize ((x ^^^ y).toNat : Int) = zi
      intro hix hxor HFL hiy
      by_cases hm0 : k % 64 = 0
      · have hmI : ((k : Int) % 64) = 0 := by omega
        have hblk1 := hblk wr hB
        rw [← hkd] at hblk1
        clear hkd
        have hw3 : IntKind.i64.wrap ((c : Int) + (k : Int) / 64) = (c : Int) + (k : Int) / 64 := by rw [IntKind.wrap_i64]; omega
        have hw3' : wrap64 ((c : Int) + (k : Int) / 64) = (c : Int) + (k : Int) / 64 := by unfold wrap64; omega
        have hm1 : ((k : Int) % 64 == 0) = true := by simp [hmI]
        rw [hmI] at hiy
        go_wp2_with fail
        refine hblk1.mono ?_
        rintro e w5 ⟨rfl, hb5⟩
        have hR5 := HR.kept (hb5.block _ (heap_lt HR))
        have hB5 := hB.trans (hb5.mono hB.size)
        obtain ⟨hput, c0, f0⟩ := HFL.out w5 hR5
        clear HR hB hb5 hblk1 hR5 hblk
        have c0d : w5.drew.cell? ⟨w.heap.size, k, none⟩ = some (.int .u8 0) := c0
        have f0d : w5.drew.frozen? ⟨w.heap.size, k, none⟩ = false := f0
        have hputd : Rw (w5.setCell ⟨w.heap.size, k, none⟩ (.int .u8 zi)).drew w.heap.size (fillL (fun i => data.data.toList.getD i 0 ^^^ streamB key.data.toList c nonce.data.toList i) data.size (k + 1)) := hput
        have hBd : Below w.heap.size w (w5.setCell ⟨w.heap.size, k, none⟩ (.int .u8 zi)).drew := (hB5.setCell (p := ⟨w.heap.size, k, none⟩) (Nat.le_refl _) _).drew
        go_wp2_with fail
        go_region
        refine with_world (R := fun W => Exit.inBlock _ _ _ _ W) (Q := fun W => Rw W w.heap.size (fillL (fun i => data.data.toList.getD i 0 ^^^ streamB key.data.toList c nonce.data.toList i) data.size (k + 1)) ∧ Below w.heap.size w W) _ ⟨hputd, hBd⟩ ?_
        clear hputd hBd hput c0 f0 c0d f0d
        rintro w9 ⟨hR9, hB9⟩
        go_wp2
        go_roundg (gk - 1)
        case measure => have := HK.out; omega
        case rel => exact ⟨k + 1, yb, by have := HK.out; omega, by go_num, rfl, HNX.out, hR9, hB9⟩
      · have hmI : ¬ ((k : Int) % 64 = 0) := by omega
        have hm1 : ((k : Int) % 64 == 0) = false := by simp; omega
        clear hkd
        obtain rfl := hys hm0
        obtain ⟨hput, c0, f0⟩ := HFL.out wr HR
        clear HR hblk
        have c0d : wr.drew.cell? ⟨w.heap.size, k, none⟩ = some (.int .u8 0) := c0
        have f0d : wr.drew.frozen? ⟨w.heap.size, k, none⟩ = false := f0
        have hputd : Rw (wr.setCell ⟨w.heap.size, k, none⟩ (.int .u8 zi)).drew w.heap.size (fillL (fun i => data.data.toList.getD i 0 ^^^ streamB key.data.toList c nonce.data.toList i) data.size (k + 1)) := hput
        have hBd : Below w.heap.size w (wr.setCell ⟨w.heap.size, k, none⟩ (.int .u8 zi)).drew := (hB.setCell (p := ⟨w.heap.size, k, none⟩) (Nat.le_refl _) _).drew
        obtain ⟨r, hr⟩ : ∃ r : Int, (k : Int) % 64 = r := ⟨_, rfl⟩
        have hr0 : 0 ≤ r ∧ r < 64 := by omega
        rw [hr] at hiy hmI hm1
        go_wp2_with fail
        go_region
        refine with_world (R := fun W => Exit.inBlock _ _ _ _ W) (Q := fun W => Rw W w.heap.size (fillL (fun i => data.data.toList.getD i 0 ^^^ streamB key.data.toList c nonce.data.toList i) data.size (k + 1)) ∧ Below w.heap.size w W) _ ⟨hputd, hBd⟩ ?_
        clear hputd hBd hput c0 f0 c0d f0d
        rintro w9 ⟨hR9, hB9⟩
        go_wp2
        go_roundg (gk - 1)
        case measure => have := HK.out; omega
        case rel => exact ⟨k + 1, _, by have := HK.out; omega, by go_num, rfl, HNX.out, hR9, hB9⟩
    · obtain rfl : k = data.size := by omega
      have hltI : ¬ (data.size : Int) < (data.size : Int) := by omega
      rw [fillL_all, HOV.out] at HR
      have hcv := HR.text (P := Tryd.prog) 40 9 data.size Tryd.underlying40 Tryd.underlying5 Tryd.underlying9
      rw [overL_length, hz] at hcv
      clear HR hys
      go_wp2
      go_ret2
      exact ⟨rfl, hB⟩

theorem rxor_no (key nonce data : ByteArray) (c : Int) (hk : key.size ≤ maxLen) (hn : nonce.size ≤ maxLen) (h : ¬ (key.size = 32 ∧ nonce.size = 12 ∧ 0 ≤ c ∧ c < 4294967296)) (w : World) :
    Calls Tryd.prog 39 #[.string key, .int .i64 c, .string nonce, .string data] w fun e w' => e = .returned (.tuple #[.string { data := #[] }, .int .i64 (wrongN key c nonce 12)]) ∧ w = w' := by
  have hwr := wrong_any key nonce c 12 hk hn w
  rcases wrong_not h with h40 | h40 | h40 <;>
  · rw [h40] at hwr ⊢
    clear h h40
    go_enter Tryd.func39, Tryd.ntmps39
    go_wp2_with fail
    refine hwr.mono ?_
    rintro e w1 ⟨rfl, rfl⟩
    go_wp2
    go_ret2
    exact ⟨rfl, rfl⟩

theorem rxor_many (key nonce data : ByteArray) (c : Nat) (hk : key.size = 32) (hn : nonce.size = 12) (hd : data.size ≤ 281474976710656) (hc : c < 4294967296) (hroom : ¬ (c + (data.size + 63) / 64 ≤ 4294967296)) (w : World) :
    Calls Tryd.prog 39 #[.string key, .int .i64 (c : Int), .string nonce, .string data] w fun e w' => e = .returned (.tuple #[.string { data := #[] }, .int .i64 42]) ∧ w = w' := by
  have hwr := wrong_any key nonce (c : Int) 12 (by unfold maxLen; omega) (by unfold maxLen; omega) w
  rw [wrong_ok hk hn (by omega) (by omega)] at hwr
  obtain ⟨nb, hnb⟩ : ∃ nb, (data.size + 63) / 64 = nb := ⟨_, rfl⟩
  rw [hnb] at hroom
  have hq : ((data.size : Int) + 63) / 64 = (nb : Int) := by omega
  have hq2 : ((data.size : Int) + 63).tdiv 64 = (nb : Int) := by rw [Int.tdiv_eq_ediv_of_nonneg (by omega)]; exact hq
  have hnl : (nb : Int) ≤ 4398046511105 := by omega
  have hgt : (4294967296 < (c : Int) + (nb : Int)) := by omega
  clear hnb hroom
  go_enter Tryd.func39, Tryd.ntmps39
  go_wp2_with fail
  refine hwr.mono ?_
  rintro e w1 ⟨rfl, rfl⟩
  go_wp2
  go_ret2
  exact ⟨rfl, rfl⟩

end Go.Proofs.YtebhmebldemndaaDoor.Cha
