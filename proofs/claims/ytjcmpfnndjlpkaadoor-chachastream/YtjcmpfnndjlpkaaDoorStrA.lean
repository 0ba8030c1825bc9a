import Derived.Test.YtjcmpfnndjlpkaaDoorLisA
namespace Go.Proofs.YtjcmpfnndjlpkaaDoor
open Go.RowKit Go.Lib Go.Deep

theorem str_append (a b : List UInt8) : str a ++ str b = str (a ++ b) := by
  apply ByteArray.ext
  rw [ByteArray.data_append]
  simp [str]

set_option maxRecDepth 20000 in
set_option maxHeartbeats 4000000 in
theorem stream_core (key nonce : ByteArray) (n z : Int) (hk : key.size ≤ maxLen) (hn : nonce.size ≤ maxLen) (L : Nat) (hL : L ≤ 1000) (hz : z.tmod 1001 = (L : Int) ∨ (z.tmod 1001 < 0 ∧ z.tmod 1001 + 1001 = (L : Int))) (w : World) (hT : CTabs w) (h3 : 3 ≤ w.heap.size) :
    Calls Tryd.prog 7 #[.string key, .int .i64 n, .string nonce, .int .i64 z] w fun e w' => e = .returned (.bool true) ∧ Below w.heap.size w w' := by
  obtain ⟨i0, hi, hz0, hz1, hz2⟩ := info_parts info5
  have hkn := known_any w hT h3
  have hkm : key.size ≤ 9223372036854775807 := by unfold maxLen at hk; omega
  have hnm : nonce.size ≤ 9223372036854775807 := by unfold maxLen at hn; omega
  have HKT : Hid (∀ W, Below w.heap.size w W → CTabs W ∧ 3 ≤ W.heap.size) := fun W h => ⟨hT.below h h3, by have := h.size; omega⟩
  have hs1 := fun W => sized_any key 32 (by omega) W
  have hs2 := fun W => sized_any nonce 12 (by omega) W
  have l1 : (str (szL key.data.toList 32)).size = 32 := by rw [str_size, szL_length]
  have l2 : (str (szL nonce.data.toList 12)).size = 12 := by rw [str_size, szL_length]
  revert hs1 hs2 l1 l2
  generalize str (szL key.data.toList 32) = yk
  generalize str (szL nonce.data.toList 12) = yn
  intro hs1 hs2 l1 l2
  obtain ⟨nb, hnb⟩ : ∃ nb, (L + 63) / 64 = nb := ⟨_, rfl⟩
  have hctr := fun W => counter_any n L (by omega) W
  rw [hnb] at hctr
  obtain ⟨q0, q1, q2⟩ := ctr_ok n (4294967296 - (nb : Int)) (by omega) (by omega)
  obtain ⟨c, hc⟩ := Int.eq_ofNat_of_zero_le q0
  rw [hc] at hctr q1 q2
  have hcw : c < 4294967296 := by omega
  have hroom : c + nb ≤ 4294967296 := by omega
  have hxy := fun W hT h3 => xor_yes yk yn (str (List.replicate L 0)) c l1 l2 (by rw [str_size, List.length_replicate]; omega) hcw (by rw [str_size, List.length_replicate, hnb]; exact hroom) W hT h3
  rw [str_data, over_zeros yk.data.toList c yn.data.toList L nb (by omega)] at hxy
  have hbl : ∀ (i : Nat), i < nb → ∀ W, CTabs W → 3 ≤ W.heap.size → Calls Tryd.prog 16 #[.string yk, .int .i64 ((c : Int) + (i : Int)), .string yn] W fun e w' => e = .returned (.tuple #[.string (str (blockL yk.data.toList (c + i) yn.data.toList)), .int .i64 0]) ∧ Below W.heap.size W w' := fun i hi W hT h3 => by
    have h := block_yes yk yn (c + i) l1 l2 (by omega) W hT h3
    rwa [show ((c + i : Nat) : Int) = (c : Int) + (i : Int) by omega] at h
  have HBL : Hid (∀ (i : Nat), i < nb → ∀ W, CTabs W → 3 ≤ W.heap.size → Calls Tryd.prog 16 #[.string yk, .int .i64 ((c : Int) + (i : Int)), .string yn] W fun e w' => e = .returned (.tuple #[.string (str (blockL yk.data.toList (c + i) yn.data.toList)), .int .i64 0]) ∧ Below W.heap.size W w') := hbl
  have HC : Hid (∀ i, str (catN yk.data.toList c yn.data.toList i) ++ str (blockL yk.data.toList (c + i) yn.data.toList) = str (catN yk.data.toList c yn.data.toList (i + 1)) ∧ (str (catN yk.data.toList c yn.data.toList i)).size = 64 * i ∧ (str (blockL yk.data.toList (c + i) yn.data.toList)).size = 64) := fun i => ⟨str_append _ _, by rw [str_size, catN_length], by rw [str_size, blockL_length]⟩
  have HE : Hid (∀ W, (Instr.slice 9 (.string (str (catN yk.data.toList c yn.data.toList nb))) none (some (.int .i64 (L : Int))) none).run Tryd.prog W = .ok (.string (str ((catN yk.data.toList c yn.data.toList nb).take L))) W) := fun W => slice_head W 9 Tryd.underlying9 _ _ L (by rw [catN_length]; omega) rfl
  have HEL : Hid ((str ((catN yk.data.toList c yn.data.toList nb).take L)).size = L) := by show _ = _; rw [str_size, List.length_take, catN_length]; omega
  have HNB : Hid ((L + 63) / 64 = nb) := hnb
  have hnb16 : nb ≤ 16 := by omega
  clear hbl hnb q0 q1 q2 hc
  have hL0 : (0 : Int) ≤ (L : Int) := by omega
  have HPRE : Calls Tryd.prog 7 #[.string key, .int .i64 n, .string nonce, .int .i64 z] w fun e w' => e = .returned (.bool true) ∧ Below w.heap.size w w' := by
    rcases hz with hz | ⟨hzn, hz⟩
    · have hneg : ¬ ((L : Int) < 0) := by omega
      go_enter Tryd.func7, Tryd.ntmps7
      go_wp2_with fail
      refine hkn.mono ?_
      rintro e w1 ⟨rfl, hb1⟩
      go_wp2_with fail
      refine (hs1 w1).mono ?_
      rintro e w2 ⟨rfl, hb2'⟩
      have hb2 := hb1.trans (hb2'.mono hb1.size)
      clear hb2' hb1
      go_wp2_with fail
      refine (hs2 w2).mono ?_
      rintro e w3 ⟨rfl, hb3'⟩
      have hb3 := hb2.trans (hb3'.mono hb2.size)
      clear hb3' hb2
      go_wp2_with fail
      refine (hctr w3).mono ?_
      rintro e w4 ⟨rfl, rfl⟩
      go_wp2_with (at_make; refine wpList_make_full _ rfl _ _ 35 rfl w.heap.size 5 i0 (.int .u8 0) 1 Tryd.underlying35 hi hz0 hz1 .i64 .i64 _ _ L rfl rfl rfl rfl (by rw [hz2]; omega) (by unfold maxLen; omega) hb3.size ?_; intro w5 hown5 hg5; have HR5 := Rw.made hown5; have hcv := HR5.text (P := Tryd.prog) 35 9 L Tryd.underlying35 Tryd.underlying5 Tryd.underlying9; rw [List.length_replicate] at hcv)
      have hb5 : Below w.heap.size w w5 := Below.grown hb3 hg5 hb3.size (by simp)
      obtain ⟨hT5, h35⟩ := HKT.out w5 hb5
      have hx5 := hxy w5 hT5 h35
      clear hown5 hg5 HR5 hcv hb3 hxy hctr hs1 hs2 hkn
      refine hx5.mono ?_
      rintro e w6 ⟨rfl, hb6'⟩
      have hb6 := hb5.trans (hb6'.mono hb5.size)
      clear hb6' hb5 hx5
      go_wp2
      go_loopg [16, 17] nb (fun gk wt i wr => ∃ k : Nat, k + gk = nb ∧ i = .int .i64 k ∧ wt = .string (str (catN yk.data.toList c yn.data.toList k)) ∧ Below w.heap.size w wr)
      case atStart => exact ⟨0, by omega, rfl, rfl, hb6⟩
      case round =>
        clear hb6
        obtain ⟨k, hkk, rfl, rfl, hbel⟩ := hrel
        have HK : Hid (k + gk = nb) := hkk
        have hk' : k ≤ nb := by omega
        clear hkk
        by_cases hlt : k < nb
        · have hltI : 64 * (k : Int) < (L : Int) := by have := HNB.out; omega
          obtain ⟨hTk, h3k⟩ := HKT.out wr hbel
          have hbk := HBL.out k hlt wr hTk h3k
          obtain ⟨e1, e2, e3⟩ := HC.out k
          have HE1 : Hid (str (catN yk.data.toList c yn.data.toList k) ++ str (blockL yk.data.toList (c + k) yn.data.toList) = str (catN yk.data.toList c yn.data.toList (k + 1))) := e1
          clear e1
          revert hbk HE1 e2 e3
          generalize str (catN yk.data.toList c yn.data.toList k) = x1
          generalize str (blockL yk.data.toList (c + k) yn.data.toList) = x2
          intro hbk e2 e3 HE1
          have a1 : x1.size + x2.size ≤ 9223372036854775807 := by omega
          go_wp2_with fail
          refine hbk.mono ?_
          rintro e w7 ⟨rfl, hb7'⟩
          have hb7 := hbel.trans (hb7'.mono hbel.size)
          clear hb7' hbk hbel
          go_wp2_with (go_at_call 11; refine (num_any _ _).mono ?_; rintro e w8 ⟨rfl, rfl⟩)
          go_roundg (gk - 1)
          case measure => have := HK.out; omega
          case rel => exact ⟨k + 1, by have := HK.out; omega, by go_num, by rw [HE1.out], hb7⟩
        · obtain rfl : k = nb := by omega
          have hltI : ¬ 64 * (k : Int) < (L : Int) := by have := HNB.out; omega
          have hsl := HE.out
          have hsz := HEL.out
          revert hsl hsz
          generalize str ((catN yk.data.toList c yn.data.toList k).take L) = ys
          intro hsl hsz
          go_wp2_with (go_at_call 11; refine (num_any _ _).mono ?_; rintro e w8 ⟨rfl, rfl⟩)
          go_ret
          exact ⟨by simp, hbel⟩
    · have hw1 : IntKind.i64.wrap (z.tmod 1001 + 1001) = (L : Int) := by rw [hz, IntKind.wrap_i64]; omega
      go_enter Tryd.func7, Tryd.ntmps7
      go_wp2_with fail
      refine hkn.mono ?_
      rintro e w1 ⟨rfl, hb1⟩
      go_wp2_with fail
      refine (hs1 w1).mono ?_
      rintro e w2 ⟨rfl, hb2'⟩
      have hb2 := hb1.trans (hb2'.mono hb1.size)
      clear hb2' hb1
      go_wp2_with fail
      refine (hs2 w2).mono ?_
      rintro e w3 ⟨rfl, hb3'⟩
      have hb3 := hb2.trans (hb3'.mono hb2.size)
      clear hb3' hb2
      go_wp2_with fail
      refine (hctr w3).mono ?_
      rintro e w4 ⟨rfl, rfl⟩
      go_wp2_with (at_make; refine wpList_make_full _ rfl _ _ 35 rfl w.heap.size 5 i0 (.int .u8 0) 1 Tryd.underlying35 hi hz0 hz1 .i64 .i64 _ _ L rfl rfl rfl rfl (by rw [hz2]; omega) (by unfold maxLen; omega) hb3.size ?_; intro w5 hown5 hg5; have HR5 := Rw.made hown5; have hcv := HR5.text (P := Tryd.prog) 35 9 L Tryd.underlying35 Tryd.underlying5 Tryd.underlying9; rw [List.length_replicate] at hcv)
      have hb5 : Below w.heap.size w w5 := Below.grown hb3 hg5 hb3.size (by simp)
      obtain ⟨hT5, h35⟩ := HKT.out w5 hb5
      have hx5 := hxy w5 hT5 h35
      clear hown5 hg5 HR5 hcv hb3 hxy hctr hs1 hs2 hkn
      refine hx5.mono ?_
      rintro e w6 ⟨rfl, hb6'⟩
      have hb6 := hb5.trans (hb6'.mono hb5.size)
      clear hb6' hb5 hx5
      go_wp2
      go_loopg [16, 17] nb (fun gk wt i wr => ∃ k : Nat, k + gk = nb ∧ i = .int .i64 k ∧ wt = .string (str (catN yk.data.toList c yn.data.toList k)) ∧ Below w.heap.size w wr)
      case atStart => exact ⟨0, by omega, rfl, rfl, hb6⟩
      case round =>
        clear hb6
        obtain ⟨k, hkk, rfl, rfl, hbel⟩ := hrel
        have HK : Hid (k + gk = nb) := hkk
        have hk' : k ≤ nb := by omega
        clear hkk
        by_cases hlt : k < nb
        · have hltI : 64 * (k : Int) < (L : Int) := by have := HNB.out; omega
          obtain ⟨hTk, h3k⟩ := HKT.out wr hbel
          have hbk := HBL.out k hlt wr hTk h3k
          obtain ⟨e1, e2, e3⟩ := HC.out k
          have HE1 : Hid (str (catN yk.data.toList c yn.data.toList k) ++ str (blockL yk.data.toList (c + k) yn.data.toList) = str (catN yk.data.toList c yn.data.toList (k + 1))) := e1
          clear e1
          revert hbk HE1 e2 e3
          generalize str (catN yk.data.toList c yn.data.toList k) = x1
          generalize str (blockL yk.data.toList (c + k) yn.data.toList) = x2
          intro hbk e2 e3 HE1
          have a1 : x1.size + x2.size ≤ 9223372036854775807 := by omega
          go_wp2_with fail
          refine hbk.mono ?_
          rintro e w7 ⟨rfl, hb7'⟩
          have hb7 := hbel.trans (hb7'.mono hbel.size)
          clear hb7' hbk hbel
          go_wp2_with (go_at_call 11; refine (num_any _ _).mono ?_; rintro e w8 ⟨rfl, rfl⟩)
          go_roundg (gk - 1)
          case measure => have := HK.out; omega
          case rel => exact ⟨k + 1, by have := HK.out; omega, by go_num, by rw [HE1.out], hb7⟩
        · obtain rfl : k = nb := by omega
          have hltI : ¬ 64 * (k : Int) < (L : Int) := by have := HNB.out; omega
          have hsl := HE.out
          have hsz := HEL.out
          revert hsl hsz
          generalize str ((catN yk.data.toList c yn.data.toList k).take L) = ys
          intro hsl hsz
          go_wp2_with (go_at_call 11; refine (num_any _ _).mono ?_; rintro e w8 ⟨rfl, rfl⟩)
          go_ret
          exact ⟨by simp, hbel⟩
  exact HPRE

theorem stream_walk (key nonce : ByteArray) (n z : Int) (hk : key.size ≤ maxLen) (hn : nonce.size ≤ maxLen) (w : World) (hT : CTabs w) (h3 : 3 ≤ w.heap.size) :
    Calls Tryd.prog 7 #[.string key, .int .i64 n, .string nonce, .int .i64 z] w fun e w' => e = .returned (.bool true) ∧ Below w.heap.size w w' := by
  have h1 := Int.tmod_lt_of_pos z (by omega : (0 : Int) < 1001)
  have h2 := Int.lt_tmod_of_pos z (by omega : (0 : Int) < 1001)
  by_cases hneg : z.tmod 1001 < 0
  · exact stream_core key nonce n z hk hn (z.tmod 1001 + 1001).toNat (by omega) (.inr ⟨hneg, by omega⟩) w hT h3
  · exact stream_core key nonce n z hk hn (z.tmod 1001).toNat (by omega) (.inl (by omega)) w hT h3

end Go.Proofs.YtjcmpfnndjlpkaaDoor
