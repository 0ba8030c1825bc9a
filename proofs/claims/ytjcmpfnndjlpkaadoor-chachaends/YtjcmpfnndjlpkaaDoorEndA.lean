import Derived.Test.YtjcmpfnndjlpkaaDoorLisA
namespace Go.Proofs.YtjcmpfnndjlpkaaDoor
open Go.RowKit Go.Lib Go.Deep

set_option maxRecDepth 20000 in
set_option maxHeartbeats 2000000 in
theorem ends_walk (key nonce data : ByteArray) (hk : key.size ≤ maxLen) (hn : nonce.size ≤ maxLen) (hdm : data.size ≤ maxLen) (w : World) (hT : CTabs w) (h3 : 3 ≤ w.heap.size) :
    Calls Tryd.prog 6 #[.string key, .string nonce, .string data] w fun e w' => e = .returned (.bool true) ∧ Below w.heap.size w w' := by
  obtain ⟨d, hd, hd1, hd2⟩ := cut_any data
  have hkn := known_any w hT h3
  have hkm : key.size ≤ 9223372036854775807 := by unfold maxLen at hk; omega
  have hnm : nonce.size ≤ 9223372036854775807 := by unfold maxLen at hn; omega
  have hdx : data.size ≤ 9223372036854775807 := by unfold maxLen at hdm; omega
  have HKT : Hid (∀ W, Below w.heap.size w W → CTabs W ∧ 3 ≤ W.heap.size) := fun W h => ⟨hT.below h h3, by have := h.size; omega⟩
  have hs1 := fun W => sized_any key 32 (by omega) W
  have hs2 := fun W => sized_any nonce 12 (by omega) W
  have l1 : (str (szL key.data.toList 32)).size = 32 := by rw [str_size, szL_length]
  have l2 : (str (szL nonce.data.toList 12)).size = 12 := by rw [str_size, szL_length]
  revert hs1 hs2 l1 l2
  generalize str (szL key.data.toList 32) = yk
  generalize str (szL nonce.data.toList 12) = yn
  intro hs1 hs2 l1 l2
  have a1 : d.size + (({ data := #[120] } : ByteArray)).size ≤ 9223372036854775807 := by show d.size + 1 ≤ _; omega
  have dz : (d ++ ({ data := #[120] } : ByteArray)).size = d.size + 1 := by rw [ByteArray.size_append]; rfl
  have hroom : room (4294967296 - ((d.size : Int) + 1 + 63) / 64) (d ++ ({ data := #[120] } : ByteArray)).size := by
    rw [dz]
    refine ⟨by omega, by omega⟩
  have hfar : ¬ room (4294967296 - ((d.size : Int) + 1 + 63) / 64 + 1) (d ++ ({ data := #[120] } : ByteArray)).size := by
    rw [dz]
    intro h
    have := h.2
    omega
  have hx1 : ∃ y : ByteArray, y.size = d.size + 1 ∧ ∀ W, CTabs W → 3 ≤ W.heap.size → Calls Tryd.prog 13 #[.string yk, .int .i64 (4294967296 - ((d.size : Int) + 1 + 63) / 64), .string yn, .string (d ++ { data := #[120] })] W fun e w' => e = .returned (.tuple #[.string y, .int .i64 0]) ∧ Below W.heap.size W w' := by
    obtain ⟨c, hc⟩ := Int.eq_ofNat_of_zero_le hroom.1.1
    refine ⟨str (overL yk.data.toList c yn.data.toList (d ++ ({ data := #[120] } : ByteArray)).data.toList), ?_, fun W hT h3 => ?_⟩
    · rw [str_size, overL_length, ← size_eq, dz]
    · rw [hc] at hroom ⊢
      exact xor_yes yk yn (d ++ { data := #[120] }) c l1 l2 (by omega) (by have := hroom.1.2; omega) (by have := hroom.2; omega) W hT h3
  obtain ⟨y, hy, hx1⟩ := hx1
  have hx2 : ∀ W, Calls Tryd.prog 13 #[.string yk, .int .i64 (4294967296 - ((d.size : Int) + 1 + 63) / 64 + 1), .string yn, .string (d ++ { data := #[120] })] W fun e w' => e = .returned (.tuple #[.string { data := #[] }, .int .i64 42]) ∧ W = w' := fun W => xor_far yk yn _ _ l1 l2 (by omega) hfar W
  clear hroom hfar l1 l2
  by_cases hcut : data.size ≤ 65536
  · have hcI : ¬ (65536 : Int) < (data.size : Int) := by omega
    obtain rfl := hd1 hcut
    clear hd1 hd2 hcut
    go_enter Tryd.func6, Tryd.ntmps6
    go_wp2_with fail
    refine hkn.mono ?_
    rintro e w1 ⟨rfl, hb1⟩
    go_wp2_with fail
    refine (hs1 w1).mono ?_
    rintro e w2 ⟨rfl, hb2'⟩
    have hb2 := hb1.trans (hb2'.mono hb1.size)
    clear hb2' hb1
    go_wp2_with fail
    refine (hs2 w2).mono ?_
    rintro e w3 ⟨rfl, hb3'⟩
    have hb3 := hb2.trans (hb3'.mono hb2.size)
    clear hb3' hb2
    obtain ⟨hT3, h33⟩ := HKT.out w3 hb3
    have hx3 := hx1 w3 hT3 h33
    go_wp2_with fail
    refine hx3.mono ?_
    rintro e w4 ⟨rfl, hb4'⟩
    have hb4 := hb3.trans (hb4'.mono hb3.size)
    clear hb4' hb3 hx3 hx1
    have hx4 := hx2 w4
    go_wp2_with fail
    refine hx4.mono ?_
    rintro e w5 ⟨rfl, rfl⟩
    clear hx4 hx2
    go_wp2_with (go_at_call 11; refine (num_any _ _).mono ?_; rintro e w6 ⟨rfl, rfl⟩)
    go_ret
    exact ⟨by simp, hb4⟩
  · have hcI : (65536 : Int) < (data.size : Int) := by omega
    have hsl := hd2 (by omega)
    clear hd1 hd2 hcut
    go_enter Tryd.func6, Tryd.ntmps6
    go_wp2_with fail
    refine hkn.mono ?_
    rintro e w1 ⟨rfl, hb1⟩
    go_wp2_with fail
    refine (hs1 w1).mono ?_
    rintro e w2 ⟨rfl, hb2'⟩
    have hb2 := hb1.trans (hb2'.mono hb1.size)
    clear hb2' hb1
    go_wp2_with fail
    refine (hs2 w2).mono ?_
    rintro e w3 ⟨rfl, hb3'⟩
    have hb3 := hb2.trans (hb3'.mono hb2.size)
    clear hb3' hb2
    obtain ⟨hT3, h33⟩ := HKT.out w3 hb3
    have hx3 := hx1 w3 hT3 h33
    go_wp2_with fail
    refine hx3.mono ?_
    rintro e w4 ⟨rfl, hb4'⟩
    have hb4 := hb3.trans (hb4'.mono hb3.size)
    clear hb4' hb3 hx3 hx1
    have hx4 := hx2 w4
    go_wp2_with fail
    refine hx4.mono ?_
    rintro e w5 ⟨rfl, rfl⟩
    clear hx4 hx2
    go_wp2_with (go_at_call 11; refine (num_any _ _).mono ?_; rintro e w6 ⟨rfl, rfl⟩)
    go_ret
    exact ⟨by simp, hb4⟩

end Go.Proofs.YtjcmpfnndjlpkaaDoor
