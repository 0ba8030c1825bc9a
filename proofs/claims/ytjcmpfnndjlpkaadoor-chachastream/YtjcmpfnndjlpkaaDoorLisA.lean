import Derived.Test.YtjcmpfnndjlpkaaDoorChaT
import Derived.Test.YtjcmpfnndjlpkaaDoorKnB
namespace Go.Proofs.YtjcmpfnndjlpkaaDoor
open Go.RowKit Go.Lib Go.Deep

/-- Xor's answer hangs on the bytes alone, whatever it is -/
theorem xor_either (K N : List UInt8) (data : ByteArray) (c : Int) (hd : data.size ≤ 281474976710656) : ∃ (v : ByteArray) (e0 : Int), ∀ (k2 n2 : ByteArray), k2.data.toList = K → n2.data.toList = N → k2.size = 32 → n2.size = 12 → ∀ W, CTabs W → 3 ≤ W.heap.size →
    Calls Tryd.prog 13 #[.string k2, .int .i64 c, .string n2, .string data] W fun e w' => e = .returned (.tuple #[.string v, .int .i64 e0]) ∧ Below W.heap.size W w' := by
  by_cases hr : room c data.size
  · obtain ⟨c, rfl⟩ := Int.eq_ofNat_of_zero_le hr.1.1
    refine ⟨str (overL K c N data.data.toList), 0, fun k2 n2 hk hn hk2 hn2 W hT h3 => ?_⟩
    have h := xor_yes k2 n2 data c hk2 hn2 hd (by have := hr.1.2; omega) (by have := hr.2; omega) W hT h3
    rw [hk, hn] at h
    exact h
  · refine ⟨{ data := #[] }, 42, fun k2 n2 hk hn hk2 hn2 W hT h3 => ?_⟩
    exact (xor_far k2 n2 data c hk2 hn2 hd hr W).mono fun e w' ⟨h1, h2⟩ => ⟨h1, h2 ▸ Below.refl _ _⟩

/-- at most 65536 bytes of a text -/
theorem cut_any (data : ByteArray) : ∃ d : ByteArray, d.size ≤ 65536 ∧ (data.size ≤ 65536 → d = data) ∧ (65536 < data.size → ∀ W, (Instr.slice 9 (.string data) none (some (.int .i64 65536)) none).run Tryd.prog W = .ok (.string d) W) := by
  by_cases h : data.size ≤ 65536
  · exact ⟨data, h, fun _ => rfl, fun h2 => by omega⟩
  · refine ⟨data.extract 0 65536, by simp; omega, fun h2 => absurd h2 h, fun _ W => ?_⟩
    exact run_slice_string_h (P := Tryd.prog) W 9 data Tryd.underlying9 .i64 65536 (by omega) (by omega)

set_option maxRecDepth 20000 in
set_option maxHeartbeats 2000000 in
/-- the law behind the cut -/
theorem lis_walk (key nonce data : ByteArray) (n : Int) (hk : key.size ≤ maxLen) (hn : nonce.size ≤ maxLen) (hdm : data.size ≤ maxLen) (w : World) (hT : CTabs w) (h3 : 3 ≤ w.heap.size) :
    Calls Tryd.prog 5 #[.string key, .int .i64 n, .string nonce, .string data] w fun e w' => e = .returned (.bool true) ∧ Below w.heap.size w w' := by
  obtain ⟨d, hd, hd1, hd2⟩ := cut_any data
  have hkn := known_any w hT h3
  have hkm : key.size ≤ 9223372036854775807 := by unfold maxLen at hk; omega
  have hnm : nonce.size ≤ 9223372036854775807 := by unfold maxLen at hn; omega
  have hdx : data.size ≤ 9223372036854775807 := by unfold maxLen at hdm; omega
  -- what XXor answers of d, and the calls behind it
  have HALL : Hid (∀ W, CTabs W → 3 ≤ W.heap.size → (key.size = 32 ∧ nonce.size = 24 → ∃ (v : ByteArray) (e0 : Int) (n1 n2 y : ByteArray),
      (Calls Tryd.prog 12 #[.string key, .int .i64 n, .string nonce, .string d] W fun e w' => e = .returned (.tuple #[.string v, .int .i64 e0]) ∧ Below W.heap.size W w') ∧
      (∀ V, (Instr.slice 9 (.string nonce) none (some (.int .i64 16)) none).run Tryd.prog V = .ok (.string n1) V) ∧ (∀ V, (Instr.slice 9 (.string nonce) (some (.int .i64 16)) none none).run Tryd.prog V = .ok (.string n2) V) ∧ n2.size = 8 ∧
      (∀ V, CTabs V → 3 ≤ V.heap.size → Calls Tryd.prog 9 #[.string key, .string n1] V fun e w' => e = .returned (.tuple #[.string y, .int .i64 0]) ∧ Below V.heap.size V w') ∧
      (∀ V, CTabs V → 3 ≤ V.heap.size → Calls Tryd.prog 13 #[.string y, .int .i64 n, .string ({ data := #[0, 0, 0, 0] } ++ n2), .string d] V fun e w' => e = .returned (.tuple #[.string v, .int .i64 e0]) ∧ Below V.heap.size V w'))) := by
    intro W hTW h3W ⟨hk32, hn24⟩
    obtain ⟨v, e0, hx⟩ := xor_either (hchL key.data.toList (nonce.data.toList.take 16)) ([0, 0, 0, 0] ++ nonce.data.toList.drop 16) d n (by omega)
    obtain ⟨n1, n2, hs1, hs2, hz1, hz2, hl1, hl2⟩ := long_parts nonce hn24
    refine ⟨v, e0, n1, n2, str (hchL key.data.toList (nonce.data.toList.take 16)), xxor_of key nonce d n hk32 hn24 W hTW h3W _ e0 hx, hs1, hs2, hz2, ?_, ?_⟩
    · intro V hTV h3V
      have h := hch_yes key n1 hk32 hz1 V hTV h3V
      rwa [hl1] at h
    · intro V hTV h3V
      have d2 : (({ data := #[0, 0, 0, 0] } : ByteArray) ++ n2).data.toList = [0, 0, 0, 0] ++ nonce.data.toList.drop 16 := by rw [ByteArray.data_append, Array.toList_append, hl2]
      exact hx _ _ (str_data _) d2 (by rw [str_size, hchL_length]) (by rw [size_eq, d2, List.length_append, List.length_drop, ← size_eq, hn24]; rfl) V hTV h3V
  have HNO : Hid (∀ W, ¬ (key.size = 32 ∧ nonce.size = 24) → Calls Tryd.prog 12 #[.string key, .int .i64 n, .string nonce, .string d] W fun e w' => e = .returned (.tuple #[.string { data := #[] }, .int .i64 (faultN key nonce 24)]) ∧ W = w') := fun W h => xxor_no key nonce d n hk hn h W
  have HKT : Hid (∀ W, Below w.heap.size w W → CTabs W ∧ 3 ≤ W.heap.size) := fun W h => ⟨hT.below h h3, by have := h.size; omega⟩
  by_cases hcut : data.size ≤ 65536
  · have hcI : ¬ (65536 : Int) < (data.size : Int) := by omega
    obtain rfl := hd1 hcut
    clear hd1 hd2 hcut
    by_cases hk32 : key.size = 32
    · by_cases hn24 : nonce.size = 24
      · go_enter Tryd.func5, Tryd.ntmps5
        go_wp2_with fail
        refine hkn.mono ?_
        rintro e w1 ⟨rfl, hb1⟩
        obtain ⟨hT1, h31⟩ := HKT.out w1 hb1
        obtain ⟨v, e0, n1, n2, y, hxx, hs1, hs2, hz2, hhc, hxo⟩ := HALL.out w1 hT1 h31 ⟨hk32, hn24⟩
        have a1 : (({ data := #[0, 0, 0, 0] } : ByteArray)).size + n2.size ≤ 9223372036854775807 := by rw [hz2]; decide
        go_wp2_with fail
        refine hxx.mono ?_
        rintro e w2 ⟨rfl, hb2'⟩
        have hb2 := hb1.trans (hb2'.mono hb1.size)
        obtain ⟨hT2, h32⟩ := HKT.out w2 hb2
        have hh2 := hhc w2 hT2 h32
        clear hb2' hxx hb1 hhc
        go_wp2_with fail
        refine hh2.mono ?_
        rintro e w4 ⟨rfl, hb4'⟩
        have hb4 := hb2.trans (hb4'.mono hb2.size)
        obtain ⟨hT4, h34⟩ := HKT.out w4 hb4
        have hx4 := hxo w4 hT4 h34
        clear hb4' hh2 hb2 hxo
        go_wp2_with fail
        refine hx4.mono ?_
        rintro e w5 ⟨rfl, hb5'⟩
        have hb5 := hb4.trans (hb5'.mono hb4.size)
        clear hb5' hx4 hb4
        go_wp2_with (go_at_call 11; refine (num_any _ _).mono ?_; rintro e w6 ⟨rfl, rfl⟩)
        go_ret
        exact ⟨by simp, hb5⟩
      · have hno : ¬ (key.size = 32 ∧ nonce.size = 24) := fun h => hn24 h.2
        have hfv : faultN key nonce 24 = 41 := by unfold faultN; rw [if_neg (by simp [hk32]), if_pos hn24]
        have h2b : ((nonce.size : Int) == 24) = false := by simp; omega
        have h2c : ¬ ((nonce.size : Int) = 24) := by omega
        go_enter Tryd.func5, Tryd.ntmps5
        go_wp2_with fail
        refine hkn.mono ?_
        rintro e w1 ⟨rfl, hb1⟩
        obtain ⟨hT1, h31⟩ := HKT.out w1 hb1
        have hxx := HNO.out w1 hno
        rw [hfv] at hxx
        go_wp2_with fail
        refine hxx.mono ?_
        rintro e w2 ⟨rfl, rfl⟩
        go_wp2_with (go_at_call 11; refine (num_any _ _).mono ?_; rintro e w3 ⟨rfl, rfl⟩)
        go_ret
        exact ⟨rfl, hb1⟩
    · have hno : ¬ (key.size = 32 ∧ nonce.size = 24) := fun h => hk32 h.1
      have hfv : faultN key nonce 24 = 40 := by unfold faultN; rw [if_pos hk32]
      have h1b : ((key.size : Int) == 32) = false := by simp; omega
      have h1c : ¬ ((key.size : Int) = 32) := by omega
      go_enter Tryd.func5, Tryd.ntmps5
      go_wp2_with fail
      refine hkn.mono ?_
      rintro e w1 ⟨rfl, hb1⟩
      obtain ⟨hT1, h31⟩ := HKT.out w1 hb1
      have hxx := HNO.out w1 hno
      rw [hfv] at hxx
      go_wp2_with fail
      refine hxx.mono ?_
      rintro e w2 ⟨rfl, rfl⟩
      go_wp2_with (go_at_call 11; refine (num_any _ _).mono ?_; rintro e w3 ⟨rfl, rfl⟩)
      go_ret
      exact ⟨rfl, hb1⟩
  · have hcI : (65536 : Int) < (data.size : Int) := by omega
    have hsl := hd2 (by omega)
    clear hd1 hd2 hcut
    by_cases hk32 : key.size = 32
    · by_cases hn24 : nonce.size = 24
      · go_enter Tryd.func5, Tryd.ntmps5
        go_wp2_with fail
        refine hkn.mono ?_
        rintro e w1 ⟨rfl, hb1⟩
        obtain ⟨hT1, h31⟩ := HKT.out w1 hb1
        obtain ⟨v, e0, n1, n2, y, hxx, hs1, hs2, hz2, hhc, hxo⟩ := HALL.out w1 hT1 h31 ⟨hk32, hn24⟩
        have a1 : (({ data := #[0, 0, 0, 0] } : ByteArray)).size + n2.size ≤ 9223372036854775807 := by rw [hz2]; decide
        go_wp2_with fail
        refine hxx.mono ?_
        rintro e w2 ⟨rfl, hb2'⟩
        have hb2 := hb1.trans (hb2'.mono hb1.size)
        obtain ⟨hT2, h32⟩ := HKT.out w2 hb2
        have hh2 := hhc w2 hT2 h32
        clear hb2' hxx hb1 hhc
        go_wp2_with fail
        refine hh2.mono ?_
        rintro e w4 ⟨rfl, hb4'⟩
        have hb4 := hb2.trans (hb4'.mono hb2.size)
        obtain ⟨hT4, h34⟩ := HKT.out w4 hb4
        have hx4 := hxo w4 hT4 h34
        clear hb4' hh2 hb2 hxo
        go_wp2_with fail
        refine hx4.mono ?_
        rintro e w5 ⟨rfl, hb5'⟩
        have hb5 := hb4.trans (hb5'.mono hb4.size)
        clear hb5' hx4 hb4
        go_wp2_with (go_at_call 11; refine (num_any _ _).mono ?_; rintro e w6 ⟨rfl, rfl⟩)
        go_ret
        exact ⟨by simp, hb5⟩
      · have hno : ¬ (key.size = 32 ∧ nonce.size = 24) := fun h => hn24 h.2
        have hfv : faultN key nonce 24 = 41 := by unfold faultN; rw [if_neg (by simp [hk32]), if_pos hn24]
        have h2b : ((nonce.size : Int) == 24) = false := by simp; omega
        have h2c : ¬ ((nonce.size : Int) = 24) := by omega
        go_enter Tryd.func5, Tryd.ntmps5
        go_wp2_with fail
        refine hkn.mono ?_
        rintro e w1 ⟨rfl, hb1⟩
        obtain ⟨hT1, h31⟩ := HKT.out w1 hb1
        have hxx := HNO.out w1 hno
        rw [hfv] at hxx
        go_wp2_with fail
        refine hxx.mono ?_
        rintro e w2 ⟨rfl, rfl⟩
        go_wp2_with (go_at_call 11; refine (num_any _ _).mono ?_; rintro e w3 ⟨rfl, rfl⟩)
        go_ret
        exact ⟨rfl, hb1⟩
    · have hno : ¬ (key.size = 32 ∧ nonce.size = 24) := fun h => hk32 h.1
      have hfv : faultN key nonce 24 = 40 := by unfold faultN; rw [if_pos hk32]
      have h1b : ((key.size : Int) == 32) = false := by simp; omega
      have h1c : ¬ ((key.size : Int) = 32) := by omega
      go_enter Tryd.func5, Tryd.ntmps5
      go_wp2_with fail
      refine hkn.mono ?_
      rintro e w1 ⟨rfl, hb1⟩
      obtain ⟨hT1, h31⟩ := HKT.out w1 hb1
      have hxx := HNO.out w1 hno
      rw [hfv] at hxx
      go_wp2_with fail
      refine hxx.mono ?_
      rintro e w2 ⟨rfl, rfl⟩
      go_wp2_with (go_at_call 11; refine (num_any _ _).mono ?_; rintro e w3 ⟨rfl, rfl⟩)
      go_ret
      exact ⟨rfl, hb1⟩

end Go.Proofs.YtjcmpfnndjlpkaaDoor
