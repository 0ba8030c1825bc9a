import Derived.Test.YtjjabkimmgcejabDoorPasA
namespace Go.Proofs.YtjjabkimmgcejabDoor
open Go.RowKit Go.Lib

set_option maxRecDepth 20000 in
set_option maxHeartbeats 2000000 in
theorem rpbkdf_any (key salt : ByteArray) (rounds n : Int) (hk : key.size ≤ 140737488351232) (hs : salt.size ≤ 140737488351232) (r1 : 1 ≤ rounds) (r2 : rounds ≤ 4096) (h1 : 0 ≤ n) (h2 : n ≤ 1024) (w : World) (hr : RTabs w) (h4 : 4 ≤ w.heap.size) :
    Calls Tryd.prog 6 #[.string key, .string salt, .int .i64 rounds, .int .i64 n] w fun e w' => e = .returned (.tuple #[.string (str (pasL key.data.toList salt.data.toList (rounds.toNat - 1) n.toNat)), .int .i64 0]) ∧ Below w.heap.size w w' := by
  obtain ⟨N, rfl⟩ := Int.eq_ofNat_of_zero_le h1
  obtain ⟨R, rfl⟩ : ∃ R : Nat, rounds = (R : Int) + 1 := ⟨(rounds - 1).toNat, by omega⟩
  rw [Int.toNat_natCast, show ((R : Int) + 1).toNat - 1 = R by omega]
  have e1 : ¬ (N : Int) < 0 := by omega
  have e2 : ¬ (1024 : Int) < (N : Int) := by omega
  have e3 : ¬ (R : Int) + 1 < 1 := by omega
  have e4 : ¬ (4096 : Int) < (R : Int) + 1 := by omega
  have HR : Hid (RTabs w) := hr
  clear hr
  have HN : Hid (pasL key.data.toList salt.data.toList R N = (pasAll key.data.toList salt.data.toList R ((N + 31) / 32)).take N) := rfl
  go_enter Tryd.func6, Tryd.ntmps6
  go_wp2
  go_loopg [10, 11] ((N + 31) / 32) (fun gk av i wr => ∃ k : Nat, k + gk = (N + 31) / 32 ∧ i = .int .i64 ((k : Int) + 1) ∧ av = .string (str (pasAll key.data.toList salt.data.toList R k)) ∧ Below w.heap.size w wr)
  case atStart => exact ⟨0, by omega, rfl, rfl, Below.refl _ _⟩
  case round =>
    obtain ⟨k, hk', rfl, rfl, hbel⟩ := hrel
    have HK : Hid (k + gk = (N + 31) / 32) := hk'
    have hk'' : k ≤ (N + 31) / 32 := by omega
    clear hk'
    have hsA : (str (pasAll key.data.toList salt.data.toList R k)).size = 32 * k := by rw [str_size, pasAll_length]
    by_cases hlt : k < (N + 31) / 32
    · have hsl : ((str (pasAll key.data.toList salt.data.toList R k)).size : Int) < (N : Int) := by omega
      have hob := four_bytes (k + 1) wr
      rw [show ((k + 1 : Nat) : Int) = (k : Int) + 1 by omega, show ((k : Int) + 1) % 256 = (k : Int) + 1 by omega] at hob
      have d1 : (salt ++ str [0, 0, 0, UInt8.ofNat (k + 1)]).data.toList = salt.data.toList ++ [0, 0, 0, UInt8.ofNat (k + 1)] := by
        rw [ByteArray.data_append, Array.toList_append, str_data]
      have s1 : (str [0, 0, 0, UInt8.ofNat (k + 1)]).size = 4 := by rw [str_size]; rfl
      have a1 : salt.size + (str [0, 0, 0, UInt8.ofNat (k + 1)]).size ≤ 9223372036854775807 := by omega
      have hke := fun W hR h4 => keyed_any key (salt ++ str [0, 0, 0, UInt8.ofNat (k + 1)]) (by omega) (by rw [size_eq, d1, List.length_append, ← size_eq]; simp only [List.length_cons, List.length_nil]; omega) W hR h4
      rw [d1] at hke
      obtain ⟨F0, hF0⟩ : ∃ F0, salt.data.toList ++ [0, 0, 0, UInt8.ofNat (k + 1)] = F0 := ⟨_, rfl⟩
      rw [hF0] at hke
      have HA : Hid (pasAll key.data.toList salt.data.toList R (k + 1) = pasAll key.data.toList salt.data.toList R k ++ pasF key.data.toList F0 R) := by
        show _ = _
        rw [← hF0]
        rfl
      clear hF0
      have HU : Hid (∀ r W, RTabs W → 4 ≤ W.heap.size → Calls Tryd.prog 16 #[.string key, .string (str (pasU key.data.toList F0 r))] W fun e w' => e = .returned (.string (str (pasU key.data.toList F0 (r + 1)))) ∧ Below W.heap.size W w') := fun r W hR h4 => by
        have h := keyed_any key (str (pasU key.data.toList F0 r)) (by omega) (by rw [str_size, pasU_length]; omega) W hR h4
        rw [str_data] at h
        exact h
      have HX : Hid (∀ r W, Calls Tryd.prog 17 #[.string (str (pasF key.data.toList F0 r)), .string (str (pasU key.data.toList F0 (r + 1)))] W fun e w' => e = .returned (.string (str (pasF key.data.toList F0 (r + 1)))) ∧ Below W.heap.size W w') := fun r W => by
        have h := rxored_any (str (pasF key.data.toList F0 r)) (str (pasU key.data.toList F0 (r + 1))) (by rw [str_size, pasF_length]) (by rw [str_size, pasU_length]) W
        rw [str_data, str_data] at h
        exact h
      have HF0 : Hid (str (hmacL key.data.toList F0) = str (pasU key.data.toList F0 0) ∧ str (hmacL key.data.toList F0) = str (pasF key.data.toList F0 0)) := ⟨rfl, rfl⟩
      have zz := hbel.size
      have hke2 := hke (wr.alloc (.cells #[.int .u8 0, .int .u8 0, .int .u8 0, .int .u8 ((k : Int) + 1)] 5)) (HR.out.below (hbel.alloc zz _) h4) (by simp; omega)
      clear d1 s1 hke
      have HCAT : Hid (str (pasAll key.data.toList salt.data.toList R k) ++ str (pasF key.data.toList F0 R) = str (pasAll key.data.toList salt.data.toList R (k + 1))) := by
        show _ = _
        rw [HA.out]
        apply ByteArray.ext
        apply Array.ext'
        rw [ByteArray.data_append, Array.toList_append, str_data, str_data, str_data]
      clear HA
      obtain ⟨yA', hA'⟩ : ∃ y, str (pasAll key.data.toList salt.data.toList R (k + 1)) = y := ⟨_, rfl⟩
      have HA' : Hid (str (pasAll key.data.toList salt.data.toList R (k + 1)) = yA') := hA'
      rw [hA'] at HCAT
      clear hA'
      revert hob a1 hke2 HCAT hsl hsA HF0
      generalize str (pasAll key.data.toList salt.data.toList R k) = yA
      generalize str [0, 0, 0, UInt8.ofNat (k + 1)] = yb
      generalize str (hmacL key.data.toList F0) = yU
      intro hsA hsl hob a1 HF0 hke2 HCAT
      go_wp2_with fail
      refine hke2.mono ?_
      rintro e w2 ⟨rfl, hb2⟩
      have hb' : Below w.heap.size w w2 := (hbel.alloc zz _).trans (hb2.mono (by simp; omega))
      clear hke2 hb2 hob hbel
      have z2 := hb'.size
      go_wp2
      go_loopg [12, 13, 14] R (fun gj u f i wr => ∃ r : Nat, r + gj = R ∧ i = .int .i64 ((r : Int) + 1) ∧ u = .string (str (pasU key.data.toList F0 r)) ∧ f = .string (str (pasF key.data.toList F0 r)) ∧ Below w.heap.size w wr)
      case atStart => exact ⟨0, by omega, rfl, by rw [HF0.out.1], by rw [HF0.out.2], hb'⟩
      case round =>
        clear hb' HF0
        obtain ⟨r, hrr, rfl, rfl, rfl, hbel⟩ := hrel
        have HRR : Hid (r + gk = R) := hrr
        have hr' : r ≤ R := by omega
        clear hrr
        have zz := hbel.size
        by_cases hlt : r < R
        · have hltI : (r : Int) + 1 < (R : Int) + 1 := by omega
          have hu := HU.out r wr (HR.out.below hbel h4) (by omega)
          have hx := HX.out r
          revert hu hx
          obtain ⟨yF', hF'⟩ : ∃ y, str (pasF key.data.toList F0 (r + 1)) = y := ⟨_, rfl⟩
          obtain ⟨yU', hU'⟩ : ∃ y, str (pasU key.data.toList F0 (r + 1)) = y := ⟨_, rfl⟩
          have HF' : Hid (str (pasF key.data.toList F0 (r + 1)) = yF') := hF'
          have HU' : Hid (str (pasU key.data.toList F0 (r + 1)) = yU') := hU'
          rw [hF', hU']
          clear hF' hU'
          generalize str (pasF key.data.toList F0 r) = yF
          generalize str (pasU key.data.toList F0 r) = yU
          intro hu hx
          have w1 : IntKind.i64.wrap ((r : Int) + 1 + 1) = (r : Int) + 1 + 1 := by rw [IntKind.wrap_i64]; omega
          go_wp2_with fail
          refine hu.mono ?_
          rintro e w3 ⟨rfl, hb3'⟩
          have hb3 := hbel.trans (hb3'.mono zz)
          clear hb3' hbel hu
          have z3 := hb3.size
          go_wp2_with fail
          refine (hx w3).mono ?_
          rintro e w4 ⟨rfl, hb4'⟩
          have hb4 := hb3.trans (hb4'.mono z3)
          clear hb4' hb3 hx
          go_wp2
          go_roundg (gk - 1)
          case measure => have := HRR.out; omega
          case rel => exact ⟨r + 1, by have := HRR.out; omega, by go_num, by rw [HU'.out], by rw [HF'.out], hb4⟩
        · obtain rfl : r = R := by omega
          have hltI : ¬ (r : Int) + 1 < (r : Int) + 1 := by omega
          have a3 : yA.size + (str (pasF key.data.toList F0 r)).size ≤ 9223372036854775807 := by rw [hsA, str_size, pasF_length]; omega
          have hcat : yA ++ str (pasF key.data.toList F0 r) = yA' := HCAT.out
          have w1 : IntKind.i64.wrap ((k : Int) + 1 + 1) = (k : Int) + 1 + 1 := by rw [IntKind.wrap_i64]; omega
          clear HCAT HU HX
          revert a3 hcat
          generalize str (pasF key.data.toList F0 r) = yF
          generalize str (pasU key.data.toList F0 r) = yU
          intro a3 hcat
          go_wp2
          go_roundg ((N + 31) / 32 - (k + 1))
          case measure => have := HK.out; omega
          case rel => exact ⟨k + 1, by have := HK.out; omega, by go_num, by rw [HA'.out], hbel⟩
    · have HKE : Hid (k = (N + 31) / 32) := by show _ = _; omega
      have hsl : ¬ ((str (pasAll key.data.toList salt.data.toList R k)).size : Int) < (N : Int) := by omega
      have HR : Hid ((str (pasAll key.data.toList salt.data.toList R k)).extract 0 N = str (pasL key.data.toList salt.data.toList R N)) := by
        show _ = _
        rw [HN.out, ← HKE.out]
        apply ByteArray.ext
        apply Array.ext'
        rw [extract_data, str_data, str_data, List.drop_zero, Nat.sub_zero]
      have hnl : (N : Int) ≤ ((str (pasAll key.data.toList salt.data.toList R k)).size : Int) := by omega
      clear hsA
      revert hsl HR hnl
      generalize str (pasAll key.data.toList salt.data.toList R k) = yA
      intro hsl HR hnl
      go_wp2
      go_ret2
      rw [← HR.out]
      exact ⟨rfl, hbel⟩

theorem rpbkdf_rounds (key salt : ByteArray) (rounds n : Int) (h : rounds < 1 ∨ 4096 < rounds) (w : World) :
    Calls Tryd.prog 6 #[.string key, .string salt, .int .i64 rounds, .int .i64 n] w fun e w' => e = .returned (.tuple #[.string { data := #[] }, .int .i64 30]) ∧ Below w.heap.size w w' := by
  by_cases h1 : rounds < 1
  · go_enter Tryd.func6, Tryd.ntmps6
    go_wp2
    go_ret2
    exact ⟨rfl, Below.refl _ _⟩
  · have h2 : (4096 : Int) < rounds := by omega
    go_enter Tryd.func6, Tryd.ntmps6
    go_wp2
    go_ret2
    exact ⟨rfl, Below.refl _ _⟩

theorem rpbkdf_long (key salt : ByteArray) (rounds n : Int) (r1 : 1 ≤ rounds) (r2 : rounds ≤ 4096) (h : n < 0 ∨ 1024 < n) (w : World) :
    Calls Tryd.prog 6 #[.string key, .string salt, .int .i64 rounds, .int .i64 n] w fun e w' => e = .returned (.tuple #[.string { data := #[] }, .int .i64 31]) ∧ Below w.heap.size w w' := by
  have e3 : ¬ rounds < 1 := by omega
  have e4 : ¬ 4096 < rounds := by omega
  by_cases h1 : n < 0
  · go_enter Tryd.func6, Tryd.ntmps6
    go_wp2
    go_ret2
    exact ⟨rfl, Below.refl _ _⟩
  · have h2 : (1024 : Int) < n := by omega
    go_enter Tryd.func6, Tryd.ntmps6
    go_wp2
    go_ret2
    exact ⟨rfl, Below.refl _ _⟩

end Go.Proofs.YtjjabkimmgcejabDoor
