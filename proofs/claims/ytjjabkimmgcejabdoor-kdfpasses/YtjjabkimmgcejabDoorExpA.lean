import Derived.Test.YtjjabkimmgcejabDoorRef3A
import Derived.Test.YtjjabkimmgcejabDoorExpP
namespace Go.Proofs.YtjjabkimmgcejabDoor
open Go.RowKit Go.Lib

set_option maxRecDepth 20000 in
set_option maxHeartbeats 2000000 in
theorem rexpand_any (key info : ByteArray) (n : Int) (hk : key.size ≤ 140737488351232) (hin : info.size ≤ 140737488351232) (h1 : 0 ≤ n) (h2 : n ≤ 8160) (w : World) (hr : RTabs w) (h4 : 4 ≤ w.heap.size) :
    Calls Tryd.prog 11 #[.string key, .string info, .int .i64 n] w fun e w' => e = .returned (.tuple #[.string (str (expL key.data.toList info.data.toList n.toNat)), .int .i64 0]) ∧ Below w.heap.size w w' := by
  obtain ⟨N, rfl⟩ := Int.eq_ofNat_of_zero_le h1
  rw [Int.toNat_natCast]
  have e1 : ¬ (N : Int) < 0 := by omega
  have e2 : ¬ (8160 : Int) < (N : Int) := by omega
  have HN : Hid (expL key.data.toList info.data.toList N = (expAll key.data.toList info.data.toList ((N + 31) / 32)).take N) := rfl
  go_enter Tryd.func11, Tryd.ntmps11
  go_wp2
  go_loopg [8, 9, 10] ((N + 31) / 32) (fun gk av lv i wr => ∃ k : Nat, k + gk = (N + 31) / 32 ∧ i = .int .i64 ((k : Int) + 1) ∧ av = .string (str (expAll key.data.toList info.data.toList k)) ∧ lv = .string (str (expLast key.data.toList info.data.toList k)) ∧ Below w.heap.size w wr)
  case atStart => exact ⟨0, by omega, rfl, rfl, rfl, Below.refl _ _⟩
  case round =>
    obtain ⟨k, hk', rfl, rfl, rfl, hbel⟩ := hrel
    have HK : Hid (k + gk = (N + 31) / 32) := hk'
    have hk'' : k ≤ (N + 31) / 32 := by omega
    clear hk'
    have hsA : (str (expAll key.data.toList info.data.toList k)).size = 32 * k := by rw [str_size, expAll_length]
    by_cases hlt : k < (N + 31) / 32
    · have hsl : ((str (expAll key.data.toList info.data.toList k)).size : Int) < (N : Int) := by omega
      have hlast := expLast_le key.data.toList info.data.toList k
      have hob := one_byte (k + 1) wr
      rw [show ((k + 1 : Nat) : Int) = (k : Int) + 1 by omega, show ((k : Int) + 1) % 256 = (k : Int) + 1 by omega] at hob
      have d1 : (str (expLast key.data.toList info.data.toList k) ++ info ++ str [UInt8.ofNat (k + 1)]).data.toList = expLast key.data.toList info.data.toList k ++ (info.data.toList ++ [UInt8.ofNat (k + 1)]) := by
        rw [ByteArray.data_append, Array.toList_append, ByteArray.data_append, Array.toList_append, str_data, str_data, List.append_assoc]
      have a1 : (str (expLast key.data.toList info.data.toList k)).size + info.size ≤ 9223372036854775807 := by rw [str_size]; omega
      have d0 : (str (expLast key.data.toList info.data.toList k) ++ info).size = (expLast key.data.toList info.data.toList k).length + info.size := by rw [size_eq, ByteArray.data_append, Array.toList_append, str_data, List.length_append, ← size_eq]
      have s1 : (str [UInt8.ofNat (k + 1)]).size = 1 := by rw [str_size]; rfl
      have a2 : (str (expLast key.data.toList info.data.toList k) ++ info).size + (str [UInt8.ofNat (k + 1)]).size ≤ 9223372036854775807 := by omega
      have hke := fun W hR h4 => keyed_any key (str (expLast key.data.toList info.data.toList k) ++ info ++ str [UInt8.ofNat (k + 1)]) (by omega) (by rw [size_eq, d1]; simp only [List.length_append, List.length_cons, List.length_nil]; rw [← size_eq]; omega) W hR h4
      rw [d1] at hke
      have HL1 : Hid (expLast key.data.toList info.data.toList (k + 1) = hmacL key.data.toList (expLast key.data.toList info.data.toList k ++ (info.data.toList ++ [UInt8.ofNat (k + 1)]))) := rfl
      rw [← HL1.out] at hke
      have hcat : str (expAll key.data.toList info.data.toList k) ++ str (expLast key.data.toList info.data.toList (k + 1)) = str (expAll key.data.toList info.data.toList (k + 1)) := by
        apply ByteArray.ext
        apply Array.ext'
        rw [ByteArray.data_append, Array.toList_append, str_data, str_data, str_data]
        rfl
      have hsz' := expLast_le key.data.toList info.data.toList (k + 1)
      have a3 : (str (expAll key.data.toList info.data.toList k)).size + (str (expLast key.data.toList info.data.toList (k + 1))).size ≤ 9223372036854775807 := by rw [hsA, str_size]; omega
      clear d1 d0 s1 hlast hsz' HL1
      obtain ⟨yA', hA'⟩ : ∃ y, str (expAll key.data.toList info.data.toList (k + 1)) = y := ⟨_, rfl⟩
      obtain ⟨yL', hL'⟩ : ∃ y, str (expLast key.data.toList info.data.toList (k + 1)) = y := ⟨_, rfl⟩
      have HA' : Hid (str (expAll key.data.toList info.data.toList (k + 1)) = yA') := hA'
      have HL' : Hid (str (expLast key.data.toList info.data.toList (k + 1)) = yL') := hL'
      rw [hA', hL'] at hcat
      rw [hL'] at hke a3
      clear hA' hL'
      revert hob a1 a2 hke hcat a3 hsl hsA
      generalize str (expAll key.data.toList info.data.toList k) = yA
      generalize str (expLast key.data.toList info.data.toList k) = yL
      generalize str [UInt8.ofNat (k + 1)] = yb
      intro hsA hsl hob a1 a2 hcat hke a3
      have w1 : IntKind.i64.wrap ((k : Int) + 1 + 1) = (k : Int) + 1 + 1 := by rw [IntKind.wrap_i64]; omega
      have zz := hbel.size
      have hke2 := hke (wr.alloc (.cells #[.int .u8 ((k : Int) + 1)] 5)) (hr.below (hbel.alloc zz _) h4) (by simp; omega)
      go_wp2_with (go_at_call 16; refine hke2.mono ?_; rintro e w2 ⟨rfl, hb2⟩)
      have hb' : Below w.heap.size w w2 := (hbel.alloc zz _).trans (hb2.mono (by simp; omega))
      clear hke hke2 hb2 hob
      go_roundg (gk - 1)
      case measure => have := HK.out; omega
      case rel => exact ⟨k + 1, by have := HK.out; omega, by go_num, by rw [HA'.out], by rw [HL'.out], hb'⟩
    · have HKE : Hid (k = (N + 31) / 32) := by show _ = _; omega
      have hsl : ¬ ((str (expAll key.data.toList info.data.toList k)).size : Int) < (N : Int) := by omega
      have HR : Hid ((str (expAll key.data.toList info.data.toList k)).extract 0 N = str (expL key.data.toList info.data.toList N)) := by
        show _ = _
        rw [HN.out, ← HKE.out]
        apply ByteArray.ext
        apply Array.ext'
        rw [extract_data, str_data, str_data, List.drop_zero, Nat.sub_zero]
      have hnl : (N : Int) ≤ ((str (expAll key.data.toList info.data.toList k)).size : Int) := by omega
      clear hsA
      revert hsl HR hnl
      generalize str (expAll key.data.toList info.data.toList k) = yA
      intro hsl HR hnl
      go_wp2
      go_ret2
      rw [← HR.out]
      exact ⟨rfl, hbel⟩

theorem rexpand_bad (key info : ByteArray) (n : Int) (h : n < 0 ∨ 8160 < n) (w : World) :
    Calls Tryd.prog 11 #[.string key, .string info, .int .i64 n] w fun e w' => e = .returned (.tuple #[.string { data := #[] }, .int .i64 31]) ∧ Below w.heap.size w w' := by
  by_cases h1 : n < 0
  · go_enter Tryd.func11, Tryd.ntmps11
    go_wp2
    go_ret2
    exact ⟨rfl, Below.refl _ _⟩
  · have h2 : (8160 : Int) < n := by omega
    go_enter Tryd.func11, Tryd.ntmps11
    go_wp2
    go_ret2
    exact ⟨rfl, Below.refl _ _⟩
end Go.Proofs.YtjjabkimmgcejabDoor
