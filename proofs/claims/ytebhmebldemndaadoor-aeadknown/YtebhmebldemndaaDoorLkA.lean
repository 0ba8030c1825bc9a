import Derived.Test.YtebhmebldemndaaDoorAeB
import Derived.Test.YtebhmebldemndaaDoorRf6S
import Derived.Test.YtebhmebldemndaaDoorPolM
import Derived.Test.YtebhmebldemndaaDoorBaseM
namespace Go.Proofs.YtebhmebldemndaaDoor.Ae
open Go.RowKit Go.Lib Go.Deep
open Pol (Nb ns nsL)

/-- the zeros behind a text -/
theorem filling_any (s : ByteArray) (hs : s.size ≤ 9223372036854775807) (w : World) :
    Calls Tryd.prog 46 #[.string s] w fun e w' => e = .returned (.string (str (fillZ s.size))) ∧ w = w' := by
  obtain ⟨m, hm⟩ : ∃ m : Nat, s.size % 16 = m := ⟨_, rfl⟩
  have htm : (s.size : Int).tmod 16 = (m : Int) := by rw [Int.tmod_eq_emod_of_nonneg (by omega)]; omega
  have hwm : IntKind.i64.wrap (m : Int) = (m : Int) := by rw [IntKind.wrap_i64]; omega
  have hws : IntKind.i64.wrap (16 - (m : Int)) = 16 - (m : Int) := by rw [IntKind.wrap_i64]; omega
  obtain ⟨f, hf⟩ : ∃ f : Nat, fillN s.size = f := ⟨_, rfl⟩
  have hf' : (16 - m) % 16 = f := by rw [← hf, fillN, hm]
  have htf : (16 - (m : Int)).tmod 16 = (f : Int) := by rw [Int.tmod_eq_emod_of_nonneg (by omega)]; omega
  have hwf : IntKind.i64.wrap (f : Int) = (f : Int) := by rw [IntKind.wrap_i64]; omega
  have hsl : ∀ W, (Instr.slice 9 (.string { data := #[0, 0, 0, 0, 0, 0, 0, 0, 0, 0, 0, 0, 0, 0, 0, 0] }) none (some (.int .i64 (f : Int))) none).run Tryd.prog W = .ok (.string (str (fillZ s.size))) W := fun W => by
    have h := slice_take (P := Tryd.prog) W 9 Tryd.underlying9 (List.replicate 16 0) f (by rw [List.length_replicate]; omega)
    rw [List.take_replicate, show min f 16 = f by omega] at h
    rw [fillZ, hf]
    exact h
  clear hm hf hf'
  go_enter Tryd.func46, Tryd.ntmps46
  go_wp2
  go_ret
  exact ⟨rfl, rfl⟩

/-- a length's bytes so far -/
def lenC (n k : Nat) : List Nat := (List.range 8).map fun j => if j < k then n / 256 ^ j % 256 else 0
theorem lenC_length (n k : Nat) : (lenC n k).length = 8 := by simp [lenC]
theorem lenC_at (n k j : Nat) (hj : j < 8) : (lenC n k).getD j 0 = if j < k then n / 256 ^ j % 256 else 0 := by
  simp [lenC, List.getD_eq_getElem?_getD, hj]
theorem lenC_set (n k : Nat) : (lenC n k).set k (n / 256 ^ k % 256) = lenC n (k + 1) := by
  apply List.ext_getElem (by simp [lenC])
  intro j h1 h2
  rw [List.getElem_set]
  simp only [lenC, List.getElem_map, List.getElem_range]
  split
  · next h => subst h; simp
  · next h => 
    by_cases hj : j < k
    · rw [if_pos hj, if_pos (by omega)]
    · rw [if_neg hj, if_neg (by omega)]
theorem le8_at (n j : Nat) (hj : j < 8) : ((le8 n)[j]'(by rw [le8, leN_length]; exact hj)).toNat = n / 256 ^ j % 256 := by
  have h : j = 0 ∨ j = 1 ∨ j = 2 ∨ j = 3 ∨ j = 4 ∨ j = 5 ∨ j = 6 ∨ j = 7 := by omega
  rcases h with rfl | rfl | rfl | rfl | rfl | rfl | rfl | rfl <;> rfl

theorem shr8 (u m : Nat) : (u : Int) / 2 ^ (8 * m) = ((u / 256 ^ m : Nat) : Int) := by
  rw [Int.natCast_ediv, Int.natCast_pow, Int.pow_mul]
  rfl

set_option maxRecDepth 20000 in
theorem lengthOf_any (s : ByteArray) (hs : s.size ≤ 4611686018427387904) (w : World) :
    Calls Tryd.prog 47 #[.string s] w fun e w' => e = .returned (.string (str (le8 s.size))) ∧ Below w.heap.size w w' := by
  obtain ⟨n, hn⟩ : ∃ n, s.size = n := ⟨_, rfl⟩
  rw [hn] at hs ⊢
  have hzero : ns .u8 (lenC n 0) = #[.int .u8 0, .int .u8 0, .int .u8 0, .int .u8 0, .int .u8 0, .int .u8 0, .int .u8 0, .int .u8 0] := rfl
  have HS0 : Hid (Nb .u8 97 (w.alloc (.cells (ns .u8 (lenC n 0)) 97)) w.heap.size (lenC n 0) ∧ Below w.heap.size w (w.alloc (.cells (ns .u8 (lenC n 0)) 97))) := ⟨Nb.new _ _ _ _, (Below.refl _ _).alloc (Nat.le_refl _) _⟩
  rw [hzero] at HS0
  clear hzero
  go_enter Tryd.func47, Tryd.ntmps47
  go_wp2
  go_loopg [5] 8 (fun gk i wr => ∃ k : Nat, k + gk = 8 ∧ i = .int .i64 (k : Int) ∧ Nb .u8 97 wr w.heap.size (lenC n k) ∧ Below w.heap.size w wr)
  case atStart => exact ⟨0, by omega, rfl, HS0.out⟩
  case round =>
    clear HS0
    obtain ⟨k, hk, rfl, hN, hbel⟩ := hrel
    have HK : Hid (k + gk = 8) := hk
    have hk' : k ≤ 8 := by omega
    clear hk
    by_cases hlt : k < 8
    · have hltI : (k : Int) < 8 := by omega
      have c0 := hN.cell k (by rw [lenC_length]; exact hlt)
      have f0 := hN.frozen k
      have hset := lenC_set n k
      have HR : Hid (Nb .u8 97 (wr.setCell ⟨w.heap.size, k, none⟩ (.int .u8 ((n / 256 ^ k % 256 : Nat) : Int))) w.heap.size (lenC n (k + 1)) ∧ Below w.heap.size w (wr.setCell ⟨w.heap.size, k, none⟩ (.int .u8 ((n / 256 ^ k % 256 : Nat) : Int)))) := by
        rw [← hset]
        exact ⟨hN.put k _, hbel.setCell (Nat.le_refl _) _⟩
      have hshr := shr8 n k
      have hql : n / 256 ^ k ≤ 4611686018427387904 := Nat.le_trans (Nat.div_le_self _ _) hs
      clear hset hN hbel
      generalize (lenC n k).getD k 0 = z at c0
      revert HR hshr hql
      generalize n / 256 ^ k = q
      intro HR hshr hql
      have hw8 : IntKind.i64.wrap (8 * (k : Int)) = 8 * (k : Int) := by rw [IntKind.wrap_i64]; omega
      have hwq : IntKind.i64.wrap (q : Int) = (q : Int) := by rw [IntKind.wrap_i64]; omega
      have hcv : (q : Int) % 256 = ((q % 256 : Nat) : Int) := by omega
      have hcw : IntKind.u8.wrap (q : Int) = ((q % 256 : Nat) : Int) := by rw [IntKind.wrap_u8]; omega
      generalize q % 256 = r at *
      go_wp2
      go_roundg (gk - 1)
      case measure => have := HK.out; omega
      case rel => exact ⟨k + 1, by have := HK.out; omega, by go_num, HR.out⟩
    · obtain rfl : k = 8 := by omega
      have hcv := run_convert_bytes_back (P := Tryd.prog) wr 40 9 5 ⟨w.heap.size, 0, none⟩ 8 (le8 n) Tryd.underlying40 Tryd.underlying5 Tryd.underlying9 (fun j hj => by
        have hj8 : j < 8 := by rw [le8, leN_length] at hj; exact hj
        rw [Addr.add_lit, Nat.zero_add, hN.cell j (by rw [lenC_length]; omega), lenC_at _ _ _ hj8, if_pos hj8, le8_at n j hj8])
      rw [show (le8 n).length = 8 from leN_length n 8] at hcv
      clear hN
      go_wp2
      go_ret
      exact ⟨rfl, hbel⟩

end Go.Proofs.YtebhmebldemndaaDoor.Ae
