import Derived.Test.YtjjabkimmgcejabDoorRefE
import Derived.Deep.RegionHeldLaw
namespace Go.Proofs.YtjjabkimmgcejabDoor
open Go.RowKit Go.Lib Go.Deep

theorem make8 (w : World) : (Instr.makeSlice 36 (.int .i64 8) (.int .i64 8)).run Tryd.prog w = .ok (.slice (some ⟨w.heap.size, 0, none⟩) 8 8) (w.alloc (.cells (byteCells (zeros 8)).toArray 5)) := by
  obtain ⟨i0, hi, hz0, hz1, hz2⟩ := info_parts info5
  have h := run_make (P := Tryd.prog) w 36 5 i0 (.int .u8 0) Tryd.underlying36 hi hz0 .i64 .i64 8 8 (by omega) (by omega) (by rw [hz2]; omega) (by omega)
  have e : madeCells #[Value.int .u8 0] 8 = (byteCells (zeros 8)).toArray := by
    have := made_bytes 7
    rw [← this, Array.toArray_toList]
  rw [← e]
  simpa [hz1, Value.cells] using h

/-- the last i bytes of a number, zeros ahead -/
def part8 (n i : Nat) : List UInt8 := zeros (8 - i) ++ (be8 n).drop (8 - i)
theorem part8_set (n i : Nat) (h : i < 8) : (byteCells (part8 n i)).toArray.setIfInBounds (7 - i) (.int .u8 ((UInt8.ofNat (n / 2 ^ (8 * i))).toNat : Int)) = (byteCells (part8 n (i + 1))).toArray := by
  match i, h with
  | 0, _ => rfl
  | 1, _ => rfl
  | 2, _ => rfl
  | 3, _ => rfl
  | 4, _ => rfl
  | 5, _ => rfl
  | 6, _ => rfl
  | 7, _ => rfl
theorem part8_length (n i : Nat) (h : i ≤ 8) : (part8 n i).length = 8 := by
  have : (be8 n).length = 8 := rfl
  simp [part8, zeros]
  omega

set_option maxRecDepth 20000 in
set_option maxHeartbeats 1000000 in
theorem eight_any (n : Nat) (hn : n < 9223372036854775808) (w : World) :
    Calls Tryd.prog 40 #[.int .i64 (n : Int)] w fun e w' => e = .returned (.string (str (be8 n))) ∧ Below w.heap.size w w' := by
  have hmk := make8
  go_enter Tryd.func40, Tryd.ntmps40
  go_wp2
  have h0 : (w.alloc (.cells (byteCells (zeros 8)).toArray 5)).heap[w.heap.size]? = some (.cells (byteCells (part8 n 0)).toArray 5 (0, 0)) := heap_new _ _
  have hb0 : Below w.heap.size w (w.alloc (.cells (byteCells (zeros 8)).toArray 5)) := (Below.refl _ _).alloc (Nat.le_refl _) _
  clear hmk
  go_loopg [0, 4] 8 (fun gk v i wr => ∃ k : Nat, k + gk = 8 ∧ i = .int .i64 k ∧ v = .int .i64 ((n / 2 ^ (8 * k) : Nat) : Int) ∧ wr.heap[w.heap.size]? = some (.cells (byteCells (part8 n k)).toArray 5 (0, 0)) ∧ Below w.heap.size w wr)
  case atStart => exact ⟨0, by omega, rfl, by simp, h0, hb0⟩
  case round =>
    clear h0 hb0
    obtain ⟨k, hk, rfl, rfl, hh, hbel⟩ := hrel
    have HK : Hid (k + gk = 8) := hk
    have hk' : k ≤ 8 := by omega
    clear hk
    by_cases hlt : k < 8
    · have hm : n / 2 ^ (8 * k) < 9223372036854775808 := Nat.lt_of_le_of_lt (Nat.div_le_self _ _) hn
      have HD : Hid (n / 2 ^ (8 * (k + 1)) = n / 2 ^ (8 * k) / 256) := by
        show _ = _
        rw [Nat.div_div_eq_div_mul, show 8 * (k + 1) = 8 * k + 8 by omega, Nat.pow_add]
      have R0 := heap_setCell_same _ _ (7 - k) _ _ (.int .u8 ((UInt8.ofNat (n / 2 ^ (8 * k))).toNat : Int)) hh
      rw [part8_set n k hlt, UInt8.toNat_ofNat'] at R0
      have hb0 : Below w.heap.size w (wr.setCell ⟨w.heap.size, 7 - k, none⟩ (.int .u8 ((n / 2 ^ (8 * k) % 2 ^ 8 : Nat) : Int))) := hbel.setCell (Nat.le_refl _) _
      obtain ⟨x0, c0⟩ : ∃ x0, wr.cell? ⟨w.heap.size, 7 - k, none⟩ = some x0 := by rw [cell_of_heap hh]; exact ⟨_, Array.getElem?_eq_getElem (by rw [List.size_toArray, byteCells_length, part8_length n k hk']; omega)⟩
      have f0 : wr.frozen? ⟨w.heap.size, 7 - k, none⟩ = false := frozen_of_heap hh
      clear hh hbel
      revert hm HD R0 hb0
      generalize n / 2 ^ (8 * k) = m
      intro hm HD R0 hb0
      have em : ((m % 2 ^ 8 : Nat) : Int) = (m : Int) % 256 := by omega
      rw [em] at R0 hb0
      have R : Hid ((wr.setCell ⟨w.heap.size, 7 - k, none⟩ (.int .u8 ((m : Int) % 256))).heap[w.heap.size]? = some (.cells (byteCells (part8 n (k + 1))).toArray 5 (0, 0)) ∧ Below w.heap.size w (wr.setCell ⟨w.heap.size, 7 - k, none⟩ (.int .u8 ((m : Int) % 256)))) := ⟨R0, hb0⟩
      clear R0 hb0 em
      have t1 : IntKind.i64.wrap (7 - (k : Int)) = ((7 - k : Nat) : Int) := by rw [IntKind.wrap_i64]; omega
      have m1 : ((7 - k : Nat) : Int) < 8 := by omega
      have tm : (m : Int).tmod 256 = (m : Int) % 256 := Int.tmod_eq_emod_of_nonneg (by omega)
      have td : (m : Int).tdiv 256 = (m : Int) / 256 := Int.tdiv_eq_ediv_of_nonneg (by omega)
      go_wp2
      go_roundg (gk - 1)
      case measure => have := HK.out; omega
      case rel => exact ⟨k + 1, by have := HK.out; omega, by go_num, by rw [HD.out]; rfl, R.out.1, R.out.2⟩
    · obtain rfl : k = 8 := by omega
      have hcv := run_convert_bytes_back (P := Tryd.prog) wr 36 9 5 ⟨w.heap.size, 0, none⟩ 8 (be8 n) Tryd.underlying36 Tryd.underlying5 Tryd.underlying9 (fun j hj => by
        rw [Addr.add_lit, Nat.zero_add, cell_of_heap hh, List.getElem?_toArray, byteCells, List.getElem?_map, show part8 n 8 = be8 n from rfl, List.getElem?_eq_getElem hj]
        rfl)
      rw [show (be8 n).length = 8 from rfl] at hcv
      have hcv' : (convert 36 9 (.slice (some ⟨w.heap.size, 0, none⟩) 8 8)).run Tryd.prog wr = .ok (.string (str (be8 n))) wr := hcv
      clear hcv hh
      obtain ⟨y, hy⟩ : ∃ y, str (be8 n) = y := ⟨_, rfl⟩
      rw [hy] at hcv'
      have HY : Hid (str (be8 n) = y) := hy
      clear hy
      go_wp2
      go_ret
      rw [HY.out]
      exact ⟨rfl, hbel⟩

theorem zeros_succ (j : Nat) : zeros (j + 1) = zeros j ++ [0] := by
  unfold zeros
  rw [List.replicate_succ']

set_option maxRecDepth 20000 in
set_option maxHeartbeats 1000000 in
theorem tail_any (n : Nat) (hn : n < 576460752303423488) (w : World) :
    Calls Tryd.prog 31 #[.int .i64 (n : Int)] w fun e w' => e = .returned (.string (str (endL n))) ∧ Below w.heap.size w w' := by
  obtain ⟨i0, hi, hz0, hz1, hz2⟩ := info_parts info5
  obtain ⟨z, hz, hz64⟩ : ∃ z, (119 - n % 64) % 64 = z ∧ z < 64 := ⟨_, rfl, by omega⟩
  have HZ : Hid (endL n = ([128] ++ zeros z) ++ be8 (8 * n)) := by show endL n = _; rw [endL, hz]
  have HZZ : Hid ((119 - n % 64) % 64 = z) := hz
  have hown0 : (w.alloc (.cells #[.int .u8 128] 5)).ownsRow w.heap.size 5 1 (.slice (some ⟨w.heap.size, 0, none⟩) 1 1) 1 (byteCells ([128] ++ zeros 0)) :=
    ⟨rfl, .inr ⟨w.heap.size, 1, #[.int .u8 128], rfl, Nat.le_refl _, heap_new _ _, Nat.le_refl _, by unfold maxLen; omega, rfl, rfl⟩⟩
  have hb0 : Below w.heap.size w (w.alloc (.cells #[.int .u8 128] 5)) := (Below.refl _ _).alloc (Nat.le_refl _) _
  clear hz
  go_enter Tryd.func31, Tryd.ntmps31
  go_wp2
  go_loopg [3] z (fun gk v wr => ∃ j : Nat, j + gk = z ∧ wr.ownsRow w.heap.size 5 1 v (1 + j) (byteCells ([128] ++ zeros j)) ∧ Below w.heap.size w wr)
  case atStart => exact ⟨0, by omega, hown0, hb0⟩
  case round =>
    clear hown0 hb0
    obtain ⟨j, hj, hown, hbel⟩ := hrel
    have HK : Hid (j + gk = z) := hj
    have hj' : j ≤ z := by omega
    clear hj
    obtain ⟨g, cap, cur, rfl, hg1, hg2, hg3, hg4, hg5, hg6⟩ : ∃ g cap cur, _ = Value.slice (some ⟨g, 0, none⟩) (1 + j) cap ∧ w.heap.size ≤ g ∧ wr.heap[g]? = some (.cells cur 5 (0, 0)) ∧ 1 + j ≤ cap ∧ cap ≤ maxLen ∧ cur.size = cap * 1 ∧ cur.toList.take ((1 + j) * 1) = byteCells ([128] ++ zeros j) := by
      rcases hown.2 with ⟨_, h0⟩ | h
      · omega
      · exact h
    clear hg1 hg2 hg3 hg4 hg5 hg6
    have w1 : IntKind.i64.wrap ((n : Int) + ((1 + j : Nat) : Int)) = ((n + 1 + j : Nat) : Int) := by rw [IntKind.wrap_i64]; omega
    have w2 : IntKind.i64.wrap ((n : Int) + (1 + (j : Int))) = ((n + 1 + j : Nat) : Int) := by rw [IntKind.wrap_i64]; omega
    have tm : (((n + 1 + j : Nat) : Int)).tmod 64 = (((n + 1 + j) % 64 : Nat) : Int) := tmod_nat _ 64
    by_cases hlt : j < z
    · have hne : (n + 1 + j) % 64 ≠ 56 := by have := HZZ.out; omega
      have hni : (((n : Int) + 1 + (j : Int)) % 64 != 56) = true := by simp; omega
      have HS : Hid (byteCells ([128] ++ zeros (j + 1)) = byteCells ([128] ++ zeros j) ++ [.int .u8 0]) := by
        show _ = _
        rw [zeros_succ, ← List.append_assoc, byteCells_append]
        rfl
      have hone : ∀ u ∈ [Value.int .u8 0], u.oneCell' = true := byteCells_one [0]
      have hml : 1 + j + 1 ≤ maxLen := by unfold maxLen; omega
      go_wp2_with (at_builtin; refine wpList_append_own _ rfl _ _ 36 rfl w.heap.size 5 i0 (.int .u8 0) 1 1 Tryd.underlying36 hi hz0 hz1 hz2 rfl (by decide) _ _ _ rfl (hown.alloc _) ⟨wr.heap.size, 0, none⟩ 1 1 [.int .u8 0] rfl rfl (by intro i u h; exact cells_new wr #[.int .u8 0] 5 i u (by simpa using h)) hone hml (by omega) (by have := hbel.size; simp; omega) ?_; intro v' w' hown' hgrow' _)
      have R : w'.ownsRow w.heap.size 5 1 v' (1 + (j + 1)) (byteCells ([128] ++ zeros (j + 1))) := by rw [HS.out]; exact hown'
      have hb' : Below w.heap.size w w' := by
        have h1 := hbel.alloc hbel.size (.cells #[.int .u8 0] 5)
        exact h1.trans (grown_below hgrow' h1.size (hown.alloc _))
      clear hown' hgrow' hown
      go_wp2
      go_roundg (gk - 1)
      case measure => have := HK.out; omega
      case rel => exact ⟨j + 1, by have := HK.out; omega, R, hb'⟩
    · obtain rfl : j = z := by omega
      have heq : (((n : Int) + 1 + (j : Int)) % 64 != 56) = false := by have := HZZ.out; simp; omega
      have w8 : IntKind.i64.wrap (8 * (n : Int)) = 8 * (n : Int) := by rw [IntKind.wrap_i64]; omega
      have hlen : ([128] ++ zeros j : List UInt8).length = 1 + j := by simp [zeros]; omega
      have KC : Hid (∀ W, Below wr.heap.size wr W → (convert 36 9 (.slice (some ⟨g, 0, none⟩) (1 + j) cap)).run Tryd.prog W = .ok (.string (str ([128] ++ zeros j))) W) := fun W hb => by
        have ho : W.ownsRow w.heap.size 5 1 (.slice (some ⟨g, 0, none⟩) (1 + j) cap) ([128] ++ zeros j : List UInt8).length (byteCells ([128] ++ zeros j)) := by
          rw [hlen]
          obtain ⟨h1, h2⟩ := hown
          refine ⟨h1, ?_⟩
          rcases h2 with ⟨_, h0⟩ | ⟨g', cap', cur', e1, e2, e3, e4⟩
          · omega
          · exact .inr ⟨g', cap', cur', e1, e2, (hb.block _ (heap_lt e3)).trans e3, e4⟩
        exact convert_own (P := Tryd.prog) W 36 9 5 w.heap.size _ _ Tryd.underlying36 Tryd.underlying5 Tryd.underlying9 ho
      have h8 := fun W => eight_any (8 * n) (by omega) W
      rw [show ((8 * n : Nat) : Int) = 8 * (n : Int) by omega] at h8
      have HC : Hid (str ([128] ++ zeros j) ++ str (be8 (8 * n)) = str (endL n)) := by
        show _ = _
        rw [HZ.out]
        apply ByteArray.ext
        apply Array.ext'
        rw [ByteArray.data_append, Array.toList_append, str_data, str_data, str_data]
      have hsz1 : (str ([128] ++ zeros j)).size ≤ 65 := by rw [str_size, hlen]; omega
      have hsz2 : (str (be8 (8 * n))).size = 8 := by rw [str_size]; rfl
      revert KC h8 HC hsz1 hsz2
      generalize str ([128] ++ zeros j) = y1
      generalize str (be8 (8 * n)) = y2
      intro KC h8 HC hsz1 hsz2
      have hadd : y1.size + y2.size ≤ 9223372036854775807 := by omega
      clear hown
      go_wp2_with fail
      go_region_held_law (fun W => (convert 36 9 (.slice (some ⟨g, 0, none⟩) (1 + j) cap)).run Tryd.prog W = .ok (.string y1) W) (first | exact KC.out _ (below_drewN _ 1) | exact KC.out _ (Below.trans (below_drewN _ 1) hb5) | go_keep) (first | (go_at_call 40; refine (h8 _).mono ?_; rintro e w5 ⟨rfl, hb5⟩))
      all_goals
        go_wp2
        go_ret
        rw [HC.out]
        exact ⟨rfl, hbel.trans ((Below.trans (below_drewN wr 1) hb5).mono hbel.size)⟩

end Go.Proofs.YtjjabkimmgcejabDoor
