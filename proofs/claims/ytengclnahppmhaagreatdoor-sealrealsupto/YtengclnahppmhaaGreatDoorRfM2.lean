import Derived.Test.YtengclnahppmhaaGreatDoorRfM1
import Derived.Test.YtengclnahppmhaaGreatDoorShM2
import Derived.Deep.RegionHeldLaw
import Derived.Lib.AppendStr
namespace Go.Proofs.YtengclnahppmhaaGreatDoor
open Go.RowKit Go.Lib Go.Deep

theorem rblock_any (s : W8) (hs : s.OK) (y : ByteArray) (at_ : Nat) (h : at_ + 64 ≤ y.size) (hy : y.size ≤ 9223372036854775807) (w : World) (hr : RTabs w) (h4 : 8 ≤ w.heap.size) :
    Calls Tryz.prog 132 #[.agg (i64s s.list), .string y, .int .i64 (at_ : Int)] w fun e w' => e = .returned (.agg (i64s (mix s ((y.data.toList.drop at_).take 64)).list)) ∧ Below w.heap.size w w' :=
  rblock_core s hs y at_ (sched ((y.data.toList.drop at_).take 64)) (sched_length _) (sched_lt _) (fun W hR h4 => schedule_any y at_ h hy W hR h4 _ rfl) w hr h4

theorem eatN_rest : ∀ (k : Nat) (s : W8) (l : List UInt8), (eatN k s l).2 = l.drop (64 * k)
  | 0, _, l => by simp [eatN]
  | k + 1, s, l => by rw [eatN, eatN_rest k, List.drop_drop]; congr 1; omega
theorem eatN_succ (k : Nat) (s : W8) (l : List UInt8) : (eatN (k + 1) s l).1 = mix (eatN k s l).1 ((l.drop (64 * k)).take 64) := by
  rw [eatN_add k 1, eatN_rest]
  rfl

/-- the two blocks of 'blocks' -/
structure Rk (w wr : World) (st : W8) : Prop where
  own : wr.heap[w.heap.size]? = some (.cells (i64s st.list) 161 (0, 0))
  res : ∃ z : Array Value, z.size = 8 ∧ wr.heap[w.heap.size + 1]? = some (.cells z 161 (0, 0))
  bel : Below w.heap.size w wr
theorem Rk.start (w : World) (st : W8) (z : Array Value) (hz : z.size = 8) : Rk w ((w.alloc (.cells (i64s st.list) 161)).alloc (.cells z 161)) st := by
  refine ⟨?_, ⟨z, hz, ?_⟩, ((Below.refl _ _).alloc (Nat.le_refl _) _).alloc (by simp) _⟩
  · rw [Below.heap_alloc _ _ _ (by simp)]
    exact heap_new _ _
  · have h := heap_new (w.alloc (.cells (i64s st.list) 161)) (.cells z 161)
    simpa using h
theorem Rk.under {w wr w' : World} {st : W8} (h : Rk w wr st) (hb : Below wr.heap.size wr w') : Rk w w' st := by
  obtain ⟨z, hz, hr⟩ := h.res
  exact ⟨(hb.block _ (heap_lt h.own)).trans h.own, ⟨z, hz, (hb.block _ (heap_lt hr)).trans hr⟩, h.bel.trans (hb.mono h.bel.size)⟩
theorem e8 (st : W8) : (i64s st.list).size = 8 := by rw [i64s_size]; rfl
theorem Rk.put {w wr : World} {st : W8} (h : Rk w wr st) (st' : W8) : Rk w (wr.setCells w.heap.size 0 (i64s st'.list).toList) st' := by
  obtain ⟨z, hz, hr⟩ := h.res
  have h1 := heap_setCells w.heap.size 161 (i64s st'.list).toList 0 _ _ h.own
  rw [setMany_all (i64s st.list) (i64s st'.list).toList (by rw [Array.length_toList, e8, e8]), Array.toArray_toList] at h1
  exact ⟨h1, ⟨z, hz, (heap_setCells_other _ _ (by omega) _ _ _).trans hr⟩, Below.setCells h.bel (Nat.le_refl _) _ _⟩

theorem esize (st : W8) : (Tryz.prog.info? 161).map (·.size) = some (i64s st.list).size := by
  rw [i64s_size]
  exact isize8
theorem eone (st : W8) : (i64s st.list).all (·.oneCell') = true := all_oneCell_toArray (i64L_one _)

set_option maxRecDepth 20000 in
set_option maxHeartbeats 2000000 in
theorem rblocks_any (s : W8) (hs : s.OK) (y : ByteArray) (hy : y.size ≤ 4611686018427387904) (w : World) (hr : RTabs w) (h4 : 8 ≤ w.heap.size) :
    Calls Tryz.prog 114 #[.agg (i64s s.list), .string y] w fun e w' => e = .returned (.agg (i64s (eat s y.data.toList).1.list)) ∧ Below w.heap.size w w' := by
  have hl : y.data.toList.length = y.size := (size_eq y).symm
  go_enter Tryz.func114, Tryz.ntmps114
  go_wp2
  go_loopg [5] (y.size / 64) (fun gk i wr => ∃ k : Nat, k + gk = y.size / 64 ∧ i = .int .i64 (64 * (k : Int)) ∧ Rk w wr (eatN k s y.data.toList).1)
  case atStart => exact ⟨0, by omega, rfl, Rk.start w s _ rfl⟩
  case round =>
    obtain ⟨k, hk, rfl, HK'⟩ := hrel
    have HK : Hid (k + gk = y.size / 64) := hk
    have hk' : k ≤ y.size / 64 := by omega
    clear hk
    have hok := eatN_OK k s y.data.toList hs
    have HN := eatN_succ k s y.data.toList
    have HE : Hid (k = y.size / 64 → (eat s y.data.toList).1 = (eatN k s y.data.toList).1) := fun h => by unfold eat; rw [hl, h]
    revert hok HN HE HK'
    generalize (eatN k s y.data.toList).1 = st
    intro HR hok HN HE
    have HN : Hid ((eatN (k + 1) s y.data.toList).1 = mix st ((y.data.toList.drop (64 * k)).take 64)) := HN
    have a1 : IntKind.i64.wrap (64 * (k : Int) + 64) = 64 * (k : Int) + 64 := by rw [IntKind.wrap_i64]; omega
    by_cases hlt : k < y.size / 64
    · have hle : 64 * (k : Int) + 64 ≤ (y.size : Int) := by omega
      have hbl := rblock_any st hok y (64 * k) (by omega) (by omega)
      rw [show ((64 * k : Nat) : Int) = 64 * (k : Int) by omega] at hbl
      revert hbl HN
      generalize mix st ((y.data.toList.drop (64 * k)).take 64) = st'
      intro HN hbl
      have hown := HR.own
      have hbel := HR.bel
      have zz := hbel.size
      have hst := esize st
      have hst' := esize st'
      have hone := eone st'
      have HP : Hid (∀ W, Below wr.heap.size wr W → W.there w.heap.size 0 (i64s st'.list).size ∧ Rk w (W.setCells w.heap.size 0 (i64s st'.list).toList) st') := fun W hb1 => ⟨there_of_heap (HR.under hb1).own (by rw [e8, e8]; decide), (HR.under hb1).put st'⟩
      have hbl' := hbl wr (hr.below hbel h4) (by omega)
      clear HR hbl hbel
      obtain ⟨C', hC'⟩ : ∃ C', i64s st'.list = C' := ⟨_, rfl⟩
      rw [hC'] at hbl' hst' hone HP
      clear hC'
      go_wp2_with (first | (refine wpList_load_row rfl 161 (.tmp 2) rfl w.heap.size rfl 161 _ (0, 0) _ hown Tryz.underlying161 rfl hst ?_) | (go_at_call 132; refine hbl'.mono ?_; rintro e w1 ⟨rfl, hb1⟩; have hth := (HP.out w1 hb1).1) | (refine wpList_store_mid rfl 161 (.tmp 2) (.tmp 16) rfl w.heap.size 0 C' rfl rfl hth hst' hone ?_))
      have R := (HP.out w1 hb1).2
      go_roundg (gk - 1)
      case measure => have := HK.out; omega
      case rel => exact ⟨k + 1, by have := HK.out; omega, by go_num, by rw [HN.out]; exact R⟩
    · have hle : ¬ 64 * (k : Int) + 64 ≤ (y.size : Int) := by omega
      have HQ : Hid ((eat s y.data.toList).1 = st) := HE.out (by omega)
      have hown := HR.own
      obtain ⟨z, hz, hres⟩ := HR.res
      have hbel := HR.bel
      have hst := esize st
      have hone := eone st
      have hth : wr.there (w.heap.size + 1) 0 (i64s st.list).size := there_of_heap hres (by rw [e8, hz]; decide)
      have hr2 := heap_setCells (w.heap.size + 1) 161 (i64s st.list).toList 0 _ _ hres
      rw [setMany_all _ _ (by rw [hz, Array.length_toList, e8]), Array.toArray_toList] at hr2
      have HR2 : Hid ((wr.setCells (w.heap.size + 1) 0 (i64s st.list).toList).heap[w.heap.size + 1]? = some (.cells (i64s st.list) 161 (0, 0))) := hr2
      clear HR hr2 hres HN HE
      go_wp2_with (first | (refine wpList_load_row rfl 161 (.tmp 2) rfl w.heap.size rfl 161 _ (0, 0) _ hown Tryz.underlying161 rfl hst ?_) | (refine wpList_store_mid rfl 161 (.tmp 4) (.tmp 17) rfl (w.heap.size + 1) 0 _ rfl rfl hth hst hone ?_))
      refine bodyPost_ret (results_cell_row rfl _ _ (w.heap.size + 1) 161 _ (0, 0) _ rfl HR2.out Tryz.underlying161 rfl hst) rfl ?_
      rw [HQ.out]
      exact ⟨rfl, Below.setCells hbel (by omega) _ _⟩

set_option maxRecDepth 20000 in
set_option maxHeartbeats 1000000 in
theorem rfirst_any (w : World) : Calls Tryz.prog 115 #[] w fun e w' => e = .returned (.agg (i64s first.list)) ∧ Below w.heap.size w w' := by
  have hth : ∀ z : Array Value, z.size = 8 → (w.alloc (.cells z 161)).there w.heap.size 0 (i64s first.list).size := fun z hz => there_of_heap (heap_new _ _) (by rw [e8, hz]; decide)
  have hone := eone first
  have hst := esize first
  have hr2 : ∀ z : Array Value, z.size = 8 → ((w.alloc (.cells z 161)).setCells w.heap.size 0 (i64s first.list).toList).heap[w.heap.size]? = some (.cells (i64s first.list) 161 (0, 0)) := fun z hz => by
    have h := heap_setCells w.heap.size 161 (i64s first.list).toList 0 z _ (heap_new w (.cells z 161))
    rw [setMany_all _ _ (by rw [hz, Array.length_toList, e8]), Array.toArray_toList] at h
    exact h
  go_enter Tryz.func115, Tryz.ntmps115
  go_wp2_with (refine wpList_store_mid rfl 161 (.tmp 0) (.tmp 2) rfl w.heap.size 0 (i64s first.list) rfl rfl (hth _ rfl) hst hone ?_)
  refine bodyPost_ret (results_cell_row rfl _ _ w.heap.size 161 _ (0, 0) _ rfl (hr2 _ rfl) Tryz.underlying161 rfl hst) rfl ?_
  exact ⟨rfl, Below.setCells ((Below.refl _ _).alloc (Nat.le_refl _) _) (Nat.le_refl _) _ _⟩

end Go.Proofs.YtengclnahppmhaaGreatDoor

namespace Go.Proofs.YtengclnahppmhaaGreatDoor
open Go.RowKit Go.Lib Go.Deep

theorem make8 (w : World) : (Instr.makeSlice 96 (.int .i64 8) (.int .i64 8)).run Tryz.prog w = .ok (.slice (some ⟨w.heap.size, 0, none⟩) 8 8) (w.alloc (.cells (byteCells (zeros 8)).toArray 5)) := by
  obtain ⟨i0, hi, hz0, hz1, hz2⟩ := info_parts info5
  have h := run_make (P := Tryz.prog) w 96 5 i0 (.int .u8 0) Tryz.underlying96 hi hz0 .i64 .i64 8 8 (by omega) (by omega) (by rw [hz2]; omega) (by omega)
  have e : madeCells #[Value.int .u8 0] 8 = (byteCells (zeros 8)).toArray := by
    have := made_bytes 7
    rw [← this, Array.toArray_toList]
  rw [← e]
  simpa [hz1, Value.cells] using h

/-- the last i bytes of a number, zeros ahead -/
def part8 (n i : Nat) : List UInt8 := zeros (8 - i) ++ (be8 n).drop (8 - i)
theorem part8_set (n i : Nat) (h : i < 8) : (byteCells (part8 n i)).toArray.setIfInBounds (7 - i) (.int .u8 ((UInt8.ofNat (n / 2 ^ (8 * i))).toNat : Int)) = (byteCells (part8 n (i + 1))).toArray := by
  match i, h with
  | 0, _ => rfl
  | 1, _ => rfl
  | 2, _ => rfl
  | 3, _ => rfl
  | 4, _ => rfl
  | 5, _ => rfl
  | 6, _ => rfl
  | 7, _ => rfl
theorem part8_length (n i : Nat) (h : i ≤ 8) : (part8 n i).length = 8 := by
  have : (be8 n).length = 8 := rfl
  simp [part8, zeros]
  omega

set_option maxRecDepth 20000 in
set_option maxHeartbeats 1000000 in
theorem eight_any (n : Nat) (hn : n < 9223372036854775808) (w : World) :
    Calls Tryz.prog 133 #[.int .i64 (n : Int)] w fun e w' => e = .returned (.string (str (be8 n))) ∧ Below w.heap.size w w' := by
  have hmk := make8
  go_enter Tryz.func133, Tryz.ntmps133
  go_wp2
  have h0 : (w.alloc (.cells (byteCells (zeros 8)).toArray 5)).heap[w.heap.size]? = some (.cells (byteCells (part8 n 0)).toArray 5 (0, 0)) := heap_new _ _
  have hb0 : Below w.heap.size w (w.alloc (.cells (byteCells (zeros 8)).toArray 5)) := (Below.refl _ _).alloc (Nat.le_refl _) _
  clear hmk
  go_loopg [0, 4] 8 (fun gk v i wr => ∃ k : Nat, k + gk = 8 ∧ i = .int .i64 k ∧ v = .int .i64 ((n / 2 ^ (8 * k) : Nat) : Int) ∧ wr.heap[w.heap.size]? = some (.cells (byteCells (part8 n k)).toArray 5 (0, 0)) ∧ Below w.heap.size w wr)
  case atStart => exact ⟨0, by omega, rfl, by simp, h0, hb0⟩
  case round =>
    clear h0 hb0
    obtain ⟨k, hk, rfl, rfl, hh, hbel⟩ := hrel
    have HK : Hid (k + gk = 8) := hk
    have hk' : k ≤ 8 := by omega
    clear hk
    by_cases hlt : k < 8
    · have hm : n / 2 ^ (8 * k) < 9223372036854775808 := Nat.lt_of_le_of_lt (Nat.div_le_self _ _) hn
      have HD : Hid (n / 2 ^ (8 * (k + 1)) = n / 2 ^ (8 * k) / 256) := by
        show _ = _
        rw [Nat.div_div_eq_div_mul, show 8 * (k + 1) = 8 * k + 8 by omega, Nat.pow_add]
      have R0 := heap_setCell_same _ _ (7 - k) _ _ (.int .u8 ((UInt8.ofNat (n / 2 ^ (8 * k))).toNat : Int)) hh
      rw [part8_set n k hlt, UInt8.toNat_ofNat'] at R0
      have hb0 : Below w.heap.size w (wr.setCell ⟨w.heap.size, 7 - k, none⟩ (.int .u8 ((n / 2 ^ (8 * k) % 2 ^ 8 : Nat) : Int))) := hbel.setCell (Nat.le_refl _) _
      obtain ⟨x0, c0⟩ : ∃ x0, wr.cell? ⟨w.heap.size, 7 - k, none⟩ = some x0 := by rw [cell_of_heap hh]; exact ⟨_, Array.getElem?_eq_getElem (by rw [List.size_toArray, byteCells_length, part8_length n k hk']; omega)⟩
      have f0 : wr.frozen? ⟨w.heap.size, 7 - k, none⟩ = false := frozen_of_heap hh
      clear hh hbel
      revert hm HD R0 hb0
      generalize n / 2 ^ (8 * k) = m
      intro hm HD R0 hb0
      have em : ((m % 2 ^ 8 : Nat) : Int) = (m : Int) % 256 := by omega
      rw [em] at R0 hb0
      have R : Hid ((wr.setCell ⟨w.heap.size, 7 - k, none⟩ (.int .u8 ((m : Int) % 256))).heap[w.heap.size]? = some (.cells (byteCells (part8 n (k + 1))).toArray 5 (0, 0)) ∧ Below w.heap.size w (wr.setCell ⟨w.heap.size, 7 - k, none⟩ (.int .u8 ((m : Int) % 256)))) := ⟨R0, hb0⟩
      clear R0 hb0 em
      have t1 : IntKind.i64.wrap (7 - (k : Int)) = ((7 - k : Nat) : Int) := by rw [IntKind.wrap_i64]; omega
      have m1 : ((7 - k : Nat) : Int) < 8 := by omega
      have tm : (m : Int).tmod 256 = (m : Int) % 256 := Int.tmod_eq_emod_of_nonneg (by omega)
      have td : (m : Int).tdiv 256 = (m : Int) / 256 := Int.tdiv_eq_ediv_of_nonneg (by omega)
      go_wp2
      go_roundg (gk - 1)
      case measure => have := HK.out; omega
      case rel => exact ⟨k + 1, by have := HK.out; omega, by go_num, by rw [HD.out]; rfl, R.out.1, R.out.2⟩
    · obtain rfl : k = 8 := by omega
      have hcv := run_convert_bytes_back (P := Tryz.prog) wr 96 9 5 ⟨w.heap.size, 0, none⟩ 8 (be8 n) Tryz.underlying96 Tryz.underlying5 Tryz.underlying9 (fun j hj => by
        rw [Addr.add_lit, Nat.zero_add, cell_of_heap hh, List.getElem?_toArray, byteCells, List.getElem?_map, show part8 n 8 = be8 n from rfl, List.getElem?_eq_getElem hj]
        rfl)
      rw [show (be8 n).length = 8 from rfl] at hcv
      have hcv' : (convert 96 9 (.slice (some ⟨w.heap.size, 0, none⟩) 8 8)).run Tryz.prog wr = .ok (.string (str (be8 n))) wr := hcv
      clear hcv hh
      obtain ⟨y, hy⟩ : ∃ y, str (be8 n) = y := ⟨_, rfl⟩
      rw [hy] at hcv'
      have HY : Hid (str (be8 n) = y) := hy
      clear hy
      go_wp2
      go_ret
      rw [HY.out]
      exact ⟨rfl, hbel⟩

theorem zeros_succ (j : Nat) : zeros (j + 1) = zeros j ++ [0] := by
  unfold zeros
  rw [List.replicate_succ']

set_option maxRecDepth 20000 in
set_option maxHeartbeats 1000000 in
theorem tail_any (n : Nat) (hn : n < 576460752303423488) (w : World) :
    Calls Tryz.prog 116 #[.int .i64 (n : Int)] w fun e w' => e = .returned (.string (str (endL n))) ∧ Below w.heap.size w w' := by
  obtain ⟨i0, hi, hz0, hz1, hz2⟩ := info_parts info5
  obtain ⟨z, hz, hz64⟩ : ∃ z, (119 - n % 64) % 64 = z ∧ z < 64 := ⟨_, rfl, by omega⟩
  have HZ : Hid (endL n = ([128] ++ zeros z) ++ be8 (8 * n)) := by show endL n = _; rw [endL, hz]
  have HZZ : Hid ((119 - n % 64) % 64 = z) := hz
  have hown0 : (w.alloc (.cells #[.int .u8 128] 5)).ownsRow w.heap.size 5 1 (.slice (some ⟨w.heap.size, 0, none⟩) 1 1) 1 (byteCells ([128] ++ zeros 0)) :=
    ⟨rfl, .inr ⟨w.heap.size, 1, #[.int .u8 128], rfl, Nat.le_refl _, heap_new _ _, Nat.le_refl _, by unfold maxLen; omega, rfl, rfl⟩⟩
  have hb0 : Below w.heap.size w (w.alloc (.cells #[.int .u8 128] 5)) := (Below.refl _ _).alloc (Nat.le_refl _) _
  clear hz
  go_enter Tryz.func116, Tryz.ntmps116
  go_wp2
  go_loopg [3] z (fun gk v wr => ∃ j : Nat, j + gk = z ∧ wr.ownsRow w.heap.size 5 1 v (1 + j) (byteCells ([128] ++ zeros j)) ∧ Below w.heap.size w wr)
  case atStart => exact ⟨0, by omega, hown0, hb0⟩
  case round =>
    clear hown0 hb0
    obtain ⟨j, hj, hown, hbel⟩ := hrel
    have HK : Hid (j + gk = z) := hj
    have hj' : j ≤ z := by omega
    clear hj
    obtain ⟨g, cap, cur, rfl, hg1, hg2, hg3, hg4, hg5, hg6⟩ : ∃ g cap cur, _ = Value.slice (some ⟨g, 0, none⟩) (1 + j) cap ∧ w.heap.size ≤ g ∧ wr.heap[g]? = some (.cells cur 5 (0, 0)) ∧ 1 + j ≤ cap ∧ cap ≤ maxLen ∧ cur.size = cap * 1 ∧ cur.toList.take ((1 + j) * 1) = byteCells ([128] ++ zeros j) := by
      rcases hown.2 with ⟨_, h0⟩ | h
      · omega
      · exact h
    clear hg1 hg2 hg3 hg4 hg5 hg6
    have w1 : IntKind.i64.wrap ((n : Int) + ((1 + j : Nat) : Int)) = ((n + 1 + j : Nat) : Int) := by rw [IntKind.wrap_i64]; omega
    have w2 : IntKind.i64.wrap ((n : Int) + (1 + (j : Int))) = ((n + 1 + j : Nat) : Int) := by rw [IntKind.wrap_i64]; omega
    have tm : (((n + 1 + j : Nat) : Int)).tmod 64 = (((n + 1 + j) % 64 : Nat) : Int) := tmod_nat _ 64
    by_cases hlt : j < z
    · have hne : (n + 1 + j) % 64 ≠ 56 := by have := HZZ.out; omega
      have hni : (((n : Int) + 1 + (j : Int)) % 64 != 56) = true := by simp; omega
      have HS : Hid (byteCells ([128] ++ zeros (j + 1)) = byteCells ([128] ++ zeros j) ++ [.int .u8 0]) := by
        show _ = _
        rw [zeros_succ, ← List.append_assoc, byteCells_append]
        rfl
      have hone : ∀ u ∈ [Value.int .u8 0], u.oneCell' = true := byteCells_one [0]
      have hml : 1 + j + 1 ≤ maxLen := by unfold maxLen; omega
      go_wp2_with (at_builtin; refine wpList_append_own _ rfl _ _ 96 rfl w.heap.size 5 i0 (.int .u8 0) 1 1 Tryz.underlying96 hi hz0 hz1 hz2 rfl (by decide) _ _ _ rfl (hown.alloc _) ⟨wr.heap.size, 0, none⟩ 1 1 [.int .u8 0] rfl rfl (by intro i u h; exact cells_new wr #[.int .u8 0] 5 i u (by simpa using h)) hone hml (by omega) (by have := hbel.size; simp; omega) ?_; intro v' w' hown' hgrow' _)
      have R : w'.ownsRow w.heap.size 5 1 v' (1 + (j + 1)) (byteCells ([128] ++ zeros (j + 1))) := by rw [HS.out]; exact hown'
      have hb' : Below w.heap.size w w' := by
        have h1 := hbel.alloc hbel.size (.cells #[.int .u8 0] 5)
        exact h1.trans (grown_below hgrow' h1.size (hown.alloc _))
      clear hown' hgrow' hown
      go_wp2
      go_roundg (gk - 1)
      case measure => have := HK.out; omega
      case rel => exact ⟨j + 1, by have := HK.out; omega, R, hb'⟩
    · obtain rfl : j = z := by omega
      have heq : (((n : Int) + 1 + (j : Int)) % 64 != 56) = false := by have := HZZ.out; simp; omega
      have w8 : IntKind.i64.wrap (8 * (n : Int)) = 8 * (n : Int) := by rw [IntKind.wrap_i64]; omega
      have hlen : ([128] ++ zeros j : List UInt8).length = 1 + j := by simp [zeros]; omega
      have KC : Hid (∀ W, Below wr.heap.size wr W → (convert 96 9 (.slice (some ⟨g, 0, none⟩) (1 + j) cap)).run Tryz.prog W = .ok (.string (str ([128] ++ zeros j))) W) := fun W hb => by
        have ho : W.ownsRow w.heap.size 5 1 (.slice (some ⟨g, 0, none⟩) (1 + j) cap) ([128] ++ zeros j : List UInt8).length (byteCells ([128] ++ zeros j)) := by
          rw [hlen]
          obtain ⟨h1, h2⟩ := hown
          refine ⟨h1, ?_⟩
          rcases h2 with ⟨_, h0⟩ | ⟨g', cap', cur', e1, e2, e3, e4⟩
          · omega
          · exact .inr ⟨g', cap', cur', e1, e2, (hb.block _ (heap_lt e3)).trans e3, e4⟩
        exact convert_own (P := Tryz.prog) W 96 9 5 w.heap.size _ _ Tryz.underlying96 Tryz.underlying5 Tryz.underlying9 ho
      have h8 := fun W => eight_any (8 * n) (by omega) W
      rw [show ((8 * n : Nat) : Int) = 8 * (n : Int) by omega] at h8
      have HC : Hid (str ([128] ++ zeros j) ++ str (be8 (8 * n)) = str (endL n)) := by
        show _ = _
        rw [HZ.out]
        apply ByteArray.ext
        apply Array.ext'
        rw [ByteArray.data_append, Array.toList_append, str_data, str_data, str_data]
      have hsz1 : (str ([128] ++ zeros j)).size ≤ 65 := by rw [str_size, hlen]; omega
      have hsz2 : (str (be8 (8 * n))).size = 8 := by rw [str_size]; rfl
      revert KC h8 HC hsz1 hsz2
      generalize str ([128] ++ zeros j) = y1
      generalize str (be8 (8 * n)) = y2
      intro KC h8 HC hsz1 hsz2
      have hadd : y1.size + y2.size ≤ 9223372036854775807 := by omega
      clear hown
      go_wp2_with fail
      go_region_held_law (fun W => (convert 96 9 (.slice (some ⟨g, 0, none⟩) (1 + j) cap)).run Tryz.prog W = .ok (.string y1) W) (first | exact KC.out _ (below_drewN _ 1) | exact KC.out _ (Below.trans (below_drewN _ 1) hb5) | go_keep) (first | (go_at_call 133; refine (h8 _).mono ?_; rintro e w5 ⟨rfl, hb5⟩))
      all_goals
        go_wp2
        go_ret
        rw [HC.out]
        exact ⟨rfl, hbel.trans ((Below.trans (below_drewN wr 1) hb5).mono hbel.size)⟩

end Go.Proofs.YtengclnahppmhaaGreatDoor

namespace Go.Proofs.YtengclnahppmhaaGreatDoor
open Go.RowKit Go.Lib Go.Deep

theorem be4_cells' (x : Nat) : byteCells (be4 x) = [.int .u8 ((x : Int) / 16777216 % 256), .int .u8 ((x : Int) / 65536 % 256), .int .u8 ((x : Int) / 256 % 256), .int .u8 ((x : Int) % 256)] := by
  simp [byteCells, be4, UInt8.toNat_ofNat']

/-- a row of its own above the first new block -/
theorem owns_heap {wr : World} {v : Value} {n : Nat} {xs : List Value} {B k : Nat} (hk : k < B) (h : wr.ownsRow B 5 1 v n xs) {w' : World} (hg : wr.grownBy w' v.ownBlock) (hl : k < wr.heap.size) : w'.heap[k]? = wr.heap[k]? := by
  refine hg.block k hl ?_
  rcases h.2 with ⟨rfl, _⟩ | ⟨g, cap, cur, rfl, hb, _⟩
  · simp [Value.ownBlock]
  · simp [Value.ownBlock]; omega

set_option maxRecDepth 20000 in
set_option maxHeartbeats 1000000 in
theorem told_any (s : W8) (hs : s.OK) (w : World) :
    Calls Tryz.prog 117 #[.agg (i64s s.list)] w fun e w' => e = .returned (.string (str (wtext s))) ∧ Below w.heap.size w w' := by
  obtain ⟨i0, hi, hz0, hz1, hz2⟩ := info_parts info5
  have hl8 : ∀ i, s.list.getD i 0 < 4294967296 := list_lt s hs
  have hlen8 : s.list.length = 8 := rfl
  have HW : Hid (wtext s = be4s s.list) := rfl
  have hst := esize s
  have hone8 := eone s
  revert hl8 hlen8 HW hst hone8
  generalize s.list = l
  intro hl8 hlen8 HW hst hone8
  go_enter Tryz.func117, Tryz.ntmps117
  go_wp2
  have hh0 : (w.alloc (.cells (i64s l) 161)).heap[w.heap.size]? = some (.cells (i64s l) 161 (0, 0)) := heap_new _ _
  have hb0 : Below w.heap.size w (w.alloc (.cells (i64s l) 161)) := (Below.refl _ _).alloc (Nat.le_refl _) _
  go_loopg [3, 4] 8 (fun gk v i wr => ∃ k : Nat, k + gk = 8 ∧ i = .int .i64 k ∧ wr.ownsRow (w.heap.size + 1) 5 1 v (be4s (l.take k)).length (byteCells (be4s (l.take k))) ∧ wr.heap[w.heap.size]? = some (.cells (i64s l) 161 (0, 0)) ∧ Below w.heap.size w wr)
  case atStart => exact ⟨0, by omega, rfl, World.ownsRow_nil _ _ _ _, hh0, hb0⟩
  case round =>
    clear hh0 hb0
    obtain ⟨k, hk, rfl, hown, hh, hbel⟩ := hrel
    have HK : Hid (k + gk = 8) := hk
    have hk' : k ≤ 8 := by omega
    clear hk
    have hszw : w.heap.size + 1 ≤ wr.heap.size := heap_lt hh
    by_cases hlt : k < 8
    · have hc : wr.cell? ⟨w.heap.size, k, none⟩ = some (.int .i64 ((l.getD k 0 : Nat) : Int)) := by rw [cell_of_heap hh, i64s_at l k (by omega)]
      have hxk : l[k]? = some (l.getD k 0) := by rw [List.getD_eq_getElem?_getD, List.getElem?_eq_getElem (by omega)]; rfl
      have hx4 := hl8 k
      have HX : Hid (l[k]? = some (l.getD k 0)) := hxk
      clear hxk
      revert hc hx4 HX
      generalize l.getD k 0 = x
      intro hc hx4 HX
      have hone : ∀ u ∈ [Value.int .u8 ((x : Int) / 16777216 % 256), .int .u8 ((x : Int) / 65536 % 256), .int .u8 ((x : Int) / 256 % 256), .int .u8 ((x : Int) % 256)], u.oneCell' = true := by
        intro u hu
        simp only [List.mem_cons, List.not_mem_nil, or_false] at hu
        rcases hu with rfl | rfl | rfl | rfl <;> rfl
      have hlen : (be4s (l.take k)).length ≤ 32 := by rw [be4s_length]; simp; omega
      have hml : (be4s (l.take k)).length + 4 ≤ maxLen := by unfold maxLen; omega
      go_wp2_with (at_builtin; refine wpList_append_own _ rfl _ _ 96 rfl (w.heap.size + 1) 5 i0 (.int .u8 0) 1 1 Tryz.underlying96 hi hz0 hz1 hz2 rfl (by decide) _ _ _ rfl (hown.alloc _) ⟨wr.heap.size, 0, none⟩ 4 4 [.int .u8 ((x : Int) / 16777216 % 256), .int .u8 ((x : Int) / 65536 % 256), .int .u8 ((x : Int) / 256 % 256), .int .u8 ((x : Int) % 256)] rfl rfl (four_cells wr _ _ _ _) hone hml (by omega) (by simp; omega) ?_; intro v' w' hown' hgrow' _)
      have e : be4s (l.take (k + 1)) = be4s (l.take k) ++ be4 x := by rw [List.take_add_one, HX.out, be4s_append]; simp [be4s]
      have R1 : w'.ownsRow (w.heap.size + 1) 5 1 v' (be4s (l.take (k + 1))).length (byteCells (be4s (l.take (k + 1)))) := by
        rw [e, byteCells_append, be4_cells']
        simpa [be4] using hown'
      have R2 : w'.heap[w.heap.size]? = some (.cells (i64s l) 161 (0, 0)) := by
        rw [owns_heap (Nat.lt_succ_self _) (hown.alloc _) hgrow' (by simp; omega), Below.heap_alloc _ _ _ (by omega)]
        exact hh
      have R3 : Below w.heap.size w w' := by
        have h1 := hbel.alloc (o := .cells #[.int .u8 ((x : Int) / 16777216 % 256), .int .u8 ((x : Int) / 65536 % 256), .int .u8 ((x : Int) / 256 % 256), .int .u8 ((x : Int) % 256)] 5) hbel.size
        refine h1.trans ((grown_below hgrow' (by simp; omega) (hown.alloc _)).mono (by omega))
      clear hown' hgrow' hown hh hbel e
      go_wp2
      go_roundg (gk - 1)
      case measure => have := HK.out; omega
      case rel => exact ⟨k + 1, by have := HK.out; omega, by go_num, R1, R2, R3⟩
    · have e8' : k = 8 := by omega
      subst e8'
      rw [List.take_of_length_le (by omega)] at hown
      have hcv := convert_own (P := Tryz.prog) wr 96 9 5 (w.heap.size + 1) _ (be4s l) Tryz.underlying96 Tryz.underlying5 Tryz.underlying9 hown
      go_wp2
      go_ret
      rw [HW.out]
      exact ⟨rfl, hbel⟩

end Go.Proofs.YtengclnahppmhaaGreatDoor

namespace Go.Proofs.YtengclnahppmhaaGreatDoor
open Go.RowKit Go.Lib Go.Deep


set_option maxRecDepth 20000 in
set_option maxHeartbeats 1000000 in
theorem rsum_any (s : ByteArray) (hs : s.size ≤ 281474976710656) (w : World) (hr : RTabs w) (h4 : 8 ≤ w.heap.size) :
    Calls Tryz.prog 99 #[.string s] w fun e w' => e = .returned (.string (str (shaL s.data.toList))) ∧ Below w.heap.size w w' := by
  have hl : s.data.toList.length = s.size := (size_eq s).symm
  have hend : (str (endL s.size)).size ≤ 200 := by rw [str_size]; simp [endL, zeros, be8]; omega
  have hadd : s.size + (str (endL s.size)).size ≤ 9223372036854775807 := by omega
  have hcat : (s ++ str (endL s.size)).data.toList = s.data.toList ++ endL s.data.toList.length := by rw [ByteArray.data_append, Array.toList_append, str_data, hl]
  have hcs : (s ++ str (endL s.size)).size ≤ 4611686018427387904 := by rw [size_eq, hcat, List.length_append, hl, ← str_size]; omega
  have HS : Hid (shaL s.data.toList = wtext (eat first (s ++ str (endL s.size)).data.toList).1) := by show _ = _; rw [hcat]; rfl
  have hok := eat_OK first (s ++ str (endL s.size)).data.toList first_OK
  have hbl := rblocks_any first first_OK (s ++ str (endL s.size)) hcs
  have hta := fun W => tail_any s.size (by omega) W
  have hfi := rfirst_any
  revert HS hok hbl
  generalize (eat first (s ++ str (endL s.size)).data.toList).1 = st
  intro HS hok hbl
  have hto := told_any st hok
  have hst := esize st
  have hone := eone st
  have H8 : Hid ((i64s st.list).size = 8) := e8 st
  revert hbl hto hst hone H8
  generalize i64s st.list = C
  intro hbl hto hst hone H8
  revert hfi hbl
  generalize i64s first.list = C1
  intro hfi hbl
  revert hta hbl hadd
  generalize str (endL s.size) = y
  intro hadd hta hbl
  clear hcat hcs hok hend
  go_enter Tryz.func99, Tryz.ntmps99
  go_wp2_with fail
  refine (hfi w).mono ?_
  rintro e w1 ⟨rfl, hb1⟩
  have z1 := hb1.size
  go_wp2_with fail
  refine (hta w1).mono ?_
  rintro e w2 ⟨rfl, hb2'⟩
  have hb2 := hb1.trans (hb2'.mono z1)
  clear hb1 hb2'
  have z2 := hb2.size
  go_wp2_with fail
  refine (hbl w2 (hr.below hb2 h4) (by omega)).mono ?_
  rintro e w3 ⟨rfl, hb3'⟩
  have hb3 := hb2.trans (hb3'.mono z2)
  clear hb2 hb3'
  have z3 := hb3.size
  have hth : ∀ z : Array Value, z.size = 8 → (w3.alloc (.cells z 161)).there w3.heap.size 0 C.size := fun z hz => there_of_heap (heap_new _ _) (by rw [H8.out, hz]; decide)
  have hr2 : ∀ z : Array Value, z.size = 8 → ((w3.alloc (.cells z 161)).setCells w3.heap.size 0 C.toList).heap[w3.heap.size]? = some (.cells C 161 (0, 0)) := fun z hz => by
    have h := heap_setCells w3.heap.size 161 C.toList 0 z _ (heap_new w3 (.cells z 161))
    rw [setMany_all _ _ (by rw [hz, Array.length_toList, H8.out]), Array.toArray_toList] at h
    exact h
  have hbz : ∀ z : Array Value, Below w.heap.size w ((w3.alloc (.cells z 161)).setCells w3.heap.size 0 C.toList) := fun z => Below.setCells (hb3.alloc z3 _) z3 _ _
  go_wp2_with (first | (refine wpList_store_mid rfl 161 (.tmp 3) (.tmp 10) rfl w3.heap.size 0 C rfl rfl (hth _ rfl) hst hone ?_) | (refine wpList_load_row rfl 161 (.tmp 3) rfl w3.heap.size rfl 161 _ (0, 0) _ (hr2 _ rfl) Tryz.underlying161 rfl hst ?_) | (go_at_call 117; refine (hto _).mono ?_; rintro e w4 ⟨rfl, hb4⟩))
  go_ret
  rw [HS.out]
  exact ⟨rfl, (hbz _).trans (hb4.mono (hbz _).size)⟩

end Go.Proofs.YtengclnahppmhaaGreatDoor
