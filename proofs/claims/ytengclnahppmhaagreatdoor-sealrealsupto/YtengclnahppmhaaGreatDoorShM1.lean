import Derived.Test.YtengclnahppmhaaGreatDoorBaseM
import Derived.Test.YtengclnahppmhaaGreatDoorRows
import Derived.BigRegion
import Derived.Deep.RegionHeld3
import Derived.BigQuiet
namespace Go.Proofs.YtengclnahppmhaaGreatDoor
open Go.RowKit Go.Lib Go.Deep

theorem rot_or (x s : Nat) (hx : x < 4294967296) (h1 : 1 ≤ s) (h2 : s ≤ 31) :
    bits .or .u32 ((x : Int) * 2 ^ (32 - s) % 4294967296) ((x : Int) / 2 ^ (32 - (32 - s))) = (rot x s : Int) := by
  have e : 2 ^ s * 2 ^ (32 - s) = 4294967296 := by rw [← Nat.pow_add, show s + (32 - s) = 32 by omega]
  have p : 0 < 2 ^ s := Nat.pow_pos (by omega)
  have a : x / 2 ^ s < 2 ^ (32 - s) := by
    rw [Nat.div_lt_iff_lt_mul p, Nat.mul_comm, e]
    exact hx
  have m : x * 2 ^ (32 - s) % 4294967296 = x % 2 ^ s * 2 ^ (32 - s) := by rw [← e, Nat.mul_mod_mul_right]
  have q : x / 2 ^ s < 4294967296 := Nat.lt_of_le_of_lt (Nat.div_le_self _ _) hx
  have r : x % 2 ^ s * 2 ^ (32 - s) < 4294967296 := by rw [← m]; exact Nat.mod_lt _ (by omega)
  have eA : (x : Int) * 2 ^ (32 - s) % 4294967296 = ((x % 2 ^ s * 2 ^ (32 - s) : Nat) : Int) := by rw [← m, Int.natCast_emod, Int.natCast_mul, Int.natCast_pow]; rfl
  have eB : (x : Int) / 2 ^ s = ((x / 2 ^ s : Nat) : Int) := by rw [Int.natCast_ediv, Int.natCast_pow]; rfl
  rw [show 32 - (32 - s) = s by omega, eA, eB, u32_or_nat _ _ r q, nat_join (32 - s) _ _ (Nat.mul_mod_left _ _) a, Nat.add_comm]
  rfl

set_option maxHeartbeats 1000000 in
theorem rotl_any (x s : Nat) (w : World) (hx : x < 4294967296) (h1 : 1 ≤ s) (h2 : s ≤ 31) :
    Calls Tryz.prog 159 #[.int .u32 (x : Int), .int .i64 (-(s : Int))] w fun e w' => e = .returned (.int .u32 (rot x s : Int)) ∧ w = w' := by
  have HR : Hid (bits .or .u32 ((x : Int) * 2 ^ (32 - s) % 4294967296) ((x : Int) / 2 ^ (32 - (32 - s))) = (rot x s : Int)) := rot_or x s hx h1 h2
  have hcv : (-(s : Int)) % 18446744073709551616 = ((18446744073709551616 - s : Nat) : Int) := by omega
  have hcw : IntKind.u64.wrap (-(s : Int)) = ((18446744073709551616 - s : Nat) : Int) := by rw [IntKind.wrap_u64]; omega
  have han : bits .and .u64 ((18446744073709551616 - s : Nat) : Int) 31 = ((32 - s : Nat) : Int) := by
    have := u64_and_nat (18446744073709551616 - s) 31 (by omega) (by omega)
    rw [nat_mask5] at this
    exact this.trans (by omega)
  go_enter Tryz.func159, Tryz.ntmps159
  go_wp2
  go_ret
  exact ⟨by simp [HR.out], rfl⟩

theorem turn_any (x s : Nat) (w : World) (hx : x < 4294967296) (h1 : 1 ≤ s) (h2 : s ≤ 31) :
    Calls Tryz.prog 151 #[.int .u32 (x : Int), .int .i64 (s : Int)] w fun e w' => e = .returned (.int .u32 (rot x s : Int)) ∧ w = w' := by
  go_enter Tryz.func151, Tryz.ntmps151
  go_wp2_with (go_at_call 159; refine (rotl_any x s _ hx h1 h2).mono ?_; rintro e w' ⟨rfl, rfl⟩)
  go_ret
  exact ⟨rfl, rfl⟩

theorem xor3 (x y z : Nat) (hx : x < 4294967296) (hy : y < 4294967296) (hz : z < 4294967296) : bits .xor .u32 (bits .xor .u32 (x : Int) (y : Int)) (z : Int) = (((x ^^^ y) ^^^ z : Nat) : Int) := by
  rw [u32_xor_nat x y hx hy, u32_xor_nat _ z (xor_lt x y hx hy) hz]

theorem big0_any (x : Nat) (w : World) (hx : x < 4294967296) : Calls Tryz.prog 129 #[.int .u32 (x : Int)] w fun e w' => e = .returned (.int .u32 (big0 x : Int)) ∧ w = w' := by
  have HX : Hid (bits .xor .u32 (bits .xor .u32 (rot x 2 : Int) (rot x 13 : Int)) (rot x 22 : Int) = (big0 x : Int)) := xor3 _ _ _ (rot_lt x 2 hx (by omega) (by omega)) (rot_lt x 13 hx (by omega) (by omega)) (rot_lt x 22 hx (by omega) (by omega))
  go_enter Tryz.func129, Tryz.ntmps129
  go_wp2_with (first | (go_at_call_of 151 (2 : Int); refine (turn_any x 2 _ hx (by omega) (by omega)).mono ?_; rintro e w' ⟨rfl, rfl⟩) | (go_at_call_of 151 (13 : Int); refine (turn_any x 13 _ hx (by omega) (by omega)).mono ?_; rintro e w' ⟨rfl, rfl⟩) | (go_at_call_of 151 (22 : Int); refine (turn_any x 22 _ hx (by omega) (by omega)).mono ?_; rintro e w' ⟨rfl, rfl⟩))
  go_ret
  exact ⟨by simp [HX.out], rfl⟩
theorem big1_any (x : Nat) (w : World) (hx : x < 4294967296) : Calls Tryz.prog 128 #[.int .u32 (x : Int)] w fun e w' => e = .returned (.int .u32 (big1 x : Int)) ∧ w = w' := by
  have HX : Hid (bits .xor .u32 (bits .xor .u32 (rot x 6 : Int) (rot x 11 : Int)) (rot x 25 : Int) = (big1 x : Int)) := xor3 _ _ _ (rot_lt x 6 hx (by omega) (by omega)) (rot_lt x 11 hx (by omega) (by omega)) (rot_lt x 25 hx (by omega) (by omega))
  go_enter Tryz.func128, Tryz.ntmps128
  go_wp2_with (first | (go_at_call_of 151 (6 : Int); refine (turn_any x 6 _ hx (by omega) (by omega)).mono ?_; rintro e w' ⟨rfl, rfl⟩) | (go_at_call_of 151 (11 : Int); refine (turn_any x 11 _ hx (by omega) (by omega)).mono ?_; rintro e w' ⟨rfl, rfl⟩) | (go_at_call_of 151 (25 : Int); refine (turn_any x 25 _ hx (by omega) (by omega)).mono ?_; rintro e w' ⟨rfl, rfl⟩))
  go_ret
  exact ⟨by simp [HX.out], rfl⟩
theorem little0_any (x : Nat) (w : World) (hx : x < 4294967296) : Calls Tryz.prog 150 #[.int .u32 (x : Int)] w fun e w' => e = .returned (.int .u32 (little0 x : Int)) ∧ w = w' := by
  have HX : Hid (bits .xor .u32 (bits .xor .u32 (rot x 7 : Int) (rot x 18 : Int)) ((x : Int) / 8) = (little0 x : Int)) := xor3 _ _ (x / 8) (rot_lt x 7 hx (by omega) (by omega)) (rot_lt x 18 hx (by omega) (by omega)) (by omega)
  go_enter Tryz.func150, Tryz.ntmps150
  go_wp2_with (first | (go_at_call_of 151 (7 : Int); refine (turn_any x 7 _ hx (by omega) (by omega)).mono ?_; rintro e w' ⟨rfl, rfl⟩) | (go_at_call_of 151 (18 : Int); refine (turn_any x 18 _ hx (by omega) (by omega)).mono ?_; rintro e w' ⟨rfl, rfl⟩))
  go_ret
  exact ⟨by simp [HX.out], rfl⟩
theorem little1_any (x : Nat) (w : World) (hx : x < 4294967296) : Calls Tryz.prog 149 #[.int .u32 (x : Int)] w fun e w' => e = .returned (.int .u32 (little1 x : Int)) ∧ w = w' := by
  have HX : Hid (bits .xor .u32 (bits .xor .u32 (rot x 17 : Int) (rot x 19 : Int)) ((x : Int) / 1024) = (little1 x : Int)) := xor3 _ _ (x / 1024) (rot_lt x 17 hx (by omega) (by omega)) (rot_lt x 19 hx (by omega) (by omega)) (by omega)
  go_enter Tryz.func149, Tryz.ntmps149
  go_wp2_with (first | (go_at_call_of 151 (17 : Int); refine (turn_any x 17 _ hx (by omega) (by omega)).mono ?_; rintro e w' ⟨rfl, rfl⟩) | (go_at_call_of 151 (19 : Int); refine (turn_any x 19 _ hx (by omega) (by omega)).mono ?_; rintro e w' ⟨rfl, rfl⟩))
  go_ret
  exact ⟨by simp [HX.out], rfl⟩

end Go.Proofs.YtengclnahppmhaaGreatDoor

namespace Go.Proofs.YtengclnahppmhaaGreatDoor
open Go.RowKit Go.Lib Go.Deep

def u32L (l : List Nat) : List Value := l.map fun (n : Nat) => Value.int .u32 (n : Int)
def u32s (l : List Nat) : Array Value := (u32L l).toArray
def bytesV (l : List UInt8) : Array Value := (byteCells l).toArray
def pad (l : List Nat) : List Nat := l ++ List.replicate (64 - l.length) 0

theorem u32s_at (l : List Nat) (i : Nat) (h : i < l.length) : (u32s l)[i]? = some (.int .u32 ((l.getD i 0 : Nat) : Int)) := by
  simp [u32s, u32L, List.getD_eq_getElem?_getD, h]
theorem bytesV_at (l : List UInt8) (i : Nat) (h : i < l.length) : (bytesV l)[i]? = some (.int .u8 ((l.getD i 0).toNat : Int)) := by
  simp [bytesV, byteCells, List.getD_eq_getElem?_getD, h]
theorem u32s_size (l : List Nat) : (u32s l).size = l.length := by simp [u32s, u32L]
theorem bytesV_size (l : List UInt8) : (bytesV l).size = l.length := by simp [bytesV, byteCells]
theorem pad_length (l : List Nat) (h : l.length ≤ 64) : (pad l).length = 64 := by simp [pad]; omega
theorem pad_at (l : List Nat) (i : Nat) (h : i < l.length) : (pad l).getD i 0 = l.getD i 0 := by
  rw [List.getD_eq_getElem?_getD, List.getD_eq_getElem?_getD, pad, List.getElem?_append_left h]
theorem pad_full (l : List Nat) (h : l.length = 64) : pad l = l := by simp [pad, h]
theorem pad_set (l : List Nat) (x : Nat) (h : l.length < 64) : (u32s (pad l)).setIfInBounds l.length (.int .u32 (x : Int)) = u32s (pad (l ++ [x])) := by
  have e : 64 - l.length = (64 - (l.length + 1)) + 1 := by omega
  simp [u32s, u32L, pad, e, List.replicate_succ]

/-- the three blocks of spreadOf -/
structure Sp (b : List UInt8) (w wr : World) (ws : List Nat) : Prop where
  src : wr.heap[w.heap.size]? = some (.cells (bytesV b) 145 (0, 0))
  res : wr.heap[w.heap.size + 1]? = some (.cells (u32s (pad [])) 172 (0, 0))
  own : wr.heap[w.heap.size + 1 + 1]? = some (.cells (u32s (pad ws)) 172 (0, 0))
  bel : Below w.heap.size w wr

theorem Sp.drew {b : List UInt8} {w wr : World} {ws : List Nat} (h : Sp b w wr ws) : Sp b w wr.drew ws := ⟨h.src, h.res, h.own, h.bel.drew⟩
theorem Sp.put {b : List UInt8} {w wr : World} {ws : List Nat} (h : Sp b w wr ws) (x : Nat) (hl : ws.length < 64) : Sp b w (wr.setCell ⟨w.heap.size + 1 + 1, ws.length, none⟩ (.int .u32 (x : Int))) (ws ++ [x]) := by
  refine ⟨?_, ?_, ?_, h.bel.setCell (by simp; omega) _⟩
  · rw [← h.src]; exact Below.heap_setCell _ _ _ _ (by simp; omega)
  · rw [← h.res]; exact Below.heap_setCell _ _ _ _ (by simp)
  · rw [← pad_set ws x hl]; exact heap_setCell_same _ _ _ _ _ _ h.own

theorem word_or (x0 x1 x2 x3 : Nat) (h0 : x0 < 256) (h1 : x1 < 256) (h2 : x2 < 256) (h3 : x3 < 256) :
    bits .or .u32 (bits .or .u32 (bits .or .u32 ((x0 : Int) * 16777216) ((x1 : Int) * 65536)) ((x2 : Int) * 256)) (x3 : Int) = ((16777216 * x0 + 65536 * x1 + 256 * x2 + x3 : Nat) : Int) := by
  rw [show (x0 : Int) * 16777216 = ((16777216 * x0 : Nat) : Int) by omega, show (x1 : Int) * 65536 = ((65536 * x1 : Nat) : Int) by omega, show (x2 : Int) * 256 = ((256 * x2 : Nat) : Int) by omega]
  rw [u32_or_nat _ _ (by omega) (by omega), nat_join 24 (16777216 * x0) (65536 * x1) (by omega) (by omega), u32_or_nat _ _ (by omega) (by omega), nat_join 16 (16777216 * x0 + 65536 * x1) (256 * x2) (by omega) (by omega),
    u32_or_nat _ _ (by omega) (by omega), nat_join 8 (16777216 * x0 + 65536 * x1 + 256 * x2) x3 (by omega) (by omega)]

theorem pad_next (l : List Nat) (h : l.length < 64) : (pad l).getD l.length 0 = 0 := by
  rw [List.getD_eq_getElem?_getD, pad, List.getElem?_append_right (Nat.le_refl _), Nat.sub_self, List.getElem?_replicate, if_pos (by omega)]
  rfl

theorem Sp.cell {b : List UInt8} {w wr : World} {ws : List Nat} (h : Sp b w wr ws) (i : Nat) (hi : i < ws.length) (hl : ws.length ≤ 64) :
    wr.cell? ⟨w.heap.size + 1 + 1, i, none⟩ = some (.int .u32 ((ws.getD i 0 : Nat) : Int)) := by
  rw [cell_of_heap h.own, u32s_at _ _ (by rw [pad_length _ hl]; omega), pad_at _ _ hi]
theorem Sp.next {b : List UInt8} {w wr : World} {ws : List Nat} (h : Sp b w wr ws) (hl : ws.length < 64) :
    wr.cell? ⟨w.heap.size + 1 + 1, ws.length, none⟩ = some (.int .u32 0) := by
  rw [cell_of_heap h.own, u32s_at _ _ (by rw [pad_length _ (by omega)]; omega), pad_next _ hl]
  rfl

theorem Sp.start (b : List UInt8) (w : World) : Sp b w (((w.alloc (.cells (bytesV b) 145)).alloc (.cells (u32s (pad [])) 172)).alloc (.cells (u32s (pad [])) 172)) [] := by
  refine ⟨?_, ?_, ?_, ((Below.alloc (Below.refl _ _) (Nat.le_refl _) _).alloc (by simp) _).alloc (by simp; omega) _⟩
  · rw [Below.heap_alloc _ _ _ (by simp; omega), Below.heap_alloc _ _ _ (by simp)]
    exact heap_new _ _
  · rw [Below.heap_alloc _ _ _ (by simp)]
    have h := heap_new (w.alloc (.cells (bytesV b) 145)) (.cells (u32s (pad [])) 172)
    simpa using h
  · have h := heap_new ((w.alloc (.cells (bytesV b) 145)).alloc (.cells (u32s (pad [])) 172)) (.cells (u32s (pad [])) 172)
    simpa using h

theorem cell_store_ne (w : World) (B i j : Nat) (v : Value) (h : j ≠ i) : (w.setCell ⟨B, i, none⟩ v).drew.cell? ⟨B, j, none⟩ = w.cell? ⟨B, j, none⟩ := by
  show (w.setCell ⟨B, i, none⟩ v).cell? ⟨B, j, none⟩ = _
  exact World.cell?_setCell_other w _ _ _ (fun e => h (by cases e; rfl))

theorem u32L_one (l : List Nat) : ∀ v ∈ u32L l, v.oneCell' = true := by
  intro v hv
  obtain ⟨n, _, rfl⟩ := List.mem_map.1 hv
  rfl
theorem byteCells_one (l : List UInt8) : ∀ v ∈ byteCells l, v.oneCell' = true := by
  intro v hv
  obtain ⟨n, _, rfl⟩ := List.mem_map.1 hv
  rfl

theorem size64 : (Tryz.prog.info? 172).map (·.size) = some 64 := by kernel_rfl
theorem size8 : (Tryz.prog.info? 143).map (·.size) = some 8 := by kernel_rfl
theorem sizeB : (Tryz.prog.info? 145).map (·.size) = some 64 := by kernel_rfl

theorem wrap3 (a b c d : Nat) : IntKind.u32.wrap (IntKind.u32.wrap (IntKind.u32.wrap ((a : Int) + (b : Int)) + (c : Int)) + (d : Int)) = (((a + b + c + d) % 4294967296 : Nat) : Int) := by
  rw [IntKind.wrap_u32', IntKind.wrap_u32', IntKind.wrap_u32']
  omega

end Go.Proofs.YtengclnahppmhaaGreatDoor

namespace Go.Proofs.YtengclnahppmhaaGreatDoor
open Go.RowKit Go.Lib Go.Deep

set_option maxHeartbeats 4000000 in
theorem spread_any (b : List UInt8) (w : World) (hb : b.length = 64) :
    Calls Tryz.prog 127 #[.agg (bytesV b)] w fun e w' => e = .returned (.agg (u32s (sched b))) ∧ Below w.heap.size w w' := by
  go_enter Tryz.func127, Tryz.ntmps127
  go_wp2
  go_loopg [6] 16 (fun gk i wr => ∃ k : Nat, k + gk = 16 ∧ i = .int .i64 k ∧ Sp b w wr (wordsN b k))
  case atStart => exact ⟨0, by omega, rfl, Sp.start b w⟩
  case round =>
    obtain ⟨k, hk, rfl, HS⟩ := hrel
    have HK : Hid (k + gk = 16) := hk
    have hk' : k ≤ 16 := by omega
    clear hk
    by_cases hlt : k < 16
    · have c0 : wr.cell? ⟨w.heap.size, 4 * k, none⟩ = some (.int .u8 ((b.getD (4 * k) 0).toNat : Int)) := (cell_of_heap HS.src).trans (bytesV_at b _ (by omega))
      have c1 : wr.cell? ⟨w.heap.size, 4 * k + 1, none⟩ = some (.int .u8 ((b.getD (4 * k + 1) 0).toNat : Int)) := (cell_of_heap HS.src).trans (bytesV_at b _ (by omega))
      have c2 : wr.cell? ⟨w.heap.size, 4 * k + 2, none⟩ = some (.int .u8 ((b.getD (4 * k + 2) 0).toNat : Int)) := (cell_of_heap HS.src).trans (bytesV_at b _ (by omega))
      have c3 : wr.cell? ⟨w.heap.size, 4 * k + 3, none⟩ = some (.int .u8 ((b.getD (4 * k + 3) 0).toNat : Int)) := (cell_of_heap HS.src).trans (bytesV_at b _ (by omega))
      have hw : Hid (word b k = 16777216 * (b.getD (4 * k) 0).toNat + 65536 * (b.getD (4 * k + 1) 0).toNat + 256 * (b.getD (4 * k + 2) 0).toNat + (b.getD (4 * k + 3) 0).toNat) := rfl
      have l0 := (b.getD (4 * k) 0).toNat_lt
      have l1 := (b.getD (4 * k + 1) 0).toNat_lt
      have l2 := (b.getD (4 * k + 2) 0).toNat_lt
      have l3 := (b.getD (4 * k + 3) 0).toNat_lt
      generalize (b.getD (4 * k) 0).toNat = x0 at c0 hw l0
      generalize (b.getD (4 * k + 1) 0).toNat = x1 at c1 hw l1
      generalize (b.getD (4 * k + 2) 0).toNat = x2 at c2 hw l2
      generalize (b.getD (4 * k + 3) 0).toNat = x3 at c3 hw l3
      have c4 : wr.cell? ⟨w.heap.size + 1 + 1, k, none⟩ = some (.int .u32 0) := by
        have := HS.next (by rw [wordsN_length]; omega)
        rwa [wordsN_length] at this
      have f4 : wr.frozen? ⟨w.heap.size + 1 + 1, k, none⟩ = false := frozen_of_heap HS.own
      go_wp2_with fail
      go_region
      have R := (HS.put (word b k) (by rw [wordsN_length]; omega)).drew
      rw [← wordsN_succ, wordsN_length, hw.out, ← word_or x0 x1 x2 x3 l0 l1 l2 l3] at R
      clear HS c0 c1 c2 c3 c4 f4
      go_wp2
      go_roundg (gk - 1)
      case measure => have := HK.out; omega
      case rel => exact ⟨k + 1, by have := HK.out; omega, by go_num, R⟩
    · obtain rfl : k = 16 := by omega
      go_wp2
      go_loopg [5] 48 (fun gk i wr => ∃ m : Nat, m + gk = 48 ∧ i = .int .i64 ((m : Int) + 16) ∧ Sp b w wr (schedN (wordsN b 16) m))
      case atStart => exact ⟨0, by omega, rfl, HS⟩
      case round =>
        clear HS
        obtain ⟨m, hm, rfl, HS⟩ := hrel
        have HK : Hid (m + gk = 48) := hm
        have hm' : m ≤ 48 := by omega
        clear hm
        have hwl : (schedN (wordsN b 16) m).length = m + 16 := by rw [schedN_length, wordsN_length]; omega
        have HW : Hid (∀ x ∈ schedN (wordsN b 16) m, x < 4294967296) := schedN_lt _ (wordsN_lt b 16) _
        have HN : Hid (schedN (wordsN b 16) (m + 1) = schedN (wordsN b 16) m ++ [more (schedN (wordsN b 16) m)]) := rfl
        have HE : Hid (m = 48 → schedN (wordsN b 16) m = sched b) := fun h => by subst h; rfl
        generalize schedN (wordsN b 16) m = ws at HS hwl HW HN HE
        by_cases hlt : m < 48
        · have c1 := HS.cell (m + 14) (by omega) (by omega)
          have c2 := HS.cell (m + 9) (by omega) (by omega)
          have c3 := HS.cell (m + 1) (by omega) (by omega)
          have c4 := HS.cell m (by omega) (by omega)
          have c5 := HS.next (by omega)
          have f5 : wr.frozen? ⟨w.heap.size + 1 + 1, ws.length, none⟩ = false := frozen_of_heap HS.own
          have l1 := getD_lt HW.out (m + 14)
          have l2 := getD_lt HW.out (m + 9)
          have l3 := getD_lt HW.out (m + 1)
          have l4 := getD_lt HW.out m
          have HM : Hid (more ws = (little1 (ws.getD (m + 14) 0) + ws.getD (m + 9) 0 + little0 (ws.getD (m + 1) 0) + ws.getD m 0) % 4294967296) := by unfold more; rw [hwl]; rfl
          rw [hwl] at c5 f5
          generalize ws.getD (m + 14) 0 = x1 at c1 l1 HM
          generalize ws.getD (m + 9) 0 = x2 at c2 l2 HM
          generalize ws.getD (m + 1) 0 = x3 at c3 l3 HM
          generalize ws.getD m 0 = x4 at c4 l4 HM
          have HL : Hid (ws.length = m + 16) := hwl
          clear hwl
          have KS : Hid (∀ v : Value, (wr.setCell ⟨w.heap.size + 1 + 1, m + 16, none⟩ v).drew.cell? ⟨w.heap.size + 1 + 1, m + 14, none⟩ = some (.int .u32 (x1 : Int)) ∧ (wr.setCell ⟨w.heap.size + 1 + 1, m + 16, none⟩ v).drew.cell? ⟨w.heap.size + 1 + 1, m + 9, none⟩ = some (.int .u32 (x2 : Int)) ∧ (wr.setCell ⟨w.heap.size + 1 + 1, m + 16, none⟩ v).drew.cell? ⟨w.heap.size + 1 + 1, m + 1, none⟩ = some (.int .u32 (x3 : Int)) ∧ (wr.setCell ⟨w.heap.size + 1 + 1, m + 16, none⟩ v).drew.cell? ⟨w.heap.size + 1 + 1, m, none⟩ = some (.int .u32 (x4 : Int))) :=
            fun v => ⟨(cell_store_ne _ _ _ _ _ (by omega)).trans c1, (cell_store_ne _ _ _ _ _ (by omega)).trans c2, (cell_store_ne _ _ _ _ _ (by omega)).trans c3, (cell_store_ne _ _ _ _ _ (by omega)).trans c4⟩
          have s1 : IntKind.i64.wrap ((m : Int) + 16 - 2) = ((m + 14 : Nat) : Int) := by rw [IntKind.wrap_i64]; omega
          have s2 : IntKind.i64.wrap ((m : Int) + 16 - 7) = ((m + 9 : Nat) : Int) := by rw [IntKind.wrap_i64]; omega
          have s3 : IntKind.i64.wrap ((m : Int) + 16 - 15) = ((m + 1 : Nat) : Int) := by rw [IntKind.wrap_i64]; omega
          have s4 : IntKind.i64.wrap ((m : Int) + 16 - 16) = ((m : Nat) : Int) := by rw [IntKind.wrap_i64]; omega
          have s5 : IntKind.i64.wrap (m : Int) = (m : Int) := by rw [IntKind.wrap_i64]; omega
          have q0 : (m : Int) < 64 := by omega
          have q1 : ((m + 14 : Nat) : Int) < 64 := by omega
          have q2 : ((m + 9 : Nat) : Int) < 64 := by omega
          have q3 : ((m + 1 : Nat) : Int) < 64 := by omega
          have q4 : ((m + 16 : Nat) : Int) < 64 := by omega
          have q1' : (m : Int) + 14 < 64 := by omega
          have q2' : (m : Int) + 9 < 64 := by omega
          have q3' : (m : Int) + 1 < 64 := by omega
          have q4' : (m : Int) + 16 < 64 := by omega
          have r1 : (0 : Int) ≤ (m : Int) + 14 := by omega
          have r2 : (0 : Int) ≤ (m : Int) + 9 := by omega
          have r3 : (0 : Int) ≤ (m : Int) + 1 := by omega
          have r4 : (0 : Int) ≤ (m : Int) + 16 := by omega
          have t1 : ((m : Int) + 14).toNat = m + 14 := by omega
          have t2 : ((m : Int) + 9).toNat = m + 9 := by omega
          have t3 : ((m : Int) + 1).toNat = m + 1 := by omega
          have t4 : ((m : Int) + 16).toNat = m + 16 := by omega
          go_wp2_with fail
          go_region_held3 (fun w' => w'.cell? ⟨w.heap.size + 1 + 1, m + 14, none⟩ = some (.int .u32 (x1 : Int)) ∧ w'.cell? ⟨w.heap.size + 1 + 1, m + 9, none⟩ = some (.int .u32 (x2 : Int)) ∧ w'.cell? ⟨w.heap.size + 1 + 1, m + 1, none⟩ = some (.int .u32 (x3 : Int)) ∧ w'.cell? ⟨w.heap.size + 1 + 1, m, none⟩ = some (.int .u32 (x4 : Int))) (first | exact KS.out _ | go_keep) (first | (go_at_call 149; refine (little1_any x1 _ l1).mono ?_; rintro e w'' ⟨rfl, rfl⟩) | (go_at_call 150; refine (little0_any x3 _ l3).mono ?_; rintro e w'' ⟨rfl, rfl⟩))
          have R := (HS.put (more ws) (by have := HL.out; omega)).drew
          rw [← HN.out, HL.out, HM.out, ← wrap3] at R
          clear HS c1 c2 c3 c4 c5 f5 KS
          all_goals
            go_wp2
            go_roundg (gk - 1)
            case measure => have := HK.out; omega
            case rel => exact ⟨m + 1, by have := HK.out; omega, by go_num, R⟩
        · have HL := hwl
          clear hwl
          have e48 : m = 48 := by omega
          have HQ : Hid (ws = sched b) := HE.out e48
          have hl64 : ws.length = 64 := by have := HL; omega
          have hown := HS.own
          have hres := HS.res
          rw [pad_full _ hl64] at hown
          have hbel := HS.bel
          have hth : wr.there (w.heap.size + 1) 0 (u32s ws).size := there_of_heap hres (by rw [u32s_size, u32s_size, hl64, pad_length _ (by simp)]; decide)
          have hsz : (Tryz.prog.info? 172).map (·.size) = some (u32s ws).size := by rw [u32s_size, hl64]; exact size64
          have hone : (u32s ws).all (·.oneCell') = true := all_oneCell_toArray (u32L_one _)
          have hr := heap_setCells (w.heap.size + 1) 172 (u32s ws).toList 0 _ _ hres
          rw [setMany_all _ _ (by rw [u32s_size, pad_length _ (by simp), Array.length_toList, u32s_size, hl64]), Array.toArray_toList] at hr
          have HR : Hid ((wr.setCells (w.heap.size + 1) 0 (u32s ws).toList).heap[w.heap.size + 1]? = some (.cells (u32s ws) 172 (0, 0))) := hr
          clear HS HE HN HW HL hl64 hr hres
          subst e48
          go_wp2_with (first | (refine wpList_load_row rfl 172 (.tmp 3) rfl (w.heap.size + 1 + 1) rfl 172 _ (0, 0) _ hown Tryz.underlying172 rfl hsz ?_) | (refine wpList_store_mid rfl 172 (.tmp 2) (.tmp 68) rfl (w.heap.size + 1) 0 _ rfl rfl hth hsz hone ?_))
          refine bodyPost_ret (results_cell_row rfl _ _ (w.heap.size + 1) 172 _ (0, 0) _ rfl HR.out Tryz.underlying172 rfl hsz) rfl ?_
          rw [HQ.out]
          exact ⟨rfl, Below.setCells hbel (by omega) _ _⟩

end Go.Proofs.YtengclnahppmhaaGreatDoor

namespace Go.Proofs.YtengclnahppmhaaGreatDoor
open Go.RowKit Go.Lib Go.Deep

/-- the two tables, as the program's text lays them -/
structure Tabs (w : World) : Prop where
  fw : w.rangeAt 0 0 (u32L first.list)
  sw : w.rangeAt 2 0 (u32L kk)

theorem u32L_at (l : List Nat) (i : Nat) (h : i < l.length) : (u32L l)[i]? = some (.int .u32 ((l.getD i 0 : Nat) : Int)) := by
  simp [u32L, List.getD_eq_getElem?_getD, h]
theorem Tabs.cell {w : World} (h : Tabs w) (i : Nat) (hi : i < 64) : w.cell? ⟨2, i, none⟩ = some (.int .u32 ((kk.getD i 0 : Nat) : Int)) := by
  have := h.sw i _ (u32L_at kk i (by rw [kk_length]; exact hi))
  simpa using this
theorem Tabs.size {w : World} (h : Tabs w) : 3 ≤ w.heap.size := by
  have h1 := block_lt_of_cell (h.cell 0 (by omega))
  have h2 := block_lt_of_cell (h.fw 0 _ (u32L_at first.list 0 (by decide)))
  simp only at h1 h2
  omega
theorem Tabs.kept {w w' : World} (h : Tabs w) (hb : ∀ k, k < 3 → w'.heap[k]? = w.heap[k]?) : Tabs w' := by
  constructor
  · intro j v hv
    rw [World.cell?_of_block (hb 0 (by omega))]
    exact h.fw j v hv
  · intro j v hv
    rw [World.cell?_of_block (hb 2 (by omega))]
    exact h.sw j v hv
theorem Tabs.below {w w' : World} {B : Nat} (h : Tabs w) (hb : Below B w w') (hB : 3 ≤ B) : Tabs w' := h.kept fun k hk => hb.block k (by omega)

theorem index_agg {P : Program} (w : World) (t e : TypeId) (n : Nat) (cs : Array Value) (k kd : IntKind) (i : Nat) (v : Value) (h : P.underlying t = some (.array n e)) (he : P.underlying e = some (.int kd)) (hs : (P.info? e).map (·.size) = some 1)
    (hi : i < n) (hv : cs[i]? = some v) : (Instr.index t (.agg cs) (.int k (i : Int))).run P w = .ok v w := by
  have hagg : (isAgg e).run P w = .ok false w := by
    unfold isAgg
    rw [Sem.run_bind, run_underlying he w]
    rfl
  cases hq : P.info? e with
  | none => simp [hq] at hs
  | some q =>
    have hz : q.size = 1 := by simpa [hq] using hs
    simp [Instr.index, asIntOf, run_underlying h, hi, sizeOf, typeInfo, hq, hz, part, hagg, hv]

theorem big1_quiet (x : Nat) (w : World) (hx : x < 4294967296) : Calls Tryz.prog 128 #[.int .u32 (x : Int)] w fun e w' => e = .returned (.int .u32 (big1 x : Int)) ∧ w' = w :=
  (big1_any x w hx).mono fun _ _ ⟨h1, h2⟩ => ⟨h1, h2.symm⟩

/-- what mixedWith holds in memory -/
structure Mx (w : World) (s : W8) (ws : List Nat) (n5 : Nat) (wr : World) : Prop where
  old : wr.heap[w.heap.size]? = some (.cells (u32s s.list) 143 (0, 0))
  res : ∃ z8 : Array Value, z8.size = 8 ∧ wr.heap[w.heap.size + 1 + 1]? = some (.cells z8 143 (0, 0))
  spread : wr.heap[n5]? = some (.cells (u32s ws) 172 (0, 0))
  bel : Below w.heap.size w wr
  tabs : Tabs wr

theorem Mx.drewN {w : World} {s : W8} {ws : List Nat} {n5 : Nat} {wr : World} (h : Mx w s ws n5 wr) (n : Nat) : Mx w s ws n5 (wr.drewN n) :=
  ⟨h.old, h.res, h.spread, ⟨h.bel.os, h.bel.tape, h.bel.output, h.bel.size, h.bel.block⟩, ⟨h.tabs.fw, h.tabs.sw⟩⟩

end Go.Proofs.YtengclnahppmhaaGreatDoor

namespace Go.Proofs.YtengclnahppmhaaGreatDoor
open Go.RowKit Go.Lib Go.Deep

theorem size1 : (Tryz.prog.info? 141).map (·.size) = some 1 := by kernel_rfl

theorem Mx.start (w : World) (s : W8) (b : List UInt8) (ws : List Nat) (hl : ws.length = 64) (w1 : World) (ht : Tabs w) (z8 : Array Value) (h8 : z8.size = 8)
    (hb : Below (((w.alloc (.cells (u32s s.list) 143)).alloc (.cells (bytesV b) 145)).alloc (.cells z8 143)).heap.size
      (((w.alloc (.cells (u32s s.list) 143)).alloc (.cells (bytesV b) 145)).alloc (.cells z8 143)) w1) (z : Array Value) (hz : z.size = 64) :
    Mx w s ws w1.heap.size ((w1.alloc (.cells z 172)).setCells w1.heap.size 0 (u32s ws).toList) := by
  have hsz := hb.size
  simp only [World.size_alloc] at hsz
  have hw : Below w.heap.size w w1 := (((Below.refl w.heap.size w).alloc (Nat.le_refl _) _).alloc (by simp) _).alloc (by simp; omega) _ |>.trans (hb.mono (by simp; omega))
  have hold : ∀ k, k < w.heap.size + 1 + 1 + 1 → ((w1.alloc (.cells z 172)).setCells w1.heap.size 0 (u32s ws).toList).heap[k]? = (((w.alloc (.cells (u32s s.list) 143)).alloc (.cells (bytesV b) 145)).alloc (.cells z8 143)).heap[k]? := by
    intro k hk
    rw [heap_setCells_other _ _ (by omega), Below.heap_alloc _ _ _ (by omega)]
    exact hb.block k (by simp; omega)
  have hbel : Below w.heap.size w ((w1.alloc (.cells z 172)).setCells w1.heap.size 0 (u32s ws).toList) := Below.setCells (hw.alloc (by omega) _) (by omega) _ _
  refine ⟨?_, ?_, ?_, hbel, ht.below hbel ht.size⟩
  · rw [hold _ (by omega), Below.heap_alloc _ _ _ (by simp; omega), Below.heap_alloc _ _ _ (by simp)]
    exact heap_new _ _
  · refine ⟨z8, h8, ?_⟩
    rw [hold _ (by omega)]
    have h := heap_new ((w.alloc (.cells (u32s s.list) 143)).alloc (.cells (bytesV b) 145)) (.cells z8 143)
    simpa using h
  · have h := heap_setCells w1.heap.size 172 (u32s ws).toList 0 z _ (heap_new w1 (.cells z 172))
    rw [setMany_all _ _ (by rw [hz, Array.length_toList, u32s_size, hl]), Array.toArray_toList] at h
    exact h

theorem not32 (e : Nat) (h : e < 4294967296) : 4294967295 ^^^ e = 4294967295 - e := by
  have h1 : (~~~(BitVec.ofNat 32 e)).toNat = 4294967295 - e := by rw [BitVec.toNat_not, BitVec.toNat_ofNat, Nat.mod_eq_of_lt (by omega)]
  have h2 : (BitVec.allOnes 32 ^^^ BitVec.ofNat 32 e).toNat = 4294967295 ^^^ e := by rw [BitVec.toNat_xor, BitVec.toNat_allOnes, BitVec.toNat_ofNat, Nat.mod_eq_of_lt (by omega)]
  rw [BitVec.not_def, h2] at h1
  exact h1
theorem not_int (e : Nat) (h : e < 4294967296) : bits .xor .u32 (if IntKind.u32.signed = true then -1 else IntKind.u32.max) (e : Int) = ((4294967295 - e : Nat) : Int) := by
  rw [show (if IntKind.u32.signed = true then -1 else IntKind.u32.max : Int) = ((4294967295 : Nat) : Int) from rfl, u32_xor_nat _ _ (by omega) h, not32 e h]

theorem one8 (x0 x1 x2 x3 x4 x5 x6 x7 : Int) : (#[Value.int .u32 x0, .int .u32 x1, .int .u32 x2, .int .u32 x3, .int .u32 x4, .int .u32 x5, .int .u32 x6, .int .u32 x7] : Array Value).all (·.oneCell') = true := by
  refine all_oneCell_toArray (cs := [Value.int .u32 x0, .int .u32 x1, .int .u32 x2, .int .u32 x3, .int .u32 x4, .int .u32 x5, .int .u32 x6, .int .u32 x7]) ?_
  intro v hv
  simp only [List.mem_cons, List.not_mem_nil, or_false] at hv
  rcases hv with rfl | rfl | rfl | rfl | rfl | rfl | rfl | rfl <;> rfl

theorem Mx.cells {w : World} {s : W8} {ws : List Nat} {n5 : Nat} {wr : World} (h : Mx w s ws n5 wr) :
    wr.cell? ⟨w.heap.size, 0, none⟩ = some (.int .u32 (s.a : Int)) ∧ wr.cell? ⟨w.heap.size, 1, none⟩ = some (.int .u32 (s.b : Int)) ∧ wr.cell? ⟨w.heap.size, 2, none⟩ = some (.int .u32 (s.c : Int)) ∧ wr.cell? ⟨w.heap.size, 3, none⟩ = some (.int .u32 (s.d : Int)) ∧
    wr.cell? ⟨w.heap.size, 4, none⟩ = some (.int .u32 (s.e : Int)) ∧ wr.cell? ⟨w.heap.size, 5, none⟩ = some (.int .u32 (s.f : Int)) ∧ wr.cell? ⟨w.heap.size, 6, none⟩ = some (.int .u32 (s.g : Int)) ∧ wr.cell? ⟨w.heap.size, 7, none⟩ = some (.int .u32 (s.h : Int)) := by
  refine ⟨?_, ?_, ?_, ?_, ?_, ?_, ?_, ?_⟩ <;> rw [cell_of_heap h.old, u32s_at _ _ (by simp [W8.list])] <;> rfl

end Go.Proofs.YtengclnahppmhaaGreatDoor

namespace Go.Proofs.YtengclnahppmhaaGreatDoor
open Go.RowKit Go.Lib Go.Deep

set_option maxRecDepth 20000 in
set_option maxHeartbeats 4000000 in
theorem mixed_core (s : W8) (hs : s.OK) (b : List UInt8) (hb : b.length = 64) (ws : List Nat) (hws : ws.length = 64) (hwl : ∀ x ∈ ws, x < 4294967296)
    (hsp : ∀ W : World, Calls Tryz.prog 127 #[.agg (bytesV b)] W fun e w' => e = .returned (.agg (u32s ws)) ∧ Below W.heap.size W w') (w : World) (ht : Tabs w) :
    Calls Tryz.prog 105 #[.agg (u32s s.list), .agg (bytesV b)] w fun e w' => e = .returned (.agg (u32s (s.add (roundN s ws 64)).list)) ∧ Below w.heap.size w w' := by
  have hbs : (Tryz.prog.info? 145).map (·.size) = some (bytesV b).size := by rw [bytesV_size, hb]; exact sizeB
  have hblk : ∀ z8 : Array Value, (((w.alloc (.cells (u32s s.list) 143)).alloc (.cells (bytesV b) 145)).alloc (.cells z8 143)).heap[w.heap.size + 1]? = some (.cells (bytesV b) 145 (0, 0)) := by
    intro z8
    rw [Below.heap_alloc _ _ _ (by simp)]
    have h := heap_new (w.alloc (.cells (u32s s.list) 143)) (.cells (bytesV b) 145)
    simpa using h
  have hst : (Tryz.prog.info? 172).map (·.size) = some (u32s ws).size := by rw [u32s_size, hws]; exact size64
  have hone : (u32s ws).all (·.oneCell') = true := all_oneCell_toArray (u32L_one _)
  go_enter Tryz.func105, Tryz.ntmps105
  go_wp2_with (first | (refine wpList_load_row rfl 145 (.tmp 3) rfl (w.heap.size + 1) rfl 145 _ (0, 0) _ (hblk _) Tryz.underlying145 rfl hbs ?_) | (go_at_call 127; refine (hsp _).mono ?_; rintro e w1 ⟨rfl, hb1⟩) | (refine wpList_store_mid rfl 172 (.tmp 5) (.tmp 19) rfl w1.heap.size 0 _ rfl rfl (there_of_heap (heap_new _ _) (by rw [u32s_size, hws]; decide)) hst hone ?_))
  rw [put_none]
  refine with_world (R := fun W => Code.wp _ _ _ _ W) _ (Mx.start w s b ws hws w1 ht _ rfl hb1 _ rfl) ?_
  intro w2 HX
  clear hsp hblk hst hone hb1
  obtain ⟨n5, hn5⟩ : ∃ n5, w1.heap.size = n5 := ⟨_, rfl⟩
  rw [hn5] at HX
  rw [hn5]
  clear hn5
  obtain ⟨c0, c1, c2, c3, c4, c5, c6, c7⟩ := HX.cells
  go_quiet (fail)
  have HX := HX.drewN nq
  refine with_world (R := fun W => Exit.then _ _ _ _ W) _ HX ?_
  clear c0 c1 c2 c3 c4 c5 c6 c7 HX
  intro w3 HX
  have hsp := HX.spread
  have hst : (Tryz.prog.info? 172).map (·.size) = some (u32s ws).size := by rw [u32s_size, hws]; exact size64
  go_wp2_with (refine wpList_load_row rfl 172 (.tmp 5) rfl n5 rfl 172 _ (0, 0) _ hsp Tryz.underlying172 rfl hst ?_)
  go_loopg [6, 7, 8, 9, 10, 11, 12, 13, 37] 64 (fun gk sa sb sc sd se sf sg sh i wr => ∃ k : Nat, k + gk = 64 ∧ i = .int .i64 k ∧ sa = .int .u32 ((roundN s ws k).a : Int) ∧ sb = .int .u32 ((roundN s ws k).b : Int) ∧ sc = .int .u32 ((roundN s ws k).c : Int) ∧ sd = .int .u32 ((roundN s ws k).d : Int) ∧ se = .int .u32 ((roundN s ws k).e : Int) ∧ sf = .int .u32 ((roundN s ws k).f : Int) ∧ sg = .int .u32 ((roundN s ws k).g : Int) ∧ sh = .int .u32 ((roundN s ws k).h : Int) ∧ Mx w s ws n5 wr)
  case atStart => exact ⟨0, by omega, rfl, rfl, rfl, rfl, rfl, rfl, rfl, rfl, rfl, HX⟩
  case round =>
    clear HX hsp
    obtain ⟨k, hk, rfl, rfl, rfl, rfl, rfl, rfl, rfl, rfl, rfl, HX⟩ := hrel
    have HK : Hid (k + gk = 64) := hk
    have hk' : k ≤ 64 := by omega
    clear hk
    have hok := roundN_OK hs ws k
    have HN : Hid (roundN s ws (k + 1) = (roundN s ws k).step (kk.getD k 0) (ws.getD k 0)) := rfl
    have HE : Hid (k = 64 → roundN s ws 64 = roundN s ws k) := fun h => by rw [h]
    revert HN HE hok
    generalize roundN s ws k = st
    obtain ⟨a, b', c, d, e, f, g, h⟩ := st
    intro hok HN HE
    obtain ⟨ha, hb', hc, hd, he, hf, hg, hh⟩ := hok
    dsimp only at ha hb' hc hd he hf hg hh
    by_cases hlt : k < 64
    · have hlk : k < ws.length := by omega
      have hix := fun W => index_agg (P := Tryz.prog) W 172 141 64 (u32s ws) .i64 .u32 k _ Tryz.underlying172 Tryz.underlying141 size1 hlt (u32s_at ws k hlk)
      have ck := HX.tabs.cell k hlt
      have lx := getD_lt hwl k
      have lk := getD_lt kk_lt k
      revert hix ck lx lk HN
      generalize ws.getD k 0 = x
      generalize kk.getD k 0 = q
      intro HN hix ck lx lk
      have HT : Hid (W8.tt ⟨a, b', c, d, e, f, g, h⟩ q x = (h + big1 e + ((e &&& f) ^^^ ((4294967295 - e) &&& g)) + q + x) % 4294967296) := rfl
      have HU : Hid (W8.uu ⟨a, b', c, d, e, f, g, h⟩ = (big0 a + (((a &&& b') ^^^ (a &&& c)) ^^^ (b' &&& c))) % 4294967296) := rfl
      have lb1 := big1_lt e he
      have lb0 := big0_lt a ha
      have r1 := u32_and_nat e f he hf
      have r2 := not_int e he
      have r3 := u32_and_nat (4294967295 - e) g (by omega) hg
      have r4 := u32_xor_nat (e &&& f) ((4294967295 - e) &&& g) (and_lt _ _ he) (and_lt _ _ (by omega))
      have r5 := u32_and_nat a b' ha hb'
      have r6 := u32_and_nat a c ha hc
      have r7 := u32_and_nat b' c hb' hc
      have r8 := u32_xor_nat (a &&& b') (a &&& c) (and_lt _ _ ha) (and_lt _ _ ha)
      have r9 := u32_xor_nat ((a &&& b') ^^^ (a &&& c)) (b' &&& c) (xor_lt _ _ (and_lt _ _ ha) (and_lt _ _ ha)) (and_lt _ _ hb')
      have l1 : (e &&& f) ^^^ ((4294967295 - e) &&& g) < 4294967296 := xor_lt _ _ (and_lt _ _ he) (and_lt _ _ (by omega))
      have l2 : ((a &&& b') ^^^ (a &&& c)) ^^^ (b' &&& c) < 4294967296 := xor_lt _ _ (xor_lt _ _ (and_lt _ _ ha) (and_lt _ _ ha)) (and_lt _ _ hb')
      revert r1 r2 r3 r4 r5 r6 r7 r8 r9 HT HU l1 l2
      generalize (e &&& f) ^^^ ((4294967295 - e) &&& g) = CH
      generalize e &&& f = EF
      generalize (4294967295 - e) &&& g = NG
      generalize 4294967295 - e = NE
      generalize ((a &&& b') ^^^ (a &&& c)) ^^^ (b' &&& c) = MJ
      generalize (a &&& b') ^^^ (a &&& c) = X1
      generalize a &&& b' = AB
      generalize a &&& c = AC
      generalize b' &&& c = BC
      intro HT HU r1 r2 r3 r4 r5 r6 r7 r8 r9 l1 l2
      go_wp2_with fail
      go_quiet ((go_at_call 128; refine Calls.quiet_of_same (big1_quiet e _ he)))
      have HX := HX.drewN nq
      refine with_world (R := fun W => Exit.then _ _ _ _ W) _ HX ?_
      clear HX ck
      intro w4 HX
      go_wp2_with (go_at_call 129; refine (big0_any a _ ha).mono ?_; rintro e' w5 ⟨rfl, rfl⟩)
      go_roundg (gk - 1)
      case measure => have := HK.out; omega
      case rel =>
        refine ⟨k + 1, by have := HK.out; omega, by go_num, ?_, ?_, ?_, ?_, ?_, ?_, ?_, ?_, HX⟩
        · rw [HN.out, W8.step, HT.out, HU.out]; congr 1
        · rw [HN.out]; rfl
        · rw [HN.out]; rfl
        · rw [HN.out]; rfl
        · rw [HN.out, W8.step, HT.out]; congr 1
        · rw [HN.out]; rfl
        · rw [HN.out]; rfl
        · rw [HN.out]; rfl
    · have e64 : k = 64 := by omega
      have HQ : Hid (roundN s ws 64 = ⟨a, b', c, d, e, f, g, h⟩) := HE.out e64
      clear HN HE
      obtain ⟨c0, c1, c2, c3, c4, c5, c6, c7⟩ := HX.cells
      obtain ⟨z8, hz8, hres⟩ := HX.res
      have hbel := HX.bel
      have hth : wr.there (w.heap.size + 1 + 1) 0 8 := there_of_heap hres (by omega)
      obtain ⟨sa, sb, sc, sd, se, sf, sg, sh⟩ := hs
      clear HX
      subst e64
      go_wp2_with (refine wpList_store_mid rfl 143 (.tmp 4) (.tmp 119) rfl (w.heap.size + 1 + 1) 0 _ rfl rfl hth size8 (one8 _ _ _ _ _ _ _ _) ?_)
      rw [put_none]
      have hr := heap_setCells (w.heap.size + 1 + 1) 143 (u32L (s.add ⟨a, b', c, d, e, f, g, h⟩).list) 0 _ _ hres
      rw [setMany_all _ _ (by rw [hz8]; rfl)] at hr
      have e8 : [Value.int .u32 (((s.a : Int) + (a : Int)) % 4294967296), .int .u32 (((s.b : Int) + (b' : Int)) % 4294967296), .int .u32 (((s.c : Int) + (c : Int)) % 4294967296), .int .u32 (((s.d : Int) + (d : Int)) % 4294967296),
        .int .u32 (((s.e : Int) + (e : Int)) % 4294967296), .int .u32 (((s.f : Int) + (f : Int)) % 4294967296), .int .u32 (((s.g : Int) + (g : Int)) % 4294967296), .int .u32 (((s.h : Int) + (h : Int)) % 4294967296)] = u32L (s.add ⟨a, b', c, d, e, f, g, h⟩).list := rfl
      rw [e8]
      refine bodyPost_ret (results_cell_row rfl _ _ (w.heap.size + 1 + 1) 143 _ (0, 0) _ rfl hr Tryz.underlying143 rfl size8) rfl ?_
      rw [HQ.out]
      exact ⟨rfl, Below.setCells hbel (by omega) _ _⟩

theorem mixed_any (s : W8) (hs : s.OK) (b : List UInt8) (hb : b.length = 64) (w : World) (ht : Tabs w) :
    Calls Tryz.prog 105 #[.agg (u32s s.list), .agg (bytesV b)] w fun e w' => e = .returned (.agg (u32s (mix s b).list)) ∧ Below w.heap.size w w' :=
  mixed_core s hs b hb (sched b) (sched_length b) (sched_lt b) (fun W => spread_any b W hb) w ht

end Go.Proofs.YtengclnahppmhaaGreatDoor


namespace Go.Proofs.YtengclnahppmhaaGreatDoor
open Go.RowKit Go.Lib Go.Deep

/-- so many blocks of a text, and what is left -/
def eatN : Nat → W8 → List UInt8 → W8 × List UInt8
  | 0, s, l => (s, l)
  | k + 1, s, l => eatN k (mix s (l.take 64)) (l.drop 64)
/-- all whole blocks of a text -/
def eat (s : W8) (l : List UInt8) : W8 × List UInt8 := eatN (l.length / 64) s l

theorem eat_short (s : W8) (l : List UInt8) (h : l.length < 64) : eat s l = (s, l) := by
  unfold eat
  rw [Nat.div_eq_of_lt h]
  rfl
theorem eat_block (s : W8) (l : List UInt8) (h : 64 ≤ l.length) : eat s l = eat (mix s (l.take 64)) (l.drop 64) := by
  unfold eat
  rw [List.length_drop, show l.length / 64 = (l.length - 64) / 64 + 1 by omega]
  rfl
theorem eatN_OK : ∀ (k : Nat) (s : W8) (l : List UInt8), s.OK → (eatN k s l).1.OK
  | 0, _, _, h => h
  | k + 1, s, _, _ => eatN_OK k _ _ (mix_OK s _)
theorem eat_OK (s : W8) (l : List UInt8) (h : s.OK) : (eat s l).1.OK := eatN_OK _ s l h
theorem eatN_length : ∀ (k : Nat) (s : W8) (l : List UInt8), (eatN k s l).2.length = l.length - 64 * k
  | 0, _, l => by simp [eatN]
  | k + 1, s, l => by rw [eatN, eatN_length k, List.length_drop]; omega
theorem eat_length (s : W8) (l : List UInt8) : (eat s l).2.length = l.length % 64 := by
  unfold eat
  rw [eatN_length]
  omega

/-- one behind the other -/
theorem eatN_append : ∀ (k : Nat) (s : W8) (l r : List UInt8), 64 * k ≤ l.length → eatN k s (l ++ r) = ((eatN k s l).1, (eatN k s l).2 ++ r)
  | 0, _, _, _, _ => rfl
  | k + 1, s, l, r, h => by
    rw [eatN, eatN, List.take_append_of_le_length (by omega), List.drop_append_of_le_length (by omega)]
    exact eatN_append k _ _ r (by rw [List.length_drop]; omega)
theorem eatN_add : ∀ (k m : Nat) (s : W8) (l : List UInt8), eatN (k + m) s l = eatN m (eatN k s l).1 (eatN k s l).2
  | 0, m, s, l => by rw [Nat.zero_add]; rfl
  | k + 1, m, s, l => by
    rw [show k + 1 + m = (k + m) + 1 by omega, eatN, eatN]
    exact eatN_add k m _ _
theorem eat_append (s : W8) (l r : List UInt8) : eat s (l ++ r) = eat (eat s l).1 ((eat s l).2 ++ r) := by
  have h1 := eat_length s l
  have e : (l ++ r).length / 64 = l.length / 64 + ((eat s l).2 ++ r).length / 64 := by
    rw [List.length_append, List.length_append, h1]
    omega
  have h2 := eatN_append (l.length / 64) s l r (by omega)
  conv => lhs; rw [eat, e, eatN_add, h2]
  rfl

def zeros (n : Nat) : List UInt8 := List.replicate n 0
/-- a running sum's cells -/
def hcells (s : W8) (r : List UInt8) (n : Nat) : List Value := [Value.bool true] ++ u32L s.list ++ byteCells (r ++ zeros (64 - r.length)) ++ [Value.int .u64 (n : Int)]

/-- a running sum in memory: the words, the bytes that fill no block yet, the count -/
structure Hs (w : World) (p : Nat) (s : W8) (r : List UInt8) (n : Nat) : Prop where
  heap : w.heap[p]? = some (.cells (hcells s r n).toArray 148 (0, 0))
  ok : s.OK
  len : r.length = n % 64
  big : n < 9223372036854775808
  own : 8 ≤ p

theorem Hs.kept {w w' : World} {p : Nat} {s : W8} {r : List UInt8} {n : Nat} (h : Hs w p s r n) (hk : w'.heap[p]? = w.heap[p]?) : Hs w' p s r n := ⟨hk.trans h.heap, h.ok, h.len, h.big, h.own⟩
theorem Hs.lt {w : World} {p : Nat} {s : W8} {r : List UInt8} {n : Nat} (h : Hs w p s r n) : p < w.heap.size := heap_lt h.heap
theorem Hs.only {w w' : World} {S : List Nat} {p : Nat} {s : W8} {r : List UInt8} {n : Nat} (h : Hs w p s r n) (ho : Only S w w') (hp : p ∉ S) : Hs w' p s r n := h.kept (ho.block p h.lt hp)
theorem Hs.below {w w' : World} {B : Nat} {p : Nat} {s : W8} {r : List UInt8} {n : Nat} (h : Hs w p s r n) (ho : Below B w w') (hp : p < B) : Hs w' p s r n := h.kept (ho.block p hp)

theorem hcells_length (s : W8) (r : List UInt8) (n : Nat) (h : r.length ≤ 64) : (hcells s r n).length = 74 := by
  simp [hcells, u32L, W8.list, byteCells, zeros]
  omega
theorem hcells_made (s : W8) (r : List UInt8) (n : Nat) : (hcells s r n)[0]? = some (.bool true) := rfl
theorem hcells_count (s : W8) (r : List UInt8) (n : Nat) (h : r.length ≤ 64) : (hcells s r n)[73]? = some (.int .u64 (n : Int)) := by
  have hl : ([Value.bool true] ++ u32L s.list ++ byteCells (r ++ zeros (64 - r.length))).length = 73 := by
    simp [u32L, W8.list, byteCells, zeros]
    omega
  rw [hcells, List.getElem?_append_right (by omega), hl]
  rfl
theorem Hs.rlen {w : World} {p : Nat} {s : W8} {r : List UInt8} {n : Nat} (h : Hs w p s r n) : r.length ≤ 64 := by have := h.len; omega
theorem Hs.made {w : World} {p : Nat} {s : W8} {r : List UInt8} {n : Nat} (h : Hs w p s r n) : w.cell? ⟨p, 0, none⟩ = some (.bool true) := by
  rw [cell_of_heap h.heap]
  rfl
theorem Hs.count {w : World} {p : Nat} {s : W8} {r : List UInt8} {n : Nat} (h : Hs w p s r n) : w.cell? ⟨p, 73, none⟩ = some (.int .u64 (n : Int)) := by
  rw [cell_of_heap h.heap, List.getElem?_toArray]
  exact hcells_count s r n h.rlen
theorem Hs.words {w : World} {p : Nat} {s : W8} {r : List UInt8} {n : Nat} (h : Hs w p s r n) : w.rangeAt p 1 (u32L s.list) :=
  range_of_heap (pre := [Value.bool true]) (post := byteCells (r ++ zeros (64 - r.length)) ++ [Value.int .u64 (n : Int)]) h.heap (by simp [hcells])
theorem Hs.rest {w : World} {p : Nat} {s : W8} {r : List UInt8} {n : Nat} (h : Hs w p s r n) : w.rangeAt p 9 (byteCells (r ++ zeros (64 - r.length))) :=
  range_of_heap (pre := [Value.bool true] ++ u32L s.list) (post := [Value.int .u64 (n : Int)]) h.heap (by simp [hcells])

theorem filled_any {w : World} {p : Nat} {n : Nat} (h : w.cell? ⟨p, 73, none⟩ = some (.int .u64 (n : Int))) (hn : n < 9223372036854775808) :
    Calls Tryz.prog 104 #[.pointer (some ⟨p, 0, none⟩)] w fun e w' => e = .returned (.int .i64 ((n % 64 : Nat) : Int)) ∧ w = w' := by
  have h1 : ((n : Int).tmod 64) = (n : Int) % 64 := Int.tmod_eq_emod_of_nonneg (by omega)
  go_enter Tryz.func104, Tryz.ntmps104
  go_wp2
  go_ret
  exact ⟨by simp, rfl⟩

theorem there_yes {w : World} {p : Nat} (h : w.cell? ⟨p, 0, none⟩ = some (.bool true)) :
    Calls Tryz.prog 106 #[.pointer (some ⟨p, 0, none⟩)] w fun e w' => e = .returned (.bool true) ∧ w = w' := by
  go_enter Tryz.func106, Tryz.ntmps106
  go_wp2
  go_ret
  exact ⟨rfl, rfl⟩
theorem there_nil (w : World) :
    Calls Tryz.prog 106 #[.pointer none] w fun e w' => e = .returned (.bool false) ∧ w = w' := by
  go_enter Tryz.func106, Tryz.ntmps106
  go_wp2
  go_ret
  exact ⟨rfl, rfl⟩

end Go.Proofs.YtengclnahppmhaaGreatDoor
