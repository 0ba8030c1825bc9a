import Derived.Test.YtengclnahppmhaaGreatDoorShM1
import Derived.BigQuiet
import Derived.Test.YtengclnahppmhaaGreatDoorBaseM
import Derived.BigRegion
namespace Go.Proofs.YtengclnahppmhaaGreatDoor
open Go.RowKit Go.Lib Go.Deep

def i64L (l : List Nat) : List Value := l.map fun (n : Nat) => Value.int .i64 (n : Int)
def i64s (l : List Nat) : Array Value := (i64L l).toArray
def pows : List Nat := [1, 2, 4, 8, 16, 32, 64, 128, 256, 512, 1024, 2048, 4096, 8192, 16384, 32768, 65536, 131072, 262144, 524288, 1048576, 2097152, 4194304, 8388608, 16777216, 33554432, 67108864, 134217728, 268435456, 536870912, 1073741824, 2147483648, 4294967296]
theorem i64L_at (l : List Nat) (i : Nat) (h : i < l.length) : (i64L l)[i]? = some (.int .i64 ((l.getD i 0 : Nat) : Int)) := by
  simp [i64L, List.getD_eq_getElem?_getD, h]
theorem i64s_at (l : List Nat) (i : Nat) (h : i < l.length) : (i64s l)[i]? = some (.int .i64 ((l.getD i 0 : Nat) : Int)) := by
  rw [i64s, List.getElem?_toArray]
  exact i64L_at l i h
theorem i64s_size (l : List Nat) : (i64s l).size = l.length := by simp [i64s, i64L]
theorem i64L_one (l : List Nat) : ∀ v ∈ i64L l, v.oneCell' = true := by
  intro v hv
  obtain ⟨n, _, rfl⟩ := List.mem_map.1 hv
  rfl
theorem pows_at : ∀ i, i < 33 → pows.getD i 0 = 2 ^ i := by decide
theorem pows_length : pows.length = 33 := rfl

/-- the reference's two tables -/
structure RTabs (w : World) : Prop where
  tr : w.rangeAt 4 0 (i64L kk)
  tp : w.rangeAt 7 0 (i64L pows)
theorem RTabs.pow {w : World} (h : RTabs w) (i : Nat) (hi : i < 33) : w.cell? ⟨7, i, none⟩ = some (.int .i64 ((2 ^ i : Nat) : Int)) := by
  have := h.tp i _ (i64L_at pows i (by rw [pows_length]; exact hi))
  rw [pows_at i hi] at this
  simpa using this
theorem RTabs.root {w : World} (h : RTabs w) (i : Nat) (hi : i < 64) : w.cell? ⟨4, i, none⟩ = some (.int .i64 ((kk.getD i 0 : Nat) : Int)) := by
  have := h.tr i _ (i64L_at kk i (by rw [kk_length]; exact hi))
  simpa using this
theorem RTabs.kept {w w' : World} (h : RTabs w) (hb : ∀ k, k < 8 → w'.heap[k]? = w.heap[k]?) : RTabs w' := by
  constructor
  · intro j v hv
    rw [World.cell?_of_block (hb 4 (by omega))]
    exact h.tr j v hv
  · intro j v hv
    rw [World.cell?_of_block (hb 7 (by omega))]
    exact h.tp j v hv
theorem RTabs.below {w w' : World} {B : Nat} (h : RTabs w) (hb : Below B w w') (hB : 8 ≤ B) : RTabs w' := h.kept fun k hk => hb.block k (by omega)

theorem below_drewN (w : World) (n : Nat) : Below w.heap.size w (w.drewN n) := ⟨rfl, rfl, rfl, Nat.le_refl _, fun _ _ => rfl⟩

theorem ofInt_i64 (a : Nat) (ha : a < 4294967296) : (BitVec.ofInt 64 (a : Int)).toNat = a := by
  rw [BitVec.ofInt_natCast, BitVec.toNat_ofNat]; exact Nat.mod_eq_of_lt (by omega)
theorem i64_and_nat (a b : Nat) (ha : a < 4294967296) (hb : b < 4294967296) : bits .and .i64 (a : Int) (b : Int) = ((a &&& b : Nat) : Int) := by
  have hx : a &&& b < 2 ^ 32 := Nat.and_lt_two_pow _ (by omega)
  show IntKind.i64.wrap ((BitVec.ofInt 64 (a : Int) &&& BitVec.ofInt 64 (b : Int)).toNat : Int) = _
  rw [BitVec.toNat_and, ofInt_i64 a ha, ofInt_i64 b hb, IntKind.wrap_i64]
  omega
theorem i64_xor_nat (a b : Nat) (ha : a < 4294967296) (hb : b < 4294967296) : bits .xor .i64 (a : Int) (b : Int) = ((a ^^^ b : Nat) : Int) := by
  have hx : a ^^^ b < 2 ^ 32 := Nat.xor_lt_two_pow (by omega) (by omega)
  show IntKind.i64.wrap ((BitVec.ofInt 64 (a : Int) ^^^ BitVec.ofInt 64 (b : Int)).toNat : Int) = _
  rw [BitVec.toNat_xor, ofInt_i64 a ha, ofInt_i64 b hb, IntKind.wrap_i64]
  omega
theorem tdiv_nat (a b : Nat) : (a : Int).tdiv (b : Int) = ((a / b : Nat) : Int) := by
  rw [Int.tdiv_eq_ediv_of_nonneg (by omega)]
  rfl
theorem tmod_nat (a b : Nat) : (a : Int).tmod (b : Int) = ((a % b : Nat) : Int) := by
  rw [Int.tmod_eq_emod_of_nonneg (by omega)]
  rfl

theorem wrap64_nat (n : Nat) (h : n < 9223372036854775808) : wrap64 (n : Int) = (n : Int) := by unfold wrap64; omega

theorem right_any (x s : Nat) (w : World) (hr : RTabs w) (hx : x < 4294967296) (h2 : s ≤ 31) :
    Calls Tryz.prog 167 #[.int .i64 (x : Int), .int .i64 (s : Int)] w fun e w' => e = .returned (.int .i64 ((x / 2 ^ s : Nat) : Int)) ∧ w = w' := by
  have c1 := hr.pow s (by omega)
  obtain ⟨P, hP⟩ : ∃ P, 2 ^ s = P := ⟨_, rfl⟩
  have hP0 : 0 < P := by rw [← hP]; exact Nat.pow_pos (by omega)
  rw [hP] at c1 ⊢
  have hne : ((P : Int) == 0) = false := by simp; omega
  have HE : Hid (wrap64 ((x : Int) / (P : Int)) = ((x / P : Nat) : Int)) := by
    show _ = _
    have hle : x / P ≤ x := Nat.div_le_self _ _
    rw [← Int.natCast_ediv]
    exact wrap64_nat _ (by omega)
  clear hP
  go_enter Tryz.func167, Tryz.ntmps167
  go_wp2
  go_ret
  exact ⟨by rw [← HE.out]; rfl, rfl⟩

set_option maxRecDepth 20000 in
set_option maxHeartbeats 1000000 in
theorem rturn_any (x s : Nat) (w : World) (hr : RTabs w) (hx : x < 4294967296) (h1 : 1 ≤ s) (h2 : s ≤ 31) :
    Calls Tryz.prog 163 #[.int .i64 (x : Int), .int .i64 (s : Int)] w fun e w' => e = .returned (.int .i64 (rot x s : Int)) ∧ Below w.heap.size w w' := by
  have c1 := hr.pow s (by omega)
  have c2 := hr.pow (32 - s) (by omega)
  have HR : Hid (x / 2 ^ s + x % 2 ^ s * 2 ^ (32 - s) = rot x s) := rfl
  have hlt := rot_lt x s hx h1 h2
  obtain ⟨P, hP⟩ : ∃ P, 2 ^ s = P := ⟨_, rfl⟩
  obtain ⟨Q, hQ⟩ : ∃ Q, 2 ^ (32 - s) = Q := ⟨_, rfl⟩
  have hP0 : 0 < P := by rw [← hP]; exact Nat.pow_pos (by omega)
  rw [← HR.out] at hlt ⊢
  rw [hP] at c1
  rw [hQ] at c2
  rw [hP, hQ] at hlt ⊢
  clear HR hP hQ
  have hne : ((P : Int) == 0) = false := by simp; omega
  have hs1 : IntKind.i64.wrap (32 - (s : Int)) = ((32 - s : Nat) : Int) := by rw [IntKind.wrap_i64]; omega
  have HE : Hid (wrap64 (wrap64 ((x : Int) / (P : Int)) + wrap64 ((x : Int) % (P : Int) * (Q : Int))) = ((x / P + x % P * Q : Nat) : Int)) := by
    show _ = _
    have hbig : x / P + x % P * Q < 9223372036854775808 := Nat.lt_trans hlt (by decide)
    rw [← Int.natCast_ediv, ← Int.natCast_emod, ← Int.natCast_mul, wrap64_nat _ (Nat.lt_of_le_of_lt (Nat.le_add_right _ _) hbig), wrap64_nat _ (Nat.lt_of_le_of_lt (Nat.le_add_left _ _) hbig), ← Int.natCast_add, wrap64_nat _ hbig]
  have i1 : (s : Int) < 33 := by omega
  have i2 : ((32 - s : Nat) : Int) < 33 := by omega
  have i3 : (32 : Int) - (s : Int) < 33 := by omega
  have i4 : (0 : Int) ≤ (32 : Int) - (s : Int) := by omega
  have i5 : ((32 : Int) - (s : Int)).toNat = 32 - s := by omega
  go_enter Tryz.func163, Tryz.ntmps163
  go_wp2_with fail
  go_quiet (fail)
  go_wp2
  go_ret
  exact ⟨by rw [← HE.out]; rfl, below_drewN w nq⟩

set_option maxRecDepth 20000 in
theorem rlittle0_any (x : Nat) (w : World) (hr : RTabs w) (h4 : 8 ≤ w.heap.size) (hx : x < 4294967296) : Calls Tryz.prog 162 #[.int .i64 (x : Int)] w fun e w' => e = .returned (.int .i64 (little0 x : Int)) ∧ Below w.heap.size w w' := by
  have l1 := rot_lt x 7 hx (by omega) (by omega)
  have l2 := rot_lt x 18 hx (by omega) (by omega)
  have l3 : (x / 2 ^ 3) < 4294967296 := (Nat.lt_of_le_of_lt (Nat.div_le_self _ _) hx)
  have HX : Hid (bits .xor .i64 (bits .xor .i64 (rot x 7 : Int) (rot x 18 : Int)) (((x / 2 ^ 3) : Nat) : Int) = (little0 x : Int)) := by
    show _ = _
    rw [i64_xor_nat _ _ l1 l2, i64_xor_nat _ _ (xor_lt _ _ l1 l2) l3]
    rfl
  go_enter Tryz.func162, Tryz.ntmps162
  go_wp2_with fail
  refine (rturn_any x 7 w hr hx (by omega) (by omega)).mono ?_
  rintro e w1 ⟨rfl, hb1⟩
  have z1 := hb1.size
  go_wp2_with fail
  refine (rturn_any x 18 w1 (hr.below hb1 (by omega)) hx (by omega) (by omega)).mono ?_
  rintro e w2 ⟨rfl, hb2'⟩
  have hb2 := hb1.trans (hb2'.mono z1)
  clear hb1 hb2'
  have z2 := hb2.size
  go_wp2_with fail
  refine (right_any x 3 w2 (hr.below hb2 (by omega)) hx (by omega)).mono ?_
  rintro e w3 ⟨rfl, rfl⟩
  go_wp2
  go_ret
  exact ⟨by simp [← HX.out], hb2⟩
set_option maxRecDepth 20000 in
theorem rlittle1_any (x : Nat) (w : World) (hr : RTabs w) (h4 : 8 ≤ w.heap.size) (hx : x < 4294967296) : Calls Tryz.prog 161 #[.int .i64 (x : Int)] w fun e w' => e = .returned (.int .i64 (little1 x : Int)) ∧ Below w.heap.size w w' := by
  have l1 := rot_lt x 17 hx (by omega) (by omega)
  have l2 := rot_lt x 19 hx (by omega) (by omega)
  have l3 : (x / 2 ^ 10) < 4294967296 := (Nat.lt_of_le_of_lt (Nat.div_le_self _ _) hx)
  have HX : Hid (bits .xor .i64 (bits .xor .i64 (rot x 17 : Int) (rot x 19 : Int)) (((x / 2 ^ 10) : Nat) : Int) = (little1 x : Int)) := by
    show _ = _
    rw [i64_xor_nat _ _ l1 l2, i64_xor_nat _ _ (xor_lt _ _ l1 l2) l3]
    rfl
  go_enter Tryz.func161, Tryz.ntmps161
  go_wp2_with fail
  refine (rturn_any x 17 w hr hx (by omega) (by omega)).mono ?_
  rintro e w1 ⟨rfl, hb1⟩
  have z1 := hb1.size
  go_wp2_with fail
  refine (rturn_any x 19 w1 (hr.below hb1 (by omega)) hx (by omega) (by omega)).mono ?_
  rintro e w2 ⟨rfl, hb2'⟩
  have hb2 := hb1.trans (hb2'.mono z1)
  clear hb1 hb2'
  have z2 := hb2.size
  go_wp2_with fail
  refine (right_any x 10 w2 (hr.below hb2 (by omega)) hx (by omega)).mono ?_
  rintro e w3 ⟨rfl, rfl⟩
  go_wp2
  go_ret
  exact ⟨by simp [← HX.out], hb2⟩
set_option maxRecDepth 20000 in
theorem rbig0_any (x : Nat) (w : World) (hr : RTabs w) (h4 : 8 ≤ w.heap.size) (hx : x < 4294967296) : Calls Tryz.prog 154 #[.int .i64 (x : Int)] w fun e w' => e = .returned (.int .i64 (big0 x : Int)) ∧ Below w.heap.size w w' := by
  have l1 := rot_lt x 2 hx (by omega) (by omega)
  have l2 := rot_lt x 13 hx (by omega) (by omega)
  have l3 : (rot x 22) < 4294967296 := (rot_lt x 22 hx (by omega) (by omega))
  have HX : Hid (bits .xor .i64 (bits .xor .i64 (rot x 2 : Int) (rot x 13 : Int)) (((rot x 22) : Nat) : Int) = (big0 x : Int)) := by
    show _ = _
    rw [i64_xor_nat _ _ l1 l2, i64_xor_nat _ _ (xor_lt _ _ l1 l2) l3]
    rfl
  go_enter Tryz.func154, Tryz.ntmps154
  go_wp2_with fail
  refine (rturn_any x 2 w hr hx (by omega) (by omega)).mono ?_
  rintro e w1 ⟨rfl, hb1⟩
  have z1 := hb1.size
  go_wp2_with fail
  refine (rturn_any x 13 w1 (hr.below hb1 (by omega)) hx (by omega) (by omega)).mono ?_
  rintro e w2 ⟨rfl, hb2'⟩
  have hb2 := hb1.trans (hb2'.mono z1)
  clear hb1 hb2'
  have z2 := hb2.size
  go_wp2_with fail
  refine (rturn_any x 22 w2 (hr.below hb2 (by omega)) hx (by omega) (by omega)).mono ?_
  rintro e w3 ⟨rfl, hb3⟩
  go_wp2
  go_ret
  exact ⟨by simp [← HX.out], hb2.trans (hb3.mono z2)⟩
set_option maxRecDepth 20000 in
theorem rbig1_any (x : Nat) (w : World) (hr : RTabs w) (h4 : 8 ≤ w.heap.size) (hx : x < 4294967296) : Calls Tryz.prog 153 #[.int .i64 (x : Int)] w fun e w' => e = .returned (.int .i64 (big1 x : Int)) ∧ Below w.heap.size w w' := by
  have l1 := rot_lt x 6 hx (by omega) (by omega)
  have l2 := rot_lt x 11 hx (by omega) (by omega)
  have l3 : (rot x 25) < 4294967296 := (rot_lt x 25 hx (by omega) (by omega))
  have HX : Hid (bits .xor .i64 (bits .xor .i64 (rot x 6 : Int) (rot x 11 : Int)) (((rot x 25) : Nat) : Int) = (big1 x : Int)) := by
    show _ = _
    rw [i64_xor_nat _ _ l1 l2, i64_xor_nat _ _ (xor_lt _ _ l1 l2) l3]
    rfl
  go_enter Tryz.func153, Tryz.ntmps153
  go_wp2_with fail
  refine (rturn_any x 6 w hr hx (by omega) (by omega)).mono ?_
  rintro e w1 ⟨rfl, hb1⟩
  have z1 := hb1.size
  go_wp2_with fail
  refine (rturn_any x 11 w1 (hr.below hb1 (by omega)) hx (by omega) (by omega)).mono ?_
  rintro e w2 ⟨rfl, hb2'⟩
  have hb2 := hb1.trans (hb2'.mono z1)
  clear hb1 hb2'
  have z2 := hb2.size
  go_wp2_with fail
  refine (rturn_any x 25 w2 (hr.below hb2 (by omega)) hx (by omega) (by omega)).mono ?_
  rintro e w3 ⟨rfl, hb3⟩
  go_wp2
  go_ret
  exact ⟨by simp [← HX.out], hb2.trans (hb3.mono z2)⟩

end Go.Proofs.YtengclnahppmhaaGreatDoor

namespace Go.Proofs.YtengclnahppmhaaGreatDoor
open Go.RowKit Go.Lib Go.Deep

theorem rindex_at {P : Program} (w : World) (t : TypeId) (s : ByteArray) (k : IntKind) (z : Int) (i : Nat) (c : UInt8) (h : P.underlying t = some .string) (hz : z = (i : Int)) (hc : s.data.toList[i]? = some c) :
    (Instr.index t (.string s) (.int k z)).run P w = .ok (.int .u8 (c.toNat : Int)) w := by
  subst hz
  exact index_at w t s k i c h hc

def fourN (l : List UInt8) (i : Nat) : Nat := 16777216 * (l.getD i 0).toNat + 65536 * (l.getD (i + 1) 0).toNat + 256 * (l.getD (i + 2) 0).toNat + (l.getD (i + 3) 0).toNat
theorem getD_block (l : List UInt8) (at_ j : Nat) (hj : j < 64) : ((l.drop at_).take 64).getD j 0 = l.getD (at_ + j) 0 := by
  rw [List.getD_eq_getElem?_getD, List.getD_eq_getElem?_getD, List.getElem?_take, if_pos hj, List.getElem?_drop]
theorem fourN_word (l : List UInt8) (at_ i : Nat) (hi : i < 16) : fourN l (at_ + 4 * i) = word ((l.drop at_).take 64) i := by
  unfold fourN word
  rw [getD_block l at_ (4 * i) (by omega), getD_block l at_ (4 * i + 1) (by omega), getD_block l at_ (4 * i + 2) (by omega), getD_block l at_ (4 * i + 3) (by omega)]
  simp only [Nat.add_assoc]

set_option maxRecDepth 20000 in
set_option maxHeartbeats 1000000 in
theorem four_any (s : ByteArray) (i : Nat) (h : i + 4 ≤ s.size) (hs : s.size ≤ 9223372036854775807) (w : World) :
    Calls Tryz.prog 160 #[.string s, .int .i64 (i : Int)] w fun e w' => e = .returned (.int .i64 (fourN s.data.toList i : Int)) ∧ Below w.heap.size w w' := by
  have hl : s.data.toList.length = s.size := (size_eq s).symm
  have g : ∀ j, j < 4 → s.data.toList[i + j]? = some (s.data.toList.getD (i + j) 0) := fun j hj => by
    rw [List.getD_eq_getElem?_getD, List.getElem?_eq_getElem (by omega)]
    rfl
  have h0 := fun W => rindex_at (P := Tryz.prog) W 9 s .i64 (i : Int) i _ Tryz.underlying9 rfl (g 0 (by omega))
  have h1 := fun W => rindex_at (P := Tryz.prog) W 9 s .i64 ((i : Int) + 1) (i + 1) _ Tryz.underlying9 (by omega) (g 1 (by omega))
  have h2 := fun W => rindex_at (P := Tryz.prog) W 9 s .i64 ((i : Int) + 2) (i + 2) _ Tryz.underlying9 (by omega) (g 2 (by omega))
  have h3 := fun W => rindex_at (P := Tryz.prog) W 9 s .i64 ((i : Int) + 3) (i + 3) _ Tryz.underlying9 (by omega) (g 3 (by omega))
  have HF : Hid (fourN s.data.toList i = 16777216 * (s.data.toList.getD (i + 0) 0).toNat + 65536 * (s.data.toList.getD (i + 1) 0).toNat + 256 * (s.data.toList.getD (i + 2) 0).toNat + (s.data.toList.getD (i + 3) 0).toNat) := rfl
  have l0 := (s.data.toList.getD (i + 0) 0).toNat_lt
  have l1 := (s.data.toList.getD (i + 1) 0).toNat_lt
  have l2 := (s.data.toList.getD (i + 2) 0).toNat_lt
  have l3 := (s.data.toList.getD (i + 3) 0).toNat_lt
  clear g
  revert h0 h1 h2 h3 HF l0 l1 l2 l3
  generalize (s.data.toList.getD (i + 0) 0).toNat = x0
  generalize (s.data.toList.getD (i + 1) 0).toNat = x1
  generalize (s.data.toList.getD (i + 2) 0).toNat = x2
  generalize (s.data.toList.getD (i + 3) 0).toNat = x3
  intro h0 h1 h2 h3 HF l0 l1 l2 l3
  clear hl
  have a1 : IntKind.i64.wrap ((i : Int) + 1) = (i : Int) + 1 := by rw [IntKind.wrap_i64]; omega
  have a2 : IntKind.i64.wrap ((i : Int) + 2) = (i : Int) + 2 := by rw [IntKind.wrap_i64]; omega
  have a3 : IntKind.i64.wrap ((i : Int) + 3) = (i : Int) + 3 := by rw [IntKind.wrap_i64]; omega
  go_enter Tryz.func160, Tryz.ntmps160
  go_wp2_with fail
  go_quiet (fail)
  go_wp2
  go_ret
  refine ⟨?_, below_drewN w nq⟩
  rw [HF.out]
  simp
  try omega

/-- the two blocks of schedule -/
structure Rs (w wr : World) (ws : List Nat) : Prop where
  res : ∃ z : Array Value, z.size = 64 ∧ wr.heap[w.heap.size]? = some (.cells z 197 (0, 0))
  own : wr.heap[w.heap.size + 1]? = some (.cells (i64s (pad ws)) 197 (0, 0))
  bel : Below w.heap.size w wr
theorem ipad_set (l : List Nat) (x : Nat) (h : l.length < 64) : (i64s (pad l)).setIfInBounds l.length (.int .i64 (x : Int)) = i64s (pad (l ++ [x])) := by
  have e : 64 - l.length = (64 - (l.length + 1)) + 1 := by omega
  simp [i64s, i64L, pad, e, List.replicate_succ]
theorem Rs.put {w wr : World} {ws : List Nat} (h : Rs w wr ws) (x : Nat) (hl : ws.length < 64) : Rs w (wr.setCell ⟨w.heap.size + 1, ws.length, none⟩ (.int .i64 (x : Int))) (ws ++ [x]) := by
  obtain ⟨z, hz, hr⟩ := h.res
  refine ⟨⟨z, hz, ?_⟩, ?_, h.bel.setCell (by simp) _⟩
  · rw [← hr]; exact Below.heap_setCell _ _ _ _ (by simp)
  · rw [← ipad_set ws x hl]; exact heap_setCell_same _ _ _ _ _ _ h.own
theorem Rs.cell {w wr : World} {ws : List Nat} (h : Rs w wr ws) (i : Nat) (hi : i < ws.length) (hl : ws.length ≤ 64) : wr.cell? ⟨w.heap.size + 1, i, none⟩ = some (.int .i64 ((ws.getD i 0 : Nat) : Int)) := by
  rw [cell_of_heap h.own, i64s_at _ _ (by rw [pad_length _ hl]; omega), pad_at _ _ hi]
theorem Rs.next {w wr : World} {ws : List Nat} (h : Rs w wr ws) (hl : ws.length < 64) : wr.cell? ⟨w.heap.size + 1, ws.length, none⟩ = some (.int .i64 0) := by
  rw [cell_of_heap h.own, i64s_at _ _ (by rw [pad_length _ (by omega)]; omega), pad_next _ hl]
  rfl
theorem Rs.under {w wr w' : World} {ws : List Nat} (h : Rs w wr ws) (hb : Below wr.heap.size wr w') : Rs w w' ws := by
  have hlt := heap_lt h.own
  obtain ⟨z, hz, hr⟩ := h.res
  exact ⟨⟨z, hz, (hb.block _ (by omega)).trans hr⟩, (hb.block _ hlt).trans h.own, h.bel.trans (hb.mono h.bel.size)⟩
theorem Rs.drew {w wr : World} {ws : List Nat} (h : Rs w wr ws) : Rs w wr.drew ws := ⟨h.res, h.own, h.bel.drew⟩
theorem Rs.start (w : World) (z z' : Array Value) (hz : z.size = 64) (hz' : z' = i64s (pad [])) : Rs w ((w.alloc (.cells z 197)).alloc (.cells z' 197)) [] := by
  subst hz'
  refine ⟨⟨z, hz, ?_⟩, ?_, ((Below.refl _ _).alloc (Nat.le_refl _) _).alloc (by simp) _⟩
  · rw [Below.heap_alloc _ _ _ (by simp)]
    exact heap_new _ _
  · have h := heap_new (w.alloc (.cells z 197)) (.cells (i64s (pad [])) 197)
    simpa using h
theorem isize64 : (Tryz.prog.info? 197).map (·.size) = some 64 := by kernel_rfl

set_option maxRecDepth 20000 in
set_option maxHeartbeats 4000000 in
theorem schedule_any (s : ByteArray) (at_ : Nat) (h : at_ + 64 ≤ s.size) (hs : s.size ≤ 9223372036854775807) (w : World) (hr : RTabs w) (h4 : 8 ≤ w.heap.size) (b : List UInt8) (hb : (s.data.toList.drop at_).take 64 = b) :
    Calls Tryz.prog 152 #[.string s, .int .i64 (at_ : Int)] w fun e w' => e = .returned (.agg (i64s (sched b))) ∧ Below w.heap.size w w' := by
  go_enter Tryz.func152, Tryz.ntmps152
  go_wp2
  go_loopg [6] 16 (fun gk i wr => ∃ k : Nat, k + gk = 16 ∧ i = .int .i64 k ∧ Rs w wr (wordsN b k))
  case atStart => exact ⟨0, by omega, rfl, Rs.start w _ _ rfl rfl⟩
  case round =>
    obtain ⟨k, hk, rfl, HS⟩ := hrel
    have HK : Hid (k + gk = 16) := hk
    have hk' : k ≤ 16 := by omega
    clear hk
    by_cases hlt : k < 16
    · have hfo := fun W => four_any s (at_ + 4 * k) (by omega) hs W
      rw [fourN_word _ _ _ hlt, hb, show ((at_ + 4 * k : Nat) : Int) = (at_ : Int) + 4 * (k : Int) by omega] at hfo
      have lw := word_lt b k
      have HP : Hid (∀ W, Below wr.heap.size wr W → Rs w (W.setCell ⟨w.heap.size + 1, k, none⟩ (.int .i64 (word b k : Int))) (wordsN b (k + 1)) ∧ W.cell? ⟨w.heap.size + 1, k, none⟩ = some (.int .i64 0) ∧ W.frozen? ⟨w.heap.size + 1, k, none⟩ = false) := fun W hbW => by
        have HS' := HS.under hbW
        have h1 := HS'.put (word b k) (by rw [wordsN_length]; omega)
        have h2 := HS'.next (by rw [wordsN_length]; omega)
        rw [← wordsN_succ, wordsN_length] at h1
        rw [wordsN_length] at h2
        exact ⟨h1, h2, frozen_of_heap HS'.own⟩
      clear HS
      revert hfo lw HP
      generalize word b k = x
      intro hfo lw HP
      have a1 : IntKind.i64.wrap ((at_ : Int) + 4 * (k : Int)) = (at_ : Int) + 4 * (k : Int) := by rw [IntKind.wrap_i64]; omega
      go_wp2_with (go_at_call 160; refine (hfo _).mono ?_; rintro e w1 ⟨rfl, hb1⟩; have c1 := (HP.out w1 hb1).2.1; have f1 := (HP.out w1 hb1).2.2)
      have R := (HP.out w1 hb1).1
      go_roundg (gk - 1)
      case measure => have := HK.out; omega
      case rel => exact ⟨k + 1, by have := HK.out; omega, by go_num, R⟩
    · obtain rfl : k = 16 := by omega
      go_wp2
      go_loopg [7] 48 (fun gk i wr => ∃ m : Nat, m + gk = 48 ∧ i = .int .i64 ((m : Int) + 16) ∧ Rs w wr (schedN (wordsN b 16) m))
      case atStart => exact ⟨0, by omega, rfl, HS⟩
      case round =>
        clear HS
        obtain ⟨m, hm, rfl, HS⟩ := hrel
        have HK : Hid (m + gk = 48) := hm
        have hm' : m ≤ 48 := by omega
        clear hm
        have hwl : (schedN (wordsN b 16) m).length = m + 16 := by rw [schedN_length, wordsN_length]; omega
        have HW : Hid (∀ x ∈ schedN (wordsN b 16) m, x < 4294967296) := schedN_lt _ (wordsN_lt b 16) _
        have HN : Hid (schedN (wordsN b 16) (m + 1) = schedN (wordsN b 16) m ++ [more (schedN (wordsN b 16) m)]) := rfl
        have HE : Hid (m = 48 → schedN (wordsN b 16) m = sched b) := fun h => by subst h; rfl
        generalize schedN (wordsN b 16) m = ws at HS hwl HW HN HE
        by_cases hlt : m < 48
        · have c1 : ∀ W, Rs w W ws → W.cell? ⟨w.heap.size + 1, m + 14, none⟩ = some (.int .i64 ((ws.getD (m + 14) 0 : Nat) : Int)) := fun W h => h.cell (m + 14) (by omega) (by omega)
          have c2 : ∀ W, Rs w W ws → W.cell? ⟨w.heap.size + 1, m + 9, none⟩ = some (.int .i64 ((ws.getD (m + 9) 0 : Nat) : Int)) := fun W h => h.cell (m + 9) (by omega) (by omega)
          have c3 : ∀ W, Rs w W ws → W.cell? ⟨w.heap.size + 1, m + 1, none⟩ = some (.int .i64 ((ws.getD (m + 1) 0 : Nat) : Int)) := fun W h => h.cell (m + 1) (by omega) (by omega)
          have c4 : ∀ W, Rs w W ws → W.cell? ⟨w.heap.size + 1, m, none⟩ = some (.int .i64 ((ws.getD m 0 : Nat) : Int)) := fun W h => h.cell m (by omega) (by omega)
          have l1 := getD_lt HW.out (m + 14)
          have l2 := getD_lt HW.out (m + 9)
          have l3 := getD_lt HW.out (m + 1)
          have l4 := getD_lt HW.out m
          have HM : Hid (more ws = (little1 (ws.getD (m + 14) 0) + ws.getD (m + 9) 0 + little0 (ws.getD (m + 1) 0) + ws.getD m 0) % 4294967296) := by unfold more; rw [hwl]; rfl
          generalize ws.getD (m + 14) 0 = x1 at c1 l1 HM
          generalize ws.getD (m + 9) 0 = x2 at c2 l2 HM
          generalize ws.getD (m + 1) 0 = x3 at c3 l3 HM
          generalize ws.getD m 0 = x4 at c4 l4 HM
          have HL : Hid (ws.length = m + 16) := hwl
          clear hwl
          have HC : Hid ((∀ W, Rs w W ws → W.cell? ⟨w.heap.size + 1, m + 14, none⟩ = some (.int .i64 (x1 : Int))) ∧ (∀ W, Rs w W ws → W.cell? ⟨w.heap.size + 1, m + 9, none⟩ = some (.int .i64 (x2 : Int))) ∧ (∀ W, Rs w W ws → W.cell? ⟨w.heap.size + 1, m + 1, none⟩ = some (.int .i64 (x3 : Int))) ∧ (∀ W, Rs w W ws → W.cell? ⟨w.heap.size + 1, m, none⟩ = some (.int .i64 (x4 : Int)))) := ⟨c1, c2, c3, c4⟩
          clear c1 c2 c3 c4
          have s1 : IntKind.i64.wrap ((m : Int) + 16 - 2) = ((m + 14 : Nat) : Int) := by rw [IntKind.wrap_i64]; omega
          have s2 : IntKind.i64.wrap ((m : Int) + 16 - 7) = ((m + 9 : Nat) : Int) := by rw [IntKind.wrap_i64]; omega
          have s3 : IntKind.i64.wrap ((m : Int) + 16 - 15) = ((m + 1 : Nat) : Int) := by rw [IntKind.wrap_i64]; omega
          have s4 : IntKind.i64.wrap ((m : Int) + 16 - 16) = ((m : Nat) : Int) := by rw [IntKind.wrap_i64]; omega
          have s5 : IntKind.i64.wrap (m : Int) = (m : Int) := by rw [IntKind.wrap_i64]; omega
          have q0 : (m : Int) < 64 := by omega
          have q1' : (m : Int) + 14 < 64 := by omega
          have q2' : (m : Int) + 9 < 64 := by omega
          have q3' : (m : Int) + 1 < 64 := by omega
          have q4' : (m : Int) + 16 < 64 := by omega
          have r1 : (0 : Int) ≤ (m : Int) + 14 := by omega
          have r2 : (0 : Int) ≤ (m : Int) + 9 := by omega
          have r3 : (0 : Int) ≤ (m : Int) + 1 := by omega
          have r4 : (0 : Int) ≤ (m : Int) + 16 := by omega
          have t1 : ((m : Int) + 14).toNat = m + 14 := by omega
          have t2 : ((m : Int) + 9).toNat = m + 9 := by omega
          have t3 : ((m : Int) + 1).toNat = m + 1 := by omega
          have t4 : ((m : Int) + 16).toNat = m + 16 := by omega
          have b1 := little1_lt x1 l1
          have b0 := little0_lt x3 l3
          have hli1 := fun W hR h4 => rlittle1_any x1 W hR h4 l1
          have hli0 := fun W hR h4 => rlittle0_any x3 W hR h4 l3
          revert hli1 hli0 b1 b0 HM
          generalize little1 x1 = y1
          generalize little0 x3 = y0
          intro HM b1 b0 hli1 hli0
          have c1 := HC.out.1 _ HS
          have z0 := HS.bel.size
          go_wp2_with fail
          refine (hli1 wr (hr.below HS.bel h4) (by omega)).mono ?_
          rintro e w1 ⟨rfl, hb1⟩
          have HS1 := HS.under hb1
          clear hb1 HS c1
          have c1 := HC.out.2.2.1 _ HS1
          have z1 := HS1.bel.size
          go_wp2_with fail
          refine (hli0 w1 (hr.below HS1.bel h4) (by omega)).mono ?_
          rintro e w2 ⟨rfl, hb2⟩
          have HS2 := HS1.under hb2
          clear hb2 HS1 c1
          have c2 := HC.out.2.1 _ HS2
          have c4 := HC.out.2.2.2 _ HS2
          have c5 := HS2.next (by have := HL.out; omega)
          have f5 : w2.frozen? ⟨w.heap.size + 1, ws.length, none⟩ = false := frozen_of_heap HS2.own
          rw [HL.out] at c5 f5
          have R0 := (HS2.put (more ws) (by have := HL.out; omega)).drew
          rw [← HN.out, HL.out, HM.out, show (((y1 + x2 + y0 + x4) % 4294967296 : Nat) : Int) = ((y1 : Int) + (x2 : Int) + (y0 : Int) + (x4 : Int)) % 4294967296 by omega] at R0
          have R : Hid (Rs w (w2.setCell ⟨w.heap.size + 1, m + 16, none⟩ (.int .i64 (((y1 : Int) + (x2 : Int) + (y0 : Int) + (x4 : Int)) % 4294967296))).drew (schedN (wordsN b 16) (m + 1))) := R0
          clear R0
          have tm : ((y1 : Int) + (x2 : Int) + (y0 : Int) + (x4 : Int)).tmod 4294967296 = (((y1 + x2 + y0 + x4) % 4294967296 : Nat) : Int) := by rw [Int.tmod_eq_emod_of_nonneg (by omega)]; omega
          clear HS2 hli0 hli1
          go_wp2_with fail
          go_region
          all_goals
            go_wp2
            go_roundg (gk - 1)
            case measure => have := HK.out; omega
            case rel => exact ⟨m + 1, by have := HK.out; omega, by go_num, R.out⟩
        · have HL := hwl
          clear hwl
          have e48 : m = 48 := by omega
          have HQ : Hid (ws = sched b) := HE.out e48
          have hl64 : ws.length = 64 := by have := HL; omega
          have hown := HS.own
          obtain ⟨z, hz, hres⟩ := HS.res
          rw [pad_full _ hl64] at hown
          have hbel := HS.bel
          have hth : wr.there w.heap.size 0 (i64s ws).size := there_of_heap hres (by rw [i64s_size, hl64]; omega)
          have hsz : (Tryz.prog.info? 197).map (·.size) = some (i64s ws).size := by rw [i64s_size, hl64]; exact isize64
          have hone : (i64s ws).all (·.oneCell') = true := all_oneCell_toArray (i64L_one _)
          have hr := heap_setCells w.heap.size 197 (i64s ws).toList 0 _ _ hres
          rw [setMany_all _ _ (by rw [hz, Array.length_toList, i64s_size, hl64]), Array.toArray_toList] at hr
          have HR : Hid ((wr.setCells w.heap.size 0 (i64s ws).toList).heap[w.heap.size]? = some (.cells (i64s ws) 197 (0, 0))) := hr
          clear HS HE HN HW HL hl64 hr hres
          subst e48
          go_wp2_with (first | (refine wpList_load_row rfl 197 (.tmp 5) rfl (w.heap.size + 1) rfl 197 _ (0, 0) _ hown Tryz.underlying197 rfl hsz ?_) | (refine wpList_store_mid rfl 197 (.tmp 4) (.tmp 52) rfl w.heap.size 0 _ rfl rfl hth hsz hone ?_))
          refine bodyPost_ret (results_cell_row rfl _ _ w.heap.size 197 _ (0, 0) _ rfl HR.out Tryz.underlying197 rfl hsz) rfl ?_
          rw [HQ.out]
          exact ⟨rfl, Below.setCells hbel (Nat.le_refl _) _ _⟩

end Go.Proofs.YtengclnahppmhaaGreatDoor

namespace Go.Proofs.YtengclnahppmhaaGreatDoor
open Go.RowKit Go.Lib Go.Deep

def pad68 (l : List Nat) : List Nat := l ++ List.replicate (68 - l.length) 0
theorem pad68_length (l : List Nat) (h : l.length ≤ 68) : (pad68 l).length = 68 := by simp [pad68]; omega
theorem pad68_at (l : List Nat) (i : Nat) (h : i < l.length) : (pad68 l).getD i 0 = l.getD i 0 := by
  rw [List.getD_eq_getElem?_getD, List.getD_eq_getElem?_getD, pad68, List.getElem?_append_left h]
theorem pad68_next (l : List Nat) (h : l.length < 68) : (pad68 l).getD l.length 0 = 0 := by
  rw [List.getD_eq_getElem?_getD, pad68, List.getElem?_append_right (Nat.le_refl _), Nat.sub_self, List.getElem?_replicate, if_pos (by omega)]
  rfl
theorem pad68_set (l : List Nat) (x : Nat) (h : l.length < 68) : (i64s (pad68 l)).setIfInBounds l.length (.int .i64 (x : Int)) = i64s (pad68 (l ++ [x])) := by
  have e : 68 - l.length = (68 - (l.length + 1)) + 1 := by omega
  simp [i64s, i64L, pad68, e, List.replicate_succ]

/-- the last four of a row's values -/
structure Hist (l : List Nat) (k a b c d : Nat) : Prop where
  len : l.length = k + 4
  a3 : l.getD (k + 3) 0 = a
  a2 : l.getD (k + 2) 0 = b
  a1 : l.getD (k + 1) 0 = c
  a0 : l.getD k 0 = d
theorem Hist.step {l : List Nat} {k a b c d : Nat} (h : Hist l k a b c d) (x : Nat) : Hist (l ++ [x]) (k + 1) x a b c := by
  have hl := h.len
  have g : ∀ i, i < k + 4 → (l ++ [x]).getD i 0 = l.getD i 0 := fun i hi => by rw [List.getD_eq_getElem?_getD, List.getD_eq_getElem?_getD, List.getElem?_append_left (by omega)]
  refine ⟨by rw [List.length_append]; simp; omega, ?_, (g _ (by omega)).trans h.a3, (g _ (by omega)).trans h.a2, (g _ (by omega)).trans h.a1⟩
  rw [List.getD_eq_getElem?_getD, List.getElem?_append_right (by omega), hl]
  simp

/-- the blocks of 'block' -/
structure Rb (w wr : World) (s : W8) (ws : List Nat) (n : Nat) (av ev : List Nat) : Prop where
  old : wr.heap[w.heap.size]? = some (.cells (i64s s.list) 161 (0, 0))
  res : ∃ z : Array Value, z.size = 8 ∧ wr.heap[w.heap.size + 1]? = some (.cells z 161 (0, 0))
  sp : wr.heap[n]? = some (.cells (i64s ws) 197 (0, 0))
  pa : wr.heap[n + 1]? = some (.cells (i64s (pad68 av)) 199 (0, 0))
  pe : wr.heap[n + 1 + 1]? = some (.cells (i64s (pad68 ev)) 199 (0, 0))
  bel : Below w.heap.size w wr
  ord : w.heap.size + 1 < n

theorem Rb.under {w wr w' : World} {s : W8} {ws : List Nat} {n : Nat} {av ev : List Nat} (h : Rb w wr s ws n av ev) (hb : Below wr.heap.size wr w') : Rb w w' s ws n av ev := by
  obtain ⟨z, hz, hr⟩ := h.res
  exact ⟨(hb.block _ (heap_lt h.old)).trans h.old, ⟨z, hz, (hb.block _ (heap_lt hr)).trans hr⟩, (hb.block _ (heap_lt h.sp)).trans h.sp, (hb.block _ (heap_lt h.pa)).trans h.pa, (hb.block _ (heap_lt h.pe)).trans h.pe, h.bel.trans (hb.mono h.bel.size), h.ord⟩
theorem Rb.putA {w wr : World} {s : W8} {ws : List Nat} {n : Nat} {av ev : List Nat} (h : Rb w wr s ws n av ev) (x : Nat) (hl : av.length < 68) : Rb w (wr.setCell ⟨n + 1, av.length, none⟩ (.int .i64 (x : Int))) s ws n (av ++ [x]) ev := by
  obtain ⟨z, hz, hr⟩ := h.res
  have ho := h.ord
  refine ⟨(Below.heap_setCell _ _ _ _ (by simp; omega)).trans h.old, ⟨z, hz, (Below.heap_setCell _ _ _ _ (by simp; omega)).trans hr⟩, (Below.heap_setCell _ _ _ _ (by simp)).trans h.sp, ?_, (Below.heap_setCell _ _ _ _ (by simp)).trans h.pe, h.bel.setCell (by simp; omega) _, ho⟩
  rw [← pad68_set av x hl]; exact heap_setCell_same _ _ _ _ _ _ h.pa
theorem Rb.putE {w wr : World} {s : W8} {ws : List Nat} {n : Nat} {av ev : List Nat} (h : Rb w wr s ws n av ev) (x : Nat) (hl : ev.length < 68) : Rb w (wr.setCell ⟨n + 1 + 1, ev.length, none⟩ (.int .i64 (x : Int))) s ws n av (ev ++ [x]) := by
  obtain ⟨z, hz, hr⟩ := h.res
  have ho := h.ord
  refine ⟨(Below.heap_setCell _ _ _ _ (by simp; omega)).trans h.old, ⟨z, hz, (Below.heap_setCell _ _ _ _ (by simp; omega)).trans hr⟩, (Below.heap_setCell _ _ _ _ (by simp; omega)).trans h.sp, (Below.heap_setCell _ _ _ _ (by simp)).trans h.pa, ?_, h.bel.setCell (by simp; omega) _, ho⟩
  rw [← pad68_set ev x hl]; exact heap_setCell_same _ _ _ _ _ _ h.pe
theorem Rb.cellA {w wr : World} {s : W8} {ws : List Nat} {n : Nat} {av ev : List Nat} (h : Rb w wr s ws n av ev) (i : Nat) (hi : i < av.length) (hl : av.length ≤ 68) : wr.cell? ⟨n + 1, i, none⟩ = some (.int .i64 ((av.getD i 0 : Nat) : Int)) := by
  rw [cell_of_heap h.pa, i64s_at _ _ (by rw [pad68_length _ hl]; omega), pad68_at _ _ hi]
theorem Rb.cellE {w wr : World} {s : W8} {ws : List Nat} {n : Nat} {av ev : List Nat} (h : Rb w wr s ws n av ev) (i : Nat) (hi : i < ev.length) (hl : ev.length ≤ 68) : wr.cell? ⟨n + 1 + 1, i, none⟩ = some (.int .i64 ((ev.getD i 0 : Nat) : Int)) := by
  rw [cell_of_heap h.pe, i64s_at _ _ (by rw [pad68_length _ hl]; omega), pad68_at _ _ hi]
theorem Rb.nextA {w wr : World} {s : W8} {ws : List Nat} {n : Nat} {av ev : List Nat} (h : Rb w wr s ws n av ev) (hl : av.length < 68) : wr.cell? ⟨n + 1, av.length, none⟩ = some (.int .i64 0) := by
  rw [cell_of_heap h.pa, i64s_at _ _ (by rw [pad68_length _ (by omega)]; omega), pad68_next _ hl]
  rfl
theorem Rb.nextE {w wr : World} {s : W8} {ws : List Nat} {n : Nat} {av ev : List Nat} (h : Rb w wr s ws n av ev) (hl : ev.length < 68) : wr.cell? ⟨n + 1 + 1, ev.length, none⟩ = some (.int .i64 0) := by
  rw [cell_of_heap h.pe, i64s_at _ _ (by rw [pad68_length _ (by omega)]; omega), pad68_next _ hl]
  rfl
theorem Rb.cellW {w wr : World} {s : W8} {ws : List Nat} {n : Nat} {av ev : List Nat} (h : Rb w wr s ws n av ev) (i : Nat) (hi : i < ws.length) : wr.cell? ⟨n, i, none⟩ = some (.int .i64 ((ws.getD i 0 : Nat) : Int)) := by
  rw [cell_of_heap h.sp, i64s_at _ _ hi]
theorem Rb.cellO {w wr : World} {s : W8} {ws : List Nat} {n : Nat} {av ev : List Nat} (h : Rb w wr s ws n av ev) (i : Nat) (hi : i < 8) : wr.cell? ⟨w.heap.size, i, none⟩ = some (.int .i64 ((s.list.getD i 0 : Nat) : Int)) := by
  rw [cell_of_heap h.old, i64s_at _ _ hi]

theorem Rb.start (w : World) (s : W8) (ws : List Nat) (hl : ws.length = 64) (w1 : World) (z8 z68 z68' : Array Value) (h8 : z8.size = 8) (hz : z68 = i64s (pad68 [])) (hz' : z68' = i64s (pad68 []))
    (hb : Below ((w.alloc (.cells (i64s s.list) 161)).alloc (.cells z8 161)).heap.size ((w.alloc (.cells (i64s s.list) 161)).alloc (.cells z8 161)) w1) (z : Array Value) (hz64 : z.size = 64) :
    Rb w ((((w1.alloc (.cells z 197)).setCells w1.heap.size 0 (i64s ws).toList).alloc (.cells z68 199)).alloc (.cells z68' 199)) s ws w1.heap.size [] [] := by
  subst hz hz'
  have hsz := hb.size
  simp only [World.size_alloc] at hsz
  have hw : Below w.heap.size w w1 := ((Below.refl w.heap.size w).alloc (Nat.le_refl _) _).alloc (by simp) _ |>.trans (hb.mono (by simp; omega))
  have hsc := (size_setCells w1.heap.size (i64s ws).toList 0 (w1.alloc (.cells z 197))).1
  simp only [World.size_alloc] at hsc
  have hold : ∀ k, k < w1.heap.size → ((((w1.alloc (.cells z 197)).setCells w1.heap.size 0 (i64s ws).toList).alloc (.cells (i64s (pad68 [])) 199)).alloc (.cells (i64s (pad68 [])) 199)).heap[k]? = w1.heap[k]? := by
    intro k hk
    rw [Below.heap_alloc _ _ _ (by simp; omega), Below.heap_alloc _ _ _ (by omega), heap_setCells_other _ _ (by omega), Below.heap_alloc _ _ _ (by omega)]
  have hbel : Below w.heap.size w ((((w1.alloc (.cells z 197)).setCells w1.heap.size 0 (i64s ws).toList).alloc (.cells (i64s (pad68 [])) 199)).alloc (.cells (i64s (pad68 [])) 199)) :=
    ((Below.setCells (hw.alloc (by omega) _) (by omega) _ _).alloc (by omega) _).alloc (by simp; omega) _
  have h0 : w1.heap[w.heap.size]? = some (.cells (i64s s.list) 161 (0, 0)) := by
    rw [hb.block _ (by simp; omega), Below.heap_alloc _ _ _ (by simp)]
    exact heap_new _ _
  have h1 : w1.heap[w.heap.size + 1]? = some (.cells z8 161 (0, 0)) := by
    rw [hb.block _ (by simp)]
    have h := heap_new (w.alloc (.cells (i64s s.list) 161)) (.cells z8 161)
    simpa using h
  refine ⟨(hold _ (by omega)).trans h0, ⟨z8, h8, (hold _ (by omega)).trans h1⟩, ?_, ?_, ?_, hbel, by omega⟩
  · rw [Below.heap_alloc _ _ _ (by simp; omega), Below.heap_alloc _ _ _ (by omega)]
    have h := heap_setCells w1.heap.size 197 (i64s ws).toList 0 z _ (heap_new w1 (.cells z 197))
    rw [setMany_all _ _ (by rw [hz64, Array.length_toList, i64s_size, hl]), Array.toArray_toList] at h
    exact h
  · rw [Below.heap_alloc _ _ _ (by simp; omega)]
    have h := heap_new ((w1.alloc (.cells z 197)).setCells w1.heap.size 0 (i64s ws).toList) (.cells (i64s (pad68 [])) 199)
    rw [hsc] at h
    exact h
  · have h := heap_new (((w1.alloc (.cells z 197)).setCells w1.heap.size 0 (i64s ws).toList).alloc (.cells (i64s (pad68 [])) 199)) (.cells (i64s (pad68 [])) 199)
    simp only [World.size_alloc, hsc] at h
    exact h

theorem isize8 : (Tryz.prog.info? 161).map (·.size) = some 8 := by kernel_rfl

end Go.Proofs.YtengclnahppmhaaGreatDoor

namespace Go.Proofs.YtengclnahppmhaaGreatDoor
open Go.RowKit Go.Lib Go.Deep

theorem take4 (x0 x1 x2 x3 : Nat) (k : Nat) (h : k < 4) : [x0, x1, x2, x3].take (k + 1) = [x0, x1, x2, x3].take k ++ [[x0, x1, x2, x3].getD k 0] := by
  match k, h with
  | 0, _ => rfl
  | 1, _ => rfl
  | 2, _ => rfl
  | 3, _ => rfl
theorem old_a (s : W8) (k : Nat) (h : k < 4) : s.list.getD (3 - k) 0 = [s.d, s.c, s.b, s.a].getD k 0 := by
  match k, h with
  | 0, _ => rfl
  | 1, _ => rfl
  | 2, _ => rfl
  | 3, _ => rfl
theorem old_e (s : W8) (k : Nat) (h : k < 4) : s.list.getD (7 - k) 0 = [s.h, s.g, s.f, s.e].getD k 0 := by
  match k, h with
  | 0, _ => rfl
  | 1, _ => rfl
  | 2, _ => rfl
  | 3, _ => rfl
theorem step_a (a b c d e f g h q x CH MJ : Nat) (h1 : (e &&& f) ^^^ ((4294967295 - e) &&& g) = CH) (h2 : ((a &&& b) ^^^ (a &&& c)) ^^^ (b &&& c) = MJ) :
    (W8.step ⟨a, b, c, d, e, f, g, h⟩ q x).a = (h + big1 e + CH + q + x + big0 a + MJ) % 4294967296 := by
  simp only [W8.step, W8.tt, W8.uu, h1, h2]
  omega
theorem step_e (a b c d e f g h q x CH : Nat) (h1 : (e &&& f) ^^^ ((4294967295 - e) &&& g) = CH) :
    (W8.step ⟨a, b, c, d, e, f, g, h⟩ q x).e = (d + (h + big1 e + CH + q + x)) % 4294967296 := by
  simp only [W8.step, W8.tt, h1]
  omega

/-- the words, so many of each half -/
def outL (s : W8) (k : Nat) : List Nat := (s.list.take 4).take k ++ List.replicate (4 - k) 0 ++ ((s.list.drop 4).take k ++ List.replicate (4 - k) 0)
theorem out_set (s : W8) (k : Nat) (h : k < 4) : ((i64s (outL s k)).setIfInBounds k (.int .i64 ((s.list.getD k 0 : Nat) : Int))).setIfInBounds (4 + k) (.int .i64 ((s.list.getD (4 + k) 0 : Nat) : Int)) = i64s (outL s (k + 1)) := by
  match k, h with
  | 0, _ => rfl
  | 1, _ => rfl
  | 2, _ => rfl
  | 3, _ => rfl
theorem add_lo (s t : W8) (k : Nat) (h : k < 4) : (s.add t).list.getD k 0 = (s.list.getD k 0 + [t.a, t.b, t.c, t.d].getD k 0) % 4294967296 := by
  match k, h with
  | 0, _ => rfl
  | 1, _ => rfl
  | 2, _ => rfl
  | 3, _ => rfl
theorem add_hi (s t : W8) (k : Nat) (h : k < 4) : (s.add t).list.getD (4 + k) 0 = (s.list.getD (4 + k) 0 + [t.e, t.f, t.g, t.h].getD k 0) % 4294967296 := by
  match k, h with
  | 0, _ => rfl
  | 1, _ => rfl
  | 2, _ => rfl
  | 3, _ => rfl
theorem Hist.last {l : List Nat} {a b c d : Nat} (h : Hist l 64 a b c d) (k : Nat) (hk : k < 4) : l.getD (67 - k) 0 = [a, b, c, d].getD k 0 := by
  match k, hk with
  | 0, _ => exact h.a3
  | 1, _ => exact h.a2
  | 2, _ => exact h.a1
  | 3, _ => exact h.a0
theorem list_lt (s : W8) (hs : s.OK) (i : Nat) : s.list.getD i 0 < 4294967296 := getD_lt (fun x hx => by
  simp only [W8.list, List.mem_cons, List.not_mem_nil, or_false] at hx
  obtain ⟨h1, h2, h3, h4, h5, h6, h7, h8⟩ := hs
  rcases hx with rfl | rfl | rfl | rfl | rfl | rfl | rfl | rfl <;> assumption) i
theorem four_lt (a b c d : Nat) (ha : a < 4294967296) (hb : b < 4294967296) (hc : c < 4294967296) (hd : d < 4294967296) (k : Nat) : [a, b, c, d].getD k 0 < 4294967296 := getD_lt (fun x hx => by
  simp only [List.mem_cons, List.not_mem_nil, or_false] at hx
  rcases hx with rfl | rfl | rfl | rfl <;> assumption) k

theorem zero68 : Tryz.zeroCells199 = i64s (pad68 []) := by kernel_rfl

set_option maxRecDepth 20000 in
set_option maxHeartbeats 8000000 in
theorem rblock_core (s : W8) (hs : s.OK) (y : ByteArray) (at_ : Nat) (ws : List Nat) (hws : ws.length = 64) (hwl : ∀ x ∈ ws, x < 4294967296)
    (hsc : ∀ W : World, RTabs W → 8 ≤ W.heap.size → Calls Tryz.prog 152 #[.string y, .int .i64 (at_ : Int)] W fun e w' => e = .returned (.agg (i64s ws)) ∧ Below W.heap.size W w') (w : World) (hr : RTabs w) (h4 : 8 ≤ w.heap.size) :
    Calls Tryz.prog 132 #[.agg (i64s s.list), .string y, .int .i64 (at_ : Int)] w fun e w' => e = .returned (.agg (i64s (s.add (roundN s ws 64)).list)) ∧ Below w.heap.size w w' := by
  have hst : (Tryz.prog.info? 197).map (·.size) = some (i64s ws).size := by rw [i64s_size, hws]; exact isize64
  have hone : (i64s ws).all (·.oneCell') = true := all_oneCell_toArray (i64L_one _)
  go_enter Tryz.func132, Tryz.ntmps132
  go_wp2_with fail
  refine (hsc _ (hr.below (((Below.refl w.heap.size w).alloc (Nat.le_refl _) _).alloc (by simp) _) h4) (by simp; omega)).mono ?_
  rintro e w1 ⟨rfl, hb1⟩
  have hsz1 : ∀ Z : Array Value, ((w1.alloc (.cells Z 197)).setCells w1.heap.size 0 (i64s ws).toList).heap.size = w1.heap.size + 1 := fun Z => (size_setCells w1.heap.size (i64s ws).toList 0 (w1.alloc (.cells Z 197))).1.trans (by simp)
  go_wp2_with (refine wpList_store_mid rfl 197 (.tmp 7) (.tmp 21) rfl w1.heap.size 0 _ rfl rfl (there_of_heap (heap_new _ _) (by rw [i64s_size, hws]; decide)) hst hone ?_)
  refine with_world (R := fun W => Code.wp _ _ _ _ W) (Q := fun W => Rb w W s ws w1.heap.size [] []) _ (Rb.start w s ws hws w1 _ Tryz.zeroCells199 Tryz.zeroCells199 rfl zero68 zero68 hb1 _ rfl) ?_
  clear hst hone hsc hb1 hsz1
  intro w2 HB0
  have HB : Rb w w2 s ws w1.heap.size [] [] := HB0
  clear HB0
  obtain ⟨n, hn⟩ : ∃ n, w1.heap.size = n := ⟨_, rfl⟩
  rw [hn] at HB
  rw [hn]
  clear hn
  go_loopg [10] 4 (fun gk i wr => ∃ k : Nat, k + gk = 4 ∧ i = .int .i64 k ∧ Rb w wr s ws n ([s.d, s.c, s.b, s.a].take k) ([s.h, s.g, s.f, s.e].take k))
  case atStart => exact ⟨0, by omega, rfl, HB⟩
  case round =>
    clear HB
    obtain ⟨k, hk, rfl, HB⟩ := hrel
    have HK : Hid (k + gk = 4) := hk
    have hk' : k ≤ 4 := by omega
    clear hk
    by_cases hlt : k < 4
    · have lA : ([s.d, s.c, s.b, s.a].take k).length = k := by rw [List.length_take]; simp; omega
      have lE : ([s.h, s.g, s.f, s.e].take k).length = k := by rw [List.length_take]; simp; omega
      have c1 := HB.cellO (3 - k) (by omega)
      have c2 := HB.nextA (by omega)
      have f2 : wr.frozen? ⟨n + 1, ([s.d, s.c, s.b, s.a].take k).length, none⟩ = false := frozen_of_heap HB.pa
      have HB1 := HB.putA ([s.d, s.c, s.b, s.a].getD k 0) (by omega)
      have c3 := HB1.cellO (7 - k) (by omega)
      have c4 := HB1.nextE (by omega)
      have f4 : (wr.setCell ⟨n + 1, ([s.d, s.c, s.b, s.a].take k).length, none⟩ (.int .i64 (([s.d, s.c, s.b, s.a].getD k 0 : Nat) : Int))).frozen? ⟨n + 1 + 1, ([s.h, s.g, s.f, s.e].take k).length, none⟩ = false := frozen_of_heap HB1.pe
      have R0 := HB1.putE ([s.h, s.g, s.f, s.e].getD k 0) (by omega)
      rw [← take4 _ _ _ _ k hlt, ← take4 _ _ _ _ k hlt, lA, lE] at R0
      rw [old_a s k hlt] at c1
      rw [old_e s k hlt, lA] at c3
      rw [lA] at c2 f2
      rw [lE, lA] at c4 f4
      revert c1 c2 f2 c3 c4 f4 R0
      generalize [s.d, s.c, s.b, s.a].getD k 0 = va
      generalize [s.h, s.g, s.f, s.e].getD k 0 = ve
      intro c1 c2 f2 c3 c4 f4 R0
      have R : Hid (Rb w ((wr.setCell ⟨n + 1, k, none⟩ (.int .i64 (va : Int))).setCell ⟨n + 1 + 1, k, none⟩ (.int .i64 (ve : Int))) s ws n ([s.d, s.c, s.b, s.a].take (k + 1)) ([s.h, s.g, s.f, s.e].take (k + 1))) := R0
      have s1 : IntKind.i64.wrap (3 - (k : Int)) = ((3 - k : Nat) : Int) := by rw [IntKind.wrap_i64]; omega
      have s2 : IntKind.i64.wrap (7 - (k : Int)) = ((7 - k : Nat) : Int) := by rw [IntKind.wrap_i64]; omega
      have q1 : ((3 - k : Nat) : Int) < 8 := by omega
      have q2 : ((7 - k : Nat) : Int) < 8 := by omega
      clear HB HB1 R0 lA lE
      go_wp2
      go_roundg (gk - 1)
      case measure => have := HK.out; omega
      case rel => exact ⟨k + 1, by have := HK.out; omega, by go_num, R.out⟩
    · obtain rfl : k = 4 := by omega
      have HB' : Rb w wr s ws n [s.d, s.c, s.b, s.a] [s.h, s.g, s.f, s.e] := HB
      clear HB
      go_wp2
      go_loopg [11] 64 (fun gk i wr => ∃ (k : Nat) (av ev : List Nat), k + gk = 64 ∧ i = .int .i64 k ∧ Hist av k (roundN s ws k).a (roundN s ws k).b (roundN s ws k).c (roundN s ws k).d ∧ Hist ev k (roundN s ws k).e (roundN s ws k).f (roundN s ws k).g (roundN s ws k).h ∧ Rb w wr s ws n av ev)
      case atStart => exact ⟨0, _, _, by omega, rfl, ⟨rfl, rfl, rfl, rfl, rfl⟩, ⟨rfl, rfl, rfl, rfl, rfl⟩, HB'⟩
      case round =>
        clear HB'
        obtain ⟨k, av, ev, hk, rfl, hA, hE, HB⟩ := hrel
        have HK : Hid (k + gk = 64) := hk
        have hk' : k ≤ 64 := by omega
        clear hk
        have hok := roundN_OK hs ws k
        have HN : Hid (roundN s ws (k + 1) = (roundN s ws k).step (kk.getD k 0) (ws.getD k 0)) := rfl
        have HE : Hid (k = 64 → roundN s ws 64 = roundN s ws k) := fun h => by rw [h]
        revert HN HE hok hA hE
        generalize roundN s ws k = st
        obtain ⟨a, b, c, d, e, f, g, h⟩ := st
        intro hA hE hok HN HE
        obtain ⟨ha, hb, hc, hd, he, hf, hg, hh⟩ := hok
        dsimp only at ha hb hc hd he hf hg hh hA hE
        by_cases hlt : k < 64
        · have laL := hA.len
          have leL := hE.len
          have hCE : ∀ W, Rb w W s ws n av ev → W.cell? ⟨n + 1 + 1, k + 3, none⟩ = some (.int .i64 (e : Int)) ∧ W.cell? ⟨n + 1 + 1, k + 2, none⟩ = some (.int .i64 (f : Int)) ∧ W.cell? ⟨n + 1 + 1, k + 1, none⟩ = some (.int .i64 (g : Int)) ∧ W.cell? ⟨n + 1 + 1, k, none⟩ = some (.int .i64 (h : Int)) := fun W HB => by
            have e3 := HB.cellE (k + 3) (by omega) (by omega)
            have e2 := HB.cellE (k + 2) (by omega) (by omega)
            have e1 := HB.cellE (k + 1) (by omega) (by omega)
            have e0 := HB.cellE k (by omega) (by omega)
            rw [hE.a3] at e3
            rw [hE.a2] at e2
            rw [hE.a1] at e1
            rw [hE.a0] at e0
            exact ⟨e3, e2, e1, e0⟩
          have hCA : ∀ W, Rb w W s ws n av ev → W.cell? ⟨n + 1, k + 3, none⟩ = some (.int .i64 (a : Int)) ∧ W.cell? ⟨n + 1, k + 2, none⟩ = some (.int .i64 (b : Int)) ∧ W.cell? ⟨n + 1, k + 1, none⟩ = some (.int .i64 (c : Int)) ∧ W.cell? ⟨n + 1, k, none⟩ = some (.int .i64 (d : Int)) := fun W HB => by
            have e3 := HB.cellA (k + 3) (by omega) (by omega)
            have e2 := HB.cellA (k + 2) (by omega) (by omega)
            have e1 := HB.cellA (k + 1) (by omega) (by omega)
            have e0 := HB.cellA k (by omega) (by omega)
            rw [hA.a3] at e3
            rw [hA.a2] at e2
            rw [hA.a1] at e1
            rw [hA.a0] at e0
            exact ⟨e3, e2, e1, e0⟩
          have HCE : Hid (∀ W, Rb w W s ws n av ev → W.cell? ⟨n + 1 + 1, k + 3, none⟩ = some (.int .i64 (e : Int)) ∧ W.cell? ⟨n + 1 + 1, k + 2, none⟩ = some (.int .i64 (f : Int)) ∧ W.cell? ⟨n + 1 + 1, k + 1, none⟩ = some (.int .i64 (g : Int)) ∧ W.cell? ⟨n + 1 + 1, k, none⟩ = some (.int .i64 (h : Int))) := hCE
          have HCA : Hid (∀ W, Rb w W s ws n av ev → W.cell? ⟨n + 1, k + 3, none⟩ = some (.int .i64 (a : Int)) ∧ W.cell? ⟨n + 1, k + 2, none⟩ = some (.int .i64 (b : Int)) ∧ W.cell? ⟨n + 1, k + 1, none⟩ = some (.int .i64 (c : Int)) ∧ W.cell? ⟨n + 1, k, none⟩ = some (.int .i64 (d : Int))) := hCA
          clear hCE hCA
          have HH : Hid (Hist av k a b c d ∧ Hist ev k e f g h) := ⟨hA, hE⟩
          clear hA hE
          have HLL : Hid (av.length = k + 4 ∧ ev.length = k + 4) := ⟨laL, leL⟩
          clear laL leL
          have hlk : k < ws.length := by omega
          have HCW : Hid (∀ W, Rb w W s ws n av ev → W.cell? ⟨n, k, none⟩ = some (.int .i64 ((ws.getD k 0 : Nat) : Int))) := fun W HB => HB.cellW k hlk
          have HCR : Hid (∀ W, RTabs W → W.cell? ⟨4, k, none⟩ = some (.int .i64 ((kk.getD k 0 : Nat) : Int))) := fun W hR => hR.root k hlt
          have lx := getD_lt hwl k
          have lk := getD_lt kk_lt k
          clear hlk
          revert HCW HCR lx lk HN
          generalize ws.getD k 0 = x
          generalize kk.getD k 0 = q
          intro HN HCW HCR lx lk
          have HSA : Hid (∀ CH MJ : Nat, (e &&& f) ^^^ ((4294967295 - e) &&& g) = CH → ((a &&& b) ^^^ (a &&& c)) ^^^ (b &&& c) = MJ → (W8.step ⟨a, b, c, d, e, f, g, h⟩ q x).a = (h + big1 e + CH + q + x + big0 a + MJ) % 4294967296 ∧ (W8.step ⟨a, b, c, d, e, f, g, h⟩ q x).e = (d + (h + big1 e + CH + q + x)) % 4294967296) :=
            fun CH MJ h1 h2 => ⟨step_a a b c d e f g h q x CH MJ h1 h2, step_e a b c d e f g h q x CH h1⟩
          have lb1 := big1_lt e he
          have lb0 := big0_lt a ha
          have hb1c := fun W hR h4 => rbig1_any e W hR h4 he
          have hb0c := fun W hR h4 => rbig0_any a W hR h4 ha
          have r1 := i64_and_nat e f he hf
          have r2 : IntKind.i64.wrap (4294967295 - (e : Int)) = ((4294967295 - e : Nat) : Int) := by rw [IntKind.wrap_i64]; omega
          have r3 := i64_and_nat (4294967295 - e) g (by omega) hg
          have r4 := i64_xor_nat (e &&& f) ((4294967295 - e) &&& g) (and_lt _ _ he) (and_lt _ _ (by omega))
          have r5 := i64_and_nat a b ha hb
          have r6 := i64_and_nat a c ha hc
          have r7 := i64_and_nat b c hb hc
          have r8 := i64_xor_nat (a &&& b) (a &&& c) (and_lt _ _ ha) (and_lt _ _ ha)
          have r9 := i64_xor_nat ((a &&& b) ^^^ (a &&& c)) (b &&& c) (xor_lt _ _ (and_lt _ _ ha) (and_lt _ _ ha)) (and_lt _ _ hb)
          have l1 : (e &&& f) ^^^ ((4294967295 - e) &&& g) < 4294967296 := xor_lt _ _ (and_lt _ _ he) (and_lt _ _ (by omega))
          have l2 : ((a &&& b) ^^^ (a &&& c)) ^^^ (b &&& c) < 4294967296 := xor_lt _ _ (xor_lt _ _ (and_lt _ _ ha) (and_lt _ _ ha)) (and_lt _ _ hb)
          have hST := HSA.out _ _ rfl rfl
          have ES : Hid ((W8.step ⟨a, b, c, d, e, f, g, h⟩ q x).b = a ∧ (W8.step ⟨a, b, c, d, e, f, g, h⟩ q x).c = b ∧ (W8.step ⟨a, b, c, d, e, f, g, h⟩ q x).d = c ∧ (W8.step ⟨a, b, c, d, e, f, g, h⟩ q x).f = e ∧ (W8.step ⟨a, b, c, d, e, f, g, h⟩ q x).g = f ∧ (W8.step ⟨a, b, c, d, e, f, g, h⟩ q x).h = g) := ⟨rfl, rfl, rfl, rfl, rfl, rfl⟩
          clear HSA
          have HST : Hid ((W8.step ⟨a, b, c, d, e, f, g, h⟩ q x).a = (h + big1 e + ((e &&& f) ^^^ ((4294967295 - e) &&& g)) + q + x + big0 a + (((a &&& b) ^^^ (a &&& c)) ^^^ (b &&& c))) % 4294967296 ∧ (W8.step ⟨a, b, c, d, e, f, g, h⟩ q x).e = (d + (h + big1 e + ((e &&& f) ^^^ ((4294967295 - e) &&& g)) + q + x)) % 4294967296) := hST
          clear hST
          revert r1 r2 r3 r4 r5 r6 r7 r8 r9 l1 l2 HST ES HN lb1 lb0 hb1c hb0c
          generalize (e &&& f) ^^^ ((4294967295 - e) &&& g) = CH
          generalize e &&& f = EF
          generalize (4294967295 - e) &&& g = NG
          generalize 4294967295 - e = NE
          generalize ((a &&& b) ^^^ (a &&& c)) ^^^ (b &&& c) = MJ
          generalize (a &&& b) ^^^ (a &&& c) = X1
          generalize a &&& b = AB
          generalize a &&& c = AC
          generalize b &&& c = BC
          generalize W8.step ⟨a, b, c, d, e, f, g, h⟩ q x = sn
          generalize big1 e = Y1
          generalize big0 a = Y0
          intro HN lb1 lb0 hb1c hb0c r1 r2 r3 r4 r5 r6 r7 r8 r9 l1 l2 ES HST
          have t3 : IntKind.i64.wrap ((k : Int) + 3) = ((k + 3 : Nat) : Int) := by rw [IntKind.wrap_i64]; omega
          have t2 : IntKind.i64.wrap ((k : Int) + 2) = ((k + 2 : Nat) : Int) := by rw [IntKind.wrap_i64]; omega
          have t1 : IntKind.i64.wrap ((k : Int) + 1) = ((k + 1 : Nat) : Int) := by rw [IntKind.wrap_i64]; omega
          have t4 : IntKind.i64.wrap ((k : Int) + 4) = ((k + 4 : Nat) : Int) := by rw [IntKind.wrap_i64]; omega
          have n3 : ((k : Int) + 3).toNat = k + 3 := by omega
          have n2 : ((k : Int) + 2).toNat = k + 2 := by omega
          have n1 : ((k : Int) + 1).toNat = k + 1 := by omega
          have n4 : ((k : Int) + 4).toNat = k + 4 := by omega
          have z3 : (0 : Int) ≤ (k : Int) + 3 := by omega
          have z2 : (0 : Int) ≤ (k : Int) + 2 := by omega
          have z1 : (0 : Int) ≤ (k : Int) + 1 := by omega
          have z4 : (0 : Int) ≤ (k : Int) + 4 := by omega
          have m3 : (k : Int) + 3 < 68 := by omega
          have m2 : (k : Int) + 2 < 68 := by omega
          have m1 : (k : Int) + 1 < 68 := by omega
          have m4 : (k : Int) + 4 < 68 := by omega
          have m0 : (k : Int) < 68 := by omega
          have m6 : (k : Int) < 64 := by omega
          have c1 := (HCE.out _ HB).1
          have zz := HB.bel.size
          go_wp2_with fail
          refine (hb1c wr (hr.below HB.bel h4) (by omega)).mono ?_
          rintro e' w3 ⟨rfl, hb3⟩
          have HB3 := HB.under hb3
          clear HB hb3 c1 zz
          have c1 := (HCA.out _ HB3).1
          have zz := HB3.bel.size
          go_wp2_with fail
          refine (hb0c w3 (hr.below HB3.bel h4) (by omega)).mono ?_
          rintro e' w4 ⟨rfl, hb4⟩
          have HB4 := HB3.under hb4
          clear HB3 hb4 c1 zz hb1c hb0c
          obtain ⟨c3, c2, c1, c0⟩ := HCE.out _ HB4
          go_wp2_with fail
          go_quiet (fail)
          have HB5 := HB4.under (below_drewN _ nq)
          refine with_world (R := fun W => Exit.then _ _ _ _ W) (Q := fun W => Rb w W s ws n av ev) _ HB5 ?_
          clear HB4 HB5 c3 c2 c1 c0
          intro w5 HB5
          obtain ⟨c3, c2, c1, c0⟩ := HCA.out _ HB5
          go_wp2_with fail
          go_quiet (fail)
          have HB6 := Rb.under HB5 (below_drewN _ nq)
          refine with_world (R := fun W => Exit.then _ _ _ _ W) (Q := fun W => Rb w W s ws n av ev) _ HB6 ?_
          clear HB5 HB6 c3 c2 c1 c0
          intro w6 HB6
          have HB6' : Rb w w6 s ws n av ev := HB6
          clear HB6
          obtain ⟨c3, c2, c1, c0⟩ := HCE.out _ HB6'
          have cw := HCW.out _ HB6'
          have cr := HCR.out _ (hr.below HB6'.bel h4)
          go_wp2_with fail
          go_quiet (fail)
          have HB7 := Rb.under HB6' (below_drewN _ nq)
          refine with_world (R := fun W => Exit.then _ _ _ _ W) (Q := fun W => Rb w W s ws n av ev) _ HB7 ?_
          clear HB6' HB7 c3 c2 c1 c0 cw cr
          intro w7 HB7
          have HB7' : Rb w w7 s ws n av ev := HB7
          clear HB7
          have c0 := (HCA.out _ HB7').2.2.2
          have cE := HB7'.nextE (by have := HLL.out.2; omega)
          have fE : w7.frozen? ⟨n + 1 + 1, ev.length, none⟩ = false := frozen_of_heap HB7'.pe
          have HB8 := HB7'.putE sn.e (by have := HLL.out.2; omega)
          have cA := HB8.nextA (by have := HLL.out.1; omega)
          have fA : (w7.setCell ⟨n + 1 + 1, ev.length, none⟩ (.int .i64 (sn.e : Int))).frozen? ⟨n + 1, av.length, none⟩ = false := frozen_of_heap HB8.pa
          have HB9 := HB8.putA sn.a (by have := HLL.out.1; omega)
          rw [HLL.out.2] at cE fE
          rw [HLL.out.1, HLL.out.2] at cA fA HB9
          clear HB7' HB8
          have eE : (sn.e : Int) = ((d : Int) + ((h : Int) + (Y1 : Int) + (CH : Int) + (q : Int) + (x : Int))) % 4294967296 := by rw [HST.out.2]; omega
          have eA : (sn.a : Int) = ((h : Int) + (Y1 : Int) + (CH : Int) + (q : Int) + (x : Int) + (Y0 : Int) + (MJ : Int)) % 4294967296 := by rw [HST.out.1]; omega
          have R : Hid (∃ (k' : Nat) (av' ev' : List Nat), k' + (gk - 1) = 64 ∧ ((k : Int) + 1) = (k' : Int) ∧ Hist av' k' (roundN s ws k').a (roundN s ws k').b (roundN s ws k').c (roundN s ws k').d ∧ Hist ev' k' (roundN s ws k').e (roundN s ws k').f (roundN s ws k').g (roundN s ws k').h ∧ Rb w ((w7.setCell ⟨n + 1 + 1, k + 4, none⟩ (.int .i64 (sn.e : Int))).setCell ⟨n + 1, k + 4, none⟩ (.int .i64 (sn.a : Int))) s ws n av' ev') := by
            obtain ⟨o1, o2, o3, o4, o5, o6⟩ := ES.out
            refine ⟨k + 1, av ++ [sn.a], ev ++ [sn.e], by have := HK.out; omega, by omega, ?_, ?_, HB9⟩
            · rw [HN.out, o1, o2, o3]
              exact HH.out.1.step _
            · rw [HN.out, o4, o5, o6]
              exact HH.out.2.step _
          clear HB9
          rw [eE] at cA fA
          rw [eE, eA] at R
          clear eE eA HST HN ES
          go_wp2
          go_roundg (gk - 1)
          case measure => have := HK.out; omega
          case rel =>
            obtain ⟨k', av', ev', i1, i2, i3, i4, i5⟩ := R.out
            exact ⟨k', av', ev', i1, by rw [i2], i3, i4, i5⟩
        · have e64 : k = 64 := by omega
          have HQ : Hid (roundN s ws 64 = ⟨a, b, c, d, e, f, g, h⟩) := HE.out e64
          clear HN HE
          subst e64
          obtain ⟨S, hS⟩ : ∃ S, s.add ⟨a, b, c, d, e, f, g, h⟩ = S := ⟨_, rfl⟩
          have HS : Hid (s.add ⟨a, b, c, d, e, f, g, h⟩ = S) := hS
          have hlo : ∀ k, k < 4 → S.list.getD k 0 = (s.list.getD k 0 + [a, b, c, d].getD k 0) % 4294967296 := fun k hk => by rw [← hS]; exact add_lo s _ k hk
          have hhi : ∀ k, k < 4 → S.list.getD (4 + k) 0 = (s.list.getD (4 + k) 0 + [e, f, g, h].getD k 0) % 4294967296 := fun k hk => by rw [← hS]; exact add_hi s _ k hk
          have HLH : Hid ((∀ k, k < 4 → S.list.getD k 0 = (s.list.getD k 0 + [a, b, c, d].getD k 0) % 4294967296) ∧ (∀ k, k < 4 → S.list.getD (4 + k) 0 = (s.list.getD (4 + k) 0 + [e, f, g, h].getD k 0) % 4294967296)) := ⟨hlo, hhi⟩
          have H4 : Hid ((∀ k, [a, b, c, d].getD k 0 < 4294967296) ∧ (∀ k, [e, f, g, h].getD k 0 < 4294967296)) := ⟨four_lt a b c d ha hb hc hd, four_lt e f g h he hf hg hh⟩
          have HH : Hid (Hist av 64 a b c d ∧ Hist ev 64 e f g h) := ⟨hA, hE⟩
          clear hlo hhi hS hA hE
          have hn17 : n + 1 + 1 < wr.heap.size := heap_lt HB.pe
          have HBa := HB.under ((Below.refl wr.heap.size wr).alloc (Nat.le_refl _) (.cells (i64s (outL S 0)) 161))
          have hO : (wr.alloc (.cells (i64s (outL S 0)) 161)).heap[wr.heap.size]? = some (.cells (i64s (outL S 0)) 161 (0, 0)) := heap_new _ _
          clear HB
          go_wp2
          obtain ⟨n17, hnn⟩ : ∃ n17, wr.heap.size = n17 := ⟨_, rfl⟩
          refine with_world (R := fun W => Code.wp _ _ _ _ W) (Q := fun W => Rb w W s ws n av ev ∧ W.heap[wr.heap.size]? = some (.cells (i64s (outL S 0)) 161 (0, 0))) _ ⟨HBa, hO⟩ ?_
          rw [hnn] at hn17
          rw [hnn]
          clear hnn HBa hO
          rintro wr ⟨HB, hO⟩
          go_loopg [18] 4 (fun gk i wr => ∃ k : Nat, k + gk = 4 ∧ i = .int .i64 k ∧ Rb w wr s ws n av ev ∧ wr.heap[n17]? = some (.cells (i64s (outL S k)) 161 (0, 0)))
          case atStart => exact ⟨0, by omega, rfl, HB, hO⟩
          case round =>
            clear HB hO
            obtain ⟨k, hk, rfl, HB, hO⟩ := hrel
            have HK : Hid (k + gk = 4) := hk
            have hk' : k ≤ 4 := by omega
            clear hk
            by_cases hlt : k < 4
            · have c1 := HB.cellO k (by omega)
              have c2 := HB.cellA (67 - k) (by have := HH.out.1.len; omega) (by have := HH.out.1.len; omega)
              rw [HH.out.1.last k hlt] at c2
              have lo := list_lt s hs k
              have l4 := H4.out.1 k
              have eLo := HLH.out.1 k hlt
              have hsz : (i64s (outL S k)).size = 8 := by
                rw [i64s_size]
                match k, hlt with
                | 0, _ => rfl
                | 1, _ => rfl
                | 2, _ => rfl
                | 3, _ => rfl
              obtain ⟨x0, c3⟩ : ∃ x0, wr.cell? ⟨n17, k, none⟩ = some x0 := by rw [cell_of_heap hO]; exact ⟨_, Array.getElem?_eq_getElem (by omega)⟩
              have f3 : wr.frozen? ⟨n17, k, none⟩ = false := frozen_of_heap hO
              have HB1 := HB.under ⟨rfl, rfl, rfl, Nat.le_refl _, fun j hj => rfl⟩
              have hord := HB.ord
              have RB : ∀ v, Rb w (wr.setCell ⟨n17, k, none⟩ v).drew s ws n av ev := fun v => by
                obtain ⟨z, hz, hr⟩ := HB.res
                exact ⟨(Below.heap_setCell _ _ _ _ (by simp; omega)).trans HB.old, ⟨z, hz, (Below.heap_setCell _ _ _ _ (by simp; omega)).trans hr⟩, (Below.heap_setCell _ _ _ _ (by simp; omega)).trans HB.sp, (Below.heap_setCell _ _ _ _ (by simp; omega)).trans HB.pa, (Below.heap_setCell _ _ _ _ (by simp; omega)).trans HB.pe, (HB.bel.setCell (by simp; omega) _).drew, HB.ord⟩
              have RO : (wr.setCell ⟨n17, k, none⟩ (.int .i64 ((S.list.getD k 0 : Nat) : Int))).drew.heap[n17]? = some (.cells ((i64s (outL S k)).setIfInBounds k (.int .i64 ((S.list.getD k 0 : Nat) : Int))) 161 (0, 0)) := heap_setCell_same _ _ _ _ _ _ hO
              have RQ := And.intro (RB (.int .i64 ((S.list.getD k 0 : Nat) : Int))) RO
              clear RB RO HB1 hO HB
              obtain ⟨A, hAe⟩ : ∃ A, i64s (outL S k) = A := ⟨_, rfl⟩
              have HA : Hid (i64s (outL S k) = A) := hAe
              rw [hAe] at RQ hsz
              clear hAe
              obtain ⟨v0, hv0⟩ : ∃ v0, S.list.getD k 0 = v0 := ⟨_, rfl⟩
              have HV : Hid (S.list.getD k 0 = v0) := hv0
              rw [hv0] at RQ eLo
              clear hv0
              have RQ : Hid (Rb w (wr.setCell ⟨n17, k, none⟩ (.int .i64 (v0 : Int))).drew s ws n av ev ∧ (wr.setCell ⟨n17, k, none⟩ (.int .i64 (v0 : Int))).drew.heap[n17]? = some (.cells (A.setIfInBounds k (.int .i64 (v0 : Int))) 161 (0, 0))) := RQ
              revert c1 c2 lo l4 eLo
              generalize s.list.getD k 0 = p0
              generalize [a, b, c, d].getD k 0 = u0
              intro c1 c2 lo l4 eLo
              have eLi : (v0 : Int) = ((p0 : Int) + (u0 : Int)) % 4294967296 := by rw [eLo]; omega
              have HEL : Hid ((v0 : Int) = ((p0 : Int) + (u0 : Int)) % 4294967296) := eLi
              clear eLi eLo
              have t1 : IntKind.i64.wrap (67 - (k : Int)) = ((67 - k : Nat) : Int) := by rw [IntKind.wrap_i64]; omega
              have m1 : ((67 - k : Nat) : Int) < 68 := by omega
              have m0 : (k : Int) < 8 := by omega
              go_wp2_with fail
              go_region
              refine with_world (R := fun W => Exit.then _ _ _ _ W) (Q := fun W => Rb w W s ws n av ev ∧ W.heap[n17]? = some (.cells (A.setIfInBounds k (.int .i64 (v0 : Int))) 161 (0, 0))) _ (by rw [← HEL.out]; exact RQ.out) ?_
              clear RQ c1 c2 c3 f3 lo l4 HEL
              rintro w9 ⟨HB, hO⟩
              have c1 := HB.cellO (4 + k) (by omega)
              have c2 := HB.cellE (67 - k) (by have := HH.out.2.len; omega) (by have := HH.out.2.len; omega)
              rw [HH.out.2.last k hlt] at c2
              have lo := list_lt s hs (4 + k)
              have l4 := H4.out.2 k
              have eHi := HLH.out.2 k hlt
              obtain ⟨x1, c3⟩ : ∃ x1, w9.cell? ⟨n17, 4 + k, none⟩ = some x1 := by rw [cell_of_heap hO]; exact ⟨_, Array.getElem?_eq_getElem (by rw [Array.size_setIfInBounds]; omega)⟩
              have f3 : w9.frozen? ⟨n17, 4 + k, none⟩ = false := frozen_of_heap hO
              have RB : ∀ v, Rb w (w9.setCell ⟨n17, 4 + k, none⟩ v).drew s ws n av ev := fun v => by
                obtain ⟨z, hz, hr⟩ := HB.res
                exact ⟨(Below.heap_setCell _ _ _ _ (by simp; omega)).trans HB.old, ⟨z, hz, (Below.heap_setCell _ _ _ _ (by simp; omega)).trans hr⟩, (Below.heap_setCell _ _ _ _ (by simp; omega)).trans HB.sp, (Below.heap_setCell _ _ _ _ (by simp; omega)).trans HB.pa, (Below.heap_setCell _ _ _ _ (by simp; omega)).trans HB.pe, (HB.bel.setCell (by simp; omega) _).drew, HB.ord⟩
              have RO := heap_setCell_same _ _ (4 + k) _ _ (.int .i64 ((S.list.getD (4 + k) 0 : Nat) : Int)) hO
              rw [← HV.out, ← HA.out, out_set S k hlt] at RO
              have RQ := And.intro (RB (.int .i64 ((S.list.getD (4 + k) 0 : Nat) : Int))) RO
              clear RB RO hO HB HV HA
              obtain ⟨v1, hv1⟩ : ∃ v1, S.list.getD (4 + k) 0 = v1 := ⟨_, rfl⟩
              rw [hv1] at RQ eHi
              clear hv1
              have RQ : Hid (Rb w (w9.setCell ⟨n17, 4 + k, none⟩ (.int .i64 (v1 : Int))).drew s ws n av ev ∧ (w9.setCell ⟨n17, 4 + k, none⟩ (.int .i64 (v1 : Int))).heap[n17]? = some (.cells (i64s (outL S (k + 1))) 161 (0, 0))) := RQ
              revert c1 c2 lo l4 eHi
              generalize s.list.getD (4 + k) 0 = p1
              generalize [e, f, g, h].getD k 0 = u1
              intro c1 c2 lo l4 eHi
              have eLi : (v1 : Int) = ((p1 : Int) + (u1 : Int)) % 4294967296 := by rw [eHi]; omega
              have HEL : Hid ((v1 : Int) = ((p1 : Int) + (u1 : Int)) % 4294967296) := eLi
              clear eLi eHi
              have t2 : IntKind.i64.wrap (4 + (k : Int)) = ((4 + k : Nat) : Int) := by rw [IntKind.wrap_i64]; omega
              have m2 : ((4 + k : Nat) : Int) < 8 := by omega
              have m3 : (4 : Int) + (k : Int) < 8 := by omega
              have m4 : (0 : Int) ≤ (4 : Int) + (k : Int) := by omega
              have m5 : ((4 : Int) + (k : Int)).toNat = 4 + k := by omega
              go_wp2_with fail
              go_region
              have RQ' := RQ.out
              rw [HEL.out] at RQ'
              clear RQ c1 c2 c3 f3 lo l4 HEL
              go_wp2
              go_roundg (gk - 1)
              case measure => have := HK.out; omega
              case rel => exact ⟨k + 1, by have := HK.out; omega, by go_num, RQ'.1, RQ'.2⟩
            · obtain rfl : k = 4 := by omega
              have hO' : wr.heap[n17]? = some (.cells (i64s S.list) 161 (0, 0)) := hO
              obtain ⟨z, hz, hres⟩ := HB.res
              have hbel := HB.bel
              have hl8 : S.list.length = 8 := rfl
              have hth : wr.there (w.heap.size + 1) 0 (i64s S.list).size := there_of_heap hres (by rw [i64s_size, hl8]; omega)
              have hsz : (Tryz.prog.info? 161).map (·.size) = some (i64s S.list).size := by rw [i64s_size, hl8]; exact isize8
              have hone : (i64s S.list).all (·.oneCell') = true := all_oneCell_toArray (i64L_one _)
              have hr2 := heap_setCells (w.heap.size + 1) 161 (i64s S.list).toList 0 _ _ hres
              rw [setMany_all _ _ (by rw [hz, Array.length_toList, i64s_size, hl8]), Array.toArray_toList] at hr2
              have HR : Hid ((wr.setCells (w.heap.size + 1) 0 (i64s S.list).toList).heap[w.heap.size + 1]? = some (.cells (i64s S.list) 161 (0, 0))) := hr2
              clear HB hO hr2 hres hl8
              go_wp2_with (first | (refine wpList_load_row rfl 161 (.tmp 17) rfl n17 rfl 161 _ (0, 0) _ hO' Tryz.underlying161 rfl hsz ?_) | (refine wpList_store_mid rfl 161 (.tmp 6) (.tmp 168) rfl (w.heap.size + 1) 0 _ rfl rfl hth hsz hone ?_))
              refine bodyPost_ret (results_cell_row rfl _ _ (w.heap.size + 1) 161 _ (0, 0) _ rfl HR.out Tryz.underlying161 rfl hsz) rfl ?_
              rw [HQ.out, HS.out]
              exact ⟨rfl, Below.setCells hbel (by omega) _ _⟩

end Go.Proofs.YtengclnahppmhaaGreatDoor
