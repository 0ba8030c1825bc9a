import Derived.Test.YtjjabkimmgcejaaDoorShaH
import Derived.BigQuiet
namespace Go.Proofs.YtjjabkimmgcejaaDoor
open Go.RowKit Go.Lib Go.Deep

def i64L (l : List Nat) : List Value := l.map fun (n : Nat) => Value.int .i64 (n : Int)
def i64s (l : List Nat) : Array Value := (i64L l).toArray
def pows : List Nat := [1, 2, 4, 8, 16, 32, 64, 128, 256, 512, 1024, 2048, 4096, 8192, 16384, 32768, 65536, 131072, 262144, 524288, 1048576, 2097152, 4194304, 8388608, 16777216, 33554432, 67108864, 134217728, 268435456, 536870912, 1073741824, 2147483648, 4294967296]
theorem i64L_at (l : List Nat) (i : Nat) (h : i < l.length) : (i64L l)[i]? = some (.int .i64 ((l.getD i 0 : Nat) : Int)) := by
  simp [i64L, List.getD_eq_getElem?_getD, h]
theorem i64s_at (l : List Nat) (i : Nat) (h : i < l.length) : (i64s l)[i]? = some (.int .i64 ((l.getD i 0 : Nat) : Int)) := by
  rw [i64s, List.getElem?_toArray]
  exact i64L_at l i h
theorem i64s_size (l : List Nat) : (i64s l).size = l.length := by simp [i64s, i64L]
theorem i64L_one (l : List Nat) : ∀ v ∈ i64L l, v.oneCell' = true := by
  intro v hv
  obtain ⟨n, _, rfl⟩ := List.mem_map.1 hv
  rfl
theorem pows_at : ∀ i, i < 33 → pows.getD i 0 = 2 ^ i := by decide
theorem pows_length : pows.length = 33 := rfl

/-- the reference's two tables -/
structure RTabs (w : World) : Prop where
  tr : w.rangeAt 2 0 (i64L kk)
  tp : w.rangeAt 3 0 (i64L pows)
theorem RTabs.pow {w : World} (h : RTabs w) (i : Nat) (hi : i < 33) : w.cell? ⟨3, i, none⟩ = some (.int .i64 ((2 ^ i : Nat) : Int)) := by
  have := h.tp i _ (i64L_at pows i (by rw [pows_length]; exact hi))
  rw [pows_at i hi] at this
  simpa using this
theorem RTabs.root {w : World} (h : RTabs w) (i : Nat) (hi : i < 64) : w.cell? ⟨2, i, none⟩ = some (.int .i64 ((kk.getD i 0 : Nat) : Int)) := by
  have := h.tr i _ (i64L_at kk i (by rw [kk_length]; exact hi))
  simpa using this
theorem RTabs.kept {w w' : World} (h : RTabs w) (hb : ∀ k, k < 4 → w'.heap[k]? = w.heap[k]?) : RTabs w' := by
  constructor
  · intro j v hv
    rw [World.cell?_of_block (hb 2 (by omega))]
    exact h.tr j v hv
  · intro j v hv
    rw [World.cell?_of_block (hb 3 (by omega))]
    exact h.tp j v hv
theorem RTabs.below {w w' : World} {B : Nat} (h : RTabs w) (hb : Below B w w') (hB : 4 ≤ B) : RTabs w' := h.kept fun k hk => hb.block k (by omega)

theorem below_drewN (w : World) (n : Nat) : Below w.heap.size w (w.drewN n) := ⟨rfl, rfl, rfl, Nat.le_refl _, fun _ _ => rfl⟩

theorem ofInt_i64 (a : Nat) (ha : a < 4294967296) : (BitVec.ofInt 64 (a : Int)).toNat = a := by
  rw [BitVec.ofInt_natCast, BitVec.toNat_ofNat]; exact Nat.mod_eq_of_lt (by omega)
theorem i64_and_nat (a b : Nat) (ha : a < 4294967296) (hb : b < 4294967296) : bits .and .i64 (a : Int) (b : Int) = ((a &&& b : Nat) : Int) := by
  have hx : a &&& b < 2 ^ 32 := Nat.and_lt_two_pow _ (by omega)
  show IntKind.i64.wrap ((BitVec.ofInt 64 (a : Int) &&& BitVec.ofInt 64 (b : Int)).toNat : Int) = _
  rw [BitVec.toNat_and, ofInt_i64 a ha, ofInt_i64 b hb, IntKind.wrap_i64]
  omega
theorem i64_xor_nat (a b : Nat) (ha : a < 4294967296) (hb : b < 4294967296) : bits .xor .i64 (a : Int) (b : Int) = ((a ^^^ b : Nat) : Int) := by
  have hx : a ^^^ b < 2 ^ 32 := Nat.xor_lt_two_pow (by omega) (by omega)
  show IntKind.i64.wrap ((BitVec.ofInt 64 (a : Int) ^^^ BitVec.ofInt 64 (b : Int)).toNat : Int) = _
  rw [BitVec.toNat_xor, ofInt_i64 a ha, ofInt_i64 b hb, IntKind.wrap_i64]
  omega
theorem tdiv_nat (a b : Nat) : (a : Int).tdiv (b : Int) = ((a / b : Nat) : Int) := by
  rw [Int.tdiv_eq_ediv_of_nonneg (by omega)]
  rfl
theorem tmod_nat (a b : Nat) : (a : Int).tmod (b : Int) = ((a % b : Nat) : Int) := by
  rw [Int.tmod_eq_emod_of_nonneg (by omega)]
  rfl

theorem wrap64_nat (n : Nat) (h : n < 9223372036854775808) : wrap64 (n : Int) = (n : Int) := by unfold wrap64; omega

theorem right_any (x s : Nat) (w : World) (hr : RTabs w) (hx : x < 4294967296) (h2 : s ≤ 31) :
    Calls Tryd.prog 74 #[.int .i64 (x : Int), .int .i64 (s : Int)] w fun e w' => e = .returned (.int .i64 ((x / 2 ^ s : Nat) : Int)) ∧ w = w' := by
  have c1 := hr.pow s (by omega)
  obtain ⟨P, hP⟩ : ∃ P, 2 ^ s = P := ⟨_, rfl⟩
  have hP0 : 0 < P := by rw [← hP]; exact Nat.pow_pos (by omega)
  rw [hP] at c1 ⊢
  have hne : ((P : Int) == 0) = false := by simp; omega
  have HE : Hid (wrap64 ((x : Int) / (P : Int)) = ((x / P : Nat) : Int)) := by
    show _ = _
    have hle : x / P ≤ x := Nat.div_le_self _ _
    rw [← Int.natCast_ediv]
    exact wrap64_nat _ (by omega)
  clear hP
  go_enter Tryd.func74, Tryd.ntmps74
  go_wp2
  go_ret
  exact ⟨by rw [← HE.out]; rfl, rfl⟩

set_option maxRecDepth 20000 in
set_option maxHeartbeats 1000000 in
theorem rturn_any (x s : Nat) (w : World) (hr : RTabs w) (hx : x < 4294967296) (h1 : 1 ≤ s) (h2 : s ≤ 31) :
    Calls Tryd.prog 73 #[.int .i64 (x : Int), .int .i64 (s : Int)] w fun e w' => e = .returned (.int .i64 (rot x s : Int)) ∧ Below w.heap.size w w' := by
  have c1 := hr.pow s (by omega)
  have c2 := hr.pow (32 - s) (by omega)
  have HR : Hid (x / 2 ^ s + x % 2 ^ s * 2 ^ (32 - s) = rot x s) := rfl
  have hlt := rot_lt x s hx h1 h2
  obtain ⟨P, hP⟩ : ∃ P, 2 ^ s = P := ⟨_, rfl⟩
  obtain ⟨Q, hQ⟩ : ∃ Q, 2 ^ (32 - s) = Q := ⟨_, rfl⟩
  have hP0 : 0 < P := by rw [← hP]; exact Nat.pow_pos (by omega)
  rw [← HR.out] at hlt ⊢
  rw [hP] at c1
  rw [hQ] at c2
  rw [hP, hQ] at hlt ⊢
  clear HR hP hQ
  have hne : ((P : Int) == 0) = false := by simp; omega
  have hs1 : IntKind.i64.wrap (32 - (s : Int)) = ((32 - s : Nat) : Int) := by rw [IntKind.wrap_i64]; omega
  have HE : Hid (wrap64 (wrap64 ((x : Int) / (P : Int)) + wrap64 ((x : Int) % (P : Int) * (Q : Int))) = ((x / P + x % P * Q : Nat) : Int)) := by
    show _ = _
    have hbig : x / P + x % P * Q < 9223372036854775808 := Nat.lt_trans hlt (by decide)
    rw [← Int.natCast_ediv, ← Int.natCast_emod, ← Int.natCast_mul, wrap64_nat _ (Nat.lt_of_le_of_lt (Nat.le_add_right _ _) hbig), wrap64_nat _ (Nat.lt_of_le_of_lt (Nat.le_add_left _ _) hbig), ← Int.natCast_add, wrap64_nat _ hbig]
  have i1 : (s : Int) < 33 := by omega
  have i2 : ((32 - s : Nat) : Int) < 33 := by omega
  have i3 : (32 : Int) - (s : Int) < 33 := by omega
  have i4 : (0 : Int) ≤ (32 : Int) - (s : Int) := by omega
  have i5 : ((32 : Int) - (s : Int)).toNat = 32 - s := by omega
  go_enter Tryd.func73, Tryd.ntmps73
  go_wp2_with fail
  go_quiet (fail)
  go_wp2
  go_ret
  exact ⟨by rw [← HE.out]; rfl, below_drewN w nq⟩

set_option maxRecDepth 20000 in
theorem rlittle0_any (x : Nat) (w : World) (hr : RTabs w) (h4 : 4 ≤ w.heap.size) (hx : x < 4294967296) : Calls Tryd.prog 72 #[.int .i64 (x : Int)] w fun e w' => e = .returned (.int .i64 (little0 x : Int)) ∧ Below w.heap.size w w' := by
  have l1 := rot_lt x 7 hx (by omega) (by omega)
  have l2 := rot_lt x 18 hx (by omega) (by omega)
  have l3 : (x / 2 ^ 3) < 4294967296 := (Nat.lt_of_le_of_lt (Nat.div_le_self _ _) hx)
  have HX : Hid (bits .xor .i64 (bits .xor .i64 (rot x 7 : Int) (rot x 18 : Int)) (((x / 2 ^ 3) : Nat) : Int) = (little0 x : Int)) := by
    show _ = _
    rw [i64_xor_nat _ _ l1 l2, i64_xor_nat _ _ (xor_lt _ _ l1 l2) l3]
    rfl
  go_enter Tryd.func72, Tryd.ntmps72
  go_wp2_with fail
  refine (rturn_any x 7 w hr hx (by omega) (by omega)).mono ?_
  rintro e w1 ⟨rfl, hb1⟩
  have z1 := hb1.size
  go_wp2_with fail
  refine (rturn_any x 18 w1 (hr.below hb1 (by omega)) hx (by omega) (by omega)).mono ?_
  rintro e w2 ⟨rfl, hb2'⟩
  have hb2 := hb1.trans (hb2'.mono z1)
  clear hb1 hb2'
  have z2 := hb2.size
  go_wp2_with fail
  refine (right_any x 3 w2 (hr.below hb2 (by omega)) hx (by omega)).mono ?_
  rintro e w3 ⟨rfl, rfl⟩
  go_wp2
  go_ret
  exact ⟨by simp [← HX.out], hb2⟩
set_option maxRecDepth 20000 in
theorem rlittle1_any (x : Nat) (w : World) (hr : RTabs w) (h4 : 4 ≤ w.heap.size) (hx : x < 4294967296) : Calls Tryd.prog 71 #[.int .i64 (x : Int)] w fun e w' => e = .returned (.int .i64 (little1 x : Int)) ∧ Below w.heap.size w w' := by
  have l1 := rot_lt x 17 hx (by omega) (by omega)
  have l2 := rot_lt x 19 hx (by omega) (by omega)
  have l3 : (x / 2 ^ 10) < 4294967296 := (Nat.lt_of_le_of_lt (Nat.div_le_self _ _) hx)
  have HX : Hid (bits .xor .i64 (bits .xor .i64 (rot x 17 : Int) (rot x 19 : Int)) (((x / 2 ^ 10) : Nat) : Int) = (little1 x : Int)) := by
    show _ = _
    rw [i64_xor_nat _ _ l1 l2, i64_xor_nat _ _ (xor_lt _ _ l1 l2) l3]
    rfl
  go_enter Tryd.func71, Tryd.ntmps71
  go_wp2_with fail
  refine (rturn_any x 17 w hr hx (by omega) (by omega)).mono ?_
  rintro e w1 ⟨rfl, hb1⟩
  have z1 := hb1.size
  go_wp2_with fail
  refine (rturn_any x 19 w1 (hr.below hb1 (by omega)) hx (by omega) (by omega)).mono ?_
  rintro e w2 ⟨rfl, hb2'⟩
  have hb2 := hb1.trans (hb2'.mono z1)
  clear hb1 hb2'
  have z2 := hb2.size
  go_wp2_with fail
  refine (right_any x 10 w2 (hr.below hb2 (by omega)) hx (by omega)).mono ?_
  rintro e w3 ⟨rfl, rfl⟩
  go_wp2
  go_ret
  exact ⟨by simp [← HX.out], hb2⟩
set_option maxRecDepth 20000 in
theorem rbig0_any (x : Nat) (w : World) (hr : RTabs w) (h4 : 4 ≤ w.heap.size) (hx : x < 4294967296) : Calls Tryd.prog 69 #[.int .i64 (x : Int)] w fun e w' => e = .returned (.int .i64 (big0 x : Int)) ∧ Below w.heap.size w w' := by
  have l1 := rot_lt x 2 hx (by omega) (by omega)
  have l2 := rot_lt x 13 hx (by omega) (by omega)
  have l3 : (rot x 22) < 4294967296 := (rot_lt x 22 hx (by omega) (by omega))
  have HX : Hid (bits .xor .i64 (bits .xor .i64 (rot x 2 : Int) (rot x 13 : Int)) (((rot x 22) : Nat) : Int) = (big0 x : Int)) := by
    show _ = _
    rw [i64_xor_nat _ _ l1 l2, i64_xor_nat _ _ (xor_lt _ _ l1 l2) l3]
    rfl
  go_enter Tryd.func69, Tryd.ntmps69
  go_wp2_with fail
  refine (rturn_any x 2 w hr hx (by omega) (by omega)).mono ?_
  rintro e w1 ⟨rfl, hb1⟩
  have z1 := hb1.size
  go_wp2_with fail
  refine (rturn_any x 13 w1 (hr.below hb1 (by omega)) hx (by omega) (by omega)).mono ?_
  rintro e w2 ⟨rfl, hb2'⟩
  have hb2 := hb1.trans (hb2'.mono z1)
  clear hb1 hb2'
  have z2 := hb2.size
  go_wp2_with fail
  refine (rturn_any x 22 w2 (hr.below hb2 (by omega)) hx (by omega) (by omega)).mono ?_
  rintro e w3 ⟨rfl, hb3⟩
  go_wp2
  go_ret
  exact ⟨by simp [← HX.out], hb2.trans (hb3.mono z2)⟩
set_option maxRecDepth 20000 in
theorem rbig1_any (x : Nat) (w : World) (hr : RTabs w) (h4 : 4 ≤ w.heap.size) (hx : x < 4294967296) : Calls Tryd.prog 68 #[.int .i64 (x : Int)] w fun e w' => e = .returned (.int .i64 (big1 x : Int)) ∧ Below w.heap.size w w' := by
  have l1 := rot_lt x 6 hx (by omega) (by omega)
  have l2 := rot_lt x 11 hx (by omega) (by omega)
  have l3 : (rot x 25) < 4294967296 := (rot_lt x 25 hx (by omega) (by omega))
  have HX : Hid (bits .xor .i64 (bits .xor .i64 (rot x 6 : Int) (rot x 11 : Int)) (((rot x 25) : Nat) : Int) = (big1 x : Int)) := by
    show _ = _
    rw [i64_xor_nat _ _ l1 l2, i64_xor_nat _ _ (xor_lt _ _ l1 l2) l3]
    rfl
  go_enter Tryd.func68, Tryd.ntmps68
  go_wp2_with fail
  refine (rturn_any x 6 w hr hx (by omega) (by omega)).mono ?_
  rintro e w1 ⟨rfl, hb1⟩
  have z1 := hb1.size
  go_wp2_with fail
  refine (rturn_any x 11 w1 (hr.below hb1 (by omega)) hx (by omega) (by omega)).mono ?_
  rintro e w2 ⟨rfl, hb2'⟩
  have hb2 := hb1.trans (hb2'.mono z1)
  clear hb1 hb2'
  have z2 := hb2.size
  go_wp2_with fail
  refine (rturn_any x 25 w2 (hr.below hb2 (by omega)) hx (by omega) (by omega)).mono ?_
  rintro e w3 ⟨rfl, hb3⟩
  go_wp2
  go_ret
  exact ⟨by simp [← HX.out], hb2.trans (hb3.mono z2)⟩

end Go.Proofs.YtjjabkimmgcejaaDoor
