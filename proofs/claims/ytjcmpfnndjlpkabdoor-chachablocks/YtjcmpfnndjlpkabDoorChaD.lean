import Derived.Test.YtjcmpfnndjlpkabDoorChaB
import Derived.KernelRfl
namespace Go.Proofs.YtjcmpfnndjlpkabDoor
open Go.RowKit Go.Lib Go.Deep

theorem ofInt_i64 (a : Nat) (ha : a < 4294967296) : (BitVec.ofInt 64 (a : Int)).toNat = a := by
  rw [BitVec.ofInt_natCast, BitVec.toNat_ofNat]; exact Nat.mod_eq_of_lt (by omega)
theorem i64_xor_nat (a b : Nat) (ha : a < 4294967296) (hb : b < 4294967296) : bits .xor .i64 (a : Int) (b : Int) = ((a ^^^ b : Nat) : Int) := by
  have hx : a ^^^ b < 2 ^ 32 := Nat.xor_lt_two_pow (by omega) (by omega)
  show IntKind.i64.wrap ((BitVec.ofInt 64 (a : Int) ^^^ BitVec.ofInt 64 (b : Int)).toNat : Int) = _
  rw [BitVec.toNat_xor, ofInt_i64 a ha, ofInt_i64 b hb, IntKind.wrap_i64]
  omega

theorem rot_turn (x n h : Nat) (_hx : x < 4294967296) (h1 : 1 ≤ n) (h2 : n ≤ 31) (hh : h = 2 ^ n) : x * h % 4294967296 + x * h / 4294967296 = rot x (32 - n) := by
  subst hh
  have e : 2 ^ (32 - n) * 2 ^ n = 4294967296 := by rw [← Nat.pow_add, show 32 - n + n = 32 by omega]
  have p : 0 < 2 ^ n := Nat.pow_pos (by omega)
  have m : x * 2 ^ n % 4294967296 = x % 2 ^ (32 - n) * 2 ^ n := by rw [← e, Nat.mul_mod_mul_right]
  have d : x * 2 ^ n / 4294967296 = x / 2 ^ (32 - n) := by rw [← e, Nat.mul_div_mul_right _ _ p]
  rw [m, d, Nat.add_comm, rot, show 32 - (32 - n) = n by omega]

theorem turn_sum (p : Nat) (hb : p ≤ 281474976645120) : wrap64 ((p : Int).tmod 4294967296 + wrap64 ((p : Int).tdiv 4294967296)) = (p : Int) % 4294967296 + (p : Int) / 4294967296 := by
  have e1 : (p : Int).tmod 4294967296 = (p : Int) % 4294967296 := Int.tmod_eq_emod_of_nonneg (Int.natCast_nonneg p)
  have e2 : (p : Int).tdiv 4294967296 = (p : Int) / 4294967296 := Int.tdiv_eq_ediv_of_nonneg (Int.natCast_nonneg p)
  rw [e1, e2]
  unfold wrap64
  omega
theorem turn_wrap (p : Nat) (hb : p ≤ 281474976645120) : wrap64 (p : Int) = (p : Int) := by unfold wrap64; omega

theorem rturn_any (x n h : Nat) (hx : x < 4294967296) (h1 : 1 ≤ n) (h2 : n ≤ 31) (hh : h = 2 ^ n) (hh2 : h ≤ 65536) (w : World) :
    Calls Tryd.prog 41 #[.int .i64 (x : Int), .int .i64 (h : Int)] w fun e w' => e = .returned (.int .i64 (rot x (32 - n) : Int)) ∧ w = w' := by
  have hr := rot_turn x n h hx h1 h2 hh
  have hb : x * h ≤ 281474976645120 := Nat.mul_le_mul (Nat.le_pred_of_lt hx) hh2
  have hpI : (x : Int) * (h : Int) = ((x * h : Nat) : Int) := (Int.natCast_mul x h).symm
  rw [← hr]
  clear hr hh h1 h2 hh2
  revert hb hpI
  generalize x * h = p
  intro hb hpI
  have hw' : wrap64 ((x : Int) * (h : Int)) = (p : Int) := by rw [hpI]; exact turn_wrap p hb
  have hs := turn_sum p hb
  have hs2 : wrap64 ((p : Int) % 4294967296 + wrap64 ((p : Int) / 4294967296)) = (p : Int) % 4294967296 + (p : Int) / 4294967296 := hs
  clear hb hpI
  go_enter Tryd.func41, Tryd.ntmps41
  go_wp2
  go_ret
  refine ⟨?_, rfl⟩
  congr 2
  simp [hw', hs2]

set_option maxRecDepth 20000 in
set_option maxHeartbeats 1000000 in
theorem rquarter_any (q : Q4) (hq : q.OK) (w : World) :
    Calls Tryd.prog 40 #[.agg #[.int .i64 (q.a : Int), .int .i64 (q.b : Int), .int .i64 (q.c : Int), .int .i64 (q.d : Int)]] w fun e w' => e = .returned (.agg #[.int .i64 ((qr q).a : Int), .int .i64 ((qr q).b : Int), .int .i64 ((qr q).c : Int), .int .i64 ((qr q).d : Int)]) ∧ Below w.heap.size w w' := by
  obtain ⟨a, b, c, d⟩ := q
  obtain ⟨ha, hb, hc, hd⟩ := hq
  dsimp only at ha hb hc hd
  obtain ⟨a1, ea1⟩ : ∃ y, (a + b) % 4294967296 = y := ⟨_, rfl⟩
  obtain ⟨d1, ed1⟩ : ∃ y, rot (d ^^^ a1) 16 = y := ⟨_, rfl⟩
  obtain ⟨c1, ec1⟩ : ∃ y, (c + d1) % 4294967296 = y := ⟨_, rfl⟩
  obtain ⟨b1, eb1⟩ : ∃ y, rot (b ^^^ c1) 20 = y := ⟨_, rfl⟩
  obtain ⟨a2, ea2⟩ : ∃ y, (a1 + b1) % 4294967296 = y := ⟨_, rfl⟩
  obtain ⟨d2, ed2⟩ : ∃ y, rot (d1 ^^^ a2) 24 = y := ⟨_, rfl⟩
  obtain ⟨c2, ec2⟩ : ∃ y, (c1 + d2) % 4294967296 = y := ⟨_, rfl⟩
  obtain ⟨b2, eb2⟩ : ∃ y, rot (b1 ^^^ c2) 25 = y := ⟨_, rfl⟩
  have HQ : Hid (qr ⟨a, b, c, d⟩ = ⟨a2, b2, c2, d2⟩) := by
    show _ = _
    simp only [qr, Q4.half, ea1, ed1, ec1, eb1, ea2, ed2, ec2, eb2]
  have la1 : a1 < 4294967296 := by omega
  have ld1 : d1 < 4294967296 := by rw [← ed1]; exact rot_lt _ _ (xor_lt _ _ hd la1) (by omega) (by omega)
  have lc1 : c1 < 4294967296 := by omega
  have lb1 : b1 < 4294967296 := by rw [← eb1]; exact rot_lt _ _ (xor_lt _ _ hb lc1) (by omega) (by omega)
  have la2 : a2 < 4294967296 := by omega
  have ld2 : d2 < 4294967296 := by rw [← ed2]; exact rot_lt _ _ (xor_lt _ _ ld1 la2) (by omega) (by omega)
  have lc2 : c2 < 4294967296 := by omega
  have w1 : ((a : Int) + (b : Int)) % 4294967296 = (a1 : Int) := by omega
  have w2 : ((c : Int) + (d1 : Int)) % 4294967296 = (c1 : Int) := by omega
  have w3 : ((a1 : Int) + (b1 : Int)) % 4294967296 = (a2 : Int) := by omega
  have w4 : ((c1 : Int) + (d2 : Int)) % 4294967296 = (c2 : Int) := by omega
  have x1 := i64_xor_nat d a1 hd la1
  have x2 := i64_xor_nat b c1 hb lc1
  have x3 := i64_xor_nat d1 a2 ld1 la2
  have x4 := i64_xor_nat b1 c2 lb1 lc2
  have k1 := fun W => rturn_any (d ^^^ a1) 16 65536 (xor_lt _ _ hd la1) (by omega) (by omega) rfl (by omega) W
  have k2 := fun W => rturn_any (b ^^^ c1) 12 4096 (xor_lt _ _ hb lc1) (by omega) (by omega) rfl (by omega) W
  have k3 := fun W => rturn_any (d1 ^^^ a2) 8 256 (xor_lt _ _ ld1 la2) (by omega) (by omega) rfl (by omega) W
  have k4 := fun W => rturn_any (b1 ^^^ c2) 7 128 (xor_lt _ _ lb1 lc2) (by omega) (by omega) rfl (by omega) W
  rw [show 32 - 16 = 16 from rfl, ed1] at k1
  rw [show 32 - 12 = 20 from rfl, eb1] at k2
  rw [show 32 - 8 = 24 from rfl, ed2] at k3
  rw [show 32 - 7 = 25 from rfl, eb2] at k4
  clear ed1 eb1 ed2 eb2 ea1 ec1 ea2 ec2
  revert x1 x2 x3 x4 k1 k2 k3 k4
  generalize d ^^^ a1 = y1
  generalize b ^^^ c1 = y2
  generalize d1 ^^^ a2 = y3
  generalize b1 ^^^ c2 = y4
  intro x1 x2 x3 x4 k1 k2 k3 k4
  go_enter Tryd.func40, Tryd.ntmps40
  go_wp2_with fail
  refine (k1 _).mono ?_
  rintro e w' ⟨rfl, rfl⟩
  go_wp2_with fail
  refine (k2 _).mono ?_
  rintro e w' ⟨rfl, rfl⟩
  go_wp2_with fail
  refine (k3 _).mono ?_
  rintro e w' ⟨rfl, rfl⟩
  go_wp2_with fail
  refine (k4 _).mono ?_
  rintro e w' ⟨rfl, rfl⟩
  go_wp2
  have HR : ((w.alloc (.cells #[.int .i64 (a2 : Int), .int .i64 (b2 : Int), .int .i64 (c2 : Int), .int .i64 (d2 : Int)] 73)).alloc (.cells #[.int .i64 (a2 : Int), .int .i64 (b2 : Int), .int .i64 (c2 : Int), .int .i64 (d2 : Int)] 73)).heap[w.heap.size + 1]? = some (.cells #[.int .i64 (a2 : Int), .int .i64 (b2 : Int), .int .i64 (c2 : Int), .int .i64 (d2 : Int)] 73 (0, 0)) := by
    have h := heap_new (w.alloc (.cells #[.int .i64 (a2 : Int), .int .i64 (b2 : Int), .int .i64 (c2 : Int), .int .i64 (d2 : Int)] 73)) (.cells #[.int .i64 (a2 : Int), .int .i64 (b2 : Int), .int .i64 (c2 : Int), .int .i64 (d2 : Int)] 73)
    simpa using h
  (try simp only [Exit.inBlock, Exit.then])
  refine bodyPost_ret (results_cell_row rfl _ _ (w.heap.size + 1) 73 _ (0, 0) _ rfl HR Tryd.underlying73 rfl (by kernel_rfl)) rfl ?_
  rw [HQ.out]
  exact ⟨rfl, ((Below.refl _ _).alloc (Nat.le_refl _) _).alloc (by simp) _⟩

end Go.Proofs.YtjcmpfnndjlpkabDoor
