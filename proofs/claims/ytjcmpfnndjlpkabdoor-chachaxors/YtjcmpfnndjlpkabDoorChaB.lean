import Derived.Test.YtjcmpfnndjlpkabDoorChaA
import Derived.Test.YtjcmpfnndjlpkabDoorRows
import Derived.OwnWalk
namespace Go.Proofs.YtjcmpfnndjlpkabDoor
open Go.RowKit Go.Lib Go.Deep

theorem results_tmp4 {fn : Func} {t u v x : Tmp} (h : fn.results = #[.tmp t, .tmp u, .tmp v, .tmp x]) (tmps : Array Value) (P : Program) (w : World) :
    (results fn tmps).run P w = .ok (.tuple #[tmps.getD t undef, tmps.getD u undef, tmps.getD v undef, tmps.getD x undef]) w := by
  simp [results, h]
theorem results_tmp5 {fn : Func} {t u v x y : Tmp} (h : fn.results = #[.tmp t, .tmp u, .tmp v, .tmp x, .tmp y]) (tmps : Array Value) (P : Program) (w : World) :
    (results fn tmps).run P w = .ok (.tuple #[tmps.getD t undef, tmps.getD u undef, tmps.getD v undef, tmps.getD x undef, tmps.getD y undef]) w := by
  simp [results, h]

theorem rot_or (x n : Nat) (hx : x < 4294967296) (h1 : 1 ≤ n) (h2 : n ≤ 31) :
    bits .or .u32 ((x : Int) * 2 ^ n % 4294967296) ((x : Int) / 2 ^ (32 - n)) = (rot x (32 - n) : Int) := by
  obtain ⟨s, hs⟩ : ∃ s, 32 - n = s := ⟨_, rfl⟩
  obtain rfl : n = 32 - s := by omega
  rw [hs]
  have e : 2 ^ s * 2 ^ (32 - s) = 4294967296 := by rw [← Nat.pow_add, show s + (32 - s) = 32 by omega]
  have p : 0 < 2 ^ s := Nat.pow_pos (by omega)
  have a : x / 2 ^ s < 2 ^ (32 - s) := by
    rw [Nat.div_lt_iff_lt_mul p, Nat.mul_comm, e]
    exact hx
  have m : x * 2 ^ (32 - s) % 4294967296 = x % 2 ^ s * 2 ^ (32 - s) := by rw [← e, Nat.mul_mod_mul_right]
  have q : x / 2 ^ s < 4294967296 := Nat.lt_of_le_of_lt (Nat.div_le_self _ _) hx
  have r : x % 2 ^ s * 2 ^ (32 - s) < 4294967296 := by rw [← m]; exact Nat.mod_lt _ (by omega)
  have eA : (x : Int) * 2 ^ (32 - s) % 4294967296 = ((x % 2 ^ s * 2 ^ (32 - s) : Nat) : Int) := by rw [← m, Int.natCast_emod, Int.natCast_mul, Int.natCast_pow]; rfl
  have eB : (x : Int) / 2 ^ s = ((x / 2 ^ s : Nat) : Int) := by rw [Int.natCast_ediv, Int.natCast_pow]; rfl
  rw [eA, eB, u32_or_nat _ _ r q, nat_join (32 - s) _ _ (Nat.mul_mod_left _ _) a, Nat.add_comm]
  rfl

set_option maxHeartbeats 1000000 in
theorem rotl_any (x n : Nat) (w : World) (hx : x < 4294967296) (h1 : 1 ≤ n) (h2 : n ≤ 31) :
    Calls Tryd.prog 38 #[.int .u32 (x : Int), .int .i64 (n : Int)] w fun e w' => e = .returned (.int .u32 (rot x (32 - n) : Int)) ∧ w = w' := by
  have HR : Hid (bits .or .u32 ((x : Int) * 2 ^ n % 4294967296) ((x : Int) / 2 ^ (32 - n)) = (rot x (32 - n) : Int)) := rot_or x n hx h1 h2
  have hcv : (n : Int) % 18446744073709551616 = (n : Int) := by omega
  have hcw : IntKind.u64.wrap (n : Int) = (n : Int) := by rw [IntKind.wrap_u64]; omega
  have han : bits .and .u64 (n : Int) 31 = (n : Int) := by
    have := u64_and_nat n 31 (by omega) (by omega)
    rw [nat_mask5] at this
    exact this.trans (by omega)
  go_enter Tryd.func38, Tryd.ntmps38
  go_wp2
  go_ret
  exact ⟨by simp [HR.out], rfl⟩

set_option maxRecDepth 20000 in
set_option maxHeartbeats 1000000 in
theorem quarter_any (q : Q4) (hq : q.OK) (w : World) :
    Calls Tryd.prog 30 #[.int .u32 (q.a : Int), .int .u32 (q.b : Int), .int .u32 (q.c : Int), .int .u32 (q.d : Int)] w fun e w' => e = .returned (.tuple #[.int .u32 ((qr q).a : Int), .int .u32 ((qr q).b : Int), .int .u32 ((qr q).c : Int), .int .u32 ((qr q).d : Int)]) ∧ w = w' := by
  obtain ⟨a, b, c, d⟩ := q
  obtain ⟨ha, hb, hc, hd⟩ := hq
  dsimp only at ha hb hc hd
  obtain ⟨a1, ea1⟩ : ∃ y, (a + b) % 4294967296 = y := ⟨_, rfl⟩
  obtain ⟨d1, ed1⟩ : ∃ y, rot (d ^^^ a1) 16 = y := ⟨_, rfl⟩
  obtain ⟨c1, ec1⟩ : ∃ y, (c + d1) % 4294967296 = y := ⟨_, rfl⟩
  obtain ⟨b1, eb1⟩ : ∃ y, rot (b ^^^ c1) 20 = y := ⟨_, rfl⟩
  obtain ⟨a2, ea2⟩ : ∃ y, (a1 + b1) % 4294967296 = y := ⟨_, rfl⟩
  obtain ⟨d2, ed2⟩ : ∃ y, rot (d1 ^^^ a2) 24 = y := ⟨_, rfl⟩
  obtain ⟨c2, ec2⟩ : ∃ y, (c1 + d2) % 4294967296 = y := ⟨_, rfl⟩
  obtain ⟨b2, eb2⟩ : ∃ y, rot (b1 ^^^ c2) 25 = y := ⟨_, rfl⟩
  have HQ : Hid (qr ⟨a, b, c, d⟩ = ⟨a2, b2, c2, d2⟩) := by
    show _ = _
    simp only [qr, Q4.half, ea1, ed1, ec1, eb1, ea2, ed2, ec2, eb2]
  have la1 : a1 < 4294967296 := by omega
  have ld1 : d1 < 4294967296 := by rw [← ed1]; exact rot_lt _ _ (xor_lt _ _ hd la1) (by omega) (by omega)
  have lc1 : c1 < 4294967296 := by omega
  have lb1 : b1 < 4294967296 := by rw [← eb1]; exact rot_lt _ _ (xor_lt _ _ hb lc1) (by omega) (by omega)
  have la2 : a2 < 4294967296 := by omega
  have ld2 : d2 < 4294967296 := by rw [← ed2]; exact rot_lt _ _ (xor_lt _ _ ld1 la2) (by omega) (by omega)
  have lc2 : c2 < 4294967296 := by omega
  have w1 : ((a : Int) + (b : Int)) % 4294967296 = (a1 : Int) := by omega
  have w2 : ((c : Int) + (d1 : Int)) % 4294967296 = (c1 : Int) := by omega
  have w3 : ((a1 : Int) + (b1 : Int)) % 4294967296 = (a2 : Int) := by omega
  have w4 : ((c1 : Int) + (d2 : Int)) % 4294967296 = (c2 : Int) := by omega
  have x1 := u32_xor_nat d a1 hd la1
  have x2 := u32_xor_nat b c1 hb lc1
  have x3 := u32_xor_nat d1 a2 ld1 la2
  have x4 := u32_xor_nat b1 c2 lb1 lc2
  have k1 := fun W => rotl_any (d ^^^ a1) 16 W (xor_lt _ _ hd la1) (by omega) (by omega)
  have k2 := fun W => rotl_any (b ^^^ c1) 12 W (xor_lt _ _ hb lc1) (by omega) (by omega)
  have k3 := fun W => rotl_any (d1 ^^^ a2) 8 W (xor_lt _ _ ld1 la2) (by omega) (by omega)
  have k4 := fun W => rotl_any (b1 ^^^ c2) 7 W (xor_lt _ _ lb1 lc2) (by omega) (by omega)
  rw [show 32 - 16 = 16 from rfl, ed1] at k1
  rw [show 32 - 12 = 20 from rfl, eb1] at k2
  rw [show 32 - 8 = 24 from rfl, ed2] at k3
  rw [show 32 - 7 = 25 from rfl, eb2] at k4
  clear ed1 eb1 ed2 eb2 ea1 ec1 ea2 ec2
  revert x1 x2 x3 x4 k1 k2 k3 k4
  generalize d ^^^ a1 = y1
  generalize b ^^^ c1 = y2
  generalize d1 ^^^ a2 = y3
  generalize b1 ^^^ c2 = y4
  intro x1 x2 x3 x4 k1 k2 k3 k4
  go_enter Tryd.func30, Tryd.ntmps30
  go_wp2_with fail
  refine (k1 _).mono ?_
  rintro e w' ⟨rfl, rfl⟩
  go_wp2_with fail
  refine (k2 _).mono ?_
  rintro e w' ⟨rfl, rfl⟩
  go_wp2_with fail
  refine (k3 _).mono ?_
  rintro e w' ⟨rfl, rfl⟩
  go_wp2_with fail
  refine (k4 _).mono ?_
  rintro e w' ⟨rfl, rfl⟩
  go_wp2
  (try simp only [Exit.inBlock, Exit.then])
  refine bodyPost_ret (results_tmp4 rfl _ _ _) rfl ?_
  rw [HQ.out]
  exact ⟨rfl, rfl⟩

end Go.Proofs.YtjcmpfnndjlpkabDoor
