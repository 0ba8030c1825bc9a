import Derived.Test.YtengclnahppmhaaGreatDoorChZ1
import Derived.KernelRfl
import Derived.Test.YtengclnahppmhaaGreatDoorTabsCp
import Derived.Test.YtengclnahppmhaaGreatDoorBaseM
import Derived.Deep.Cut
namespace Go.Proofs.YtengclnahppmhaaGreatDoor.Cha
open Go.RowKit Go.Lib Go.Deep

theorem ofInt_i64 (a : Nat) (ha : a < 4294967296) : (BitVec.ofInt 64 (a : Int)).toNat = a := by
  rw [BitVec.ofInt_natCast, BitVec.toNat_ofNat]; exact Nat.mod_eq_of_lt (by omega)
theorem i64_xor_nat (a b : Nat) (ha : a < 4294967296) (hb : b < 4294967296) : bits .xor .i64 (a : Int) (b : Int) = ((a ^^^ b : Nat) : Int) := by
  have hx : a ^^^ b < 2 ^ 32 := Nat.xor_lt_two_pow (by omega) (by omega)
  show IntKind.i64.wrap ((BitVec.ofInt 64 (a : Int) ^^^ BitVec.ofInt 64 (b : Int)).toNat : Int) = _
  rw [BitVec.toNat_xor, ofInt_i64 a ha, ofInt_i64 b hb, IntKind.wrap_i64]
  omega

theorem rot_turn (x n h : Nat) (_hx : x < 4294967296) (h1 : 1 ≤ n) (h2 : n ≤ 31) (hh : h = 2 ^ n) : x * h % 4294967296 + x * h / 4294967296 = rot x (32 - n) := by
  subst hh
  have e : 2 ^ (32 - n) * 2 ^ n = 4294967296 := by rw [← Nat.pow_add, show 32 - n + n = 32 by omega]
  have p : 0 < 2 ^ n := Nat.pow_pos (by omega)
  have m : x * 2 ^ n % 4294967296 = x % 2 ^ (32 - n) * 2 ^ n := by rw [← e, Nat.mul_mod_mul_right]
  have d : x * 2 ^ n / 4294967296 = x / 2 ^ (32 - n) := by rw [← e, Nat.mul_div_mul_right _ _ p]
  rw [m, d, Nat.add_comm, rot, show 32 - (32 - n) = n by omega]

theorem turn_sum (p : Nat) (hb : p ≤ 281474976645120) : wrap64 ((p : Int).tmod 4294967296 + wrap64 ((p : Int).tdiv 4294967296)) = (p : Int) % 4294967296 + (p : Int) / 4294967296 := by
  have e1 : (p : Int).tmod 4294967296 = (p : Int) % 4294967296 := Int.tmod_eq_emod_of_nonneg (Int.natCast_nonneg p)
  have e2 : (p : Int).tdiv 4294967296 = (p : Int) / 4294967296 := Int.tdiv_eq_ediv_of_nonneg (Int.natCast_nonneg p)
  rw [e1, e2]
  unfold wrap64
  omega
theorem turn_wrap (p : Nat) (hb : p ≤ 281474976645120) : wrap64 (p : Int) = (p : Int) := by unfold wrap64; omega

theorem rturn_any (x n h : Nat) (hx : x < 4294967296) (h1 : 1 ≤ n) (h2 : n ≤ 31) (hh : h = 2 ^ n) (hh2 : h ≤ 65536) (w : World) :
    Calls Tryz.prog 131 #[.int .i64 (x : Int), .int .i64 (h : Int)] w fun e w' => e = .returned (.int .i64 (rot x (32 - n) : Int)) ∧ w = w' := by
  have hr := rot_turn x n h hx h1 h2 hh
  have hb : x * h ≤ 281474976645120 := Nat.mul_le_mul (Nat.le_pred_of_lt hx) hh2
  have hpI : (x : Int) * (h : Int) = ((x * h : Nat) : Int) := (Int.natCast_mul x h).symm
  rw [← hr]
  clear hr hh h1 h2 hh2
  revert hb hpI
  generalize x * h = p
  intro hb hpI
  have hw' : wrap64 ((x : Int) * (h : Int)) = (p : Int) := by rw [hpI]; exact turn_wrap p hb
  have hs := turn_sum p hb
  have hs2 : wrap64 ((p : Int) % 4294967296 + wrap64 ((p : Int) / 4294967296)) = (p : Int) % 4294967296 + (p : Int) / 4294967296 := hs
  clear hb hpI
  go_enter Tryz.func131, Tryz.ntmps131
  go_wp2
  go_ret
  refine ⟨?_, rfl⟩
  congr 2
  simp [hw', hs2]

set_option maxRecDepth 20000 in
set_option maxHeartbeats 1000000 in
theorem rquarter_any (q : Q4) (hq : q.OK) (w : World) :
    Calls Tryz.prog 109 #[.agg #[.int .i64 (q.a : Int), .int .i64 (q.b : Int), .int .i64 (q.c : Int), .int .i64 (q.d : Int)]] w fun e w' => e = .returned (.agg #[.int .i64 ((qr q).a : Int), .int .i64 ((qr q).b : Int), .int .i64 ((qr q).c : Int), .int .i64 ((qr q).d : Int)]) ∧ Below w.heap.size w w' := by
  obtain ⟨a, b, c, d⟩ := q
  obtain ⟨ha, hb, hc, hd⟩ := hq
  dsimp only at ha hb hc hd
  obtain ⟨a1, ea1⟩ : ∃ y, (a + b) % 4294967296 = y := ⟨_, rfl⟩
  obtain ⟨d1, ed1⟩ : ∃ y, rot (d ^^^ a1) 16 = y := ⟨_, rfl⟩
  obtain ⟨c1, ec1⟩ : ∃ y, (c + d1) % 4294967296 = y := ⟨_, rfl⟩
  obtain ⟨b1, eb1⟩ : ∃ y, rot (b ^^^ c1) 20 = y := ⟨_, rfl⟩
  obtain ⟨a2, ea2⟩ : ∃ y, (a1 + b1) % 4294967296 = y := ⟨_, rfl⟩
  obtain ⟨d2, ed2⟩ : ∃ y, rot (d1 ^^^ a2) 24 = y := ⟨_, rfl⟩
  obtain ⟨c2, ec2⟩ : ∃ y, (c1 + d2) % 4294967296 = y := ⟨_, rfl⟩
  obtain ⟨b2, eb2⟩ : ∃ y, rot (b1 ^^^ c2) 25 = y := ⟨_, rfl⟩
  have HQ : Hid (qr ⟨a, b, c, d⟩ = ⟨a2, b2, c2, d2⟩) := by
    show _ = _
    simp only [qr, Q4.half, ea1, ed1, ec1, eb1, ea2, ed2, ec2, eb2]
  have la1 : a1 < 4294967296 := by omega
  have ld1 : d1 < 4294967296 := by rw [← ed1]; exact rot_lt _ _ (xor_lt _ _ hd la1) (by omega) (by omega)
  have lc1 : c1 < 4294967296 := by omega
  have lb1 : b1 < 4294967296 := by rw [← eb1]; exact rot_lt _ _ (xor_lt _ _ hb lc1) (by omega) (by omega)
  have la2 : a2 < 4294967296 := by omega
  have ld2 : d2 < 4294967296 := by rw [← ed2]; exact rot_lt _ _ (xor_lt _ _ ld1 la2) (by omega) (by omega)
  have lc2 : c2 < 4294967296 := by omega
  have w1 : ((a : Int) + (b : Int)) % 4294967296 = (a1 : Int) := by omega
  have w2 : ((c : Int) + (d1 : Int)) % 4294967296 = (c1 : Int) := by omega
  have w3 : ((a1 : Int) + (b1 : Int)) % 4294967296 = (a2 : Int) := by omega
  have w4 : ((c1 : Int) + (d2 : Int)) % 4294967296 = (c2 : Int) := by omega
  have x1 := i64_xor_nat d a1 hd la1
  have x2 := i64_xor_nat b c1 hb lc1
  have x3 := i64_xor_nat d1 a2 ld1 la2
  have x4 := i64_xor_nat b1 c2 lb1 lc2
  have k1 := fun W => rturn_any (d ^^^ a1) 16 65536 (xor_lt _ _ hd la1) (by omega) (by omega) rfl (by omega) W
  have k2 := fun W => rturn_any (b ^^^ c1) 12 4096 (xor_lt _ _ hb lc1) (by omega) (by omega) rfl (by omega) W
  have k3 := fun W => rturn_any (d1 ^^^ a2) 8 256 (xor_lt _ _ ld1 la2) (by omega) (by omega) rfl (by omega) W
  have k4 := fun W => rturn_any (b1 ^^^ c2) 7 128 (xor_lt _ _ lb1 lc2) (by omega) (by omega) rfl (by omega) W
  rw [show 32 - 16 = 16 from rfl, ed1] at k1
  rw [show 32 - 12 = 20 from rfl, eb1] at k2
  rw [show 32 - 8 = 24 from rfl, ed2] at k3
  rw [show 32 - 7 = 25 from rfl, eb2] at k4
  clear ed1 eb1 ed2 eb2 ea1 ec1 ea2 ec2
  revert x1 x2 x3 x4 k1 k2 k3 k4
  generalize d ^^^ a1 = y1
  generalize b ^^^ c1 = y2
  generalize d1 ^^^ a2 = y3
  generalize b1 ^^^ c2 = y4
  intro x1 x2 x3 x4 k1 k2 k3 k4
  go_enter Tryz.func109, Tryz.ntmps109
  go_wp2_with fail
  refine (k1 _).mono ?_
  rintro e w' ⟨rfl, rfl⟩
  go_wp2_with fail
  refine (k2 _).mono ?_
  rintro e w' ⟨rfl, rfl⟩
  go_wp2_with fail
  refine (k3 _).mono ?_
  rintro e w' ⟨rfl, rfl⟩
  go_wp2_with fail
  refine (k4 _).mono ?_
  rintro e w' ⟨rfl, rfl⟩
  go_wp2
  have HR : ((w.alloc (.cells #[.int .i64 (a2 : Int), .int .i64 (b2 : Int), .int .i64 (c2 : Int), .int .i64 (d2 : Int)] 154)).alloc (.cells #[.int .i64 (a2 : Int), .int .i64 (b2 : Int), .int .i64 (c2 : Int), .int .i64 (d2 : Int)] 154)).heap[w.heap.size + 1]? = some (.cells #[.int .i64 (a2 : Int), .int .i64 (b2 : Int), .int .i64 (c2 : Int), .int .i64 (d2 : Int)] 154 (0, 0)) := by
    have h := heap_new (w.alloc (.cells #[.int .i64 (a2 : Int), .int .i64 (b2 : Int), .int .i64 (c2 : Int), .int .i64 (d2 : Int)] 154)) (.cells #[.int .i64 (a2 : Int), .int .i64 (b2 : Int), .int .i64 (c2 : Int), .int .i64 (d2 : Int)] 154)
    simpa using h
  (try simp only [Exit.inBlock, Exit.then])
  refine bodyPost_ret (results_cell_row rfl _ _ (w.heap.size + 1) 154 _ (0, 0) _ rfl HR Tryz.underlying154 rfl (by kernel_rfl)) rfl ?_
  rw [HQ.out]
  exact ⟨rfl, ((Below.refl _ _).alloc (Nat.le_refl _) _).alloc (by simp) _⟩

end Go.Proofs.YtengclnahppmhaaGreatDoor.Cha

namespace Go.Proofs.YtengclnahppmhaaGreatDoor.Cha
open Go.RowKit Go.Lib Go.Deep

theorem info3 : (Tryz.prog.info? 3).map (fun i => (i.zero, i.size, i.bytes)) = some (some (.int .i64 0), 1, 8) := by kernel_rfl

theorem owns_kept {w w' : World} {B : Nat} {e : TypeId} {s n : Nat} {v : Value} {xs : List Value} (h : w.ownsRow B e s v n xs) (hk : ∀ k, k < w.heap.size → w'.heap[k]? = w.heap[k]?) : w'.ownsRow B e s v n xs := by
  refine ⟨h.1, ?_⟩
  rcases h.2 with h | ⟨g, cap, cur, rfl, h1, h2, h3⟩
  · exact .inl h
  · exact .inr ⟨g, cap, cur, rfl, h1, (hk g (heap_lt h2)).trans h2, h3⟩

/-- a list of numbers in a row of its own -/
theorem owns_range {w : World} {B n : Nat} {v : Value} {ws : List Nat} (h : w.ownsRow B 3 1 v n (i64L ws)) (hn : 0 < n) : ∃ g cap, v = .slice (some ⟨g, 0, none⟩) n cap ∧ B ≤ g ∧ n ≤ cap ∧ cap ≤ maxLen ∧ g < w.heap.size ∧ w.rangeAt g 0 (i64L ws) := by
  rcases h.2 with ⟨_, h0⟩ | ⟨g, cap, cur, rfl, h1, h2, h3, h4, h5, h6⟩
  · omega
  · refine ⟨g, cap, rfl, h1, h3, h4, heap_lt h2, ?_⟩
    have hl : (i64L ws).length = n := by have := h.1; omega
    intro j u hu
    have hj := (List.getElem?_eq_some_iff.1 hu).1
    rw [Nat.zero_add, cell_of_heap h2]
    have e : (cur.toList.take (n * 1))[j]? = some u := by rw [h6]; exact hu
    rw [List.getElem?_take, if_pos (by omega), Array.getElem?_toList] at e
    exact e
theorem cells_range {w : World} {g : Nat} {ws : List Nat} (h : w.rangeAt g 0 (i64L ws)) : ∀ j u, (i64L ws)[j]? = some u → w.cell? ((⟨g, 0, none⟩ : Addr).add j) = some u := by
  intro j u hu
  rw [Addr.add_lit, Nat.zero_add]
  have := h j u hu
  rwa [Nat.zero_add] at this
theorem range_kept {w w' : World} {g : Nat} {xs : List Value} (h : w.rangeAt g 0 xs) (hk : w'.heap[g]? = w.heap[g]?) : w'.rangeAt g 0 xs := by
  intro j u hu
  rw [World.cell?_of_block hk]
  exact h j u hu

theorem i64L_append (a b : List Nat) : i64L (a ++ b) = i64L a ++ i64L b := by simp [i64L]

set_option maxRecDepth 20000 in
set_option maxHeartbeats 800000 in
theorem wordsOf_any (s : ByteArray) (n : Nat) (hs : s.size = 4 * n) (hn : n ≤ 8) (w : World) :
    Calls Tryz.prog 91 #[.string s] w fun e w' => ∃ v, e = .returned v ∧ w'.ownsRow w.heap.size 3 1 v n (i64L (wordsL s.data.toList n)) ∧ Below w.heap.size w w' := by
  obtain ⟨i0, hi, hz0, hz1, hz2⟩ := info_parts info3
  have hl : s.data.toList.length = s.size := (size_eq s).symm
  go_enter Tryz.func91, Tryz.ntmps91
  go_wp2
  go_loopg [3, 4] n (fun gk v i wr => ∃ k : Nat, k + gk = n ∧ i = .int .i64 (4 * (k : Int)) ∧ wr.ownsRow w.heap.size 3 1 v k (i64L (wordsL s.data.toList k)) ∧ Below w.heap.size w wr)
  case atStart => exact ⟨0, by omega, rfl, World.ownsRow_nil _ _ _ _, Below.refl _ _⟩
  case round =>
    obtain ⟨k, hkk, rfl, hown, hbel⟩ := hrel
    have HK : Hid (k + gk = n) := hkk
    have hk' : k ≤ n := by omega
    clear hkk
    have a3 : IntKind.i64.wrap (4 * (k : Int) + 3) = 4 * (k : Int) + 3 := by rw [IntKind.wrap_i64]; omega
    by_cases hlt : k < n
    · have hltI : 4 * (k : Int) + 3 < (s.size : Int) := by omega
      have g : ∀ j, j < 4 → s.data.toList[4 * k + j]? = some (s.data.toList.getD (4 * k + j) 0) := fun j hj => by
        rw [List.getD_eq_getElem?_getD, List.getElem?_eq_getElem (by omega)]
        rfl
      have h0 := fun W => rindex_at (P := Tryz.prog) W 9 s .i64 (4 * (k : Int)) (4 * k) _ Tryz.underlying9 (by omega) (g 0 (by omega))
      have h1 := fun W => rindex_at (P := Tryz.prog) W 9 s .i64 (4 * (k : Int) + 1) (4 * k + 1) _ Tryz.underlying9 (by omega) (g 1 (by omega))
      have h2 := fun W => rindex_at (P := Tryz.prog) W 9 s .i64 (4 * (k : Int) + 2) (4 * k + 2) _ Tryz.underlying9 (by omega) (g 2 (by omega))
      have h3 := fun W => rindex_at (P := Tryz.prog) W 9 s .i64 (4 * (k : Int) + 3) (4 * k + 3) _ Tryz.underlying9 (by omega) (g 3 (by omega))
      have HF : Hid (wordL s.data.toList (4 * k) = (s.data.toList.getD (4 * k + 0) 0).toNat + 256 * (s.data.toList.getD (4 * k + 1) 0).toNat + 65536 * (s.data.toList.getD (4 * k + 2) 0).toNat + 16777216 * (s.data.toList.getD (4 * k + 3) 0).toNat) := rfl
      have l0 := (s.data.toList.getD (4 * k + 0) 0).toNat_lt
      have l1 := (s.data.toList.getD (4 * k + 1) 0).toNat_lt
      have l2 := (s.data.toList.getD (4 * k + 2) 0).toNat_lt
      have l3 := (s.data.toList.getD (4 * k + 3) 0).toNat_lt
      clear g
      revert h0 h1 h2 h3 HF l0 l1 l2 l3
      generalize (s.data.toList.getD (4 * k + 0) 0).toNat = x0
      generalize (s.data.toList.getD (4 * k + 1) 0).toNat = x1
      generalize (s.data.toList.getD (4 * k + 2) 0).toNat = x2
      generalize (s.data.toList.getD (4 * k + 3) 0).toNat = x3
      intro h0 h1 h2 h3 HF l0 l1 l2 l3
      have HS : Hid (i64L (wordsL s.data.toList (k + 1)) = i64L (wordsL s.data.toList k) ++ [.int .i64 ((x0 : Int) + 256 * (x1 : Int) + 65536 * (x2 : Int) + 16777216 * (x3 : Int))]) := by
        show _ = _
        rw [wordsL_succ, i64L_append, HF.out]
        rfl
      clear HF
      have a1 : IntKind.i64.wrap (4 * (k : Int) + 1) = 4 * (k : Int) + 1 := by rw [IntKind.wrap_i64]; omega
      have a2 : IntKind.i64.wrap (4 * (k : Int) + 2) = 4 * (k : Int) + 2 := by rw [IntKind.wrap_i64]; omega
      have e0 : IntKind.i64.wrap (x0 : Int) = (x0 : Int) := by rw [IntKind.wrap_i64]; omega
      have e1 : IntKind.i64.wrap (x1 : Int) = (x1 : Int) := by rw [IntKind.wrap_i64]; omega
      have e2 : IntKind.i64.wrap (x2 : Int) = (x2 : Int) := by rw [IntKind.wrap_i64]; omega
      have e3 : IntKind.i64.wrap (x3 : Int) = (x3 : Int) := by rw [IntKind.wrap_i64]; omega
      have f1 : IntKind.i64.wrap (256 * (x1 : Int)) = 256 * (x1 : Int) := by rw [IntKind.wrap_i64]; omega
      have f2 : IntKind.i64.wrap ((x0 : Int) + 256 * (x1 : Int)) = (x0 : Int) + 256 * (x1 : Int) := by rw [IntKind.wrap_i64]; omega
      have f3 : IntKind.i64.wrap (65536 * (x2 : Int)) = 65536 * (x2 : Int) := by rw [IntKind.wrap_i64]; omega
      have f4 : IntKind.i64.wrap ((x0 : Int) + 256 * (x1 : Int) + 65536 * (x2 : Int)) = (x0 : Int) + 256 * (x1 : Int) + 65536 * (x2 : Int) := by rw [IntKind.wrap_i64]; omega
      have f5 : IntKind.i64.wrap (16777216 * (x3 : Int)) = 16777216 * (x3 : Int) := by rw [IntKind.wrap_i64]; omega
      have f6 : IntKind.i64.wrap ((x0 : Int) + 256 * (x1 : Int) + 65536 * (x2 : Int) + 16777216 * (x3 : Int)) = (x0 : Int) + 256 * (x1 : Int) + 65536 * (x2 : Int) + 16777216 * (x3 : Int) := by rw [IntKind.wrap_i64]; omega
      have hml : k + 1 ≤ maxLen := by unfold maxLen; omega
      have hone : ∀ u ∈ [Value.int .i64 ((x0 : Int) + 256 * (x1 : Int) + 65536 * (x2 : Int) + 16777216 * (x3 : Int))], u.oneCell' = true := by
        intro u hu
        obtain rfl := List.mem_singleton.1 hu
        rfl
      have hownV : wr.drew.ownsRow w.heap.size 3 1 u3 k (i64L (wordsL s.data.toList k)) := owns_kept hown (fun _ _ => rfl)
      have hbelV : Below w.heap.size w wr.drew := hbel.drew
      clear hown hbel
      go_wp2_with fail
      refine wp_region_held_drew (S := fun _ => True) (by kernel_rfl) trivial ?_
      intro _
      revert hownV hbelV
      generalize wr.drew = V
      intro hownV hbelV
      refine wpAnyH_take (i := 0) (oi := { dst := some 12, op := .move (.tmp 3), type := _, pos := _, after := _, guard := none }) (v := u3) rfl (by kernel_rfl) (by kernel_rfl) (by kernel_rfl) (fun _ _ _ h => h) (Or.inl ⟨by rfl, by intro x _; go_simp⟩) trivial ?_
      (try simp only [Act.put, List.setIfInBounds_toArray, List.set_cons_zero, List.set_cons_succ])
      refine wpAnyH_take (i := 1) (oi := { dst := some 13, op := .move (.tmp 0), type := _, pos := _, after := _, guard := none }) (v := .string s) rfl (by kernel_rfl) (by kernel_rfl) (by kernel_rfl) (fun _ _ _ h => h) (Or.inl ⟨by rfl, by intro x _; go_simp⟩) trivial ?_
      (try simp only [Act.put, List.setIfInBounds_toArray, List.set_cons_zero, List.set_cons_succ])
      refine wpAnyH_take (i := 2) (oi := { dst := some 14, op := .move (.tmp 4), type := _, pos := _, after := _, guard := none }) (v := .int .i64 (4 * (k : Int))) rfl (by kernel_rfl) (by kernel_rfl) (by kernel_rfl) (fun _ _ _ h => h) (Or.inl ⟨by rfl, by intro x _; go_simp⟩) trivial ?_
      (try simp only [Act.put, List.setIfInBounds_toArray, List.set_cons_zero, List.set_cons_succ])
      refine wpAnyH_take (i := 3) (oi := { dst := some 15, op := .index 9 (.tmp 13) (.tmp 14), type := _, pos := _, after := _, guard := none }) (v := .int .u8 (x0 : Int)) rfl (by kernel_rfl) (by kernel_rfl) (by kernel_rfl) (fun _ _ _ h => h) (Or.inl ⟨by rfl, by intro x _; go_simp⟩) trivial ?_
      (try simp only [Act.put, List.setIfInBounds_toArray, List.set_cons_zero, List.set_cons_succ])
      refine wpAnyH_take (i := 4) (oi := { dst := some 16, op := .convert 5 3 (.tmp 15), type := _, pos := _, after := _, guard := none }) (v := .int .i64 (x0 : Int)) rfl (by kernel_rfl) (by kernel_rfl) (by kernel_rfl) (fun _ _ _ h => h) (Or.inl ⟨by rfl, by intro x _; go_simp⟩) trivial ?_
      (try simp only [Act.put, List.setIfInBounds_toArray, List.set_cons_zero, List.set_cons_succ])
      refine wpAnyH_take (i := 5) (oi := { dst := some 17, op := .move (.tmp 0), type := _, pos := _, after := _, guard := none }) (v := .string s) rfl (by kernel_rfl) (by kernel_rfl) (by kernel_rfl) (fun _ _ _ h => h) (Or.inl ⟨by rfl, by intro x _; go_simp⟩) trivial ?_
      (try simp only [Act.put, List.setIfInBounds_toArray, List.set_cons_zero, List.set_cons_succ])
      refine wpAnyH_take (i := 6) (oi := { dst := some 18, op := .move (.tmp 4), type := _, pos := _, after := _, guard := none }) (v := .int .i64 (4 * (k : Int))) rfl (by kernel_rfl) (by kernel_rfl) (by kernel_rfl) (fun _ _ _ h => h) (Or.inl ⟨by rfl, by intro x _; go_simp⟩) trivial ?_
      (try simp only [Act.put, List.setIfInBounds_toArray, List.set_cons_zero, List.set_cons_succ])
      refine wpAnyH_take (i := 7) (oi := { dst := some 19, op := .binOp .add 3 (.tmp 18) (.const (.int .i64 1)) 3, type := _, pos := _, after := _, guard := none }) (v := .int .i64 (4 * (k : Int) + 1)) rfl (by kernel_rfl) (by kernel_rfl) (by kernel_rfl) (fun _ _ _ h => h) (Or.inl ⟨by rfl, by intro x _; go_simp⟩) trivial ?_
      (try simp only [Act.put, List.setIfInBounds_toArray, List.set_cons_zero, List.set_cons_succ])
      refine wpAnyH_take (i := 8) (oi := { dst := some 20, op := .index 9 (.tmp 17) (.tmp 19), type := _, pos := _, after := _, guard := none }) (v := .int .u8 (x1 : Int)) rfl (by kernel_rfl) (by kernel_rfl) (by kernel_rfl) (fun _ _ _ h => h) (Or.inl ⟨by rfl, by intro x _; go_simp⟩) trivial ?_
      (try simp only [Act.put, List.setIfInBounds_toArray, List.set_cons_zero, List.set_cons_succ])
      refine wpAnyH_take (i := 9) (oi := { dst := some 21, op := .convert 5 3 (.tmp 20), type := _, pos := _, after := _, guard := none }) (v := .int .i64 (x1 : Int)) rfl (by kernel_rfl) (by kernel_rfl) (by kernel_rfl) (fun _ _ _ h => h) (Or.inl ⟨by rfl, by intro x _; go_simp⟩) trivial ?_
      (try simp only [Act.put, List.setIfInBounds_toArray, List.set_cons_zero, List.set_cons_succ])
      refine wpAnyH_take (i := 10) (oi := { dst := some 22, op := .binOp .mul 3 (.const (.int .i64 256)) (.tmp 21) 3, type := _, pos := _, after := _, guard := none }) (v := .int .i64 (256 * (x1 : Int))) rfl (by kernel_rfl) (by kernel_rfl) (by kernel_rfl) (fun _ _ _ h => h) (Or.inl ⟨by rfl, by intro x _; go_simp⟩) trivial ?_
      (try simp only [Act.put, List.setIfInBounds_toArray, List.set_cons_zero, List.set_cons_succ])
      refine wpAnyH_take (i := 11) (oi := { dst := some 23, op := .binOp .add 3 (.tmp 16) (.tmp 22) 3, type := _, pos := _, after := _, guard := none }) (v := .int .i64 ((x0 : Int) + 256 * (x1 : Int))) rfl (by kernel_rfl) (by kernel_rfl) (by kernel_rfl) (fun _ _ _ h => h) (Or.inl ⟨by rfl, by intro x _; go_simp⟩) trivial ?_
      (try simp only [Act.put, List.setIfInBounds_toArray, List.set_cons_zero, List.set_cons_succ])
      refine wpAnyH_take (i := 12) (oi := { dst := some 24, op := .move (.tmp 0), type := _, pos := _, after := _, guard := none }) (v := .string s) rfl (by kernel_rfl) (by kernel_rfl) (by kernel_rfl) (fun _ _ _ h => h) (Or.inl ⟨by rfl, by intro x _; go_simp⟩) trivial ?_
      (try simp only [Act.put, List.setIfInBounds_toArray, List.set_cons_zero, List.set_cons_succ])
      refine wpAnyH_take (i := 13) (oi := { dst := some 25, op := .move (.tmp 4), type := _, pos := _, after := _, guard := none }) (v := .int .i64 (4 * (k : Int))) rfl (by kernel_rfl) (by kernel_rfl) (by kernel_rfl) (fun _ _ _ h => h) (Or.inl ⟨by rfl, by intro x _; go_simp⟩) trivial ?_
      (try simp only [Act.put, List.setIfInBounds_toArray, List.set_cons_zero, List.set_cons_succ])
      refine wpAnyH_take (i := 14) (oi := { dst := some 26, op := .binOp .add 3 (.tmp 25) (.const (.int .i64 2)) 3, type := _, pos := _, after := _, guard := none }) (v := .int .i64 (4 * (k : Int) + 2)) rfl (by kernel_rfl) (by kernel_rfl) (by kernel_rfl) (fun _ _ _ h => h) (Or.inl ⟨by rfl, by intro x _; go_simp⟩) trivial ?_
      (try simp only [Act.put, List.setIfInBounds_toArray, List.set_cons_zero, List.set_cons_succ])
      refine wpAnyH_take (i := 15) (oi := { dst := some 27, op := .index 9 (.tmp 24) (.tmp 26), type := _, pos := _, after := _, guard := none }) (v := .int .u8 (x2 : Int)) rfl (by kernel_rfl) (by kernel_rfl) (by kernel_rfl) (fun _ _ _ h => h) (Or.inl ⟨by rfl, by intro x _; go_simp⟩) trivial ?_
      (try simp only [Act.put, List.setIfInBounds_toArray, List.set_cons_zero, List.set_cons_succ])
      refine wpAnyH_take (i := 16) (oi := { dst := some 28, op := .convert 5 3 (.tmp 27), type := _, pos := _, after := _, guard := none }) (v := .int .i64 (x2 : Int)) rfl (by kernel_rfl) (by kernel_rfl) (by kernel_rfl) (fun _ _ _ h => h) (Or.inl ⟨by rfl, by intro x _; go_simp⟩) trivial ?_
      (try simp only [Act.put, List.setIfInBounds_toArray, List.set_cons_zero, List.set_cons_succ])
      refine wpAnyH_take (i := 17) (oi := { dst := some 29, op := .binOp .mul 3 (.const (.int .i64 65536)) (.tmp 28) 3, type := _, pos := _, after := _, guard := none }) (v := .int .i64 (65536 * (x2 : Int))) rfl (by kernel_rfl) (by kernel_rfl) (by kernel_rfl) (fun _ _ _ h => h) (Or.inl ⟨by rfl, by intro x _; go_simp⟩) trivial ?_
      (try simp only [Act.put, List.setIfInBounds_toArray, List.set_cons_zero, List.set_cons_succ])
      refine wpAnyH_take (i := 18) (oi := { dst := some 30, op := .binOp .add 3 (.tmp 23) (.tmp 29) 3, type := _, pos := _, after := _, guard := none }) (v := .int .i64 ((x0 : Int) + 256 * (x1 : Int) + 65536 * (x2 : Int))) rfl (by kernel_rfl) (by kernel_rfl) (by kernel_rfl) (fun _ _ _ h => h) (Or.inl ⟨by rfl, by intro x _; go_simp⟩) trivial ?_
      (try simp only [Act.put, List.setIfInBounds_toArray, List.set_cons_zero, List.set_cons_succ])
      refine wpAnyH_take (i := 19) (oi := { dst := some 31, op := .move (.tmp 0), type := _, pos := _, after := _, guard := none }) (v := .string s) rfl (by kernel_rfl) (by kernel_rfl) (by kernel_rfl) (fun _ _ _ h => h) (Or.inl ⟨by rfl, by intro x _; go_simp⟩) trivial ?_
      (try simp only [Act.put, List.setIfInBounds_toArray, List.set_cons_zero, List.set_cons_succ])
      refine wpAnyH_take (i := 20) (oi := { dst := some 32, op := .move (.tmp 4), type := _, pos := _, after := _, guard := none }) (v := .int .i64 (4 * (k : Int))) rfl (by kernel_rfl) (by kernel_rfl) (by kernel_rfl) (fun _ _ _ h => h) (Or.inl ⟨by rfl, by intro x _; go_simp⟩) trivial ?_
      (try simp only [Act.put, List.setIfInBounds_toArray, List.set_cons_zero, List.set_cons_succ])
      refine wpAnyH_take (i := 21) (oi := { dst := some 33, op := .binOp .add 3 (.tmp 32) (.const (.int .i64 3)) 3, type := _, pos := _, after := _, guard := none }) (v := .int .i64 (4 * (k : Int) + 3)) rfl (by kernel_rfl) (by kernel_rfl) (by kernel_rfl) (fun _ _ _ h => h) (Or.inl ⟨by rfl, by intro x _; go_simp⟩) trivial ?_
      (try simp only [Act.put, List.setIfInBounds_toArray, List.set_cons_zero, List.set_cons_succ])
      refine wpAnyH_take (i := 22) (oi := { dst := some 34, op := .index 9 (.tmp 31) (.tmp 33), type := _, pos := _, after := _, guard := none }) (v := .int .u8 (x3 : Int)) rfl (by kernel_rfl) (by kernel_rfl) (by kernel_rfl) (fun _ _ _ h => h) (Or.inl ⟨by rfl, by intro x _; go_simp⟩) trivial ?_
      (try simp only [Act.put, List.setIfInBounds_toArray, List.set_cons_zero, List.set_cons_succ])
      refine wpAnyH_take (i := 23) (oi := { dst := some 35, op := .convert 5 3 (.tmp 34), type := _, pos := _, after := _, guard := none }) (v := .int .i64 (x3 : Int)) rfl (by kernel_rfl) (by kernel_rfl) (by kernel_rfl) (fun _ _ _ h => h) (Or.inl ⟨by rfl, by intro x _; go_simp⟩) trivial ?_
      (try simp only [Act.put, List.setIfInBounds_toArray, List.set_cons_zero, List.set_cons_succ])
      refine wpAnyH_take (i := 24) (oi := { dst := some 36, op := .binOp .mul 3 (.const (.int .i64 16777216)) (.tmp 35) 3, type := _, pos := _, after := _, guard := none }) (v := .int .i64 (16777216 * (x3 : Int))) rfl (by kernel_rfl) (by kernel_rfl) (by kernel_rfl) (fun _ _ _ h => h) (Or.inl ⟨by rfl, by intro x _; go_simp⟩) trivial ?_
      (try simp only [Act.put, List.setIfInBounds_toArray, List.set_cons_zero, List.set_cons_succ])
      refine wpAnyH_take (i := 25) (oi := { dst := some 37, op := .binOp .add 3 (.tmp 30) (.tmp 36) 3, type := _, pos := _, after := _, guard := none }) (v := .int .i64 ((x0 : Int) + 256 * (x1 : Int) + 65536 * (x2 : Int) + 16777216 * (x3 : Int))) rfl (by kernel_rfl) (by kernel_rfl) (by kernel_rfl) (fun _ _ _ h => h) (Or.inl ⟨by rfl, by intro x _; go_simp⟩) trivial ?_
      (try simp only [Act.put, List.setIfInBounds_toArray, List.set_cons_zero, List.set_cons_succ])
      refine wpAnyH_ready (rs := [26]) (by kernel_rfl) (by simp) ?_
      refine AllReadyH.cons (o := { dst := some 38, op := .buildSlice 39 1 #[(0, .tmp 37)], type := _, pos := _, after := _, guard := none }) rfl (fun K hK => ?_) AllReadyH.nil
      go_simp
      refine hK.out _ _ trivial (fun _ => ?_)
      clear hK K
      (try simp only [Act.put, List.setIfInBounds_toArray, List.set_cons_zero, List.set_cons_succ])
      refine wpAnyH_ready (rs := [27]) (by kernel_rfl) (by simp) ?_
      refine AllReadyH.cons (o := { dst := some 39, op := .call { callee := .builtin .append, args := #[.tmp 12, .tmp 38], argTypes := #[39, 39] }, type := _, pos := _, after := _, guard := none }) rfl (fun K hK => ?_) AllReadyH.nil
      refine step_append_own rfl (.tmp 12) (.tmp 38) 39 rfl w.heap.size 3 i0 (.int .i64 0) 1 8 Tryz.underlying39 hi hz0 hz1 hz2 rfl (by decide) _ _ _ (by simp [Act.eval]) (hownV.alloc _) ⟨V.heap.size, 0, none⟩ 1 1 [.int .i64 ((x0 : Int) + 256 * (x1 : Int) + 65536 * (x2 : Int) + 16777216 * (x3 : Int))] (by simp [Act.eval]) rfl (by intro j u h; exact cells_new V #[.int .i64 ((x0 : Int) + 256 * (x1 : Int) + 65536 * (x2 : Int) + 16777216 * (x3 : Int))] 3 j u (by simpa using h)) hone hml (by omega) (by have := hbelV.size; simp; omega) ?_
      intro v' w' hown' hgrow'
      refine hK.out _ _ trivial (fun _ => ?_)
      clear hK K
      (try simp only [Act.put, List.setIfInBounds_toArray, List.set_cons_zero, List.set_cons_succ])
      refine wpAnyH_take (i := 28) (oi := { dst := some 3, op := .assign (.tmp 39), type := _, pos := _, after := _, guard := none }) (v := v') rfl (by kernel_rfl) (by kernel_rfl) (by kernel_rfl) (fun _ _ _ h => h) (Or.inl ⟨by rfl, by intro x _; go_simp⟩) trivial ?_
      (try simp only [Act.put, List.setIfInBounds_toArray, List.set_cons_zero, List.set_cons_succ])
      refine wpAnyH_done (by kernel_rfl) ?_ _
      have R : w'.ownsRow w.heap.size 3 1 v' (k + 1) (i64L (wordsL s.data.toList (k + 1))) := by rw [HS.out]; exact hown'
      have hb' : Below w.heap.size w w' := by
        have h1 := hbelV.alloc hbelV.size (.cells #[.int .i64 ((x0 : Int) + 256 * (x1 : Int) + 65536 * (x2 : Int) + 16777216 * (x3 : Int))] 3)
        exact h1.trans (grown_below hgrow' h1.size (hownV.alloc _))
      clear hown' hgrow' hownV
      go_wp2
      go_roundg (gk - 1)
      case measure => have := HK.out; omega
      case rel => exact ⟨k + 1, by have := HK.out; omega, by go_num, R, hb'⟩
    · have hltI : ¬ 4 * (k : Int) + 3 < (s.size : Int) := by omega
      obtain rfl : k = n := by omega
      go_wp2
      go_ret
      exact ⟨_, rfl, hown, hbel⟩

end Go.Proofs.YtengclnahppmhaaGreatDoor.Cha

namespace Go.Proofs.YtengclnahppmhaaGreatDoor.Cha
open Go.RowKit Go.Lib Go.Deep

theorem bytes4_rem (x : Nat) : byteCells (bytes4 x) = [.int .u8 ((x : Int) % 256), .int .u8 ((x : Int) / 256 % 256), .int .u8 ((x : Int) / 65536 % 256), .int .u8 ((x : Int) / 16777216 % 256)] := by
  have e : byteCells (bytes4 x) = [.int .u8 ((byteAt x 0).toNat : Int), .int .u8 ((byteAt x 1).toNat : Int), .int .u8 ((byteAt x 2).toNat : Int), .int .u8 ((byteAt x 3).toNat : Int)] := rfl
  rw [e, byteAt_toNat, byteAt_toNat, byteAt_toNat, byteAt_toNat]
  simp

set_option maxRecDepth 20000 in
set_option maxHeartbeats 1000000 in
theorem bytesOf_any (ws : List Nat) (hlt : ∀ x ∈ ws, x < 4294967296) (hl : ws.length ≤ 16) (b cap : Nat) (w : World) (hb : b < w.heap.size) (hc : w.rangeAt b 0 (i64L ws)) :
    Calls Tryz.prog 92 #[.slice (some ⟨b, 0, none⟩) ws.length cap] w fun e w' => e = .returned (.string (str (textL ws))) ∧ Below w.heap.size w w' := by
  obtain ⟨i0, hi, hz0, hz1, hz2⟩ := info_parts info5
  go_enter Tryz.func92, Tryz.ntmps92
  go_wp2
  go_loopg [3, 4] ws.length (fun gk v i wr => ∃ k : Nat, k + gk = ws.length ∧ i = .int .i64 k ∧ wr.ownsRow w.heap.size 5 1 v (textL (ws.take k)).length (byteCells (textL (ws.take k))) ∧ Below w.heap.size w wr)
  case atStart => exact ⟨0, by omega, rfl, World.ownsRow_nil _ _ _ _, Below.refl _ _⟩
  case round =>
    obtain ⟨k, hk, rfl, hown, hbel⟩ := hrel
    have HK : Hid (k + gk = ws.length) := hk
    have hk' : k ≤ ws.length := by omega
    clear hk
    by_cases hkl : k < ws.length
    · have hkI : (k : Int) < (ws.length : Int) := by omega
      obtain ⟨x, hx⟩ : ∃ x, ws[k]? = some x := ⟨_, List.getElem?_eq_getElem hkl⟩
      have hxl := hlt x (List.mem_of_getElem? hx)
      have hcell : wr.cell? ⟨b, k, none⟩ = some (.int .i64 (x : Int)) := by
        rw [hbel.cell (p := ⟨b, k, none⟩) hb]
        have := hc k (.int .i64 (x : Int)) (by simp [i64L, hx])
        simpa using this
      have HS : Hid (byteCells (textL (ws.take (k + 1))) = byteCells (textL (ws.take k)) ++ [.int .u8 ((x : Int) % 256), .int .u8 ((x : Int) / 256 % 256), .int .u8 ((x : Int) / 65536 % 256), .int .u8 ((x : Int) / 16777216 % 256)]) := by
        show _ = _
        rw [textL_take ws k x hx, byteCells_append, bytes4_rem x]
      have HL : Hid ((textL (ws.take (k + 1))).length = (textL (ws.take k)).length + 4) := by
        show _ = _
        rw [textL_take ws k x hx, List.length_append]
        rfl
      have hlen : (textL (ws.take k)).length ≤ 64 := by rw [textL_length, List.length_take]; omega
      have hml : (textL (ws.take k)).length + 4 ≤ maxLen := by unfold maxLen; omega
      have hone : ∀ u ∈ [Value.int .u8 ((x : Int) % 256), .int .u8 ((x : Int) / 256 % 256), .int .u8 ((x : Int) / 65536 % 256), .int .u8 ((x : Int) / 16777216 % 256)], u.oneCell' = true := by
        rw [← bytes4_rem x]
        exact byteCells_one _
      clear hx
      revert hown HS HL hlen hml
      generalize (textL (ws.take k)).length = m
      generalize byteCells (textL (ws.take k)) = cs
      intro hown HS HL hlen hml
      go_wp2_with (at_builtin; refine wpList_append_own _ rfl _ _ 96 rfl w.heap.size 5 i0 (.int .u8 0) 1 1 Tryz.underlying96 hi hz0 hz1 hz2 rfl (by decide) _ _ _ rfl (hown.alloc _) ⟨wr.heap.size, 0, none⟩ 4 4 [.int .u8 ((x : Int) % 256), .int .u8 ((x : Int) / 256 % 256), .int .u8 ((x : Int) / 65536 % 256), .int .u8 ((x : Int) / 16777216 % 256)] rfl rfl (by intro j u h; exact cells_new wr #[.int .u8 ((x : Int) % 256), .int .u8 ((x : Int) / 256 % 256), .int .u8 ((x : Int) / 65536 % 256), .int .u8 ((x : Int) / 16777216 % 256)] 5 j u (by simpa using h)) hone hml (by omega) (by have := hbel.size; simp; omega) ?_; intro v' w' hown' hgrow' _)
      have R : w'.ownsRow w.heap.size 5 1 v' (textL (ws.take (k + 1))).length (byteCells (textL (ws.take (k + 1)))) := by rw [HS.out, HL.out]; exact hown'
      have hb' : Below w.heap.size w w' := by
        have h1 := hbel.alloc hbel.size (.cells #[.int .u8 ((x : Int) % 256), .int .u8 ((x : Int) / 256 % 256), .int .u8 ((x : Int) / 65536 % 256), .int .u8 ((x : Int) / 16777216 % 256)] 5)
        exact h1.trans (grown_below hgrow' h1.size (hown.alloc _))
      clear hown' hgrow' hown
      go_wp2
      go_roundg (gk - 1)
      case measure => have := HK.out; omega
      case rel => exact ⟨k + 1, by have := HK.out; omega, by go_num, R, hb'⟩
    · have hkI : ¬ (k : Int) < (ws.length : Int) := by omega
      obtain rfl : k = ws.length := by omega
      rw [List.take_length] at hown
      have hcv := convert_own (P := Tryz.prog) wr 96 9 5 w.heap.size _ (textL ws) Tryz.underlying96 Tryz.underlying5 Tryz.underlying9 hown
      clear hown
      go_wp2
      go_ret
      exact ⟨rfl, hbel⟩

end Go.Proofs.YtengclnahppmhaaGreatDoor.Cha

namespace Go.Proofs.YtengclnahppmhaaGreatDoor.Cha
open Go.RowKit Go.Lib Go.Deep

theorem con_owned (w : World) : (w.alloc (.cells (i64s con4) 3)).ownsRow w.heap.size 3 1 (.slice (some ⟨w.heap.size, 0, none⟩) 4 4) 4 (i64L con4) :=
  ⟨rfl, .inr ⟨w.heap.size, 4, i64s con4, rfl, Nat.le_refl _, heap_new _ _, Nat.le_refl _, by unfold maxLen; omega, rfl, rfl⟩⟩

set_option maxRecDepth 20000 in
set_option maxHeartbeats 1000000 in
theorem start_any (key : ByteArray) (hk : key.size = 32) (fs : List Nat) (hf : fs.length = 4) (g4 cap4 : Nat) (w : World) (hg4 : g4 < w.heap.size) (hr4 : w.rangeAt g4 0 (i64L fs)) :
    Calls Tryz.prog 90 #[.string key, .slice (some ⟨g4, 0, none⟩) 4 cap4] w fun e w' => ∃ v, e = .returned v ∧ w'.ownsRow w.heap.size 3 1 v 16 (i64L (con4 ++ wordsL key.data.toList 8 ++ fs)) ∧ Below w.heap.size w w' := by
  obtain ⟨i0, hi, hz0, hz1, hz2⟩ := info_parts info3
  have hA := con_owned w
  have hbA : Below w.heap.size w (w.alloc (.cells (i64s con4) 3)) := (Below.refl _ _).alloc (Nat.le_refl _) _
  have hwo := wordsOf_any key 8 hk (by omega) (w.alloc (.cells (i64s con4) 3))
  have hlw : (i64L (wordsL key.data.toList 8)).length = 8 := by rw [i64L_length, wordsL_length]
  have hlf : (i64L fs).length = 4 := by rw [i64L_length, hf]
  have HE : Hid (i64L (con4 ++ wordsL key.data.toList 8 ++ fs) = (i64L con4 ++ i64L (wordsL key.data.toList 8)) ++ i64L fs) := by show _ = _; rw [i64L_append, i64L_append]
  have ho1 := i64L_one (wordsL key.data.toList 8)
  have ho2 := i64L_one fs
  revert hwo hlw HE ho1
  generalize wordsL key.data.toList 8 = ws
  intro hwo hlw HE ho1
  go_enter Tryz.func90, Tryz.ntmps90
  go_wp2_with fail
  refine hwo.mono ?_
  rintro e w2 ⟨v2, rfl, hown2, hb2'⟩
  have hb2 := hbA.trans (hb2'.mono hbA.size)
  have hA2 := owns_kept hA (fun k hk => hb2'.block k hk)
  obtain ⟨g2, cap2, rfl, hg2, hc2, hcm2, hl2, hr2⟩ := owns_range hown2 (by omega)
  have hml1 : 4 + 8 ≤ maxLen := by unfold maxLen; omega
  have hml2 : 4 + 8 + 4 ≤ maxLen := by unfold maxLen; omega
  have z2 := hb2.size
  go_upto_region 3 with (at_builtin; refine wpList_append_own _ rfl _ _ 39 rfl w.heap.size 3 i0 (.int .i64 0) 1 8 Tryz.underlying39 hi hz0 hz1 hz2 rfl (by decide) _ _ _ rfl hA2 ⟨g2, 0, none⟩ 8 cap2 (i64L ws) rfl hlw (cells_range hr2) ho1 hml1 (by omega) z2 ?_; intro v3 w3 hown3 hgrow3 _)
  have hb3 : Below w.heap.size w w3 := hb2.trans (grown_below hgrow3 z2 hA2)
  clear hA hA2 hown2 hb2 hb2' hgrow3 hr2 hwo
  have z3 := hb3.size
  have hr3 := range_kept hr4 (hb3.block g4 hg4)
  go_wp2_with (at_builtin; refine wpList_append_own _ rfl _ _ 39 rfl w.heap.size 3 i0 (.int .i64 0) 1 8 Tryz.underlying39 hi hz0 hz1 hz2 rfl (by decide) _ _ _ rfl hown3 ⟨g4, 0, none⟩ 4 cap4 (i64L fs) rfl hlf (cells_range hr3) ho2 hml2 (by omega) z3 ?_; intro v4 w4 hown4 hgrow4 _)
  have hb4 : Below w.heap.size w w4 := hb3.trans (grown_below hgrow4 z3 hown3)
  go_ret
  rw [HE.out]
  exact ⟨_, rfl, hown4, hb4⟩

end Go.Proofs.YtengclnahppmhaaGreatDoor.Cha
