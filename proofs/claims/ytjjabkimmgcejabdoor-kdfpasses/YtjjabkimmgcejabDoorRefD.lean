import Derived.Test.YtjjabkimmgcejabDoorRefC
namespace Go.Proofs.YtjjabkimmgcejabDoor
open Go.RowKit Go.Lib Go.Deep

theorem take4 (x0 x1 x2 x3 : Nat) (k : Nat) (h : k < 4) : [x0, x1, x2, x3].take (k + 1) = [x0, x1, x2, x3].take k ++ [[x0, x1, x2, x3].getD k 0] := by
  match k, h with
  | 0, _ => rfl
  | 1, _ => rfl
  | 2, _ => rfl
  | 3, _ => rfl
theorem old_a (s : W8) (k : Nat) (h : k < 4) : s.list.getD (3 - k) 0 = [s.d, s.c, s.b, s.a].getD k 0 := by
  match k, h with
  | 0, _ => rfl
  | 1, _ => rfl
  | 2, _ => rfl
  | 3, _ => rfl
theorem old_e (s : W8) (k : Nat) (h : k < 4) : s.list.getD (7 - k) 0 = [s.h, s.g, s.f, s.e].getD k 0 := by
  match k, h with
  | 0, _ => rfl
  | 1, _ => rfl
  | 2, _ => rfl
  | 3, _ => rfl
theorem step_a (a b c d e f g h q x CH MJ : Nat) (h1 : (e &&& f) ^^^ ((4294967295 - e) &&& g) = CH) (h2 : ((a &&& b) ^^^ (a &&& c)) ^^^ (b &&& c) = MJ) :
    (W8.step ⟨a, b, c, d, e, f, g, h⟩ q x).a = (h + big1 e + CH + q + x + big0 a + MJ) % 4294967296 := by
  simp only [W8.step, W8.tt, W8.uu, h1, h2]
  omega
theorem step_e (a b c d e f g h q x CH : Nat) (h1 : (e &&& f) ^^^ ((4294967295 - e) &&& g) = CH) :
    (W8.step ⟨a, b, c, d, e, f, g, h⟩ q x).e = (d + (h + big1 e + CH + q + x)) % 4294967296 := by
  simp only [W8.step, W8.tt, h1]
  omega

/-- the words, so many of each half -/
def outL (s : W8) (k : Nat) : List Nat := (s.list.take 4).take k ++ List.replicate (4 - k) 0 ++ ((s.list.drop 4).take k ++ List.replicate (4 - k) 0)
theorem out_set (s : W8) (k : Nat) (h : k < 4) : ((i64s (outL s k)).setIfInBounds k (.int .i64 ((s.list.getD k 0 : Nat) : Int))).setIfInBounds (4 + k) (.int .i64 ((s.list.getD (4 + k) 0 : Nat) : Int)) = i64s (outL s (k + 1)) := by
  match k, h with
  | 0, _ => rfl
  | 1, _ => rfl
  | 2, _ => rfl
  | 3, _ => rfl
theorem add_lo (s t : W8) (k : Nat) (h : k < 4) : (s.add t).list.getD k 0 = (s.list.getD k 0 + [t.a, t.b, t.c, t.d].getD k 0) % 4294967296 := by
  match k, h with
  | 0, _ => rfl
  | 1, _ => rfl
  | 2, _ => rfl
  | 3, _ => rfl
theorem add_hi (s t : W8) (k : Nat) (h : k < 4) : (s.add t).list.getD (4 + k) 0 = (s.list.getD (4 + k) 0 + [t.e, t.f, t.g, t.h].getD k 0) % 4294967296 := by
  match k, h with
  | 0, _ => rfl
  | 1, _ => rfl
  | 2, _ => rfl
  | 3, _ => rfl
theorem Hist.last {l : List Nat} {a b c d : Nat} (h : Hist l 64 a b c d) (k : Nat) (hk : k < 4) : l.getD (67 - k) 0 = [a, b, c, d].getD k 0 := by
  match k, hk with
  | 0, _ => exact h.a3
  | 1, _ => exact h.a2
  | 2, _ => exact h.a1
  | 3, _ => exact h.a0
theorem list_lt (s : W8) (hs : s.OK) (i : Nat) : s.list.getD i 0 < 4294967296 := getD_lt (fun x hx => by
  simp only [W8.list, List.mem_cons, List.not_mem_nil, or_false] at hx
  obtain ⟨h1, h2, h3, h4, h5, h6, h7, h8⟩ := hs
  rcases hx with rfl | rfl | rfl | rfl | rfl | rfl | rfl | rfl <;> assumption) i
theorem four_lt (a b c d : Nat) (ha : a < 4294967296) (hb : b < 4294967296) (hc : c < 4294967296) (hd : d < 4294967296) (k : Nat) : [a, b, c, d].getD k 0 < 4294967296 := getD_lt (fun x hx => by
  simp only [List.mem_cons, List.not_mem_nil, or_false] at hx
  rcases hx with rfl | rfl | rfl | rfl <;> assumption) k

theorem zero68 : Tryd.zeroCells79 = i64s (pad68 []) := by kernel_rfl

set_option maxRecDepth 20000 in
set_option maxHeartbeats 8000000 in
theorem rblock_core (s : W8) (hs : s.OK) (y : ByteArray) (at_ : Nat) (ws : List Nat) (hws : ws.length = 64) (hwl : ∀ x ∈ ws, x < 4294967296)
    (hsc : ∀ W : World, RTabs W → 4 ≤ W.heap.size → Calls Tryd.prog 45 #[.string y, .int .i64 (at_ : Int)] W fun e w' => e = .returned (.agg (i64s ws)) ∧ Below W.heap.size W w') (w : World) (hr : RTabs w) (h4 : 4 ≤ w.heap.size) :
    Calls Tryd.prog 39 #[.agg (i64s s.list), .string y, .int .i64 (at_ : Int)] w fun e w' => e = .returned (.agg (i64s (s.add (roundN s ws 64)).list)) ∧ Below w.heap.size w w' := by
  have hst : (Tryd.prog.info? 77).map (·.size) = some (i64s ws).size := by rw [i64s_size, hws]; exact isize64
  have hone : (i64s ws).all (·.oneCell') = true := all_oneCell_toArray (i64L_one _)
  go_enter Tryd.func39, Tryd.ntmps39
  go_wp2_with fail
  refine (hsc _ (hr.below (((Below.refl w.heap.size w).alloc (Nat.le_refl _) _).alloc (by simp) _) h4) (by simp; omega)).mono ?_
  rintro e w1 ⟨rfl, hb1⟩
  have hsz1 : ∀ Z : Array Value, ((w1.alloc (.cells Z 77)).setCells w1.heap.size 0 (i64s ws).toList).heap.size = w1.heap.size + 1 := fun Z => (size_setCells w1.heap.size (i64s ws).toList 0 (w1.alloc (.cells Z 77))).1.trans (by simp)
  go_wp2_with (refine wpList_store_mid rfl 77 (.tmp 7) (.tmp 21) rfl w1.heap.size 0 _ rfl rfl (there_of_heap (heap_new _ _) (by rw [i64s_size, hws]; decide)) hst hone ?_)
  refine with_world (R := fun W => Code.wp _ _ _ _ W) (Q := fun W => Rb w W s ws w1.heap.size [] []) _ (Rb.start w s ws hws w1 _ Tryd.zeroCells79 Tryd.zeroCells79 rfl zero68 zero68 hb1 _ rfl) ?_
  clear hst hone hsc hb1 hsz1
  intro w2 HB0
  have HB : Rb w w2 s ws w1.heap.size [] [] := HB0
  clear HB0
  obtain ⟨n, hn⟩ : ∃ n, w1.heap.size = n := ⟨_, rfl⟩
  rw [hn] at HB
  rw [hn]
  clear hn
  go_loopg [10] 4 (fun gk i wr => ∃ k : Nat, k + gk = 4 ∧ i = .int .i64 k ∧ Rb w wr s ws n ([s.d, s.c, s.b, s.a].take k) ([s.h, s.g, s.f, s.e].take k))
  case atStart => exact ⟨0, by omega, rfl, HB⟩
  case round =>
    clear HB
    obtain ⟨k, hk, rfl, HB⟩ := hrel
    have HK : Hid (k + gk = 4) := hk
    have hk' : k ≤ 4 := by omega
    clear hk
    by_cases hlt : k < 4
    · have lA : ([s.d, s.c, s.b, s.a].take k).length = k := by rw [List.length_take]; simp; omega
      have lE : ([s.h, s.g, s.f, s.e].take k).length = k := by rw [List.length_take]; simp; omega
      have c1 := HB.cellO (3 - k) (by omega)
      have c2 := HB.nextA (by omega)
      have f2 : wr.frozen? ⟨n + 1, ([s.d, s.c, s.b, s.a].take k).length, none⟩ = false := frozen_of_heap HB.pa
      have HB1 := HB.putA ([s.d, s.c, s.b, s.a].getD k 0) (by omega)
      have c3 := HB1.cellO (7 - k) (by omega)
      have c4 := HB1.nextE (by omega)
      have f4 : (wr.setCell ⟨n + 1, ([s.d, s.c, s.b, s.a].take k).length, none⟩ (.int .i64 (([s.d, s.c, s.b, s.a].getD k 0 : Nat) : Int))).frozen? ⟨n + 1 + 1, ([s.h, s.g, s.f, s.e].take k).length, none⟩ = false := frozen_of_heap HB1.pe
      have R0 := HB1.putE ([s.h, s.g, s.f, s.e].getD k 0) (by omega)
      rw [← take4 _ _ _ _ k hlt, ← take4 _ _ _ _ k hlt, lA, lE] at R0
      rw [old_a s k hlt] at c1
      rw [old_e s k hlt, lA] at c3
      rw [lA] at c2 f2
      rw [lE, lA] at c4 f4
      revert c1 c2 f2 c3 c4 f4 R0
      generalize [s.d, s.c, s.b, s.a].getD k 0 = va
      generalize [s.h, s.g, s.f, s.e].getD k 0 = ve
      intro c1 c2 f2 c3 c4 f4 R0
      have R : Hid (Rb w ((wr.setCell ⟨n + 1, k, none⟩ (.int .i64 (va : Int))).setCell ⟨n + 1 + 1, k, none⟩ (.int .i64 (ve : Int))) s ws n ([s.d, s.c, s.b, s.a].take (k + 1)) ([s.h, s.g, s.f, s.e].take (k + 1))) := R0
      have s1 : IntKind.i64.wrap (3 - (k : Int)) = ((3 - k : Nat) : Int) := by rw [IntKind.wrap_i64]; omega
      have s2 : IntKind.i64.wrap (7 - (k : Int)) = ((7 - k : Nat) : Int) := by rw [IntKind.wrap_i64]; omega
      have q1 : ((3 - k : Nat) : Int) < 8 := by omega
      have q2 : ((7 - k : Nat) : Int) < 8 := by omega
      clear HB HB1 R0 lA lE
      go_wp2
      go_roundg (gk - 1)
      case measure => have := HK.out; omega
      case rel => exact ⟨k + 1, by have := HK.out; omega, by go_num, R.out⟩
    · obtain rfl : k = 4 := by omega
      have HB' : Rb w wr s ws n [s.d, s.c, s.b, s.a] [s.h, s.g, s.f, s.e] := HB
      clear HB
      go_wp2
      go_loopg [11] 64 (fun gk i wr => ∃ (k : Nat) (av ev : List Nat), k + gk = 64 ∧ i = .int .i64 k ∧ Hist av k (roundN s ws k).a (roundN s ws k).b (roundN s ws k).c (roundN s ws k).d ∧ Hist ev k (roundN s ws k).e (roundN s ws k).f (roundN s ws k).g (roundN s ws k).h ∧ Rb w wr s ws n av ev)
      case atStart => exact ⟨0, _, _, by omega, rfl, ⟨rfl, rfl, rfl, rfl, rfl⟩, ⟨rfl, rfl, rfl, rfl, rfl⟩, HB'⟩
      case round =>
        clear HB'
        obtain ⟨k, av, ev, hk, rfl, hA, hE, HB⟩ := hrel
        have HK : Hid (k + gk = 64) := hk
        have hk' : k ≤ 64 := by omega
        clear hk
        have hok := roundN_OK hs ws k
        have HN : Hid (roundN s ws (k + 1) = (roundN s ws k).step (kk.getD k 0) (ws.getD k 0)) := rfl
        have HE : Hid (k = 64 → roundN s ws 64 = roundN s ws k) := fun h => by rw [h]
        revert HN HE hok hA hE
        generalize roundN s ws k = st
        obtain ⟨a, b, c, d, e, f, g, h⟩ := st
        intro hA hE hok HN HE
        obtain ⟨ha, hb, hc, hd, he, hf, hg, hh⟩ := hok
        dsimp only at ha hb hc hd he hf hg hh hA hE
        by_cases hlt : k < 64
        · have laL := hA.len
          have leL := hE.len
          have hCE : ∀ W, Rb w W s ws n av ev → W.cell? ⟨n + 1 + 1, k + 3, none⟩ = some (.int .i64 (e : Int)) ∧ W.cell? ⟨n + 1 + 1, k + 2, none⟩ = some (.int .i64 (f : Int)) ∧ W.cell? ⟨n + 1 + 1, k + 1, none⟩ = some (.int .i64 (g : Int)) ∧ W.cell? ⟨n + 1 + 1, k, none⟩ = some (.int .i64 (h : Int)) := fun W HB => by
            have e3 := HB.cellE (k + 3) (by omega) (by omega)
            have e2 := HB.cellE (k + 2) (by omega) (by omega)
            have e1 := HB.cellE (k + 1) (by omega) (by omega)
            have e0 := HB.cellE k (by omega) (by omega)
            rw [hE.a3] at e3
            rw [hE.a2] at e2
            rw [hE.a1] at e1
            rw [hE.a0] at e0
            exact ⟨e3, e2, e1, e0⟩
          have hCA : ∀ W, Rb w W s ws n av ev → W.cell? ⟨n + 1, k + 3, none⟩ = some (.int .i64 (a : Int)) ∧ W.cell? ⟨n + 1, k + 2, none⟩ = some (.int .i64 (b : Int)) ∧ W.cell? ⟨n + 1, k + 1, none⟩ = some (.int .i64 (c : Int)) ∧ W.cell? ⟨n + 1, k, none⟩ = some (.int .i64 (d : Int)) := fun W HB => by
            have e3 := HB.cellA (k + 3) (by omega) (by omega)
            have e2 := HB.cellA (k + 2) (by omega) (by omega)
            have e1 := HB.cellA (k + 1) (by omega) (by omega)
            have e0 := HB.cellA k (by omega) (by omega)
            rw [hA.a3] at e3
            rw [hA.a2] at e2
            rw [hA.a1] at e1
            rw [hA.a0] at e0
            exact ⟨e3, e2, e1, e0⟩
          have HCE : Hid (∀ W, Rb w W s ws n av ev → W.cell? ⟨n + 1 + 1, k + 3, none⟩ = some (.int .i64 (e : Int)) ∧ W.cell? ⟨n + 1 + 1, k + 2, none⟩ = some (.int .i64 (f : Int)) ∧ W.cell? ⟨n + 1 + 1, k + 1, none⟩ = some (.int .i64 (g : Int)) ∧ W.cell? ⟨n + 1 + 1, k, none⟩ = some (.int .i64 (h : Int))) := hCE
          have HCA : Hid (∀ W, Rb w W s ws n av ev → W.cell? ⟨n + 1, k + 3, none⟩ = some (.int .i64 (a : Int)) ∧ W.cell? ⟨n + 1, k + 2, none⟩ = some (.int .i64 (b : Int)) ∧ W.cell? ⟨n + 1, k + 1, none⟩ = some (.int .i64 (c : Int)) ∧ W.cell? ⟨n + 1, k, none⟩ = some (.int .i64 (d : Int))) := hCA
          clear hCE hCA
          have HH : Hid (Hist av k a b c d ∧ Hist ev k e f g h) := ⟨hA, hE⟩
          clear hA hE
          have HLL : Hid (av.length = k + 4 ∧ ev.length = k + 4) := ⟨laL, leL⟩
          clear laL leL
          have hlk : k < ws.length := by omega
          have HCW : Hid (∀ W, Rb w W s ws n av ev → W.cell? ⟨n, k, none⟩ = some (.int .i64 ((ws.getD k 0 : Nat) : Int))) := fun W HB => HB.cellW k hlk
          have HCR : Hid (∀ W, RTabs W → W.cell? ⟨2, k, none⟩ = some (.int .i64 ((kk.getD k 0 : Nat) : Int))) := fun W hR => hR.root k hlt
          have lx := getD_lt hwl k
          have lk := getD_lt kk_lt k
          clear hlk
          revert HCW HCR lx lk HN
          generalize ws.getD k 0 = x
          generalize kk.getD k 0 = q
          intro HN HCW HCR lx lk
          have HSA : Hid (∀ CH MJ : Nat, (e &&& f) ^^^ ((4294967295 - e) &&& g) = CH → ((a &&& b) ^^^ (a &&& c)) ^^^ (b &&& c) = MJ → (W8.step ⟨a, b, c, d, e, f, g, h⟩ q x).a = (h + big1 e + CH + q + x + big0 a + MJ) % 4294967296 ∧ (W8.step ⟨a, b, c, d, e, f, g, h⟩ q x).e = (d + (h + big1 e + CH + q + x)) % 4294967296) :=
            fun CH MJ h1 h2 => ⟨step_a a b c d e f g h q x CH MJ h1 h2, step_e a b c d e f g h q x CH h1⟩
          have lb1 := big1_lt e he
          have lb0 := big0_lt a ha
          have hb1c := fun W hR h4 => rbig1_any e W hR h4 he
          have hb0c := fun W hR h4 => rbig0_any a W hR h4 ha
          have r1 := i64_and_nat e f he hf
          have r2 : IntKind.i64.wrap (4294967295 - (e : Int)) = ((4294967295 - e : Nat) : Int) := by rw [IntKind.wrap_i64]; omega
          have r3 := i64_and_nat (4294967295 - e) g (by omega) hg
          have r4 := i64_xor_nat (e &&& f) ((4294967295 - e) &&& g) (and_lt _ _ he) (and_lt _ _ (by omega))
          have r5 := i64_and_nat a b ha hb
          have r6 := i64_and_nat a c ha hc
          have r7 := i64_and_nat b c hb hc
          have r8 := i64_xor_nat (a &&& b) (a &&& c) (and_lt _ _ ha) (and_lt _ _ ha)
          have r9 := i64_xor_nat ((a &&& b) ^^^ (a &&& c)) (b &&& c) (xor_lt _ _ (and_lt _ _ ha) (and_lt _ _ ha)) (and_lt _ _ hb)
          have l1 : (e &&& f) ^^^ ((4294967295 - e) &&& g) < 4294967296 := xor_lt _ _ (and_lt _ _ he) (and_lt _ _ (by omega))
          have l2 : ((a &&& b) ^^^ (a &&& c)) ^^^ (b &&& c) < 4294967296 := xor_lt _ _ (xor_lt _ _ (and_lt _ _ ha) (and_lt _ _ ha)) (and_lt _ _ hb)
          have hST := HSA.out _ _ rfl rfl
          have ES : Hid ((W8.step ⟨a, b, c, d, e, f, g, h⟩ q x).b = a ∧ (W8.step ⟨a, b, c, d, e, f, g, h⟩ q x).c = b ∧ (W8.step ⟨a, b, c, d, e, f, g, h⟩ q x).d = c ∧ (W8.step ⟨a, b, c, d, e, f, g, h⟩ q x).f = e ∧ (W8.step ⟨a, b, c, d, e, f, g, h⟩ q x).g = f ∧ (W8.step ⟨a, b, c, d, e, f, g, h⟩ q x).h = g) := ⟨rfl, rfl, rfl, rfl, rfl, rfl⟩
          clear HSA
          have HST : Hid ((W8.step ⟨a, b, c, d, e, f, g, h⟩ q x).a = (h + big1 e + ((e &&& f) ^^^ ((4294967295 - e) &&& g)) + q + x + big0 a + (((a &&& b) ^^^ (a &&& c)) ^^^ (b &&& c))) % 4294967296 ∧ (W8.step ⟨a, b, c, d, e, f, g, h⟩ q x).e = (d + (h + big1 e + ((e &&& f) ^^^ ((4294967295 - e) &&& g)) + q + x)) % 4294967296) := hST
          clear hST
          revert r1 r2 r3 r4 r5 r6 r7 r8 r9 l1 l2 HST ES HN lb1 lb0 hb1c hb0c
          generalize (e &&& f) ^^^ ((4294967295 - e) &&& g) = CH
          generalize e &&& f = EF
          generalize (4294967295 - e) &&& g = NG
          generalize 4294967295 - e = NE
          generalize ((a &&& b) ^^^ (a &&& c)) ^^^ (b &&& c) = MJ
          generalize (a &&& b) ^^^ (a &&& c) = X1
          generalize a &&& b = AB
          generalize a &&& c = AC
          generalize b &&& c = BC
          generalize W8.step ⟨a, b, c, d, e, f, g, h⟩ q x = sn
          generalize big1 e = Y1
          generalize big0 a = Y0
          intro HN lb1 lb0 hb1c hb0c r1 r2 r3 r4 r5 r6 r7 r8 r9 l1 l2 ES HST
          have t3 : IntKind.i64.wrap ((k : Int) + 3) = ((k + 3 : Nat) : Int) := by rw [IntKind.wrap_i64]; omega
          have t2 : IntKind.i64.wrap ((k : Int) + 2) = ((k + 2 : Nat) : Int) := by rw [IntKind.wrap_i64]; omega
          have t1 : IntKind.i64.wrap ((k : Int) + 1) = ((k + 1 : Nat) : Int) := by rw [IntKind.wrap_i64]; omega
          have t4 : IntKind.i64.wrap ((k : Int) + 4) = ((k + 4 : Nat) : Int) := by rw [IntKind.wrap_i64]; omega
          have n3 : ((k : Int) + 3).toNat = k + 3 := by omega
          have n2 : ((k : Int) + 2).toNat = k + 2 := by omega
          have n1 : ((k : Int) + 1).toNat = k + 1 := by omega
          have n4 : ((k : Int) + 4).toNat = k + 4 := by omega
          have z3 : (0 : Int) ≤ (k : Int) + 3 := by omega
          have z2 : (0 : Int) ≤ (k : Int) + 2 := by omega
          have z1 : (0 : Int) ≤ (k : Int) + 1 := by omega
          have z4 : (0 : Int) ≤ (k : Int) + 4 := by omega
          have m3 : (k : Int) + 3 < 68 := by omega
          have m2 : (k : Int) + 2 < 68 := by omega
          have m1 : (k : Int) + 1 < 68 := by omega
          have m4 : (k : Int) + 4 < 68 := by omega
          have m0 : (k : Int) < 68 := by omega
          have m6 : (k : Int) < 64 := by omega
          have c1 := (HCE.out _ HB).1
          have zz := HB.bel.size
          go_wp2_with fail
          refine (hb1c wr (hr.below HB.bel h4) (by omega)).mono ?_
          rintro e' w3 ⟨rfl, hb3⟩
          have HB3 := HB.under hb3
          clear HB hb3 c1 zz
          have c1 := (HCA.out _ HB3).1
          have zz := HB3.bel.size
          go_wp2_with fail
          refine (hb0c w3 (hr.below HB3.bel h4) (by omega)).mono ?_
          rintro e' w4 ⟨rfl, hb4⟩
          have HB4 := HB3.under hb4
          clear HB3 hb4 c1 zz hb1c hb0c
          obtain ⟨c3, c2, c1, c0⟩ := HCE.out _ HB4
          go_wp2_with fail
          go_quiet (fail)
          have HB5 := HB4.under (below_drewN _ nq)
          refine with_world (R := fun W => Exit.then _ _ _ _ W) (Q := fun W => Rb w W s ws n av ev) _ HB5 ?_
          clear HB4 HB5 c3 c2 c1 c0
          intro w5 HB5
          obtain ⟨c3, c2, c1, c0⟩ := HCA.out _ HB5
          go_wp2_with fail
          go_quiet (fail)
          have HB6 := Rb.under HB5 (below_drewN _ nq)
          refine with_world (R := fun W => Exit.then _ _ _ _ W) (Q := fun W => Rb w W s ws n av ev) _ HB6 ?_
          clear HB5 HB6 c3 c2 c1 c0
          intro w6 HB6
          have HB6' : Rb w w6 s ws n av ev := HB6
          clear HB6
          obtain ⟨c3, c2, c1, c0⟩ := HCE.out _ HB6'
          have cw := HCW.out _ HB6'
          have cr := HCR.out _ (hr.below HB6'.bel h4)
          go_wp2_with fail
          go_quiet (fail)
          have HB7 := Rb.under HB6' (below_drewN _ nq)
          refine with_world (R := fun W => Exit.then _ _ _ _ W) (Q := fun W => Rb w W s ws n av ev) _ HB7 ?_
          clear HB6' HB7 c3 c2 c1 c0 cw cr
          intro w7 HB7
          have HB7' : Rb w w7 s ws n av ev := HB7
          clear HB7
          have c0 := (HCA.out _ HB7').2.2.2
          have cE := HB7'.nextE (by have := HLL.out.2; omega)
          have fE : w7.frozen? ⟨n + 1 + 1, ev.length, none⟩ = false := frozen_of_heap HB7'.pe
          have HB8 := HB7'.putE sn.e (by have := HLL.out.2; omega)
          have cA := HB8.nextA (by have := HLL.out.1; omega)
          have fA : (w7.setCell ⟨n + 1 + 1, ev.length, none⟩ (.int .i64 (sn.e : Int))).frozen? ⟨n + 1, av.length, none⟩ = false := frozen_of_heap HB8.pa
          have HB9 := HB8.putA sn.a (by have := HLL.out.1; omega)
          rw [HLL.out.2] at cE fE
          rw [HLL.out.1, HLL.out.2] at cA fA HB9
          clear HB7' HB8
          have eE : (sn.e : Int) = ((d : Int) + ((h : Int) + (Y1 : Int) + (CH : Int) + (q : Int) + (x : Int))) % 4294967296 := by rw [HST.out.2]; omega
          have eA : (sn.a : Int) = ((h : Int) + (Y1 : Int) + (CH : Int) + (q : Int) + (x : Int) + (Y0 : Int) + (MJ : Int)) % 4294967296 := by rw [HST.out.1]; omega
          have R : Hid (∃ (k' : Nat) (av' ev' : List Nat), k' + (gk - 1) = 64 ∧ ((k : Int) + 1) = (k' : Int) ∧ Hist av' k' (roundN s ws k').a (roundN s ws k').b (roundN s ws k').c (roundN s ws k').d ∧ Hist ev' k' (roundN s ws k').e (roundN s ws k').f (roundN s ws k').g (roundN s ws k').h ∧ Rb w ((w7.setCell ⟨n + 1 + 1, k + 4, none⟩ (.int .i64 (sn.e : Int))).setCell ⟨n + 1, k + 4, none⟩ (.int .i64 (sn.a : Int))) s ws n av' ev') := by
            obtain ⟨o1, o2, o3, o4, o5, o6⟩ := ES.out
            refine ⟨k + 1, av ++ [sn.a], ev ++ [sn.e], by have := HK.out; omega, by omega, ?_, ?_, HB9⟩
            · rw [HN.out, o1, o2, o3]
              exact HH.out.1.step _
            · rw [HN.out, o4, o5, o6]
              exact HH.out.2.step _
          clear HB9
          rw [eE] at cA fA
          rw [eE, eA] at R
          clear eE eA HST HN ES
          go_wp2
          go_roundg (gk - 1)
          case measure => have := HK.out; omega
          case rel =>
            obtain ⟨k', av', ev', i1, i2, i3, i4, i5⟩ := R.out
            exact ⟨k', av', ev', i1, by rw [i2], i3, i4, i5⟩
        · have e64 : k = 64 := by omega
          have HQ : Hid (roundN s ws 64 = ⟨a, b, c, d, e, f, g, h⟩) := HE.out e64
          clear HN HE
          subst e64
          obtain ⟨S, hS⟩ : ∃ S, s.add ⟨a, b, c, d, e, f, g, h⟩ = S := ⟨_, rfl⟩
          have HS : Hid (s.add ⟨a, b, c, d, e, f, g, h⟩ = S) := hS
          have hlo : ∀ k, k < 4 → S.list.getD k 0 = (s.list.getD k 0 + [a, b, c, d].getD k 0) % 4294967296 := fun k hk => by rw [← hS]; exact add_lo s _ k hk
          have hhi : ∀ k, k < 4 → S.list.getD (4 + k) 0 = (s.list.getD (4 + k) 0 + [e, f, g, h].getD k 0) % 4294967296 := fun k hk => by rw [← hS]; exact add_hi s _ k hk
          have HLH : Hid ((∀ k, k < 4 → S.list.getD k 0 = (s.list.getD k 0 + [a, b, c, d].getD k 0) % 4294967296) ∧ (∀ k, k < 4 → S.list.getD (4 + k) 0 = (s.list.getD (4 + k) 0 + [e, f, g, h].getD k 0) % 4294967296)) := ⟨hlo, hhi⟩
          have H4 : Hid ((∀ k, [a, b, c, d].getD k 0 < 4294967296) ∧ (∀ k, [e, f, g, h].getD k 0 < 4294967296)) := ⟨four_lt a b c d ha hb hc hd, four_lt e f g h he hf hg hh⟩
          have HH : Hid (Hist av 64 a b c d ∧ Hist ev 64 e f g h) := ⟨hA, hE⟩
          clear hlo hhi hS hA hE
          have hn17 : n + 1 + 1 < wr.heap.size := heap_lt HB.pe
          have HBa := HB.under ((Below.refl wr.heap.size wr).alloc (Nat.le_refl _) (.cells (i64s (outL S 0)) 54))
          have hO : (wr.alloc (.cells (i64s (outL S 0)) 54)).heap[wr.heap.size]? = some (.cells (i64s (outL S 0)) 54 (0, 0)) := heap_new _ _
          clear HB
          go_wp2
          obtain ⟨n17, hnn⟩ : ∃ n17, wr.heap.size = n17 := ⟨_, rfl⟩
          refine with_world (R := fun W => Code.wp _ _ _ _ W) (Q := fun W => Rb w W s ws n av ev ∧ W.heap[wr.heap.size]? = some (.cells (i64s (outL S 0)) 54 (0, 0))) _ ⟨HBa, hO⟩ ?_
          rw [hnn] at hn17
          rw [hnn]
          clear hnn HBa hO
          rintro wr ⟨HB, hO⟩
          go_loopg [18] 4 (fun gk i wr => ∃ k : Nat, k + gk = 4 ∧ i = .int .i64 k ∧ Rb w wr s ws n av ev ∧ wr.heap[n17]? = some (.cells (i64s (outL S k)) 54 (0, 0)))
          case atStart => exact ⟨0, by omega, rfl, HB, hO⟩
          case round =>
            clear HB hO
            obtain ⟨k, hk, rfl, HB, hO⟩ := hrel
            have HK : Hid (k + gk = 4) := hk
            have hk' : k ≤ 4 := by omega
            clear hk
            by_cases hlt : k < 4
            · have c1 := HB.cellO k (by omega)
              have c2 := HB.cellA (67 - k) (by have := HH.out.1.len; omega) (by have := HH.out.1.len; omega)
              rw [HH.out.1.last k hlt] at c2
              have lo := list_lt s hs k
              have l4 := H4.out.1 k
              have eLo := HLH.out.1 k hlt
              have hsz : (i64s (outL S k)).size = 8 := by
                rw [i64s_size]
                match k, hlt with
                | 0, _ => rfl
                | 1, _ => rfl
                | 2, _ => rfl
                | 3, _ => rfl
              obtain ⟨x0, c3⟩ : ∃ x0, wr.cell? ⟨n17, k, none⟩ = some x0 := by rw [cell_of_heap hO]; exact ⟨_, Array.getElem?_eq_getElem (by omega)⟩
              have f3 : wr.frozen? ⟨n17, k, none⟩ = false := frozen_of_heap hO
              have HB1 := HB.under ⟨rfl, rfl, rfl, Nat.le_refl _, fun j hj => rfl⟩
              have hord := HB.ord
              have RB : ∀ v, Rb w (wr.setCell ⟨n17, k, none⟩ v).drew s ws n av ev := fun v => by
                obtain ⟨z, hz, hr⟩ := HB.res
                exact ⟨(Below.heap_setCell _ _ _ _ (by simp; omega)).trans HB.old, ⟨z, hz, (Below.heap_setCell _ _ _ _ (by simp; omega)).trans hr⟩, (Below.heap_setCell _ _ _ _ (by simp; omega)).trans HB.sp, (Below.heap_setCell _ _ _ _ (by simp; omega)).trans HB.pa, (Below.heap_setCell _ _ _ _ (by simp; omega)).trans HB.pe, (HB.bel.setCell (by simp; omega) _).drew, HB.ord⟩
              have RO : (wr.setCell ⟨n17, k, none⟩ (.int .i64 ((S.list.getD k 0 : Nat) : Int))).drew.heap[n17]? = some (.cells ((i64s (outL S k)).setIfInBounds k (.int .i64 ((S.list.getD k 0 : Nat) : Int))) 54 (0, 0)) := heap_setCell_same _ _ _ _ _ _ hO
              have RQ := And.intro (RB (.int .i64 ((S.list.getD k 0 : Nat) : Int))) RO
              clear RB RO HB1 hO HB
              obtain ⟨A, hAe⟩ : ∃ A, i64s (outL S k) = A := ⟨_, rfl⟩
              have HA : Hid (i64s (outL S k) = A) := hAe
              rw [hAe] at RQ hsz
              clear hAe
              obtain ⟨v0, hv0⟩ : ∃ v0, S.list.getD k 0 = v0 := ⟨_, rfl⟩
              have HV : Hid (S.list.getD k 0 = v0) := hv0
              rw [hv0] at RQ eLo
              clear hv0
              have RQ : Hid (Rb w (wr.setCell ⟨n17, k, none⟩ (.int .i64 (v0 : Int))).drew s ws n av ev ∧ (wr.setCell ⟨n17, k, none⟩ (.int .i64 (v0 : Int))).drew.heap[n17]? = some (.cells (A.setIfInBounds k (.int .i64 (v0 : Int))) 54 (0, 0))) := RQ
              revert c1 c2 lo l4 eLo
              generalize s.list.getD k 0 = p0
              generalize [a, b, c, d].getD k 0 = u0
              intro c1 c2 lo l4 eLo
              have eLi : (v0 : Int) = ((p0 : Int) + (u0 : Int)) % 4294967296 := by rw [eLo]; omega
              have HEL : Hid ((v0 : Int) = ((p0 : Int) + (u0 : Int)) % 4294967296) := eLi
              clear eLi eLo
              have t1 : IntKind.i64.wrap (67 - (k : Int)) = ((67 - k : Nat) : Int) := by rw [IntKind.wrap_i64]; omega
              have m1 : ((67 - k : Nat) : Int) < 68 := by omega
              have m0 : (k : Int) < 8 := by omega
              go_wp2_with fail
              go_region
              refine with_world (R := fun W => Exit.then _ _ _ _ W) (Q := fun W => Rb w W s ws n av ev ∧ W.heap[n17]? = some (.cells (A.setIfInBounds k (.int .i64 (v0 : Int))) 54 (0, 0))) _ (by rw [← HEL.out]; exact RQ.out) ?_
              clear RQ c1 c2 c3 f3 lo l4 HEL
              rintro w9 ⟨HB, hO⟩
              have c1 := HB.cellO (4 + k) (by omega)
              have c2 := HB.cellE (67 - k) (by have := HH.out.2.len; omega) (by have := HH.out.2.len; omega)
              rw [HH.out.2.last k hlt] at c2
              have lo := list_lt s hs (4 + k)
              have l4 := H4.out.2 k
              have eHi := HLH.out.2 k hlt
              obtain ⟨x1, c3⟩ : ∃ x1, w9.cell? ⟨n17, 4 + k, none⟩ = some x1 := by rw [cell_of_heap hO]; exact ⟨_, Array.getElem?_eq_getElem (by rw [Array.size_setIfInBounds]; omega)⟩
              have f3 : w9.frozen? ⟨n17, 4 + k, none⟩ = false := frozen_of_heap hO
              have RB : ∀ v, Rb w (w9.setCell ⟨n17, 4 + k, none⟩ v).drew s ws n av ev := fun v => by
                obtain ⟨z, hz, hr⟩ := HB.res
                exact ⟨(Below.heap_setCell _ _ _ _ (by simp; omega)).trans HB.old, ⟨z, hz, (Below.heap_setCell _ _ _ _ (by simp; omega)).trans hr⟩, (Below.heap_setCell _ _ _ _ (by simp; omega)).trans HB.sp, (Below.heap_setCell _ _ _ _ (by simp; omega)).trans HB.pa, (Below.heap_setCell _ _ _ _ (by simp; omega)).trans HB.pe, (HB.bel.setCell (by simp; omega) _).drew, HB.ord⟩
              have RO := heap_setCell_same _ _ (4 + k) _ _ (.int .i64 ((S.list.getD (4 + k) 0 : Nat) : Int)) hO
              rw [← HV.out, ← HA.out, out_set S k hlt] at RO
              have RQ := And.intro (RB (.int .i64 ((S.list.getD (4 + k) 0 : Nat) : Int))) RO
              clear RB RO hO HB HV HA
              obtain ⟨v1, hv1⟩ : ∃ v1, S.list.getD (4 + k) 0 = v1 := ⟨_, rfl⟩
              rw [hv1] at RQ eHi
              clear hv1
              have RQ : Hid (Rb w (w9.setCell ⟨n17, 4 + k, none⟩ (.int .i64 (v1 : Int))).drew s ws n av ev ∧ (w9.setCell ⟨n17, 4 + k, none⟩ (.int .i64 (v1 : Int))).heap[n17]? = some (.cells (i64s (outL S (k + 1))) 54 (0, 0))) := RQ
              revert c1 c2 lo l4 eHi
              generalize s.list.getD (4 + k) 0 = p1
              generalize [e, f, g, h].getD k 0 = u1
              intro c1 c2 lo l4 eHi
              have eLi : (v1 : Int) = ((p1 : Int) + (u1 : Int)) % 4294967296 := by rw [eHi]; omega
              have HEL : Hid ((v1 : Int) = ((p1 : Int) + (u1 : Int)) % 4294967296) := eLi
              clear eLi eHi
              have t2 : IntKind.i64.wrap (4 + (k : Int)) = ((4 + k : Nat) : Int) := by rw [IntKind.wrap_i64]; omega
              have m2 : ((4 + k : Nat) : Int) < 8 := by omega
              have m3 : (4 : Int) + (k : Int) < 8 := by omega
              have m4 : (0 : Int) ≤ (4 : Int) + (k : Int) := by omega
              have m5 : ((4 : Int) + (k : Int)).toNat = 4 + k := by omega
              go_wp2_with fail
              go_region
              have RQ' := RQ.out
              rw [HEL.out] at RQ'
              clear RQ c1 c2 c3 f3 lo l4 HEL
              go_wp2
              go_roundg (gk - 1)
              case measure => have := HK.out; omega
              case rel => exact ⟨k + 1, by have := HK.out; omega, by go_num, RQ'.1, RQ'.2⟩
            · obtain rfl : k = 4 := by omega
              have hO' : wr.heap[n17]? = some (.cells (i64s S.list) 54 (0, 0)) := hO
              obtain ⟨z, hz, hres⟩ := HB.res
              have hbel := HB.bel
              have hl8 : S.list.length = 8 := rfl
              have hth : wr.there (w.heap.size + 1) 0 (i64s S.list).size := there_of_heap hres (by rw [i64s_size, hl8]; omega)
              have hsz : (Tryd.prog.info? 54).map (·.size) = some (i64s S.list).size := by rw [i64s_size, hl8]; exact isize8
              have hone : (i64s S.list).all (·.oneCell') = true := all_oneCell_toArray (i64L_one _)
              have hr2 := heap_setCells (w.heap.size + 1) 54 (i64s S.list).toList 0 _ _ hres
              rw [setMany_all _ _ (by rw [hz, Array.length_toList, i64s_size, hl8]), Array.toArray_toList] at hr2
              have HR : Hid ((wr.setCells (w.heap.size + 1) 0 (i64s S.list).toList).heap[w.heap.size + 1]? = some (.cells (i64s S.list) 54 (0, 0))) := hr2
              clear HB hO hr2 hres hl8
              go_wp2_with (first | (refine wpList_load_row rfl 54 (.tmp 17) rfl n17 rfl 54 _ (0, 0) _ hO' Tryd.underlying54 rfl hsz ?_) | (refine wpList_store_mid rfl 54 (.tmp 6) (.tmp 168) rfl (w.heap.size + 1) 0 _ rfl rfl hth hsz hone ?_))
              refine bodyPost_ret (results_cell_row rfl _ _ (w.heap.size + 1) 54 _ (0, 0) _ rfl HR.out Tryd.underlying54 rfl hsz) rfl ?_
              rw [HQ.out, HS.out]
              exact ⟨rfl, Below.setCells hbel (by omega) _ _⟩

end Go.Proofs.YtjjabkimmgcejabDoor
