import Derived.Test.YtjjabkimmgcejaaDoorShaF
import Derived.Test.YtjjabkimmgcejaaDoorLawsE
namespace Go.Proofs.YtjjabkimmgcejaaDoor
open Go.RowKit Go.Lib Go.Deep

set_option maxRecDepth 20000 in
set_option maxHeartbeats 4000000 in
theorem mixed_core (s : W8) (hs : s.OK) (b : List UInt8) (hb : b.length = 64) (ws : List Nat) (hws : ws.length = 64) (hwl : ∀ x ∈ ws, x < 4294967296)
    (hsp : ∀ W : World, Calls Tryd.prog 53 #[.agg (bytesV b)] W fun e w' => e = .returned (.agg (u32s ws)) ∧ Below W.heap.size W w') (w : World) (ht : Tabs w) :
    Calls Tryd.prog 45 #[.agg (u32s s.list), .agg (bytesV b)] w fun e w' => e = .returned (.agg (u32s (s.add (roundN s ws 64)).list)) ∧ Below w.heap.size w w' := by
  have hbs : (Tryd.prog.info? 66).map (·.size) = some (bytesV b).size := by rw [bytesV_size, hb]; exact sizeB
  have hblk : ∀ z8 : Array Value, (((w.alloc (.cells (u32s s.list) 64)).alloc (.cells (bytesV b) 66)).alloc (.cells z8 64)).heap[w.heap.size + 1]? = some (.cells (bytesV b) 66 (0, 0)) := by
    intro z8
    rw [Below.heap_alloc _ _ _ (by simp)]
    have h := heap_new (w.alloc (.cells (u32s s.list) 64)) (.cells (bytesV b) 66)
    simpa using h
  have hst : (Tryd.prog.info? 87).map (·.size) = some (u32s ws).size := by rw [u32s_size, hws]; exact size64
  have hone : (u32s ws).all (·.oneCell') = true := all_oneCell_toArray (u32L_one _)
  go_enter Tryd.func45, Tryd.ntmps45
  go_wp2_with (first | (refine wpList_load_row rfl 66 (.tmp 3) rfl (w.heap.size + 1) rfl 66 _ (0, 0) _ (hblk _) Tryd.underlying66 rfl hbs ?_) | (go_at_call 53; refine (hsp _).mono ?_; rintro e w1 ⟨rfl, hb1⟩) | (refine wpList_store_mid rfl 87 (.tmp 5) (.tmp 19) rfl w1.heap.size 0 _ rfl rfl (there_of_heap (heap_new _ _) (by rw [u32s_size, hws]; decide)) hst hone ?_))
  rw [put_none]
  refine with_world (R := fun W => Code.wp _ _ _ _ W) _ (Mx.start w s b ws hws w1 ht _ rfl hb1 _ rfl) ?_
  intro w2 HX
  clear hsp hblk hst hone hb1
  obtain ⟨n5, hn5⟩ : ∃ n5, w1.heap.size = n5 := ⟨_, rfl⟩
  rw [hn5] at HX
  rw [hn5]
  clear hn5
  obtain ⟨c0, c1, c2, c3, c4, c5, c6, c7⟩ := HX.cells
  go_quiet (fail)
  have HX := HX.drewN nq
  refine with_world (R := fun W => Exit.then _ _ _ _ W) _ HX ?_
  clear c0 c1 c2 c3 c4 c5 c6 c7 HX
  intro w3 HX
  have hsp := HX.spread
  have hst : (Tryd.prog.info? 87).map (·.size) = some (u32s ws).size := by rw [u32s_size, hws]; exact size64
  go_wp2_with (refine wpList_load_row rfl 87 (.tmp 5) rfl n5 rfl 87 _ (0, 0) _ hsp Tryd.underlying87 rfl hst ?_)
  go_loopg [6, 7, 8, 9, 10, 11, 12, 13, 37] 64 (fun gk sa sb sc sd se sf sg sh i wr => ∃ k : Nat, k + gk = 64 ∧ i = .int .i64 k ∧ sa = .int .u32 ((roundN s ws k).a : Int) ∧ sb = .int .u32 ((roundN s ws k).b : Int) ∧ sc = .int .u32 ((roundN s ws k).c : Int) ∧ sd = .int .u32 ((roundN s ws k).d : Int) ∧ se = .int .u32 ((roundN s ws k).e : Int) ∧ sf = .int .u32 ((roundN s ws k).f : Int) ∧ sg = .int .u32 ((roundN s ws k).g : Int) ∧ sh = .int .u32 ((roundN s ws k).h : Int) ∧ Mx w s ws n5 wr)
  case atStart => exact ⟨0, by omega, rfl, rfl, rfl, rfl, rfl, rfl, rfl, rfl, rfl, HX⟩
  case round =>
    clear HX hsp
    obtain ⟨k, hk, rfl, rfl, rfl, rfl, rfl, rfl, rfl, rfl, rfl, HX⟩ := hrel
    have HK : Hid (k + gk = 64) := hk
    have hk' : k ≤ 64 := by omega
    clear hk
    have hok := roundN_OK hs ws k
    have HN : Hid (roundN s ws (k + 1) = (roundN s ws k).step (kk.getD k 0) (ws.getD k 0)) := rfl
    have HE : Hid (k = 64 → roundN s ws 64 = roundN s ws k) := fun h => by rw [h]
    revert HN HE hok
    generalize roundN s ws k = st
    obtain ⟨a, b', c, d, e, f, g, h⟩ := st
    intro hok HN HE
    obtain ⟨ha, hb', hc, hd, he, hf, hg, hh⟩ := hok
    dsimp only at ha hb' hc hd he hf hg hh
    by_cases hlt : k < 64
    · have hlk : k < ws.length := by omega
      have hix := fun W => index_agg (P := Tryd.prog) W 87 62 64 (u32s ws) .i64 .u32 k _ Tryd.underlying87 Tryd.underlying62 size1 hlt (u32s_at ws k hlk)
      have ck := HX.tabs.cell k hlt
      have lx := getD_lt hwl k
      have lk := getD_lt kk_lt k
      revert hix ck lx lk HN
      generalize ws.getD k 0 = x
      generalize kk.getD k 0 = q
      intro HN hix ck lx lk
      have HT : Hid (W8.tt ⟨a, b', c, d, e, f, g, h⟩ q x = (h + big1 e + ((e &&& f) ^^^ ((4294967295 - e) &&& g)) + q + x) % 4294967296) := rfl
      have HU : Hid (W8.uu ⟨a, b', c, d, e, f, g, h⟩ = (big0 a + (((a &&& b') ^^^ (a &&& c)) ^^^ (b' &&& c))) % 4294967296) := rfl
      have lb1 := big1_lt e he
      have lb0 := big0_lt a ha
      have r1 := u32_and_nat e f he hf
      have r2 := not_int e he
      have r3 := u32_and_nat (4294967295 - e) g (by omega) hg
      have r4 := u32_xor_nat (e &&& f) ((4294967295 - e) &&& g) (and_lt _ _ he) (and_lt _ _ (by omega))
      have r5 := u32_and_nat a b' ha hb'
      have r6 := u32_and_nat a c ha hc
      have r7 := u32_and_nat b' c hb' hc
      have r8 := u32_xor_nat (a &&& b') (a &&& c) (and_lt _ _ ha) (and_lt _ _ ha)
      have r9 := u32_xor_nat ((a &&& b') ^^^ (a &&& c)) (b' &&& c) (xor_lt _ _ (and_lt _ _ ha) (and_lt _ _ ha)) (and_lt _ _ hb')
      have l1 : (e &&& f) ^^^ ((4294967295 - e) &&& g) < 4294967296 := xor_lt _ _ (and_lt _ _ he) (and_lt _ _ (by omega))
      have l2 : ((a &&& b') ^^^ (a &&& c)) ^^^ (b' &&& c) < 4294967296 := xor_lt _ _ (xor_lt _ _ (and_lt _ _ ha) (and_lt _ _ ha)) (and_lt _ _ hb')
      revert r1 r2 r3 r4 r5 r6 r7 r8 r9 HT HU l1 l2
      generalize (e &&& f) ^^^ ((4294967295 - e) &&& g) = CH
      generalize e &&& f = EF
      generalize (4294967295 - e) &&& g = NG
      generalize 4294967295 - e = NE
      generalize ((a &&& b') ^^^ (a &&& c)) ^^^ (b' &&& c) = MJ
      generalize (a &&& b') ^^^ (a &&& c) = X1
      generalize a &&& b' = AB
      generalize a &&& c = AC
      generalize b' &&& c = BC
      intro HT HU r1 r2 r3 r4 r5 r6 r7 r8 r9 l1 l2
      go_wp2_with fail
      go_quiet ((go_at_call 54; refine Calls.quiet_of_same (big1_quiet e _ he)))
      have HX := HX.drewN nq
      refine with_world (R := fun W => Exit.then _ _ _ _ W) _ HX ?_
      clear HX ck
      intro w4 HX
      go_wp2_with (go_at_call 55; refine (big0_any a _ ha).mono ?_; rintro e' w5 ⟨rfl, rfl⟩)
      go_roundg (gk - 1)
      case measure => have := HK.out; omega
      case rel =>
        refine ⟨k + 1, by have := HK.out; omega, by go_num, ?_, ?_, ?_, ?_, ?_, ?_, ?_, ?_, HX⟩
        · rw [HN.out, W8.step, HT.out, HU.out]; congr 1
        · rw [HN.out]; rfl
        · rw [HN.out]; rfl
        · rw [HN.out]; rfl
        · rw [HN.out, W8.step, HT.out]; congr 1
        · rw [HN.out]; rfl
        · rw [HN.out]; rfl
        · rw [HN.out]; rfl
    · have e64 : k = 64 := by omega
      have HQ : Hid (roundN s ws 64 = ⟨a, b', c, d, e, f, g, h⟩) := HE.out e64
      clear HN HE
      obtain ⟨c0, c1, c2, c3, c4, c5, c6, c7⟩ := HX.cells
      obtain ⟨z8, hz8, hres⟩ := HX.res
      have hbel := HX.bel
      have hth : wr.there (w.heap.size + 1 + 1) 0 8 := there_of_heap hres (by omega)
      obtain ⟨sa, sb, sc, sd, se, sf, sg, sh⟩ := hs
      clear HX
      subst e64
      go_wp2_with (refine wpList_store_mid rfl 64 (.tmp 4) (.tmp 119) rfl (w.heap.size + 1 + 1) 0 _ rfl rfl hth size8 (one8 _ _ _ _ _ _ _ _) ?_)
      rw [put_none]
      have hr := heap_setCells (w.heap.size + 1 + 1) 64 (u32L (s.add ⟨a, b', c, d, e, f, g, h⟩).list) 0 _ _ hres
      rw [setMany_all _ _ (by rw [hz8]; rfl)] at hr
      have e8 : [Value.int .u32 (((s.a : Int) + (a : Int)) % 4294967296), .int .u32 (((s.b : Int) + (b' : Int)) % 4294967296), .int .u32 (((s.c : Int) + (c : Int)) % 4294967296), .int .u32 (((s.d : Int) + (d : Int)) % 4294967296),
        .int .u32 (((s.e : Int) + (e : Int)) % 4294967296), .int .u32 (((s.f : Int) + (f : Int)) % 4294967296), .int .u32 (((s.g : Int) + (g : Int)) % 4294967296), .int .u32 (((s.h : Int) + (h : Int)) % 4294967296)] = u32L (s.add ⟨a, b', c, d, e, f, g, h⟩).list := rfl
      rw [e8]
      refine bodyPost_ret (results_cell_row rfl _ _ (w.heap.size + 1 + 1) 64 _ (0, 0) _ rfl hr Tryd.underlying64 rfl size8) rfl ?_
      rw [HQ.out]
      exact ⟨rfl, Below.setCells hbel (by omega) _ _⟩

theorem mixed_any (s : W8) (hs : s.OK) (b : List UInt8) (hb : b.length = 64) (w : World) (ht : Tabs w) :
    Calls Tryd.prog 45 #[.agg (u32s s.list), .agg (bytesV b)] w fun e w' => e = .returned (.agg (u32s (mix s b).list)) ∧ Below w.heap.size w w' :=
  mixed_core s hs b hb (sched b) (sched_length b) (sched_lt b) (fun W => spread_any b W hb) w ht

end Go.Proofs.YtjjabkimmgcejaaDoor

