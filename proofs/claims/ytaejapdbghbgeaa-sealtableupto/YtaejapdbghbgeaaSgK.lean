import Derived.Test.YtaejapdbghbgeaaSgJ
namespace Go.Proofs.Ytaejapdbghbgeaa.Se
open Go.RowKit Go.Lib Go.Deep

set_option maxRecDepth 20000 in
set_option maxHeartbeats 4000000 in
theorem table_walk (a1 a2 : Option Addr) (c1 c2 : Nat) (bs ms : List Box) (n2 : Nat) (w : World) (hn1 : bs.length ≤ 1048576) (hn2 : ms.length = n2) (hn3 : n2 ≤ 1048576)
    (hbk : ∀ b ∈ bs, wf64 b.kind ∧ wf64 b.seed) (hms : ∀ b ∈ ms, wf64 b.kind ∧ wf64 b.seed)
    (hS1 : See w (.slice a1 bs.length c1) bs.length (boxCells bs)) (hS2 : See w (.slice a2 n2 c2) n2 (boxCells ms)) :
    Calls Try.prog 5 #[.slice a1 bs.length c1, .slice a2 n2 c2] w fun e w' => e = .returned (.bool true) ∧ Below w.heap.size w w' := by
  have hN := newIdeal_any w (.slice none 0 0) [] (SeeR.nil w) (by intro r hr; cases hr) (by simp)
  have hnum := fun W x => snum_any x W
  have HF1 : Hid (∀ W, Below w.heap.size w W → Calls Try.prog 14 #[.slice a1 bs.length c1] W fun e w' => ∃ v', e = .returned v' ∧ w'.ownsRow W.heap.size 44 4 v' (bs.length + 1) (boxCells (firstB :: bs)) ∧ Below W.heap.size W w') := fun W hb => first_any a1 c1 bs hn1 W (hS1.below hb)
  have HBK : Hid (∀ b ∈ firstB :: bs, (-9223372036854775808 ≤ b.kind ∧ b.kind ≤ 9223372036854775807) ∧ (-9223372036854775808 ≤ b.seed ∧ b.seed ≤ 9223372036854775807)) := fun b hb => by
    rcases List.mem_cons.1 hb with rfl | hb
    · exact ⟨⟨by decide, by decide⟩, ⟨by decide, by decide⟩⟩
    · exact hbk b hb
  have HMS : Hid (∀ b ∈ ms, wf64 b.kind ∧ wf64 b.seed) := hms
  have HS2 : Hid (See w (.slice a2 n2 c2) n2 (boxCells ms)) := hS2
  have HN2 : Hid (ms.length = n2) := hn2
  clear hS1 hS2 hbk hms hn2
  go_enter Try.func5, Try.ntmps5
  go_wp2_with fail
  refine hN.mono ?_
  rintro e w2 ⟨_, h2, hb⟩
  obtain ⟨pb, F0, rfl, hI, hF⟩ := h2 rfl
  have HI0 : Hid (Idl w2 pb F0 [] ∧ (∀ k, k ∈ pb :: F0 → w.heap.size ≤ k) ∧ Below w.heap.size w w2) := ⟨hI, hF, hb⟩
  clear hI hF hb h2 hN
  go_wp2_with fail
  refine (hnum _ _).mono ?_
  rintro e w3 ⟨rfl, rfl⟩
  go_wp2_with fail
  refine (HF1.out _ HI0.out.2.2).mono ?_
  rintro e w4 ⟨v', rfl, ho4, hb4⟩
  obtain ⟨a4, c4, rfl⟩ := own_len ho4
  have HL : Hid (Calls Try.prog 13 #[.iface 23 (.pointer (some ⟨pb, 0, none⟩)), .slice a4 (bs.length + 1) c4] w4 (LaidP w4 pb F0 (firstB :: bs))) :=
    laid_any pb F0 (firstB :: bs) (bs.length + 1) c4 a4 w4 rfl (by omega) HBK.out (HI0.out.1.below hb4) (fun W ho => See.of_own (own_frame ho4 ho (fun g hg hm => by
      have h1 := (World.ownsRow.lt ho4 g hg).1
      have h2 := HI0.out.1.lt g (List.mem_cons_of_mem _ hm)
      omega)))
  have HB4 : Hid (Below w.heap.size w w4) := HI0.out.2.2.trans (hb4.mono HI0.out.2.2.size)
  clear ho4 hb4
  go_wp2_with fail
  refine HL.out.mono ?_
  rintro e w5 ⟨v5, F5, rfl, ho5, hI5, hw5, hF5⟩
  obtain ⟨a5, c5, rfl⟩ := own_len ho5
  have hn0 : (firstB :: bs).length ≤ 1048577 := by rw [List.length_cons]; omega
  have HB5 : Hid (Below w.heap.size w w5) := HB4.out.trans (hw5.below HB4.out.size (fun x hx => HI0.out.2.1 x (List.mem_cons_of_mem _ hx)))
  have HF5 : Hid (∀ x, x ∈ pb :: F5 → w.heap.size ≤ x) := fun x hx => by
    rcases List.mem_cons.1 hx with rfl | hx
    · exact HI0.out.2.1 _ (List.mem_cons_self)
    · rcases hF5 x hx with h | h
      · exact HI0.out.2.1 _ (List.mem_cons_of_mem _ h)
      · exact Nat.le_trans HB4.out.size h
  have HLN : Hid ((lays 0 (firstB :: bs)).length = (firstB :: bs).length) := by show _ = _; rw [lays_length]
  have HOK : Hid _ := lays_ok (firstB :: bs) (by omega)
  have HNE : Hid (newE [] (rowsOf (firstB :: bs)) = 0) := newE_all (firstB :: bs) (by omega)
  have HRL : Hid ((rowsOf (firstB :: bs)).length = (firstB :: bs).length) := rowsOf_length _
  have HO5 : Hid (w5.ownsRow w4.heap.size 46 5 (.slice a5 (firstB :: bs).length c5) (firstB :: bs).length (layCells (lays 0 (firstB :: bs)))) := ho5
  have HI5 : Hid (Idl w5 pb F5 (rowsOf (firstB :: bs))) := hI5
  have htb := table_any w5 pb F5 _ (by rw [HRL.out]; omega) HI5.out
  clear ho5 hI5 hw5 hF5 HL HF1 HBK
  go_wp2_with fail
  refine htb.mono ?_
  rintro e w6 ⟨v6, rfl, ho6, hb6⟩
  have hni := newIdeal_any w6 v6 (rowsOf (firstB :: bs)) (SeeR.of_own ho6) (fun r hr => by
    unfold rowsOf at hr
    obtain ⟨l, hl, rfl⟩ := List.mem_map.1 hr
    exact (HOK.out l hl).1) (by rw [HRL.out]; omega)
  obtain ⟨a6, c6, rfl⟩ := own_len ho6
  rw [HNE.out] at hni
  have HI6 : Hid (Idl w6 pb F5 (rowsOf (firstB :: bs))) := HI5.out.below hb6
  clear htb ho6
  go_wp2_with fail
  refine hni.mono ?_
  rintro e w7 ⟨_, h7, hb7⟩
  obtain ⟨qb, G7, rfl, hJ7, hG7⟩ := h7 rfl
  have HSP : Hid (Sep pb F5 qb G7) := fun x hx hy => by
    have h1 := HI6.out.lt x hx
    have h2 := hG7 x hy
    omega
  have HI7 : Hid (Idl w7 pb F5 (rowsOf (firstB :: bs))) := HI6.out.below hb7
  have HJ7 : Hid (Idl w7 qb G7 (rowsOf (firstB :: bs))) := hJ7
  have HB7 : Hid (Below w5.heap.size w5 w7) := hb6.trans (hb7.mono hb6.size)
  have HG7 : Hid (∀ x, x ∈ qb :: G7 → w.heap.size ≤ x) := fun x hx => Nat.le_trans HB5.out.size (Nat.le_trans hb6.size (hG7 x hx))
  have HO7 : Hid (w7.ownsRow w4.heap.size 46 5 (.slice a5 (firstB :: bs).length c5) (firstB :: bs).length (layCells (lays 0 (firstB :: bs)))) := owns_keep HO5.out (fun g hg => HB7.out.block g (World.ownsRow.lt HO5.out g hg).2)
  clear hni h7 hJ7 hG7 hb6 hb7 HI6 HI5 HO5
  have HRR : Hid (∀ (k : Nat) (l : Lay), (lays 0 (firstB :: bs))[k]? = some l → (rowsOf (firstB :: bs))[k]? = some l.row) := fun k l hl => by unfold rowsOf; rw [List.getElem?_map, hl]; rfl
  have HLL : Hid ((rowsOf (firstB :: bs)).length ≤ 1048577) := by show _ ≤ _; rw [HRL.out]; exact hn0
  have HO7b : Hid (w7.ownsRow w4.heap.size 46 5 (.slice a5 (bs.length + 1) c5) (bs.length + 1) (layCells (lays 0 (firstB :: bs)))) := HO7.out
  have HLN2 : Hid ((lays 0 (firstB :: bs)).length = bs.length + 1) := HLN.out
  clear HO7 HLN HRL HNE
  generalize rowsOf (firstB :: bs) = R at *
  generalize lays 0 (firstB :: bs) = ls at *
  go_wp2_with fail
  refine (hnum _ _).mono ?_
  rintro e w8 ⟨rfl, hww⟩
  have hww2 := hww.symm
  clear hww
  subst hww2
  have ht7 := table_any w7 pb F5 R (by have := HLL.out; omega) HI7.out
  go_wp2_with fail
  refine ht7.mono ?_
  rintro e w8 ⟨v8, rfl, ho8, hb8⟩
  have ht8 := table_any w8 qb G7 R (by have := HLL.out; omega) (HJ7.out.below hb8)
  obtain ⟨a8, c8, rfl⟩ := own_len ho8
  have HS8 : Hid (SeeR w8 (.slice a8 R.length c8) R) := SeeR.of_own ho8
  have HB8 : Hid (Below w7.heap.size w7 w8) := hb8
  clear ht7 ho8 hb8
  go_wp2_with fail
  refine ht8.mono ?_
  rintro e w9 ⟨v9, rfl, ho9, hb9⟩
  obtain ⟨a9, c9, rfl⟩ := own_len ho9
  have hsm := same_any R a8 a9 R.length c8 c9 w9 rfl (by have := HLL.out; omega) (HS8.out.below hb9) (SeeR.of_own ho9)
  have HB9 : Hid (Below w7.heap.size w7 w9) := HB8.out.trans (hb9.mono HB8.out.size)
  clear ht8 ho9 hb9
  go_wp2_with fail
  refine hsm.mono ?_
  rintro e w10 ⟨rfl, hb10⟩
  have HB10 : Hid (Below w7.heap.size w7 w10) := HB9.out.trans (hb10.mono HB9.out.size)
  have hbk := back2_any ls R qb G7 (bs.length + 1) c5 a5 w10 HLN2.out (by omega) (fun l hl => ⟨(HOK.out l hl).1, (HOK.out l hl).2.1⟩) HRR.out (by have := HLL.out; omega) (HJ7.out.below HB10.out) ((See.of_own HO7b.out).below HB10.out)
  clear hsm hb10
  go_wp2_with fail
  refine hbk.mono ?_
  rintro e w11 ⟨rfl, hb11⟩
  have HB11 : Hid (Below w7.heap.size w7 w11) := HB10.out.trans (hb11.mono HB10.out.size)
  clear hbk hb11 HB8 HB9 HB10 HS8
  have HB57 : Hid (Below w.heap.size w w11) := HB5.out.trans ((HB7.out.trans (HB11.out.mono HB7.out.size)).mono HB5.out.size)
  have HM : Hid (∀ (k : Nat) (b : Box), ms[k]? = some b → ∃ bb off, a2 = some ⟨bb, off, none⟩ ∧ ∀ W, Below w.heap.size w W → W.cell? ⟨bb, off + k * 4, none⟩ = some (.int .i64 b.kind) ∧ W.cell? ⟨bb, off + k * 4 + 1, none⟩ = some (.string b.name) ∧ W.cell? ⟨bb, off + k * 4 + 2, none⟩ = some (.string b.text) ∧ W.cell? ⟨bb, off + k * 4 + 3, none⟩ = some (.int .i64 b.seed)) := fun k b hb => by
    have hkl := (List.getElem?_eq_some_iff.1 hb).1
    have hn2 := HN2.out
    have at_ := fun j (hj : j < 4) => fc_at (f := boxC) (s := 4) (fun _ => rfl) ms k b hb j hj
    obtain ⟨a', bb, off, cap', hv, h2, _, h3⟩ := HS2.out.ex
    injection hv with hv1 _ hv2
    obtain ⟨e1, e2⟩ := h2 (by omega)
    refine ⟨bb, off, hv1.trans e1, fun W hb => ⟨?_, ?_, ?_, ?_⟩⟩
    · exact (hb.cell (p := ⟨bb, off + k * 4, none⟩) e2).trans (h3 _ _ (at_ 0 (by omega)))
    · rw [Nat.add_assoc]; exact (hb.cell (p := ⟨bb, off + (k * 4 + 1), none⟩) e2).trans (h3 _ _ (at_ 1 (by omega)))
    · rw [Nat.add_assoc]; exact (hb.cell (p := ⟨bb, off + (k * 4 + 2), none⟩) e2).trans (h3 _ _ (at_ 2 (by omega)))
    · rw [Nat.add_assoc]; exact (hb.cell (p := ⟨bb, off + (k * 4 + 3), none⟩) e2).trans (h3 _ _ (at_ 3 (by omega)))
  have HO11 : Hid (w11.ownsRow w4.heap.size 46 5 (.slice a5 (bs.length + 1) c5) (bs.length + 1) (layCells ls)) := owns_keep HO7b.out (fun g hg => HB11.out.block g (World.ownsRow.lt HO7b.out g hg).2)
  have HI11 : Hid (Idl w11 pb F5 R) := HI7.out.below HB11.out
  have HJ11 : Hid (Idl w11 qb G7 R) := HJ7.out.below HB11.out
  clear HI7 HJ7 HO7b HB7 HB11 HS2 HI0
  go_wp2_with fail
  go_loopg [11] n2 (fun gk iv wr => ∃ (k : Nat) (Q : List Row) (F G : List Nat), k + gk = n2 ∧ iv = .int .i64 (k : Int) ∧ Hid (Idl wr pb F Q) ∧ Hid (Idl wr qb G Q) ∧ Hid (Sep pb F qb G) ∧ Hid (∀ (k : Nat) (l : Lay), ls[k]? = some l → Q[k]? = some l.row) ∧ Hid (Q.length ≤ 1048577 + k) ∧ Hid ((∀ x, x ∈ pb :: F → w.heap.size ≤ x) ∧ (∀ x, x ∈ qb :: G → w.heap.size ≤ x)) ∧ Hid (wr.ownsRow w4.heap.size 46 5 (.slice a5 (bs.length + 1) c5) (bs.length + 1) (layCells ls)) ∧ Hid (Below w.heap.size w wr))
  case atStart => exact ⟨0, R, F5, G7, by omega, rfl, HI11, HJ11, HSP, HRR, HLL, ⟨HF5.out, HG7.out⟩, HO11, HB57⟩
  case round =>
    clear HI11 HJ11 HSP HRR HLL HF5 HG7 HO11 HB57
    obtain ⟨k, Q, F, G, hk, rfl, HI, HJ, HSP, HRR, HQN, HFG, HO, HB⟩ := hrel
    have HKG : Hid (k + gk = n2) := hk
    have hkn : k ≤ n2 := by omega
    clear hk
    by_cases hlt : k < n2
    · have hltI : (k : Int) < (n2 : Int) := by omega
      obtain ⟨b, hb⟩ : ∃ b, ms[k]? = some b := ⟨_, List.getElem?_eq_getElem (by have := HN2.out; omega)⟩
      obtain ⟨bb, off, rfl, hcl⟩ := HM.out k b hb
      obtain ⟨x0, x1, x2, x3⟩ := hcl _ HB.out
      have hkb := HMS.out b (List.mem_of_getElem? hb)
      unfold wf64 at hkb
      have hwi := fun W => within_any b hkb.1 W
      unfold boxV at hwi
      have HWS : Hid _ := within_size b
      have hsd : (withinB b).seed = b.seed := rfl
      obtain ⟨⟨kd', nm', tx', sd'⟩, hB'⟩ : ∃ B', withinB b = B' := ⟨_, rfl⟩
      rw [hB'] at hwi hsd
      have HB' : Hid (withinB b = ⟨kd', nm', tx', sd'⟩) := hB'
      dsimp only at hwi hsd
      subst hsd
      have HPL : Hid (placeE kd' nm' = 0) := by
        obtain ⟨_, h2, h3, h4⟩ := HWS.out
        rw [HB'.out] at h2 h3 h4
        dsimp only at h2 h3 h4
        show _ = _
        unfold placeE
        rw [if_neg (by omega), if_neg (by omega)]
      clear hb hcl hB'
      go_wp2_with fail
      refine (hwi _).mono ?_
      rintro e w2 ⟨rfl, hb2⟩
      have HB2 : Hid (wr.heap.size ≤ w2.heap.size) := hb2.size
      obtain ⟨W3, hW3⟩ : ∃ W, w2.alloc (.cells #[.int .i64 kd', .string nm', .string tx', .int .i64 b.seed] 44) = W := ⟨_, rfl⟩
      have hb3 : Below wr.heap.size wr W3 := by rw [← hW3]; exact hb2.alloc hb2.size _
      have hq3 : W3.heap[w2.heap.size]? = some (.cells #[.int .i64 kd', .string nm', .string tx', .int .i64 b.seed] 44 (0, 0)) := by rw [← hW3]; exact heap_new _ _
      have HC3 : Hid (∀ W, Below W3.heap.size W3 W → W.cell? ⟨w2.heap.size, 0, none⟩ = some (.int .i64 kd') ∧ W.cell? ⟨w2.heap.size, 1, none⟩ = some (.string nm') ∧ W.cell? ⟨w2.heap.size, 2, none⟩ = some (.string tx') ∧ W.cell? ⟨w2.heap.size, 3, none⟩ = some (.int .i64 b.seed)) := fun W hb =>
        have hh := (hb.block _ (heap_lt hq3)).trans hq3
        ⟨(cell_of_heap hh).trans rfl, (cell_of_heap hh).trans rfl, (cell_of_heap hh).trans rfl, (cell_of_heap hh).trans rfl⟩
      have hts : tx'.size ≤ 4096 := by have := HWS.out.1; rw [HB'.out] at this; exact this
      have HI3 : Hid (Idl W3 pb F Q) := HI.out.below hb3
      have HJ3 : Hid (Idl W3 qb G Q) := HJ.out.below hb3
      have HW3 : Hid (Below wr.heap.size wr W3) := hb3
      have hcn : coinsN (tx'.size : Int) = ((tx'.size + 40 : Nat) : Int) := by unfold coinsN; rw [if_neg (by omega)]; omega
      obtain ⟨sz, hsz⟩ : ∃ sz : Nat, tx'.size + 40 = sz := ⟨_, rfl⟩
      have HK1 : Hid (∀ W, Below W3.heap.size W3 W → Calls Try.prog 20 #[.pointer (some ⟨pb, 0, none⟩), .int .i64 (tx'.size : Int)] W fun e w' => e = .returned (.int .i64 (sz : Int)) ∧ Below W3.heap.size W3 w') := fun W hb => (coins_any W pb F _ (tx'.size : Int) (HI3.out.below hb)).mono (by
        rintro e w' ⟨rfl, hb'⟩
        exact ⟨by rw [hcn, hsz], hb.trans (hb'.mono hb.size)⟩)
      have HK2 : Hid (∀ m : Int, 0 ≤ m → m ≤ 4294967296 → ∀ W, Below W3.heap.size W3 W → Calls Try.prog 19 #[.int .i64 (sz : Int), .int .i64 b.seed, .int .i64 m] W fun e w' => e = .returned (.string (coinS (tx'.size + 40) b.seed m)) ∧ Below W3.heap.size W3 w') := fun m h1 h2 W hb => by
        have h := coinsC_any (tx'.size + 40) (by omega) b.seed m hkb.2 ⟨h1, h2⟩ W
        rw [hsz] at h ⊢
        exact h.mono (by
          rintro e w' ⟨rfl, hb'⟩
          exact ⟨rfl, hb.trans (hb'.mono hb.size)⟩)
      have HK3 : Hid _ := HK2.out (1000 + (k : Int)) (by omega) (by omega)
      have HK4 : Hid _ := HK2.out 0 (by omega) (by omega)
      have e1000 : IntKind.i64.wrap (1000 + (k : Int)) = 1000 + (k : Int) := by rw [IntKind.wrap_i64]; omega
      have er1 : ((k : Int)).tmod 2 = (k : Int) % 2 := Int.tmod_eq_emod_of_nonneg (by omega)
      have er2 : IntKind.i64.wrap ((k : Int) % 2) = (k : Int) % 2 := by rw [IntKind.wrap_i64]; omega
      clear hcn hq3 hb2 hb3 hwi x0 x1 x2 x3 hsz HK2
      go_wp2_with fail
      go_region_held_law (fun W => W.cell? ⟨w2.heap.size, 2, none⟩ = some (.string tx') ∧ W.cell? ⟨w2.heap.size, 3, none⟩ = some (.int .i64 b.seed)) (first | exact (HC3.out _ (bdN _ _)).2.2 | exact (HC3.out _ hb5).2.2 | exact (HC3.out _ hb6).2.2 | go_keep) (first | (go_at_call 20; refine (HK1.out _ (bdN _ _)).mono ?_; rintro e w5 ⟨rfl, hb5⟩) | (go_at_call 19; refine (HK3.out _ hb5).mono ?_; rintro e w6 ⟨rfl, hb6⟩))
      by_cases hodd : (k : Int) % 2 = 1
      · have hcz : (coinS (tx'.size + 40) b.seed 0).size = tx'.size + 40 := coinS_size _ _ _
        have HB6N : Hid (∀ j, Below W3.heap.size W3 (w6.drewN j)) := fun j => hb6.trans ((bdN w6 j).mono hb6.size)
        generalize coinS (tx'.size + 40) b.seed 0 = cS at HK4 hcz
        have HCZ : Hid (cS.size = tx'.size + 40) := hcz
        clear hcz
        go_wp2_with fail
        go_region_held_law (fun W => W.cell? ⟨w2.heap.size, 2, none⟩ = some (.string tx') ∧ W.cell? ⟨w2.heap.size, 3, none⟩ = some (.int .i64 b.seed)) (first | exact (HC3.out _ (HB6N.out _)).2.2 | exact (HC3.out _ hb7).2.2 | exact (HC3.out _ hb8).2.2 | go_keep) (first | (go_at_call 20; refine (HK1.out _ (HB6N.out _)).mono ?_; rintro e w7 ⟨rfl, hb7⟩) | (go_at_call 19; refine (HK4.out _ hb7).mono ?_; rintro e wc ⟨rfl, hb8⟩))
        have HCU : Hid (Below W3.heap.size W3 wc) := hb8
        have HWC : Hid (Below wr.heap.size wr wc) := HW3.out.trans (hb8.mono HW3.out.size)
        obtain ⟨d0, d1, d2, d3⟩ := HC3.out _ HCU.out
        have hsl := seal_any wc pb F Q kd' nm' tx' cS (by have := HCZ.out; omega) (by have := HQN.out; omega) (HI3.out.below HCU.out)
        have HJC : Hid (Idl wc qb G Q) := HJ3.out.below HCU.out
        have HSE : Hid (sealE Q kd' nm' tx' cS = 0 → openE Q kd' nm' cS = 81) := fun h => by
          have hg : gave Q cS = false := by
            unfold sealE at h
            split at h
            · omega
            · split at h
              · omega
              · rename_i h1; simpa using h1
          have hp : placeE kd' nm' = 0 := HPL.out
          unfold openE
          rw [if_neg (by simp [hp]), find_none hg]
          rfl
        obtain ⟨se, hse⟩ : ∃ se, sealE Q kd' nm' tx' cS = se := ⟨_, rfl⟩
        obtain ⟨sy, hsy⟩ : ∃ sy, sealY Q kd' nm' tx' cS = sy := ⟨_, rfl⟩
        obtain ⟨Q', hQ'⟩ : ∃ Q', sealR Q kd' nm' tx' cS = Q' := ⟨_, rfl⟩
        have hsyz : sy.size ≤ 281474976710656 := by
          rw [← hsy]; unfold sealY; split
          · have := HCZ.out; omega
          · decide
        have HQ1 : Hid ((∀ (k : Nat) (l : Lay), ls[k]? = some l → Q'[k]? = some l.row) ∧ Q'.length ≤ 1048577 + (k + 1)) := by
          rw [← hQ']
          unfold sealR
          split
          · refine ⟨fun j l hl => ?_, ?_⟩
            · have h1 := HRR.out j l hl
              rw [List.getElem?_append_left ((List.getElem?_eq_some_iff.1 h1).1)]
              exact h1
            · have := HQN.out
              rw [List.length_append, List.length_cons, List.length_nil]
              omega
          · exact ⟨HRR.out, by have := HQN.out; omega⟩
        have hse2 : se = 0 → openE Q kd' nm' cS = 81 := fun h => HSE.out (hse.trans h)
        have hsy2 : se = 0 → sy = cS := fun h => by rw [← hsy]; unfold sealY; rw [if_pos (hse.trans h)]
        rw [hse, hsy, hQ'] at hsl
        have HCB : Hid (w2.heap.size < wc.heap.size) := World.block_lt_of_cell? wc ⟨w2.heap.size, 0, none⟩ d0
        go_wp2_with fail
        refine hsl.mono ?_
        rintro e w8 ⟨rfl, ho8, F', hI', hF'⟩
        obtain ⟨hJ8, hS8⟩ := HSP.out.seal HJC.out ho8 hF'
        have hbox : ∀ X : List Nat, (∀ x, x ∈ X → x < wr.heap.size ∨ wc.heap.size ≤ x) → w2.heap.size ∉ X := fun X hX hm => by
          have h2 : wr.heap.size ≤ w2.heap.size := HB2.out
          have h3 := HCB.out
          rcases hX _ hm with h | h <;> omega
        have hFw : ∀ x, x ∈ F → x < wr.heap.size := fun x hx => HI.out.lt x (List.mem_cons_of_mem _ hx)
        have hGw : ∀ x, x ∈ G → x < wr.heap.size := fun x hx => HJ.out.lt x (List.mem_cons_of_mem _ hx)
        have hh8 : w8.heap[w2.heap.size]? = wc.heap[w2.heap.size]? := ho8.block _ HCB.out (hbox F (fun x hx => .inl (hFw x hx)))
        have f0 := (World.cell?_of_block (a := ⟨w2.heap.size, 0, none⟩) hh8).trans d0
        have f1 := (World.cell?_of_block (a := ⟨w2.heap.size, 1, none⟩) hh8).trans d1
        have f2 := (World.cell?_of_block (a := ⟨w2.heap.size, 2, none⟩) hh8).trans d2
        have hop := open_any w8 qb G Q kd' nm' sy hsyz (by have := HQN.out; omega) hJ8
        obtain ⟨oe, hoe⟩ : ∃ oe, openE Q kd' nm' sy = oe := ⟨_, rfl⟩
        have hoe2 : se = 0 → oe = 81 := fun h => by rw [← hoe, hsy2 h]; exact hse2 h
        rw [hoe] at hop
        generalize openY Q kd' nm' sy = oy at hop
        clear hsl d0 d1 d2 d3 hoe hse2 hsy2 HSE
        go_wp2_with fail
        refine hop.mono ?_
        rintro e w9 ⟨rfl, hb9⟩
        have hbl8 : w2.heap.size < w8.heap.size := Nat.lt_of_lt_of_le HCB.out ho8.size
        have g0 := (hb9.cell (p := ⟨w2.heap.size, 0, none⟩) hbl8).trans f0
        have g1 := (hb9.cell (p := ⟨w2.heap.size, 1, none⟩) hbl8).trans f1
        have g2 := (hb9.cell (p := ⟨w2.heap.size, 2, none⟩) hbl8).trans f2
        have hsl2 := seal_any w9 qb G Q kd' nm' tx' cS (by have := HCZ.out; omega) (by have := HQN.out; omega) (hJ8.below hb9)
        rw [hse, hsy, hQ'] at hsl2
        have HI9 : Hid (Idl w9 pb F' Q') := hI'.below hb9
        have HS9 : Hid (Sep pb F' qb G) := hS8
        have HO9 : Hid (w9.ownsRow w4.heap.size 46 5 (.slice a5 (bs.length + 1) c5) (bs.length + 1) (layCells ls)) := by
          have h7 : wc.ownsRow w4.heap.size 46 5 (.slice a5 (bs.length + 1) c5) (bs.length + 1) (layCells ls) := owns_keep HO.out (fun g hg => HWC.out.block g (World.ownsRow.lt HO.out g hg).2)
          have h8 := own_frame h7 ho8 (fun g hg hm => HI.out.notin HO.out (by decide) g hg (List.mem_cons_of_mem _ hm))
          exact owns_keep h8 (fun g hg => hb9.block g (World.ownsRow.lt h8 g hg).2)
        have HB9 : Hid (Below w.heap.size w w9) := by
          have h1 := HB.out.trans (HWC.out.mono HB.out.size)
          have h2 := h1.trans (ho8.below h1.size (fun x hx => HFG.out.1 x (List.mem_cons_of_mem _ hx)))
          exact h2.trans (hb9.mono h2.size)
        have HF9 : Hid (∀ x, x ∈ pb :: F' → w.heap.size ≤ x) := fun x hx => by
          rcases List.mem_cons.1 hx with rfl | hx
          · exact HFG.out.1 _ (List.mem_cons_self)
          · rcases hF' x hx with h | h
            · exact HFG.out.1 _ (List.mem_cons_of_mem _ h)
            · exact Nat.le_trans (Nat.le_trans HB.out.size HWC.out.size) h
        clear hop f0 f1 f2 hI' hS8 hJ8
        go_wp2_with fail
        refine hsl2.mono ?_
        rintro e w10 ⟨rfl, ho10, G', hJ', hG'⟩
        obtain ⟨hI10, hS10⟩ := HS9.out.symm.seal HI9.out ho10 hG'
        have HI10 : Hid (Idl w10 pb F' Q') := hI10
        have HJ10 : Hid (Idl w10 qb G' Q') := hJ'
        have HS10 : Hid (Sep pb F' qb G') := hS10.symm
        have HO10 : Hid (w10.ownsRow w4.heap.size 46 5 (.slice a5 (bs.length + 1) c5) (bs.length + 1) (layCells ls)) := own_frame HO9.out ho10 (fun g hg hm => HJ.out.notin HO.out (by decide) g hg (List.mem_cons_of_mem _ hm))
        have HB10 : Hid (Below w.heap.size w w10) := HB9.out.trans (ho10.below HB9.out.size (fun x hx => HFG.out.2 x (List.mem_cons_of_mem _ hx)))
        have HG10 : Hid (∀ x, x ∈ qb :: G' → w.heap.size ≤ x) := fun x hx => by
          rcases List.mem_cons.1 hx with rfl | hx
          · exact HFG.out.2 _ (List.mem_cons_self)
          · rcases hG' x hx with h | h
            · exact HFG.out.2 _ (List.mem_cons_of_mem _ h)
            · exact Nat.le_trans HB9.out.size h
        clear hsl2 g0 g1 g2 hI10 hJ' hS10 hG' ho10 hF' ho8 hbox hFw hGw hh8 hbl8 hb9
        by_cases hz0 : se = 0
        · have hoe3 := hoe2 hz0
          subst hoe3
          rw [hz0]
          clear hse hoe2
          go_wp2_with (go_at_call 7; refine (hnum _ _).mono ?_; rintro e w11 ⟨rfl, rfl⟩)
          go_roundg (gk - 1)
          case measure => have := HKG.out; omega
          case rel => exact ⟨k + 1, Q', F', G', by have := HKG.out; omega, by go_num, HI10, HJ10, HS10, HQ1.out.1, HQ1.out.2, ⟨HF9.out, HG10.out⟩, HO10, HB10⟩
        · have hz1 : (se == 0) = false := by simpa using hz0
          clear hse hoe2
          go_wp2_with (go_at_call 7; refine (hnum _ _).mono ?_; rintro e w11 ⟨rfl, rfl⟩)
          go_roundg (gk - 1)
          case measure => have := HKG.out; omega
          case rel => exact ⟨k + 1, Q', F', G', by have := HKG.out; omega, by go_num, HI10, HJ10, HS10, HQ1.out.1, HQ1.out.2, ⟨HF9.out, HG10.out⟩, HO10, HB10⟩
      · have hcz : (coinS (tx'.size + 40) b.seed (1000 + (k : Int))).size = tx'.size + 40 := coinS_size _ _ _
        have HCU : Hid (Below W3.heap.size W3 w6) := hb6
        have HWC : Hid (Below wr.heap.size wr w6) := HW3.out.trans (hb6.mono HW3.out.size)
        generalize coinS (tx'.size + 40) b.seed (1000 + (k : Int)) = cS at hcz ⊢
        have HCZ : Hid (cS.size = tx'.size + 40) := hcz
        clear hcz hb5 hb6 HK3
        obtain ⟨d0, d1, d2, d3⟩ := HC3.out _ HCU.out
        have hsl := seal_any w6 pb F Q kd' nm' tx' cS (by have := HCZ.out; omega) (by have := HQN.out; omega) (HI3.out.below HCU.out)
        have HJC : Hid (Idl w6 qb G Q) := HJ3.out.below HCU.out
        have HSE : Hid (sealE Q kd' nm' tx' cS = 0 → openE Q kd' nm' cS = 81) := fun h => by
          have hg : gave Q cS = false := by
            unfold sealE at h
            split at h
            · omega
            · split at h
              · omega
              · rename_i h1; simpa using h1
          have hp : placeE kd' nm' = 0 := HPL.out
          unfold openE
          rw [if_neg (by simp [hp]), find_none hg]
          rfl
        obtain ⟨se, hse⟩ : ∃ se, sealE Q kd' nm' tx' cS = se := ⟨_, rfl⟩
        obtain ⟨sy, hsy⟩ : ∃ sy, sealY Q kd' nm' tx' cS = sy := ⟨_, rfl⟩
        obtain ⟨Q', hQ'⟩ : ∃ Q', sealR Q kd' nm' tx' cS = Q' := ⟨_, rfl⟩
        have hsyz : sy.size ≤ 281474976710656 := by
          rw [← hsy]; unfold sealY; split
          · have := HCZ.out; omega
          · decide
        have HQ1 : Hid ((∀ (k : Nat) (l : Lay), ls[k]? = some l → Q'[k]? = some l.row) ∧ Q'.length ≤ 1048577 + (k + 1)) := by
          rw [← hQ']
          unfold sealR
          split
          · refine ⟨fun j l hl => ?_, ?_⟩
            · have h1 := HRR.out j l hl
              rw [List.getElem?_append_left ((List.getElem?_eq_some_iff.1 h1).1)]
              exact h1
            · have := HQN.out
              rw [List.length_append, List.length_cons, List.length_nil]
              omega
          · exact ⟨HRR.out, by have := HQN.out; omega⟩
        have hse2 : se = 0 → openE Q kd' nm' cS = 81 := fun h => HSE.out (hse.trans h)
        have hsy2 : se = 0 → sy = cS := fun h => by rw [← hsy]; unfold sealY; rw [if_pos (hse.trans h)]
        rw [hse, hsy, hQ'] at hsl
        have HCB : Hid (w2.heap.size < w6.heap.size) := World.block_lt_of_cell? w6 ⟨w2.heap.size, 0, none⟩ d0
        go_wp2_with fail
        refine hsl.mono ?_
        rintro e w8 ⟨rfl, ho8, F', hI', hF'⟩
        obtain ⟨hJ8, hS8⟩ := HSP.out.seal HJC.out ho8 hF'
        have hbox : ∀ X : List Nat, (∀ x, x ∈ X → x < wr.heap.size ∨ w6.heap.size ≤ x) → w2.heap.size ∉ X := fun X hX hm => by
          have h2 : wr.heap.size ≤ w2.heap.size := HB2.out
          have h3 := HCB.out
          rcases hX _ hm with h | h <;> omega
        have hFw : ∀ x, x ∈ F → x < wr.heap.size := fun x hx => HI.out.lt x (List.mem_cons_of_mem _ hx)
        have hGw : ∀ x, x ∈ G → x < wr.heap.size := fun x hx => HJ.out.lt x (List.mem_cons_of_mem _ hx)
        have hh8 : w8.heap[w2.heap.size]? = w6.heap[w2.heap.size]? := ho8.block _ HCB.out (hbox F (fun x hx => .inl (hFw x hx)))
        have f0 := (World.cell?_of_block (a := ⟨w2.heap.size, 0, none⟩) hh8).trans d0
        have f1 := (World.cell?_of_block (a := ⟨w2.heap.size, 1, none⟩) hh8).trans d1
        have f2 := (World.cell?_of_block (a := ⟨w2.heap.size, 2, none⟩) hh8).trans d2
        have hop := open_any w8 qb G Q kd' nm' sy hsyz (by have := HQN.out; omega) hJ8
        obtain ⟨oe, hoe⟩ : ∃ oe, openE Q kd' nm' sy = oe := ⟨_, rfl⟩
        have hoe2 : se = 0 → oe = 81 := fun h => by rw [← hoe, hsy2 h]; exact hse2 h
        rw [hoe] at hop
        generalize openY Q kd' nm' sy = oy at hop
        clear hsl d0 d1 d2 d3 hoe hse2 hsy2 HSE
        go_wp2_with fail
        refine hop.mono ?_
        rintro e w9 ⟨rfl, hb9⟩
        have hbl8 : w2.heap.size < w8.heap.size := Nat.lt_of_lt_of_le HCB.out ho8.size
        have g0 := (hb9.cell (p := ⟨w2.heap.size, 0, none⟩) hbl8).trans f0
        have g1 := (hb9.cell (p := ⟨w2.heap.size, 1, none⟩) hbl8).trans f1
        have g2 := (hb9.cell (p := ⟨w2.heap.size, 2, none⟩) hbl8).trans f2
        have hsl2 := seal_any w9 qb G Q kd' nm' tx' cS (by have := HCZ.out; omega) (by have := HQN.out; omega) (hJ8.below hb9)
        rw [hse, hsy, hQ'] at hsl2
        have HI9 : Hid (Idl w9 pb F' Q') := hI'.below hb9
        have HS9 : Hid (Sep pb F' qb G) := hS8
        have HO9 : Hid (w9.ownsRow w4.heap.size 46 5 (.slice a5 (bs.length + 1) c5) (bs.length + 1) (layCells ls)) := by
          have h7 : w6.ownsRow w4.heap.size 46 5 (.slice a5 (bs.length + 1) c5) (bs.length + 1) (layCells ls) := owns_keep HO.out (fun g hg => HWC.out.block g (World.ownsRow.lt HO.out g hg).2)
          have h8 := own_frame h7 ho8 (fun g hg hm => HI.out.notin HO.out (by decide) g hg (List.mem_cons_of_mem _ hm))
          exact owns_keep h8 (fun g hg => hb9.block g (World.ownsRow.lt h8 g hg).2)
        have HB9 : Hid (Below w.heap.size w w9) := by
          have h1 := HB.out.trans (HWC.out.mono HB.out.size)
          have h2 := h1.trans (ho8.below h1.size (fun x hx => HFG.out.1 x (List.mem_cons_of_mem _ hx)))
          exact h2.trans (hb9.mono h2.size)
        have HF9 : Hid (∀ x, x ∈ pb :: F' → w.heap.size ≤ x) := fun x hx => by
          rcases List.mem_cons.1 hx with rfl | hx
          · exact HFG.out.1 _ (List.mem_cons_self)
          · rcases hF' x hx with h | h
            · exact HFG.out.1 _ (List.mem_cons_of_mem _ h)
            · exact Nat.le_trans (Nat.le_trans HB.out.size HWC.out.size) h
        clear hop f0 f1 f2 hI' hS8 hJ8
        go_wp2_with fail
        refine hsl2.mono ?_
        rintro e w10 ⟨rfl, ho10, G', hJ', hG'⟩
        obtain ⟨hI10, hS10⟩ := HS9.out.symm.seal HI9.out ho10 hG'
        have HI10 : Hid (Idl w10 pb F' Q') := hI10
        have HJ10 : Hid (Idl w10 qb G' Q') := hJ'
        have HS10 : Hid (Sep pb F' qb G') := hS10.symm
        have HO10 : Hid (w10.ownsRow w4.heap.size 46 5 (.slice a5 (bs.length + 1) c5) (bs.length + 1) (layCells ls)) := own_frame HO9.out ho10 (fun g hg hm => HJ.out.notin HO.out (by decide) g hg (List.mem_cons_of_mem _ hm))
        have HB10 : Hid (Below w.heap.size w w10) := HB9.out.trans (ho10.below HB9.out.size (fun x hx => HFG.out.2 x (List.mem_cons_of_mem _ hx)))
        have HG10 : Hid (∀ x, x ∈ qb :: G' → w.heap.size ≤ x) := fun x hx => by
          rcases List.mem_cons.1 hx with rfl | hx
          · exact HFG.out.2 _ (List.mem_cons_self)
          · rcases hG' x hx with h | h
            · exact HFG.out.2 _ (List.mem_cons_of_mem _ h)
            · exact Nat.le_trans HB9.out.size h
        clear hsl2 g0 g1 g2 hI10 hJ' hS10 hG' ho10 hF' ho8 hbox hFw hGw hh8 hbl8 hb9
        by_cases hz0 : se = 0
        · have hoe3 := hoe2 hz0
          subst hoe3
          rw [hz0]
          clear hse hoe2
          go_wp2_with (go_at_call 7; refine (hnum _ _).mono ?_; rintro e w11 ⟨rfl, rfl⟩)
          go_roundg (gk - 1)
          case measure => have := HKG.out; omega
          case rel => exact ⟨k + 1, Q', F', G', by have := HKG.out; omega, by go_num, HI10, HJ10, HS10, HQ1.out.1, HQ1.out.2, ⟨HF9.out, HG10.out⟩, HO10, HB10⟩
        · have hz1 : (se == 0) = false := by simpa using hz0
          clear hse hoe2
          go_wp2_with (go_at_call 7; refine (hnum _ _).mono ?_; rintro e w11 ⟨rfl, rfl⟩)
          go_roundg (gk - 1)
          case measure => have := HKG.out; omega
          case rel => exact ⟨k + 1, Q', F', G', by have := HKG.out; omega, by go_num, HI10, HJ10, HS10, HQ1.out.1, HQ1.out.2, ⟨HF9.out, HG10.out⟩, HO10, HB10⟩
    · obtain rfl : k = n2 := by omega
      have hltI : ¬ (k : Int) < (k : Int) := by omega
      have ht7 := table_any wr pb F Q (by have := HQN.out; omega) HI.out
      go_wp2_with fail
      refine ht7.mono ?_
      rintro e w8 ⟨v8, rfl, ho8, hb8⟩
      have ht8 := table_any w8 qb G Q (by have := HQN.out; omega) (HJ.out.below hb8)
      obtain ⟨a8, c8, rfl⟩ := own_len ho8
      have HS8 : Hid (SeeR w8 (.slice a8 Q.length c8) Q) := SeeR.of_own ho8
      have HB8 : Hid (Below wr.heap.size wr w8) := hb8
      clear ht7 ho8 hb8
      go_wp2_with fail
      refine ht8.mono ?_
      rintro e w9 ⟨v9, rfl, ho9, hb9⟩
      obtain ⟨a9, c9, rfl⟩ := own_len ho9
      have hsm := same_any Q a8 a9 Q.length c8 c9 w9 rfl (by have := HQN.out; omega) (HS8.out.below hb9) (SeeR.of_own ho9)
      have HB9 : Hid (Below wr.heap.size wr w9) := HB8.out.trans (hb9.mono HB8.out.size)
      clear ht8 ho9 hb9
      go_wp2_with fail
      refine hsm.mono ?_
      rintro e w10 ⟨rfl, hb10⟩
      have HB10 : Hid (Below wr.heap.size wr w10) := HB9.out.trans (hb10.mono HB9.out.size)
      have hbk1 := back2_any ls Q pb F (bs.length + 1) c5 a5 w10 HLN2.out (by omega) (fun l hl => ⟨(HOK.out l hl).1, (HOK.out l hl).2.1⟩) HRR.out (by have := HQN.out; omega) (HI.out.below HB10.out) ((See.of_own HO.out).below HB10.out)
      clear hsm hb10
      go_wp2_with fail
      refine hbk1.mono ?_
      rintro e w11 ⟨rfl, hb11⟩
      have HB11 : Hid (Below wr.heap.size wr w11) := HB10.out.trans (hb11.mono HB10.out.size)
      have hbk2 := back2_any ls Q qb G (bs.length + 1) c5 a5 w11 HLN2.out (by omega) (fun l hl => ⟨(HOK.out l hl).1, (HOK.out l hl).2.1⟩) HRR.out (by have := HQN.out; omega) (HJ.out.below HB11.out) ((See.of_own HO.out).below HB11.out)
      clear hbk1 hb11
      go_wp2_with fail
      refine hbk2.mono ?_
      rintro e w12 ⟨rfl, hb12⟩
      have HB12 : Hid (Below wr.heap.size wr w12) := HB11.out.trans (hb12.mono HB11.out.size)
      go_wp2
      go_ret
      exact ⟨rfl, HB.out.trans (HB12.out.mono HB.out.size)⟩
end Go.Proofs.Ytaejapdbghbgeaa.Se
