import Derived.Deep.Cut
import Derived.Test.YtiaahjijfppkdaaGreatDoorYmM
import Derived.Test.YtiaahjijfppkdaaGreatDoorYqM
namespace Go.Proofs.YtiaahjijfppkdaaGreatDoor.Sc
open Go.RowKit Go.Lib Go.Deep

theorem NineAt.same {w w' : World} {b p : Nat} {o : ActR} (h : NineAt w b p o) (he : w'.heap[b]? = w.heap[b]?) : NineAt w' b p o := by
  unfold NineAt at h ⊢
  simp only [World.cell?, he] at h ⊢
  exact h
set_option maxRecDepth 20000 in
set_option maxHeartbeats 4000000 in
theorem prints_walk (p : PlR) (hpok : p.Ok) (V : List ActV) (hok : VOk V) (hn : V.length = p.nacts) (_ : p.nacts ≤ p.cacts) (hsum : (V.map (·.1.nops)).sum ≤ 1048576) (w : World) (hs : SeeV w p.acts V) (ht : ITab w) :
    Calls Tryz.prog 6 #[.agg p.cells] w fun e w' => e = .returned (.bool true) ∧ Below w.heap.size w w' := by
  obtain ⟨W, hW⟩ : ∃ W, w.alloc (.cells p.cells 26) = W := ⟨_, rfl⟩
  have hbW : Below w.heap.size w W := by rw [← hW]; exact (Below.refl _ _).alloc (Nat.le_refl _) _
  have h1 : W.heap[w.heap.size]? = some (.cells p.cells 26 (0, 0)) := by rw [← hW]; exact heap_alloc_new _ _
  have HP : Hid (∀ U, Below W.heap.size W U → PlAt U w.heap.size p) := fun U hU => (plAt_of h1).below hU (heap_lt h1)
  have HB : Hid (Below w.heap.size w W) := hbW
  have hln : lnsT V ≤ 4194304 := by
    have h2 := lnsT_nops V fun x hx => (hok.each x hx).2.2.1
    have h3 := hok.len
    omega
  have HOK : Hid (VOk V ∧ V.length = p.nacts ∧ lnsT V ≤ 4194304 ∧ p.Ok) := ⟨hok, hn, hln, hpok⟩
  have HS : Hid (SeeV w p.acts V ∧ ITab w) := ⟨hs, ht⟩
  have hh := hand_any p V hok hn W (hs.below hbW)
  obtain ⟨x1, k1, hv1, hk0, hk1⟩ := printV_form p V hok
  have HV1 : Hid (printV p V = .tuple #[.string x1, .int .i64 k1]) := hv1
  have hcells := (HP.out W (Below.refl _ _)).ten
  unfold PlR.cells at hW hh ⊢
  obtain ⟨c0, c1, c2, c3, c4, c5, c6, c7, c8, c9⟩ := hcells
  have HW : Hid (Unit → _ = W) := fun _ => hW
  clear hW h1 hbW hln hok hn hpok hs ht hsum hv1
  go_enter Tryz.func6, Tryz.ntmps6
  go_upto_region 1 with fail
  rw [HW.out ()]
  clear HW
  go_wp2_with fail
  refine hh.mono ?_
  rintro e w2 ⟨G, fg, fc, oa, oc, rfl, hG, hm, hb2⟩
  clear hh c0 c1 c2 c3 c4 c5 c6 c7 c8 c9
  have HB2 : Hid (Below w.heap.size w w2) := HB.out.trans (hb2.mono HB.out.size)
  have HW2 : Hid (Below W.heap.size W w2) := hb2
  have HM2 : Hid (Made w2 (W.heap.size + 1 + 1) (W.heap.size + 1) p V G (.slice (some ⟨fg, 0, none⟩) p.nacts fc) (.slice (some ⟨fg, 0, none⟩) (p.nacts + 8) fc) (.slice oa p.nacts oc) 8) := hm
  have HG : Hid (G.length = p.nacts) := hG
  have HH : Hid (∀ U, Below w2.heap.size w2 U → ∀ j x, (handC p (.slice (some ⟨fg, 0, none⟩) p.nacts fc) (.slice (some ⟨fg, 0, none⟩) (p.nacts + 8) fc) (.slice oa p.nacts oc))[j]? = some x → U.cell? ⟨W.heap.size + 1, j, none⟩ = some x) := fun U hU j x hx => by
    rw [Lib.cell_of_heap ((hU.block _ (heap_lt HM2.out.hand)).trans HM2.out.hand)]
    exact hx
  have HPR : Hid (∀ (V' : List ActV) (U : World), VOk V' → V'.length = p.nacts → SeeV U (some ⟨fg, 0, none⟩) V' → ITab U → Calls Tryz.prog 14 #[.agg #[.int .i64 p.s, .int .i64 p.f, .int .i64 p.d, .int .i64 p.m, .int .i64 p.l, .int .i64 p.p, .bool p.ideal, .string p.master, .string p.tape, .slice (some ⟨fg, 0, none⟩) p.nacts fc]] U fun e w' => e = .returned (printV p V') ∧ Below U.heap.size U w') := fun V' U h1 h2 h3 h4 =>
    print_any { p with acts := some ⟨fg, 0, none⟩, cacts := fc } ⟨HOK.out.2.2.2.s, HOK.out.2.2.2.f, HOK.out.2.2.2.d, HOK.out.2.2.2.m, HOK.out.2.2.2.l, HOK.out.2.2.2.p, HOK.out.2.2.2.master, HOK.out.2.2.2.tape⟩ V' h1 h2 U h3 h4
  have hmv : Moved V (V2 V G) := V2_moved (hG.trans HOK.out.2.1.symm)
  have hpr := HPR.out (V2 V G) w2 (HOK.out.1.moved hmv) (hmv.1.trans HOK.out.2.1) (hm.see (by rw [hG])) (HS.out.2.below HB2.out HS.out.2.lt)
  rw [show printV p (V2 V G) = printV p V from printV_moved p hmv p.acts p.cacts, HV1.out] at hpr
  have m0 := HH.out w2 (Below.refl _ _) 0 _ rfl
  have m1 := HH.out w2 (Below.refl _ _) 1 _ rfl
  have m2 := HH.out w2 (Below.refl _ _) 2 _ rfl
  have m3 := HH.out w2 (Below.refl _ _) 3 _ rfl
  have m4 := HH.out w2 (Below.refl _ _) 4 _ rfl
  have m5 := HH.out w2 (Below.refl _ _) 5 _ rfl
  have m6 := HH.out w2 (Below.refl _ _) 6 _ rfl
  have m7 := HH.out w2 (Below.refl _ _) 7 _ rfl
  have m8 := HH.out w2 (Below.refl _ _) 8 _ rfl
  have m9 := HH.out w2 (Below.refl _ _) 9 _ rfl
  simp only [handC, List.getElem_toArray, List.getElem_cons_zero, List.getElem_cons_succ] at m0 m1 m2 m3 m4 m5 m6 m7 m8 m9
  clear hmv hm hG hb2
  go_wp2_with fail
  refine hpr.mono ?_
  rintro e w3 ⟨rfl, hb3⟩
  clear hpr m0 m1 m2 m3 m4 m5 m6 m7 m8 m9
  have HB3 : Hid (Below w.heap.size w w3) := HB2.out.trans (hb3.mono HB2.out.size)
  have HW3 : Hid (Below W.heap.size W w3) := HW2.out.trans (hb3.mono HW2.out.size)
  have HM3 : Hid (Below w2.heap.size w2 w3) := hb3
  have hrf := rPlay_any p HOK.out.2.2.2 V HOK.out.1 HOK.out.2.1 HOK.out.2.2.1 w3 (HS.out.1.below HB3.out) (HS.out.2.below HB3.out HS.out.2.lt)
  rw [HV1.out] at hrf
  unfold PlR.cells at hrf
  obtain ⟨c0, c1, c2, c3, c4, c5, c6, c7, c8, c9⟩ := (HP.out w3 HW3.out).ten
  clear hb3
  go_wp2_with fail
  refine hrf.mono ?_
  rintro e w4 ⟨rfl, hb4⟩
  clear hrf c0 c1 c2 c3 c4 c5 c6 c7 c8 c9
  have HB4 : Hid (Below w.heap.size w w4) := HB3.out.trans (hb4.mono HB3.out.size)
  have HW4 : Hid (Below W.heap.size W w4) := HW3.out.trans (hb4.mono HW3.out.size)
  have HM4 : Hid (Below w2.heap.size w2 w4) := HM3.out.trans (hb4.mono HM3.out.size)
  have hlf := left_any p V G HOK.out.1 HOK.out.2.1 HG.out fg fc oa oc (W.heap.size + 1 + 1) (W.heap.size + 1) w4 (HS.out.1.below HB4.out) (HM2.out.below HM4.out)
  unfold PlR.cells at hlf
  obtain ⟨c0, c1, c2, c3, c4, c5, c6, c7, c8, c9⟩ := (HP.out w4 HW4.out).ten
  clear hb4
  go_wp2_with (first
    | (go_at_call 12; refine (num_any k1 ⟨hk0, hk1⟩ _).mono ?_; rintro e w6 ⟨rfl, rfl⟩)
    | (go_at_call 13; refine hlf.mono ?_))
  rintro e w5 ⟨rfl, hb5⟩
  clear hlf c0 c1 c2 c3 c4 c5 c6 c7 c8 c9
  have HB5 : Hid (Below w.heap.size w w5) := HB4.out.trans (hb5.mono HB4.out.size)
  have HW5 : Hid (Below W.heap.size W w5) := HW4.out.trans (hb5.mono HW4.out.size)
  have HM5 : Hid (Below w2.heap.size w2 w5) := HM4.out.trans (hb5.mono HM4.out.size)
  have htu := turned_any p V HOK.out.1 HOK.out.2.1 w5 (HS.out.1.below HB5.out)
  unfold PlR.cells at htu
  obtain ⟨c0, c1, c2, c3, c4, c5, c6, c7, c8, c9⟩ := (HP.out w5 HW5.out).ten
  clear hb5
  go_wp2_with fail
  refine htu.mono ?_
  rintro e w6 ⟨a, c, rfl, hse, hge, hb6⟩
  clear htu c0 c1 c2 c3 c4 c5 c6 c7 c8 c9
  obtain ⟨W7, hW7⟩ : ∃ W7, w6.alloc (.cells (PlR.cells { p with acts := a, cacts := c }) 26) = W7 := ⟨_, rfl⟩
  have hb7 : Below w6.heap.size w6 W7 := by rw [← hW7]; exact (Below.refl _ _).alloc (Nat.le_refl _) _
  have hq7 : W7.heap[w6.heap.size]? = some (.cells (PlR.cells { p with acts := a, cacts := c }) 26 (0, 0)) := by rw [← hW7]; exact heap_alloc_new _ _
  have HB6 : Hid (Below w.heap.size w w6 ∧ Below w.heap.size w W7) := ⟨HB5.out.trans (hb6.mono HB5.out.size), (HB5.out.trans (hb6.mono HB5.out.size)).trans (hb7.mono (Nat.le_trans HB5.out.size hb6.size))⟩
  have HM6 : Hid (Below w2.heap.size w2 w6 ∧ Below w2.heap.size w2 W7) := ⟨HM5.out.trans (hb6.mono HM5.out.size), (HM5.out.trans (hb6.mono HM5.out.size)).trans (hb7.mono (Nat.le_trans HM5.out.size hb6.size))⟩
  have HFG : Hid (W.heap.size + 1 + 1 ≤ fg ∧ fg < w2.heap.size) := HM2.out.full.lt fg rfl
  have HGE : Hid (∀ g o, a = some ⟨g, o, none⟩ → fg ≠ g) := fun g o ha => by
    have h1 := hge g o ha
    have h2 := HFG.out.2
    have h3 := HM5.out.size
    omega
  have HSE : Hid (SeeV w6 a V.reverse ∧ Below w6.heap.size w6 W7) := ⟨hse, hb7⟩
  have HQ7 : Hid (W7.heap[w6.heap.size]? = some (.cells (PlR.cells { p with acts := a, cacts := c }) 26 (0, 0)) ∧ fg ≠ w6.heap.size ∧ w6.heap.size < W7.heap.size) := ⟨hq7, by have h1 := HFG.out.2; have h2 := HM6.out.1.size; omega, heap_lt hq7⟩
  have HC0 : Hid (Cop W7 W7 fg p.nacts 0 (V.reverse.map (·.1))) := by
    have h := HM2.out.cop (HG.out.trans HOK.out.2.1.symm) HM6.out.2 (V.reverse.map (·.1))
    rw [HG.out] at h
    exact h
  unfold PlR.cells at hW7
  have HW7 : Hid (Unit → _ = W7) := fun _ => hW7
  have HWF : Hid (∀ wr j, Cop W7 wr fg p.nacts j (V.reverse.map (·.1)) → (∀ j x, (handC p (.slice (some ⟨fg, 0, none⟩) p.nacts fc) (.slice (some ⟨fg, 0, none⟩) (p.nacts + 8) fc) (.slice oa p.nacts oc))[j]? = some x → wr.cell? ⟨W.heap.size + 1, j, none⟩ = some x) ∧ (∀ j x, (PlR.cells { p with acts := a, cacts := c })[j]? = some x → wr.cell? ⟨w6.heap.size, j, none⟩ = some x)) := fun wr j hcop => by
    have hhl := heap_lt HM2.out.hand
    have h1 : wr.heap[W.heap.size + 1]? = _ := (hcop.only.block (W.heap.size + 1) (Nat.lt_of_lt_of_le hhl HM6.out.2.size) (by have := HFG.out.1; simp; omega)).trans ((HM6.out.2.block _ hhl).trans HM2.out.hand)
    have h2 : wr.heap[w6.heap.size]? = _ := (hcop.only.block w6.heap.size HQ7.out.2.2 (by have := HQ7.out.2.1; simp; omega)).trans HQ7.out.1
    exact ⟨fun j x hx => by rw [Lib.cell_of_heap h1]; exact hx, fun j x hx => by rw [Lib.cell_of_heap h2]; exact hx⟩
  have hnb : p.nacts ≤ 1048576 := by rw [← HOK.out.2.1]; exact HOK.out.1.len
  have hq9 : W7.cell? ⟨w6.heap.size, 9, none⟩ = some (.slice a p.nacts c) := (HWF.out W7 0 HC0.out).2 9 _ rfl
  clear hse hge hb6 hb7 hq7 hW7
  go_upto_region 8 with fail
  rw [HW7.out ()]
  clear HW7
  go_wp2_with fail
  go_loopg [9] p.nacts (fun gk i wr => ∃ j : Nat, j + gk = p.nacts ∧ i = .int .i64 (j : Int) ∧ Hid (Cop W7 wr fg p.nacts j (V.reverse.map (·.1))))
  case atStart => exact ⟨0, by omega, rfl, HC0.out⟩
  case round =>
    clear hq9 HC0
    obtain ⟨j, hj, rfl, HC⟩ := hrel
    have HJ : Hid (j + gk = p.nacts) := hj
    obtain ⟨hhand, hq⟩ := HWF.out wr j HC.out
    have q9 : wr.cell? ⟨w6.heap.size, 9, none⟩ = some (.slice a p.nacts c) := hq 9 _ rfl
    have h9 : wr.cell? ⟨W.heap.size + 1, 9, none⟩ = some (.slice (some ⟨fg, 0, none⟩) p.nacts fc) := hhand 9 _ rfl
    by_cases hlt : j < p.nacts
    · have hltI : (j : Int) < (p.nacts : Int) := by omega
      obtain ⟨x, hx⟩ : ∃ x, V.reverse[j]? = some x := ⟨_, List.getElem?_eq_getElem (by rw [List.length_reverse, HOK.out.2.1]; exact hlt)⟩
      obtain ⟨b, off, ha, hbl, hnine, hops⟩ := HSE.out.1.at hx
      have hxr : (V.reverse.map (·.1))[j]? = some x.1 := by rw [List.getElem?_map, hx]; rfl
      have hbf := HGE.out b off ha
      have hn9 := hnine.same (w' := wr) ((HC.out.only.block b (Nat.lt_of_lt_of_le hbl HSE.out.2.size) (by simp; omega)).trans (HSE.out.2.block b hbl))
      rw [ha] at q9
      have hth := HC.out.there hlt
      have hC2 := HC.out.step hlt hxr
      have hfz : ∀ k, wr.frozen? ⟨fg, k, none⟩ = false := fun k => by
        obtain ⟨cs, hb, -⟩ := HC.out.blk
        exact Lib.frozen_of_heap hb k
      obtain ⟨k0, k1, k2, k3, k4, k5, k6, k7, k8⟩ := hn9
      have q9d : wr.drew.cell? ⟨w6.heap.size, 9, none⟩ = some (.slice (some ⟨b, off, none⟩) p.nacts c) := q9
      have h9d : wr.drew.cell? ⟨W.heap.size + 1, 9, none⟩ = some (.slice (some ⟨fg, 0, none⟩) p.nacts fc) := h9
      clear ha hx hnine hops hbl hxr hj hhand hq
      have HC2 : Hid (Cop W7 (wr.drew.setCells fg (j * 9) x.1.cells.toList) fg p.nacts (j + 1) (V.reverse.map (·.1))) := hC2
      clear hC2 HC
      obtain ⟨d0, hd0⟩ : ∃ v, wr.drew.cell? ⟨fg, j * 9, none⟩ = some v := Option.isSome_iff_exists.1 (hth 0 (by decide)).1
      have he0 : wr.cell? ⟨fg, j * 9, none⟩ = some d0 := hd0
      obtain ⟨d1, hd1⟩ : ∃ v, wr.drew.cell? ⟨fg, j * 9 + 1, none⟩ = some v := Option.isSome_iff_exists.1 (hth 1 (by decide)).1
      have he1 : wr.cell? ⟨fg, j * 9 + 1, none⟩ = some d1 := hd1
      obtain ⟨d2, hd2⟩ : ∃ v, wr.drew.cell? ⟨fg, j * 9 + 2, none⟩ = some v := Option.isSome_iff_exists.1 (hth 2 (by decide)).1
      have he2 : wr.cell? ⟨fg, j * 9 + 2, none⟩ = some d2 := hd2
      obtain ⟨d3, hd3⟩ : ∃ v, wr.drew.cell? ⟨fg, j * 9 + 3, none⟩ = some v := Option.isSome_iff_exists.1 (hth 3 (by decide)).1
      have he3 : wr.cell? ⟨fg, j * 9 + 3, none⟩ = some d3 := hd3
      obtain ⟨d4, hd4⟩ : ∃ v, wr.drew.cell? ⟨fg, j * 9 + 4, none⟩ = some v := Option.isSome_iff_exists.1 (hth 4 (by decide)).1
      have he4 : wr.cell? ⟨fg, j * 9 + 4, none⟩ = some d4 := hd4
      obtain ⟨d5, hd5⟩ : ∃ v, wr.drew.cell? ⟨fg, j * 9 + 5, none⟩ = some v := Option.isSome_iff_exists.1 (hth 5 (by decide)).1
      have he5 : wr.cell? ⟨fg, j * 9 + 5, none⟩ = some d5 := hd5
      obtain ⟨d6, hd6⟩ : ∃ v, wr.drew.cell? ⟨fg, j * 9 + 6, none⟩ = some v := Option.isSome_iff_exists.1 (hth 6 (by decide)).1
      have he6 : wr.cell? ⟨fg, j * 9 + 6, none⟩ = some d6 := hd6
      obtain ⟨d7, hd7⟩ : ∃ v, wr.drew.cell? ⟨fg, j * 9 + 7, none⟩ = some v := Option.isSome_iff_exists.1 (hth 7 (by decide)).1
      have he7 : wr.cell? ⟨fg, j * 9 + 7, none⟩ = some d7 := hd7
      obtain ⟨d8, hd8⟩ : ∃ v, wr.drew.cell? ⟨fg, j * 9 + 8, none⟩ = some v := Option.isSome_iff_exists.1 (hth 8 (by decide)).1
      have he8 : wr.cell? ⟨fg, j * 9 + 8, none⟩ = some d8 := hd8
      have hf : ∀ k, wr.drew.frozen? ⟨fg, k, none⟩ = false := hfz
      obtain ⟨w8, hw8⟩ : ∃ w8, wr.drew.setCells fg (j * 9) x.1.cells.toList = w8 := ⟨_, rfl⟩
      rw [hw8] at HC2
      have HW8 : Hid (Unit → ((((((((((wr.setCell ⟨fg, j * 9, none⟩ (.int .i64 x.1.kind)).setCell ⟨fg, j * 9 + 1, none⟩ (.slice x.1.ops x.1.nops x.1.cops)).setCell ⟨fg, j * 9 + 2, none⟩ (.int .i64 x.1.i)).setCell ⟨fg, j * 9 + 3, none⟩ (.int .i64 x.1.before)).setCell ⟨fg, j * 9 + 4, none⟩ (.int .i64 x.1.ek)).setCell ⟨fg, j * 9 + 5, none⟩ (.int .i64 x.1.put)).setCell ⟨fg, j * 9 + 6, none⟩ (.int .i64 x.1.frm)).setCell ⟨fg, j * 9 + 7, none⟩ (.string x.1.name)).setCell ⟨fg, j * 9 + 8, none⟩ (.string x.1.blob))).drew = w8) := fun _ => (nine_setCells wr fg (j * 9) x.1).trans hw8
      clear hw8 hth
      go_wp2_with fail
      go_region
      all_goals
        rw [HW8.out ()]
        clear HW8 hd0 hd1 hd2 hd3 hd4 hd5 hd6 hd7 hd8 he0 he1 he2 he3 he4 he5 he6 he7 he8 hf hfz k0 k1 k2 k3 k4 k5 k6 k7 k8 q9 q9d h9 h9d
        go_wp2
        go_roundg (gk - 1)
        case measure => have := HJ.out; omega
        case rel => exact ⟨j + 1, by have := HJ.out; omega, by go_num, HC2.out⟩
    · obtain rfl : j = p.nacts := by omega
      have hltI : ¬ (p.nacts : Int) < (p.nacts : Int) := by omega
      have hbw : Below w.heap.size w wr := HB6.out.2.trans (HC.out.only.below HB6.out.2.size (by
        intro k hk
        obtain rfl : k = fg := by simpa using hk
        have h1 := HFG.out.1
        have h2 := HB.out.size
        omega))
      have hops : ∀ (i : Nat) x, V.reverse[i]? = some x → SeeO wr x.1.ops x.2 := fun i x hx => by
        obtain ⟨i', hi'⟩ := List.mem_iff_getElem?.1 (List.mem_reverse.1 (List.mem_of_getElem? hx))
        exact (HS.out.1.ops i' x hi').below hbw
      have hsee : SeeV wr (some ⟨fg, 0, none⟩) V.reverse := ⟨fun _ => ⟨fg, 0, rfl, Nat.lt_of_lt_of_le HFG.out.2 (Nat.le_trans HM6.out.2.size HC.out.only.size), fun i o ho => by
        have hi := (List.getElem?_eq_some_iff.1 ho).1
        rw [List.length_map, List.length_reverse, HOK.out.2.1] at hi
        rw [Nat.zero_add]
        exact HC.out.rows i o hi ho⟩, hops⟩
      have hseeq : SeeV wr a V.reverse := ⟨fun hne => by
        obtain ⟨b, off, ha, hbl, hc⟩ := HSE.out.1.acts hne
        have hbf := HGE.out b off ha
        exact ⟨b, off, ha, Nat.lt_of_lt_of_le hbl (Nat.le_trans HSE.out.2.size HC.out.only.size), fun i o ho => (hc i o ho).same ((HC.out.only.block b (Nat.lt_of_lt_of_le hbl HSE.out.2.size) (by simp; omega)).trans (HSE.out.2.block b hbl))⟩, hops⟩
      have hokr := HOK.out.1.rev
      have hlr : V.reverse.length = p.nacts := by rw [List.length_reverse]; exact HOK.out.2.1
      obtain ⟨x2, k2, hv2, hm0, hm1⟩ := printV_form p V.reverse hokr
      have HV2 : Hid (printV p V.reverse = .tuple #[.string x2, .int .i64 k2]) := hv2
      have hpr := HPR.out V.reverse wr hokr hlr hsee (HS.out.2.below hbw HS.out.2.lt)
      rw [HV2.out] at hpr
      have HR : Hid (Below w.heap.size w wr ∧ SeeV wr a V.reverse ∧ VOk V.reverse ∧ V.reverse.length = p.nacts) := ⟨hbw, hseeq, hokr, hlr⟩
      have HQB : Hid (w6.heap.size < wr.heap.size) := Nat.lt_of_lt_of_le HQ7.out.2.2 HC.out.only.size
      have HQC : Hid (∀ j x, (PlR.cells { p with acts := a, cacts := c })[j]? = some x → wr.cell? ⟨w6.heap.size, j, none⟩ = some x) := hq
      have m0 := hhand 0 _ rfl
      have m1 := hhand 1 _ rfl
      have m2 := hhand 2 _ rfl
      have m3 := hhand 3 _ rfl
      have m4 := hhand 4 _ rfl
      have m5 := hhand 5 _ rfl
      have m6 := hhand 6 _ rfl
      have m7 := hhand 7 _ rfl
      have m8 := hhand 8 _ rfl
      simp only [handC, List.getElem_toArray, List.getElem_cons_zero, List.getElem_cons_succ] at m0 m1 m2 m3 m4 m5 m6 m7 m8
      clear hj hhand hq hsee hseeq hops hokr hlr hbw hv2 HC
      go_wp2_with fail
      refine hpr.mono ?_
      rintro e w8 ⟨rfl, hb8⟩
      clear hpr m0 m1 m2 m3 m4 m5 m6 m7 m8 h9 q9
      have HB8 : Hid (Below w.heap.size w w8) := HR.out.1.trans (hb8.mono HR.out.1.size)
      have hrf := rPlay_any { p with acts := a, cacts := c } ⟨HOK.out.2.2.2.s, HOK.out.2.2.2.f, HOK.out.2.2.2.d, HOK.out.2.2.2.m, HOK.out.2.2.2.l, HOK.out.2.2.2.p, HOK.out.2.2.2.master, HOK.out.2.2.2.tape⟩ V.reverse HR.out.2.2.1 HR.out.2.2.2 (by rw [lnsT_rev]; exact HOK.out.2.2.1) w8 (HR.out.2.1.below hb8) (HS.out.2.below HB8.out HS.out.2.lt)
      rw [show printV { p with acts := a, cacts := c } V.reverse = printV p V.reverse from rfl, HV2.out] at hrf
      have hq8 : ∀ j x, (PlR.cells { p with acts := a, cacts := c })[j]? = some x → w8.cell? ⟨w6.heap.size, j, none⟩ = some x := fun j x hx => (hb8.cell (p := ⟨w6.heap.size, j, none⟩) HQB.out).trans (HQC.out j x hx)
      unfold PlR.cells at hrf
      have m0 := hq8 0 _ rfl
      have m1 := hq8 1 _ rfl
      have m2 := hq8 2 _ rfl
      have m3 := hq8 3 _ rfl
      have m4 := hq8 4 _ rfl
      have m5 := hq8 5 _ rfl
      have m6 := hq8 6 _ rfl
      have m7 := hq8 7 _ rfl
      have m8 := hq8 8 _ rfl
      have m9 := hq8 9 _ rfl
      simp only [PlR.cells, List.getElem_toArray, List.getElem_cons_zero, List.getElem_cons_succ] at m0 m1 m2 m3 m4 m5 m6 m7 m8 m9
      clear hq8 hb8
      go_wp2_with fail
      refine hrf.mono ?_
      rintro e w9 ⟨rfl, hb9⟩
      clear hrf m0 m1 m2 m3 m4 m5 m6 m7 m8 m9
      have HB9 : Hid (Below w.heap.size w w9) := HB8.out.trans (hb9.mono HB8.out.size)
      clear hb9
      go_wp2_with (go_at_call 12; refine (num_any k2 ⟨hm0, hm1⟩ _).mono ?_; rintro e w10 ⟨rfl, rfl⟩)
      go_ret
      exact ⟨rfl, HB9.out⟩
end Go.Proofs.YtiaahjijfppkdaaGreatDoor.Sc
