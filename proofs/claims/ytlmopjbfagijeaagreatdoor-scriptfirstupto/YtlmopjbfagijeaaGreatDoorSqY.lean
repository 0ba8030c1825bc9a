import Derived.Test.YtlmopjbfagijeaaGreatDoorSqX
namespace Go.Proofs.YtlmopjbfagijeaaGreatDoor.Sc
open Go.RowKit Go.Lib Go.Deep
open Go.Proofs.YtlmopjbfagijeaaGreatDoor.Sq (See wpList_app see_own see_one owns_form owns_form2 one_new grown_base owns_keep owns_below owns_base owns_block own_cap some_lt)
theorem seeO_own {w : World} {B g c : Nat} {L M : List OpR} {n : Nat} (h : w.ownsRow B 54 6 (.slice (some ⟨g, 0, none⟩) n c) n (opsC (L ++ M))) : SeeO w (some ⟨g, 0, none⟩) L := fun hne => by
  have hs := see_own h (opsC_one _)
  unfold opsC at hs
  have key : ∀ (i : Nat) o, L[i]? = some o → ∀ j u, o.cells.toList[j]? = some u → w.cell? ⟨g, 0 + i * 6 + j, none⟩ = some u := fun i o ho => by
    obtain ⟨b, off, e, _, hc⟩ := hs.row (f := fun o : OpR => o.cells.toList) (fun _ => rfl) (by decide) (show (L ++ M)[i]? = some o by rw [List.getElem?_append_left (some_lt ho)]; exact ho)
    injection e with e
    injection e with e1 e2
    subst e1 e2
    exact hc
  refine ⟨g, 0, rfl, ?_, fun i o ho => ?_⟩
  · cases L with
    | nil => exact absurd rfl hne
    | cons a t => exact block_lt_of_cell (key 0 a rfl 0 _ rfl)
  · have h := key i o ho
    exact ⟨h 0 _ rfl, h 1 _ rfl, h 2 _ rfl, h 3 _ rfl, h 4 _ rfl, h 5 _ rfl⟩
theorem nine_own {w : World} {B g c n : Nat} {L : List ActR} (h : w.ownsRow B 36 9 (.slice (some ⟨g, 0, none⟩) n c) n (actsC L)) {i : Nat} {o : ActR} (ho : L[i]? = some o) : NineAt w g (0 + i * 9) o ∧ g < w.heap.size := by
  have hs := see_own h (actsC_one _)
  unfold actsC at hs
  obtain ⟨b, off, e, hlt, hc⟩ := hs.row (f := fun o : ActR => o.cells.toList) (fun _ => rfl) (by decide) ho
  injection e with e
  injection e with e1 e2
  subst e1 e2
  exact ⟨⟨hc 0 _ rfl, hc 1 _ rfl, hc 2 _ rfl, hc 3 _ rfl, hc 4 _ rfl, hc 5 _ rfl, hc 6 _ rfl, hc 7 _ rfl, hc 8 _ rfl⟩, hlt⟩
def V2 (V : List ActV) (G : List (Nat × Nat)) : List ActV := List.zipWith (fun x gc => (hd x gc, x.2)) V G
theorem V2_at {V : List ActV} {G : List (Nat × Nat)} (hl : G.length = V.length) {i : Nat} {x : ActV} (hx : V[i]? = some x) : ∃ gc, G[i]? = some gc ∧ (V2 V G)[i]? = some (hd x gc, x.2) := by
  have := some_lt hx
  obtain ⟨gc, hg⟩ : ∃ gc, G[i]? = some gc := ⟨_, List.getElem?_eq_getElem (by omega)⟩
  exact ⟨gc, hg, zip_get _ V G i x gc hx hg⟩
theorem V2_of {V : List ActV} {G : List (Nat × Nat)} {i : Nat} {y : ActV} (hy : (V2 V G)[i]? = some y) : ∃ x gc, V[i]? = some x ∧ G[i]? = some gc ∧ y = (hd x gc, x.2) := by
  unfold V2 at hy
  rw [List.getElem?_zipWith] at hy
  cases hx : V[i]? with
  | none => rw [hx] at hy; cases hy
  | some x =>
    cases hg : G[i]? with
    | none => rw [hx, hg] at hy; cases hy
    | some gc =>
      rw [hx, hg] at hy
      exact ⟨x, gc, rfl, rfl, (Option.some.inj hy).symm⟩
theorem V2_moved {V : List ActV} {G : List (Nat × Nat)} (hl : G.length = V.length) : Moved V (V2 V G) := ⟨by unfold V2; rw [List.length_zipWith]; omega, fun i x hx => by
  obtain ⟨gc, hg, h⟩ := V2_at hl hx
  exact ⟨_, _, h⟩⟩
theorem V2_fst (V : List ActV) (G : List (Nat × Nat)) : (V2 V G).map (·.1) = List.zipWith hd V G := by
  unfold V2
  rw [List.map_zipWith]
theorem Made.see {w : World} {B hb : Nat} {p : PlR} {V : List ActV} {G : List (Nat × Nat)} {acts ov : Value} {m n fg fc : Nat} (h : Made w B hb p V G acts (.slice (some ⟨fg, 0, none⟩) n fc) ov m) (hn : n = G.length + m) : SeeV w (some ⟨fg, 0, none⟩) (V2 V G) := by
  subst hn
  refine ⟨fun hne => ?_, fun i y hy => ?_⟩
  · have key : ∀ (i : Nat) o, ((V2 V G).map (·.1))[i]? = some o → NineAt w fg (0 + i * 9) o ∧ fg < w.heap.size := fun i o ho => by
      rw [V2_fst] at ho
      exact nine_own h.full (by rw [List.getElem?_append_left (some_lt ho)]; exact ho)
    refine ⟨fg, 0, rfl, ?_, fun i o ho => (key i o ho).1⟩
    cases hq : (V2 V G).map (·.1) with
    | nil => exact absurd hq hne
    | cons a t => exact (key 0 a (by rw [hq]; rfl)).2
  · obtain ⟨x, gc, hx, hg, rfl⟩ := V2_of hy
    exact seeO_own (h.rows i x gc hx hg)
theorem slC_one (V : List ActV) (G : List (Nat × Nat)) : ∀ u ∈ slC V G, u.oneCell' = true := by
  intro u hu
  obtain ⟨i, hi⟩ := List.mem_iff_getElem?.1 hu
  unfold slC at hi
  rw [List.getElem?_zipWith] at hi
  cases hx : V[i]? with
  | none => rw [hx] at hi; cases hi
  | some x =>
    cases hg : G[i]? with
    | none => rw [hx, hg] at hi; cases hi
    | some gc =>
      rw [hx, hg] at hi
      obtain rfl := Option.some.inj hi
      rfl
theorem row_at {w : World} {B e n c : Nat} {a : Option Addr} {xs : List Value} (h : w.ownsRow B e 1 (.slice a n c) n xs) (h1 : ∀ u ∈ xs, u.oneCell' = true) {i : Nat} {u : Value} (hu : xs[i]? = some u) : ∃ b, a = some ⟨b, 0, none⟩ ∧ w.cell? ⟨b, i, none⟩ = some u := by
  have hs := see_own h h1
  have hn : 0 < n := by
    have := some_lt hu
    have := hs.1
    omega
  obtain ⟨g, c', hg⟩ := owns_form2 h hn
  injection hg with e1 _ _
  subst e1
  obtain ⟨-, -, a', c2, e1, -, -, hcell⟩ := hs
  injection e1 with e1 _ _
  obtain ⟨b, off, e2, _, hc⟩ := hcell hn
  rw [← e1] at e2
  injection e2 with e2
  injection e2 with e3 e4
  have h := hc i u hu
  rw [← e3, ← e4, Nat.zero_add] at h
  exact ⟨g, rfl, h⟩
set_option maxRecDepth 20000 in
set_option maxHeartbeats 4000000 in
theorem left_any (p : PlR) (V : List ActV) (G : List (Nat × Nat)) (hok : VOk V) (hn : V.length = p.nacts) (hG : G.length = p.nacts) (fg fc : Nat) (oa : Option Addr) (oc B hb : Nat) (w : World) (h : SeeV w p.acts V) (hm : Made w B hb p V G (.slice (some ⟨fg, 0, none⟩) p.nacts fc) (.slice (some ⟨fg, 0, none⟩) (p.nacts + 8) fc) (.slice oa p.nacts oc) 8) :
    Calls Tryz.prog 13 #[.pointer (some ⟨hb, 0, none⟩), .agg p.cells] w fun e w' => e = .returned (.bool true) ∧ Below w.heap.size w w' := by
  obtain ⟨W, hW⟩ : ∃ W, w.alloc (.cells p.cells 26) = W := ⟨_, rfl⟩
  have hbW : Below w.heap.size w W := by rw [← hW]; exact (Below.refl _ _).alloc (Nat.le_refl _) _
  have h1 : PlAt W w.heap.size p := by
    apply plAt_of
    rw [← hW]
    exact heap_alloc_new _ _
  have hmW := hm.below hbW
  have hsee := hmW.see (by rw [hG])
  have hbl : hb < w.heap.size := heap_lt hm.hand
  have hWs : W.heap.size = w.heap.size + 1 := by rw [← hW]; simp
  have HSP : Hid (∀ U, Below W.heap.size W U → Calls Tryz.prog 16 #[.agg (PlR.cells { p with acts := (some ⟨fg, 0, none⟩), cacts := fc }), .agg p.cells] U fun e w' => e = .returned (.bool true) ∧ Below U.heap.size U w') := fun U hU => samePlay_any p (some ⟨fg, 0, none⟩) fc V (V2 V G) hok hn (V2_moved (hG.trans hn.symm)) U ((h.below hbW).below hU) (hsee.below hU)
  obtain ⟨n, hnn⟩ : ∃ n, p.nacts = n := ⟨_, rfl⟩
  obtain ⟨pc, hpc⟩ : ∃ pc, p.cacts = pc := ⟨_, rfl⟩
  obtain ⟨N8, hN8⟩ : ∃ N8, n + 8 = N8 := ⟨_, rfl⟩
  have HN8 : Hid (n + 8 = N8) := hN8
  have hnb : n ≤ 1048576 := by rw [← hnn, ← hn]; exact hok.len
  have HC : Hid (∀ U, Below W.heap.size W U → U.cell? ⟨w.heap.size, 0, none⟩ = some (.int .i64 p.s) ∧ U.cell? ⟨w.heap.size, 1, none⟩ = some (.int .i64 p.f) ∧ U.cell? ⟨w.heap.size, 2, none⟩ = some (.int .i64 p.d) ∧ U.cell? ⟨w.heap.size, 3, none⟩ = some (.int .i64 p.m) ∧ U.cell? ⟨w.heap.size, 4, none⟩ = some (.int .i64 p.l) ∧ U.cell? ⟨w.heap.size, 5, none⟩ = some (.int .i64 p.p) ∧ U.cell? ⟨w.heap.size, 6, none⟩ = some (.bool p.ideal) ∧ U.cell? ⟨w.heap.size, 7, none⟩ = some (.string p.master) ∧ U.cell? ⟨w.heap.size, 8, none⟩ = some (.string p.tape) ∧ U.cell? ⟨w.heap.size, 9, none⟩ = some (.slice p.acts n pc) ∧ U.cell? ⟨hb, 0, none⟩ = some (.int .i64 p.s) ∧ U.cell? ⟨hb, 1, none⟩ = some (.int .i64 p.f) ∧ U.cell? ⟨hb, 2, none⟩ = some (.int .i64 p.d) ∧ U.cell? ⟨hb, 3, none⟩ = some (.int .i64 p.m) ∧ U.cell? ⟨hb, 4, none⟩ = some (.int .i64 p.l) ∧ U.cell? ⟨hb, 5, none⟩ = some (.int .i64 p.p) ∧ U.cell? ⟨hb, 6, none⟩ = some (.bool p.ideal) ∧ U.cell? ⟨hb, 7, none⟩ = some (.string p.master) ∧ U.cell? ⟨hb, 8, none⟩ = some (.string p.tape) ∧ U.cell? ⟨hb, 9, none⟩ = some (.slice (some ⟨fg, 0, none⟩) n fc) ∧ U.cell? ⟨hb, 10, none⟩ = some (.slice (some ⟨fg, 0, none⟩) N8 fc) ∧ U.cell? ⟨hb, 11, none⟩ = some (.slice oa n oc)) := fun U hU => by
    obtain ⟨k0, k1, k2, k3, k4, k5, k6, k7, k8, k9⟩ := (h1.below hU (by omega)).ten
    rw [hnn, hpc] at k9
    have hh := (hmW.below hU).hand
    rw [hnn, hN8] at hh
    have hhand : ∀ j x, (handC p (.slice (some ⟨fg, 0, none⟩) n fc) (.slice (some ⟨fg, 0, none⟩) N8 fc) (.slice oa n oc))[j]? = some x → U.cell? ⟨hb, j, none⟩ = some x := fun j x hx => by rw [Lib.cell_of_heap hh]; exact hx
    exact ⟨k0, k1, k2, k3, k4, k5, k6, k7, k8, k9, hhand 0 _ rfl, hhand 1 _ rfl, hhand 2 _ rfl, hhand 3 _ rfl, hhand 4 _ rfl, hhand 5 _ rfl, hhand 6 _ rfl, hhand 7 _ rfl, hhand 8 _ rfl, hhand 9 _ rfl, hhand 10 _ rfl, hhand 11 _ rfl⟩
  have HM : Hid (Made W B hb p V G (.slice (some ⟨fg, 0, none⟩) n fc) (.slice (some ⟨fg, 0, none⟩) N8 fc) (.slice oa n oc) 8) := by
    have h := hmW
    rw [hnn, hN8] at h
    exact h
  have HG : Hid (G.length = n) := hG.trans hnn
  have HN : Hid (V.length = n) := hn.trans hnn
  have HV : Hid (SeeV W p.acts V) := h.below hbW
  have HOK : Hid (VOk V) := hok
  have HB : Hid (Below w.heap.size w W) := hbW
  have HNP : Hid (p.nacts = n ∧ p.cacts = pc) := ⟨hnn, hpc⟩
  have hbd : Below W.heap.size W W.drew := bd1 W
  have hsp := HSP.out _ hbd
  unfold PlR.cells at *
  rw [hnn, hpc] at hW
  dsimp only at hsp
  rw [hnn, hpc] at hsp ⊢
  have HW : Hid (Unit → _ = W) := fun _ => hW
  have hs0 := HC.out _ (Below.refl _ _)
  have hwr : IntKind.i64.wrap ((n : Int) + 8) = (N8 : Int) := by rw [show (n : Int) + 8 = (N8 : Int) by omega]; rw [IntKind.wrap_i64]; omega
  clear hW h1 hmW hsee hbl hWs hnn hpc hN8 hn hG h hm hok hbW HSP
  go_enter Tryz.func13, Tryz.ntmps13
  go_upto_region 1 with fail
  rw [HW.out ()]
  clear HW
  go_region_held_law (fun U => U.cell? ⟨w.heap.size, 0, none⟩ = some (.int .i64 p.s) ∧ U.cell? ⟨w.heap.size, 1, none⟩ = some (.int .i64 p.f) ∧ U.cell? ⟨w.heap.size, 2, none⟩ = some (.int .i64 p.d) ∧ U.cell? ⟨w.heap.size, 3, none⟩ = some (.int .i64 p.m) ∧ U.cell? ⟨w.heap.size, 4, none⟩ = some (.int .i64 p.l) ∧ U.cell? ⟨w.heap.size, 5, none⟩ = some (.int .i64 p.p) ∧ U.cell? ⟨w.heap.size, 6, none⟩ = some (.bool p.ideal) ∧ U.cell? ⟨w.heap.size, 7, none⟩ = some (.string p.master) ∧ U.cell? ⟨w.heap.size, 8, none⟩ = some (.string p.tape) ∧ U.cell? ⟨w.heap.size, 9, none⟩ = some (.slice p.acts n pc) ∧ U.cell? ⟨hb, 0, none⟩ = some (.int .i64 p.s) ∧ U.cell? ⟨hb, 1, none⟩ = some (.int .i64 p.f) ∧ U.cell? ⟨hb, 2, none⟩ = some (.int .i64 p.d) ∧ U.cell? ⟨hb, 3, none⟩ = some (.int .i64 p.m) ∧ U.cell? ⟨hb, 4, none⟩ = some (.int .i64 p.l) ∧ U.cell? ⟨hb, 5, none⟩ = some (.int .i64 p.p) ∧ U.cell? ⟨hb, 6, none⟩ = some (.bool p.ideal) ∧ U.cell? ⟨hb, 7, none⟩ = some (.string p.master) ∧ U.cell? ⟨hb, 8, none⟩ = some (.string p.tape) ∧ U.cell? ⟨hb, 9, none⟩ = some (.slice (some ⟨fg, 0, none⟩) n fc) ∧ U.cell? ⟨hb, 10, none⟩ = some (.slice (some ⟨fg, 0, none⟩) N8 fc) ∧ U.cell? ⟨hb, 11, none⟩ = some (.slice oa n oc)) (first | exact HC.out _ hbd | exact HC.out _ hb2x | go_keep) (first | (go_at_call 16; refine hsp.mono ?_; rintro e w2 ⟨rfl, hb2⟩; have hb2x : Below W.heap.size W w2 := hbd.trans hb2; clear hsp))
  have HB2 : Hid (Below W.heap.size W w2) := hb2x
  clear hb2 hb2x hbd hs0
  obtain ⟨k0, k1, k2, k3, k4, k5, k6, k7, k8, k9, m0, m1, m2, m3, m4, m5, m6, m7, m8, m9, m10, m11⟩ := HC.out _ HB2.out
  go_wp2_with fail
  go_loopg [5] N8 (fun gk i wr => ∃ j : Nat, j + gk = N8 ∧ i = .int .i64 (j : Int) ∧ Hid (Below W.heap.size W wr))
  case atStart => exact ⟨0, by omega, rfl, HB2.out⟩
  case round =>
    clear k0 k1 k2 k3 k4 k5 k6 k7 k8 k9 m0 m1 m2 m3 m4 m5 m6 m7 m8 m9 m10 m11
    obtain ⟨j, hj, rfl, HI⟩ := hrel
    obtain ⟨k0, k1, k2, k3, k4, k5, k6, k7, k8, k9, m0, m1, m2, m3, m4, m5, m6, m7, m8, m9, m10, m11⟩ := HC.out _ HI.out
    clear k0 k1 k2 k3 k4 k5 k6 k7 k8 m0 m1 m2 m3 m4 m5 m6 m7 m8 m9
    have hN8 := HN8.out
    by_cases hlt : j < N8
    · have hltI : (j : Int) < (N8 : Int) := by omega
      by_cases hjn : j < n
      · have hjI : ¬ (n : Int) ≤ (j : Int) := by omega
        have hjN : ¬ n ≤ j := by omega
        clear hN8
        go_wp2
        go_roundg (gk - 1)
        case measure => omega
        case rel => exact ⟨j + 1, by omega, by go_num, HI⟩
      · have hjI : (n : Int) ≤ (j : Int) := by omega
        have hjb : j ≤ 1048584 := by omega
        have hjN : n ≤ j := by omega
        have hfull := (HM.out.below HI.out).full
        rw [HG.out] at hfull
        have hN9 := HN8.out
        have hzl : (List.zipWith hd V G).length = n := by rw [List.length_zipWith, HN.out, HG.out]; omega
        rw [hN9] at hfull
        obtain ⟨hnine, -⟩ := nine_own hfull (i := j) (o := markA) (by
          rw [List.getElem?_append_right (by omega), List.getElem?_replicate, if_pos (by omega)])
        obtain ⟨q0, q1, -⟩ := hnine
        rw [Nat.zero_add] at q0 q1
        unfold markA at q0 q1
        dsimp only at q0 q1
        clear hN8 hN9 hfull hzl
        go_wp2
        go_roundg (gk - 1)
        case measure => omega
        case rel => exact ⟨j + 1, by omega, by go_num, HI⟩
    · obtain rfl : j = N8 := by omega
      have hltI : ¬ (j : Int) < (j : Int) := by omega
      clear hN8
      have HI0 : Hid (Below W.heap.size W wr) := HI.out
      clear HI hj
      go_wp2_with fail
      go_loopg [6] n (fun gk2 i wq => ∃ q : Nat, q + gk2 = n ∧ i = .int .i64 (q : Int) ∧ Hid (Below W.heap.size W wq))
      case atStart => exact ⟨0, by omega, rfl, HI0.out⟩
      case round =>
        clear HI0 k9 m10 m11
        obtain ⟨q, hq, rfl, HI⟩ := hrel
        obtain ⟨k0, k1, k2, k3, k4, k5, k6, k7, k8, k9, m0, m1, m2, m3, m4, m5, m6, m7, m8, m9, m10, m11⟩ := HC.out _ HI.out
        clear k0 k1 k2 k3 k4 k5 k6 k7 k8 m0 m1 m2 m3 m4 m5 m6 m7 m8 m9 m10
        by_cases hlt2 : q < n
        · have hltI2 : (q : Int) < (n : Int) := by omega
          obtain ⟨x, hx⟩ : ∃ x, V[q]? = some x := ⟨_, List.getElem?_eq_getElem (by rw [HN.out]; omega)⟩
          obtain ⟨gc, hg⟩ : ∃ gc, G[q]? = some gc := ⟨_, List.getElem?_eq_getElem (by rw [HG.out]; omega)⟩
          obtain ⟨b, off, hpa, hbl, hnine, hops⟩ := HV.out.at hx
          obtain ⟨-, -, hxn, hxl⟩ := HOK.out.each x (List.mem_of_getElem? hx)
          have hmq := HM.out.below HI.out
          have hor := hmq.ops
          rw [HG.out] at hor
          obtain ⟨ob, hoa, hoc⟩ := row_at hor (by
            exact slC_one V G) (zip_get (fun x gc => Value.slice (some ⟨gc.1, 0, none⟩) (x.2.length + 8) gc.2) V G q x gc hx hg)
          subst hoa
          rw [hpa] at k9
          have hcell1 := (hnine.below HI.out hbl).2.1
          rw [← hxn] at hcell1
          have hbd : Below wr.heap.size wr wr.drew := bd1 wr
          have hobl := block_lt_of_cell hoc
          have hwl : W.heap.size ≤ wr.heap.size := HI.out.size
          have hp9 := block_lt_of_cell k9
          have hp11 := block_lt_of_cell m11
          have HC2 : Hid (∀ U, Below wr.heap.size wr U → U.cell? ⟨hb, 11, none⟩ = some (.slice (some ⟨ob, 0, none⟩) n oc) ∧ U.cell? ⟨w.heap.size, 9, none⟩ = some (.slice (some ⟨b, off, none⟩) n pc) ∧ U.cell? ⟨ob, q, none⟩ = some (.slice (some ⟨gc.1, 0, none⟩) (x.2.length + 8) gc.2) ∧ U.cell? ⟨b, off + q * 9 + 1, none⟩ = some (.slice x.1.ops x.2.length x.1.cops)) := fun U hU =>
            ⟨(hU.cell (p := ⟨hb, 11, none⟩) hp11).trans m11, (hU.cell (p := ⟨w.heap.size, 9, none⟩) hp9).trans k9, (hU.cell (p := ⟨ob, q, none⟩) hobl).trans hoc, (hU.cell (p := ⟨b, off + q * 9 + 1, none⟩) (by show b < _; omega)).trans hcell1⟩
          have ht := twinOps_any x.1.ops x.1.cops x.2 hxl wr.drew ((hops.below HI.out).below hbd)
          have hTL : (twinL x.2).length = x.2.length + 8 := by unfold twinL; rw [List.length_append, List.length_replicate]
          have HSO : Hid (∀ U g' c', Below wr.heap.size wr U → SeeO U (some ⟨g', 0, none⟩) (twinL x.2) → Calls Tryz.prog 30 #[.slice (some ⟨gc.1, 0, none⟩) (x.2.length + 8) gc.2, .slice (some ⟨g', 0, none⟩) (x.2.length + 8) c'] U fun e w' => e = .returned (.bool true) ∧ Below U.heap.size U w') := fun U g' c' hU hs => by
            have h1 := sameOps_any (some ⟨gc.1, 0, none⟩) (some ⟨g', 0, none⟩) gc.2 c' (twinL x.2) U ((seeO_own (M := []) (by rw [List.append_nil]; exact hmq.rows q x gc hx hg)).below hU) hs (by omega)
            rw [hTL] at h1
            exact h1
          have hs0 := HC2.out _ (Below.refl _ _)
          clear hx hg hpa hnine hops hxn hxl hmq hor hoc hcell1 hobl hp9 hp11 hTL k9 m11 hbl
          go_wp2_with fail
          go_region_held_law (fun U => U.cell? ⟨hb, 11, none⟩ = some (.slice (some ⟨ob, 0, none⟩) n oc) ∧ U.cell? ⟨w.heap.size, 9, none⟩ = some (.slice (some ⟨b, off, none⟩) n pc) ∧ U.cell? ⟨ob, q, none⟩ = some (.slice (some ⟨gc.1, 0, none⟩) (x.2.length + 8) gc.2) ∧ U.cell? ⟨b, off + q * 9 + 1, none⟩ = some (.slice x.1.ops x.2.length x.1.cops)) (first | exact HC2.out _ hbd | exact HC2.out _ hb2x | exact HC2.out _ hb3x | go_keep) (first | (go_at_call 30; refine hso.mono ?_; rintro e w4 ⟨rfl, hb4⟩; have hb3x : Below wr.heap.size wr w4 := hb2x.trans (hb4.mono hb2x.size); clear hso) | (go_at_call 23; refine ht.mono ?_; rintro e w3 ⟨g', c', rfl, hrow, hb2⟩; have hb2x : Below wr.heap.size wr w3 := hbd.trans hb2; have hso := HSO.out w3 g' c' hb2x (seeO_own (M := []) (by rw [List.append_nil]; exact hrow)); clear ht))
          all_goals
            go_wp2
            go_roundg (gk - 1)
            case measure => omega
            case rel => exact ⟨q + 1, by omega, by go_num, HI.out.trans (hb3x.mono HI.out.size)⟩
        · obtain rfl : q = n := by omega
          have hltI2 : ¬ (q : Int) < (q : Int) := by omega
          go_wp2
          go_ret
          exact ⟨rfl, HB.out.trans (HI.out.mono HB.out.size)⟩
end Go.Proofs.YtlmopjbfagijeaaGreatDoor.Sc
