import Derived.Test.YtnfddiabhpandaaGreatDoorSaM
import Derived.Test.YtnfddiabhpandaaGreatDoorLaM
import Derived.Deep.DeepCutAuto
namespace Go.Proofs.YtnfddiabhpandaaGreatDoor.Tr
open Go.RowKit Go.Lib Go.Deep

theorem cells5 {W : World} {g : Nat} {t : TypeId} {x0 x1 x2 x3 x4 : Value} (h : W.heap[g]? = some (.cells #[x0, x1, x2, x3, x4] t (0, 0))) : W.cell? ⟨g, 0, none⟩ = some x0 ∧ W.cell? ⟨g, 1, none⟩ = some x1 ∧ W.cell? ⟨g, 2, none⟩ = some x2 ∧ W.cell? ⟨g, 3, none⟩ = some x3 ∧ W.cell? ⟨g, 4, none⟩ = some x4 :=
  ⟨(cell_of_heap h).trans rfl, (cell_of_heap h).trans rfl, (cell_of_heap h).trans rfl, (cell_of_heap h).trans rfl, (cell_of_heap h).trans rfl⟩
set_option maxRecDepth 20000 in
set_option maxHeartbeats 8000000 in
theorem sound_any (w : World) (B : Nat) (T : Ts) (dp : Nat → Nat) (hv : Inv T dp) (a : Option Addr) (n c : Nat) (hn : n = (told T).length) (hA : w.ownsRow B 50 5 (.slice a n c) n (ndsc (told T))) (hb : n ≤ 1000000) :
    Calls Tryz.prog 23 #[.agg #[.int .i64 (T.fr : Int), .int .i64 ((T.dr : Int) - 1), .slice a n c], .int .i64 (T.most : Int)] w fun e w' => e = .returned (.bool true) ∧ Below w.heap.size w w' := by
  obtain ⟨fr, hfr⟩ : ∃ fr, T.fr = fr := ⟨_, rfl⟩
  obtain ⟨dr, hdr⟩ : ∃ dr, T.dr = dr := ⟨_, rfl⟩
  obtain ⟨mo, hmo⟩ : ∃ mo, T.most = mo := ⟨_, rfl⟩
  rw [hfr, hdr, hmo]
  obtain ⟨W, hW, hbW, k0⟩ := one_new w #[.int .i64 (fr : Int), .int .i64 ((dr : Int) - 1), .slice a n c] 28
  have HV : Hid (Inv T dp) := hv
  have HRM : Hid (∀ x, x ∈ told T → (x.kind = 1 ∧ 1 ≤ x.number ∧ x.number + 1 ≤ dr) ∨ (x.kind = 2 ∧ x.number < fr)) := fun x hx => by rw [← hdr, ← hfr]; exact told_room hv hx
  have HSZ : Hid (∀ x, x ∈ told T → x.size ≤ mo ∧ (x.kind = 1 → x.size = 0)) := fun x hx => by rw [← hmo]; exact told_size hv hx
  have HA : Hid (∀ V, Below W.heap.size W V → V.ownsRow B 50 5 (.slice a n c) n (ndsc (told T))) := fun V hb' => owns_keep hA (fun k hk => (hb'.block _ (by have := hbW.size; have := (hA.lt k hk).2; omega)).trans (hbW.block _ (hA.lt k hk).2))
  have HC : Hid (∀ V : World, Below W.heap.size W V → (V.cell? ⟨w.heap.size, 0, none⟩ = some (.int .i64 (fr : Int)) ∧ V.cell? ⟨w.heap.size, 1, none⟩ = some (.int .i64 ((dr : Int) - 1)) ∧ V.cell? ⟨w.heap.size, 2, none⟩ = some (.slice a n c)) ∧ ∀ i, i < n → ∃ (x : Nd) (g : Nat), (told T)[i]? = some x ∧ a = some ⟨g, 0, none⟩ ∧ V.cell? ⟨g, i * 5, none⟩ = some (.int .i64 (x.kind : Int)) ∧ V.cell? ⟨g, i * 5 + 1, none⟩ = some (.int .i64 (x.number : Int)) ∧ V.cell? ⟨g, i * 5 + 2, none⟩ = some (.int .i64 (x.parent : Int)) ∧ V.cell? ⟨g, i * 5 + 3, none⟩ = some (.string x.name) ∧ V.cell? ⟨g, i * 5 + 4, none⟩ = some (.int .i64 (x.size : Int))) := fun V hb' => by
    have k1 := (hb'.block _ (heap_lt k0)).trans k0
    refine ⟨⟨(cell_of_heap k1).trans rfl, (cell_of_heap k1).trans rfl, (cell_of_heap k1).trans rfl⟩, fun i hi => ?_⟩
    have hA' := HA.out V hb'
    have e1 : ∃ g, a = some ⟨g, 0, none⟩ := by
      rcases hA.2 with ⟨h1, h2⟩ | ⟨g, cap, cur, h1, _⟩
      · omega
      · injection h1 with h1 _ _; exact ⟨g, h1⟩
    obtain ⟨g, rfl⟩ := e1
    have hx := List.getElem?_eq_getElem (l := told T) (i := i) (by omega)
    exact ⟨_, g, hx, rfl, nd_cells hA' hn hx⟩
  have HN : Hid (n = (told T).length) := hn
  have HB : Hid (Below w.heap.size w W) := hbW
  have HW : Hid _ := hW
  obtain ⟨gs, hgs⟩ : ∃ gs, w.heap.size = gs := ⟨_, rfl⟩
  clear hA hn hbW k0 hW hv hfr hdr hmo
  go_enter Tryz.func23, Tryz.ntmps23
  go_upto_region 1 with fail
  rw [HW.out]
  clear HW
  rw [hgs] at HC
  go_wp2_with fail
  go_loopg [5] n (fun gk iv wr => ∃ (i : Nat), i + gk = n ∧ iv = .int .i64 (i : Int) ∧ Hid (Below W.heap.size W wr))
  case atStart => exact ⟨0, by omega, rfl, Below.refl _ _⟩
  case round =>
    obtain ⟨i, hik, rfl, HBr⟩ := hrel
    obtain ⟨⟨u0, u1, u2⟩, hnodes⟩ := HC.out wr HBr.out
    by_cases hlt : i < n
    · have hltI : (i : Int) < (n : Int) := by omega
      have w1' : IntKind.i64.wrap ((i : Int) + 1) = ((i + 1 : Nat) : Int) := by rw [IntKind.wrap_i64]; omega
      obtain ⟨x, g, hx, rfl, y0, y1, y2, y3, y4⟩ := hnodes i hlt
      have hxm := List.mem_of_getElem? hx
      have HX : Hid ((told T)[i]? = some x) := hx
      have HUP : Hid _ := told_up HV.out hxm
      have hrm := HRM.out x hxm
      have hsz := HSZ.out x hxm
      have hnm : Pa.nameE x.name = 0 := by unfold Pa.nameE; rw [if_pos (told_name HV.out hxm)]
      obtain ⟨xk, xn, xp, xm, xs⟩ := x
      simp only at y0 y1 y2 y3 y4 hrm hsz hnm HUP
      obtain ⟨W2, hW2, hb2, k2⟩ := one_new wr #[.int .i64 (xk : Int), .int .i64 (xn : Int), .int .i64 (xp : Int), .string xm, .int .i64 (xs : Int)] 50
      have HW2 : Hid _ := hW2
      have HB2 : Hid (Below W.heap.size W W2) := below_on hb2 HBr.out
      have K2 : Hid _ := k2
      clear hnodes hx hxm hW2 hb2 k2
      go_upto_region 5 with fail
      rw [HW2.out]
      clear HW2
      obtain ⟨gx, hgx⟩ : ∃ gx, wr.heap.size = gx := ⟨_, rfl⟩
      rw [hgx] at K2 ⊢
      clear u0 u1 u2 y0 y1 y2 y3 y4 hgx
      obtain ⟨⟨u0, u1, u2⟩, hnodes⟩ := HC.out W2 HB2.out
      obtain ⟨x0, x1, x2, x3, x4⟩ := cells5 K2.out
      have hna := Pa.rname_any xm W2
      rw [hnm] at hna
      have s0 : ¬ (xs : Int) < 0 := by omega
      have s1 : ¬ (mo : Int) < (xs : Int) := by have := hsz.1; omega
      have s1N : ¬ mo < xs := by have := hsz.1; omega
      have HB22 : Hid (Below W2.heap.size W2 W2) := Below.refl _ _
      have HCX : Hid (∀ V, Below W2.heap.size W2 V → (V.cell? ⟨gx, 0, none⟩ = some (.int .i64 (xk : Int)) ∧ V.cell? ⟨gx, 1, none⟩ = some (.int .i64 (xn : Int)) ∧ V.cell? ⟨gx, 2, none⟩ = some (.int .i64 (xp : Int)) ∧ V.cell? ⟨gx, 3, none⟩ = some (.string xm) ∧ V.cell? ⟨gx, 4, none⟩ = some (.int .i64 (xs : Int)))) := fun V hV => cells5 ((hV.block _ (heap_lt K2.out)).trans K2.out)
      go_cut [46] (fun v wx => v = .bool false ∧ Hid (Below W2.heap.size W2 wx))
      case first =>
        as_aux_lemma =>
        clear hnodes
        rcases hrm with ⟨hr1, hr2, hr3⟩ | ⟨hr1, hr2⟩
        · have k1 : ((xk : Int) == 1) = true := by simp; omega
          have k3 : ((xs : Int) != 0) = false := by have := hsz.2 (by omega); simp; omega
          clear hsz hr1 hr2 hr3
          go_wp2_with fail
          refine hna.mono ?_
          rintro e w3 ⟨rfl, rfl⟩
          go_wp2
          go_meet
          exact ⟨by simp, HB22.out⟩
        · have k1 : ((xk : Int) == 1) = false := by simp; omega
          clear hsz hr1 hr2
          go_wp2_with fail
          refine hna.mono ?_
          rintro e w3 ⟨rfl, rfl⟩
          go_wp2
          go_meet
          exact ⟨by simp, HB22.out⟩
      case rest =>
      obtain ⟨rfl, HBc⟩ := hcut
      clear x0 x1 x2 x3 x4 u0 u1 u2 hnodes hna s0 s1 s1N
      obtain ⟨x0, x1, x2, x3, x4⟩ := HCX.out wc HBc.out
      obtain ⟨⟨u0, u1, u2⟩, -⟩ := HC.out wc (below_on HBc.out HB2.out)
      go_upto_region 7 with fail
      have HBcc : Hid (Below W2.heap.size W2 wc) := HBc
      go_cut [80] (fun v wx => v = .bool false ∧ Hid (Below W2.heap.size W2 wx))
      case first =>
        as_aux_lemma =>
        rcases hrm with ⟨hr1, hr2, hr3⟩ | ⟨hr1, hr2⟩
        · have k1 : ((xk : Int) == 1) = true := by simp; omega
          have k2 : ((xk : Int) == 2) = false := by simp; omega
          have k4 : (1 : Int) ≤ (xn : Int) := by omega
          have k5 : (xn : Int) ≤ (dr : Int) - 1 := by omega
          clear hsz hr1 hr2 hr3
          go_wp2
          go_meet
          exact ⟨by first | rfl | (simp; omega), HBcc.out⟩
        · have k1 : ((xk : Int) == 1) = false := by simp; omega
          have k2 : ((xk : Int) == 2) = true := by simp; omega
          have k4 : (0 : Int) ≤ (xn : Int) := by omega
          have k5 : (xn : Int) < (fr : Int) := by omega
          clear hsz hr1 hr2
          go_wp2
          go_meet
          exact ⟨by first | rfl | (simp; omega), HBcc.out⟩
      case rest =>
      obtain ⟨rfl, HBd⟩ := hcut
      clear x0 x1 x2 x3 x4 u0 u1 u2 HBc HBcc hrm hsz
      have HB9 : Hid (Below W.heap.size W wc) := below_on HBd.out HB2.out
      obtain ⟨x0, x1, x2, x3, x4⟩ := HCX.out wc HBd.out
      obtain ⟨⟨u0, u1, u2⟩, hnodes⟩ := HC.out wc HB9.out
      have HBDN : Hid (∀ k, Below W2.heap.size W2 (wc.drewN k)) := fun k => bdr HBd.out k
      go_upto_region 9 with fail
      go_cut [119] (fun v wx => v = .bool false ∧ Hid (Below W2.heap.size W2 wx))
      case first =>
        as_aux_lemma =>
        by_cases hi0 : i = 0
        · have hgi : ¬ (0 : Int) < (i : Int) := by omega
          have hgiN : ¬ 0 < i := by omega
          have hgiD : decide (0 < i) = false := by simp; omega
          clear hnodes hi0
          go_quiet (fail)
          go_wp2_with fail
          go_meet
          exact ⟨by first | rfl | (simp; omega), HBDN.out _⟩
        · have hgi : (0 : Int) < (i : Int) := by omega
          have hgiN : 0 < i := by omega
          have hgiD : decide (0 < i) = true := by simp; omega
          obtain ⟨i1, hi1⟩ : ∃ i1, i = i1 + 1 := ⟨i - 1, by omega⟩
          have wsub : IntKind.i64.wrap ((i : Int) - 1) = (i1 : Int) := by rw [IntKind.wrap_i64]; omega
          have hi1n : (i1 : Int) < (n : Int) := by omega
          obtain ⟨v, g', hvx, hg', v0, v1, v2, v3, v4⟩ := hnodes i1 (by omega)
          injection hg' with hg'
          injection hg' with hg' _ _
          subst hg'
          have hlt' := told_before hvx (by rw [← hi1]; exact HX.out)
          obtain ⟨vk, vn, vp, vm, vs⟩ := v
          simp only at v0 v1 v2 v3 v4
          unfold ndLt at hlt'
          simp only at hlt'
          clear hnodes hvx hi1 hi0
          by_cases hvk : vk < xk
          · have c1 : (vk : Int) < (xk : Int) := by omega
            have c1D : decide (vk < xk) = true := by simp; omega
            clear hlt' hvk
            go_quiet (fail)
            go_wp2_with fail
            go_meet
            exact ⟨by first | rfl | (simp; omega), HBDN.out _⟩
          · have c1 : ¬ (vk : Int) < (xk : Int) := by omega
            have c1D : decide (vk < xk) = false := by simp; omega
            have c2D : (vk == xk) = true := by simp; omega
            have c3D : decide (vn < xn) = true := by simp; omega
            have c2 : ((vk : Int) == (xk : Int)) = true := by simp; omega
            have c3 : (vn : Int) < (xn : Int) := by omega
            clear hlt' hvk
            go_quiet (fail)
            go_wp2_with fail
            go_meet
            exact ⟨by first | rfl | (simp; omega), HBDN.out _⟩
      case rest =>
      obtain ⟨rfl, HBe⟩ := hcut
      clear x0 x1 x2 x3 x4 u0 u1 u2 HBd HB9 HBDN hnodes
      go_wp2_with fail
      go_loopg [7] i (fun gj kv wr => ∃ (k : Nat), k + gj = i ∧ kv = .int .i64 (k : Int) ∧ Hid (Below W2.heap.size W2 wr))
      case atStart => exact ⟨0, by omega, rfl, HBe.out⟩
      case round =>
        obtain ⟨k, hki, rfl, HBq⟩ := hrel
        clear HBe
        have HBWq : Hid (Below W.heap.size W wr) := below_on HBq.out HB2.out
        obtain ⟨⟨u0', u1', u2'⟩, hnq⟩ := HC.out wr HBWq.out
        obtain ⟨q0, q1, q2, q3, q4⟩ := HCX.out wr HBq.out
        by_cases hkl : k < i
        · as_aux_lemma =>
          have hklI : (k : Int) < (i : Int) := by omega
          have w2' : IntKind.i64.wrap ((k : Int) + 1) = ((k + 1 : Nat) : Int) := by rw [IntKind.wrap_i64]; omega
          have hknI : (k : Int) < (n : Int) := by omega
          obtain ⟨z, g', hz, hg', z0, z1, z2, z3, z4⟩ := hnq k (by omega)
          injection hg' with hg'
          injection hg' with hg' _ _
          subst hg'
          have hne := told_other HV.out HX.out hz hkl
          obtain ⟨zk, zn, zp, zm, zs⟩ := z
          simp only at z0 z1 z2 z3 z4 hne
          clear hnq hz
          by_cases hp : zp = xp
          · have hm : ¬ zm = xm := fun h => hne ⟨hp, h⟩
            have hpI : ((zp : Int) == (xp : Int)) = true := by simp [hp]
            have hmI := Pa.beq_ne hm
            clear hne hp
            go_wp2_with fail
            go_quiet (fail)
            go_wp2
            go_roundg (i - (k + 1))
            case measure => omega
            case rel => exact ⟨k + 1, by omega, rfl, bdr HBq.out _⟩
          · have hpI : ((zp : Int) == (xp : Int)) = false := by simp; omega
            clear hne hp
            go_wp2_with fail
            go_quiet (fail)
            go_wp2
            go_roundg (i - (k + 1))
            case measure => omega
            case rel => exact ⟨k + 1, by omega, rfl, bdr HBq.out _⟩
        · obtain rfl : i = k := by omega
          have hklI : ¬ (i : Int) < (i : Int) := by omega
          have hpa := parentOf_any wr B (fr : Int) ((dr : Int) - 1) (some ⟨g, 0, none⟩) n c (told T) HN.out (HA.out _ HBWq.out) hb xk xn xp xs xm
          clear hnq
          go_wp2_with fail
          refine hpa.mono ?_
          rintro e w6 ⟨r, rfl, HP, hb6⟩
          have HB6 : Hid (Below W.heap.size W w6) := below_on hb6 HBWq.out
          clear hb6 hpa q0 q1 q2 q3 q4 u0' u1' u2'
          go_wp2_with fail
          go_loopg [8, 9] 16 (fun gj av dv wr => ∃ (p dd : Nat) (r : Int), dd + gj = 17 ∧ av = .int .i64 r ∧ dv = .int .i64 (dd : Int) ∧ 1 ≤ dd ∧ Hid (Par (told T) p r ∧ tk T p ∧ dp p + dd ≤ 16) ∧ Hid (Below W.heap.size W wr))
          case atStart => exact ⟨xp, 1, r, by omega, rfl, rfl, by omega, ⟨HP.out, HUP.out.2.1, HUP.out.1⟩, HB6.out⟩
          case round =>
            obtain ⟨p, dd, r', hdd, rfl, rfl, hd1, HQ, HBd⟩ := hrel
            rcases Par.told HV.out HQ.out.2.1 HQ.out.1 with ⟨rfl, hp0⟩ | ⟨j, y, rfl, hy, hdp, hty⟩
            · clear HQ
              go_wp2
              go_roundg (n - (i + 1))
              case measure => omega
              case rel => exact ⟨i + 1, by omega, rfl, HBd.out⟩
            · have hd15 : dd ≤ 15 := by have := HQ.out.2.2; omega
              have hj1 : ((j : Int) != -1) = true := by simp
              have hj2 : ((j : Int) == -2) = false := by simp
              have hdI : ¬ (16 : Int) ≤ (dd : Int) := by omega
              have w3' : IntKind.i64.wrap ((dd : Int) + 1) = ((dd + 1 : Nat) : Int) := by rw [IntKind.wrap_i64]; omega
              have hjn : j < n := by rw [HN.out]; exact (List.getElem?_eq_some_iff.1 hy).1
              have hjI : (j : Int) < (n : Int) := by omega
              have HS0 : Hid (∀ V, Below W.heap.size W V → (V.cell? ⟨gs, 0, none⟩ = some (.int .i64 (fr : Int)) ∧ V.cell? ⟨gs, 1, none⟩ = some (.int .i64 ((dr : Int) - 1)) ∧ V.cell? ⟨gs, 2, none⟩ = some (.slice (some ⟨g, 0, none⟩) n c)) ∧ V.cell? ⟨g, j * 5, none⟩ = some (.int .i64 (y.kind : Int)) ∧ V.cell? ⟨g, j * 5 + 1, none⟩ = some (.int .i64 (y.number : Int)) ∧ V.cell? ⟨g, j * 5 + 2, none⟩ = some (.int .i64 (y.parent : Int)) ∧ V.cell? ⟨g, j * 5 + 3, none⟩ = some (.string y.name) ∧ V.cell? ⟨g, j * 5 + 4, none⟩ = some (.int .i64 (y.size : Int))) := fun V hb' => by
                obtain ⟨h1, h2⟩ := HC.out V hb'
                obtain ⟨y', g2, hy', hg2, hc⟩ := h2 j hjn
                rw [hy] at hy'
                injection hy' with hy'
                subst hy'
                injection hg2 with hg2
                injection hg2 with hg2 _ _
                subst hg2
                exact ⟨h1, hc⟩
              have HPC : Hid (∀ V, Below W.heap.size W V → Calls Tryz.prog 41 #[.agg #[.int .i64 (fr : Int), .int .i64 ((dr : Int) - 1), .slice (some ⟨g, 0, none⟩) n c], .agg #[.int .i64 (y.kind : Int), .int .i64 (y.number : Int), .int .i64 (y.parent : Int), .string y.name, .int .i64 (y.size : Int)]] V fun e w' => ∃ r, e = .returned (.int .i64 r) ∧ Hid (Par (told T) y.parent r) ∧ Below V.heap.size V w') := fun V hV => parentOf_any V B (fr : Int) ((dr : Int) - 1) (some ⟨g, 0, none⟩) n c (told T) HN.out (HA.out _ hV) hb y.kind y.number y.parent y.size y.name
              have HQ' : Hid (tk T y.parent ∧ dp y.parent + (dd + 1) ≤ 16) := ⟨hty, by have := HQ.out.2.2; omega⟩
              clear HQ hdp hty hy
              obtain ⟨yk, yn, yp, ym, ys⟩ := y
              simp only at HS0 HPC HQ'
              obtain ⟨⟨u0, u1, u2⟩, y0, y1, y2, y3, y4⟩ := HS0.out _ HBd.out
              go_wp2_with fail
              refine wp_region_held_drew (S := fun V => (V.cell? ⟨gs, 0, none⟩ = some (.int .i64 (fr : Int)) ∧ V.cell? ⟨gs, 1, none⟩ = some (.int .i64 ((dr : Int) - 1)) ∧ V.cell? ⟨gs, 2, none⟩ = some (.slice (some ⟨g, 0, none⟩) n c)) ∧ V.cell? ⟨g, j * 5, none⟩ = some (.int .i64 (yk : Int)) ∧ V.cell? ⟨g, j * 5 + 1, none⟩ = some (.int .i64 (yn : Int)) ∧ V.cell? ⟨g, j * 5 + 2, none⟩ = some (.int .i64 (yp : Int)) ∧ V.cell? ⟨g, j * 5 + 3, none⟩ = some (.string ym) ∧ V.cell? ⟨g, j * 5 + 4, none⟩ = some (.int .i64 (ys : Int))) (by kernel_rfl) (HS0.out _ HBd.out.drew) ?_
              intro hS
              refine wpAnyH_take (i := 0) (oi := { dst := some 158, op := .load 28 (.tmp 2), type := _, pos := _, after := _, guard := none }) (v := .agg #[.int .i64 (fr : Int), .int .i64 ((dr : Int) - 1), .slice (some ⟨g, 0, none⟩) n c]) rfl (by kernel_rfl) (by kernel_rfl) (by kernel_rfl) (fun _ _ _ h => h) (Or.inl ⟨by rfl, by intro x hx; obtain ⟨⟨h0, h1, h2⟩, _⟩ := hx; go_simp⟩) hS ?_
              (try simp only [Act.put, List.setIfInBounds_toArray, List.set_cons_zero, List.set_cons_succ])
              refine wpAnyH_take (i := 1) (oi := { dst := some 159, op := .fieldAddr 28 (.tmp 2) 2, type := _, pos := _, after := _, guard := none }) (v := .pointer (some ⟨gs, 2, none⟩)) rfl (by kernel_rfl) (by kernel_rfl) (by kernel_rfl) (fun _ _ _ h => h) (Or.inl ⟨by rfl, by intro x _; go_simp⟩) hS ?_
              (try simp only [Act.put, List.setIfInBounds_toArray, List.set_cons_zero, List.set_cons_succ])
              refine wpAnyH_take (i := 2) (oi := { dst := some 160, op := .load 26 (.tmp 159), type := _, pos := _, after := _, guard := none }) (v := .slice (some ⟨g, 0, none⟩) n c) rfl (by kernel_rfl) (by kernel_rfl) (by kernel_rfl) (fun _ _ _ h => h) (Or.inl ⟨by rfl, by intro x hx; have h1 := hx.1.2.2; go_simp⟩) hS ?_
              (try simp only [Act.put, List.setIfInBounds_toArray, List.set_cons_zero, List.set_cons_succ])
              refine wpAnyH_take (i := 3) (oi := { dst := some 161, op := .move (.tmp 8), type := _, pos := _, after := _, guard := none }) (v := .int .i64 (j : Int)) rfl (by kernel_rfl) (by kernel_rfl) (by kernel_rfl) (fun _ _ _ h => h) (Or.inl ⟨by rfl, by intro x _; go_simp⟩) hS ?_
              (try simp only [Act.put, List.setIfInBounds_toArray, List.set_cons_zero, List.set_cons_succ])
              refine wpAnyH_take (i := 4) (oi := { dst := some 162, op := .indexAddr 26 (.tmp 160) (.tmp 161), type := _, pos := _, after := _, guard := none }) (v := .pointer (some ⟨g, j * 5, none⟩)) rfl (by kernel_rfl) (by kernel_rfl) (by kernel_rfl) (fun _ _ _ h => h) (Or.inl ⟨by rfl, by intro x _; go_simp⟩) hS ?_
              (try simp only [Act.put, List.setIfInBounds_toArray, List.set_cons_zero, List.set_cons_succ])
              refine wpAnyH_take (i := 5) (oi := { dst := some 163, op := .load 50 (.tmp 162), type := _, pos := _, after := _, guard := none }) (v := .agg #[.int .i64 (yk : Int), .int .i64 (yn : Int), .int .i64 (yp : Int), .string ym, .int .i64 (ys : Int)]) rfl (by kernel_rfl) (by kernel_rfl) (by kernel_rfl) (fun _ _ _ h => h) (Or.inl ⟨by rfl, by intro x hx; obtain ⟨_, h0, h1, h2, h3, h4⟩ := hx; go_simp⟩) hS ?_
              (try simp only [Act.put, List.setIfInBounds_toArray, List.set_cons_zero, List.set_cons_succ])
              refine wpAnyH_ready (rs := [6]) (by kernel_rfl) (by simp) ?_
              refine AllReadyH.cons (o := { dst := some 164, op := .call { callee := .value (.func 41), args := #[.tmp 158, .tmp 163], argTypes := #[28, 50] }, type := _, pos := _, after := _, guard := none }) rfl (fun K hK => ?_) AllReadyH.nil
              go_simp
              refine (HPC.out _ HBd.out.drew).mono ?_
              rintro e w7 ⟨r, rfl, HP7, hb7⟩
              have HB7 : Hid (Below W.heap.size W w7) := below_on hb7 HBd.out.drew
              replace hS := HS0.out _ HB7.out
              clear hb7
              refine hK.out _ _ hS (fun _ => ?_)
              clear hK K
              (try simp only [Act.put, List.setIfInBounds_toArray, List.set_cons_zero, List.set_cons_succ])
              refine wpAnyH_take (i := 7) (oi := { dst := some 8, op := .assign (.tmp 164), type := _, pos := _, after := _, guard := none }) (v := .int .i64 r) rfl (by kernel_rfl) (by kernel_rfl) (by kernel_rfl) (fun _ _ _ h => h) (Or.inl ⟨by rfl, by intro x _; go_simp⟩) hS ?_
              (try simp only [Act.put, List.setIfInBounds_toArray, List.set_cons_zero, List.set_cons_succ])
              refine wpAnyH_done (by kernel_rfl) ?_ _
              clear hS u0 u1 u2 y0 y1 y2 y3 y4
              go_wp2
              go_roundg (16 - dd)
              case measure => omega
              case rel => exact ⟨yp, dd + 1, r, by omega, rfl, rfl, by omega, ⟨HP7.out, HQ'.out.1, HQ'.out.2⟩, HB7.out⟩
    · obtain rfl : i = n := by omega
      go_wp2
      go_ret
      exact ⟨rfl, below_on HBr.out HB.out⟩

end Go.Proofs.YtnfddiabhpandaaGreatDoor.Tr
