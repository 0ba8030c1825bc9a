import Derived.Test.YthmjjpaengackaaPoW
namespace Go.Proofs.Ythmjjpaengackaa.Po
open Go.RowKit Go.Lib Go.Deep

set_option maxRecDepth 20000 in
set_option maxHeartbeats 4000000 in
theorem queues_walk (w : World) (f s : Int) (sv : Value) (len : Nat) (ops : List Ops) (hO : SeeO w sv len ops) (a2 : Option Addr) (len2 cap2 : Nat) (zs : List Int) (hz : Lsi w a2 len2 zs) (hlen : len ≤ 1180000000000) :
    Calls Try.prog 3 #[.int .i64 f, .int .i64 s, sv, .slice a2 len2 cap2] w fun e w' => e = .returned (.bool true) ∧ Below w.heap.size w w' := by
  have hfr := fresh_any w f s
  have hle2 : len2 ≤ 9223372036854775807 := hz.top
  obtain ⟨a1, cap1, rfl, -⟩ := hO.form
  have HO : Hid _ := hO
  have HZ : Hid _ := hz
  clear hO hz
  go_enter Try.func3, Try.ntmps3
  go_wp2_with (go_at_call 7; refine hfr.mono ?_; rintro e w1 ⟨pb, q, F, rfl, h1, h2, h3, h4⟩)
  have L1 : Lv w w1 pb q F 0 (freshP f s) := ⟨h1, h2, h3, h4⟩
  clear h1 h2 h3 h4 hfr
  -- the script
  go_loopg [10] len (fun gk i wr => ∃ (k : Nat) (S : Ps) (F' : List Nat), gk = len - k ∧ k ≤ len ∧ i = .int .i64 (k : Int) ∧ Lv w wr pb q F' k S)
  case atStart => exact ⟨0, _, F, by omega, by omega, rfl, L1⟩
  case round =>
    clear L1
    obtain ⟨k, S, F', hgk, hkn, rfl, hL⟩ := hrel
    by_cases hk : k < len
    · have hkI : (k : Int) < (len : Int) := by omega
      obtain ⟨o, hko⟩ : ∃ o, ops[k]? = some o := ⟨_, List.getElem?_eq_getElem (by have := HO.out.len; omega)⟩
      have hOw := HO.out.below hL.be
      obtain ⟨g, fo, rfl, r0, r1, r2, r3, r4, r5, r6, r7, r8⟩ := hOw.at_ hko
      have hok := HO.out.ok k o hko
      have hdo := does_any wr pb q F' k S o hL.ok hok
      have HN : Hid (∀ w', Turn F' wr w' q (k + 1) (doS S o) → ∃ F2, Lv w w' pb q F2 (k + 1) (doS S o)) := fun w' hT => by
        obtain ⟨F2, hL2, _⟩ := hL.next hT (good_doS hL.ok.good o) (by omega)
        exact ⟨F2, hL2⟩
      obtain ⟨⟨b1, m1, e1, hv1⟩, ⟨b2, m2, e2, hv2⟩, -, -⟩ := hok
      unfold opV at hdo
      generalize doS S o = S' at *
      obtain ⟨kd, at_, a, b, bk, nm, tg, ov, qv⟩ := o
      dsimp only at *
      subst hv1 hv2
      have w1' : IntKind.i64.wrap ((k : Int) + 1) = ((k + 1 : Nat) : Int) := by rw [IntKind.wrap_i64]; omega
      clear hL hOw hko
      go_wp2_with (go_at_call 8; refine hdo.mono ?_; rintro e w3 ⟨rfl, hT⟩; have HX : Hid _ := HN.out w3 hT; clear hT HN)
      go_roundg (len - (k + 1))
      case measure => omega
      case rel =>
        obtain ⟨F2, hL2⟩ := HX.out
        exact ⟨k + 1, S', F2, rfl, by omega, rfl, hL2⟩
    · obtain rfl : k = len := by omega
      have hkI : ¬ (k : Int) < (k : Int) := by omega
      have hst := state_any wr pb q F' k S hL.ok
      have hfl := hL.ok.good.fl
      have hc1 : ¬ (S.R.length : Int) < 1 := by omega
      have HL : Hid _ := hL
      have HW : Hid (∀ w2 qv, w2.ownsRow wr.heap.size 3 1 qv S.Q.length (nsC S.Q) → Below wr.heap.size wr w2 → ∃ aq cq, qv = .slice aq S.Q.length cq ∧ Lv w w2 pb q F' k S ∧ Wn w w2 F' qv S.Q ∧ Calls Try.prog 10 #[.pointer (some ⟨pb, 0, none⟩)] w2 fun e w' => e = .returned (.int .i64 (S.R.length : Int)) ∧ w' = w2) := fun w2 qv ho hb => by
        obtain ⟨aq, cq, rfl⟩ := owns_form ho
        have hL2 := hL.below hb
        refine ⟨aq, cq, rfl, hL2, ⟨owns_base ho hL.be.size, fun g hg hm => ?_⟩, count_any w2 pb q F' k S hL2.ok.top hL2.ok.lay⟩
        have h1 := (ho.lt g hg).1
        have h2 := hL.ok.lay.lt g hm
        omega
      clear hL
      have hfd := fldPs
      go_wp2_with (first
        | (go_at_call 9; refine hst.mono ?_; rintro e w2 ⟨ov, qv, rfl, -, ho, hb⟩; obtain ⟨aq, cq, rfl, hL2, hW2, hct⟩ := HW.out w2 qv ho hb; have HL2 : Hid _ := hL2; have HW2 : Hid _ := hW2; clear ho hb hL2 hW2 HW hst)
        | (go_at_call 10; refine hct.mono ?_; rintro e w5 ⟨rfl, e5⟩; obtain rfl := e5.symm))
      clear hct hfd hkI hc1 hk hkn hgk HL
      go_loopg [11, 12] len2 (fun gk v i wr => ∃ (j : Nat) (S : Ps) (F' : List Nat), gk = len2 - j ∧ j ≤ len2 ∧ i = .int .i64 (j : Int) ∧ Lv w wr pb q F' k S ∧ Wn w wr F' v S.Q)
      case atStart => exact ⟨0, S, F', by omega, by omega, rfl, HL2.out, HW2.out⟩
      case round =>
        clear HL2 HW2 hfl
        obtain ⟨j, S, F', hgk, hkn, rfl, hL, hW⟩ := hrel
        obtain ⟨av, cv, rfl⟩ := owns_form hW.own
        by_cases hk : j < len2
        · have hkI : (j : Int) < (len2 : Int) := by omega
          obtain ⟨z, hzj⟩ : ∃ z, zs[j]? = some z := ⟨_, List.getElem?_eq_getElem (by have := HZ.out.sz; omega)⟩
          obtain ⟨bz, oz, rfl, hzl, hzc⟩ := HZ.out.cell j z hzj
          have hzc' := (hL.be.cell (p := ⟨bz, oz + j, none⟩) hzl).trans hzc
          have HCT : Hid (∀ j, Calls Try.prog 10 #[.pointer (some ⟨pb, 0, none⟩)] (wr.drewN j) fun e w' => e = .returned (.int .i64 (S.R.length : Int)) ∧ w' = wr.drewN j) := fun j => count_any _ pb q F' k S (hL.ok.top.below (bdr (Below.refl _ _) j)) (hL.ok.lay.below (bdr (Below.refl _ _) j))
          have hfl := hL.ok.good.fl
          have hm0 : ¬ (S.R.length : Int) = 0 := by omega
          have B0 : Hid (∀ j, Below wr.heap.size wr (wr.drewN j)) := fun j => bdr (Below.refl _ _) j
          clear hzc hzl
          go_wp2_with fail
          go_quiet ((go_at_call 10; exact Calls.quiet_of_same (HCT.out _)))
          refine with_world (Q := fun V => Below wr.heap.size wr V) _ (B0.out _) ?_
          intro V hV
          have hLV := hL.below hV
          have hWV := hW.below hV
          generalize z.tmod (S.R.length : Int) = n at *
          have hat := at_any V pb q F' k S n hLV.ok
          obtain ⟨o, ho⟩ : ∃ o, (if rowN S n then rowAt S n else zOb) = o := ⟨_, rfl⟩
          rw [ho] at hat
          unfold obV at hat
          have nu := num_any
          have w1' : IntKind.i64.wrap ((j : Int) + 1) = ((j + 1 : Nat) : Int) := by rw [IntKind.wrap_i64]; omega
          have H6 : Hid (∀ w6, Below V.heap.size V w6 → ∃ U, w6.alloc (.cells #[.string o.nm, .string o.tg, .int .i64 o.bk, .int .i64 o.ow] 35) = U ∧ Calls Try.prog 12 #[.pointer (some ⟨pb, 0, none⟩), .int .i64 n] U fun e w8 => e = .returned (.int .i64 (pushE S n)) ∧ w8.cell? ⟨w6.heap.size, 3, none⟩ = some (.int .i64 o.ow) ∧ Hid (∃ F2, Lv w w8 pb q F2 k (pushS S n) ∧ Wn w w8 F2 (.slice av S.Q.length cv) S.Q)) := fun w6 hb6 => by
            obtain ⟨U, hU, hbU, kU⟩ := one_new w6 #[.string o.nm, .string o.tg, .int .i64 o.bk, .int .i64 o.ow] 35
            have hL6 := (hLV.below hb6).below hbU
            have hW6 := (hWV.below hb6).below hbU
            refine ⟨U, hU, (push_any U pb q F' k S n hL6.ok).mono ?_⟩
            rintro e w8 ⟨rfl, hT⟩
            obtain ⟨F2, hL8, hk8⟩ := hL6.next hT (good_pushS hL6.ok.good n) hL6.ok.nn
            exact ⟨rfl, (cell_of_heap (hk8.cell kU (hL6.ok.lay.notin kU (by decide)))).trans rfl, F2, hL8, hW6.keep hk8⟩
          clear hL hW hV HCT B0 hzc' hzj hWV
          by_cases hp : pushE S n = 0
          · obtain ⟨p1, p2, p3⟩ := push_ok hp
            have e1 : atE S n = 0 := if_pos p1
            have e2 : o.ow = -1 := by rw [← ho, if_pos p1]; exact p2
            rw [e1] at hat
            rw [hp, p3, e2] at H6
            rw [e2] at hat
            obtain ⟨m, rfl⟩ : ∃ m : Nat, n = m := ⟨n.toNat, by unfold rowN at p1; omega⟩
            rw [Int.toNat_natCast] at H6
            have hql : S.Q.length ≤ 65600 := by have := hLV.ok.good.ql; omega
            obtain ⟨i3, hi3, hz30, hz31, hz32⟩ := info_parts info3
            have HEND : Hid (∀ w8, (∃ F2, Lv w w8 pb q F2 k (pushP S m) ∧ Wn w w8 F2 (.slice av S.Q.length cv) S.Q) → (w8.alloc (.cells #[.int .i64 (m : Int)] 3)).ownsRow w.heap.size 3 1 (.slice av S.Q.length cv) S.Q.length (nsC S.Q) ∧ w.heap.size ≤ (w8.alloc (.cells #[.int .i64 (m : Int)] 3)).heap.size ∧ ∀ v' w9, w9.ownsRow w.heap.size 3 1 v' (S.Q.length + 1) (nsC S.Q ++ [.int .i64 (m : Int)]) → (w8.alloc (.cells #[.int .i64 (m : Int)] 3)).grownBy w9 (Value.slice av S.Q.length cv).ownBlock → (v'.ownBlock = (Value.slice av S.Q.length cv).ownBlock ∨ v'.ownBlock = some (w8.alloc (.cells #[.int .i64 (m : Int)] 3)).heap.size) → Hid (∃ F2, Lv w w9 pb q F2 k (pushP S m) ∧ Wn w w9 F2 v' (pushP S m).Q)) := fun w8 ⟨F2, hL8, hW8⟩ => by
              have hbA : Below w8.heap.size w8 (w8.alloc (.cells #[.int .i64 (m : Int)] 3)) := (Below.refl _ _).alloc (Nat.le_refl _) _
              have hW9 := hW8.below hbA
              have hL9 := hL8.below hbA
              exact ⟨hW9.own, hL9.be.size, fun v' w9 h1 h2 h3 => ⟨F2, hW9.app hL9 h1 h2 h3⟩⟩
            obtain ⟨nm, tg, bk, ow⟩ := o
            dsimp only at *
            generalize hN : S.Q.length = N at *
            clear hLV p1 p2 p3 hp e1 ho e2 hfl hm0
            go_wp2_with (first
              | (go_at_call 11; refine hat.mono ?_; rintro e w6 ⟨rfl, hb6⟩; obtain ⟨U, hU, hpu⟩ := H6.out w6 hb6; clear hb6 H6)
              | (go_at_call 12; refine hpu.mono ?_; rintro e w8 ⟨rfl, x3, HX⟩; obtain ⟨hwn, hws, hEND⟩ := HEND.out w8 HX.out; have HE2 : Hid _ := hEND; clear hEND HEND HX)
              | (go_at_call 13; refine (nu _ _).mono ?_; rintro e wn ⟨rfl, en⟩; obtain rfl := en.symm)
              | (at_builtin; refine wpList_append_own_at _ rfl _ _ 23 rfl w.heap.size 3 i3 (.int .i64 0) 1 8 Try.underlying23 hi3 hz30 hz31 hz32 rfl (by decide) (.slice av N cv) N (nsC S.Q) rfl hwn ⟨w8.heap.size, 0, none⟩ 1 1 [.int .i64 (m : Int)] rfl rfl (cell_one_new w8 _ 3) (fun u hu => (by simp at hu; subst hu; rfl)) (by unfold maxLen; omega) (by omega) hws ?_; intro v' w9 hq1 hq2 _ hq3; have HF : Hid _ := HE2.out v' w9 hq1 hq2 hq3; clear hq1 hq2 hq3 hwn hws HE2))
            go_roundg (len2 - (j + 1))
            case measure => omega
            case rel =>
              obtain ⟨F2, hL9, hW9⟩ := HF.out
              exact ⟨j + 1, pushP S m, F2, rfl, by omega, rfl, hL9, hW9⟩
          · have hS := push_no hp
            rw [hS] at H6
            have hpb : (pushE S n == 0) = false := beq_false_of_ne hp
            obtain ⟨ae, hae⟩ : ∃ ae, atE S n = ae := ⟨_, rfl⟩
            rw [hae] at hat
            generalize pushE S n = pe at *
            obtain ⟨nm, tg, bk, ow⟩ := o
            dsimp only at *
            clear hLV hS ho hfl hm0 hae
            go_wp2_with (first
              | (go_at_call 11; refine hat.mono ?_; rintro e w6 ⟨rfl, hb6⟩; obtain ⟨U, hU, hpu⟩ := H6.out w6 hb6; clear hb6 H6)
              | (go_at_call 12; refine hpu.mono ?_; rintro e w8 ⟨rfl, x3, HX⟩)
              | (go_at_call 13; refine (nu _ _).mono ?_; rintro e wn ⟨rfl, en⟩; obtain rfl := en.symm))
            go_roundg (len2 - (j + 1))
            case measure => omega
            case rel =>
              obtain ⟨F2, hL9, hW9⟩ := HX.out
              exact ⟨j + 1, S, F2, rfl, by omega, rfl, hL9, hW9⟩
        · obtain rfl : j = len2 := by omega
          have hkI : ¬ (j : Int) < (j : Int) := by omega
          obtain ⟨L, hLd⟩ : ∃ L, S.Q = L := ⟨_, rfl⟩
          have hql : S.Q.length ≤ 65600 := by have := hL.ok.good.ql; have := hL.ok.good.fl; omega
          rw [hLd] at hW hql ⊢
          generalize hN : L.length = N at *
          have HL : Hid _ := hL
          have HW : Hid _ := hW
          clear hL hW hk hkn hgk
          go_wp2_with fail
          go_loopg [17] N (fun gk i wr => ∃ (t : Nat) (S3 : Ps) (F3 : List Nat) (n3 : Nat), gk = N - t ∧ t ≤ N ∧ i = .int .i64 (t : Int) ∧ n3 ≤ k + 2 * t ∧ Lv w wr pb q F3 n3 S3 ∧ Wn w wr F3 (.slice av N cv) L ∧ L.drop t = S3.Q)
          case atStart => exact ⟨0, S, F', k, by omega, by omega, rfl, by omega, HL.out, HW.out, by rw [List.drop_zero]; exact hLd.symm⟩
          case round =>
            clear HL HW hLd
            obtain ⟨t, S3, F3, n3, hgk, htn, rfl, hn3, hL, hW, hdr⟩ := hrel
            have nu := num_any
            have w1' : IntKind.i64.wrap ((t : Int) + 1) = ((t + 1 : Nat) : Int) := by rw [IntKind.wrap_i64]; omega
            by_cases ht : t < N
            · have htI : (t : Int) < (N : Int) := by omega
              obtain ⟨a, hLa⟩ : ∃ a, L[t]? = some a := ⟨_, List.getElem?_eq_getElem (by omega)⟩
              have hq3 : S3.Q = a :: L.drop (t + 1) := by
                rw [← hdr, List.drop_eq_getElem_cons (by omega)]
                rw [List.getElem?_eq_getElem (by omega)] at hLa
                rw [Option.some.inj hLa]
              obtain ⟨g, cg, hvg⟩ := owns_form2 hW.own (by omega)
              rw [hN] at hvg
              injection hvg with hvg1 _ hvg2
              subst hvg1 hvg2
              have hG := hL.ok.good
              have hpop := pop_any wr pb q F3 n3 S3 hL.ok
              rw [show popY S3 = (a : Int) by unfold popY; rw [hq3]; rfl, show popE S3 = 0 by unfold popE; rw [hq3]; rfl] at hpop
              have HW3 : Hid (∀ W F, Wn w W F (.slice (some ⟨g, 0, none⟩) N cv) L → W.cell? ⟨g, t, none⟩ = some (.int .i64 (a : Int))) := fun W F hw => by
                have hwo : W.ownsRow w.heap.size 3 1 (.slice (some ⟨g, 0, none⟩) N cv) N (nsC L) := by rw [← hN]; have := hw.own; rw [← hN] at this; exact this
                rw [hwo.cellAt t (by omega)]
                unfold nsC
                rw [List.getElem?_map, hLa]
                rfl
              have hea := popped_asg hG hq3
              have hrel := popped_rel hG hq3
              have H6 : Hid (∀ w6, Turn F3 wr w6 q n3 (popS S3) → Calls Try.prog 15 #[.pointer (some ⟨pb, 0, none⟩), .int .i64 (a : Int), .int .i64 0] w6 fun e w7 => e = .returned (.int .i64 (asgE (popS S3) (a : Int) 0)) ∧ w7.cell? ⟨g, t, none⟩ = some (.int .i64 (a : Int)) ∧ Hid (∃ F5, Lv w w7 pb q F5 (n3 + 1) (asgS (popS S3) (a : Int) 0) ∧ Wn w w7 F5 (.slice (some ⟨g, 0, none⟩) N cv) L)) := fun w6 hT => by
                obtain ⟨F4, hL4, hk4⟩ := hL.next hT (good_pop hG) hL.ok.nn
                have hW4 := hW.keep hk4
                refine (asg_any w6 pb q F4 n3 (popS S3) (a : Int) 0 hL4.ok).mono ?_
                rintro e w7 ⟨rfl, hT7⟩
                obtain ⟨F5, hL5, hk5⟩ := hL4.next hT7 (good_asgS hL4.ok.good _ _) (by omega)
                have hW5 := hW4.keep hk5
                exact ⟨rfl, HW3.out _ _ hW5, F5, hL5, hW5⟩
              have hdr' : L.drop (t + 1) = (popS S3).Q := by unfold popS; rw [hq3]; rfl
              rcases hea with hea | hea
              · obtain ⟨r1, r2⟩ := hrel hea
                have H7 : Hid (∀ w7, (∃ F5, Lv w w7 pb q F5 (n3 + 1) (asgS (popS S3) (a : Int) 0) ∧ Wn w w7 F5 (.slice (some ⟨g, 0, none⟩) N cv) L) → Calls Try.prog 16 #[.pointer (some ⟨pb, 0, none⟩), .int .i64 (a : Int)] w7 fun e w8 => e = .returned (.int .i64 0) ∧ Hid (∃ F6, Lv w w8 pb q F6 (n3 + 2) (popS S3) ∧ Wn w w8 F6 (.slice (some ⟨g, 0, none⟩) N cv) L)) := fun w7 ⟨F5, hL5, hW5⟩ => by
                  have hre := rel_any w7 pb q F5 (n3 + 1) _ (a : Int) hL5.ok
                  rw [r1, r2] at hre
                  refine hre.mono ?_
                  rintro e w8 ⟨rfl, hT8⟩
                  obtain ⟨F6, hL6, hk6⟩ := hL5.next hT8 (good_pop hG) (by omega)
                  exact ⟨rfl, F6, hL6, hW5.keep hk6⟩
                rw [hea] at H6
                clear hL hW hdr hLa hq3 hG HW3 hrel r1 r2 hea
                go_wp2_with (first
                  | (go_at_call 14; refine hpop.mono ?_; rintro e w6 ⟨rfl, hT⟩; have has := H6.out w6 hT; clear hT H6)
                  | (go_at_call 15; refine has.mono ?_; rintro e w7 ⟨rfl, x7, HX⟩; have hre := H7.out w7 HX.out; clear H7 HX)
                  | (go_at_call 16; refine hre.mono ?_; rintro e w8 ⟨rfl, HX8⟩)
                  | (go_at_call 13; refine (nu _ _).mono ?_; rintro e wn ⟨rfl, en⟩; obtain rfl := en.symm))
                go_roundg (N - (t + 1))
                case measure => omega
                case rel =>
                  obtain ⟨F6, hL9, hW9⟩ := HX8.out
                  exact ⟨t + 1, popS S3, F6, n3 + 2, rfl, by omega, rfl, by omega, hL9, hW9, hdr'⟩
              · have hno : asgS (popS S3) (a : Int) 0 = popS S3 := asg_no (by rw [hea]; decide)
                rw [hno, hea] at H6
                clear hL hW hdr hLa hq3 hG HW3 hrel hea hno
                go_wp2_with (first
                  | (go_at_call 14; refine hpop.mono ?_; rintro e w6 ⟨rfl, hT⟩; have has := H6.out w6 hT; clear hT H6)
                  | (go_at_call 15; refine has.mono ?_; rintro e w7 ⟨rfl, x7, HX⟩)
                  | (go_at_call 13; refine (nu _ _).mono ?_; rintro e wn ⟨rfl, en⟩; obtain rfl := en.symm))
                go_roundg (N - (t + 1))
                case measure => omega
                case rel =>
                  obtain ⟨F6, hL9, hW9⟩ := HX.out
                  exact ⟨t + 1, popS S3, F6, n3 + 1, rfl, by omega, rfl, by omega, hL9, hW9, hdr'⟩
            · obtain rfl : t = N := by omega
              have htI : ¬ (t : Int) < (t : Int) := by omega
              have hq3 : S3.Q = [] := by rw [← hdr]; exact List.drop_of_length_le (by omega)
              have hpop := pop_any wr pb q F3 n3 S3 hL.ok
              rw [show popY S3 = 0 by unfold popY; rw [hq3]; rfl, show popE S3 = 131 by unfold popE; rw [hq3]; rfl] at hpop
              have HB : Hid (∀ w6, Turn F3 wr w6 q n3 (popS S3) → Below w.heap.size w w6) := fun w6 hT => by
                obtain ⟨F4, hL4, -⟩ := hL.next hT (good_pop hL.ok.good) hL.ok.nn
                exact hL4.be
              clear hL hW hdr hq3
              go_wp2_with (first
                | (go_at_call 14; refine hpop.mono ?_; rintro e w6 ⟨rfl, hT⟩; have HBB : Hid _ := HB.out w6 hT; clear hT HB)
                | (go_at_call 13; refine (nu _ _).mono ?_; rintro e wn ⟨rfl, en⟩; obtain rfl := en.symm))
              go_ret
              exact ⟨rfl, HBB.out⟩
end Go.Proofs.Ythmjjpaengackaa.Po
