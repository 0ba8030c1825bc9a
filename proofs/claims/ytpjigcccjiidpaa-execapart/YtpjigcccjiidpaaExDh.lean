import Derived.Test.YtpjigcccjiidpaaExDk
namespace Go.Proofs.Ytpjigcccjiidpaa.Ex
open Go.RowKit Go.Lib Go.Deep

set_option maxRecDepth 20000 in
set_option maxHeartbeats 4000000 in
theorem follow_any (T : List St) (w : World) (F0 : Nat → Prop) (m nn : Nat) (L0 : Fl) (h : Liv w m nn F0 L0) (hsm : Sm L0) (a1 : Option Addr) (n c1 : Nat) (hn : T.length = n) (hbd : n ≤ 1099511627776) (_hnn : nn ≤ 1099511627776)
    (HR : Hid (∀ (p6 q : Nat) (Z : Option (Fl × List Rs)) (wr : World) (i : Nat), Nx w F0 m nn n p6 q T Z i wr → i < n → Rd w F0 m nn n p6 q T Z a1 i wr)) :
    Calls Try.prog 17 #[.map (some m), .slice a1 n c1] w fun e w' => FwP w F0 m nn n T (goL L0 (T.map (·.s))) e w' := by
  obtain ⟨Z, hZ⟩ : ∃ Z, goL L0 (T.map (·.s)) = Z := ⟨_, rfl⟩
  rw [hZ]
  have HP0 : Hid (Pr T Z 0 L0 (List.replicate n zR)) := by
    refine ⟨?_, rfl⟩
    rw [← hZ]
    simp
  have HL : Hid (Liv w m nn F0 L0 ∧ Sm L0) := ⟨h, hsm⟩
  have hmk := fun V => make_res n hbd V
  have hrow := fun V => made_res n hbd V
  have HMR : Hid _ := hrow
  have hone : dA.all (·.oneCell') = true := by simp [dA, Value.oneCell']
  clear hZ h hsm hrow
  go_enter Try.func17, Try.ntmps17
  go_wp2_with fail
  rename_i K hK
  have HK : Hid (∀ (p6 q : Nat) (V : World), Fw w F0 m nn n p6 q 0 F0 L0 (List.replicate n zR) V → K { tmps := #[.map (some m), .slice a1 n c1, undef, undef, .slice none 0 0, .bool false, .pointer (some ⟨p6, 0, none⟩), .slice (some ⟨q, 0, none⟩) n n, undef, undef, undef, .agg dA, .slice a1 n c1, .int .i64 (n : Int), .slice (some ⟨q, 0, none⟩) n n, undef, undef, undef, undef, undef, undef, undef, undef, undef, undef, undef, undef, undef, undef, undef, undef, undef, undef, undef, undef, undef, undef, undef, undef, undef, undef, undef, undef, undef, undef, undef, undef, undef, undef, undef, undef, undef, undef, undef, undef, undef, undef, undef, undef, undef, undef, undef, undef, undef, undef, undef, undef, undef, undef, undef, undef, undef, undef, undef, undef, undef, undef, undef, undef, undef, undef, undef], defers := [] } V) := fun p6 q V hV => by
    apply hK
    clear hK hmk HMR HL
    have HV : Hid _ := hV
    clear hV
    go_wp2_with fail
    go_loopg [17] n (fun gk iv wr => ∃ (i : Nat), i + gk = n ∧ iv = .int .i64 (i : Int) ∧ Hid (Nx w F0 m nn n p6 q T Z i wr))
    case atStart => exact ⟨0, by omega, rfl, F0, L0, _, HV.out, HP0.out⟩
    case round =>
      obtain ⟨i, hik, rfl, hN⟩ := hrel
      clear HV HP0
      by_cases hlt : i < n
      · have hltI : (i : Int) < (n : Int) := by omega
        have w1' : IntKind.i64.wrap ((i : Int) + 1) = ((i + 1 : Nat) : Int) := by rw [IntKind.wrap_i64]; omega
        obtain ⟨cd, da, rn, na, nl, nc, rk, rz, kd, fl, gn, at_, en, ed, ez, b, off, rfl, r0, r1, r2, r3, r4, r5, r6, r7, r8, r9, r10, r11, r12, U, hU, x0, x1, x2, x3, x4, x5, ⟨y0, y1, y2, y3, y4, y5, z0, z1, z2, z3, z4, z5⟩, f0, f1, f2, f3, f4, f5, V1, hV1, v3, hcl⟩ := HR.out p6 q Z wr i hN.out hlt
        clear HR hN
        go_wp2_with fail
        refine hcl.mono ?_
        rintro e w2 ⟨ua, uc, rfl, g3, gf3, V2, hV2, b0, b6, hcase⟩
        clear r0 r1 r2 r3 r4 r5 r6 r7 r8 r9 r10 r11 r12 hcl x0 x1 x2 x3 x4 x5 z0 z1 z2 z3 z4 z5 f0 f1 f2 f3 f4 f5 v3 hU hV1
        rcases hcase with ⟨hc, HN⟩ | ⟨rfl, rfl, HN⟩ | ⟨rfl, hk0, hk1, HN⟩ | ⟨rfl, hk6, HN⟩ | ⟨rfl, k, fa, fd, rfl, hk1, hk6, t0, t1, cfa, cfd, U3, hU3, d0, e0, e1, e2, e3, e4, e5, e6, hask⟩
        · have hc' : (cd != 0) = true := by simp [hc]
          clear hc
          go_wp2
          go_roundg (n - (i + 1))
          case measure => omega
          case rel => exact ⟨i + 1, by omega, rfl, HN.out⟩
        · go_wp2
          go_roundg (n - (i + 1))
          case measure => omega
          case rel => exact ⟨i + 1, by omega, rfl, HN.out⟩
        · have hc' : (kd == 0) = false := by simp [hk0]
          clear hk0
          go_wp2
          go_ret2
          exact ⟨HN.out.2, .inl ⟨HN.out.1, rfl⟩⟩
        · have hc' : (kd == 0) = false := by simp; omega
          have hc1 : ¬ kd < 1 := by omega
          go_wp2
          go_ret2
          exact ⟨HN.out.2, .inl ⟨HN.out.1, rfl⟩⟩
        · have hc' : ((k : Int) == 0) = false := by simp; omega
          have hc1 : ¬ (k : Int) < 1 := by omega
          have hc6 : ¬ (k : Int) > 6 := by omega
          have hc7 : (k : Int) < 7 := by omega
          have hone2 : (#[.func (.func fa) #[] #[], .func (.func fd) #[] #[]] : Array Value).all (·.oneCell') = true := by simp [Value.oneCell']
          go_wp2_with (first
            | (refine wpList_store_row rfl 77 (.tmp 10) (.tmp 59) rfl V2.heap.size #[.func (.func fa) #[] #[], .func (.func fd) #[] #[]] rfl rfl 77 _ (heap_new V2 _) sizeDd rfl hone2 ?_; rw [setRow_alloc, hU3])
            | (refine wpList_callv rfl fa cfa (.tmp 61) #[.tmp 62, .tmp 64] #[62, 26] rfl (by simp [Act.eval]) #[.map (some m), .agg #[.int .i64 (k : Int), .int .i64 fl, .int .i64 gn, .int .i64 at_, .int .i64 en, .string ed, .int .i64 ez]] (by simp [Act.eval]) hask ?_; rintro e w4 ⟨bm, rfl, hbm⟩; refine ⟨_, rfl, ?_⟩; rcases hbm with ⟨rfl, HN⟩ | ⟨rfl, q1, l0, l1, l2, l3, l4, l5, l6, s0, s1, s2, s3, s4, s5, HD⟩))
          · go_ret2
            exact ⟨HN.out.2, .inl ⟨HN.out.1, rfl⟩⟩
          · clear b0 b6 t0 t1 cfa hU3 d0 e0 e1 e2 e3 e4 e5 e6 hask hc' hc1 hc6 hc7 hone2 g3 gf3 hV2
            go_region_law (first
              | (refine step_callv rfl fd cfd (.tmp 70) #[.tmp 71, .tmp 73, .tmp 77] #[62, 26, 56] rfl (by simp [Act.eval]) #[.map (some m), .agg #[.int .i64 (k : Int), .int .i64 fl, .int .i64 gn, .int .i64 at_, .int .i64 en, .string ed, .int .i64 ez], .agg #[.int .i64 0, .string da, .int .i64 rn, .slice ua nl uc, .int .i64 rk, .int .i64 rz]] (by simp [Act.eval]) (HD.out _ (bdN _ _)) ?_; rintro e w5 ⟨dd, rfl, s0, s1, s2, s3, s4, s5, f0, f1, f2, f3, f4, f5, HN⟩; refine ⟨_, rfl, ?_⟩))
            all_goals
              go_wp2
              go_roundg (n - (i + 1))
              case measure => omega
              case rel => exact ⟨i + 1, by omega, rfl, HN.out⟩
      · obtain rfl : i = n := by omega
        have hltI : ¬ (i : Int) < (i : Int) := by omega
        obtain ⟨F, L, R, hF, hP⟩ := hN.out
        have HE : Hid (FwP w F0 m nn i T Z (.returned (.tuple #[.slice (some ⟨q, 0, none⟩) i i, .bool true])) wr) := by
          obtain ⟨p1, p2⟩ := pr_end hP hn hF.rl
          exact ⟨hF.tr, .inr ⟨p6, q, F, L, R, p1, rfl, hF, p2⟩⟩
        clear hF hP hN HR
        go_wp2
        go_ret2
        exact HE.out
  have hd14 : dA.size = 14 := rfl
  go_region_law (first
    | (refine step_call rfl 21 cfDe #[] #[] rfl #[] (by simp) (deeds_any _) ?_; rintro e w5 ⟨rfl, hb5⟩; refine ⟨_, rfl, ?_⟩; first
        | with_reducible (have E1 := st_run (st1 (w := w) hbd hb5); have E2 := st_run (st2 (w := w) hbd hb5); have E3 := st_runH (st7 (w := w) hb5))
        | with_reducible (have E1 := st_run (st3 (w := w) hbd hb5))
        | with_reducible (have E1 := st_run (st4 (w := w) hbd hb5); have E3 := st_runH (st8 (w := w) hb5))
        | with_reducible (have E1 := st_run (st5 (w := w) hbd hb5))
        | with_reducible (have E1 := st_run (st6 (w := w) hbd hb5))))
  all_goals
    show K _ _
    simp only [Act.put, List.getElem_toArray, List.getElem_cons_succ, List.getElem_cons_zero, List.setIfInBounds_toArray, List.set_cons_zero, List.set_cons_succ]
    first
    | with_reducible exact HK.out _ _ _ (st_fin (st1 (w := w) hbd hb5) HL.out.1 HL.out.2)
    | with_reducible exact HK.out _ _ _ (st_fin (st2 (w := w) hbd hb5) HL.out.1 HL.out.2)
    | with_reducible exact HK.out _ _ _ (st_fin (st3 (w := w) hbd hb5) HL.out.1 HL.out.2)
    | with_reducible exact HK.out _ _ _ (st_fin (st4 (w := w) hbd hb5) HL.out.1 HL.out.2)
    | with_reducible exact HK.out _ _ _ (st_fin (st5 (w := w) hbd hb5) HL.out.1 HL.out.2)
    | with_reducible exact HK.out _ _ _ (st_fin (st6 (w := w) hbd hb5) HL.out.1 HL.out.2)
    | with_reducible exact HK.out _ _ _ (st_f7 (w := w) hbd hb5 HL.out.1 HL.out.2)
    | with_reducible exact HK.out _ _ _ (st_f8 (w := w) hbd hb5 HL.out.1 HL.out.2)
end Go.Proofs.Ytpjigcccjiidpaa.Ex
