import Derived.Test.YtcbmkijjbkjkpaaGreatDoorLaM
import Derived.Deep.DeepCutAuto
namespace Go.Proofs.YtcbmkijjbkjkpaaGreatDoor.Tr
open Go.RowKit Go.Lib Go.Deep

theorem cells3t {W : World} {g : Nat} {t : TypeId} {x0 x1 x2 : Value} (h : W.heap[g]? = some (.cells #[x0, x1, x2] t (0, 0))) : W.cell? ⟨g, 0, none⟩ = some x0 ∧ W.cell? ⟨g, 1, none⟩ = some x1 ∧ W.cell? ⟨g, 2, none⟩ = some x2 :=
  ⟨(cell_of_heap h).trans rfl, (cell_of_heap h).trans rfl, (cell_of_heap h).trans rfl⟩
theorem lp_next {w X : World} {b q gw fr dr i : Nat} {T : Ts} {dp : Nat → Nat} {x0 x1 x2 : Value} {a : Option Addr} {c : Nat} (hv : Inv T dp) (hf : T.fr = fr) (hd : T.dr = dr) (hT : Tre X w.heap.size b q (2 + i + 1) T) (hS : X.ownsRow w.heap.size 50 5 (.slice a (told T).length c) (told T).length (ndsc (told T))) (hW : X.heap[gw]? = some (.cells #[x0, x1, x2] 28 (0, 0))) (hg : w.heap.size ≤ gw) (hb : Below w.heap.size w X) :
    Lp w (((X.setCell ⟨gw, 0, none⟩ (.int .i64 (fr : Int))).setCell ⟨gw, 1, none⟩ (.int .i64 ((dr : Int) - 1))).setCell ⟨gw, 2, none⟩ (.slice a (told T).length c)) b q gw fr dr (i + 1) := by
  have ho : ∀ k, k ≠ gw → (((X.setCell ⟨gw, 0, none⟩ (.int .i64 (fr : Int))).setCell ⟨gw, 1, none⟩ (.int .i64 ((dr : Int) - 1))).setCell ⟨gw, 2, none⟩ (.slice a (told T).length c)).heap[k]? = X.heap[k]? := fun k hk => by
    rw [heap_setCell_other _ _ _ _ hk, heap_setCell_other _ _ _ _ hk, heap_setCell_other _ _ _ _ hk]
  have hty : ∀ {k : Nat} {c' : Array Value} {t : TypeId}, X.heap[k]? = some (.cells c' t (0, 0)) → t ≠ 28 → k ≠ gw := fun h1 h2 => ty_ne h1 hW h2
  obtain ⟨F, hL, hF⟩ := hT.lay
  refine ⟨T, dp, a, c, ⟨(ho b (hty hT.hb (by decide))).trans hT.hb, hT.hB, F, ?_, hF⟩, hv, hf, hd, put3A hW, owns_keep hS (fun g hg' => ?_), hg, ((hb.setCell hg _).setCell hg _).setCell hg _⟩
  · have h2 := hL.notin hW (by decide)
    obtain ⟨dv, fv, ld, lf, ms, hFe, hI⟩ := hL
    exact ⟨dv, fv, ld, lf, ms, hFe, hI.keep fun k hk => ho k (fun e => h2 (by rw [hFe, ← e]; exact hk))⟩
  · obtain ⟨cur, hc⟩ := owns_block hS hg'
    exact ho g (hty hc (by decide))
set_option maxRecDepth 20000 in
set_option maxHeartbeats 8000000 in
theorem refuses_walk (w : World) (n0 n1 n2 : Int) (h0 : -9223372036854775808 ≤ n0 ∧ n0 ≤ 9223372036854775807) (h1 : -9223372036854775808 ≤ n1 ∧ n1 ≤ 9223372036854775807) (h2 : -9223372036854775808 ≤ n2 ∧ n2 ≤ 9223372036854775807) (a : Option Addr) (len c : Nat) (O : List Op) (hO : IsO w a len O) (hlen : len ≤ 8796093022000) :
    Calls Tryz.prog 3 #[.int .i64 n0, .int .i64 n1, .int .i64 n2, .slice a len c] w fun e w' => e = .returned (.bool true) ∧ Below w.heap.size w w' := by
  obtain ⟨f, hf⟩ : ∃ f : Nat, (1 : Int) + n0 % (40 - 1 + 1) = f := ⟨((1 : Int) + n0 % (40 - 1 + 1)).toNat, by omega⟩
  obtain ⟨d, hd⟩ : ∃ d : Nat, (0 : Int) + n1 % (40 - 0 + 1) = d := ⟨((0 : Int) + n1 % (40 - 0 + 1)).toNat, by omega⟩
  obtain ⟨m, hm⟩ : ∃ m : Nat, (0 : Int) + n2 % (1000 - 0 + 1) = m := ⟨((0 : Int) + n2 % (1000 - 0 + 1)).toNat, by omega⟩
  have hc0 := clipped_any n0 1 40 h0 (by omega) (by omega) (by omega) w
  have hc1 := clipped_any n1 0 40 h1 (by omega) (by omega) (by omega) w
  have hc2 := clipped_any n2 0 1000 h2 (by omega) (by omega) (by omega) w
  rw [hf] at hc0
  rw [hd] at hc1
  rw [hm] at hc2
  have hpl := planted_any w f d m (by omega) (by omega) (by omega) (by omega)
  have HOP : Hid (IsO w a len O) := hO
  have HLEN : Hid (O.length = len) := hO.hl
  clear hO hf hd hm
  go_enter Tryz.func3, Tryz.ntmps3
  go_wp2_with fail
  refine hc0.mono ?_
  rintro e w1 ⟨rfl, rfl⟩
  go_wp2_with fail
  refine hc1.mono ?_
  rintro e w1 ⟨rfl, rfl⟩
  go_wp2_with fail
  refine hc2.mono ?_
  rintro e w1 ⟨rfl, rfl⟩
  go_wp2_with fail
  refine hpl.mono ?_
  rintro e w2 ⟨b, q, T0, rfl, HT0, HF0, hb2⟩
  obtain ⟨e1, e2, e3, e4, dp0, hv0⟩ := HF0.out
  have hst := state_tre w2 w1.heap.size b q 2 T0 HT0.out (by omega)
  obtain ⟨fr, hfr⟩ : ∃ fr, T0.fr = fr := ⟨_, rfl⟩
  obtain ⟨dr, hdr⟩ : ∃ dr, T0.dr = dr := ⟨_, rfl⟩
  have HDR1 : Hid (1 ≤ dr) := by show 1 ≤ dr; omega
  rw [hfr, hdr] at hst
  have HV0 : Hid (Inv T0 dp0 ∧ T0.fr = fr ∧ T0.dr = dr) := ⟨hv0, hfr, hdr⟩
  have HB2 : Hid (Below w1.heap.size w1 w2) := hb2
  obtain ⟨N0, hN0⟩ : ∃ N0, (told T0).length = N0 := ⟨_, rfl⟩
  have HN0 : Hid _ := hN0
  rw [hN0] at hst
  clear e1 e2 e3 e4 hv0 hfr hdr hb2 hN0 hc0 hc1 hc2 hpl HF0 h0 h1 h2
  go_wp2_with fail
  refine hst.mono ?_
  rintro e w3 ⟨a0, c0, rfl, HS0, hb3, hle0⟩
  obtain ⟨W4, hW4, hb4, k4⟩ := one_new w3 #[.int .i64 (fr : Int), .int .i64 ((dr : Int) - 1), .slice a0 N0 c0] 28
  have HL0 : Hid (Lp w1 W4 b q w3.heap.size fr dr 0) := by
    have hN := HN0.out
    subst hN
    have hbw3 : Below w1.heap.size w1 w3 := below_on hb3 HB2.out
    exact ⟨T0, dp0, a0, c0, (HT0.out.below hb3).below hb4, HV0.out.1, HV0.out.2.1, HV0.out.2.2, k4, owns_base (owns_keep HS0.out (fun g hg => hb4.block _ (HS0.out.lt g hg).2)) HB2.out.size, hbw3.size, below_on hb4 hbw3⟩
  have HW4 : Hid _ := hW4
  clear hst hb3 hb4 k4 hW4 hle0 HS0 HT0 HB2 HV0 HN0
  go_upto_region 5 with fail
  rw [HW4.out]
  obtain ⟨gw, hgw⟩ : ∃ gw, w3.heap.size = gw := ⟨_, rfl⟩
  rw [hgw] at HL0 ⊢
  clear hgw HW4
  obtain ⟨w, hww⟩ : ∃ w, w1 = w := ⟨_, rfl⟩
  subst hww
  go_wp2_with fail
  go_loopg [11] len (fun gk iv wr => ∃ (i : Nat), i + gk = len ∧ iv = .int .i64 (i : Int) ∧ Hid (Lp w1 wr b q gw fr dr i))
  case atStart => exact ⟨0, by omega, rfl, HL0.out⟩
  case round =>
    obtain ⟨i, hik, rfl, HL⟩ := hrel
    by_cases hlt : i < len
    · have hltI : (i : Int) < (len : Int) := by omega
      have w1' : IntKind.i64.wrap ((i : Int) + 1) = ((i + 1 : Nat) : Int) := by rw [IntKind.wrap_i64]; omega
      obtain ⟨T, dp, a0, c0, HT, hv, HFR0, HDR0, HGW0, HRW0, HLW0, hbw⟩ := HL.out
      have HGW : Hid _ := HGW0
      have HRW : Hid _ := HRW0
      have HLW : Hid _ := HLW0
      have HBw : Hid _ := hbw
      obtain ⟨o, ho⟩ : ∃ o, O[i]? = some o := ⟨_, List.getElem?_eq_getElem (by have := HLEN.out; omega)⟩
      have HOI : Hid (O[i]? = some o) := ho
      obtain ⟨pb, po, rfl, hpb0, p0', p1', p2', p3', p4', p5'⟩ := (HOP.out.below hbw).at_ i o ho
      have hbd := HOP.out.bd o (List.mem_of_getElem? ho)
      have hdo := do_tre wr w1.heap.size b q (2 + i) T dp o HT hbw.size hv (by omega) hbd.1 hbd.2
      have HREF : Hid ((doT T o).1.code ≠ 0 → doT T o = ref T (doT T o).1.code) := do_ref
      have HLK : Hid ((o.kind = 9 ∨ o.kind = 10 ∨ o.kind = 3) → (doT T o).2.2 = T) := do_look
      have HV1 : Hid (∃ dp', Inv (doT T o).2.2 dp') := inv_do hv o
      have HRM := do_room (T := T) (o := o)
      obtain ⟨A, hA⟩ : ∃ A, doT T o = A := ⟨_, rfl⟩
      rw [hA] at hdo HREF HLK HV1 HRM
      obtain ⟨ok, op, ot, oa, on, od⟩ := o
      simp only at hdo HLK p0' p1' p2' p3' p4' p5'
      have HFR : Hid (A.2.2.fr = fr) := HRM.1.trans HFR0
      have HDR : Hid (A.2.2.dr = dr) := HRM.2.1.trans HDR0
      clear hA ho hbd hv HRM HGW0 HRW0 HLW0 HFR0 HDR0 hbw HT HL hpb0
      go_wp2_with fail
      refine hdo.mono ?_
      rintro e w1z ⟨va, vn, vc, rfl, HO1, HT1, HK1, HB1z⟩
      have HB1 : Hid (Below w1.heap.size w1 w1z) := HBw.out.trans HB1z.out
      clear hdo HB1z p0' p1' p2' p3' p4' p5'
      obtain ⟨⟨cd, rn, rnm, rk, rz⟩, ⟨f0, f1, f2, f3, f4, f5, f6⟩, T1⟩ := A
      simp only at HO1 HT1 HREF HLK HV1 HFR HDR ⊢
      by_cases hc : cd = 0
      · subst hc
        have HTL : Hid ((ok = 9 ∨ ok = 10 ∨ ok = 3) → T1 = T) := HLK.out
        clear HREF HLK
        obtain ⟨W2, hW2, hb2, k20, k21⟩ := two_new w1z #[.int .i64 0, .string e0, .int .i64 rn, .slice va vn vc, .int .i64 rk, .int .i64 rz] #[.int .i64 f0, .int .i64 f1, .int .i64 f2, .int .i64 f3, .int .i64 f4, .string f5, .int .i64 f6] 33 35
        have HW2 : Hid _ := hW2
        have HT2 : Hid _ := HT1.out.below hb2
        have HK2 : Hid (Kp wr W2) := HK1.out.trans (Kp.of hb2)
        have HBW2 : Hid (Below w1.heap.size w1 W2) := HB1.out.trans (hb2.mono HB1.out.size)
        have hst := state_tre W2 w1.heap.size b q _ T1 HT2.out (by rw [HDR.out]; exact HDR1.out)
        rw [HFR.out, HDR.out] at hst
        obtain ⟨NN, hNN⟩ : ∃ NN, (told T1).length = NN := ⟨_, rfl⟩
        have HNN : Hid _ := hNN
        rw [hNN] at hst
        have HK20 : Hid _ := k20
        have HK21 : Hid _ := k21
        clear hW2 hb2 k20 k21 hNN
        go_wp2_with fail
        rw [HW2.out]
        refine hst.mono ?_
        rintro e w3 ⟨sa, sc, rfl, HS3, hb3, hle3⟩
        obtain ⟨W4, hW4, hb4, k4⟩ := one_new w3 #[.int .i64 (fr : Int), .int .i64 ((dr : Int) - 1), .slice sa NN sc] 28
        have HW4 : Hid _ := hW4
        have hb24 : Below W2.heap.size W2 W4 := below_on hb4 hb3
        have HT4 : Hid _ := HT2.out.below hb24
        have HK4 : Hid (Kp wr W4) := HK2.out.trans (Kp.of hb24)
        have HBW4 : Hid (Below w1.heap.size w1 W4) := HBW2.out.trans (hb24.mono HBW2.out.size)
        have HS4 : Hid (W4.ownsRow w1.heap.size 50 5 (.slice sa NN sc) NN (ndsc (told T1))) := owns_base (owns_keep HS3.out (fun g hg => hb4.block _ (HS3.out.lt g hg).2)) HBW2.out.size
        have H40 : Hid (W4.heap[w1z.heap.size]? = some (.cells #[.int .i64 0, .string e0, .int .i64 rn, .slice va vn vc, .int .i64 rk, .int .i64 rz] 33 (0, 0))) := (hb24.block _ (heap_lt HK20.out)).trans HK20.out
        have H41 : Hid (W4.heap[w1z.heap.size + 1]? = some (.cells #[.int .i64 f0, .int .i64 f1, .int .i64 f2, .int .i64 f3, .int .i64 f4, .string f5, .int .i64 f6] 35 (0, 0))) := (hb24.block _ (heap_lt HK21.out)).trans HK21.out
        have H4W : Hid _ := HK4.out _ _ _ HGW.out (by decide)
        have H4S : Hid _ := k4
        obtain ⟨r0, r1, r2, r3, r4, r5⟩ := cells6 H40.out
        obtain ⟨x0, x1, x2, x3, x4, x5, x6⟩ := cells7 H41.out
        obtain ⟨t0, t1, t2⟩ := cells3t k4
        obtain ⟨v0, v1, v2⟩ := cells3t H4W.out
        obtain ⟨pb', po', epo, hpb, p0, -⟩ := (HOP.out.below HBW4.out).at_ i _ HOI.out
        injection epo with epo
        injection epo with epo1 epo2
        subst epo1
        subst epo2
        have fzw : ∀ j, W4.frozen? ⟨gw, j, none⟩ = false := fun j => frozen_of_heap H4W.out
        clear hW4 hb4 k4 hb3 hb24 hst
        go_upto_region 10 with fail
        rw [HW4.out]
        have HSM : Hid (∀ V, Below W4.heap.size W4 V → T1 = T → Calls Tryz.prog 16 #[.agg #[.int .i64 (fr : Int), .int .i64 ((dr : Int) - 1), .slice sa NN sc], .agg #[.int .i64 (fr : Int), .int .i64 ((dr : Int) - 1), .slice a0 (told T).length c0]] V fun e w' => e = .returned (.bool true) ∧ Below V.heap.size V w') := fun V hb hTT => by
          have hNN := HNN.out
          rw [hTT] at hNN
          have hS := HS4.out
          rw [hTT] at hS
          subst hNN
          exact sameState_any V w1.heap.size w1.heap.size fr ((dr : Int) - 1) sa a0 _ sc c0 (told T) rfl (owns_keep hS fun g hg => hb.block _ (hS.lt g hg).2) (by
            have h4 := owns_kp HRW.out HK4.out (by decide)
            exact owns_keep h4 fun g hg => hb.block _ (h4.lt g hg).2) hle3
        by_cases h9 : ok = 9
        · skip
          have b9 : (ok == 9) = true := by simp [h9]
          go_wp2_with fail
          refine (num_any 0 W4).mono ?_
          rintro e w5 ⟨rfl, rfl⟩
          go_wp2_with fail
          refine (num_any 0 w5).mono ?_
          rintro e w8 ⟨rfl, rfl⟩
          have hb57 : Below w8.heap.size w8 w8 := Below.refl _ _
          have hsm := HSM.out w8 hb57 (HTL.out (by first | exact .inl h9 | exact .inr (.inl h10) | exact .inr (.inr h3)))
          go_wp2_with fail
          refine hsm.mono ?_
          rintro e w9 ⟨rfl, hb89⟩
          have hbw9 : Below w8.heap.size w8 w9 := below_on hb89 hb57
          have H5W : Hid (w9.heap[gw]? = some (.cells #[.int .i64 (fr : Int), .int .i64 ((dr : Int) - 1), .slice a0 (told T).length c0] 28 (0, 0))) := (hbw9.block _ (heap_lt H4W.out)).trans H4W.out
          have H5S : Hid (w9.heap[w3.heap.size]? = some (.cells #[.int .i64 (fr : Int), .int .i64 ((dr : Int) - 1), .slice sa NN sc] 28 (0, 0))) := (hbw9.block _ (heap_lt H4S.out)).trans H4S.out
          obtain ⟨t0', t1', t2'⟩ := cells3t H5S.out
          obtain ⟨v0', v1', v2'⟩ := cells3t H5W.out
          have fzw' : ∀ j, w9.frozen? ⟨gw, j, none⟩ = false := fun j => frozen_of_heap H5W.out
          have HREL : Hid (Lp w1 (((w9.setCell ⟨gw, 0, none⟩ (.int .i64 (fr : Int))).setCell ⟨gw, 1, none⟩ (.int .i64 ((dr : Int) - 1))).setCell ⟨gw, 2, none⟩ (.slice sa NN sc)) b q gw fr dr (i + 1)) := by
            obtain ⟨dp', hv'⟩ := HV1.out
            have hNN := HNN.out
            subst hNN
            exact lp_next hv' HFR.out HDR.out (HT4.out.below hbw9) (owns_keep HS4.out (fun g hg => hbw9.block _ (HS4.out.lt g hg).2)) H5W.out HLW.out (below_on hbw9 HBW4.out)
          clear hbw9
          go_wp2
          go_roundg (len - (i + 1))
          case measure => omega
          case rel => exact ⟨i + 1, by omega, rfl, HREL.out⟩
        · by_cases h10 : ok = 10
          · skip
            have b9 : (ok == 9) = false := by simp [h9]
            have b10 : (ok == 10) = true := by simp [h10]
            go_wp2_with fail
            refine (num_any 0 W4).mono ?_
            rintro e w5 ⟨rfl, rfl⟩
            go_wp2_with fail
            refine (num_any 0 w5).mono ?_
            rintro e w8 ⟨rfl, rfl⟩
            have hb57 : Below w8.heap.size w8 w8 := Below.refl _ _
            have hsm := HSM.out w8 hb57 (HTL.out (by first | exact .inl h9 | exact .inr (.inl h10) | exact .inr (.inr h3)))
            go_wp2_with fail
            refine hsm.mono ?_
            rintro e w9 ⟨rfl, hb89⟩
            have hbw9 : Below w8.heap.size w8 w9 := below_on hb89 hb57
            have H5W : Hid (w9.heap[gw]? = some (.cells #[.int .i64 (fr : Int), .int .i64 ((dr : Int) - 1), .slice a0 (told T).length c0] 28 (0, 0))) := (hbw9.block _ (heap_lt H4W.out)).trans H4W.out
            have H5S : Hid (w9.heap[w3.heap.size]? = some (.cells #[.int .i64 (fr : Int), .int .i64 ((dr : Int) - 1), .slice sa NN sc] 28 (0, 0))) := (hbw9.block _ (heap_lt H4S.out)).trans H4S.out
            obtain ⟨t0', t1', t2'⟩ := cells3t H5S.out
            obtain ⟨v0', v1', v2'⟩ := cells3t H5W.out
            have fzw' : ∀ j, w9.frozen? ⟨gw, j, none⟩ = false := fun j => frozen_of_heap H5W.out
            have HREL : Hid (Lp w1 (((w9.setCell ⟨gw, 0, none⟩ (.int .i64 (fr : Int))).setCell ⟨gw, 1, none⟩ (.int .i64 ((dr : Int) - 1))).setCell ⟨gw, 2, none⟩ (.slice sa NN sc)) b q gw fr dr (i + 1)) := by
              obtain ⟨dp', hv'⟩ := HV1.out
              have hNN := HNN.out
              subst hNN
              exact lp_next hv' HFR.out HDR.out (HT4.out.below hbw9) (owns_keep HS4.out (fun g hg => hbw9.block _ (HS4.out.lt g hg).2)) H5W.out HLW.out (below_on hbw9 HBW4.out)
            clear hbw9
            go_wp2
            go_roundg (len - (i + 1))
            case measure => omega
            case rel => exact ⟨i + 1, by omega, rfl, HREL.out⟩
          · by_cases h3 : ok = 3
            · skip
              have b9 : (ok == 9) = false := by simp [h9]
              have b10 : (ok == 10) = false := by simp [h10]
              have b3 : (ok == 3) = true := by simp [h3]
              go_wp2_with fail
              refine (num_any 0 W4).mono ?_
              rintro e w5 ⟨rfl, rfl⟩
              go_wp2_with fail
              refine (num_any 0 w5).mono ?_
              rintro e w8 ⟨rfl, rfl⟩
              have hb57 : Below w8.heap.size w8 w8 := Below.refl _ _
              have hsm := HSM.out w8 hb57 (HTL.out (by first | exact .inl h9 | exact .inr (.inl h10) | exact .inr (.inr h3)))
              go_wp2_with fail
              refine hsm.mono ?_
              rintro e w9 ⟨rfl, hb89⟩
              have hbw9 : Below w8.heap.size w8 w9 := below_on hb89 hb57
              have H5W : Hid (w9.heap[gw]? = some (.cells #[.int .i64 (fr : Int), .int .i64 ((dr : Int) - 1), .slice a0 (told T).length c0] 28 (0, 0))) := (hbw9.block _ (heap_lt H4W.out)).trans H4W.out
              have H5S : Hid (w9.heap[w3.heap.size]? = some (.cells #[.int .i64 (fr : Int), .int .i64 ((dr : Int) - 1), .slice sa NN sc] 28 (0, 0))) := (hbw9.block _ (heap_lt H4S.out)).trans H4S.out
              obtain ⟨t0', t1', t2'⟩ := cells3t H5S.out
              obtain ⟨v0', v1', v2'⟩ := cells3t H5W.out
              have fzw' : ∀ j, w9.frozen? ⟨gw, j, none⟩ = false := fun j => frozen_of_heap H5W.out
              have HREL : Hid (Lp w1 (((w9.setCell ⟨gw, 0, none⟩ (.int .i64 (fr : Int))).setCell ⟨gw, 1, none⟩ (.int .i64 ((dr : Int) - 1))).setCell ⟨gw, 2, none⟩ (.slice sa NN sc)) b q gw fr dr (i + 1)) := by
                obtain ⟨dp', hv'⟩ := HV1.out
                have hNN := HNN.out
                subst hNN
                exact lp_next hv' HFR.out HDR.out (HT4.out.below hbw9) (owns_keep HS4.out (fun g hg => hbw9.block _ (HS4.out.lt g hg).2)) H5W.out HLW.out (below_on hbw9 HBW4.out)
              clear hbw9
              go_wp2
              go_roundg (len - (i + 1))
              case measure => omega
              case rel => exact ⟨i + 1, by omega, rfl, HREL.out⟩
            · skip
              have b9 : (ok == 9) = false := by simp [h9]
              have b10 : (ok == 10) = false := by simp [h10]
              have b3 : (ok == 3) = false := by simp [h3]
              go_wp2_with fail
              refine (num_any 0 W4).mono ?_
              rintro e w5 ⟨rfl, rfl⟩
              go_wp2_with fail
              refine (num_any 0 w5).mono ?_
              rintro e w8 ⟨rfl, rfl⟩
              have hb57 : Below w8.heap.size w8 w8 := Below.refl _ _
              have hbw8 : Below w8.heap.size w8 w8 := Below.refl _ _
              clear hb57
              have H5W : Hid (w8.heap[gw]? = some (.cells #[.int .i64 (fr : Int), .int .i64 ((dr : Int) - 1), .slice a0 (told T).length c0] 28 (0, 0))) := (hbw8.block _ (heap_lt H4W.out)).trans H4W.out
              have H5S : Hid (w8.heap[w3.heap.size]? = some (.cells #[.int .i64 (fr : Int), .int .i64 ((dr : Int) - 1), .slice sa NN sc] 28 (0, 0))) := (hbw8.block _ (heap_lt H4S.out)).trans H4S.out
              obtain ⟨t0', t1', t2'⟩ := cells3t H5S.out
              obtain ⟨v0', v1', v2'⟩ := cells3t H5W.out
              have fzw' : ∀ j, w8.frozen? ⟨gw, j, none⟩ = false := fun j => frozen_of_heap H5W.out
              have HREL : Hid (Lp w1 (((w8.setCell ⟨gw, 0, none⟩ (.int .i64 (fr : Int))).setCell ⟨gw, 1, none⟩ (.int .i64 ((dr : Int) - 1))).setCell ⟨gw, 2, none⟩ (.slice sa NN sc)) b q gw fr dr (i + 1)) := by
                obtain ⟨dp', hv'⟩ := HV1.out
                have hNN := HNN.out
                subst hNN
                exact lp_next hv' HFR.out HDR.out (HT4.out.below hbw8) (owns_keep HS4.out (fun g hg => hbw8.block _ (HS4.out.lt g hg).2)) H5W.out HLW.out (below_on hbw8 HBW4.out)
              clear hbw8
              go_wp2
              go_roundg (len - (i + 1))
              case measure => omega
              case rel => exact ⟨i + 1, by omega, rfl, HREL.out⟩
      · have hr := HREF.out hc
        unfold ref at hr
        simp only [Prod.mk.injEq] at hr
        obtain ⟨hr1, hr2, hr3⟩ := hr
        have HTE : Hid (T1 = T) := hr3
        unfold Rs.no at hr1
        unfold Ef.no at hr2
        simp only [Rs.mk.injEq, Ef.mk.injEq] at hr1 hr2
        obtain ⟨-, rfl, rfl, rfl, rfl⟩ := hr1
        obtain ⟨rfl, rfl, rfl, rfl, rfl, rfl, rfl⟩ := hr2
        obtain ⟨hO1, hvn⟩ := HO1.out
        simp only [List.length_nil] at hvn
        subst hvn
        have hcb : (cd != 0) = true := by simp [hc]
        clear HREF HLK hr3 hO1 hc
        obtain ⟨W2, hW2, hb2, k20, k21⟩ := two_new w1z #[.int .i64 cd, .string e0, .int .i64 0, .slice va 0 vc, .int .i64 0, .int .i64 0] #[.int .i64 0, .int .i64 (-1), .int .i64 (-1), .int .i64 0, .int .i64 0, .string e0, .int .i64 0] 33 35
        have HW2 : Hid _ := hW2
        have HT2 : Hid _ := HT1.out.below hb2
        have HK2 : Hid (Kp wr W2) := HK1.out.trans (Kp.of hb2)
        have HBW2 : Hid (Below w1.heap.size w1 W2) := HB1.out.trans (hb2.mono HB1.out.size)
        have hst := state_tre W2 w1.heap.size b q _ T1 HT2.out (by rw [HDR.out]; exact HDR1.out)
        rw [HFR.out, HDR.out] at hst
        obtain ⟨NN, hNN⟩ : ∃ NN, (told T1).length = NN := ⟨_, rfl⟩
        have HNN : Hid _ := hNN
        rw [hNN] at hst
        have HK20 : Hid _ := k20
        have HK21 : Hid _ := k21
        clear hW2 hb2 k20 k21 hNN
        go_wp2_with fail
        rw [HW2.out]
        refine hst.mono ?_
        rintro e w3 ⟨sa, sc, rfl, HS3, hb3, hle3⟩
        obtain ⟨W4, hW4, hb4, k4⟩ := one_new w3 #[.int .i64 (fr : Int), .int .i64 ((dr : Int) - 1), .slice sa NN sc] 28
        have HW4 : Hid _ := hW4
        have hb24 : Below W2.heap.size W2 W4 := below_on hb4 hb3
        have HT4 : Hid _ := HT2.out.below hb24
        have HK4 : Hid (Kp wr W4) := HK2.out.trans (Kp.of hb24)
        have HBW4 : Hid (Below w1.heap.size w1 W4) := HBW2.out.trans (hb24.mono HBW2.out.size)
        have HS4 : Hid (W4.ownsRow w1.heap.size 50 5 (.slice sa NN sc) NN (ndsc (told T1))) := owns_base (owns_keep HS3.out (fun g hg => hb4.block _ (HS3.out.lt g hg).2)) HBW2.out.size
        have H40 : Hid (W4.heap[w1z.heap.size]? = some (.cells #[.int .i64 cd, .string e0, .int .i64 0, .slice va 0 vc, .int .i64 0, .int .i64 0] 33 (0, 0))) := (hb24.block _ (heap_lt HK20.out)).trans HK20.out
        have H41 : Hid (W4.heap[w1z.heap.size + 1]? = some (.cells #[.int .i64 0, .int .i64 (-1), .int .i64 (-1), .int .i64 0, .int .i64 0, .string e0, .int .i64 0] 35 (0, 0))) := (hb24.block _ (heap_lt HK21.out)).trans HK21.out
        have H4W : Hid _ := HK4.out _ _ _ HGW.out (by decide)
        have H4S : Hid _ := k4
        obtain ⟨r0, r1, r2, r3, r4, r5⟩ := cells6 H40.out
        obtain ⟨x0, x1, x2, x3, x4, x5, x6⟩ := cells7 H41.out
        obtain ⟨t0, t1, t2⟩ := cells3t k4
        obtain ⟨v0, v1, v2⟩ := cells3t H4W.out
        obtain ⟨pb', po', epo, hpb, p0, -⟩ := (HOP.out.below HBW4.out).at_ i _ HOI.out
        injection epo with epo
        injection epo with epo1 epo2
        subst epo1
        subst epo2
        have fzw : ∀ j, W4.frozen? ⟨gw, j, none⟩ = false := fun j => frozen_of_heap H4W.out
        clear hW4 hb4 k4 hb3 hb24 hst
        go_upto_region 10 with fail
        rw [HW4.out]
        have HSM : Hid (∀ V, Below W4.heap.size W4 V → T1 = T → Calls Tryz.prog 16 #[.agg #[.int .i64 (fr : Int), .int .i64 ((dr : Int) - 1), .slice sa NN sc], .agg #[.int .i64 (fr : Int), .int .i64 ((dr : Int) - 1), .slice a0 (told T).length c0]] V fun e w' => e = .returned (.bool true) ∧ Below V.heap.size V w') := fun V hb hTT => by
          have hNN := HNN.out
          rw [hTT] at hNN
          have hS := HS4.out
          rw [hTT] at hS
          subst hNN
          exact sameState_any V w1.heap.size w1.heap.size fr ((dr : Int) - 1) sa a0 _ sc c0 (told T) rfl (owns_keep hS fun g hg => hb.block _ (hS.lt g hg).2) (by
            have h4 := owns_kp HRW.out HK4.out (by decide)
            exact owns_keep h4 fun g hg => hb.block _ (h4.lt g hg).2) hle3
        by_cases h9 : ok = 9
        · skip
          have b9 : (ok == 9) = true := by simp [h9]
          go_wp2_with fail
          refine (num_any cd W4).mono ?_
          rintro e w5 ⟨rfl, rfl⟩
          go_wp2_with fail
          refine (bare_any w5 cd va vc).mono ?_
          rintro e w6 ⟨rfl, hb6⟩
          have H61 : Hid (w6.heap[w1z.heap.size + 1]? = _) := (hb6.block _ (heap_lt H41.out)).trans H41.out
          obtain ⟨z0, z1, z2, z3, z4, z5, z6⟩ := cells7 H61.out
          go_wp2_with fail
          refine (quiet12_any w6).mono ?_
          rintro e w7 ⟨rfl, hb7⟩
          have hb57 : Below w5.heap.size w5 w7 := below_on hb7 hb6
          have H70 : Hid (w7.heap[w1z.heap.size]? = _) := (hb57.block _ (heap_lt H40.out)).trans H40.out
          have r70 := (cells6 H70.out).1
          obtain ⟨pb', po', epo, hpb7, p07, -⟩ := (HOP.out.below (below_on hb57 HBW4.out)).at_ i _ HOI.out
          injection epo with epo
          injection epo with epo1 epo2
          subst epo1
          subst epo2
          go_wp2_with fail
          refine (num_any cd w7).mono ?_
          rintro e w8 ⟨rfl, rfl⟩
          have H8S : Hid (w8.heap[w3.heap.size]? = _) := (hb57.block _ (heap_lt H4S.out)).trans H4S.out
          have H8W : Hid (w8.heap[gw]? = _) := (hb57.block _ (heap_lt H4W.out)).trans H4W.out
          obtain ⟨s0, s1, s2⟩ := cells3t H8S.out
          obtain ⟨y0, y1, y2⟩ := cells3t H8W.out
          have hsm := HSM.out w8 hb57 HTE.out
          go_wp2_with fail
          refine hsm.mono ?_
          rintro e w9 ⟨rfl, hb89⟩
          have hbw9 : Below w5.heap.size w5 w9 := below_on hb89 hb57
          have H5W : Hid (w9.heap[gw]? = some (.cells #[.int .i64 (fr : Int), .int .i64 ((dr : Int) - 1), .slice a0 (told T).length c0] 28 (0, 0))) := (hbw9.block _ (heap_lt H4W.out)).trans H4W.out
          have H5S : Hid (w9.heap[w3.heap.size]? = some (.cells #[.int .i64 (fr : Int), .int .i64 ((dr : Int) - 1), .slice sa NN sc] 28 (0, 0))) := (hbw9.block _ (heap_lt H4S.out)).trans H4S.out
          obtain ⟨t0', t1', t2'⟩ := cells3t H5S.out
          obtain ⟨v0', v1', v2'⟩ := cells3t H5W.out
          have fzw' : ∀ j, w9.frozen? ⟨gw, j, none⟩ = false := fun j => frozen_of_heap H5W.out
          have HREL : Hid (Lp w1 (((w9.setCell ⟨gw, 0, none⟩ (.int .i64 (fr : Int))).setCell ⟨gw, 1, none⟩ (.int .i64 ((dr : Int) - 1))).setCell ⟨gw, 2, none⟩ (.slice sa NN sc)) b q gw fr dr (i + 1)) := by
            obtain ⟨dp', hv'⟩ := HV1.out
            have hNN := HNN.out
            subst hNN
            exact lp_next hv' HFR.out HDR.out (HT4.out.below hbw9) (owns_keep HS4.out (fun g hg => hbw9.block _ (HS4.out.lt g hg).2)) H5W.out HLW.out (below_on hbw9 HBW4.out)
          clear hbw9
          go_wp2
          go_roundg (len - (i + 1))
          case measure => omega
          case rel => exact ⟨i + 1, by omega, rfl, HREL.out⟩
        · by_cases h10 : ok = 10
          · skip
            have b9 : (ok == 9) = false := by simp [h9]
            have b10 : (ok == 10) = true := by simp [h10]
            go_wp2_with fail
            refine (num_any cd W4).mono ?_
            rintro e w5 ⟨rfl, rfl⟩
            go_wp2_with fail
            refine (bare_any w5 cd va vc).mono ?_
            rintro e w6 ⟨rfl, hb6⟩
            have H61 : Hid (w6.heap[w1z.heap.size + 1]? = _) := (hb6.block _ (heap_lt H41.out)).trans H41.out
            obtain ⟨z0, z1, z2, z3, z4, z5, z6⟩ := cells7 H61.out
            go_wp2_with fail
            refine (quiet12_any w6).mono ?_
            rintro e w7 ⟨rfl, hb7⟩
            have hb57 : Below w5.heap.size w5 w7 := below_on hb7 hb6
            have H70 : Hid (w7.heap[w1z.heap.size]? = _) := (hb57.block _ (heap_lt H40.out)).trans H40.out
            have r70 := (cells6 H70.out).1
            obtain ⟨pb', po', epo, hpb7, p07, -⟩ := (HOP.out.below (below_on hb57 HBW4.out)).at_ i _ HOI.out
            injection epo with epo
            injection epo with epo1 epo2
            subst epo1
            subst epo2
            go_wp2_with fail
            refine (num_any cd w7).mono ?_
            rintro e w8 ⟨rfl, rfl⟩
            have H8S : Hid (w8.heap[w3.heap.size]? = _) := (hb57.block _ (heap_lt H4S.out)).trans H4S.out
            have H8W : Hid (w8.heap[gw]? = _) := (hb57.block _ (heap_lt H4W.out)).trans H4W.out
            obtain ⟨s0, s1, s2⟩ := cells3t H8S.out
            obtain ⟨y0, y1, y2⟩ := cells3t H8W.out
            have hsm := HSM.out w8 hb57 HTE.out
            go_wp2_with fail
            refine hsm.mono ?_
            rintro e w9 ⟨rfl, hb89⟩
            have hbw9 : Below w5.heap.size w5 w9 := below_on hb89 hb57
            have H5W : Hid (w9.heap[gw]? = some (.cells #[.int .i64 (fr : Int), .int .i64 ((dr : Int) - 1), .slice a0 (told T).length c0] 28 (0, 0))) := (hbw9.block _ (heap_lt H4W.out)).trans H4W.out
            have H5S : Hid (w9.heap[w3.heap.size]? = some (.cells #[.int .i64 (fr : Int), .int .i64 ((dr : Int) - 1), .slice sa NN sc] 28 (0, 0))) := (hbw9.block _ (heap_lt H4S.out)).trans H4S.out
            obtain ⟨t0', t1', t2'⟩ := cells3t H5S.out
            obtain ⟨v0', v1', v2'⟩ := cells3t H5W.out
            have fzw' : ∀ j, w9.frozen? ⟨gw, j, none⟩ = false := fun j => frozen_of_heap H5W.out
            have HREL : Hid (Lp w1 (((w9.setCell ⟨gw, 0, none⟩ (.int .i64 (fr : Int))).setCell ⟨gw, 1, none⟩ (.int .i64 ((dr : Int) - 1))).setCell ⟨gw, 2, none⟩ (.slice sa NN sc)) b q gw fr dr (i + 1)) := by
              obtain ⟨dp', hv'⟩ := HV1.out
              have hNN := HNN.out
              subst hNN
              exact lp_next hv' HFR.out HDR.out (HT4.out.below hbw9) (owns_keep HS4.out (fun g hg => hbw9.block _ (HS4.out.lt g hg).2)) H5W.out HLW.out (below_on hbw9 HBW4.out)
            clear hbw9
            go_wp2
            go_roundg (len - (i + 1))
            case measure => omega
            case rel => exact ⟨i + 1, by omega, rfl, HREL.out⟩
          · by_cases h3 : ok = 3
            · skip
              have b9 : (ok == 9) = false := by simp [h9]
              have b10 : (ok == 10) = false := by simp [h10]
              have b3 : (ok == 3) = true := by simp [h3]
              go_wp2_with fail
              refine (num_any cd W4).mono ?_
              rintro e w5 ⟨rfl, rfl⟩
              go_wp2_with fail
              refine (bare_any w5 cd va vc).mono ?_
              rintro e w6 ⟨rfl, hb6⟩
              have H61 : Hid (w6.heap[w1z.heap.size + 1]? = _) := (hb6.block _ (heap_lt H41.out)).trans H41.out
              obtain ⟨z0, z1, z2, z3, z4, z5, z6⟩ := cells7 H61.out
              go_wp2_with fail
              refine (quiet12_any w6).mono ?_
              rintro e w7 ⟨rfl, hb7⟩
              have hb57 : Below w5.heap.size w5 w7 := below_on hb7 hb6
              have H70 : Hid (w7.heap[w1z.heap.size]? = _) := (hb57.block _ (heap_lt H40.out)).trans H40.out
              have r70 := (cells6 H70.out).1
              obtain ⟨pb', po', epo, hpb7, p07, -⟩ := (HOP.out.below (below_on hb57 HBW4.out)).at_ i _ HOI.out
              injection epo with epo
              injection epo with epo1 epo2
              subst epo1
              subst epo2
              go_wp2_with fail
              refine (num_any cd w7).mono ?_
              rintro e w8 ⟨rfl, rfl⟩
              have H8S : Hid (w8.heap[w3.heap.size]? = _) := (hb57.block _ (heap_lt H4S.out)).trans H4S.out
              have H8W : Hid (w8.heap[gw]? = _) := (hb57.block _ (heap_lt H4W.out)).trans H4W.out
              obtain ⟨s0, s1, s2⟩ := cells3t H8S.out
              obtain ⟨y0, y1, y2⟩ := cells3t H8W.out
              have hsm := HSM.out w8 hb57 HTE.out
              go_wp2_with fail
              refine hsm.mono ?_
              rintro e w9 ⟨rfl, hb89⟩
              have hbw9 : Below w5.heap.size w5 w9 := below_on hb89 hb57
              have H5W : Hid (w9.heap[gw]? = some (.cells #[.int .i64 (fr : Int), .int .i64 ((dr : Int) - 1), .slice a0 (told T).length c0] 28 (0, 0))) := (hbw9.block _ (heap_lt H4W.out)).trans H4W.out
              have H5S : Hid (w9.heap[w3.heap.size]? = some (.cells #[.int .i64 (fr : Int), .int .i64 ((dr : Int) - 1), .slice sa NN sc] 28 (0, 0))) := (hbw9.block _ (heap_lt H4S.out)).trans H4S.out
              obtain ⟨t0', t1', t2'⟩ := cells3t H5S.out
              obtain ⟨v0', v1', v2'⟩ := cells3t H5W.out
              have fzw' : ∀ j, w9.frozen? ⟨gw, j, none⟩ = false := fun j => frozen_of_heap H5W.out
              have HREL : Hid (Lp w1 (((w9.setCell ⟨gw, 0, none⟩ (.int .i64 (fr : Int))).setCell ⟨gw, 1, none⟩ (.int .i64 ((dr : Int) - 1))).setCell ⟨gw, 2, none⟩ (.slice sa NN sc)) b q gw fr dr (i + 1)) := by
                obtain ⟨dp', hv'⟩ := HV1.out
                have hNN := HNN.out
                subst hNN
                exact lp_next hv' HFR.out HDR.out (HT4.out.below hbw9) (owns_keep HS4.out (fun g hg => hbw9.block _ (HS4.out.lt g hg).2)) H5W.out HLW.out (below_on hbw9 HBW4.out)
              clear hbw9
              go_wp2
              go_roundg (len - (i + 1))
              case measure => omega
              case rel => exact ⟨i + 1, by omega, rfl, HREL.out⟩
            · skip
              have b9 : (ok == 9) = false := by simp [h9]
              have b10 : (ok == 10) = false := by simp [h10]
              have b3 : (ok == 3) = false := by simp [h3]
              go_wp2_with fail
              refine (num_any cd W4).mono ?_
              rintro e w5 ⟨rfl, rfl⟩
              go_wp2_with fail
              refine (bare_any w5 cd va vc).mono ?_
              rintro e w6 ⟨rfl, hb6⟩
              have H61 : Hid (w6.heap[w1z.heap.size + 1]? = _) := (hb6.block _ (heap_lt H41.out)).trans H41.out
              obtain ⟨z0, z1, z2, z3, z4, z5, z6⟩ := cells7 H61.out
              go_wp2_with fail
              refine (quiet12_any w6).mono ?_
              rintro e w7 ⟨rfl, hb7⟩
              have hb57 : Below w5.heap.size w5 w7 := below_on hb7 hb6
              have H70 : Hid (w7.heap[w1z.heap.size]? = _) := (hb57.block _ (heap_lt H40.out)).trans H40.out
              have r70 := (cells6 H70.out).1
              obtain ⟨pb', po', epo, hpb7, p07, -⟩ := (HOP.out.below (below_on hb57 HBW4.out)).at_ i _ HOI.out
              injection epo with epo
              injection epo with epo1 epo2
              subst epo1
              subst epo2
              go_wp2_with fail
              refine (num_any cd w7).mono ?_
              rintro e w8 ⟨rfl, rfl⟩
              have H8S : Hid (w8.heap[w3.heap.size]? = _) := (hb57.block _ (heap_lt H4S.out)).trans H4S.out
              have H8W : Hid (w8.heap[gw]? = _) := (hb57.block _ (heap_lt H4W.out)).trans H4W.out
              obtain ⟨s0, s1, s2⟩ := cells3t H8S.out
              obtain ⟨y0, y1, y2⟩ := cells3t H8W.out
              have hsm := HSM.out w8 hb57 HTE.out
              go_wp2_with fail
              refine hsm.mono ?_
              rintro e w9 ⟨rfl, hb89⟩
              have hbw9 : Below w5.heap.size w5 w9 := below_on hb89 hb57
              have H5W : Hid (w9.heap[gw]? = some (.cells #[.int .i64 (fr : Int), .int .i64 ((dr : Int) - 1), .slice a0 (told T).length c0] 28 (0, 0))) := (hbw9.block _ (heap_lt H4W.out)).trans H4W.out
              have H5S : Hid (w9.heap[w3.heap.size]? = some (.cells #[.int .i64 (fr : Int), .int .i64 ((dr : Int) - 1), .slice sa NN sc] 28 (0, 0))) := (hbw9.block _ (heap_lt H4S.out)).trans H4S.out
              obtain ⟨t0', t1', t2'⟩ := cells3t H5S.out
              obtain ⟨v0', v1', v2'⟩ := cells3t H5W.out
              have fzw' : ∀ j, w9.frozen? ⟨gw, j, none⟩ = false := fun j => frozen_of_heap H5W.out
              have HREL : Hid (Lp w1 (((w9.setCell ⟨gw, 0, none⟩ (.int .i64 (fr : Int))).setCell ⟨gw, 1, none⟩ (.int .i64 ((dr : Int) - 1))).setCell ⟨gw, 2, none⟩ (.slice sa NN sc)) b q gw fr dr (i + 1)) := by
                obtain ⟨dp', hv'⟩ := HV1.out
                have hNN := HNN.out
                subst hNN
                exact lp_next hv' HFR.out HDR.out (HT4.out.below hbw9) (owns_keep HS4.out (fun g hg => hbw9.block _ (HS4.out.lt g hg).2)) H5W.out HLW.out (below_on hbw9 HBW4.out)
              clear hbw9
              go_wp2
              go_roundg (len - (i + 1))
              case measure => omega
              case rel => exact ⟨i + 1, by omega, rfl, HREL.out⟩
    · obtain rfl : i = len := by omega
      obtain ⟨-, -, -, -, -, -, -, -, -, -, -, hbw⟩ := HL.out
      have HBw : Hid _ := hbw
      clear HL hbw
      go_wp2
      go_ret
      exact ⟨rfl, HBw.out⟩

end Go.Proofs.YtcbmkijjbkjkpaaGreatDoor.Tr
