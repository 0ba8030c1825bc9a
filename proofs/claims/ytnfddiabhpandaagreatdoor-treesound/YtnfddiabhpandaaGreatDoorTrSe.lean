import Derived.Test.YtnfddiabhpandaaGreatDoorTrSd
import Derived.Test.YtnfddiabhpandaaGreatDoorTrKw
import Derived.Test.YtnfddiabhpandaaGreatDoorLaM
namespace Go.Proofs.YtnfddiabhpandaaGreatDoor.Tr
open Go.RowKit Go.Lib Go.Deep

/-- where TreeSound is, before its round i -/
def Sdw (w wr : World) (b q f d m i : Nat) : Prop := ∃ (T : Ts) (dp : Nat → Nat), Tre wr w.heap.size b q (2 + i) T ∧ Inv T dp ∧ T.fr = f ∧ T.dr = d + 1 ∧ T.most = m ∧ Below w.heap.size w wr
set_option maxRecDepth 20000 in
set_option maxHeartbeats 8000000 in
theorem sound_walk (w : World) (n0 n1 n2 : Int) (h0 : -9223372036854775808 ≤ n0 ∧ n0 ≤ 9223372036854775807) (h1 : -9223372036854775808 ≤ n1 ∧ n1 ≤ 9223372036854775807) (h2 : -9223372036854775808 ≤ n2 ∧ n2 ≤ 9223372036854775807) (a : Option Addr) (len c : Nat) (O : List Op) (hO : IsO w a len O) (hlen : len ≤ 8796093022000) :
    Calls Tryz.prog 6 #[.int .i64 n0, .int .i64 n1, .int .i64 n2, .slice a len c] w fun e w' => e = .returned (.bool true) ∧ Below w.heap.size w w' := by
  obtain ⟨f, hf⟩ : ∃ f : Nat, (1 : Int) + n0 % (40 - 1 + 1) = f := ⟨((1 : Int) + n0 % (40 - 1 + 1)).toNat, by omega⟩
  obtain ⟨d, hd⟩ : ∃ d : Nat, (0 : Int) + n1 % (40 - 0 + 1) = d := ⟨((0 : Int) + n1 % (40 - 0 + 1)).toNat, by omega⟩
  obtain ⟨m, hm⟩ : ∃ m : Nat, (0 : Int) + n2 % (1000 - 0 + 1) = m := ⟨((0 : Int) + n2 % (1000 - 0 + 1)).toNat, by omega⟩
  have hc0 := clipped_any n0 1 40 h0 (by omega) (by omega) (by omega) w
  have hc1 := clipped_any n1 0 40 h1 (by omega) (by omega) (by omega) w
  have hc2 := clipped_any n2 0 1000 h2 (by omega) (by omega) (by omega) w
  rw [hf] at hc0
  rw [hd] at hc1
  rw [hm] at hc2
  have hpl := planted_any w f d m (by omega) (by omega) (by omega) (by omega)
  have HF1 : Hid (1 ≤ f ∧ f ≤ 40 ∧ d ≤ 40 ∧ m ≤ 1000) := by refine ⟨?_, ?_, ?_, ?_⟩ <;> omega
  have HOP : Hid (IsO w a len O) := hO
  have HLEN : Hid (O.length = len) := hO.hl
  clear hO hf hd hm
  go_enter Tryz.func6, Tryz.ntmps6
  go_wp2_with fail
  refine hc0.mono ?_
  rintro e w1 ⟨rfl, rfl⟩
  go_wp2_with fail
  refine hc1.mono ?_
  rintro e w1 ⟨rfl, rfl⟩
  go_wp2_with fail
  refine hc2.mono ?_
  rintro e w1 ⟨rfl, rfl⟩
  go_wp2_with fail
  refine hpl.mono ?_
  rintro e w2 ⟨b, q, T0, rfl, HT0, HF0, hb2⟩
  have HL0 : Hid (Sdw w1 w2 b q f d m 0) := by
    obtain ⟨e1, e2, e3, _, dp0, hv0⟩ := HF0.out
    exact ⟨T0, dp0, HT0.out, hv0, e1, e2, e3, hb2⟩
  clear hb2 HF0 HT0 hc0 hc1 hc2 hpl h0 h1 h2
  go_wp2_with fail
  go_loopg [13] len (fun gk iv wr => ∃ (i : Nat), i + gk = len ∧ iv = .int .i64 (i : Int) ∧ Hid (Sdw w1 wr b q f d m i))
  case atStart => exact ⟨0, by omega, rfl, HL0.out⟩
  case round =>
    obtain ⟨i, hik, rfl, HL⟩ := hrel
    clear HL0
    by_cases hlt : i < len
    · have hltI : (i : Int) < (len : Int) := by omega
      have w1' : IntKind.i64.wrap ((i : Int) + 1) = ((i + 1 : Nat) : Int) := by rw [IntKind.wrap_i64]; omega
      obtain ⟨T, dp, HT0, hv, hfr, hdr, hms, hbw⟩ := HL.out
      have HBw : Hid _ := hbw
      obtain ⟨o, ho⟩ : ∃ o, O[i]? = some o := ⟨_, List.getElem?_eq_getElem (by have := HLEN.out; omega)⟩
      obtain ⟨pb, po, rfl, hpb0, p0', p1', p2', p3', p4', p5'⟩ := (HOP.out.below hbw).at_ i o ho
      have hbd := HOP.out.bd o (List.mem_of_getElem? ho)
      have hdo := do_tre wr w1.heap.size b q (2 + i) T dp o HT0 hbw.size hv (by omega) hbd.1 hbd.2
      have HVA : Hid (∃ dp, Inv (doT T o).2.2 dp) := inv_do hv o
      have HRM : Hid ((doT T o).2.2.fr = f ∧ (doT T o).2.2.dr = d + 1 ∧ (doT T o).2.2.most = m) := by
        obtain ⟨r1, r2, r3⟩ := do_room (T := T) (o := o)
        exact ⟨r1.trans hfr, r2.trans hdr, r3.trans hms⟩
      obtain ⟨A, hA⟩ : ∃ A, doT T o = A := ⟨_, rfl⟩
      rw [hA] at hdo HVA HRM
      obtain ⟨⟨cd, rn, rnm, rk, rz⟩, ⟨f0, f1, f2, f3, f4, f5, f6⟩, T1⟩ := A
      obtain ⟨ok, op, ot, oa, on, od⟩ := o
      simp only at hdo p0' p1' p2' p3' p4' p5' HVA HRM
      clear hA ho hbd hv hbw HT0 HL hpb0 hfr hdr hms
      go_wp2_with fail
      refine hdo.mono ?_
      rintro e w3 ⟨va, vn, vc, rfl, HO3, HT3, HKP3, HB3⟩
      clear p0' p1' p2' p3' p4' p5' hdo HO3 HKP3
      have HB13 : Hid (Below w1.heap.size w1 w3) := HBw.out.trans HB3.out
      have hst := state_tre w3 w1.heap.size b q _ T1 HT3.out (by have := HRM.out.2.1; omega)
      obtain ⟨NN, hNN⟩ : ∃ NN, (told T1).length = NN := ⟨_, rfl⟩
      have HNN : Hid ((told T1).length = NN) := hNN
      rw [hNN, HRM.out.1, HRM.out.2.1, show ((d + 1 : Nat) : Int) - 1 = (d : Int) by omega] at hst
      clear hNN HBw HB3
      go_wp2_with fail
      refine hst.mono ?_
      rintro e w4 ⟨a0, c0, rfl, HS0, hb4, hle0⟩
      obtain ⟨W5, hW5, hb5, k5⟩ := one_new w4 #[.int .i64 (f : Int), .int .i64 (d : Int), .slice a0 NN c0] 28
      have hsd : Calls Tryz.prog 23 #[.agg #[.int .i64 (f : Int), .int .i64 (d : Int), .slice a0 NN c0], .int .i64 (m : Int)] W5 fun e w' => e = .returned (.bool true) ∧ Below W5.heap.size W5 w' := by
        obtain ⟨dp1, hv1⟩ := HVA.out
        have h9 := sound_any W5 w3.heap.size T1 dp1 hv1 a0 NN c0 HNN.out.symm (owns_keep HS0.out fun g hg => hb5.block _ (HS0.out.lt g hg).2) hle0
        rw [HRM.out.1, HRM.out.2.1, HRM.out.2.2, show ((d + 1 : Nat) : Int) - 1 = (d : Int) by omega] at h9
        exact h9
      have HREL : Hid (∀ V, Below W5.heap.size W5 V → Sdw w1 V b q f d m (i + 1)) := fun V hb => by
        obtain ⟨dp1, hv1⟩ := HVA.out
        exact ⟨T1, dp1, ((HT3.out.below hb4).below hb5).below hb, hv1, HRM.out.1, HRM.out.2.1, HRM.out.2.2, below_on hb (below_on hb5 (below_on hb4 HB13.out))⟩
      have HW5 : Hid _ := hW5
      have x0 : W5.cell? ⟨w4.heap.size, 0, none⟩ = some (.int .i64 (f : Int)) := (cell_of_heap k5).trans rfl
      have x1 : W5.cell? ⟨w4.heap.size, 1, none⟩ = some (.int .i64 (d : Int)) := (cell_of_heap k5).trans rfl
      have x2 : W5.cell? ⟨w4.heap.size, 2, none⟩ = some (.slice a0 NN c0) := (cell_of_heap k5).trans rfl
      clear hW5 hb5 hb4 k5 HS0 hst HT3 HVA HRM HNN HB13
      go_upto_region 12 with fail
      rw [HW5.out]
      clear HW5
      go_wp2_with fail
      refine hsd.mono ?_
      rintro e w6 ⟨rfl, hb6⟩
      have HREL6 : Hid _ := HREL.out _ hb6
      clear x0 x1 x2 hsd hb6 HREL
      go_wp2
      go_roundg (len - (i + 1))
      case measure => omega
      case rel => exact ⟨i + 1, by omega, rfl, HREL6.out⟩
    · obtain rfl : i = len := by omega
      have hltI : ¬ (i : Int) < (i : Int) := by omega
      obtain ⟨T, dp, HT0, hv, hfr, hdr, hms, hbw⟩ := HL.out
      have HT : Hid _ := HT0
      have HV : Hid (Inv T dp ∧ T.fr = f ∧ T.dr = d + 1 ∧ T.most = m) := ⟨hv, hfr, hdr, hms⟩
      have HBw : Hid (Below w1.heap.size w1 wr) := hbw
      have hst := state_tre wr w1.heap.size b q _ T HT0 (by omega)
      obtain ⟨NN, hNN⟩ : ∃ NN, (told T).length = NN := ⟨_, rfl⟩
      have HNN : Hid ((told T).length = NN) := hNN
      rw [hNN, hfr, hdr, show ((d + 1 : Nat) : Int) - 1 = (d : Int) by omega] at hst
      clear hNN HT0 hv hfr hdr hms hbw HL hik
      go_wp2_with fail
      refine hst.mono ?_
      rintro e w4 ⟨a0, c0, rfl, HS0, hb4, hle0⟩
      obtain ⟨W5, hW5, hb5, k5⟩ := one_new w4 #[.int .i64 (f : Int), .int .i64 (d : Int), .slice a0 NN c0] 28
      have HR5 : Hid (W5.ownsRow wr.heap.size 50 5 (.slice a0 NN c0) NN (ndsc (told T))) := owns_keep HS0.out fun g hg => hb5.block _ (HS0.out.lt g hg).2
      have HB5 : Hid (Below w1.heap.size w1 W5) := below_on hb5 (below_on hb4 HBw.out)
      have HK5 : Hid (∀ V, Below W5.heap.size W5 V → V.cell? ⟨w4.heap.size, 0, none⟩ = some (.int .i64 (f : Int)) ∧ V.cell? ⟨w4.heap.size, 1, none⟩ = some (.int .i64 (d : Int)) ∧ V.cell? ⟨w4.heap.size, 2, none⟩ = some (.slice a0 NN c0)) := fun V hV => by
        have k6 := (hV.block _ (heap_lt k5)).trans k5
        exact ⟨(cell_of_heap k6).trans rfl, (cell_of_heap k6).trans rfl, (cell_of_heap k6).trans rfl⟩
      have hld := load_tre W5 f d m HF1.out.1 (by have := HF1.out; omega) (by have := HF1.out; omega) (by have := HF1.out; omega) T dp HV.out.1 HV.out.2.1 HV.out.2.2.1 (fun x hx => by have := (told_size HV.out.1 hx).1; have := HV.out.2.2.2; omega) wr.heap.size a0 NN c0 HNN.out.symm HR5.out hle0
      obtain ⟨x0, x1, x2⟩ := HK5.out W5 (Below.refl _ _)
      have HW5 : Hid _ := hW5
      clear hW5 hb5 hb4 k5 HS0 hst HT HBw
      go_upto_region 15 with fail
      rw [HW5.out]
      clear HW5
      go_wp2_with fail
      refine hld.mono ?_
      rintro e w6 ⟨b2, q2, rfl, HT6, hb6⟩
      have hbd : Below w6.heap.size w6 w6.drew := (Below.refl _ _).drew
      have hst2 := state_tre w6.drew W5.heap.size b2 q2 _ (ldT f d m T) (HT6.out.below hbd) (by have := (ld_stay f d m T).2.1; omega)
      obtain ⟨s1, s2, s3⟩ := ld_stay f d m T
      rw [ld_told HV.out.1, HNN.out, s1, s2, show ((d + 1 : Nat) : Int) - 1 = (d : Int) by omega] at hst2
      have HB6 : Hid (Below w1.heap.size w1 w6) := below_on hb6 HB5.out
      have HR6 : Hid (w6.ownsRow wr.heap.size 50 5 (.slice a0 NN c0) NN (ndsc (told T))) := owns_keep HR5.out fun g hg => hb6.block _ (HR5.out.lt g hg).2
      have HB56 : Hid (Below W5.heap.size W5 w6) := hb6
      clear s1 s2 s3 hld hb6 x0 x1 x2 HT6 HR5 HB5
      have HSM : Hid (∀ V a2 c2, Below w6.heap.size w6 V → V.ownsRow w6.heap.size 50 5 (.slice a2 NN c2) NN (ndsc (told T)) → Calls Tryz.prog 16 #[.agg #[.int .i64 (f : Int), .int .i64 (d : Int), .slice a2 NN c2], .agg #[.int .i64 (f : Int), .int .i64 (d : Int), .slice a0 NN c0]] V fun e w' => e = .returned (.bool true) ∧ Below V.heap.size V w') := fun V a2 c2 hV hr => sameState_any V w6.heap.size wr.heap.size (f : Int) (d : Int) a2 a0 NN c2 c0 (told T) HNN.out.symm hr (owns_keep HR6.out fun g hg => hV.block _ (HR6.out.lt g hg).2) hle0
      have HKS : Hid (∀ V, Below w6.heap.size w6 V → V.cell? ⟨w4.heap.size, 0, none⟩ = some (.int .i64 (f : Int)) ∧ V.cell? ⟨w4.heap.size, 1, none⟩ = some (.int .i64 (d : Int)) ∧ V.cell? ⟨w4.heap.size, 2, none⟩ = some (.slice a0 NN c0)) := fun V hV => HK5.out V (below_on hV HB56.out)
      clear HK5
      go_wp2_with fail
      go_region_held_law (fun V => V.cell? ⟨w4.heap.size, 0, none⟩ = some (.int .i64 (f : Int)) ∧ V.cell? ⟨w4.heap.size, 1, none⟩ = some (.int .i64 (d : Int)) ∧ V.cell? ⟨w4.heap.size, 2, none⟩ = some (.slice a0 NN c0)) (first | exact HKS.out _ hb9 | exact HKS.out _ hb8 | exact HKS.out _ hbd) (first | (go_at_call 16; refine (HSM.out w8 a8 c8 hb8 HS8.out).mono ?_; rintro e w9 ⟨rfl, hb9'⟩; have hb9 := below_on hb9' hb8) | (go_at_call 11; refine hst2.mono ?_; rintro e w8 ⟨a8, c8, rfl, HS8, hb8', hle8⟩; have hb8 := below_on hb8' hbd) | (go_at_call 13; refine (num_any 0 _).mono ?_; rintro e w7 ⟨rfl, hw7⟩; subst w7))
      have HB9 : Hid (Below w1.heap.size w1 w9) := below_on hb9 HB6.out
      clear hb9 hb9' hb8 hb8' hst2
      go_wp2
      go_ret
      exact ⟨rfl, HB9.out⟩

end Go.Proofs.YtnfddiabhpandaaGreatDoor.Tr
