import Derived.Test.YthmjjpaengackaaPcD
namespace Go.Proofs.Ythmjjpaengackaa.Po
open Go.RowKit Go.Lib Go.Deep

theorem SeeO.all {w : World} {a : Option Addr} {n c : Nat} {ops : List Ops} (h : SeeO w (.slice a n c) n ops) {i : Nat} {o : Ops} (ho : ops[i]? = some o) : ∃ g f, a = some ⟨g, f, none⟩ ∧ ∀ V : World, Below w.heap.size w V → V.cell? ⟨g, f + i * 9, none⟩ = some (.int .i64 o.kd) ∧ V.cell? ⟨g, f + i * 9 + 1, none⟩ = some (.int .i64 o.at_) ∧ V.cell? ⟨g, f + i * 9 + 2, none⟩ = some (.int .i64 o.a) ∧ V.cell? ⟨g, f + i * 9 + 3, none⟩ = some (.int .i64 o.b) ∧ V.cell? ⟨g, f + i * 9 + 4, none⟩ = some (.int .i64 o.bk) ∧ V.cell? ⟨g, f + i * 9 + 5, none⟩ = some (.string o.nm) ∧ V.cell? ⟨g, f + i * 9 + 6, none⟩ = some (.string o.tg) ∧ V.cell? ⟨g, f + i * 9 + 7, none⟩ = some o.ov ∧ V.cell? ⟨g, f + i * 9 + 8, none⟩ = some o.qv := by
  obtain ⟨g, f, e, -⟩ := h.at_ ho
  refine ⟨g, f, e, fun V hV => ?_⟩
  obtain ⟨g', f', e', r⟩ := (h.below hV).at_ ho
  rw [e] at e'
  injection e' with e'
  injection e' with e1 e2
  subst e1 e2
  exact r
abbrev C9 (V : World) (g f i : Nat) (kd at_ a b bk : Int) (nm tg : ByteArray) (ov qv : Value) : Prop := V.cell? ⟨g, f + i * 9, none⟩ = some (.int .i64 kd) ∧ V.cell? ⟨g, f + i * 9 + 1, none⟩ = some (.int .i64 at_) ∧ V.cell? ⟨g, f + i * 9 + 2, none⟩ = some (.int .i64 a) ∧ V.cell? ⟨g, f + i * 9 + 3, none⟩ = some (.int .i64 b) ∧ V.cell? ⟨g, f + i * 9 + 4, none⟩ = some (.int .i64 bk) ∧ V.cell? ⟨g, f + i * 9 + 5, none⟩ = some (.string nm) ∧ V.cell? ⟨g, f + i * 9 + 6, none⟩ = some (.string tg) ∧ V.cell? ⟨g, f + i * 9 + 7, none⟩ = some ov ∧ V.cell? ⟨g, f + i * 9 + 8, none⟩ = some qv
/-- a step of a script done to two of them that are alike -/
theorem Grp.two {w wr : World} {L : List Pl} (h : Grp w wr L) {i1 i2 : Nat} (hne : i1 ≠ i2) {pb1 q1 pb2 q2 nn : Nat} {S : Ps} (h1 : L[i1]? = some ⟨pb1, q1, nn, S⟩) (h2 : L[i2]? = some ⟨pb2, q2, nn, S⟩) {ad : Option Addr} {n c : Nat} {ops : List Ops} (hO : SeeO w (.slice ad n c) n ops) {j : Nat} (hj : j < n) (hN : nn + 1 < 9223372036854775800) :
    ∃ g fo kd at_ a b bk nm tg x1 m1 e1 x2 m2 e2 S', ad = some ⟨g, fo, none⟩ ∧ C9 wr g fo j kd at_ a b bk nm tg (.slice x1 m1 e1) (.slice x2 m2 e2) ∧ Calls Try.prog 8 #[.pointer (some ⟨pb1, 0, none⟩), .agg #[.int .i64 kd, .int .i64 at_, .int .i64 a, .int .i64 b, .int .i64 bk, .string nm, .string tg, .slice x1 m1 e1, .slice x2 m2 e2]] wr fun r w' => r = .returned (.tuple #[]) ∧ C9 w' g fo j kd at_ a b bk nm tg (.slice x1 m1 e1) (.slice x2 m2 e2) ∧
      Calls Try.prog 8 #[.pointer (some ⟨pb2, 0, none⟩), .agg #[.int .i64 kd, .int .i64 at_, .int .i64 a, .int .i64 b, .int .i64 bk, .string nm, .string tg, .slice x1 m1 e1, .slice x2 m2 e2]] w' fun r w'' => r = .returned (.tuple #[]) ∧ Hid (Grp w w'' ((L.set i1 ⟨pb1, q1, nn + 1, S'⟩).set i2 ⟨pb2, q2, nn + 1, S'⟩)) := by
  obtain ⟨o, hko⟩ : ∃ o, ops[j]? = some o := ⟨_, List.getElem?_eq_getElem (by have := hO.len; omega)⟩
  obtain ⟨g, fo, rfl, hc⟩ := hO.all hko
  have hok := hO.ok j o hko
  have d1 := h.does h1 o hok hN
  have hx := hc wr h.1
  obtain ⟨⟨x1, m1, e1, hv1⟩, ⟨x2, m2, e2, hv2⟩, -, -⟩ := id hok
  unfold opV at d1
  rw [hv1, hv2] at d1 hx
  refine ⟨g, fo, o.kd, o.at_, o.a, o.b, o.bk, o.nm, o.tg, x1, m1, e1, x2, m2, e2, doS S o, rfl, hx, d1.mono ?_⟩
  rintro r w' ⟨rfl, G'⟩
  have hx' := hc w' G'.out.1
  have d2 := G'.out.does (i := i2) (e := ⟨pb2, q2, nn, S⟩) (by rw [List.getElem?_set, if_neg hne]; exact h2) o hok hN
  unfold opV at d2
  rw [hv1, hv2] at d2 hx'
  exact ⟨rfl, hx', d2⟩
set_option maxRecDepth 20000 in
set_option maxHeartbeats 4000000 in
theorem copies_walk (w : World) (f s : Int) (sv1 sv2 sv3 : Value) (n1 n2 n3 : Nat) (ops1 ops2 ops3 : List Ops) (hO1 : SeeO w sv1 n1 ops1) (hO2 : SeeO w sv2 n2 ops2) (hO3 : SeeO w sv3 n3 ops3) (hl1 : n1 ≤ 1180000000000) (hl2 : n2 ≤ 1180000000000) (hl3 : n3 ≤ 1180000000000) :
    Calls Try.prog 4 #[.int .i64 f, .int .i64 s, sv1, sv2, sv3] w fun e w' => e = .returned (.bool true) ∧ Below w.heap.size w w' := by
  obtain ⟨a1, k1, rfl, -⟩ := hO1.form
  obtain ⟨a2, k2, rfl, -⟩ := hO2.form
  obtain ⟨a3, k3, rfl, -⟩ := hO3.form
  have HO1 : Hid (SeeO w (.slice a1 n1 k1) n1 ops1) := hO1
  have HO2 : Hid (SeeO w (.slice a2 n2 k2) n2 ops2) := hO2
  have HO3 : Hid (SeeO w (.slice a3 n3 k3) n3 ops3) := hO3
  have c1 := (grp_nil w).fresh f s
  clear hO1 hO2 hO3
  go_enter Try.func4, Try.ntmps4
  go_wp2_with fail
  refine c1.mono ?_
  rintro e w1 ⟨pb1, q1, rfl, G1⟩
  have c2 := G1.out.fresh f s
  clear c1 G1
  go_wp2_with fail
  refine c2.mono ?_
  rintro e w2 ⟨pb2, q2, rfl, G2⟩
  have c3 := G2.out.fresh f s
  clear c2 G2
  go_wp2_with fail
  refine c3.mono ?_
  rintro e w3 ⟨pb3, q3, rfl, G3⟩
  have G3' : Hid (Grp w w3 [⟨pb1, q1, 0, freshP f s⟩, ⟨pb2, q2, 0, freshP f s⟩, ⟨pb3, q3, 0, freshP f s⟩]) := G3
  clear c3 G3
  go_wp2_with fail
  go_loopg [14] n1 (fun gk i wr => ∃ (k : Nat) (S : Ps), gk = n1 - k ∧ k ≤ n1 ∧ i = .int .i64 (k : Int) ∧ Grp w wr [⟨pb1, q1, k, S⟩, ⟨pb2, q2, k, S⟩, ⟨pb3, q3, k, S⟩])
  case atStart => exact ⟨0, _, by omega, by omega, rfl, G3'.out⟩
  case round =>
    clear G3'
    obtain ⟨k, S, hgk, hkn, rfl, hG⟩ := hrel
    by_cases hk : k < n1
    · have hkI : (k : Int) < (n1 : Int) := by omega
      obtain ⟨o, hko⟩ : ∃ o, ops1[k]? = some o := ⟨_, List.getElem?_eq_getElem (by have := HO1.out.len; omega)⟩
      obtain ⟨g, fo, rfl, hc⟩ := HO1.out.all hko
      have hok := HO1.out.ok k o hko
      have d1 := hG.does (i := 0) rfl o hok (by show k + 1 < _; omega)
      have D2 : Hid (∀ V, Grp w V [⟨pb1, q1, k + 1, doS S o⟩, ⟨pb2, q2, k, S⟩, ⟨pb3, q3, k, S⟩] → Calls Try.prog 8 #[.pointer (some ⟨pb2, 0, none⟩), opV o] V fun r w' => r = .returned (.tuple #[]) ∧ Hid (Grp w w' [⟨pb1, q1, k + 1, doS S o⟩, ⟨pb2, q2, k + 1, doS S o⟩, ⟨pb3, q3, k, S⟩])) := fun V hV => hV.does (i := 1) rfl o hok (by show k + 1 < _; omega)
      have D3 : Hid (∀ V, Grp w V [⟨pb1, q1, k + 1, doS S o⟩, ⟨pb2, q2, k + 1, doS S o⟩, ⟨pb3, q3, k, S⟩] → Calls Try.prog 8 #[.pointer (some ⟨pb3, 0, none⟩), opV o] V fun r w' => r = .returned (.tuple #[]) ∧ Hid (Grp w w' [⟨pb1, q1, k + 1, doS S o⟩, ⟨pb2, q2, k + 1, doS S o⟩, ⟨pb3, q3, k + 1, doS S o⟩])) := fun V hV => hV.does (i := 2) rfl o hok (by show k + 1 < _; omega)
      have HC : Hid _ := hc
      obtain ⟨r0, r1, r2, r3, r4, r5, r6, r7, r8⟩ := hc wr hG.1
      obtain ⟨⟨b1, m1, e1, hv1⟩, ⟨b2, m2, e2, hv2⟩, -, -⟩ := hok
      unfold opV at d1 D2 D3
      generalize doS S o = S' at *
      obtain ⟨kd, at_, a, b, bk, nm, tg, ov, qv⟩ := o
      dsimp only at *
      subst hv1 hv2
      have w1' : IntKind.i64.wrap ((k : Int) + 1) = ((k + 1 : Nat) : Int) := by rw [IntKind.wrap_i64]; omega
      clear hG hc hko
      go_wp2_with fail
      refine d1.mono ?_
      rintro e w4 ⟨rfl, G4⟩
      have d2 := D2.out w4 G4.out
      obtain ⟨r0, r1, r2, r3, r4, r5, r6, r7, r8⟩ := HC.out w4 G4.out.1
      clear d1 D2 G4
      go_wp2_with fail
      refine d2.mono ?_
      rintro e w5 ⟨rfl, G5⟩
      have d3 := D3.out w5 G5.out
      obtain ⟨r0, r1, r2, r3, r4, r5, r6, r7, r8⟩ := HC.out w5 G5.out.1
      clear d2 D3 G5
      go_wp2_with fail
      refine d3.mono ?_
      rintro e w6 ⟨rfl, G6⟩
      clear d3 HC
      go_wp2
      go_roundg (n1 - (k + 1))
      case measure => omega
      case rel => exact ⟨k + 1, S', rfl, by omega, rfl, G6.out⟩
    · obtain rfl : k = n1 := by omega
      have hkI : ¬ (k : Int) < (k : Int) := by omega
      have cc := hG.copy (i := 0) rfl
      dsimp only at cc
      clear hG hk hkn hgk
      go_wp2_with fail
      refine cc.mono ?_
      rintro e w4 ⟨pb4, q4, rfl, G4⟩
      have G4' : Hid (Grp w w4 [⟨pb1, q1, k, S⟩, ⟨pb2, q2, k, S⟩, ⟨pb3, q3, k, S⟩, ⟨pb4, q4, k, S⟩]) := G4
      have st4 := G4'.out.state (i := 3) rfl
      dsimp only at st4
      have HST1 : Hid (∀ w5 a5 c5 a6 c6, Sd w5 (.agg #[.slice a5 S.R.length c5, .slice a6 (zQ S.Q).length c6]) S.R (zQ S.Q) → Below w4.heap.size w4 w5 → Calls Try.prog 9 #[.pointer (some ⟨pb1, 0, none⟩)] w5 fun r w6 => ∃ a7 c7 a8 c8, r = .returned (.agg #[.slice a7 S.R.length c7, .slice a8 (zQ S.Q).length c8]) ∧ Calls Try.prog 18 #[.agg #[.slice a5 S.R.length c5, .slice a6 (zQ S.Q).length c6], .agg #[.slice a7 S.R.length c7, .slice a8 (zQ S.Q).length c8]] w6 fun r w7 => r = .returned (.bool true) ∧ Hid (Grp w w7 [⟨pb1, q1, k, S⟩, ⟨pb2, q2, k, S⟩, ⟨pb3, q3, k, S⟩, ⟨pb4, q4, k, S⟩])) := fun w5 a5 c5 a6 c6 hsd hb5 => by
        have hG5 := G4'.out.below hb5
        have hgd : Good S := hG5.good (i := 0) rfl
        have hfl := hgd.fl
        have hql := hgd.ql
        refine (hG5.state (i := 0) rfl).mono ?_
        rintro r w6 ⟨a7, c7, a8, c8, rfl, HSD6, HB6⟩
        refine ⟨a7, c7, a8, c8, rfl, (sameState_any w6 _ _ S.R (zQ S.Q) (hsd.below HB6.out) HSD6.out (by omega) (by rw [zQ_len]; omega)).mono ?_⟩
        rintro r w7 ⟨rfl, hb7⟩
        exact ⟨rfl, (hG5.below HB6.out).below hb7⟩
      clear cc G4 G4'
      go_wp2_with fail
      refine st4.mono ?_
      rintro e w5 ⟨a5, e5, a6, e6, rfl, HSD5, HB5⟩
      have st1 := HST1.out w5 a5 e5 a6 e6 HSD5.out HB5.out
      clear HST1 st4 HSD5 HB5
      go_wp2_with fail
      refine st1.mono ?_
      rintro e w6 ⟨a7, e7, a8, e8, rfl, hsm⟩
      clear st1
      go_wp2_with fail
      refine hsm.mono ?_
      rintro e w7 ⟨rfl, G7⟩
      clear hsm
      go_wp2_with fail
      go_loopg [16] (max n2 n3) (fun gk i wr => ∃ (j : Nat) (Sa Sc : Ps) (na nc : Nat), gk = max n2 n3 - j ∧ j ≤ max n2 n3 ∧ i = .int .i64 (j : Int) ∧ na ≤ k + j ∧ nc ≤ k + j ∧ Grp w wr [⟨pb1, q1, na, Sa⟩, ⟨pb2, q2, na, Sa⟩, ⟨pb3, q3, nc, Sc⟩, ⟨pb4, q4, nc, Sc⟩])
      case atStart => exact ⟨0, S, S, k, k, by omega, by omega, rfl, by omega, by omega, G7.out⟩
      case round =>
        clear G7
        obtain ⟨j, Sa, Sc, na, nc, hgk, hjn, rfl, hna, hnc, hG⟩ := hrel
        have w1' : IntKind.i64.wrap ((j : Int) + 1) = ((j + 1 : Nat) : Int) := by rw [IntKind.wrap_i64]; omega
        have HNA : Hid (na ≤ k + j ∧ nc ≤ k + j) := ⟨hna, hnc⟩
        have HJN : Hid (j ≤ max n2 n3 ∧ gk = max n2 n3 - j) := ⟨hjn, hgk⟩
        by_cases hj2 : j < n2
        · have hjI2 : (j : Int) < (n2 : Int) := by omega
          obtain ⟨g, fo, kd, at_, a, b, bk, nm, tg, x1, m1, e1, x2, m2, e2, Sa', hae, ⟨r0, r1, r2, r3, r4, r5, r6, r7, r8⟩, d1⟩ := hG.two (i1 := 0) (i2 := 1) (by decide) rfl rfl HO2.out hj2 (by omega)
          subst hae
          by_cases hj3 : j < n3
          · have hjI3 : (j : Int) < (n3 : Int) := by omega
            clear hG hna hnc hjn hgk
            go_wp2_with fail
            refine d1.mono ?_
            rintro e w8 ⟨rfl, ⟨r0, r1, r2, r3, r4, r5, r6, r7, r8⟩, d2⟩
            clear d1
            go_wp2_with fail
            refine d2.mono ?_
            rintro e w9 ⟨rfl, G9⟩
            clear d2
            have G9' : Hid (Grp w w9 [⟨pb1, q1, na + 1, Sa'⟩, ⟨pb2, q2, na + 1, Sa'⟩, ⟨pb3, q3, nc, Sc⟩, ⟨pb4, q4, nc, Sc⟩]) := G9
            clear G9 r0 r1 r2 r3 r4 r5 r6 r7 r8
            obtain ⟨g', fo', kd', at', a', b', bk', nm', tg', y1, l1, z1, y2, l2, z2, Sc', hae', ⟨r0, r1, r2, r3, r4, r5, r6, r7, r8⟩, d1⟩ := G9'.out.two (i1 := 3) (i2 := 2) (by decide) rfl rfl HO3.out hj3 (by have := HNA.out; omega)
            subst hae'
            clear G9'
            go_wp2_with fail
            refine d1.mono ?_
            rintro e w8 ⟨rfl, ⟨r0, r1, r2, r3, r4, r5, r6, r7, r8⟩, d2⟩
            clear d1
            go_wp2_with fail
            refine d2.mono ?_
            rintro e w10 ⟨rfl, G10⟩
            clear d2
            have G10' : Hid (Grp w w10 [⟨pb1, q1, na + 1, Sa'⟩, ⟨pb2, q2, na + 1, Sa'⟩, ⟨pb3, q3, nc + 1, Sc'⟩, ⟨pb4, q4, nc + 1, Sc'⟩]) := G10
            clear G10
            go_wp2
            go_roundg (max n2 n3 - (j + 1))
            case measure => have := HJN.out; omega
            case rel => exact ⟨j + 1, Sa', Sc', na + 1, nc + 1, rfl, by omega, rfl, by have := HNA.out; omega, by have := HNA.out; omega, G10'.out⟩
          · have hjI3 : ¬ (j : Int) < (n3 : Int) := by omega
            clear hG hna hnc hjn hgk
            go_wp2_with fail
            refine d1.mono ?_
            rintro e w8 ⟨rfl, ⟨r0, r1, r2, r3, r4, r5, r6, r7, r8⟩, d2⟩
            clear d1
            go_wp2_with fail
            refine d2.mono ?_
            rintro e w9 ⟨rfl, G9⟩
            clear d2
            have G9' : Hid (Grp w w9 [⟨pb1, q1, na + 1, Sa'⟩, ⟨pb2, q2, na + 1, Sa'⟩, ⟨pb3, q3, nc, Sc⟩, ⟨pb4, q4, nc, Sc⟩]) := G9
            clear G9
            go_wp2
            go_roundg (max n2 n3 - (j + 1))
            case measure => have := HJN.out; omega
            case rel => exact ⟨j + 1, Sa', Sc, na + 1, nc, rfl, by omega, rfl, by have := HNA.out; omega, by have := HNA.out; omega, G9'.out⟩
        · have hjI2 : ¬ (j : Int) < (n2 : Int) := by omega
          by_cases hj3 : j < n3
          · have hjI3 : (j : Int) < (n3 : Int) := by omega
            obtain ⟨g', fo', kd', at', a', b', bk', nm', tg', y1, l1, z1, y2, l2, z2, Sc', hae', ⟨r0, r1, r2, r3, r4, r5, r6, r7, r8⟩, d1⟩ := hG.two (i1 := 3) (i2 := 2) (by decide) rfl rfl HO3.out hj3 (by omega)
            subst hae'
            clear hG hna hnc hjn hgk
            go_wp2_with fail
            refine d1.mono ?_
            rintro e w8 ⟨rfl, ⟨r0, r1, r2, r3, r4, r5, r6, r7, r8⟩, d2⟩
            clear d1
            go_wp2_with fail
            refine d2.mono ?_
            rintro e w10 ⟨rfl, G10⟩
            clear d2
            have G10' : Hid (Grp w w10 [⟨pb1, q1, na, Sa⟩, ⟨pb2, q2, na, Sa⟩, ⟨pb3, q3, nc + 1, Sc'⟩, ⟨pb4, q4, nc + 1, Sc'⟩]) := G10
            clear G10
            go_wp2
            go_roundg (max n2 n3 - (j + 1))
            case measure => have := HJN.out; omega
            case rel => exact ⟨j + 1, Sa, Sc', na, nc + 1, rfl, by omega, rfl, by have := HNA.out; omega, by have := HNA.out; omega, G10'.out⟩
          · have hjI3 : ¬ (j : Int) < (n3 : Int) := by omega
            have ga : Good Sa := hG.good (i := 0) rfl
            have gc : Good Sc := hG.good (i := 2) rfl
            have HSM : Hid (∀ (V : World) (i1 i2 : Nat) (e1 e2 : Pl), Grp w V [⟨pb1, q1, na, Sa⟩, ⟨pb2, q2, na, Sa⟩, ⟨pb3, q3, nc, Sc⟩, ⟨pb4, q4, nc, Sc⟩] → [(⟨pb1, q1, na, Sa⟩ : Pl), ⟨pb2, q2, na, Sa⟩, ⟨pb3, q3, nc, Sc⟩, ⟨pb4, q4, nc, Sc⟩][i1]? = some e1 → [(⟨pb1, q1, na, Sa⟩ : Pl), ⟨pb2, q2, na, Sa⟩, ⟨pb3, q3, nc, Sc⟩, ⟨pb4, q4, nc, Sc⟩][i2]? = some e2 → e1.S = e2.S → Good e2.S →
                Calls Try.prog 9 #[.pointer (some ⟨e1.pb, 0, none⟩)] V fun r w5 => ∃ a5 c5 a6 c6, r = .returned (.agg #[.slice a5 e1.S.R.length c5, .slice a6 (zQ e1.S.Q).length c6]) ∧ Calls Try.prog 9 #[.pointer (some ⟨e2.pb, 0, none⟩)] w5 fun r w6 => ∃ a7 c7 a8 c8, r = .returned (.agg #[.slice a7 e2.S.R.length c7, .slice a8 (zQ e2.S.Q).length c8]) ∧ Calls Try.prog 18 #[.agg #[.slice a5 e1.S.R.length c5, .slice a6 (zQ e1.S.Q).length c6], .agg #[.slice a7 e2.S.R.length c7, .slice a8 (zQ e2.S.Q).length c8]] w6 fun r w7 => r = .returned (.bool true) ∧ Hid (Grp w w7 [⟨pb1, q1, na, Sa⟩, ⟨pb2, q2, na, Sa⟩, ⟨pb3, q3, nc, Sc⟩, ⟨pb4, q4, nc, Sc⟩])) := fun V i1 i2 e1 e2 hV h1 h2 hS hgd => by
              have hfl := hgd.fl
              have hql := hgd.ql
              refine (hV.state h1).mono ?_
              rintro r w5 ⟨a5, c5, a6, c6, rfl, HSD5, HB5⟩
              have hG5 := hV.below HB5.out
              refine ⟨a5, c5, a6, c6, rfl, (hG5.state h2).mono ?_⟩
              rintro r w6 ⟨a7, c7, a8, c8, rfl, HSD6, HB6⟩
              have s5 := HSD5.out.below HB6.out
              rw [hS] at s5 ⊢
              refine ⟨a7, c7, a8, c8, rfl, (sameState_any w6 _ _ e2.S.R (zQ e2.S.Q) s5 HSD6.out (by omega) (by rw [zQ_len]; omega)).mono ?_⟩
              rintro r w7 ⟨rfl, hb7⟩
              exact ⟨rfl, (hG5.below HB6.out).below hb7⟩
            have s1 := HSM.out wr 0 1 _ _ hG rfl rfl rfl ga
            have HS2 : Hid (∀ V, Grp w V [⟨pb1, q1, na, Sa⟩, ⟨pb2, q2, na, Sa⟩, ⟨pb3, q3, nc, Sc⟩, ⟨pb4, q4, nc, Sc⟩] → _) := fun V hV => HSM.out V 3 2 _ _ hV rfl rfl rfl gc
            dsimp only at s1
            clear hG hna hnc hjn hgk ga gc HSM
            go_wp2_with fail
            refine s1.mono ?_
            rintro e w8 ⟨a5, e5, a6, e6, rfl, s2⟩
            clear s1
            go_wp2_with fail
            refine s2.mono ?_
            rintro e w9 ⟨a7, e7, a8, e8, rfl, s3⟩
            clear s2
            go_wp2_with fail
            refine s3.mono ?_
            rintro e w10 ⟨rfl, G10⟩
            have s1 := HS2.out w10 G10.out
            clear s3 HS2 G10
            go_wp2_with fail
            refine s1.mono ?_
            rintro e w11 ⟨b5, f5, b6, f6, rfl, s2⟩
            clear s1
            go_wp2_with fail
            refine s2.mono ?_
            rintro e w12 ⟨b7, f7, b8, f8, rfl, s3⟩
            clear s2
            go_wp2_with fail
            refine s3.mono ?_
            rintro e w13 ⟨rfl, G13⟩
            clear s3
            go_wp2
            go_ret
            exact ⟨rfl, G13.out.1⟩
end Go.Proofs.Ythmjjpaengackaa.Po
