import Derived.Test.YthmjjpaengackaaRmC
namespace Go.Proofs.Ythmjjpaengackaa.Po
open Go.RowKit Go.Lib Go.Deep

set_option maxRecDepth 20000 in
set_option maxHeartbeats 8000000 in
theorem layW_any (W w : World) (bb : Nat) (v : Value) (R : List Ob) (Z : List Int) (hd : Sd W v R Z) (hbW : Below W.heap.size W w) (hbb : W.heap.size ≤ bb) (hk : w.heap[bb]? = some (.cells #[.pointer none, .pointer none, .pointer none, .pointer none, .pointer none, .pointer none, .slice none 0 0, .int .i64 0] 60 (0, 0)))
    (hsz : ∀ (k : Nat) o, R[k]? = some o → o.nm.size ≤ maxLen ∧ o.tg.size ≤ maxLen) (hZ : Z.length ≤ 17592186044416) (hR : R.length ≤ 2932031007402) (f s : Int) :
    Calls Try.prog 23 #[.pointer (some ⟨bb, 0, none⟩), .int .i64 0, v, .int .i64 f, .int .i64 s] w fun e w' => LyP W w bb f R Z e w' := by
  obtain ⟨ov, qv, rfl, s1, t1⟩ := hd.ex
  obtain ⟨a1, c1, rfl⟩ := s1.form
  obtain ⟨a2, c2, rfl⟩ := t1.form
  obtain ⟨W0, hW0, hb0, k0⟩ := one_new w #[.slice a1 R.length c1, .slice a2 Z.length c2] 29
  have HS0 : Hid (∀ V, Below W0.heap.size W0 V → V.cell? ⟨w.heap.size, 0, none⟩ = some (.slice a1 R.length c1) ∧ V.cell? ⟨w.heap.size, 1, none⟩ = some (.slice a2 Z.length c2) ∧ Sd V (.agg #[.slice a1 R.length c1, .slice a2 Z.length c2]) R Z ∧ Below w.heap.size w V) := fun V hV => by
    have k := (hV.block _ (heap_lt k0)).trans k0
    have hbw : Below w.heap.size w V := hb0.trans (hV.mono hb0.size)
    exact ⟨(cell_of_heap k).trans rfl, (cell_of_heap k).trans rfl, (hd.below hbW).below hbw, hbw⟩
  obtain ⟨x0, x1, sd0, -⟩ := HS0.out W0 (Below.refl _ _)
  have htr := twinRowsW_any W0 _ _ R ((s1.below hbW).below hb0) (by omega)
  have HTI : Hid (∀ V, Below W0.heap.size W0 V → Calls Try.prog 45 #[.slice a2 Z.length c2] V fun e w' => ∃ a c, e = .returned (.slice a Z.length c) ∧ w'.ownsRow V.heap.size 3 1 (.slice a Z.length c) Z.length (zsC Z) ∧ Below V.heap.size V w') := fun V hV => twinIntsW_any V _ _ Z (((t1.below hbW).below hb0).below hV) (by omega)
  have HRL : Hid (R.length ≤ 2932031007402 ∧ Z.length ≤ 17592186044416) := ⟨hR, hZ⟩
  have HSZ : Hid (∀ (k : Nat) o, R[k]? = some o → o.nm.size ≤ maxLen ∧ o.tg.size ≤ maxLen) := hsz
  have HK : Hid (w.heap[bb]? = some (.cells #[.pointer none, .pointer none, .pointer none, .pointer none, .pointer none, .pointer none, .slice none 0 0, .int .i64 0] 60 (0, 0))) := hk
  have HBW : Hid (Below W.heap.size W w) := hbW
  -- the lists of the call's own
  have HA1 : Hid (∀ V a c, V.ownsRow W0.heap.size 35 4 (.slice a R.length c) R.length (obsC R) → Below W0.heap.size W0 V → ∃ V', V.alloc (.cells #[.string { data := #[98, 101, 104, 105, 110, 100] }, .string { data := #[] }, .int .i64 0, .int .i64 0] 35) = V' ∧ V'.ownsRow W0.heap.size 35 4 (.slice a R.length c) R.length (obsC R) ∧ See V' 4 (.slice (some ⟨V.heap.size, 0, none⟩) 1 1) 1 (obC behO) ∧ W0.heap.size ≤ V'.heap.size ∧ Below W0.heap.size W0 V') := fun V a c ho hb => by
    obtain ⟨V', hV', hbV, -⟩ := one_new V #[.string { data := #[98, 101, 104, 105, 110, 100] }, .string { data := #[] }, .int .i64 0, .int .i64 0] 35
    have f2 : See (V.alloc (.cells #[.string { data := #[98, 101, 104, 105, 110, 100] }, .string { data := #[] }, .int .i64 0, .int .i64 0] 35)) 4 (.slice (some ⟨V.heap.size, 0, none⟩) 1 1) 1 (obC behO) := see_one rfl (obC_one behO)
    rw [hV'] at f2
    exact ⟨V', hV', owns_below ho hbV, f2, Nat.le_trans hb.size hbV.size, hb.trans (hbV.mono hb.size)⟩
  have HA2 : Hid (∀ U V a c, Below W0.heap.size W0 U → V.ownsRow U.heap.size 3 1 (.slice a Z.length c) Z.length (zsC Z) → Below U.heap.size U V → ∃ V', V.alloc (.cells #[.int .i64 (-77)] 3) = V' ∧ V'.ownsRow U.heap.size 3 1 (.slice a Z.length c) Z.length (zsC Z) ∧ See V' 1 (.slice (some ⟨V.heap.size, 0, none⟩) 1 1) 1 [.int .i64 (-77)] ∧ U.heap.size ≤ V'.heap.size ∧ Below U.heap.size U V') := fun U V a c hU ho hb => by
    obtain ⟨V', hV', hbV, -⟩ := one_new V #[.int .i64 (-77)] 3
    have f2 : See (V.alloc (.cells #[.int .i64 (-77)] 3)) 1 (.slice (some ⟨V.heap.size, 0, none⟩) 1 1) 1 [.int .i64 (-77)] := see_one rfl (zsC_one [-77])
    rw [hV'] at f2
    exact ⟨V', hV', owns_below ho hbV, f2, Nat.le_trans hb.size hbV.size, hb.trans (hbV.mono hb.size)⟩
  clear hd s1 t1 hbW hb0 k0 hk hsz sd0
  go_enter Try.func23, Try.ntmps23
  go_wp2_with fail
  refine htr.mono ?_
  rintro e V1 ⟨a3, c3, rfl, ho1, hb1⟩
  obtain ⟨V1', hV1', f1, f2, f3, f4⟩ := HA1.out V1 a3 c3 ho1 hb1
  clear ho1 hb1 htr HA1
  go_wp2_with (at_builtin; (try rw [hV1']); refine wpList_appW rfl _ _ 27 35 rfl _ 4 48 Try.underlying27 infoOb rfl (by decide) W0.heap.size _ _ R.length 1 _ _ rfl f1 rfl f2 (by unfold maxLen; omega) (by omega) f3 ?_; intro v' V2 hown2 hgrow2; obtain ⟨g, c4, rfl⟩ := owns_form2 hown2 (by omega); have hb2 : Below W0.heap.size W0 V2 := f4.trans (grown_base hgrow2 f3 f1); clear f1 f2 f3 f4 hV1' hgrow2 x0 x1; obtain ⟨x0, x1, -⟩ := HS0.out V2 hb2; have hti := HTI.out V2 hb2; clear HTI)
  refine hti.mono ?_
  rintro e V3 ⟨a5, c5, rfl, ho3, hb3⟩
  obtain ⟨V3', hV3', f1, f2, f3, f4⟩ := HA2.out V2 V3 a5 c5 hb2 ho3 hb3
  clear ho3 hb3 hti HA2
  go_wp2_with (at_builtin; (try rw [hV3']); refine wpList_appW rfl _ _ 23 3 rfl _ 1 8 Try.underlying23 info3 rfl (by decide) V2.heap.size _ _ Z.length 1 _ _ rfl f1 rfl f2 (by unfold maxLen; omega) (by omega) f3 ?_; intro v' V4 hown4 hgrow4; obtain ⟨h, c6, rfl⟩ := owns_form2 hown4 (by omega); have hb4 : Below V2.heap.size V2 V4 := f4.trans (grown_base hgrow4 f3 f1); clear f1 f2 f3 f4 hV3' hgrow4 x0 x1)
  -- branches
  have hcO : R.length + 1 ≤ c4 := own_cap hown2
  have hcQ : Z.length + 1 ≤ c6 := own_cap hown4
  have hb4' : Below W0.heap.size W0 V4 := hb2.trans (hb4.mono hb2.size)
  have hgO := hown2.lt g rfl
  have hgQ := hown4.lt h rfl
  have hO4 : V4.ownsRow W0.heap.size 35 4 (.slice (some ⟨g, 0, none⟩) (R.length + 1) c4) (R.length + 1) (obsC R ++ obC behO) := owns_below hown2 hb4
  have hsO := see_take hO4 (obsC_len R) (obsC_one R)
  have hsQ := see_take hown4 (by rw [zsC_len]; omega) (zsC_one Z)
  have HX4 : Hid (∀ X, Below V4.heap.size V4 X → Below V4.heap.size V4 X ∧ X.cell? ⟨w.heap.size, 0, none⟩ = some (.slice a1 R.length c1) ∧ X.cell? ⟨w.heap.size, 1, none⟩ = some (.slice a2 Z.length c2)) := fun X hX => by
    obtain ⟨x0, x1, -⟩ := HS0.out X (hb4'.trans (hX.mono hb4'.size))
    exact ⟨hX, x0, x1⟩
  have HLD : Hid (∀ X, Below V4.heap.size V4 X → Calls Try.prog 22 #[.agg #[.slice (some ⟨g, 0, none⟩) R.length c4, .slice (some ⟨h, 0, none⟩) Z.length c6], .int .i64 f, .int .i64 s] X fun e w' => Ldd X f s R Z e w') := fun X hX => load_any X _ R Z ⟨_, _, rfl, hsO.below hX, hsQ.below hX⟩ HSZ.out (by omega) (by omega) f s
  have HLR : Hid (∀ X, Below V4.heap.size V4 X → Calls Try.prog 46 #[.agg #[.slice a1 R.length c1, .slice a2 Z.length c2], .int .i64 f, .int .i64 s] X fun e w' => LdR X f s R Z e w') := fun X hX => loadR_any X _ R Z (HS0.out X (hb4'.trans (hX.mono hb4'.size))).2.2.1 HSZ.out (by omega) (by omega) f s
  have HSR : Hid (∀ X, Below V4.heap.size V4 X → Calls Try.prog 37 #[.slice (some ⟨g, 0, none⟩) R.length c4, .slice a1 R.length c1] X fun e w' => e = .returned (.bool true) ∧ Below X.heap.size X w') := fun X hX => by
    obtain ⟨ov, qv, e, e1, e2⟩ := (HS0.out X (hb4'.trans (hX.mono hb4'.size))).2.2.1.ex
    simp only [Value.agg.injEq] at e
    have e := congrArg Array.toList e
    simp at e
    obtain ⟨rfl, rfl⟩ := e
    exact sameRows_any X _ _ _ R (hsO.below hX) e1 (by omega)
  have HSI : Hid (∀ X, Below V4.heap.size V4 X → Calls Try.prog 38 #[.slice (some ⟨h, 0, none⟩) Z.length c6, .slice a2 Z.length c2] X fun e w' => e = .returned (.bool true) ∧ Below X.heap.size X w') := fun X hX => by
    obtain ⟨ov, qv, e, e1, e2⟩ := (HS0.out X (hb4'.trans (hX.mono hb4'.size))).2.2.1.ex
    simp only [Value.agg.injEq] at e
    have e := congrArg Array.toList e
    simp at e
    obtain ⟨rfl, rfl⟩ := e
    exact sameInts_any X _ _ _ Z (hsQ.below hX) e2 (by omega)
  have HO4 : Hid (V4.ownsRow W0.heap.size 35 4 (.slice (some ⟨g, 0, none⟩) (R.length + 1) c4) (R.length + 1) (obsC (R ++ [behO]))) := by rw [obsC_snoc]; exact hO4
  have HQ4 : Hid (V4.ownsRow V2.heap.size 3 1 (.slice (some ⟨h, 0, none⟩) (Z.length + 1) c6) (Z.length + 1) (zsC (Z ++ [-77]))) := by rw [zsC_snoc]; exact hown4
  have HGT : Hid (W0.heap.size ≤ g ∧ g < V2.heap.size ∧ V2.heap.size ≤ h ∧ h < V4.heap.size) := ⟨hgO.1, hgO.2, hgQ.1, hgQ.2⟩
  have HB4 : Hid (Below W0.heap.size W0 V4) := hb4'
  have nu := num_any
  have nc4 : ¬ c4 = 0 := by omega
  have nc6 : ¬ c6 = 0 := by omega
  have lc4 : R.length ≤ c4 := by omega
  have lc6 : Z.length ≤ c6 := by omega
  have XD : Below V4.heap.size V4 V4.drew := (Below.refl _ _).drew
  obtain ⟨-, x0, x1⟩ := HX4.out V4.drew XD
  have HW8 : Hid (∀ V, Below W0.heap.size W0 V → Below w.heap.size w V) := fun V hV => (HS0.out V hV).2.2.2
  have hw0 : w.heap.size < W0.heap.size := by rw [← hW0]; simp
  have HW0 : Hid (w.heap.size < W0.heap.size) := hw0
  clear hw0
  clear hown2 hown4 hb2 hb4 hb4' hgO hgQ hO4 hsO hsQ HS0 HSZ
  have hcs : (∃ E : Int, (∀ X, Below V4.heap.size V4 X → Calls Try.prog 22 #[.agg #[.slice (some ⟨g, 0, none⟩) R.length c4, .slice (some ⟨h, 0, none⟩) Z.length c6], .int .i64 f, .int .i64 s] X fun e w' => e = .returned (.tuple #[.pointer none, .int .i64 E]) ∧ Below V4.heap.size V4 w') ∧ (∀ X, Below V4.heap.size V4 X → Calls Try.prog 46 #[.agg #[.slice a1 R.length c1, .slice a2 Z.length c2], .int .i64 f, .int .i64 s] X fun e w' => e = .returned (.tuple #[.pointer none, .int .i64 E]) ∧ Below V4.heap.size V4 w')) ∨
      (Fits f.toNat R Z ∧ (∀ X, Below V4.heap.size V4 X → Calls Try.prog 22 #[.agg #[.slice (some ⟨g, 0, none⟩) R.length c4, .slice (some ⟨h, 0, none⟩) Z.length c6], .int .i64 f, .int .i64 s] X fun e w' => ∃ pb, e = .returned (.tuple #[.pointer (some ⟨pb, 0, none⟩), .int .i64 0]) ∧ Below V4.heap.size V4 w' ∧ Hid (∃ q F, Ok w' pb q F R.length ⟨f.toNat, R, Z.map Int.toNat⟩ ∧ X.heap.size ≤ pb ∧ ∀ k, k ∈ F → X.heap.size ≤ k)) ∧ (∀ X, Below V4.heap.size V4 X → Calls Try.prog 46 #[.agg #[.slice a1 R.length c1, .slice a2 Z.length c2], .int .i64 f, .int .i64 s] X fun e w' => ∃ rb, e = .returned (.tuple #[.pointer (some ⟨rb, 0, none⟩), .int .i64 0]) ∧ Below V4.heap.size V4 w' ∧ Below X.heap.size X w')) := by
    cases hr : roomB f s with
    | false =>
      refine .inl ⟨1, fun X hX => (HLD.out X hX).mono ?_, fun X hX => (HLR.out X hX).mono ?_⟩
      · rintro e w' ⟨hb, ⟨-, rfl⟩ | ⟨h1, -⟩ | ⟨h1, -⟩⟩
        · exact ⟨rfl, hX.trans (hb.mono hX.size)⟩
        · rw [hr] at h1; cases h1
        · rw [hr] at h1; cases h1
      · rintro e w' ⟨hb, ⟨-, rfl⟩ | ⟨h1, -⟩ | ⟨h1, -⟩⟩
        · exact ⟨rfl, hX.trans (hb.mono hX.size)⟩
        · rw [hr] at h1; cases h1
        · rw [hr] at h1; cases h1
    | true =>
      by_cases hf : R.length = f.toNat + s.toNat ∧ Fits f.toNat R Z
      · refine .inr ⟨hf.2, fun X hX => (HLD.out X hX).mono ?_, fun X hX => (HLR.out X hX).mono ?_⟩
        · rintro e w' ⟨hb, ⟨h1, -⟩ | ⟨-, h1, -⟩ | ⟨-, -, pb, q, F, rfl, k1, k2, k3⟩⟩
          · rw [hr] at h1; cases h1
          · exact absurd hf h1
          · exact ⟨pb, rfl, hX.trans (hb.mono hX.size), q, F, k1, k2, k3⟩
        · rintro e w' ⟨hb, ⟨h1, -⟩ | ⟨-, h1, -⟩ | ⟨-, -, rb, rfl, -⟩⟩
          · rw [hr] at h1; cases h1
          · exact absurd hf h1
          · exact ⟨rb, rfl, hX.trans (hb.mono hX.size), hb⟩
      · refine .inl ⟨130, fun X hX => (HLD.out X hX).mono ?_, fun X hX => (HLR.out X hX).mono ?_⟩
        · rintro e w' ⟨hb, ⟨h1, -⟩ | ⟨-, -, rfl⟩ | ⟨-, h1, -⟩⟩
          · rw [hr] at h1; cases h1
          · exact ⟨rfl, hX.trans (hb.mono hX.size)⟩
          · exact absurd h1 hf
        · rintro e w' ⟨hb, ⟨h1, -⟩ | ⟨-, -, rfl⟩ | ⟨-, h1, -⟩⟩
          · rw [hr] at h1; cases h1
          · exact ⟨rfl, hX.trans (hb.mono hX.size)⟩
          · exact absurd h1 hf
  clear HLD HLR
  have HC7 : Hid (∀ X, Below V4.heap.size V4 X → Below V4.heap.size V4 X ∧ X.cell? ⟨w.heap.size, 0, none⟩ = some (.slice a1 R.length c1) ∧ X.cell? ⟨w.heap.size, 1, none⟩ = some (.slice a2 Z.length c2) ∧ X.cell? ⟨g, R.length * 4, none⟩ = some (.string { data := #[98, 101, 104, 105, 110, 100] }) ∧ X.cell? ⟨h, Z.length, none⟩ = some (.int .i64 (-77))) := fun X hX => by
    obtain ⟨-, x0, x1⟩ := HX4.out X hX
    have k1 := (owns_below HO4.out hX).cellAt (R.length * 4 + 0) (by omega)
    have k2 := (owns_below HQ4.out hX).cellAt Z.length (by omega)
    refine ⟨hX, x0, x1, ?_, ?_⟩
    · refine k1.trans ?_
      unfold obsC
      rw [flat_get obC 4 obC_len (R ++ [behO]) R.length behO (by simp) 0 (by omega)]
      rfl
    · refine k2.trans ?_
      unfold zsC
      simp
  rcases hcs with ⟨E, l1, l2⟩ | ⟨hft, l1, l2⟩
  · have HE0 : Hid True := trivial
    clear HE0
    have HL1 : Hid _ := l1
    have HL2 : Hid _ := l2
    clear l1 l2
    go_region_held_law (fun X => Below V4.heap.size V4 X ∧ X.cell? ⟨w.heap.size, 0, none⟩ = some (.slice a1 R.length c1) ∧ X.cell? ⟨w.heap.size, 1, none⟩ = some (.slice a2 Z.length c2)) (first | exact HX4.out _ (by assumption) | exact HX4.out _ (Below.alloc (by assumption) (Below.size (by assumption)) _) | go_keep) (first | (go_at_call 22; refine (HL1.out _ (by assumption)).mono ?_; rintro e V5 ⟨rfl, hb5⟩))
    clear HL1 x0 x1 XD
    have hb5V : Below V4.heap.size V4 V5 := hb5
    obtain ⟨-, x0, x1⟩ := HX4.out V5 hb5V
    have l2 := HL2.out V5 hb5V
    clear HL2
    go_wp2_with fail
    refine l2.mono ?_
    rintro e V6 ⟨rfl, hb6⟩
    clear l2 x0 x1
    obtain ⟨-, x0, x1, y0, y1⟩ := HC7.out V6 hb6
    have HC8 : Hid (∀ X, Below V6.heap.size V6 X → Below V6.heap.size V6 X ∧ X.cell? ⟨w.heap.size, 0, none⟩ = some (.slice a1 R.length c1) ∧ X.cell? ⟨w.heap.size, 1, none⟩ = some (.slice a2 Z.length c2) ∧ X.cell? ⟨g, R.length * 4, none⟩ = some (.string { data := #[98, 101, 104, 105, 110, 100] }) ∧ X.cell? ⟨h, Z.length, none⟩ = some (.int .i64 (-77))) := fun X hX => ⟨hX, (HC7.out X (hb6.trans (hX.mono hb6.size))).2⟩
    have HSR8 : Hid (∀ X, Below V6.heap.size V6 X → Calls Try.prog 37 #[.slice (some ⟨g, 0, none⟩) R.length c4, .slice a1 R.length c1] X fun e w2 => e = .returned (.bool true) ∧ Below X.heap.size X w2) := fun X hX => HSR.out X (hb6.trans (hX.mono hb6.size))
    have HSI8 : Hid (∀ X, Below V6.heap.size V6 X → Calls Try.prog 38 #[.slice (some ⟨h, 0, none⟩) Z.length c6, .slice a2 Z.length c2] X fun e w2 => e = .returned (.bool true) ∧ Below X.heap.size X w2) := fun X hX => HSI.out X (hb6.trans (hX.mono hb6.size))
    have H46 : Hid (Below V4.heap.size V4 V6) := hb6
    clear hb6 hb5 hb5V
    have XD : Below V6.heap.size V6 V6.drew := (Below.refl _ _).drew
    obtain ⟨-, z0, z1, z2, z3⟩ := HC8.out V6.drew XD
    go_wp2_with fail
    go_region_held_law (fun X => Below V6.heap.size V6 X ∧ X.cell? ⟨w.heap.size, 0, none⟩ = some (.slice a1 R.length c1) ∧ X.cell? ⟨w.heap.size, 1, none⟩ = some (.slice a2 Z.length c2) ∧ X.cell? ⟨g, R.length * 4, none⟩ = some (.string { data := #[98, 101, 104, 105, 110, 100] }) ∧ X.cell? ⟨h, Z.length, none⟩ = some (.int .i64 (-77))) (first | exact HC8.out _ (by assumption) | exact HC8.out _ (Below.alloc (by assumption) (Below.size (by assumption)) _) | go_keep) (first | (go_at_call 13; refine (nu _ _).mono ?_; rintro e w2 ⟨rfl, e2⟩; obtain rfl := e2.symm) | (go_at_call 37; refine (HSR8.out _ (by assumption)).mono ?_; rintro e V7 ⟨rfl, hs7⟩; have hb7 : Below V6.heap.size V6 V7 := Below.trans (by assumption) (hs7.mono (Below.size (by assumption))); clear hs7) | (go_at_call 38; refine (HSI8.out _ (by assumption)).mono ?_; rintro e V8 ⟨rfl, hs8⟩; have hb8 : Below V6.heap.size V6 V8 := Below.trans (by assumption) (hs8.mono (Below.size (by assumption))); clear hs8))
    have hb8 : Below V4.heap.size V4 V8 := H46.out.trans (hb8.mono H46.out.size)
    clear x0 x1 y0 y1 z0 z1 z2 z3 XD HSR HSI HC7 HX4 HC8 HSR8 HSI8
    have hO8 := owns_below HO4.out hb8
    have HQ8 : Hid (V8.ownsRow V2.heap.size 3 1 (.slice (some ⟨h, 0, none⟩) (Z.length + 1) c6) (Z.length + 1) (zsC (Z ++ [-77]))) := owns_below HQ4.out hb8
    have hlO : (R ++ [behO]).length = R.length + 1 := by simp
    have HBW8 : Hid (Below w.heap.size w V8) := HW8.out V8 (HB4.out.trans (hb8.mono HB4.out.size))
    generalize hN : R.length + 1 = N at *
    generalize hM : Z.length + 1 = M at *
    go_wp2
    go_loopg [18] N (fun gk i wr => ∃ (k : Nat) (l : List Ob), gk = N - k ∧ k ≤ N ∧ i = .int .i64 (k : Int) ∧ Hid (l.length = N ∧ wr.ownsRow W0.heap.size 35 4 (.slice (some ⟨g, 0, none⟩) N c4) N (obsC l) ∧ Only [g] V8 wr))
    case atStart => exact ⟨0, _, by omega, by omega, rfl, hlO, hO8, Only.refl _ _⟩
    case round =>
      clear hO8 hlO
      obtain ⟨k, l, hgk, hkn, rfl, HL⟩ := hrel
      by_cases hk : k < N
      · have hkI : (k : Int) < (N : Int) := by omega
        obtain ⟨⟨x0, x1, x2, x3, y0, y1, y2, y3⟩, fz, HP⟩ := over_row HL.out.1 HL.out.2.1 HL.out.2.2 hk
        have f0 := fz (k * 4)
        have f1 := fz (k * 4 + 1)
        have f2 := fz (k * 4 + 2)
        have f3 := fz (k * 4 + 3)
        have w1 : IntKind.i64.wrap ((k : Int) + 1) = ((k + 1 : Nat) : Int) := by rw [IntKind.wrap_i64]; omega
        clear fz HL
        go_wp2
        go_roundg (N - (k + 1))
        case measure => omega
        case rel => exact ⟨k + 1, _, rfl, by omega, rfl, HP⟩
      · obtain rfl : k = N := by omega
        have hkI : ¬ (k : Int) < (k : Int) := by omega
        have hQ9 : wr.ownsRow V2.heap.size 3 1 (.slice (some ⟨h, 0, none⟩) M c6) M (zsC (Z ++ [-77])) := owns_keep HQ8.out (fun j hj => HL.out.2.2.block j (HQ8.out.lt j hj).2 (by have h1 := (HQ8.out.lt j hj).1; have h2 := HGT.out; simp; omega))
        have hlQ : (Z ++ [-77]).length = M := by rw [List.length_append]; exact hM
        have HOG : Hid (Only [g] V8 wr) := HL.out.2.2
        clear HL HQ8
        go_wp2
        go_loopg [19] M (fun gk i wx => ∃ (k : Nat) (l : List Int), gk = M - k ∧ k ≤ M ∧ i = .int .i64 (k : Int) ∧ Hid (l.length = M ∧ wx.ownsRow V2.heap.size 3 1 (.slice (some ⟨h, 0, none⟩) M c6) M (zsC l) ∧ Only [h] wr wx))
        case atStart => exact ⟨0, _, by omega, by omega, rfl, hlQ, hQ9, Only.refl _ _⟩
        case round =>
          clear hQ9 hlQ
          obtain ⟨j, l, hgj, hjn, rfl, HL⟩ := hrel
          by_cases hj : j < M
          · have hjI : (j : Int) < (M : Int) := by omega
            obtain ⟨⟨x0, y0⟩, fz, HP⟩ := over_int HL.out.1 HL.out.2.1 HL.out.2.2 hj
            have f0 := fz j
            have w1 : IntKind.i64.wrap ((j : Int) + 1) = ((j + 1 : Nat) : Int) := by rw [IntKind.wrap_i64]; omega
            clear fz HL
            go_wp2
            go_roundg (M - (j + 1))
            case measure => omega
            case rel => exact ⟨j + 1, _, rfl, by omega, rfl, HP⟩
          · obtain rfl : j = M := by omega
            have hjI : ¬ (j : Int) < (j : Int) := by omega
            obtain ⟨e10, hend⟩ := lay_end (f := f) (R := R) (Z := Z) (g := g) (h := h) HBW.out hbb HK.out HBW8.out (by have h1 := HGT.out; have h2 := HW0.out; omega) (by have h1 := HGT.out; have h2 := HW0.out; omega) ((HOG.out.mono (by intro k hk; simp at hk; simp [hk])).trans (HL.out.2.2.mono (by intro k hk; simp at hk; simp [hk])))
            have HEND : Hid _ := hend (.pointer none) (.pointer none) (.inl rfl)
            have b0 : wr.cell? ⟨bb, 0, none⟩ = some (.pointer none) := (cell_of_heap e10).trans rfl
            have b3 : wr.cell? ⟨bb, 3, none⟩ = some (.pointer none) := (cell_of_heap e10).trans rfl
            have g0 : wr.frozen? ⟨bb, 0, none⟩ = false := frozen_of_heap e10
            have g3 : wr.frozen? ⟨bb, 3, none⟩ = false := frozen_of_heap e10
            clear hend e10 HL
            go_wp2
            go_ret
            exact HEND.out
  · have HFT : Hid (Fits f.toNat R Z) := hft
    clear hft
    have HL1 : Hid _ := l1
    have HL2 : Hid _ := l2
    clear l1 l2
    go_region_held_law (fun X => Below V4.heap.size V4 X ∧ X.cell? ⟨w.heap.size, 0, none⟩ = some (.slice a1 R.length c1) ∧ X.cell? ⟨w.heap.size, 1, none⟩ = some (.slice a2 Z.length c2)) (first | exact HX4.out _ (by assumption) | exact HX4.out _ (Below.alloc (by assumption) (Below.size (by assumption)) _) | go_keep) (first | (go_at_call 22; refine (HL1.out _ (by assumption)).mono ?_; rintro e V5 ⟨pb, rfl, hb5, hp5⟩))
    clear HL1 x0 x1 XD
    have hb5V : Below V4.heap.size V4 V5 := hb5
    obtain ⟨-, x0, x1⟩ := HX4.out V5 hb5V
    have l2 := HL2.out V5 hb5V
    clear HL2
    go_wp2_with fail
    refine l2.mono ?_
    rintro e V6 ⟨rb, rfl, hb6, hq6⟩
    clear l2 x0 x1
    obtain ⟨-, x0, x1, y0, y1⟩ := HC7.out V6 hb6
    have HC8 : Hid (∀ X, Below V6.heap.size V6 X → Below V6.heap.size V6 X ∧ X.cell? ⟨w.heap.size, 0, none⟩ = some (.slice a1 R.length c1) ∧ X.cell? ⟨w.heap.size, 1, none⟩ = some (.slice a2 Z.length c2) ∧ X.cell? ⟨g, R.length * 4, none⟩ = some (.string { data := #[98, 101, 104, 105, 110, 100] }) ∧ X.cell? ⟨h, Z.length, none⟩ = some (.int .i64 (-77))) := fun X hX => ⟨hX, (HC7.out X (hb6.trans (hX.mono hb6.size))).2⟩
    have HSR8 : Hid (∀ X, Below V6.heap.size V6 X → Calls Try.prog 37 #[.slice (some ⟨g, 0, none⟩) R.length c4, .slice a1 R.length c1] X fun e w2 => e = .returned (.bool true) ∧ Below X.heap.size X w2) := fun X hX => HSR.out X (hb6.trans (hX.mono hb6.size))
    have HSI8 : Hid (∀ X, Below V6.heap.size V6 X → Calls Try.prog 38 #[.slice (some ⟨h, 0, none⟩) Z.length c6, .slice a2 Z.length c2] X fun e w2 => e = .returned (.bool true) ∧ Below X.heap.size X w2) := fun X hX => HSI.out X (hb6.trans (hX.mono hb6.size))
    have H46 : Hid (Below V4.heap.size V4 V6) := hb6
    have H56 : Hid (Below V5.heap.size V5 V6) := hq6
    have HP5 : Hid _ := hp5.out
    clear hq6 hp5
    clear hb6 hb5 hb5V
    have XD : Below V6.heap.size V6 V6.drew := (Below.refl _ _).drew
    obtain ⟨-, z0, z1, z2, z3⟩ := HC8.out V6.drew XD
    go_wp2_with fail
    go_region_held_law (fun X => Below V6.heap.size V6 X ∧ X.cell? ⟨w.heap.size, 0, none⟩ = some (.slice a1 R.length c1) ∧ X.cell? ⟨w.heap.size, 1, none⟩ = some (.slice a2 Z.length c2) ∧ X.cell? ⟨g, R.length * 4, none⟩ = some (.string { data := #[98, 101, 104, 105, 110, 100] }) ∧ X.cell? ⟨h, Z.length, none⟩ = some (.int .i64 (-77))) (first | exact HC8.out _ (by assumption) | exact HC8.out _ (Below.alloc (by assumption) (Below.size (by assumption)) _) | go_keep) (first | (go_at_call 13; refine (nu _ _).mono ?_; rintro e w2 ⟨rfl, e2⟩; obtain rfl := e2.symm) | (go_at_call 37; refine (HSR8.out _ (by assumption)).mono ?_; rintro e V7 ⟨rfl, hs7⟩; have hb7 : Below V6.heap.size V6 V7 := Below.trans (by assumption) (hs7.mono (Below.size (by assumption))); clear hs7) | (go_at_call 38; refine (HSI8.out _ (by assumption)).mono ?_; rintro e V8 ⟨rfl, hs8⟩; have hb8 : Below V6.heap.size V6 V8 := Below.trans (by assumption) (hs8.mono (Below.size (by assumption))); clear hs8))
    have h58 : Below V5.heap.size V5 V8 := H56.out.trans (hb8.mono H56.out.size)
    have hb8 : Below V4.heap.size V4 V8 := H46.out.trans (hb8.mono H46.out.size)
    clear x0 x1 y0 y1 z0 z1 z2 z3 XD HSR HSI HC7 HX4 HC8 HSR8 HSI8
    have hO8 := owns_below HO4.out hb8
    have HQ8 : Hid (V8.ownsRow V2.heap.size 3 1 (.slice (some ⟨h, 0, none⟩) (Z.length + 1) c6) (Z.length + 1) (zsC (Z ++ [-77]))) := owns_below HQ4.out hb8
    have hlO : (R ++ [behO]).length = R.length + 1 := by simp
    have HBW8 : Hid (Below w.heap.size w V8) := HW8.out V8 (HB4.out.trans (hb8.mono HB4.out.size))
    have HP8 : Hid (∃ q F, Ok V8 pb q F R.length ⟨f.toNat, R, Z.map Int.toNat⟩ ∧ V4.heap.size ≤ pb ∧ ∀ k, k ∈ F → V4.heap.size ≤ k) := by
      obtain ⟨q, F, k1, k2, k3⟩ := HP5.out
      exact ⟨q, F, ⟨(k1.top.below h58), k1.lay.below h58, k1.good, k1.nn⟩, k2, k3⟩
    generalize hN : R.length + 1 = N at *
    generalize hM : Z.length + 1 = M at *
    go_wp2
    go_loopg [18] N (fun gk i wr => ∃ (k : Nat) (l : List Ob), gk = N - k ∧ k ≤ N ∧ i = .int .i64 (k : Int) ∧ Hid (l.length = N ∧ wr.ownsRow W0.heap.size 35 4 (.slice (some ⟨g, 0, none⟩) N c4) N (obsC l) ∧ Only [g] V8 wr))
    case atStart => exact ⟨0, _, by omega, by omega, rfl, hlO, hO8, Only.refl _ _⟩
    case round =>
      clear hO8 hlO
      obtain ⟨k, l, hgk, hkn, rfl, HL⟩ := hrel
      by_cases hk : k < N
      · have hkI : (k : Int) < (N : Int) := by omega
        obtain ⟨⟨x0, x1, x2, x3, y0, y1, y2, y3⟩, fz, HP⟩ := over_row HL.out.1 HL.out.2.1 HL.out.2.2 hk
        have f0 := fz (k * 4)
        have f1 := fz (k * 4 + 1)
        have f2 := fz (k * 4 + 2)
        have f3 := fz (k * 4 + 3)
        have w1 : IntKind.i64.wrap ((k : Int) + 1) = ((k + 1 : Nat) : Int) := by rw [IntKind.wrap_i64]; omega
        clear fz HL
        go_wp2
        go_roundg (N - (k + 1))
        case measure => omega
        case rel => exact ⟨k + 1, _, rfl, by omega, rfl, HP⟩
      · obtain rfl : k = N := by omega
        have hkI : ¬ (k : Int) < (k : Int) := by omega
        have hQ9 : wr.ownsRow V2.heap.size 3 1 (.slice (some ⟨h, 0, none⟩) M c6) M (zsC (Z ++ [-77])) := owns_keep HQ8.out (fun j hj => HL.out.2.2.block j (HQ8.out.lt j hj).2 (by have h1 := (HQ8.out.lt j hj).1; have h2 := HGT.out; simp; omega))
        have hlQ : (Z ++ [-77]).length = M := by rw [List.length_append]; exact hM
        have HOG : Hid (Only [g] V8 wr) := HL.out.2.2
        clear HL HQ8
        go_wp2
        go_loopg [19] M (fun gk i wx => ∃ (k : Nat) (l : List Int), gk = M - k ∧ k ≤ M ∧ i = .int .i64 (k : Int) ∧ Hid (l.length = M ∧ wx.ownsRow V2.heap.size 3 1 (.slice (some ⟨h, 0, none⟩) M c6) M (zsC l) ∧ Only [h] wr wx))
        case atStart => exact ⟨0, _, by omega, by omega, rfl, hlQ, hQ9, Only.refl _ _⟩
        case round =>
          clear hQ9 hlQ
          obtain ⟨j, l, hgj, hjn, rfl, HL⟩ := hrel
          by_cases hj : j < M
          · have hjI : (j : Int) < (M : Int) := by omega
            obtain ⟨⟨x0, y0⟩, fz, HP⟩ := over_int HL.out.1 HL.out.2.1 HL.out.2.2 hj
            have f0 := fz j
            have w1 : IntKind.i64.wrap ((j : Int) + 1) = ((j + 1 : Nat) : Int) := by rw [IntKind.wrap_i64]; omega
            clear fz HL
            go_wp2
            go_roundg (M - (j + 1))
            case measure => omega
            case rel => exact ⟨j + 1, _, rfl, by omega, rfl, HP⟩
          · obtain rfl : j = M := by omega
            have hjI : ¬ (j : Int) < (j : Int) := by omega
            obtain ⟨e10, hend⟩ := lay_end (f := f) (R := R) (Z := Z) (g := g) (h := h) HBW.out hbb HK.out HBW8.out (by have h1 := HGT.out; have h2 := HW0.out; omega) (by have h1 := HGT.out; have h2 := HW0.out; omega) ((HOG.out.mono (by intro k hk; simp at hk; simp [hk])).trans (HL.out.2.2.mono (by intro k hk; simp at hk; simp [hk])))
            have HEND : Hid _ := hend (.pointer (some ⟨pb, 0, none⟩)) (.pointer (some ⟨rb, 0, none⟩)) (.inr (by
              obtain ⟨q, F, k1, k2, k3⟩ := HP8.out
              have h1 := HGT.out
              have h2 := HW0.out
              have h3 := HB4.out.size
              exact ⟨pb, q, F, rfl, k1, HFT.out, fun k hk => by have := k3 k hk; omega, by omega, by omega, by omega⟩))
            have b0 : wr.cell? ⟨bb, 0, none⟩ = some (.pointer none) := (cell_of_heap e10).trans rfl
            have b3 : wr.cell? ⟨bb, 3, none⟩ = some (.pointer none) := (cell_of_heap e10).trans rfl
            have g0 : wr.frozen? ⟨bb, 0, none⟩ = false := frozen_of_heap e10
            have g3 : wr.frozen? ⟨bb, 3, none⟩ = false := frozen_of_heap e10
            clear hend e10 HL
            go_wp2
            go_ret
            exact HEND.out
end Go.Proofs.Ythmjjpaengackaa.Po
