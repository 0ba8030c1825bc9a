import Derived.Test.YtpoipgmphhfgeabDoorPaAp
import Derived.Test.YtpoipgmphhfgeabDoorPaH
import Derived.Test.YtpoipgmphhfgeabDoorPaI
import Derived.Test.YtpoipgmphhfgeabDoorPaZ
namespace Go.Proofs.YtpoipgmphhfgeabDoor.Pa
open Go.RowKit Go.Lib

theorem mapE_ok {s : ByteArray} {F T : List ByteArray} (h0 : parseE s = 0) (hl : F.length = T.length) : mapE s F T = fault ((parseY s).map (chg F T)) ∧ mapY s F T = textY ((parseY s).map (chg F T)) := by
  constructor
  · unfold mapE; rw [if_pos h0, if_pos hl]
  · unfold mapY; rw [if_pos ⟨h0, hl⟩]
/-- what a Map that was answered says -/
theorem map_names {s : ByteArray} {F T : List ByteArray} (h0 : parseE s = 0) (hl : F.length = T.length) (h : mapE s F T = 0) : parseE (mapY s F T) = 0 ∧ parseY (mapY s F T) = (parseY s).map (chg F T) := by
  obtain ⟨e1, e2⟩ := mapE_ok h0 hl
  rw [e1] at h
  rw [e2]
  exact text_parse h
theorem map_undo {s : ByteArray} {F T : List ByteArray} (h0 : parseE s = 0) (hl : F.length = T.length) (h : mapE s F T = 0) (ha : Apart F T (parseY s)) : mapE (mapY s F T) T F = 0 ∧ mapY (mapY s F T) T F = s := by
  obtain ⟨p1, p2⟩ := map_names h0 hl h
  obtain ⟨e1, e2⟩ := mapE_ok (F := T) (T := F) p1 hl.symm
  rw [p2, map_back ha] at e1 e2
  obtain ⟨q1, q2⟩ := parse_text h0
  exact ⟨e1.trans q1, e2.trans q2⟩
theorem map_same {s t : ByteArray} {F T : List ByteArray} (hs : parseE s = 0) (ht : parseE t = 0) (hl : F.length = T.length) (h1 : mapE s F T = 0) (h2 : mapE t F T = 0) (ha : Apart F T (parseY s)) (hb : Apart F T (parseY t)) : mapY s F T = mapY t F T ↔ s = t := by
  constructor
  · intro h
    obtain ⟨p1, p2⟩ := map_names hs hl h1
    obtain ⟨q1, q2⟩ := map_names ht hl h2
    rw [← h, p2] at q2
    exact parse_inj hs ht (map_eq ha hb q2)
  · intro h
    rw [h]
theorem dec_prefix {F T A B : List ByteArray} (ha : Apart F T A) (hb : Apart F T B) : decide (A.map (chg F T) <+: B.map (chg F T)) = decide (A <+: B) := by
  by_cases h : A <+: B
  · rw [decide_eq_true h, decide_eq_true ((map_prefix ha hb).2 h)]
  · rw [decide_eq_false h, decide_eq_false fun h' => h ((map_prefix ha hb).1 h')]

set_option maxRecDepth 20000 in
set_option maxHeartbeats 4000000 in
theorem renames_walk (w : World) (s t : ByteArray) (f u : Value) (F T : List ByteArray) (h1 : See w f F) (h2 : See w u T) (hn : F.length ≤ 8796093022000) (hn2 : T.length ≤ 8796093022000) : Calls Tryd.prog 4 #[.string s, .string t, f, u] w fun e w' => e = .returned (.bool true) ∧ Below w.heap.size w w' := by
  have HA : Hid (∀ W, Below w.heap.size w W → See W f F) := fun W hb => h1.below hb
  have HB : Hid (∀ W, Below w.heap.size w W → See W u T) := fun W hb => h2.below hb
  have hp1 := parse_any s
  have hp2 := parse_any t
  obtain ⟨a1, k1, rfl, -⟩ := h1
  obtain ⟨a2, k2, rfl, -⟩ := h2
  by_cases hs0 : parseE s = 0
  case neg =>
    have hsB : (parseE s == 0) = false := beq_eq_false_iff_ne.2 hs0
    generalize parseE s = E1 at *
    generalize parseE t = E2 at *
    generalize F.length = n at *
    generalize T.length = m at *
    go_enter Tryd.func4, Tryd.ntmps4
    go_wp2_with fail
    refine (hp1 _).mono ?_
    rintro e w1 ⟨⟨u1, rfl, ho1⟩, hb1⟩
    go_wp2_with fail
    refine (hp2 _).mono ?_
    rintro e w2 ⟨⟨u2, rfl, ho2⟩, hb2⟩
    have hb12 := hb1.trans (hb2.mono hb1.size)
    go_wp2_with (first | (go_at_call 7; refine (num_any _ _).mono ?_; rintro e w4 ⟨rfl, h4⟩; rw [h4]; clear h4 w4) | (go_at_call 10; refine (works_any _).mono ?_; rintro e w9 ⟨rfl, hb9⟩))
    go_ret
    exact ⟨rfl, hb12.trans (hb9.mono hb12.size)⟩
  by_cases ht0 : parseE t = 0
  case neg =>
    rw [hs0] at hp1
    have hsB : (parseE t == 0) = false := beq_eq_false_iff_ne.2 ht0
    generalize parseE t = E2 at *
    generalize F.length = n at *
    generalize T.length = m at *
    go_enter Tryd.func4, Tryd.ntmps4
    go_wp2_with fail
    refine (hp1 _).mono ?_
    rintro e w1 ⟨⟨u1, rfl, ho1⟩, hb1⟩
    go_wp2_with fail
    refine (hp2 _).mono ?_
    rintro e w2 ⟨⟨u2, rfl, ho2⟩, hb2⟩
    have hb12 := hb1.trans (hb2.mono hb1.size)
    go_wp2_with (first | (go_at_call 7; refine (num_any _ _).mono ?_; rintro e w4 ⟨rfl, h4⟩; rw [h4]; clear h4 w4) | (go_at_call 10; refine (works_any _).mono ?_; rintro e w9 ⟨rfl, hb9⟩))
    go_ret
    exact ⟨rfl, hb12.trans (hb9.mono hb12.size)⟩
  rw [hs0] at hp1
  rw [ht0] at hp2
  by_cases hl : F.length = T.length
  case neg =>
    have hlI : ¬ (F.length : Int) = (T.length : Int) := by omega
    generalize F.length = n at *
    generalize T.length = m at *
    go_enter Tryd.func4, Tryd.ntmps4
    go_wp2_with fail
    refine (hp1 _).mono ?_
    rintro e w1 ⟨⟨u1, rfl, ho1⟩, hb1⟩
    go_wp2_with fail
    refine (hp2 _).mono ?_
    rintro e w2 ⟨⟨u2, rfl, ho2⟩, hb2⟩
    have hb12 := hb1.trans (hb2.mono hb1.size)
    go_wp2_with (first | (go_at_call 7; refine (num_any _ _).mono ?_; rintro e w4 ⟨rfl, h4⟩; rw [h4]; clear h4 w4) | (go_at_call 10; refine (works_any _).mono ?_; rintro e w9 ⟨rfl, hb9⟩))
    go_ret
    exact ⟨rfl, hb12.trans (hb9.mono hb12.size)⟩
  by_cases hbig : 100 < F.length
  case pos =>
    have hbI : (100 : Int) < (F.length : Int) := by omega
    rw [← hl]
    generalize F.length = n at *
    go_enter Tryd.func4, Tryd.ntmps4
    go_wp2_with fail
    refine (hp1 _).mono ?_
    rintro e w1 ⟨⟨u1, rfl, ho1⟩, hb1⟩
    go_wp2_with fail
    refine (hp2 _).mono ?_
    rintro e w2 ⟨⟨u2, rfl, ho2⟩, hb2⟩
    have hb12 := hb1.trans (hb2.mono hb1.size)
    go_wp2_with (first | (go_at_call 7; refine (num_any _ _).mono ?_; rintro e w4 ⟨rfl, h4⟩; rw [h4]; clear h4 w4) | (go_at_call 10; refine (works_any _).mono ?_; rintro e w9 ⟨rfl, hb9⟩))
    go_ret
    exact ⟨rfl, hb12.trans (hb9.mono hb12.size)⟩
  have hbI : ¬ (100 : Int) < (F.length : Int) := by omega
  have HFT : Hid (F.length = T.length) := hl
  have HF100 : Hid (F.length ≤ 100) := by show _ ≤ _; omega
  have HAP : Hid (∀ W v L, Below w.heap.size w W → See W v L → L.length ≤ 16 → Calls Tryd.prog 11 #[.slice a1 F.length k1, .slice a2 T.length k2, v] W fun e w' => ApP F T L e ∧ Below W.heap.size W w') := fun W v L hb hv hL => apart_any W _ _ v F T L (HA.out W hb) (HB.out W hb) hv hl (by omega) hL
  have HMP : Hid (∀ W x v1 v2, See W v1 F → See W v2 T → Calls Tryd.prog 12 #[.string x, v1, v2] W fun e w' => e = .returned (.tuple #[.string (mapY x F T), .int .i64 (mapE x F T)]) ∧ Below W.heap.size W w') := fun W x v1 v2 h1 h2 => map_any W x v1 v2 F T h1 h2 (by omega)
  have HMB : Hid (∀ W x v1 v2, See W v1 T → See W v2 F → Calls Tryd.prog 12 #[.string x, v1, v2] W fun e w' => e = .returned (.tuple #[.string (mapY x T F), .int .i64 (mapE x T F)]) ∧ Below W.heap.size W w') := fun W x v1 v2 h1 h2 => map_any W x v1 v2 T F h1 h2 (by omega)
  have HPS : Hid (parseE s = 0) := hs0
  have HPT : Hid (parseE t = 0) := ht0
  have HBY : Hid ((([] : List ByteArray).length + F.length) * 16 ≤ 140737488355328 ∧ (([] : List ByteArray).length + T.length) * 16 ≤ 140737488355328) := by
    constructor
    · simp; omega
    · simp; omega
  have hls := (parse_len s).1
  have hlt := (parse_len t).1
  rw [← hl] at HAP ⊢
  rw [← hl] at HB
  obtain ⟨n, hn'⟩ : ∃ n, F.length = n := ⟨_, rfl⟩
  rw [hn'] at HA HB HAP hbI ⊢
  obtain ⟨LA, hLA⟩ : ∃ LA, parseY s = LA := ⟨_, rfl⟩
  obtain ⟨LB, hLB⟩ : ∃ LB, parseY t = LB := ⟨_, rfl⟩
  rw [hLA] at hp1 hls
  rw [hLB] at hp2 hlt
  have HLA : Hid (parseY s = LA) := hLA
  have HLB : Hid (parseY t = LB) := hLB
  clear hn' hl hbig hs0 ht0 hn hn2 hLA hLB
  go_enter Tryd.func4, Tryd.ntmps4
  go_wp2_with fail
  refine (hp1 _).mono ?_
  rintro e w1 ⟨⟨u1, rfl, ho1⟩, hb1⟩
  go_wp2_with fail
  refine (hp2 _).mono ?_
  rintro e w2 ⟨⟨u2, rfl, ho2⟩, hb2⟩
  have hb12 := hb1.trans (hb2.mono hb1.size)
  have HO1 : Hid (∀ W, Below w2.heap.size w2 W → See W u1 LA) := fun W hb => ((ho1.below hb2).below hb).see
  have HO2 : Hid (∀ W, Below w2.heap.size w2 W → See W u2 LB) := fun W hb => (ho2.below hb).see
  clear ho1 ho2 hp1 hp2
  go_wp2_with (first | (go_at_call 7; refine (num_any _ _).mono ?_; rintro e w4 ⟨rfl, h4⟩; rw [h4]; clear h4 w4))
  refine (HAP.out _ _ _ hb12 (HO1.out _ (Below.refl _ _)) hls).mono ?_
  rintro e w3 ⟨⟨R1, rfl, hR1⟩, hb3⟩
  have hb13 := hb12.trans (hb3.mono hb12.size)
  cases R1
  · go_wp2_with (first | (go_at_call 10; refine (works_any _).mono ?_; rintro e w9 ⟨rfl, hb9⟩))
    go_ret
    exact ⟨rfl, hb13.trans (hb9.mono hb13.size)⟩
  have HP1 : Hid (Apart F T LA) := hR1 rfl
  clear hR1
  go_wp2_with fail
  refine (HAP.out _ _ _ hb13 (HO2.out _ hb3) hlt).mono ?_
  rintro e w5 ⟨⟨R2, rfl, hR2⟩, hb5⟩
  have hb15 := hb13.trans (hb5.mono hb13.size)
  have h25 := hb3.trans (hb5.mono hb3.size)
  cases R2
  · go_wp2_with (first | (go_at_call 10; refine (works_any _).mono ?_; rintro e w9 ⟨rfl, hb9⟩))
    go_ret
    exact ⟨rfl, hb15.trans (hb9.mono hb15.size)⟩
  have HP2 : Hid (Apart F T LB) := hR2 rfl
  clear hR2
  obtain ⟨Y1, hY1⟩ : ∃ Y, mapY s F T = Y := ⟨_, rfl⟩
  obtain ⟨Y2, hY2⟩ : ∃ Y, mapY t F T = Y := ⟨_, rfl⟩
  obtain ⟨E1, hE1⟩ : ∃ Y, mapE s F T = Y := ⟨_, rfl⟩
  obtain ⟨E2, hE2⟩ : ∃ Y, mapE t F T = Y := ⟨_, rfl⟩
  have HM1 : Hid (∀ W v1 v2, See W v1 F → See W v2 T → Calls Tryd.prog 12 #[.string s, v1, v2] W fun e w' => e = .returned (.tuple #[.string Y1, .int .i64 E1]) ∧ Below W.heap.size W w') := fun W v1 v2 h1 h2 => by
    have h := HMP.out W s v1 v2 h1 h2
    rw [hY1, hE1] at h
    exact h
  have HM2 : Hid (∀ W v1 v2, See W v1 F → See W v2 T → Calls Tryd.prog 12 #[.string t, v1, v2] W fun e w' => e = .returned (.tuple #[.string Y2, .int .i64 E2]) ∧ Below W.heap.size W w') := fun W v1 v2 h1 h2 => by
    have h := HMP.out W t v1 v2 h1 h2
    rw [hY2, hE2] at h
    exact h
  have HE1 : Hid (mapE s F T = E1) := hE1
  have HE2 : Hid (mapE t F T = E2) := hE2
  have HY1 : Hid (mapY s F T = Y1) := hY1
  have HY2 : Hid (mapY t F T = Y2) := hY2
  clear hY1 hY2 hE1 hE2
  by_cases e1 : E1 = 0
  case neg =>
    have e1B : (E1 == 0) = false := beq_eq_false_iff_ne.2 e1
    go_wp2_with (first
      | (go_at_call 12; refine (HM2.out _ _ _ ((hov10.below hbw11).see) hov11.see).mono ?_; rintro e w12 ⟨rfl, hbw12⟩; have h12 := h11.trans (hbw12.mono h11.size))
      | (at_builtin; refine wpList_app rfl _ _ rfl w10.heap.size _ _ [] T rfl (Own.nil _ _) rfl (HB.out _ h10) HBY.out.2 (Nat.le_refl _) ?_; intro v11 w11 hov11 hbw11; have h11 := h10.trans (hbw11.mono h10.size))
      | (at_builtin; refine wpList_app rfl _ _ rfl w8.heap.size _ _ [] F rfl (Own.nil _ _) rfl (HA.out _ h8) HBY.out.1 (Nat.le_refl _) ?_; intro v10 w10 hov10 hbw10; have h10 := h8.trans (hbw10.mono h8.size))
      | (go_at_call 12; refine (HM1.out _ _ _ ((hov6.below hbw7).see) hov7.see).mono ?_; rintro e w8 ⟨rfl, hbw8⟩; have h8 := h7.trans (hbw8.mono h7.size))
      | (at_builtin; refine wpList_app rfl _ _ rfl w6.heap.size _ _ [] T rfl (Own.nil _ _) rfl (HB.out _ h6) HBY.out.2 (Nat.le_refl _) ?_; intro v7 w7 hov7 hbw7; have h7 := h6.trans (hbw7.mono h6.size))
      | (at_builtin; refine wpList_app rfl _ _ rfl w5.heap.size _ _ [] F rfl (Own.nil _ _) rfl (HA.out _ hb15) HBY.out.1 (Nat.le_refl _) ?_; intro v6 w6 hov6 hbw6; have h6 := hb15.trans (hbw6.mono hb15.size))
      | (go_at_call 7; refine (num_any _ _).mono ?_; rintro e w4 ⟨rfl, h4⟩; rw [h4]; clear h4 w4)
      | (go_at_call 10; refine (works_any _).mono ?_; rintro e w9 ⟨rfl, hb9⟩))
    go_ret
    exact ⟨rfl, h12.trans (hb9.mono h12.size)⟩
  subst e1
  by_cases e2 : E2 = 0
  case neg =>
    have e2B : (E2 == 0) = false := beq_eq_false_iff_ne.2 e2
    go_wp2_with (first
      | (go_at_call 12; refine (HM2.out _ _ _ ((hov10.below hbw11).see) hov11.see).mono ?_; rintro e w12 ⟨rfl, hbw12⟩; have h12 := h11.trans (hbw12.mono h11.size))
      | (at_builtin; refine wpList_app rfl _ _ rfl w10.heap.size _ _ [] T rfl (Own.nil _ _) rfl (HB.out _ h10) HBY.out.2 (Nat.le_refl _) ?_; intro v11 w11 hov11 hbw11; have h11 := h10.trans (hbw11.mono h10.size))
      | (at_builtin; refine wpList_app rfl _ _ rfl w8.heap.size _ _ [] F rfl (Own.nil _ _) rfl (HA.out _ h8) HBY.out.1 (Nat.le_refl _) ?_; intro v10 w10 hov10 hbw10; have h10 := h8.trans (hbw10.mono h8.size))
      | (go_at_call 12; refine (HM1.out _ _ _ ((hov6.below hbw7).see) hov7.see).mono ?_; rintro e w8 ⟨rfl, hbw8⟩; have h8 := h7.trans (hbw8.mono h7.size))
      | (at_builtin; refine wpList_app rfl _ _ rfl w6.heap.size _ _ [] T rfl (Own.nil _ _) rfl (HB.out _ h6) HBY.out.2 (Nat.le_refl _) ?_; intro v7 w7 hov7 hbw7; have h7 := h6.trans (hbw7.mono h6.size))
      | (at_builtin; refine wpList_app rfl _ _ rfl w5.heap.size _ _ [] F rfl (Own.nil _ _) rfl (HA.out _ hb15) HBY.out.1 (Nat.le_refl _) ?_; intro v6 w6 hov6 hbw6; have h6 := hb15.trans (hbw6.mono hb15.size))
      | (go_at_call 7; refine (num_any _ _).mono ?_; rintro e w4 ⟨rfl, h4⟩; rw [h4]; clear h4 w4)
      | (go_at_call 10; refine (works_any _).mono ?_; rintro e w9 ⟨rfl, hb9⟩))
    go_ret
    exact ⟨rfl, h12.trans (hb9.mono h12.size)⟩
  subst e2
  have HQ1 : Hid (∀ W, Calls Tryd.prog 6 #[.string Y1] W fun e w' => (∃ u, e = .returned (.tuple #[u, .int .i64 0]) ∧ Own w' W.heap.size u (LA.map (chg F T))) ∧ Below W.heap.size W w') := fun W => by
    have h := parse_any Y1 W
    obtain ⟨p1, p2⟩ := map_names HPS.out HFT.out HE1.out
    rw [HY1.out, HLA.out] at p2
    rw [HY1.out] at p1
    rw [p1, p2] at h
    exact h
  have HQ2 : Hid (∀ W, Calls Tryd.prog 6 #[.string Y2] W fun e w' => (∃ u, e = .returned (.tuple #[u, .int .i64 0]) ∧ Own w' W.heap.size u (LB.map (chg F T))) ∧ Below W.heap.size W w') := fun W => by
    have h := parse_any Y2 W
    obtain ⟨p1, p2⟩ := map_names HPT.out HFT.out HE2.out
    rw [HY2.out, HLB.out] at p2
    rw [HY2.out] at p1
    rw [p1, p2] at h
    exact h
  have HM3 : Hid (∀ W v1 v2, See W v1 T → See W v2 F → Calls Tryd.prog 12 #[.string Y1, v1, v2] W fun e w' => e = .returned (.tuple #[.string s, .int .i64 0]) ∧ Below W.heap.size W w') := fun W v1 v2 h1 h2 => by
    have h := HMB.out W Y1 v1 v2 h1 h2
    obtain ⟨p1, p2⟩ := map_undo HPS.out HFT.out HE1.out (by rw [HLA.out]; exact HP1.out)
    rw [HY1.out] at p1 p2
    rw [p1, p2] at h
    exact h
  have HI1 : Hid (decide (LA.map (chg F T) <+: LB.map (chg F T)) = decide (LA <+: LB) ∧ decide (LB.map (chg F T) <+: LA.map (chg F T)) = decide (LB <+: LA)) := ⟨dec_prefix HP1.out HP2.out, dec_prefix HP2.out HP1.out⟩
  have HYY : Hid (Y1 = Y2 ↔ s = t) := by
    show _ ↔ _
    rw [← HY1.out, ← HY2.out]
    exact map_same HPS.out HPT.out HFT.out HE1.out HE2.out (by rw [HLA.out]; exact HP1.out) (by rw [HLB.out]; exact HP2.out)
  have HLN : Hid ((LA.map (chg F T)).length ≤ 16 ∧ (LB.map (chg F T)).length ≤ 16) := by rw [List.length_map, List.length_map]; exact ⟨hls, hlt⟩
  clear HMP HMB HAP HP1 HP2 HE1 HE2 HY1 HY2 HLA HLB HPS HPT
  generalize LA.map (chg F T) = XA at *
  generalize LB.map (chg F T) = XB at *
  go_wp2_with (first
    | (go_at_call 6; refine (HQ2.out w16).mono ?_; rintro e w17 ⟨⟨u17, rfl, ho17⟩, hbw17⟩; have h17 := h16.trans (hbw17.mono h16.size))
    | (go_at_call 6; refine (HQ1.out w15).mono ?_; rintro e w16 ⟨⟨u16, rfl, ho16⟩, hbw16⟩; have h16 := h15.trans (hbw16.mono h15.size))
    | (go_at_call 12; refine (HM3.out _ _ _ ((hov13.below hbw14).see) hov14.see).mono ?_; rintro e w15 ⟨rfl, hbw15⟩; have h15 := h14.trans (hbw15.mono h14.size))
    | (at_builtin; refine wpList_app rfl _ _ rfl w13.heap.size _ _ [] F rfl (Own.nil _ _) rfl (HA.out _ h13) HBY.out.1 (Nat.le_refl _) ?_; intro v14 w14 hov14 hbw14; have h14 := h13.trans (hbw14.mono h13.size))
    | (at_builtin; refine wpList_app rfl _ _ rfl w12.heap.size _ _ [] T rfl (Own.nil _ _) rfl (HB.out _ h12) HBY.out.2 (Nat.le_refl _) ?_; intro v13 w13 hov13 hbw13; have h13 := h12.trans (hbw13.mono h12.size))
    | (go_at_call 12; refine (HM2.out _ _ _ ((hov10.below hbw11).see) hov11.see).mono ?_; rintro e w12 ⟨rfl, hbw12⟩; have h12 := h11.trans (hbw12.mono h11.size))
    | (at_builtin; refine wpList_app rfl _ _ rfl w10.heap.size _ _ [] T rfl (Own.nil _ _) rfl (HB.out _ h10) HBY.out.2 (Nat.le_refl _) ?_; intro v11 w11 hov11 hbw11; have h11 := h10.trans (hbw11.mono h10.size))
    | (at_builtin; refine wpList_app rfl _ _ rfl w8.heap.size _ _ [] F rfl (Own.nil _ _) rfl (HA.out _ h8) HBY.out.1 (Nat.le_refl _) ?_; intro v10 w10 hov10 hbw10; have h10 := h8.trans (hbw10.mono h8.size))
    | (go_at_call 12; refine (HM1.out _ _ _ ((hov6.below hbw7).see) hov7.see).mono ?_; rintro e w8 ⟨rfl, hbw8⟩; have h8 := h7.trans (hbw8.mono h7.size))
    | (at_builtin; refine wpList_app rfl _ _ rfl w6.heap.size _ _ [] T rfl (Own.nil _ _) rfl (HB.out _ h6) HBY.out.2 (Nat.le_refl _) ?_; intro v7 w7 hov7 hbw7; have h7 := h6.trans (hbw7.mono h6.size))
    | (at_builtin; refine wpList_app rfl _ _ rfl w5.heap.size _ _ [] F rfl (Own.nil _ _) rfl (HA.out _ hb15) HBY.out.1 (Nat.le_refl _) ?_; intro v6 w6 hov6 hbw6; have h6 := hb15.trans (hbw6.mono hb15.size))
    | (go_at_call 7; refine (num_any _ _).mono ?_; rintro e w4 ⟨rfl, h4⟩; rw [h4]; clear h4 w4))
  have g6 := h25.trans (hbw6.mono h25.size)
  have g7 := g6.trans (hbw7.mono g6.size)
  have g8 := g7.trans (hbw8.mono g7.size)
  have g10 := g8.trans (hbw10.mono g8.size)
  have g11 := g10.trans (hbw11.mono g10.size)
  have g12 := g11.trans (hbw12.mono g11.size)
  have g13 := g12.trans (hbw13.mono g12.size)
  have g14 := g13.trans (hbw14.mono g13.size)
  have g15 := g14.trans (hbw15.mono g14.size)
  have g16 := g15.trans (hbw16.mono g15.size)
  have g17 := g16.trans (hbw17.mono g16.size)
  have hI1 := inside_any w17 u1 u2 LA LB (HO1.out _ g17) (HO2.out _ g17) (by omega)
  generalize decide (LA <+: LB) = D1 at HI1 hI1
  have hst : (Y1.toList == Y2.toList) = (s.toList == t.toList) := by
    by_cases h : s = t
    · rw [(bytes_beq_iff s t).2 h, (bytes_beq_iff Y1 Y2).2 (HYY.out.2 h)]
    · rw [(bytes_beq_false_iff s t).2 h, (bytes_beq_false_iff Y1 Y2).2 (fun e => h (HYY.out.1 e))]
  have HST : Hid _ := hst
  clear hst
  obtain ⟨D3, hD3⟩ : ∃ D3, (s.toList == t.toList) = D3 := ⟨_, rfl⟩
  have hD4 : (Y1.toList == Y2.toList) = D3 := HST.out.trans hD3
  clear HST
  go_wp2_with fail
  refine (hI1.mono ?_)
  rintro e w20 ⟨rfl, hbw20⟩
  have hI2 := inside_any w20 u16 u17 XA XB ((((ho16.below hbw17).below hbw20)).see) ((ho17.below hbw20).see) (by have := HLN.out.1; omega)
  rw [HI1.out.1] at hI2
  go_wp2_with fail
  refine (hI2.mono ?_)
  rintro e w21 ⟨rfl, hbw21⟩
  have g20 := g17.trans (hbw20.mono g17.size)
  have g21 := g20.trans (hbw21.mono g20.size)
  have hI3 := inside_any w21 u2 u1 LB LA (HO2.out _ g21) (HO1.out _ g21) (by omega)
  generalize decide (LB <+: LA) = D2 at HI1 hI3
  go_wp2_with fail
  refine (hI3.mono ?_)
  rintro e w22 ⟨rfl, hbw22⟩
  have k21 := hbw20.trans (hbw21.mono hbw20.size)
  have k22 := k21.trans (hbw22.mono k21.size)
  have hI4 := inside_any w22 u17 u16 XB XA ((ho17.below k22).see) (((ho16.below hbw17).below k22).see) (by have := HLN.out.2; omega)
  rw [HI1.out.2] at hI4
  go_wp2_with fail
  refine (hI4.mono ?_)
  rintro e w23 ⟨rfl, hbw23⟩
  have k23 := k22.trans (hbw23.mono k22.size)
  have h23 := h17.trans (k23.mono h17.size)
  go_wp2_with (first | (go_at_call 10; refine (works_any _).mono ?_; rintro e w9 ⟨rfl, hb9⟩))
  go_ret
  exact ⟨rfl, h23.trans (hb9.mono h23.size)⟩
end Go.Proofs.YtpoipgmphhfgeabDoor.Pa
