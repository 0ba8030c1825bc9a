import Derived.Test.YtnfddiabhpandaaGreatDoorHtM
namespace Go.Proofs.YtnfddiabhpandaaGreatDoor.Tr
open Go.RowKit Go.Lib Go.Deep

open Classical in
noncomputable def renC (T : Ts) (P Q : List ByteArray) : Int := if (fndS T P).2 ≠ 0 then (fndS T P).2 else if P = Q then 0 else tarE T P Q (fndS T P).1
open Classical in
noncomputable def renL (T : Ts) (P Q : List ByteArray) (L : List En) : List En := if (fndS T P).2 ≠ 0 then L else if P = Q then L else if tarE T P Q (fndS T P).1 ≠ 0 then L else (wo Q L).map (mvE P Q)
set_option maxRecDepth 20000 in
set_option maxHeartbeats 4000000 in
theorem moveE_any (w : World) (B b f d m : Nat) (L : List En) (h : Mdl w B b f d m L) {T : Ts} {dp : Nat → Nat} (hI : Inv T dp) (hM : Mo T L) (P Q : List ByteArray) (hP : Vd P) (hQ : Vd Q) (hc : ¬ ((fndS T P).2 = 0 ∧ P ≠ Q ∧ tarE T P Q (fndS T P).1 = 0)) :
    Calls Tryz.prog 48 #[.pointer (some ⟨b, 0, none⟩), .string (tx P), .string (tx Q)] w fun e w' => e = .returned (.int .i64 (renC T P Q)) ∧ w' = w := by
  have hway := way_any w B b f d m L h hI hM P hP
  have hkind := kind_any w B b f d m L h hI hM P hP
  have HMAY : Hid ((fndS T P).2 = 0 → P ≠ Q → Calls Tryz.prog 82 #[.pointer (some ⟨b, 0, none⟩), .string (tx P), .string (tx Q)] w fun e w' => e = .returned (.int .i64 (tarE T P Q (fndS T P).1)) ∧ w' = w) := fun h0 hn => may_any w B b f d m L h hI hM P Q hP hQ h0 hn
  have HTN : Hid (P ≠ Q → tx P ≠ tx Q) := fun hn e => hn (tx_inj hP hQ e)
  obtain ⟨Z, hZ⟩ : ∃ Z, renC T P Q = Z := ⟨_, rfl⟩
  have HZ : Hid (renC T P Q = Z) := hZ
  rw [hZ]
  have HS : Hid ((fndS T P).2 = 0 → (fndA T P).2 = 0 ∧ (kdT T P = 1 ∨ kdT T P = 2)) := fun h0 => ⟨(some_kd hI hP h0).2.1, (some_kd hI hP h0).2.2.2⟩
  clear hZ h hI hM hP hQ
  by_cases he : ¬ (fndA T P).2 = 0
  · have hs : fndS T P = fndA T P := by unfold fndS; rw [if_neg (fun e => he e.1)]
    obtain rfl : Z = (fndA T P).2 := by rw [← HZ.out]; unfold renC; rw [hs, if_pos he]
    have heb : ((fndA T P).2 == 0) = false := by simpa using he
    clear HZ HS HMAY HTN hkind hs hc
    generalize tx P = tP at *
    generalize tx Q = tQ at *
    generalize (fndA T P).2 = E at *
    go_enter Tryz.func48, Tryz.ntmps48
    go_wp2_with fail
    refine hway.mono ?_
    rintro e w1 ⟨rfl, hw1⟩
    subst w1
    go_wp2
    go_ret
    exact ⟨rfl, rfl⟩
  replace he := Classical.not_not.1 he
  rw [he] at hway
  by_cases h0 : ¬ (fndS T P).2 = 0
  · have hk : (fndA T P).1.kd = 0 := Classical.byContradiction fun hk => h0 (by unfold fndS; rw [if_neg (fun e => hk e.2)]; exact he)
    have hs : fndS T P = (Sp.zero, 120) := by unfold fndS; rw [if_pos ⟨he, hk⟩]
    obtain rfl : Z = 120 := by rw [← HZ.out]; unfold renC; rw [hs, if_pos (by decide)]
    have hk2 : kdT T P = 0 := by unfold kdT; rw [if_pos he, hk]
    rw [hk2] at hkind
    clear HZ HS HMAY HTN hs hk hk2 hc h0 he
    generalize tx P = tP at *
    generalize tx Q = tQ at *
    go_enter Tryz.func48, Tryz.ntmps48
    go_wp2_with fail
    refine hway.mono ?_
    rintro e w1 ⟨rfl, hw1⟩
    subst w1
    go_wp2_with fail
    refine hkind.mono ?_
    rintro e w1 ⟨rfl, hw1⟩
    subst w1
    go_wp2
    go_ret
    exact ⟨rfl, rfl⟩
  replace h0 := Classical.not_not.1 h0
  have hkb : ((kdT T P : Int) == 0) = false := by have := (HS.out h0).2; simp; omega
  by_cases hPQ : P = Q
  · subst hPQ
    obtain rfl : Z = 0 := by rw [← HZ.out]; unfold renC; rw [if_neg (fun e => e h0), if_pos rfl]
    have hk0 : ¬ (kdT T P : Int) = 0 := by have := (HS.out h0).2; omega
    clear HZ HS HMAY HTN hc h0 he
    generalize tx P = tP at *
    generalize kdT T P = kp at *
    go_enter Tryz.func48, Tryz.ntmps48
    go_wp2_with fail
    refine hway.mono ?_
    rintro e w1 ⟨rfl, hw1⟩
    subst w1
    go_wp2_with fail
    refine hkind.mono ?_
    rintro e w1 ⟨rfl, hw1⟩
    subst w1
    go_wp2
    go_ret
    exact ⟨rfl, rfl⟩
  · have hne := Pa.beq_ne (HTN.out hPQ)
    have ht : ¬ tarE T P Q (fndS T P).1 = 0 := fun e => hc ⟨h0, hPQ, e⟩
    have hmay := HMAY.out h0 hPQ
    obtain rfl : Z = tarE T P Q (fndS T P).1 := by rw [← HZ.out]; unfold renC; rw [if_neg (fun e => e h0), if_neg hPQ]
    have htb : (tarE T P Q (fndS T P).1 == 0) = false := by simpa using ht
    have hk0 : ¬ (kdT T P : Int) = 0 := by have := (HS.out h0).2; omega
    clear HZ HS HMAY HTN hc h0 he hPQ
    generalize tx P = tP at *
    generalize tx Q = tQ at *
    generalize kdT T P = kp at *
    generalize tarE T P Q (fndS T P).1 = E at *
    go_enter Tryz.func48, Tryz.ntmps48
    go_wp2_with fail
    refine hway.mono ?_
    rintro e w1 ⟨rfl, hw1⟩
    subst w1
    go_wp2_with fail
    refine hkind.mono ?_
    rintro e w1 ⟨rfl, hw1⟩
    subst w1
    go_wp2_with fail
    refine hmay.mono ?_
    rintro e w1 ⟨rfl, hw1⟩
    subst w1
    go_wp2
    go_ret
    exact ⟨rfl, rfl⟩

end Go.Proofs.YtnfddiabhpandaaGreatDoor.Tr

namespace Go.Proofs.YtnfddiabhpandaaGreatDoor.Tr
open Go.RowKit Go.Lib Go.Deep

set_option maxRecDepth 20000 in
set_option maxHeartbeats 4000000 in
theorem moveK_any (w : World) (B b f d m : Nat) (L : List En) (h : Mdl w B b f d m L) (hB : B ≤ w.heap.size) {T : Ts} {dp : Nat → Nat} (hI : Inv T dp) (hM : Mo T L) (P Q : List ByteArray) (hP : Vd P) (hQ : Vd Q) (h0 : (fndS T P).2 = 0) (hPQ : P ≠ Q) (ht : tarE T P Q (fndS T P).1 = 0) :
    Calls Tryz.prog 48 #[.pointer (some ⟨b, 0, none⟩), .string (tx P), .string (tx Q)] w fun e w' => e = .returned (.int .i64 0) ∧ Hid (Mdl w' B b f d m ((wo Q L).map (mvE P Q))) ∧ Hid (Mfr B w w' b) := by
  have hway := way_any w B b f d m L h hI hM P hP
  have hkind := kind_any w B b f d m L h hI hM P hP
  have hmay := may_any w B b f d m L h hI hM P Q hP hQ h0 hPQ
  have hgone := gone_any w B b f d m L h hB Q hQ
  have hne := Pa.beq_ne (fun e => hPQ (tx_inj hP hQ e))
  obtain ⟨s1, s2, s3, s4⟩ := some_kd hI hP h0
  rw [s2] at hway
  rw [ht] at hmay
  have hkb : ((kdT T P : Int) == 0) = false := by simp; omega
  have hk0 : ¬ (kdT T P : Int) = 0 := by omega
  obtain ⟨hPn, hQn, hpa⟩ := mv_paths hI hM hP hQ h0 ht
  have hnb : (wo Q L).length ≤ 100000 := Nat.le_trans (wo_len _ _) h.nb
  have HSUB : Hid (∀ e ∈ wo Q L, Vd e.p ∧ ∀ R, e.p = P ++ R → Vd (Q ++ R) ∧ (tx P).size ≤ (tx e.p).size ∧ tx Q ++ (tx e.p).extract (tx P).size (tx e.p).size = tx (Q ++ R)) := fun e he => by
    have hv := h.vd e (wo_mem he)
    refine ⟨hv, fun R hR => ?_⟩
    have h4 := hpa e (wo_mem he) R hR
    rw [hR] at hv ⊢
    exact ⟨h4, mv_text hPn hQn hv hP hQ h4⟩
  have HBL : Hid (∀ W, ∀ e ∈ wo Q L, Calls Tryz.prog 84 #[.string (tx e.p), .string (tx P)] W fun x w' => x = .returned (.bool (blwB e.p P)) ∧ w' = W) := fun W e he => below_any W e.p P (h.vd e (wo_mem he)) hP
  have HNE : Hid (∀ e ∈ wo Q L, e.p ≠ P → tx e.p ≠ tx P) := fun e he hn h2 => hn (tx_inj (h.vd e (wo_mem he)) hP h2)
  have hzP := (tx_size hP).2
  have HZE : Hid (∀ e ∈ wo Q L, (tx e.p).size ≤ 529) := fun e he => (tx_size (h.vd e (wo_mem he))).2
  have HSL : Hid (∀ e ∈ wo Q L, (tx P).size ≤ (tx e.p).size → ∀ W, (Instr.slice 9 (.string (tx e.p)) (some (.int .i64 ((tx P).size : Int))) none none).run Tryz.prog W = .ok (.string ((tx e.p).extract (tx P).size (tx e.p).size)) W) := fun e he hle W => by
    have hj : 0 ≤ ((tx P).size : Int) ∧ ((tx P).size : Int) ≤ ((tx e.p).size : Int) := ⟨by omega, by omega⟩
    have hz := (tx_size (h.vd e (wo_mem he))).2
    simp [Instr.slice, Instr.sliceBounds, Instr.sliceBound, asIntOf, run_underlying Tryz.underlying9, hj]
    intro hlt
    omega
  have hzQ := (tx_size hQ).2
  obtain ⟨M, hMM⟩ : ∃ M, wo Q L = M := ⟨_, rfl⟩
  rw [hMM] at hgone hnb HSUB HBL HNE HZE HSL ⊢
  obtain ⟨n, hn⟩ : ∃ n, M.length = n := ⟨_, rfl⟩
  rw [hn] at hnb
  have HN : Hid (M.length = n) := hn
  have HMIX : Hid (∀ k, (mixE P Q k M).length = n) := fun k => (mix_len P Q k M).trans hn
  clear hMM hn hI hM hP hQ h0 hPQ ht h s1 s2 s3 s4 hPn hQn hpa
  obtain ⟨tP, hTP⟩ : ∃ t, tx P = t := ⟨_, rfl⟩
  obtain ⟨tQ, hTQ⟩ : ∃ t, tx Q = t := ⟨_, rfl⟩
  have HTP : Hid (tx P = tP) := hTP
  rw [hTP] at hway hkind hmay hne HSUB HBL HNE hzP HSL ⊢
  rw [hTQ] at hgone hmay hne HSUB hzQ ⊢
  clear hTP hTQ
  generalize kdT T P = kp at *
  go_enter Tryz.func48, Tryz.ntmps48
  go_wp2_with fail
  refine hway.mono ?_
  rintro e w1 ⟨rfl, hw1⟩
  subst w1
  go_wp2_with fail
  refine hkind.mono ?_
  rintro e w1 ⟨rfl, hw1⟩
  subst w1
  go_wp2_with fail
  refine hmay.mono ?_
  rintro e w1 ⟨rfl, hw1⟩
  subst w1
  go_wp2_with fail
  refine hgone.mono ?_
  rintro e w1 ⟨rfl, HD1, HF1⟩
  clear hway hkind hmay hgone
  go_wp2_with fail
  go_loopg [8] n (fun gk iv wr => ∃ k : Nat, k + gk = n ∧ iv = .int .i64 (k : Int) ∧ Hid (Mdl wr B b f d m (mixE P Q k M)) ∧ Hid (Mfr B w wr b))
  case atStart => exact ⟨0, by omega, rfl, by rw [mix_zero]; exact HD1, HF1⟩
  case round =>
    obtain ⟨k, hk, rfl, HD, HF⟩ := hrel
    obtain ⟨a, c, hr⟩ := HD.out.rd
    rw [HMIX.out k] at hr
    have c3 := hr.c3
    by_cases hlt : k < n
    · have hltI : (k : Int) < (n : Int) := by omega
      obtain ⟨e, he⟩ : ∃ e, M[k]? = some e := ⟨_, List.getElem?_eq_getElem (by have := HN.out; omega)⟩
      have hem := List.mem_of_getElem? he
      obtain ⟨g, rfl, y0, y1, y2⟩ := hr.at_ k e (mix_at P Q he)
      obtain ⟨_, hsub⟩ := HSUB.out e hem
      have hbl := HBL.out wr e hem
      have hze := HZE.out e hem
      by_cases hpre : P <+: e.p
      · obtain ⟨R, hR⟩ := hpre
        obtain ⟨v1, v2, v3⟩ := hsub R hR.symm
        have hsl := HSL.out e hem v2
        obtain ⟨X, hX⟩ : ∃ X, (tx e.p).extract tP.size (tx e.p).size = X := ⟨_, rfl⟩
        have hgX : ¬ 9223372036854775807 < tQ.size + X.size := by rw [← hX, ByteArray.size_extract]; omega
        rw [hX] at hsl v3
        have hmv := mv_move (Q := Q) hR.symm
        obtain ⟨m1, m2, m3⟩ := mdl_cell (w := wr.drew) (v := .string (tQ ++ X)) (j := 0) (HD.out.below (Below.refl _ _).drew) (by rw [HMIX.out k]; exact c3) (mix_at P Q he) (by omega) (show (enC e).set 0 _ = enC (mvE P Q e) by rw [hmv]; show _ = [_, _, _]; rw [← v3]; rfl) (by rw [hmv]; exact v1)
        rw [mix_next P Q he] at m1
        have HM1 : Hid _ := m1
        have HM2 : Hid (Mfr B w _ b) := (HF.out.trans (mfr_below (Below.refl _ _).drew)).trans m2
        have c3' : wr.drew.cell? ⟨b, 3, none⟩ = some (.slice (some ⟨g, 0, none⟩) n c) := c3
        have y0' : wr.drew.cell? ⟨g, k * 3, none⟩ = some (.string (tx e.p)) := y0
        have fz' : wr.drew.frozen? ⟨g, k * 3, none⟩ = false := m3
        by_cases hep : e.p = P
        · rw [hep, HTP.out] at y0 y0' hsl
          clear hR hmv hX v1 v2 v3 he hem hbl m1 m2 m3 hsub hr y1 y2 hep
          go_wp2_with fail
          go_region
          all_goals
            go_wp2
            go_roundg (gk - 1)
            case measure => omega
            case rel => exact ⟨k + 1, by omega, by go_num, HM1, HM2⟩
        · have hne2 := Pa.beq_ne (HNE.out e hem hep)
          rw [blwB_true ⟨⟨R, hR⟩, hep⟩] at hbl
          clear hR hmv hX v1 v2 v3 he hem m1 m2 m3 hsub hr y1 y2 hep
          generalize tx e.p = y at *
          go_wp2_with fail
          refine hbl.mono ?_
          rintro x w2 ⟨rfl, hw2⟩
          subst w2
          go_wp2_with fail
          go_region
          all_goals
            go_wp2
            go_roundg (gk - 1)
            case measure => omega
            case rel => exact ⟨k + 1, by omega, by go_num, HM1, HM2⟩
      · have hmx := mix_next P Q he
        rw [mv_same hpre] at hmx
        have HM1 : Hid (Mdl wr B b f d m (mixE P Q (k + 1) M)) := by
          rw [← hmx, set_self (mix_at P Q he)]
          exact HD
        have hep : e.p ≠ P := fun e2 => hpre (e2 ▸ List.prefix_refl _)
        have hne2 := Pa.beq_ne (HNE.out e hem hep)
        rw [blwB_false fun h => hpre h.1] at hbl
        clear he hem hsub hr y1 y2 hep hmx hpre
        generalize tx e.p = y at *
        go_wp2_with fail
        refine hbl.mono ?_
        rintro x w2 ⟨rfl, hw2⟩
        subst w2
        go_wp2
        go_roundg (gk - 1)
        case measure => omega
        case rel => exact ⟨k + 1, by omega, by go_num, HM1, HF⟩
    · obtain rfl : k = n := by omega
      have hltI : ¬ (k : Int) < (k : Int) := by omega
      have HEND : Hid (Mdl wr B b f d m (M.map (mvE P Q))) := by
        have := HD.out
        rw [← HN.out, mix_all] at this
        exact this
      clear HD hr
      go_wp2
      go_ret
      exact ⟨rfl, HEND, HF⟩

end Go.Proofs.YtnfddiabhpandaaGreatDoor.Tr
