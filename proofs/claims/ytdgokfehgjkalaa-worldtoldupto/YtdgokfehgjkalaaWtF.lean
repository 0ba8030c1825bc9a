import Derived.Test.YtdgokfehgjkalaaWtE
namespace Go.Proofs.Ytdgokfehgjkalaa.Wd
open Go.RowKit Go.Lib Go.Deep

/-- names that may be -/
def KOK (f : Sto) : Prop := ∀ k, (f k).isSome = true → nameOK (str k) = true
theorem kok_put {f : Sto} (h : KOK f) {n b : ByteArray} (hn : nameOK n = true) : KOK (putF f n b) := fun k hk => by
  unfold putF at hk
  split at hk
  · rename_i e
    rw [e]
    unfold ky
    rw [str_of]
    exact hn
  · exact h k hk
theorem kok_del {f : Sto} (h : KOK f) (n : ByteArray) : KOK (delF f n) := fun k hk => by
  unfold delF at hk
  split at hk
  · cases hk
  · exact h k hk
theorem kok_eq {S T : Wst} (h : KOK S.f) (e : T.f = S.f) : KOK T.f := by rw [e]; exact h
theorem put_name {S : Wst} {n b : ByteArray} (h : putE S n b = 0) : nameOK n = true := by
  unfold putE at h
  cases hoff : S.off with
  | true => rw [refE_off hoff] at h; cases h
  | false =>
    rw [refE_on2 hoff] at h
    unfold nameE at h
    cases hn : nameOK n with
    | true => rfl
    | false => rw [hn] at h; cases h
theorem kok_do {S : Wst} (h : KOK S.f) (o : Ops) : KOK (doS S o).f := by
  have hu : ∀ T : Wst, KOK T.f → KOK (useS T).f := fun T hT => by rw [(useS_tr T).2.2.2.2]; exact hT
  unfold doS
  split
  · unfold getS; split
    · exact hu _ h
    · exact h
  split
  · unfold putS; split
    · rename_i hp; exact hu _ (kok_put h (put_name hp))
    · exact h
  split
  · unfold delS; split
    · exact hu _ (kok_del h _)
    · exact h
  split
  · unfold listS; split
    · exact h
    · exact hu _ h
  split
  · unfold loadS; split
    · exact h
    · exact hu _ h
  split
  · unfold pendS; split
    · exact h
    · split
      · exact hu _ h
      · exact h
  split
  · unfold commitS; split
    · exact h
    · refine hu _ ?_
      unfold comS; split
      · exact h
      · exact h
  split
  · unfold forgetS; split
    · exact h
    · exact hu _ h
  split
  · unfold stopS; split
    · exact h
    · exact hu _ h
  split
  · unfold armSS; split
    · exact h
    · exact h
  split
  · exact h
  · exact h
theorem kok_cont {bs : List Bl} (h : ∀ x ∈ bs, nameOK x.1 = true) : KOK (cont bs) := fun k hk => by
  obtain ⟨x, hx, e⟩ := cont_mem (L := bs) (n := str k) (by rw [ky_str]; exact hk)
  rw [← e]
  exact h x hx

theorem bnd_list {S : Wst} {B N : Nat} (h : Bnd S B N) : Bnd (listS S) (B + 1) (N + 1) := by
  have := doS_bnd h ⟨7, 0, .empty, .empty, 0, 0, 0, 0, .empty, .empty, 0, none, 0, 0, .empty, .empty, false⟩
  simpa [doS] using this
theorem bnd_get {S : Wst} {B N : Nat} {n : ByteArray} (h : Bnd S B N) : Bnd (getS S n) (B + 1) (N + 1) := by
  have := doS_bnd h ⟨4, 0, n, .empty, 0, 0, 0, 0, .empty, .empty, 0, none, 0, 0, .empty, .empty, false⟩
  simpa [doS] using this
theorem get_stays {S : Wst} {n : ByteArray} (h1 : S.off = false) (h2 : S.left = 0) (h3 : getR S n = 0) : (getS S n).f = S.f ∧ (getS S n).off = false ∧ (getS S n).left = 0 := by
  have e : getS S n = endS (begS S) ⟨1, n, { data := #[] }, codeF S.f n, objB S.f n, []⟩ := if_pos h3
  rw [e]
  unfold endS
  refine ⟨(useS_tr _).2.2.2.2, ?_, ?_⟩
  · rw [useS_off (logS (begS S) _) h1]
    show decide (S.left = 1) = false
    rw [h2]
    rfl
  · rw [useS_left]
    show S.left - 1 = 0
    omega
set_option maxRecDepth 20000 in
set_option maxHeartbeats 4000000 in
theorem told_walk (w : World) (v u : Value) (n m : Nat) (bs : List Bl) (ops : List Ops) (h1 : SeeB w v n bs) (hsz : ∀ x ∈ bs, x.1.size ≤ maxLen) (h2 : SeeO w u m ops) (hn : n ≤ 1048576) (hm : m ≤ 1048576) : Calls Try.prog 4 #[v, u] w fun e w' => e = .returned (.bool true) ∧ Below w.heap.size w w' := by
  have hw := works_any w
  have nu := fun n W => num_any n W
  obtain ⟨sa, sc, rfl, -⟩ := h2.ex
  have HSC : Hid (SeeO w (.slice sa m sc) m ops) := h2
  have HSB : Hid (SeeB w v n bs) := h1
  obtain ⟨hl, va, vc, rfl, -⟩ := h1
  have HLB : Hid (bs.length = n) := hl
  clear h2
  go_enter Try.func4, Try.ntmps4
  go_wp2_with fail
  refine hw.mono ?_
  rintro e w1 ⟨pb0, q0, F0, rfl, -, -, -, -, hb1⟩
  have htw := twin_any w1 _ n bs (HSB.out.below hb1) (by omega)
  clear hw
  go_wp2_with fail
  refine htw.mono ?_
  rintro e w2 ⟨a2, c2, rfl, ho2, hb2⟩
  have had := adopt_any w2 _ n bs { data := #[] } { data := #[] } false (see_own ho2 hl) (by omega) hsz
  have HB2 : Hid (Below w.heap.size w w2) := hb1.trans (hb2.mono hb1.size)
  clear htw ho2 hb2 hb1 hl hsz
  go_wp2_with fail
  refine had.mono ?_
  rintro e w3 (⟨hg, code, hc, rfl, hb3⟩ | ⟨hg, pb, q, F, rfl, hL⟩)
  · have hc' : (code != 0) = true := by simpa using hc
    have hnw := new_any w3
    have HB3 : Hid (Below w.heap.size w w3) := HB2.out.trans (hb3.mono HB2.out.size)
    clear had hg hb3 hc
    go_wp2_with (go_at_call 9; refine (nu _ _).mono ?_; rintro e w6 ⟨rfl, he6⟩; obtain rfl := he6.symm)
    refine hnw.mono ?_
    rintro e wL ⟨pb, q, F0', rfl, t1, t2, t3, t4, hb4⟩
    have hbw := HB3.out
    have HL0 : Hid (Lv w wL pb q F0' S0) := ⟨t1, t2, fun k hk => Nat.le_trans hbw.size (t4 k hk), Nat.le_trans hbw.size t3, hbw.trans (hb4.mono hbw.size)⟩
    obtain ⟨bs', hbs'⟩ : ∃ bs' : List Bl, bs' = [] := ⟨_, rfl⟩
    obtain ⟨n', hn'⟩ : ∃ n' : Nat, n' = 0 := ⟨_, rfl⟩
    have HI0 : Hid (Bnd S0 (4 + 0) (n + 1 + 0) ∧ NmB S0 (n + m + 2) ∧ S0.f = rep (cont bs') S0.tr ∧ KOK S0.f) := ⟨⟨Nat.zero_le _, Nat.zero_le _, Nat.zero_le _, Nat.zero_le _⟩, fun c hc => by simp [S0] at hc, by rw [hbs']; rfl, fun k hk => by cases hk⟩
    have HSv : Hid (SeeB w (.slice none 0 0) n' bs') := by
      rw [hbs', hn']
      exact ⟨rfl, none, 0, rfl, fun i x hx => by cases hx⟩
    have HND : Hid (ND bs') := by show ND bs'; rw [hbs']; simp [ND]
    have hnle : n' ≤ n := by omega
    clear t1 t2 t3 t4 hb4 hbw hnw hbs'
    subst hn'
    go_wp2_with fail
    go_loopg [7] m (fun gk iv wr => ∃ (j : Nat) (S : Wst) (F : List Nat), j + gk = m ∧ iv = .int .i64 (j : Int) ∧ Hid (Lv w wr pb q F S) ∧ Hid (Bnd S (4 + j) (n + 1 + j) ∧ NmB S (n + m + 2) ∧ S.f = rep (cont bs') S.tr ∧ KOK S.f))
    case atStart => exact ⟨0, _, _, by omega, rfl, HL0.out, HI0.out⟩
    case round =>
      obtain ⟨j, S, F, hj, rfl, HV, HI⟩ := hrel
      have HJ : Hid (j + gk = m) := hj
      have hjn : j ≤ m := by omega
      clear hj
      by_cases hlt : j < m
      · as_aux_lemma =>
          have hltI : (j : Int) < (m : Int) := by omega
          obtain ⟨o, ho⟩ : ∃ o, ops[j]? = some o := ⟨_, List.getElem?_eq_getElem (by have := HSC.out.len; omega)⟩
          have hon := HSC.out.le j o ho
          obtain ⟨g, f, rfl, c0, c1, c2, c3, c4, c5, c6, c7, c8, c9, c10, c11, c12, c13, c14⟩ := (HSC.out.below HV.out.be).at_ ho
          have hca := calls_any wr pb q F S HV.out.top HV.out.st
          have hdn := down_any wr pb q F S HV.out.top HV.out.st
          obtain ⟨hBd, hNm, hTo, hKo⟩ := HI.out
          have hdo := does_any wr pb q F S o (4 + j) (n + 1 + j) hon HV.out.top HV.out.st hBd (by omega) (by omega)
          unfold opV at hdo
          obtain ⟨q1, q2, q3⟩ := calls_do S o
          obtain ⟨tl, htl⟩ : ∃ tl, S.tr.length = tl := ⟨_, rfl⟩
          obtain ⟨ob, hob⟩ : ∃ ob, S.off = ob := ⟨_, rfl⟩
          obtain ⟨S', hS'⟩ : ∃ S', doS S o = S' := ⟨_, rfl⟩
          obtain ⟨tl2, htl2⟩ : ∃ tl2, S'.tr.length = tl2 := ⟨_, rfl⟩
          have HS' : Hid (Bnd S' (4 + (j + 1)) (n + 1 + (j + 1)) ∧ NmB S' (n + m + 2) ∧ S'.f = rep (cont bs') S'.tr ∧ KOK S'.f ∧ S'.tr.length = tl2) := by
            show _ ∧ _ ∧ _ ∧ _ ∧ _
            rw [← hS']
            refine ⟨(doS_bnd hBd o).mono (by omega) (by omega), nm_do hNm (Nat.le_trans (keys_le HV.out.st) (by have := hBd.nn; omega)) o, told_do hTo o, kok_do hKo o, ?_⟩
            rw [hS']
            exact htl2
          rw [hS', htl, htl2] at q1 q2 q3
          rw [hob] at q3
          rw [hS'] at hdo
          rw [htl] at hca
          rw [hob] at hdn
          clear ho hBd hNm hTo hKo htl hob hS' htl2
          go_wp2_with fail
          refine hca.mono ?_
          rintro e w6 ⟨rfl, he6⟩
          obtain rfl := he6.symm
          go_wp2_with fail
          refine hdn.mono ?_
          rintro e w6 ⟨rfl, he6⟩
          obtain rfl := he6.symm
          go_wp2_with fail
          refine hdo.mono ?_
          rintro e w2 ⟨rfl, hT2⟩
          obtain ⟨F2, hL2⟩ := HV.out.turn hT2
          have htr := trace_any w2 pb q F2 S' (n + m + 2) hL2.top hL2.st (by have := HS'.out.1.tr; omega) HS'.out.2.1 (by omega)
          rw [HS'.out.2.2.2.2] at htr
          have HL2 : Hid (Lv w w2 pb q F2 S') := hL2
          clear hca hdn hdo hT2 hL2 c0 c1 c2 c3 c4 c5 c6 c7 c8 c9 c10 c11 c12 c13 c14
          go_wp2_with fail
          refine htr.mono ?_
          rintro e w3 ⟨a3, c3, rfl, hsc3, hb3⟩
          have hL3 := HL2.out.below hb3
          have hca3 := calls_any w3 pb q F2 S' hL3.top hL3.st
          rw [HS'.out.2.2.2.2] at hca3
          have HSC3 : Hid (SeeC w3 (.slice a3 tl2 c3) tl2 S'.tr) := hsc3
          have HL3 : Hid (Lv w w3 pb q F2 S') := hL3
          have hA : ¬ ((tl2 : Int) < (tl : Int)) := by omega
          have hB : ¬ ((tl : Int) + 1 < (tl2 : Int)) := by omega
          have htlb : tl ≤ 1048576 * 4 := by
            have := HS'.out.1.tr
            have := HS'.out.2.2.2.2
            omega
          have HQ3 : Hid (ob = true → tl2 = tl) := q3
          clear htr hsc3 hb3 hL3 q1 q2 q3
          go_upto_region 16 with fail
          go_cut [79] (fun s wx => s = .bool false ∧ w3 = wx)
          case first =>
            cases ob with
            | true =>
              have e := HQ3.out rfl
              subst e
              go_wp2_with (go_at_call 11; refine hca3.mono ?_; rintro e w6 ⟨rfl, he6⟩; obtain rfl := he6.symm)
              go_meet
              refine ⟨congrArg Value.bool ?_, rfl⟩
              first
              | rfl
              | (simp; omega)
            | false =>
              go_wp2_with (go_at_call 11; refine hca3.mono ?_; rintro e w6 ⟨rfl, he6⟩; obtain rfl := he6.symm)
              go_meet
              refine ⟨congrArg Value.bool ?_, rfl⟩
              first
              | rfl
              | (simp; omega)
          case rest =>
          obtain ⟨rfl, rfl⟩ := hcut
          have hnn3 := HS'.out.1.nn
          have hdu := dump_any w3 pb q F2 S' HL3.out.top HL3.out.st (by omega)
          clear hca3
          go_wp2_with fail
          refine hdu.mono ?_
          rintro e w4 ⟨a4, c4, rfl, hR4, hl4, ho4, hb4⟩
          rw [dump_cells] at ho4
          have hlen : (repL bs' S'.tr).length = (keysL S'.f).length := (len_eq hR4 (nd_rep HND.out S'.tr) ((cont_rep bs' S'.tr).trans HS'.out.2.2.1.symm)).symm
          have hrp := replayed_any w4 _ _ 0 tl2 bs' S'.tr (HSv.out.below (HL3.out.be.trans (hb4.mono HL3.out.be.size))) (HSC3.out.below hb4) (by have := HS'.out.1.tr; have := HS'.out.2.2.2.2; omega)
          have hal : Hid (∀ W a5 c5, Below w4.heap.size w4 W → W.ownsRow w4.heap.size 56 2 (.slice a5 (repL bs' S'.tr).length c5) (repL bs' S'.tr).length (bCells (repL bs' S'.tr)) → Calls Try.prog 22 #[.slice a4 (keysL S'.f).length c4, .slice a5 (repL bs' S'.tr).length c5] W fun e w' => e = .returned (.bool true) ∧ Below W.heap.size W w') := fun W a5 c5 hb ho => by
            rw [hlen] at ho ⊢
            exact alike_any W _ _ (keysL S'.f).length (keysL S'.f) S'.f (repL bs' S'.tr) hR4 (nd_rep HND.out S'.tr) ((cont_rep bs' S'.tr).trans HS'.out.2.2.1.symm) rfl hlen (see_own (owns_keep ho4 fun g hg => hb.block g (World.ownsRow.lt ho4 g hg).2) (by simp [dumpL])) (see_own ho hlen) (by omega)
          have HL4 : Hid (Lv w w4 pb q F2 S') := HL3.out.below hb4
          obtain ⟨ln, hln⟩ : ∃ ln, (repL bs' S'.tr).length = ln := ⟨_, rfl⟩
          obtain ⟨kn, hkn⟩ : ∃ kn, (keysL S'.f).length = kn := ⟨_, rfl⟩
          rw [hln] at hrp hal
          rw [hkn] at hal ⊢
          clear hdu hR4 hl4 ho4 hb4 hlen hln hkn
          go_wp2_with fail
          refine hrp.mono ?_
          rintro e w5 ⟨a5, c5, rfl, ho5, hb5⟩
          have hal5 := hal.out w5 a5 c5 hb5 ho5
          have HL5 : Hid (Lv w w5 pb q F2 S') := HL4.out.below hb5
          clear hrp ho5 hb5
          go_wp2_with fail
          refine hal5.mono ?_
          rintro e w6 ⟨rfl, hb6⟩
          have HL6 : Hid (Lv w w6 pb q F2 S') := HL5.out.below hb6
          clear hal5 hb6
          go_wp2
          go_roundg (gk - 1)
          case measure => have := HJ.out; omega
          case rel => exact ⟨j + 1, S', F2, by have := HJ.out; omega, by go_num, HL6.out, HS'.out.1, HS'.out.2.1, HS'.out.2.2.1, HS'.out.2.2.2.1⟩
      · obtain rfl : j = m := by omega
        have hltI : ¬ (j : Int) < (j : Int) := by omega
        as_aux_lemma =>
          have hV := HV.out
          obtain ⟨hBd, _, _, hKo⟩ := HI.out
          have hpo := power_any wr pb q F S hV.top hV.st
          have HLi : Hid (∀ W F2, Lv w W pb q F2 (powS S) → Calls Try.prog 24 #[.pointer (some ⟨pb, 0, none⟩)] W fun e w' => ∃ a c, e = .returned (.tuple #[.slice a (keysL S.f).length c, .int .i64 0]) ∧ Rises (keysL S.f) S.f ∧ (keysL S.f).length ≤ n + 1 + j ∧ w'.ownsRow 0 9 1 (.slice a (keysL S.f).length c) (keysL S.f).length ((keysL S.f).map encStr) ∧ ∃ F3, Lv w w' pb q F3 (listS (powS S))) := fun W F2 hL => (list_any W pb q F2 (powS S) (4 + j) (n + 1 + j) hL.top hL.st ⟨hBd.tr, hBd.ah, hBd.pu, hBd.nn⟩ (by omega) (by omega)).mono (by
            rintro e w' ⟨a, nl, c, rfl, _, hon, hT⟩
            obtain ⟨rfl, hR, hl, ho⟩ := hon rfl
            exact ⟨a, c, rfl, hR, Nat.le_trans hl hBd.nn, own_base ho (Nat.zero_le _), hL.turn hT⟩)
          have HS3 : Hid ((listS (powS S)).f = S.f ∧ (listS (powS S)).off = false ∧ (listS (powS S)).left = 0 ∧ Bnd (listS (powS S)) (4 + j + 1) (n + 1 + j + 1)) := ⟨rfl, rfl, rfl, bnd_list (S := powS S) ⟨hBd.tr, hBd.ah, hBd.pu, hBd.nn⟩⟩
          have HKo : Hid (KOK S.f) := hKo
          clear hBd hKo hV HI0 HL0
          go_wp2_with fail
          refine hpo.mono ?_
          rintro e w2 ⟨rfl, hT2⟩
          obtain ⟨F2, hL2⟩ := HV.out.turn hT2
          have hli := HLi.out w2 F2 hL2
          clear hT2 hL2 hpo
          go_wp2_with fail
          refine hli.mono ?_
          rintro e w3 ⟨a3, c3, rfl, hR3, hl3, ho3, F3, hL3⟩
          have hdu := dump_any w3 pb q F3 (listS (powS S)) hL3.top hL3.st (by have := HS3.out.2.2.2.nn; omega)
          rw [HS3.out.1] at hdu
          have HL3 : Hid (Lv w w3 pb q F3 (listS (powS S))) := hL3
          have HO3 : Hid (w3.ownsRow 0 9 1 (.slice a3 (keysL S.f).length c3) (keysL S.f).length ((keysL S.f).map encStr)) := ho3
          have HR3 : Hid (Rises (keysL S.f) S.f) := hR3
          obtain ⟨ks, hks⟩ : ∃ ks, keysL S.f = ks := ⟨_, rfl⟩
          rw [hks] at hdu HO3 HR3 hl3 ⊢
          obtain ⟨kn, hkn⟩ : ∃ kn, ks.length = kn := ⟨_, rfl⟩
          have HKN : Hid (ks.length = kn) := hkn
          rw [hkn] at hdu HO3 hl3 ⊢
          obtain ⟨f0, hf0⟩ : ∃ f0, S.f = f0 := ⟨_, rfl⟩
          rw [hf0] at hdu HR3 HS3 HKo
          clear hli hL3 ho3 hR3 hks hkn hf0
          go_wp2_with fail
          refine hdu.mono ?_
          rintro e w4 ⟨a4, c4, rfl, -, -, ho4, hb4⟩
          rw [dump_cells] at ho4
          have HO4 : Hid (w4.ownsRow 0 56 2 (.slice a4 kn c4) kn (bCells (dumpL f0 ks))) := own_base ho4 (Nat.zero_le _)
          have HO4l : Hid (w4.ownsRow 0 9 1 (.slice a3 kn c3) kn (ks.map encStr)) := (Kt.below hb4).owns HO3.out (by decide)
          have HL4 : Hid (Lv w w4 pb q F3 (listS (powS S))) := HL3.out.below hb4
          clear hdu ho4 hb4 HO3 HL3 HLi
          go_wp2_with (go_at_call 9; refine (nu _ _).mono ?_; rintro e w6 ⟨rfl, he6⟩; obtain rfl := he6.symm)
          go_loopg [14] kn (fun gk iv wr => ∃ (i : Nat) (S : Wst) (F : List Nat), i + gk = kn ∧ iv = .int .i64 (i : Int) ∧ Hid (Lv w wr pb q F S) ∧ Hid (S.f = f0 ∧ S.off = false ∧ S.left = 0 ∧ Bnd S (4 + j + 1 + i) (n + 1 + j + 1 + i)) ∧ Hid (wr.ownsRow 0 56 2 (.slice a4 kn c4) kn (bCells (dumpL f0 ks))) ∧ Hid (wr.ownsRow 0 9 1 (.slice a3 kn c3) kn (ks.map encStr)))
          case atStart => exact ⟨0, _, _, by omega, rfl, HL4.out, HS3.out, HO4.out, HO4l.out⟩
          case round =>
            obtain ⟨i, S2, F4, hi, rfl, HV2, HS2, HD2, HN2⟩ := hrel
            have HIG : Hid (i + gk = kn) := hi
            have hin : i ≤ kn := by omega
            clear hi HO4 HO4l HL4
            by_cases hilt : i < kn
            · as_aux_lemma =>
                have hiI : (i : Int) < (kn : Int) := by omega
                obtain ⟨x, hx⟩ : ∃ x, ks[i]? = some x := ⟨_, List.getElem?_eq_getElem (by have := HKN.out; omega)⟩
                have hsx : (f0 x).isSome = true := (HR3.out.2.2 x).1 (List.mem_of_getElem? hx)
                obtain ⟨b, hb⟩ := Option.isSome_iff_exists.1 hsx
                obtain ⟨sf, so, sl, sB⟩ := HS2.out
                have hget := get_any wr pb q F4 S2 (str x) (4 + j + 1 + i) (n + 1 + j + 1 + i) HV2.out.top HV2.out.st sB (by omega)
                have hR : getR S2 (str x) = 0 := by
                  unfold getR
                  rw [refE_on1 so]
                  unfold nameE
                  rw [if_pos (HKo.out x hsx)]
                have hY : getY S2 (str x) = b := by
                  unfold getY objB
                  rw [if_pos hR, ky_str, sf, hb]
                  rfl
                have hE : getE S2 (str x) = 0 := by
                  unfold getE codeF
                  rw [if_pos hR, ky_str, sf, if_pos hsx]
                rw [hY, hE] at hget
                have hgs := get_stays so sl hR
                have HG : Hid ((getS S2 (str x)).f = f0 ∧ (getS S2 (str x)).off = false ∧ (getS S2 (str x)).left = 0 ∧ Bnd (getS S2 (str x)) (4 + j + 1 + (i + 1)) (n + 1 + j + 1 + (i + 1))) := ⟨hgs.1.trans sf, hgs.2.1, hgs.2.2, bnd_get sB⟩
                have HC : Hid (∀ W, Kt wr W → ∃ g1 g2, a4 = some ⟨g1, 0, none⟩ ∧ a3 = some ⟨g2, 0, none⟩ ∧ ∀ W', Below W.heap.size W W' → W'.cell? ⟨g1, i * 2, none⟩ = some (.string (str x)) ∧ W'.cell? ⟨g1, i * 2 + 1, none⟩ = some (.string b) ∧ W'.cell? ⟨g2, i, none⟩ = some (.string (str x))) := fun W hkt => by
                  have hd := hkt.owns HD2.out (by decide)
                  have hn2 := hkt.owns HN2.out (by decide)
                  obtain ⟨-, y1, z1, e1, hs⟩ := see_own hd (by rw [← HKN.out]; simp [dumpL])
                  injection e1 with e1 _ _
                  obtain ⟨g1, o1, r1, hg1, d0, d1⟩ := hs i (str x, b) (by unfold dumpL; rw [List.getElem?_map, hx]; simp [hb])
                  obtain ⟨g2, cp, e2, _, _, hg2, d2⟩ := row_cell hn2 (i := i) (u := encStr x) (by rw [List.getElem?_map, hx]; rfl)
                  injection e2 with e2 _ _
                  have ho : o1 = 0 := by
                    rcases hd.2 with ⟨h1, h2⟩ | ⟨g', cap, cur, h1, _⟩
                    · omega
                    · injection h1 with h1 _ _
                      rw [e1, r1] at h1
                      injection h1 with h1
                      injection h1 with _ h1 _
                  subst ho
                  rw [Nat.zero_add] at d0 d1
                  exact ⟨g1, g2, e1.trans r1, e2, fun W' hb' => ⟨(hb'.cell (p := ⟨g1, _, none⟩) hg1).trans d0, (hb'.cell (p := ⟨g1, _, none⟩) hg1).trans d1, (hb'.cell (p := ⟨g2, _, none⟩) hg2).trans d2⟩⟩
                obtain ⟨g1, g2, rfl, rfl, hcc⟩ := HC.out wr (Kt.below (Below.refl _ _))
                obtain ⟨d0, d1, d2⟩ := hcc wr (Below.refl _ _)
                have HCC : Hid (∀ W, Kt wr W → ∀ W', Below W.heap.size W W' → W'.cell? ⟨g1, i * 2, none⟩ = some (.string (str x)) ∧ W'.cell? ⟨g1, i * 2 + 1, none⟩ = some (.string b) ∧ W'.cell? ⟨g2, i, none⟩ = some (.string (str x))) := fun W hkt => by
                  obtain ⟨g1', g2', q1, q2, hcc'⟩ := HC.out W hkt
                  injection q1 with q1
                  injection q1 with q1 _ _
                  injection q2 with q2
                  injection q2 with q2 _ _
                  subst q1 q2
                  exact hcc'
                clear hx hsx hb sf so sl sB hR hY hE hgs hcc HC
                go_wp2_with fail
                refine hget.mono ?_
                rintro e w5 ⟨rfl, hT5⟩
                have hkt5 := Kt.of HV2.out.st hT5
                have HCW : Hid (∀ W', Below w5.heap.size w5 W' → W'.cell? ⟨g1, i * 2, none⟩ = some (.string (str x)) ∧ W'.cell? ⟨g1, i * 2 + 1, none⟩ = some (.string b) ∧ W'.cell? ⟨g2, i, none⟩ = some (.string (str x))) := HCC.out w5 hkt5
                have HK5 : Hid (Kt wr w5) := hkt5
                have HL5 : Hid (∃ F5, Lv w w5 pb q F5 (getS S2 (str x))) := HV2.out.turn hT5
                clear hget hT5 hkt5 d0 d1 d2
                go_upto_region 29 with fail
                go_cut [145] (fun s wx => s = .bool false ∧ Hid (Below w5.heap.size w5 wx))
                case first =>
                  go_region_held_law (fun W => W.cell? ⟨g1, i * 2, none⟩ = some (.string (str x)) ∧ W.cell? ⟨g1, i * 2 + 1, none⟩ = some (.string b) ∧ W.cell? ⟨g2, i, none⟩ = some (.string (str x))) (first | exact HCW.out _ (bdN _ _) | go_keep) (first | (go_at_call 9; refine (nu _ _).mono ?_; rintro e w7 ⟨rfl, he7⟩; subst he7))
                  all_goals
                    go_wp2_with fail
                    go_meet
                    first
                    | exact ⟨rfl, bdN _ _⟩
                    | exact ⟨by simp, bdN _ _⟩
                case rest =>
                obtain ⟨rfl, HWc⟩ := hcut
                go_wp2
                go_roundg (gk - 1)
                case measure => have := HIG.out; omega
                case rel =>
                  obtain ⟨F5, hL5⟩ := HL5.out
                  exact ⟨i + 1, _, F5, by have := HIG.out; omega, by go_num, hL5.below HWc.out, HG.out, (HK5.out.trans (Kt.below HWc.out)).owns HD2.out (by decide), (HK5.out.trans (Kt.below HWc.out)).owns HN2.out (by decide)⟩
            · obtain rfl : i = kn := by omega
              have hiI : ¬ (i : Int) < (i : Int) := by omega
              go_wp2
              go_ret
              exact ⟨rfl, HV2.out.be⟩
  · have hL' := hL
    have HL0 : Hid (Lv w w3 pb q F (adS bs { data := #[] } { data := #[] } false)) := ⟨hL.top, hL.st, fun k hk => Nat.le_trans HB2.out.size (hL.fr k hk), Nat.le_trans HB2.out.size hL.pb, HB2.out.trans (hL.be.mono HB2.out.size)⟩
    have HI0 : Hid (Bnd (adS bs { data := #[] } { data := #[] } false) (4 + 0) (n + 1 + 0) ∧ NmB (adS bs { data := #[] } { data := #[] } false) (n + m + 2) ∧ (adS bs { data := #[] } { data := #[] } false).f = rep (cont bs) (adS bs { data := #[] } { data := #[] } false).tr ∧ KOK (adS bs { data := #[] } { data := #[] } false).f) := ⟨⟨Nat.zero_le _, Nat.zero_le _, Nat.zero_le _, by show bs.length ≤ _; rw [HLB.out]; omega⟩, fun c hc => by simp [adS] at hc, rfl, kok_cont (fun x hx => (hg.1 x hx).1)⟩
    have HND : Hid (ND bs) := hg.2.1
    have HSv : Hid (SeeB w (.slice va n vc) n bs) := HSB.out
    have hnle : n ≤ n := Nat.le_refl _
    clear hL hL' hg had
    go_wp2_with (go_at_call 9; refine (nu _ _).mono ?_; rintro e w6 ⟨rfl, he6⟩; obtain rfl := he6.symm)
    go_loopg [7] m (fun gk iv wr => ∃ (j : Nat) (S : Wst) (F : List Nat), j + gk = m ∧ iv = .int .i64 (j : Int) ∧ Hid (Lv w wr pb q F S) ∧ Hid (Bnd S (4 + j) (n + 1 + j) ∧ NmB S (n + m + 2) ∧ S.f = rep (cont bs) S.tr ∧ KOK S.f))
    case atStart => exact ⟨0, _, _, by omega, rfl, HL0.out, HI0.out⟩
    case round =>
      obtain ⟨j, S, F, hj, rfl, HV, HI⟩ := hrel
      have HJ : Hid (j + gk = m) := hj
      have hjn : j ≤ m := by omega
      clear hj
      by_cases hlt : j < m
      · as_aux_lemma =>
          have hltI : (j : Int) < (m : Int) := by omega
          obtain ⟨o, ho⟩ : ∃ o, ops[j]? = some o := ⟨_, List.getElem?_eq_getElem (by have := HSC.out.len; omega)⟩
          have hon := HSC.out.le j o ho
          obtain ⟨g, f, rfl, c0, c1, c2, c3, c4, c5, c6, c7, c8, c9, c10, c11, c12, c13, c14⟩ := (HSC.out.below HV.out.be).at_ ho
          have hca := calls_any wr pb q F S HV.out.top HV.out.st
          have hdn := down_any wr pb q F S HV.out.top HV.out.st
          obtain ⟨hBd, hNm, hTo, hKo⟩ := HI.out
          have hdo := does_any wr pb q F S o (4 + j) (n + 1 + j) hon HV.out.top HV.out.st hBd (by omega) (by omega)
          unfold opV at hdo
          obtain ⟨q1, q2, q3⟩ := calls_do S o
          obtain ⟨tl, htl⟩ : ∃ tl, S.tr.length = tl := ⟨_, rfl⟩
          obtain ⟨ob, hob⟩ : ∃ ob, S.off = ob := ⟨_, rfl⟩
          obtain ⟨S', hS'⟩ : ∃ S', doS S o = S' := ⟨_, rfl⟩
          obtain ⟨tl2, htl2⟩ : ∃ tl2, S'.tr.length = tl2 := ⟨_, rfl⟩
          have HS' : Hid (Bnd S' (4 + (j + 1)) (n + 1 + (j + 1)) ∧ NmB S' (n + m + 2) ∧ S'.f = rep (cont bs) S'.tr ∧ KOK S'.f ∧ S'.tr.length = tl2) := by
            show _ ∧ _ ∧ _ ∧ _ ∧ _
            rw [← hS']
            refine ⟨(doS_bnd hBd o).mono (by omega) (by omega), nm_do hNm (Nat.le_trans (keys_le HV.out.st) (by have := hBd.nn; omega)) o, told_do hTo o, kok_do hKo o, ?_⟩
            rw [hS']
            exact htl2
          rw [hS', htl, htl2] at q1 q2 q3
          rw [hob] at q3
          rw [hS'] at hdo
          rw [htl] at hca
          rw [hob] at hdn
          clear ho hBd hNm hTo hKo htl hob hS' htl2
          go_wp2_with fail
          refine hca.mono ?_
          rintro e w6 ⟨rfl, he6⟩
          obtain rfl := he6.symm
          go_wp2_with fail
          refine hdn.mono ?_
          rintro e w6 ⟨rfl, he6⟩
          obtain rfl := he6.symm
          go_wp2_with fail
          refine hdo.mono ?_
          rintro e w2 ⟨rfl, hT2⟩
          obtain ⟨F2, hL2⟩ := HV.out.turn hT2
          have htr := trace_any w2 pb q F2 S' (n + m + 2) hL2.top hL2.st (by have := HS'.out.1.tr; omega) HS'.out.2.1 (by omega)
          rw [HS'.out.2.2.2.2] at htr
          have HL2 : Hid (Lv w w2 pb q F2 S') := hL2
          clear hca hdn hdo hT2 hL2 c0 c1 c2 c3 c4 c5 c6 c7 c8 c9 c10 c11 c12 c13 c14
          go_wp2_with fail
          refine htr.mono ?_
          rintro e w3 ⟨a3, c3, rfl, hsc3, hb3⟩
          have hL3 := HL2.out.below hb3
          have hca3 := calls_any w3 pb q F2 S' hL3.top hL3.st
          rw [HS'.out.2.2.2.2] at hca3
          have HSC3 : Hid (SeeC w3 (.slice a3 tl2 c3) tl2 S'.tr) := hsc3
          have HL3 : Hid (Lv w w3 pb q F2 S') := hL3
          have hA : ¬ ((tl2 : Int) < (tl : Int)) := by omega
          have hB : ¬ ((tl : Int) + 1 < (tl2 : Int)) := by omega
          have htlb : tl ≤ 1048576 * 4 := by
            have := HS'.out.1.tr
            have := HS'.out.2.2.2.2
            omega
          have HQ3 : Hid (ob = true → tl2 = tl) := q3
          clear htr hsc3 hb3 hL3 q1 q2 q3
          go_upto_region 16 with fail
          go_cut [79] (fun s wx => s = .bool false ∧ w3 = wx)
          case first =>
            cases ob with
            | true =>
              have e := HQ3.out rfl
              subst e
              go_wp2_with (go_at_call 11; refine hca3.mono ?_; rintro e w6 ⟨rfl, he6⟩; obtain rfl := he6.symm)
              go_meet
              refine ⟨congrArg Value.bool ?_, rfl⟩
              first
              | rfl
              | (simp; omega)
            | false =>
              go_wp2_with (go_at_call 11; refine hca3.mono ?_; rintro e w6 ⟨rfl, he6⟩; obtain rfl := he6.symm)
              go_meet
              refine ⟨congrArg Value.bool ?_, rfl⟩
              first
              | rfl
              | (simp; omega)
          case rest =>
          obtain ⟨rfl, rfl⟩ := hcut
          have hnn3 := HS'.out.1.nn
          have hdu := dump_any w3 pb q F2 S' HL3.out.top HL3.out.st (by omega)
          clear hca3
          go_wp2_with fail
          refine hdu.mono ?_
          rintro e w4 ⟨a4, c4, rfl, hR4, hl4, ho4, hb4⟩
          rw [dump_cells] at ho4
          have hlen : (repL bs S'.tr).length = (keysL S'.f).length := (len_eq hR4 (nd_rep HND.out S'.tr) ((cont_rep bs S'.tr).trans HS'.out.2.2.1.symm)).symm
          have hrp := replayed_any w4 _ _ n tl2 bs S'.tr (HSv.out.below (HL3.out.be.trans (hb4.mono HL3.out.be.size))) (HSC3.out.below hb4) (by have := HS'.out.1.tr; have := HS'.out.2.2.2.2; omega)
          have hal : Hid (∀ W a5 c5, Below w4.heap.size w4 W → W.ownsRow w4.heap.size 56 2 (.slice a5 (repL bs S'.tr).length c5) (repL bs S'.tr).length (bCells (repL bs S'.tr)) → Calls Try.prog 22 #[.slice a4 (keysL S'.f).length c4, .slice a5 (repL bs S'.tr).length c5] W fun e w' => e = .returned (.bool true) ∧ Below W.heap.size W w') := fun W a5 c5 hb ho => by
            rw [hlen] at ho ⊢
            exact alike_any W _ _ (keysL S'.f).length (keysL S'.f) S'.f (repL bs S'.tr) hR4 (nd_rep HND.out S'.tr) ((cont_rep bs S'.tr).trans HS'.out.2.2.1.symm) rfl hlen (see_own (owns_keep ho4 fun g hg => hb.block g (World.ownsRow.lt ho4 g hg).2) (by simp [dumpL])) (see_own ho hlen) (by omega)
          have HL4 : Hid (Lv w w4 pb q F2 S') := HL3.out.below hb4
          obtain ⟨ln, hln⟩ : ∃ ln, (repL bs S'.tr).length = ln := ⟨_, rfl⟩
          obtain ⟨kn, hkn⟩ : ∃ kn, (keysL S'.f).length = kn := ⟨_, rfl⟩
          rw [hln] at hrp hal
          rw [hkn] at hal ⊢
          clear hdu hR4 hl4 ho4 hb4 hlen hln hkn
          go_wp2_with fail
          refine hrp.mono ?_
          rintro e w5 ⟨a5, c5, rfl, ho5, hb5⟩
          have hal5 := hal.out w5 a5 c5 hb5 ho5
          have HL5 : Hid (Lv w w5 pb q F2 S') := HL4.out.below hb5
          clear hrp ho5 hb5
          go_wp2_with fail
          refine hal5.mono ?_
          rintro e w6 ⟨rfl, hb6⟩
          have HL6 : Hid (Lv w w6 pb q F2 S') := HL5.out.below hb6
          clear hal5 hb6
          go_wp2
          go_roundg (gk - 1)
          case measure => have := HJ.out; omega
          case rel => exact ⟨j + 1, S', F2, by have := HJ.out; omega, by go_num, HL6.out, HS'.out.1, HS'.out.2.1, HS'.out.2.2.1, HS'.out.2.2.2.1⟩
      · obtain rfl : j = m := by omega
        have hltI : ¬ (j : Int) < (j : Int) := by omega
        as_aux_lemma =>
          have hV := HV.out
          obtain ⟨hBd, _, _, hKo⟩ := HI.out
          have hpo := power_any wr pb q F S hV.top hV.st
          have HLi : Hid (∀ W F2, Lv w W pb q F2 (powS S) → Calls Try.prog 24 #[.pointer (some ⟨pb, 0, none⟩)] W fun e w' => ∃ a c, e = .returned (.tuple #[.slice a (keysL S.f).length c, .int .i64 0]) ∧ Rises (keysL S.f) S.f ∧ (keysL S.f).length ≤ n + 1 + j ∧ w'.ownsRow 0 9 1 (.slice a (keysL S.f).length c) (keysL S.f).length ((keysL S.f).map encStr) ∧ ∃ F3, Lv w w' pb q F3 (listS (powS S))) := fun W F2 hL => (list_any W pb q F2 (powS S) (4 + j) (n + 1 + j) hL.top hL.st ⟨hBd.tr, hBd.ah, hBd.pu, hBd.nn⟩ (by omega) (by omega)).mono (by
            rintro e w' ⟨a, nl, c, rfl, _, hon, hT⟩
            obtain ⟨rfl, hR, hl, ho⟩ := hon rfl
            exact ⟨a, c, rfl, hR, Nat.le_trans hl hBd.nn, own_base ho (Nat.zero_le _), hL.turn hT⟩)
          have HS3 : Hid ((listS (powS S)).f = S.f ∧ (listS (powS S)).off = false ∧ (listS (powS S)).left = 0 ∧ Bnd (listS (powS S)) (4 + j + 1) (n + 1 + j + 1)) := ⟨rfl, rfl, rfl, bnd_list (S := powS S) ⟨hBd.tr, hBd.ah, hBd.pu, hBd.nn⟩⟩
          have HKo : Hid (KOK S.f) := hKo
          clear hBd hKo hV HI0 HL0
          go_wp2_with fail
          refine hpo.mono ?_
          rintro e w2 ⟨rfl, hT2⟩
          obtain ⟨F2, hL2⟩ := HV.out.turn hT2
          have hli := HLi.out w2 F2 hL2
          clear hT2 hL2 hpo
          go_wp2_with fail
          refine hli.mono ?_
          rintro e w3 ⟨a3, c3, rfl, hR3, hl3, ho3, F3, hL3⟩
          have hdu := dump_any w3 pb q F3 (listS (powS S)) hL3.top hL3.st (by have := HS3.out.2.2.2.nn; omega)
          rw [HS3.out.1] at hdu
          have HL3 : Hid (Lv w w3 pb q F3 (listS (powS S))) := hL3
          have HO3 : Hid (w3.ownsRow 0 9 1 (.slice a3 (keysL S.f).length c3) (keysL S.f).length ((keysL S.f).map encStr)) := ho3
          have HR3 : Hid (Rises (keysL S.f) S.f) := hR3
          obtain ⟨ks, hks⟩ : ∃ ks, keysL S.f = ks := ⟨_, rfl⟩
          rw [hks] at hdu HO3 HR3 hl3 ⊢
          obtain ⟨kn, hkn⟩ : ∃ kn, ks.length = kn := ⟨_, rfl⟩
          have HKN : Hid (ks.length = kn) := hkn
          rw [hkn] at hdu HO3 hl3 ⊢
          obtain ⟨f0, hf0⟩ : ∃ f0, S.f = f0 := ⟨_, rfl⟩
          rw [hf0] at hdu HR3 HS3 HKo
          clear hli hL3 ho3 hR3 hks hkn hf0
          go_wp2_with fail
          refine hdu.mono ?_
          rintro e w4 ⟨a4, c4, rfl, -, -, ho4, hb4⟩
          rw [dump_cells] at ho4
          have HO4 : Hid (w4.ownsRow 0 56 2 (.slice a4 kn c4) kn (bCells (dumpL f0 ks))) := own_base ho4 (Nat.zero_le _)
          have HO4l : Hid (w4.ownsRow 0 9 1 (.slice a3 kn c3) kn (ks.map encStr)) := (Kt.below hb4).owns HO3.out (by decide)
          have HL4 : Hid (Lv w w4 pb q F3 (listS (powS S))) := HL3.out.below hb4
          clear hdu ho4 hb4 HO3 HL3 HLi
          go_wp2_with (go_at_call 9; refine (nu _ _).mono ?_; rintro e w6 ⟨rfl, he6⟩; obtain rfl := he6.symm)
          go_loopg [14] kn (fun gk iv wr => ∃ (i : Nat) (S : Wst) (F : List Nat), i + gk = kn ∧ iv = .int .i64 (i : Int) ∧ Hid (Lv w wr pb q F S) ∧ Hid (S.f = f0 ∧ S.off = false ∧ S.left = 0 ∧ Bnd S (4 + j + 1 + i) (n + 1 + j + 1 + i)) ∧ Hid (wr.ownsRow 0 56 2 (.slice a4 kn c4) kn (bCells (dumpL f0 ks))) ∧ Hid (wr.ownsRow 0 9 1 (.slice a3 kn c3) kn (ks.map encStr)))
          case atStart => exact ⟨0, _, _, by omega, rfl, HL4.out, HS3.out, HO4.out, HO4l.out⟩
          case round =>
            obtain ⟨i, S2, F4, hi, rfl, HV2, HS2, HD2, HN2⟩ := hrel
            have HIG : Hid (i + gk = kn) := hi
            have hin : i ≤ kn := by omega
            clear hi HO4 HO4l HL4
            by_cases hilt : i < kn
            · as_aux_lemma =>
                have hiI : (i : Int) < (kn : Int) := by omega
                obtain ⟨x, hx⟩ : ∃ x, ks[i]? = some x := ⟨_, List.getElem?_eq_getElem (by have := HKN.out; omega)⟩
                have hsx : (f0 x).isSome = true := (HR3.out.2.2 x).1 (List.mem_of_getElem? hx)
                obtain ⟨b, hb⟩ := Option.isSome_iff_exists.1 hsx
                obtain ⟨sf, so, sl, sB⟩ := HS2.out
                have hget := get_any wr pb q F4 S2 (str x) (4 + j + 1 + i) (n + 1 + j + 1 + i) HV2.out.top HV2.out.st sB (by omega)
                have hR : getR S2 (str x) = 0 := by
                  unfold getR
                  rw [refE_on1 so]
                  unfold nameE
                  rw [if_pos (HKo.out x hsx)]
                have hY : getY S2 (str x) = b := by
                  unfold getY objB
                  rw [if_pos hR, ky_str, sf, hb]
                  rfl
                have hE : getE S2 (str x) = 0 := by
                  unfold getE codeF
                  rw [if_pos hR, ky_str, sf, if_pos hsx]
                rw [hY, hE] at hget
                have hgs := get_stays so sl hR
                have HG : Hid ((getS S2 (str x)).f = f0 ∧ (getS S2 (str x)).off = false ∧ (getS S2 (str x)).left = 0 ∧ Bnd (getS S2 (str x)) (4 + j + 1 + (i + 1)) (n + 1 + j + 1 + (i + 1))) := ⟨hgs.1.trans sf, hgs.2.1, hgs.2.2, bnd_get sB⟩
                have HC : Hid (∀ W, Kt wr W → ∃ g1 g2, a4 = some ⟨g1, 0, none⟩ ∧ a3 = some ⟨g2, 0, none⟩ ∧ ∀ W', Below W.heap.size W W' → W'.cell? ⟨g1, i * 2, none⟩ = some (.string (str x)) ∧ W'.cell? ⟨g1, i * 2 + 1, none⟩ = some (.string b) ∧ W'.cell? ⟨g2, i, none⟩ = some (.string (str x))) := fun W hkt => by
                  have hd := hkt.owns HD2.out (by decide)
                  have hn2 := hkt.owns HN2.out (by decide)
                  obtain ⟨-, y1, z1, e1, hs⟩ := see_own hd (by rw [← HKN.out]; simp [dumpL])
                  injection e1 with e1 _ _
                  obtain ⟨g1, o1, r1, hg1, d0, d1⟩ := hs i (str x, b) (by unfold dumpL; rw [List.getElem?_map, hx]; simp [hb])
                  obtain ⟨g2, cp, e2, _, _, hg2, d2⟩ := row_cell hn2 (i := i) (u := encStr x) (by rw [List.getElem?_map, hx]; rfl)
                  injection e2 with e2 _ _
                  have ho : o1 = 0 := by
                    rcases hd.2 with ⟨h1, h2⟩ | ⟨g', cap, cur, h1, _⟩
                    · omega
                    · injection h1 with h1 _ _
                      rw [e1, r1] at h1
                      injection h1 with h1
                      injection h1 with _ h1 _
                  subst ho
                  rw [Nat.zero_add] at d0 d1
                  exact ⟨g1, g2, e1.trans r1, e2, fun W' hb' => ⟨(hb'.cell (p := ⟨g1, _, none⟩) hg1).trans d0, (hb'.cell (p := ⟨g1, _, none⟩) hg1).trans d1, (hb'.cell (p := ⟨g2, _, none⟩) hg2).trans d2⟩⟩
                obtain ⟨g1, g2, rfl, rfl, hcc⟩ := HC.out wr (Kt.below (Below.refl _ _))
                obtain ⟨d0, d1, d2⟩ := hcc wr (Below.refl _ _)
                have HCC : Hid (∀ W, Kt wr W → ∀ W', Below W.heap.size W W' → W'.cell? ⟨g1, i * 2, none⟩ = some (.string (str x)) ∧ W'.cell? ⟨g1, i * 2 + 1, none⟩ = some (.string b) ∧ W'.cell? ⟨g2, i, none⟩ = some (.string (str x))) := fun W hkt => by
                  obtain ⟨g1', g2', q1, q2, hcc'⟩ := HC.out W hkt
                  injection q1 with q1
                  injection q1 with q1 _ _
                  injection q2 with q2
                  injection q2 with q2 _ _
                  subst q1 q2
                  exact hcc'
                clear hx hsx hb sf so sl sB hR hY hE hgs hcc HC
                go_wp2_with fail
                refine hget.mono ?_
                rintro e w5 ⟨rfl, hT5⟩
                have hkt5 := Kt.of HV2.out.st hT5
                have HCW : Hid (∀ W', Below w5.heap.size w5 W' → W'.cell? ⟨g1, i * 2, none⟩ = some (.string (str x)) ∧ W'.cell? ⟨g1, i * 2 + 1, none⟩ = some (.string b) ∧ W'.cell? ⟨g2, i, none⟩ = some (.string (str x))) := HCC.out w5 hkt5
                have HK5 : Hid (Kt wr w5) := hkt5
                have HL5 : Hid (∃ F5, Lv w w5 pb q F5 (getS S2 (str x))) := HV2.out.turn hT5
                clear hget hT5 hkt5 d0 d1 d2
                go_upto_region 29 with fail
                go_cut [145] (fun s wx => s = .bool false ∧ Hid (Below w5.heap.size w5 wx))
                case first =>
                  go_region_held_law (fun W => W.cell? ⟨g1, i * 2, none⟩ = some (.string (str x)) ∧ W.cell? ⟨g1, i * 2 + 1, none⟩ = some (.string b) ∧ W.cell? ⟨g2, i, none⟩ = some (.string (str x))) (first | exact HCW.out _ (bdN _ _) | go_keep) (first | (go_at_call 9; refine (nu _ _).mono ?_; rintro e w7 ⟨rfl, he7⟩; subst he7))
                  all_goals
                    go_wp2_with fail
                    go_meet
                    first
                    | exact ⟨rfl, bdN _ _⟩
                    | exact ⟨by simp, bdN _ _⟩
                case rest =>
                obtain ⟨rfl, HWc⟩ := hcut
                go_wp2
                go_roundg (gk - 1)
                case measure => have := HIG.out; omega
                case rel =>
                  obtain ⟨F5, hL5⟩ := HL5.out
                  exact ⟨i + 1, _, F5, by have := HIG.out; omega, by go_num, hL5.below HWc.out, HG.out, (HK5.out.trans (Kt.below HWc.out)).owns HD2.out (by decide), (HK5.out.trans (Kt.below HWc.out)).owns HN2.out (by decide)⟩
            · obtain rfl : i = kn := by omega
              have hiI : ¬ (i : Int) < (i : Int) := by omega
              go_wp2
              go_ret
              exact ⟨rfl, HV2.out.be⟩

end Go.Proofs.Ytdgokfehgjkalaa.Wd
