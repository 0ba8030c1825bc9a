import Derived.Test.YtdgokfehgjkalaaWaB
namespace Go.Proofs.Ytdgokfehgjkalaa.Wd
open Go.RowKit Go.Lib Go.Deep

/-- two worlds alike -/
def Mid (w W : World) (pa pb B N : Nat) : Prop := ∃ qa qb Fa Sa Fb Sb, Two w W pa qa Fa Sa pb qb Fb Sb ∧ Alk Sa Sb ∧ Bnd Sa B N ∧ Bnd Sb B N
theorem mid_any (w wr : World) (pa qa : Nat) (F : List Nat) (S : Wst) (B N : Nat) (hV : Lv w wr pa qa F S) (hB : Bnd S B N) (hT : Tok S) (hN : N ≤ 4398046511000) :
    Calls Try.prog 16 #[.pointer (some ⟨pa, 0, none⟩)] wr fun e w1 => e = .returned (.tuple #[]) ∧
      Calls Try.prog 13 #[.pointer (some ⟨pa, 0, none⟩)] w1 fun e w2 => ∃ a k c, e = .returned (.slice a k c) ∧
        Calls Try.prog 12 #[.pointer (some ⟨pa, 0, none⟩)] w2 fun e w3 => ∃ cu pe sp, e = .returned (.agg #[.string cu, .string pe, .bool sp]) ∧
          Calls Try.prog 18 #[.slice a k c, .agg #[.string cu, .string pe, .bool sp]] w3 fun e w4 => ∃ pb, e = .returned (.tuple #[.pointer (some ⟨pb, 0, none⟩), .int .i64 0]) ∧
            Calls Try.prog 11 #[.pointer (some ⟨pb, 0, none⟩)] w4 fun e w5 => e = .returned (.int .i64 0) ∧ w5 = w4 ∧
              Calls Try.prog 21 #[.pointer (some ⟨pb, 0, none⟩)] w4 fun e w6 => ∃ a c, e = .returned (.slice a 0 c) ∧ Mid w w6 pa pb B N := by
  refine (power_any wr pa qa F S hV.top hV.st).mono ?_
  rintro e w1 ⟨rfl, hT1⟩
  obtain ⟨F1, hL1⟩ := hV.turn hT1
  have hB1 : Bnd (powS S) B N := ⟨hB.tr, hB.ah, hB.pu, hB.nn⟩
  have hTk : Tok (powS S) := ⟨hT.k, hT.b, hT.c, hT.p⟩
  refine ⟨rfl, ?_⟩
  have hnn := hB1.nn
  refine (dump_any w1 pa qa F1 (powS S) hL1.top hL1.st (by omega)).mono ?_
  rintro e w2 ⟨a, c, rfl, hR, hl, ho, hb2⟩
  rw [dump_cells] at ho
  have hL2 := hL1.below hb2
  refine ⟨a, _, c, rfl, ?_⟩
  refine (kept_any w2 pa qa F1 (powS S) hL2.top hL2.st).mono ?_
  rintro e w3 ⟨rfl, hb3⟩
  have hL3 := hL2.below hb3
  refine ⟨_, _, _, rfl, ?_⟩
  have ho3 := owns_keep ho fun g hg => hb3.block g (World.ownsRow.lt ho g hg).2
  refine (adopt_any w3 _ _ (dumpL (powS S).f (keysL (powS S).f)) (powS S).cur (powS S).pen (powS S).stp (see_own ho3 (by simp [dumpL])) (by omega) (fun x hx => ?_)).mono ?_
  · unfold dumpL at hx
    obtain ⟨k, hk, rfl⟩ := List.mem_map.1 hx
    show (str k).size ≤ maxLen
    rw [str_size]
    exact key_le hL3.st ((hR.2.2 k).1 hk)
  rintro e w4 (⟨hg, -⟩ | ⟨hg, pb, qb, Fb, rfl, hLb⟩)
  · exact absurd (good_dump hTk hR) hg
  refine ⟨pb, rfl, ?_⟩
  have hLa4 := hL3.below hLb.be
  have hLb4 : Lv w w4 pb qb Fb (adS (dumpL (powS S).f (keysL (powS S).f)) (powS S).cur (powS S).pen (powS S).stp) := ⟨hLb.top, hLb.st, fun k hk => Nat.le_trans hL3.be.size (hLb.fr k hk), Nat.le_trans hL3.be.size hLb.pb, hL3.be.trans (hLb.be.mono hL3.be.size)⟩
  have hTw : Two w w4 pa qa F1 (powS S) pb qb Fb _ := ⟨hLa4, hLb4, fun k hk he => by
    have h1 := hL3.st.lt k hk
    have h2 := hLb.fr k he
    omega⟩
  refine (calls_any w4 pb qb Fb _ hLb4.top hLb4.st).mono ?_
  rintro e w5 ⟨rfl, rfl⟩
  refine ⟨rfl, rfl, ?_⟩
  refine (trace_any w5 pb qb Fb _ 0 hLb4.top hLb4.st (Nat.zero_le _) (fun c hc => by simp [adS] at hc) (Nat.zero_le _)).mono ?_
  rintro e w6 ⟨a6, c6, rfl, -, hb6⟩
  refine ⟨a6, c6, rfl, qa, qb, F1, powS S, Fb, _, hTw.below hb6, ⟨(cont_dump hR).symm, rfl, rfl, rfl, rfl, rfl⟩, hB1, ⟨Nat.zero_le _, Nat.zero_le _, Nat.zero_le _, ?_⟩⟩
  show (dumpL (powS S).f (keysL (powS S).f)).length ≤ N
  unfold dumpL
  rw [List.length_map]
  omega
theorem step_any (w wr : World) (pa pb B N : Nat) (o : Ops) (h : Mid w wr pa pb B N) (hon : o.n ≤ 9223372036854775807) (hB : B ≤ 1580000000000) (hN : N ≤ 4398046511000) :
    Calls Try.prog 26 #[.pointer (some ⟨pa, 0, none⟩), .pointer (some ⟨pb, 0, none⟩), opV o] wr fun e w' => e = .returned (.bool true) ∧ Mid w w' pa pb (B + 1) (N + 1) := by
  obtain ⟨qa, qb, Fa, Sa, Fb, Sb, hT, hk, hba, hbb⟩ := h
  refine (answers_any w wr pa qa Fa Sa pb qb Fb Sb o B N hon hT hk hba hbb hB hN).mono ?_
  rintro e w' ⟨rfl, Fa', Fb', h'⟩
  exact ⟨rfl, qa, qb, Fa', _, Fb', _, h', alk_do hk o, doS_bnd hba o, doS_bnd hbb o⟩
theorem fin_any (w wr : World) (pa pb B N : Nat) (h : Mid w wr pa pb B N) (hN : N ≤ 4398046511000) :
    Calls Try.prog 13 #[.pointer (some ⟨pa, 0, none⟩)] wr fun e w1 => ∃ a k c, e = .returned (.slice a k c) ∧
      Calls Try.prog 13 #[.pointer (some ⟨pb, 0, none⟩)] w1 fun e w2 => ∃ a' c', e = .returned (.slice a' k c') ∧
        Calls Try.prog 15 #[.slice a k c, .slice a' k c'] w2 fun e w3 => e = .returned (.bool true) ∧
          Calls Try.prog 12 #[.pointer (some ⟨pa, 0, none⟩)] w3 fun e w4 => ∃ cu pe sp, e = .returned (.agg #[.string cu, .string pe, .bool sp]) ∧
            Calls Try.prog 12 #[.pointer (some ⟨pb, 0, none⟩)] w4 fun e w5 => e = .returned (.agg #[.string cu, .string pe, .bool sp]) ∧ Hid (Below w.heap.size w w5) := by
  obtain ⟨qa, qb, Fa, Sa, Fb, Sb, hT, hk, hba, hbb⟩ := h
  have hna := hba.nn
  have hnb := hbb.nn
  refine (dump_any wr pa qa Fa Sa hT.a.top hT.a.st (by omega)).mono ?_
  rintro e w1 ⟨a, c, rfl, hR, hl, ho, hb1⟩
  have h1 := hT.below hb1
  refine ⟨a, _, c, rfl, ?_⟩
  refine (dump_any w1 pb qb Fb Sb h1.b.top h1.b.st (by omega)).mono ?_
  rintro e w2 ⟨a', c', rfl, -, -, ho', hb2⟩
  have h2 := h1.below hb2
  rw [← hk.f] at ho' ⊢
  rw [dump_cells] at ho ho'
  refine ⟨a', c', rfl, ?_⟩
  have ho2 := owns_keep ho fun g hg => hb2.block g (World.ownsRow.lt ho g hg).2
  refine (sameB_any w2 _ _ _ _ (see_own ho2 (by simp [dumpL])) (see_own ho' (by simp [dumpL])) (by omega)).mono ?_
  rintro e w3 ⟨rfl, hb3⟩
  have h3 := h2.below hb3
  refine ⟨rfl, ?_⟩
  refine (kept_any w3 pa qa Fa Sa h3.a.top h3.a.st).mono ?_
  rintro e w4 ⟨rfl, hb4⟩
  have h4 := h3.below hb4
  refine ⟨_, _, _, rfl, ?_⟩
  refine (kept_any w4 pb qb Fb Sb h4.b.top h4.b.st).mono ?_
  rintro e w5 ⟨rfl, hb5⟩
  exact ⟨by unfold regV; rw [hk.cur, hk.pen, hk.stp], (h4.below hb5).a.be⟩
set_option maxRecDepth 10000 in
set_option maxHeartbeats 4000000 in
theorem adopts_walk (w : World) (v u : Value) (n m : Nat) (ops more : List Ops) (h1 : SeeO w v n ops) (h2 : SeeO w u m more) (hn : n ≤ 765000000000) (hm : m ≤ 765000000000) : Calls Try.prog 5 #[v, u] w fun e w' => e = .returned (.bool true) ∧ Below w.heap.size w w' := by
  have hw := works_any w
  have nu := fun n W => num_any n W
  obtain ⟨sa, sc, rfl, -⟩ := h1.ex
  obtain ⟨ta, tc, rfl, -⟩ := h2.ex
  have HSC : Hid (SeeO w (.slice sa n sc) n ops) := h1
  have HTC : Hid (SeeO w (.slice ta m tc) m more) := h2
  clear h1 h2
  go_enter Try.func5, Try.ntmps5
  go_wp2_with fail
  refine hw.mono ?_
  rintro e w1 ⟨pa, qa, F0, rfl, t1, t2, t3, t4, hb1⟩
  have HL0 : Hid (Lv w w1 pa qa F0 Sw) := ⟨t1, t2, t4, t3, hb1⟩
  clear t1 t2 t3 t4 hb1 hw
  go_wp2_with fail
  go_loopg [6] n (fun gk iv wr => ∃ (j : Nat) (S : Wst) (F : List Nat), j + gk = n ∧ iv = .int .i64 (j : Int) ∧ Hid (Lv w wr pa qa F S ∧ Bnd S (4 + j) (1 + j) ∧ Tok S))
  case atStart => exact ⟨0, _, _, by omega, rfl, HL0.out, sw_b.2.2.2.2, tok_w⟩
  case round =>
    obtain ⟨j, S, F, hj, rfl, HV⟩ := hrel
    have HJ : Hid (j + gk = n) := hj
    have hjn : j ≤ n := by omega
    clear hj HL0
    by_cases hlt : j < n
    · as_aux_lemma =>
        have hltI : (j : Int) < (n : Int) := by omega
        obtain ⟨o, ho⟩ : ∃ o, ops[j]? = some o := ⟨_, List.getElem?_eq_getElem (by have := HSC.out.len; omega)⟩
        have hon := HSC.out.le j o ho
        obtain ⟨g, f, rfl, c0, c1, c2, c3, c4, c5, c6, c7, c8, c9, c10, c11, c12, c13, c14⟩ := (HSC.out.below HV.out.1.be).at_ ho
        have hdo := does_any wr pa qa F S o (4 + j) (1 + j) hon HV.out.1.top HV.out.1.st HV.out.2.1 (by omega) (by omega)
        unfold opV at hdo
        obtain ⟨S', hS'⟩ : ∃ S', doS S o = S' := ⟨_, rfl⟩
        have HS' : Hid (Bnd S' (4 + (j + 1)) (1 + (j + 1)) ∧ Tok S') := by
          show _ ∧ _
          rw [← hS']
          exact ⟨(doS_bnd HV.out.2.1 o).mono (by omega) (by omega), tok_do HV.out.2.2 o⟩
        rw [hS'] at hdo
        clear ho hS'
        go_wp2_with fail
        refine hdo.mono ?_
        rintro e w2 ⟨rfl, hT2⟩
        have HL2 : Hid (∃ F2, Lv w w2 pa qa F2 S') := HV.out.1.turn hT2
        clear hdo hT2 c0 c1 c2 c3 c4 c5 c6 c7 c8 c9 c10 c11 c12 c13 c14
        go_wp2
        go_roundg (gk - 1)
        case measure => have := HJ.out; omega
        case rel =>
          obtain ⟨F2, hL2⟩ := HL2.out
          exact ⟨j + 1, S', F2, by have := HJ.out; omega, by go_num, hL2, HS'.out⟩
    · obtain rfl : j = n := by omega
      have hltI : ¬ (j : Int) < (j : Int) := by omega
      as_aux_lemma =>
        have hmi := mid_any w wr pa qa F S (4 + j) (1 + j) HV.out.1 HV.out.2.1 HV.out.2.2 (by omega)
        clear HV HSC
        go_wp2_with fail
        refine hmi.mono ?_
        rintro e w2 ⟨rfl, hm2⟩
        clear hmi
        go_wp2_with fail
        refine hm2.mono ?_
        rintro e w3 ⟨a3, k3, c3, rfl, hm3⟩
        clear hm2
        go_wp2_with fail
        refine hm3.mono ?_
        rintro e w4 ⟨cu, pe, sp, rfl, hm4⟩
        clear hm3
        go_wp2_with fail
        refine hm4.mono ?_
        rintro e w5 ⟨pb, rfl, hm5⟩
        clear hm4
        go_wp2_with (go_at_call 9; refine (nu _ _).mono ?_; rintro e w6 ⟨rfl, he6⟩; obtain rfl := he6.symm)
        refine hm5.mono ?_
        rintro e w6 ⟨rfl, he6, hm6⟩
        subst he6
        clear hm5
        go_wp2_with fail
        refine hm6.mono ?_
        rintro e w7 ⟨a7, c7, rfl, hM⟩
        have HM : Hid (Mid w w7 pa pb (4 + j) (1 + j)) := hM
        clear hm6 hM
        go_wp2_with fail
        go_loopg [9] m (fun gk iv wr => ∃ (i : Nat), i + gk = m ∧ iv = .int .i64 (i : Int) ∧ Hid (Mid w wr pa pb (4 + j + i) (1 + j + i)))
        case atStart => exact ⟨0, by omega, rfl, HM.out⟩
        case round =>
          obtain ⟨i, hi, rfl, HV⟩ := hrel
          have HIG : Hid (i + gk = m) := hi
          have him : i ≤ m := by omega
          clear hi HM
          have HBe : Hid (Below w.heap.size w wr) := by
            obtain ⟨qa, qb, Fa, Sa, Fb, Sb, hT, -⟩ := HV.out
            exact hT.a.be
          by_cases hilt : i < m
          · as_aux_lemma =>
              have hiI : (i : Int) < (m : Int) := by omega
              obtain ⟨o, ho⟩ : ∃ o, more[i]? = some o := ⟨_, List.getElem?_eq_getElem (by have := HTC.out.len; omega)⟩
              have hon := HTC.out.le i o ho
              obtain ⟨g, f, rfl, c0, c1, c2, c3, c4, c5, c6, c7, c8, c9, c10, c11, c12, c13, c14⟩ := (HTC.out.below HBe.out).at_ ho
              have hst := step_any w wr pa pb (4 + j + i) (1 + j + i) o HV.out hon (by omega) (by omega)
              unfold opV at hst
              clear ho HV
              go_wp2_with fail
              refine hst.mono ?_
              rintro e w8 ⟨rfl, hM8⟩
              have HM8 : Hid (Mid w w8 pa pb (4 + j + (i + 1)) (1 + j + (i + 1))) := hM8
              clear hst hM8 c0 c1 c2 c3 c4 c5 c6 c7 c8 c9 c10 c11 c12 c13 c14
              go_wp2
              go_roundg (gk - 1)
              case measure => have := HIG.out; omega
              case rel => exact ⟨i + 1, by have := HIG.out; omega, by go_num, HM8.out⟩
          · obtain rfl : i = m := by omega
            have hiI : ¬ (i : Int) < (i : Int) := by omega
            have hen := fin_any w wr pa pb (4 + j + i) (1 + j + i) HV.out (by omega)
            clear HV HBe
            go_wp2_with fail
            refine hen.mono ?_
            rintro e x1 ⟨y1, y2, y3, rfl, hen1⟩
            clear hen
            go_wp2_with fail
            refine hen1.mono ?_
            rintro e x2 ⟨z1, z3, rfl, hen2⟩
            clear hen1
            go_wp2_with fail
            refine hen2.mono ?_
            rintro e x3 ⟨rfl, hen3⟩
            clear hen2
            go_wp2_with fail
            refine hen3.mono ?_
            rintro e x4 ⟨cu1, pe1, sp1, rfl, hen4⟩
            clear hen3
            go_wp2_with fail
            refine hen4.mono ?_
            rintro e x5 ⟨rfl, HB5⟩
            clear hen4
            go_wp2
            go_ret
            exact ⟨rfl, HB5.out⟩

end Go.Proofs.Ytdgokfehgjkalaa.Wd
