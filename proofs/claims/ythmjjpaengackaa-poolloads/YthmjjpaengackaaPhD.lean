import Derived.Test.YthmjjpaengackaaPhC
namespace Go.Proofs.Ythmjjpaengackaa.Po
open Go.RowKit Go.Lib Go.Deep

theorem fresh_fl (f s : Int) : ((freshP f s).fl : Int) = clipN f 40 ∧ ((freshP f s).R.length : Int) = clipN f 40 + clipN s 12 ∧ 1 ≤ clipN f 40 ∧ clipN f 40 ≤ 40 ∧ 1 ≤ clipN s 12 ∧ clipN s 12 ≤ 12 := by
  unfold freshP newP clipN
  simp only [List.length_replicate]
  have h1 : 0 ≤ f % 40 ∧ f % 40 < 40 := by omega
  have h2 : 0 ≤ s % 12 ∧ s % 12 < 12 := by omega
  omega
/-- a state laid down behind a step -/
theorem Lv.state {w wr : World} {pb q nn : Nat} {F : List Nat} {S : Ps} (h : Lv w wr pb q F nn S) : Calls Try.prog 9 #[.pointer (some ⟨pb, 0, none⟩)] wr fun e w4 => ∃ a1 c1 a2 c2, e = .returned (.agg #[.slice a1 S.R.length c1, .slice a2 (zQ S.Q).length c2]) ∧ Hid (Sd w4 (.agg #[.slice a1 S.R.length c1, .slice a2 (zQ S.Q).length c2]) S.R (zQ S.Q)) ∧ Hid (Below wr.heap.size wr w4) := by
  refine (state_any wr pb q F nn S h.ok).mono ?_
  rintro e w4 ⟨ov, qv, rfl, h1, h2, h3⟩
  have hsd := sd_state h1 h2
  obtain ⟨a1, c1, rfl⟩ := owns_form h1
  obtain ⟨a2, c2, rfl⟩ := owns_form h2
  rw [← zQ_len S.Q] at hsd
  refine ⟨a1, c1, a2, c2, by rw [zQ_len], hsd, h3⟩
set_option maxRecDepth 20000 in
set_option maxHeartbeats 4000000 in
theorem holds_walk (w : World) (f s : Int) (sv : Value) (len : Nat) (ops : List Ops) (hO : SeeO w sv len ops) (hlen : len ≤ 1180000000000) :
    Calls Try.prog 5 #[.int .i64 f, .int .i64 s, sv] w fun e w' => e = .returned (.bool true) ∧ Below w.heap.size w w' := by
  have hfr := fresh_any w f s
  have hc40 := clip40_any f
  have hc12 := clip12_any s
  have hff := fresh_fl f s
  obtain ⟨a1, cap1, rfl, -⟩ := hO.form
  have HO : Hid _ := hO
  generalize hS0 : freshP f s = S0 at *
  generalize clipN f 40 = cf at *
  generalize clipN s 12 = cs at *
  have HFF : Hid ((S0.fl : Int) = cf ∧ (S0.R.length : Int) = cf + cs ∧ 1 ≤ cf ∧ cf ≤ 40 ∧ 1 ≤ cs ∧ cs ≤ 12) := hff
  clear hO hS0 hff
  go_enter Try.func5, Try.ntmps5
  go_wp2_with fail
  refine hfr.mono ?_
  rintro e w1 ⟨pb, q, F, rfl, h1, h2, h3, h4⟩
  have L1 : Hid (Lv w w1 pb q F 0 S0) := ⟨h1, h2, h3, h4⟩
  clear h1 h2 h3 h4 hfr
  go_wp2_with fail
  refine (hc40 _).mono ?_
  rintro e w2 ⟨rfl, e2⟩
  obtain rfl := e2.symm
  go_wp2_with fail
  refine (hc12 _).mono ?_
  rintro e w2 ⟨rfl, e2⟩
  obtain rfl := e2.symm
  clear hc40 hc12
  have hwfs : IntKind.i64.wrap (cf + cs) = cf + cs := by have := HFF.out; rw [IntKind.wrap_i64]; omega
  go_wp2_with fail
  go_loopg [10] len (fun gk i wr => ∃ (k : Nat) (S : Ps) (F' : List Nat), gk = len - k ∧ k ≤ len ∧ i = .int .i64 (k : Int) ∧ Lv w wr pb q F' k S ∧ S.fl = S0.fl ∧ S.R.length = S0.R.length)
  case atStart => exact ⟨0, _, F, by omega, by omega, rfl, L1.out, rfl, rfl⟩
  case round =>
    clear L1
    obtain ⟨k, S, F', hgk, hkn, rfl, hL, hSf, hSr⟩ := hrel
    have HSS : Hid (S.fl = S0.fl ∧ S.R.length = S0.R.length) := ⟨hSf, hSr⟩
    clear hSf hSr
    by_cases hk : k < len
    · have hkI : (k : Int) < (len : Int) := by omega
      obtain ⟨o, hko⟩ : ∃ o, ops[k]? = some o := ⟨_, List.getElem?_eq_getElem (by have := HO.out.len; omega)⟩
      have hOw := HO.out.below hL.be
      obtain ⟨g, fo, rfl, r0, r1, r2, r3, r4, r5, r6, r7, r8⟩ := hOw.at_ hko
      have hok := HO.out.ok k o hko
      have hdo := does_any wr pb q F' k S o hL.ok hok
      have HDL : Hid ((doS S o).R.length = S.R.length ∧ (doS S o).fl = S.fl) := len_doS S o
      have HN : Hid (∀ w', Turn F' wr w' q (k + 1) (doS S o) → ∃ F2, Lv w w' pb q F2 (k + 1) (doS S o)) := fun w' hT => by
        obtain ⟨F2, hL2, _⟩ := hL.next hT (good_doS hL.ok.good o) (by omega)
        exact ⟨F2, hL2⟩
      obtain ⟨⟨b1, m1, e1, hv1⟩, ⟨b2, m2, e2, hv2⟩, -, -⟩ := hok
      unfold opV at hdo
      generalize doS S o = S1 at *
      obtain ⟨kd, at_, a, b, bk, nm, tg, ov, qv⟩ := o
      dsimp only at *
      subst hv1 hv2
      have w1' : IntKind.i64.wrap ((k : Int) + 1) = ((k + 1 : Nat) : Int) := by rw [IntKind.wrap_i64]; omega
      have HS1 : Hid ((S1.fl : Int) = cf ∧ (S1.R.length : Int) = cf + cs) := by
        have h1 := HFF.out
        have h2 := HSS.out
        have h3 := HDL.out
        exact ⟨by omega, by omega⟩
      have HSL : Hid (S1.fl = S0.fl ∧ S1.R.length = S0.R.length) := by
        have h2 := HSS.out
        have h3 := HDL.out
        exact ⟨by omega, by omega⟩
      clear HDL HSS
      clear hL hOw hko
      go_wp2_with (go_at_call 8; refine hdo.mono ?_; rintro e w3 ⟨rfl, hT⟩; obtain ⟨F2, hL3⟩ := HN.out w3 hT; clear hT HN)
      have hG1 := hL3.ok.good
      have HG1 : Hid (Good S1) := hG1
      have HL3 : Hid (Lv w w3 pb q F2 (k + 1) S1) := hL3
      refine hL3.state.mono ?_
      rintro e w4 ⟨a3, c3, a4, c4, rfl, HSD, HB4⟩
      obtain ⟨U, hU, hbU, kU⟩ := one_new w4 #[.slice a3 S1.R.length c3, .slice a4 (zQ S1.Q).length c4] 29
      have HU : Hid (∀ V, Below U.heap.size U V → V.cell? ⟨w4.heap.size, 0, none⟩ = some (.slice a3 S1.R.length c3) ∧ V.cell? ⟨w4.heap.size, 1, none⟩ = some (.slice a4 (zQ S1.Q).length c4) ∧ Lv w V pb q F2 (k + 1) S1 ∧ Sd V (.agg #[.slice a3 S1.R.length c3, .slice a4 (zQ S1.Q).length c4]) S1.R (zQ S1.Q)) := fun V hV => by
        have kk := (hV.block _ (heap_lt kU)).trans kU
        have hb1 : Below w4.heap.size w4 V := hbU.trans (hV.mono hbU.size)
        exact ⟨(cell_of_heap kk).trans rfl, (cell_of_heap kk).trans rfl, (hL3.below HB4.out).below hb1, HSD.out.below hb1⟩
      clear hL3 hG1 HSD HB4 hbU kU
      obtain ⟨u0, u1, -, hsd0⟩ := HU.out U (Below.refl _ _)
      have hho := holds_any U _ S1 hsd0 HG1.out
      rw [HS1.out.1, HS1.out.2] at hho
      have HFI : Hid (∀ w5, Below U.heap.size U w5 → (w5.cell? ⟨w4.heap.size, 0, none⟩ = some (.slice a3 S1.R.length c3) ∧ w5.cell? ⟨w4.heap.size, 1, none⟩ = some (.slice a4 (zQ S1.Q).length c4)) ∧ Calls Try.prog 21 #[.pointer (some ⟨pb, 0, none⟩), .agg #[.slice a3 S1.R.length c3, .slice a4 (zQ S1.Q).length c4]] w5 fun e w6 => e = .returned (.bool true) ∧ Hid (Below U.heap.size U w6)) := fun w5 hb5 => by
        obtain ⟨x0, x1, hL5, hsd5⟩ := HU.out w5 hb5
        refine ⟨⟨x0, x1⟩, (finds_any w5 pb q F2 (k + 1) S1 hL5.ok _ _ hsd5).mono ?_⟩
        rintro e w6 ⟨rfl, hb6⟩
        exact ⟨rfl, hb5.trans (hb6.mono hb5.size)⟩
      clear hsd0
      go_wp2_with (first
        | (go_at_call 20; refine hho.mono ?_; rintro e w5 ⟨rfl, hb5⟩; obtain ⟨⟨y0, y1⟩, hfi⟩ := HFI.out w5 hb5; clear hb5 HFI hho)
        | (go_at_call 21; refine hfi.mono ?_; rintro e w6 ⟨rfl, HB6⟩; clear hfi))
      obtain ⟨y0, y1, hL6, hsd6⟩ := HU.out w6 HB6.out
      have HOB : Hid (∀ j : Nat, j < S1.R.length → ∃ ow b off, a3 = some ⟨b, off, none⟩ ∧ w6.cell? ⟨b, off + j * 4 + 3, none⟩ = some (.int .i64 ow) ∧ (ow = -1 ∨ 0 ≤ ow) ∧ dmL S1.R (j + 1) = dmL S1.R j + if ow = -1 then 1 else 0) := fun j hj => by
        obtain ⟨o, ho⟩ : ∃ o, S1.R[j]? = some o := ⟨_, List.getElem?_eq_getElem hj⟩
        obtain ⟨ov, qv, e, s1, -⟩ := hsd6.ex
        injection e with e
        injection e with e
        injection e with e _
        subst e
        obtain ⟨b, off, e1, -, -, -, r⟩ := s1.ob ho s1.len
        have := (HG1.out.st j o ho).2.1
        exact ⟨o.ow, b, off, e1, r, by omega, dm_succ ho⟩
      have HL6 : Hid (Lv w w6 pb q F2 (k + 1) S1) := hL6
      have HSD6 : Hid (Sd w6 (.agg #[.slice a3 S1.R.length c3, .slice a4 (zQ S1.Q).length c4]) S1.R (zQ S1.Q)) := hsd6
      have HC6 : Hid (∀ V, Below w6.heap.size w6 V → V.cell? ⟨w4.heap.size, 0, none⟩ = some (.slice a3 S1.R.length c3) ∧ V.cell? ⟨w4.heap.size, 1, none⟩ = some (.slice a4 (zQ S1.Q).length c4)) := fun V hV => by
        obtain ⟨z0, z1, -, -⟩ := HU.out V (HB6.out.trans (hV.mono HB6.out.size))
        exact ⟨z0, z1⟩
      have hnb : S1.R.length ≤ 65600 := HG1.out.fl.2.2
      have hd0 : dmL S1.R 0 = 0 := rfl
      have HD0 : Hid _ := hd0
      clear hL6 hsd6 HU HL3 u0 u1 hd0
      go_loopg [12, 13] S1.R.length (fun gk d i wx => ∃ j : Nat, gk = S1.R.length - j ∧ j ≤ S1.R.length ∧ i = .int .i64 (j : Int) ∧ d = .int .i64 (dmL S1.R j : Int) ∧ w6 = wx)
      case atStart => exact ⟨0, by omega, by omega, rfl, rfl, rfl⟩
      case round =>
        obtain ⟨j, hgj, hjn, rfl, rfl, rfl⟩ := hrel
        by_cases hj : j < S1.R.length
        · have hjI : (j : Int) < (S1.R.length : Int) := by omega
          obtain ⟨ow, b1, o1, rfl, ro, how, hdm⟩ := HOB.out j hj
          have w2' : IntKind.i64.wrap ((j : Int) + 1) = ((j + 1 : Nat) : Int) := by rw [IntKind.wrap_i64]; omega
          have hdl : dmL S1.R j ≤ S1.R.length := by have := dm_all S1.R; unfold dmL at *; exact Nat.le_trans (List.length_filter_le _ _) (by rw [List.length_take]; omega)
          rcases how with rfl | how
          · rw [if_pos rfl] at hdm
            have w3' : IntKind.i64.wrap ((dmL S1.R j : Int) + 1) = ((dmL S1.R j + 1 : Nat) : Int) := by rw [IntKind.wrap_i64]; omega
            have HDM : Hid _ := hdm
            clear hdm
            go_wp2
            go_roundg (S1.R.length - (j + 1))
            case measure => omega
            case rel => exact ⟨j + 1, rfl, by omega, rfl, by rw [HDM.out]; exact congrArg (Value.int .i64) (by omega), rfl⟩
          · rw [if_neg (by omega)] at hdm
            have hno : ¬ ow < 0 := by omega
            have HDM : Hid _ := hdm
            clear hdm
            go_wp2
            go_roundg (S1.R.length - (j + 1))
            case measure => omega
            case rel => exact ⟨j + 1, rfl, by omega, rfl, by rw [HDM.out]; rfl, rfl⟩
        · obtain rfl : j = S1.R.length := by omega
          have hjI : ¬ (S1.R.length : Int) < (S1.R.length : Int) := by omega
          have hroom : roomB cf cs = true := by
            have := HFF.out
            exact decide_eq_true ⟨by omega, by omega, by omega, by omega⟩
          have hld := load_any w6 _ S1.R (zQ S1.Q) HSD6.out (fun i o ho => by have := HG1.out.nm ho; unfold maxLen; exact ⟨by omega, by omega⟩) (by rw [zQ_len]; have := HG1.out.ql; omega) (by omega) cf cs
          have hcs : ¬ (dmL S1.R S1.R.length : Int) < cs := by
            have h1 := dm_all S1.R
            have h2 := cnt_le HG1.out
            have h3 := HS1.out
            omega
          have HTN : Hid (cf.toNat = S1.fl ∧ S1.R.length = cf.toNat + cs.toNat) := by
            have h1 := HFF.out
            have h3 := HS1.out
            exact ⟨by omega, by omega⟩
          have HFT : Hid (Fits S1.fl S1.R (zQ S1.Q) ↔ (zQ S1.Q).length = dmL S1.R S1.R.length) := by
            have h1 := dm_all S1.R
            rw [fits_iff HG1.out, zQ_len]
            constructor <;> intro h <;> omega
          have nu := num_any
          have w1k : IntKind.i64.wrap ((k : Int) + 1) = ((k + 1 : Nat) : Int) := w1'
          clear HOB hgj hjn hj
          go_wp2_with fail
          refine hld.mono ?_
          rintro e w7 ⟨hb7, ⟨hx, -⟩ | ⟨-, hno, rfl⟩ | ⟨-, hyes, pb2, q2, F3, rfl, hok2, hpb2, hF3⟩⟩
          · rw [hroom] at hx; cases hx
          · have hqd : (((zQ S1.Q).length : Int) == (dmL S1.R S1.R.length : Int)) = false := beq_false_of_ne (fun e => hno ⟨HTN.out.2, by rw [HTN.out.1]; exact HFT.out.2 (by omega)⟩)
            obtain ⟨z0, z1⟩ := HC6.out w7 hb7
            have HLJ : Hid (∀ i, Lv w (w7.drewN i) pb q F2 (k + 1) S1) := fun i => (HL6.out.below hb7).below (bdr (Below.refl _ w7) i)
            clear hb7 hno hld HTN HFT HSD6 HC6 HL6 y0 y1 hroom
            go_wp2_with fail
            go_quiet ((go_at_call 13; exact Calls.quiet_of_same (nu _ _)))
            go_wp2_with fail
            go_quiet (fail)
            go_wp2
            go_roundg (len - (k + 1))
            case measure => omega
            case rel => exact ⟨k + 1, S1, F2, rfl, by omega, rfl, HLJ.out _, HSL.out⟩
          · have hqd : (((zQ S1.Q).length : Int) == (dmL S1.R S1.R.length : Int)) = true := by
              have h1 := HFT.out.1 (by rw [← HTN.out.1]; exact hyes.2)
              rw [h1]; exact beq_self_eq_true _
            obtain ⟨z0, z1⟩ := HC6.out w7 hb7
            have hS1e : (⟨cf.toNat, S1.R, (zQ S1.Q).map Int.toNat⟩ : Ps) = S1 := by rw [HTN.out.1, zQ_back]
            rw [hS1e] at hok2
            have HCH : Hid (∀ V, Below w7.heap.size w7 V → (V.cell? ⟨w4.heap.size, 0, none⟩ = some (.slice a3 S1.R.length c3) ∧ V.cell? ⟨w4.heap.size, 1, none⟩ = some (.slice a4 (zQ S1.Q).length c4)) ∧ Calls Try.prog 9 #[.pointer (some ⟨pb2, 0, none⟩)] V fun e w9 => ∃ a5 c5 a6 c6, e = .returned (.agg #[.slice a5 S1.R.length c5, .slice a6 (zQ S1.Q).length c6]) ∧ (w9.cell? ⟨w4.heap.size, 0, none⟩ = some (.slice a3 S1.R.length c3) ∧ w9.cell? ⟨w4.heap.size, 1, none⟩ = some (.slice a4 (zQ S1.Q).length c4)) ∧
                Calls Try.prog 18 #[.agg #[.slice a5 S1.R.length c5, .slice a6 (zQ S1.Q).length c6], .agg #[.slice a3 S1.R.length c3, .slice a4 (zQ S1.Q).length c4]] w9 fun e w10 => e = .returned (.bool true) ∧ (w10.cell? ⟨w4.heap.size, 0, none⟩ = some (.slice a3 S1.R.length c3) ∧ w10.cell? ⟨w4.heap.size, 1, none⟩ = some (.slice a4 (zQ S1.Q).length c4)) ∧
                Calls Try.prog 21 #[.pointer (some ⟨pb2, 0, none⟩), .agg #[.slice a3 S1.R.length c3, .slice a4 (zQ S1.Q).length c4]] w10 fun e w11 => e = .returned (.bool true) ∧ (w11.cell? ⟨w4.heap.size, 0, none⟩ = some (.slice a3 S1.R.length c3) ∧ w11.cell? ⟨w4.heap.size, 1, none⟩ = some (.slice a4 (zQ S1.Q).length c4)) ∧ Hid (Lv w w11 pb q F2 (k + 1) S1)) := fun V hV => by
              have h6V : Below w6.heap.size w6 V := hb7.trans (hV.mono hb7.size)
              have okV : Ok V pb2 q2 F3 S1.R.length S1 := ⟨hok2.top.below hV, hok2.lay.below hV, hok2.good, hok2.nn⟩
              refine ⟨HC6.out V h6V, (state_any V pb2 q2 F3 _ S1 okV).mono ?_⟩
              rintro e w9 ⟨ov, qv, rfl, h1, h2, h3⟩
              have hsd := sd_state h1 h2
              obtain ⟨a5, c5, rfl⟩ := owns_form h1
              obtain ⟨a6, c6, rfl⟩ := owns_form h2
              rw [← zQ_len S1.Q] at hsd
              have h69 : Below w6.heap.size w6 w9 := h6V.trans (h3.mono h6V.size)
              refine ⟨a5, c5, a6, c6, by rw [zQ_len], HC6.out w9 h69, (sameState_any w9 _ _ S1.R (zQ S1.Q) hsd (HSD6.out.below h69) (by omega) (by rw [zQ_len]; have := HG1.out.ql; omega)).mono ?_⟩
              rintro e w10 ⟨rfl, h4⟩
              have h610 : Below w6.heap.size w6 w10 := h69.trans (h4.mono h69.size)
              have h710 : Below w7.heap.size w7 w10 := (hV.trans (h3.mono hV.size)).trans (h4.mono (hV.trans (h3.mono hV.size)).size)
              have ok10 : Ok w10 pb2 q2 F3 S1.R.length S1 := ⟨hok2.top.below h710, hok2.lay.below h710, hok2.good, hok2.nn⟩
              refine ⟨rfl, HC6.out w10 h610, (finds_any w10 pb2 q2 F3 _ S1 ok10 _ _ (HSD6.out.below h610)).mono ?_⟩
              rintro e w11 ⟨rfl, h5⟩
              have h611 := h610.trans (h5.mono h610.size)
              exact ⟨rfl, HC6.out w11 h611, HL6.out.below h611⟩
            have B7 : Hid (∀ i, Below w7.heap.size w7 (w7.drewN i)) := fun i => bdr (Below.refl _ w7) i
            clear hb7 hyes hld HTN HFT HSD6 HC6 HL6 y0 y1 hroom hok2 hS1e hF3 hpb2
            go_wp2_with fail
            go_quiet ((go_at_call 13; exact Calls.quiet_of_same (nu _ _)))
            refine with_world (Q := fun V => Below w7.heap.size w7 V) _ (B7.out _) ?_
            intro V hV
            obtain ⟨hcV, hst⟩ := HCH.out V.drew hV.drew
            clear HCH z0 z1 hV B7
            go_wp2_with fail
            go_region_held_law (fun X => X.cell? ⟨w4.heap.size, 0, none⟩ = some (.slice a3 S1.R.length c3) ∧ X.cell? ⟨w4.heap.size, 1, none⟩ = some (.slice a4 (zQ S1.Q).length c4)) (first | assumption | go_keep) (first | (go_at_call 9; refine hst.mono ?_; rintro e w9 ⟨a5, c5, a6, c6, rfl, hc9, hsm⟩) | (go_at_call 18; refine hsm.mono ?_; rintro e w10 ⟨rfl, hc10, hfd⟩) | (go_at_call 21; refine hfd.mono ?_; rintro e w11 ⟨rfl, hc11, HLV⟩))
            all_goals
              go_wp2
              go_roundg (len - (k + 1))
              case measure => omega
              case rel => exact ⟨k + 1, S1, F2, rfl, by omega, rfl, HLV.out, HSL.out⟩
    · obtain rfl : k = len := by omega
      have hkI : ¬ (k : Int) < (k : Int) := by omega
      have hG1 := hL.ok.good
      have HS1 : Hid ((S.fl : Int) = cf ∧ (S.R.length : Int) = cf + cs) := by
        have h1 := HFF.out
        have h2 := HSS.out
        exact ⟨by omega, by omega⟩
      have hst := hL.state
      have HU : Hid (∀ w4 a3 c3 a4 c4, Sd w4 (.agg #[.slice a3 S.R.length c3, .slice a4 (zQ S.Q).length c4]) S.R (zQ S.Q) → Below wr.heap.size wr w4 → ∃ U, w4.alloc (.cells #[.slice a3 S.R.length c3, .slice a4 (zQ S.Q).length c4] 29) = U ∧ U.cell? ⟨w4.heap.size, 0, none⟩ = some (.slice a3 S.R.length c3) ∧ U.cell? ⟨w4.heap.size, 1, none⟩ = some (.slice a4 (zQ S.Q).length c4) ∧ Calls Try.prog 20 #[.agg #[.slice a3 S.R.length c3, .slice a4 (zQ S.Q).length c4], .int .i64 cf, .int .i64 (cf + cs)] U fun e w5 => e = .returned (.bool true) ∧ (w5.cell? ⟨w4.heap.size, 0, none⟩ = some (.slice a3 S.R.length c3) ∧ w5.cell? ⟨w4.heap.size, 1, none⟩ = some (.slice a4 (zQ S.Q).length c4)) ∧
          Calls Try.prog 21 #[.pointer (some ⟨pb, 0, none⟩), .agg #[.slice a3 S.R.length c3, .slice a4 (zQ S.Q).length c4]] w5 fun e w6 => e = .returned (.bool true) ∧ Hid (Below w.heap.size w w6)) := fun w4 a3 c3 a4 c4 hsd hb4 => by
        obtain ⟨U, hU, hbU, kU⟩ := one_new w4 #[.slice a3 S.R.length c3, .slice a4 (zQ S.Q).length c4] 29
        have hho := holds_any U _ S (hsd.below hbU) hG1
        rw [HS1.out.1, HS1.out.2] at hho
        refine ⟨U, hU, (cell_of_heap kU).trans rfl, (cell_of_heap kU).trans rfl, hho.mono ?_⟩
        rintro e w5 ⟨rfl, hb5⟩
        have k5 := (hb5.block _ (heap_lt kU)).trans kU
        have hL5 := ((hL.below hb4).below hbU).below hb5
        refine ⟨rfl, ⟨(cell_of_heap k5).trans rfl, (cell_of_heap k5).trans rfl⟩, (finds_any w5 pb q F' k S hL5.ok _ _ ((hsd.below hbU).below hb5)).mono ?_⟩
        rintro e w6 ⟨rfl, hb6⟩
        exact ⟨rfl, (hL5.below hb6).be⟩
      clear hL hG1 HS1 HSS
      go_wp2_with (first
        | (go_at_call 9; refine hst.mono ?_; rintro e w4 ⟨a3, c3, a4, c4, rfl, HSD, HB4⟩; obtain ⟨U, hU, u0, u1, hho⟩ := HU.out w4 a3 c3 a4 c4 HSD.out HB4.out; clear HSD HB4 HU hst)
        | (go_at_call 20; refine hho.mono ?_; rintro e w5 ⟨rfl, ⟨y0, y1⟩, hfi⟩; clear hho)
        | (go_at_call 21; refine hfi.mono ?_; rintro e w6 ⟨rfl, HB6⟩))
      go_ret
      exact ⟨rfl, HB6.out⟩
end Go.Proofs.Ythmjjpaengackaa.Po
