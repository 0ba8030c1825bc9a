import Derived.Test.YthmjjpaengackaaRlD
namespace Go.Proofs.Ythmjjpaengackaa.Po
open Go.RowKit Go.Lib Go.Deep

/-- what settled answers -/
structure Stl (w : World) (f : Nat) (R : List Ob) (Z : List Int) (e : Ending) (w' : World) : Prop where
  ex : ∃ b, e = .returned (.bool b) ∧ (b = true ↔ Fits f R Z)
  be : Below w.heap.size w w'
theorem stl_no {w w' : World} {f : Nat} {R : List Ob} {Z : List Int} (hb : Below w.heap.size w w') (h : ¬ Fits f R Z) : Stl w f R Z (.returned (.bool false)) w' := ⟨⟨false, rfl, ⟨fun e => (by cases e), fun x => absurd x h⟩⟩, hb⟩
set_option maxRecDepth 20000 in
set_option maxHeartbeats 8000000 in
theorem settled_any (w : World) (v : Value) (R : List Ob) (Z : List Int) (hd : Sd w v R Z) (hsz : ∀ (k : Nat) o, R[k]? = some o → o.nm.size ≤ maxLen ∧ o.tg.size ≤ maxLen) (hZ : Z.length ≤ 9223372036854775000) (hR : R.length ≤ 9223372036854775000) (f : Nat) :
    Calls Try.prog 63 #[v, .int .i64 (f : Int)] w fun e w' => Stl w f R Z e w' := by
  obtain ⟨ov, qv, rfl, s1, t1⟩ := hd.ex
  obtain ⟨a1, c1, rfl⟩ := s1.form
  obtain ⟨a2, c2, rfl⟩ := t1.form
  obtain ⟨W, hW, hb, k0⟩ := one_new w #[.slice a1 R.length c1, .slice a2 Z.length c2] 29
  have HSZ : Hid (∀ (k : Nat) o, R[k]? = some o → o.nm.size ≤ maxLen ∧ o.tg.size ≤ maxLen) := hsz
  have HD : Hid (∀ V, Below W.heap.size W V → V.cell? ⟨w.heap.size, 0, none⟩ = some (.slice a1 R.length c1) ∧ V.cell? ⟨w.heap.size, 1, none⟩ = some (.slice a2 Z.length c2) ∧ Below w.heap.size w V ∧ See V 4 (.slice a1 R.length c1) R.length (obsC R) ∧ See V 1 (.slice a2 Z.length c2) Z.length (zsC Z)) := fun V hV => by
    have k := (hV.block _ (heap_lt k0)).trans k0
    have hbV := hb.trans (hV.mono hb.size)
    exact ⟨(cell_of_heap k).trans rfl, (cell_of_heap k).trans rfl, hbV, s1.below hbV, t1.below hbV⟩
  have hdm : ∀ j, dmL R j ≤ R.length := fun j => by
    unfold dmL
    exact Nat.le_trans (List.length_filter_le _ _) (by rw [List.length_take]; omega)
  have HDM : Hid (∀ j, dmL R j ≤ R.length) := hdm
  obtain ⟨x0, x1, -⟩ := HD.out W (Below.refl _ _)
  clear hd s1 t1 k0 hb hsz hdm
  go_enter Try.func63, Try.ntmps63
  go_wp2
  go_loopg [5, 6] R.length (fun gk d i wr => ∃ k : Nat, gk = R.length - k ∧ k ≤ R.length ∧ d = .int .i64 (dmL R k : Int) ∧ i = .int .i64 (k : Int) ∧ Hid (∀ (j : Nat) o, j < k → R[j]? = some o → mayS (SK f R j) j o) ∧ Hid (Below W.heap.size W wr))
  case atStart => exact ⟨0, by omega, by omega, rfl, rfl, fun j o hj => by omega, Below.refl _ _⟩
  case round =>
    clear x0 x1
    obtain ⟨k, hgk, hkn, rfl, rfl, HPR, HBE⟩ := hrel
    obtain ⟨x0, x1, hbw, hsr, hsq⟩ := HD.out wr HBE.out
    by_cases hk : k < R.length
    · have hkI : (k : Int) < (R.length : Int) := by omega
      obtain ⟨o, hko⟩ : ∃ o, R[k]? = some o := ⟨_, List.getElem?_eq_getElem hk⟩
      obtain ⟨b1, o1, rfl, r0, r1, r2, r3⟩ := hsr.ob hko rfl
      obtain ⟨U, hU, hbU, kU⟩ := one_new wr #[.string o.nm, .string o.tg, .int .i64 o.bk, .int .i64 o.ow] 35
      have hbeU : Below W.heap.size W U := HBE.out.trans (hbU.mono HBE.out.size)
      obtain ⟨y0, y1, -⟩ := HD.out U hbeU
      have u0 : U.cell? ⟨wr.heap.size, 0, none⟩ = some (.string o.nm) := (cell_of_heap kU).trans rfl
      have u1 : U.cell? ⟨wr.heap.size, 1, none⟩ = some (.string o.tg) := (cell_of_heap kU).trans rfl
      have u2 : U.cell? ⟨wr.heap.size, 2, none⟩ = some (.int .i64 o.bk) := (cell_of_heap kU).trans rfl
      have u3 : U.cell? ⟨wr.heap.size, 3, none⟩ = some (.int .i64 o.ow) := (cell_of_heap kU).trans rfl
      have w1 : IntKind.i64.wrap ((k : Int) + 1) = ((k + 1 : Nat) : Int) := by rw [IntKind.wrap_i64]; omega
      have w2 : IntKind.i64.wrap ((dmL R k : Int) + 1) = ((dmL R k + 1 : Nat) : Int) := by have := HDM.out k; rw [IntKind.wrap_i64]; omega
      have c6 := right_any o (HSZ.out k o hko).1 (HSZ.out k o hko).2 (f : Int) U
      have HU2 : Hid (∀ V, Below U.heap.size U V → V.cell? ⟨w.heap.size, 0, none⟩ = some (.slice (some ⟨b1, o1, none⟩) R.length c1) ∧ V.cell? ⟨wr.heap.size, 0, none⟩ = some (.string o.nm) ∧ V.cell? ⟨wr.heap.size, 3, none⟩ = some (.int .i64 o.ow)
          ∧ (Calls Try.prog 74 #[.slice (some ⟨b1, o1, none⟩) R.length c1, .string o.nm, .int .i64 (k : Int)] V fun e w' => e = .returned (.int .i64 (fstI (nmB o.nm) R k)) ∧ w' = V)
          ∧ (Calls Try.prog 75 #[.slice (some ⟨b1, o1, none⟩) R.length c1, .int .i64 o.ow, .int .i64 (k : Int)] V fun e w' => e = .returned (.int .i64 (fstI (owB o.ow) R k)) ∧ w' = V)
          ∧ Below W.heap.size W V) := fun V hV => by
        have hV' : Below W.heap.size W V := hbeU.trans (hV.mono hbeU.size)
        obtain ⟨v0, -, -, vr, -⟩ := HD.out V hV'
        have kk := (hV.block _ (heap_lt kU)).trans kU
        exact ⟨v0, (cell_of_heap kk).trans rfl, (cell_of_heap kk).trans rfl, named_any V _ _ R vr (by omega) o.nm k hkn, ownedR_any V _ _ R vr (by omega) o.ow k hkn, hV'⟩
      have HNO : Hid (∀ V, Below U.heap.size U V → ¬ mayS (SK f R k) k o → Stl w f R Z (.returned (.bool false)) V) := fun V hV hno => by
        have hV' : Below W.heap.size W V := hbeU.trans (hV.mono hbeU.size)
        obtain ⟨-, -, vb, -⟩ := HD.out V hV'
        exact stl_no vb (fun hF => hno (hF.rows k o hko))
      have HYES : Hid (mayS (SK f R k) k o → ∀ (j : Nat) o, j < k + 1 → R[j]? = some o → mayS (SK f R j) j o) := fun hy j p hj hp => by
        by_cases e : j = k
        · subst e
          rw [hko] at hp
          obtain rfl := Option.some.inj hp
          exact hy
        · exact HPR.out j p (by omega) hp
      have HDS : Hid (dmL R (k + 1) = dmL R k + if o.ow = -1 then 1 else 0) := dm_succ hko
      clear hbU kU hbeU hko hbw hsr hsq HPR HBE
      obtain ⟨nm, tg, bk, ow⟩ := o
      unfold obV at c6
      dsimp only at *
      by_cases hr : rightP ⟨nm, tg, bk, ow⟩ (f : Int)
      · rw [decide_eq_true hr] at c6
        have HRI : Hid (rightP ⟨nm, tg, bk, ow⟩ (f : Int)) := hr
        clear hr
        go_wp2_with fail
        refine c6.mono ?_
        rintro e V ⟨rfl, hbV⟩
        clear x0 x1 r0 r1 r2 r3 y0 y1 u0 u1 u2 u3 c6 hU hW
        obtain ⟨y0, u0, u3, hnm, how, hbW⟩ := HU2.out V hbV
        have HX : Hid (¬ mayS (SK f R k) k ⟨nm, tg, bk, ow⟩ → Stl w f R Z (.returned (.bool false)) V) := HNO.out V hbV
        have HBW : Hid (Below W.heap.size W V) := hbW
        clear HU2 HNO hbV hbW
        have HTW : Hid (twiceP R k ⟨nm, tg, bk, ow⟩ ↔ nm.size ≠ 0 ∧ 0 ≤ fstI (nmB nm) R k) := Iff.rfl
        have HSM : Hid (sameP R k ⟨nm, tg, bk, ow⟩ ↔ 0 ≤ ow ∧ 0 ≤ fstI (owB ow) R k) := Iff.rfl
        generalize fstI (nmB nm) R k = i1 at *
        generalize fstI (owB ow) R k = i2 at *
        have hcn : (nm.size = 0 ∧ nm = { data := #[] }) ∨ (nm.size ≠ 0 ∧ nm.toList.isEmpty = false ∧ 0 ≤ i1) ∨ (nm.size ≠ 0 ∧ nm.toList.isEmpty = false ∧ ¬ 0 ≤ i1) := by
          by_cases h1 : nm.size = 0
          · exact .inl ⟨h1, ba_ext (List.eq_nil_of_length_eq_zero h1)⟩
          · have h2 : nm.toList.isEmpty = false := by
              rw [toList_data]
              cases hl : nm.data.toList with
              | nil => exact absurd (show nm.data.toList.length = 0 by rw [hl]; rfl) h1
              | cons a l => rfl
            by_cases h3 : 0 ≤ i1
            · exact .inr (.inl ⟨h1, h2, h3⟩)
            · exact .inr (.inr ⟨h1, h2, h3⟩)
        have hco : (¬ 0 ≤ ow) ∨ (0 ≤ ow ∧ 0 ≤ i2) ∨ (0 ≤ ow ∧ ¬ 0 ≤ i2) := by omega
        rcases hcn with ⟨m1, hnm0⟩ | ⟨m1, m2, m3⟩ | ⟨m1, m2, m3⟩ <;> rcases hco with g1 | ⟨g1, g2⟩ | ⟨g1, g2⟩
        · have HM1 : Hid _ := m1
          clear m1
          have HT : Hid (¬ twiceP R k ⟨nm, tg, bk, ow⟩) := fun x => (HTW.out.1 x).1 HM1.out
          have HS : Hid (¬ sameP R k ⟨nm, tg, bk, ow⟩) := fun x => g1 (HSM.out.1 x).1
          have g3 : decide (0 ≤ ow) = false := decide_eq_false g1
          have g4 : ow < 0 := by omega
          have HY : Hid _ := HYES.out (may_iff.2 ⟨HRI.out, HT.out, HS.out⟩)
          have HD1 : Hid (dmL R (k + 1) = dmL R k + 1) := by have h1 := HDS.out; have h2 := HRI.out.2.2.2.2.1; dsimp only at h2; rw [if_pos (by omega)] at h1; exact h1
          clear HT HS HTW HSM HYES HX HDS HRI HM1
          subst hnm0
          clear hnm
          clear how
          go_wp2
          go_roundg (R.length - (k + 1))
          case measure => omega
          case rel => exact ⟨k + 1, rfl, by omega, by rw [HD1.out]; rfl, rfl, HY, HBW⟩
        · have HM1 : Hid _ := m1
          clear m1
          have HT : Hid (¬ twiceP R k ⟨nm, tg, bk, ow⟩) := fun x => (HTW.out.1 x).1 HM1.out
          have HS : Hid (sameP R k ⟨nm, tg, bk, ow⟩) := HSM.out.2 ⟨g1, g2⟩
          have g3 : ¬ ow < 0 := by omega
          have HN : Hid _ := HX.out (fun x => (may_iff.1 x).2.2 HS.out)
          clear HT HS HTW HSM HYES HX HDS HRI HM1
          subst hnm0
          clear hnm
          go_wp2_with fail
          refine how.mono ?_
          rintro e V3 ⟨rfl, rfl⟩
          go_wp2
          go_ret
          exact HN.out
        · have HM1 : Hid _ := m1
          clear m1
          have HT : Hid (¬ twiceP R k ⟨nm, tg, bk, ow⟩) := fun x => (HTW.out.1 x).1 HM1.out
          have HS : Hid (¬ sameP R k ⟨nm, tg, bk, ow⟩) := fun x => g2 (HSM.out.1 x).2
          have g3 : ¬ ow < 0 := by omega
          have g4 : decide (0 ≤ i2) = false := decide_eq_false g2
          have HY : Hid _ := HYES.out (may_iff.2 ⟨HRI.out, HT.out, HS.out⟩)
          have HD1 : Hid (dmL R (k + 1) = dmL R k) := by have h1 := HDS.out; rw [if_neg (by omega)] at h1; exact h1
          clear HT HS HTW HSM HYES HX HDS HRI HM1
          subst hnm0
          clear hnm
          go_wp2_with fail
          refine how.mono ?_
          rintro e V3 ⟨rfl, rfl⟩
          go_wp2
          go_roundg (R.length - (k + 1))
          case measure => omega
          case rel => exact ⟨k + 1, rfl, by omega, by rw [HD1.out], rfl, HY, HBW⟩
        · have HM1 : Hid _ := m1
          clear m1
          have HT : Hid (twiceP R k ⟨nm, tg, bk, ow⟩) := HTW.out.2 ⟨HM1.out, m3⟩
          have HS : Hid (¬ sameP R k ⟨nm, tg, bk, ow⟩) := fun x => g1 (HSM.out.1 x).1
          have g3 : decide (0 ≤ ow) = false := decide_eq_false g1
          have g4 : ow < 0 := by omega
          have HN : Hid _ := HX.out (fun x => (may_iff.1 x).2.1 HT.out)
          clear HT HS HTW HSM HYES HX HDS HRI HM1
          clear how
          go_wp2_with fail
          refine hnm.mono ?_
          rintro e V2 ⟨rfl, rfl⟩
          go_wp2
          go_ret
          exact HN.out
        · have HM1 : Hid _ := m1
          clear m1
          have HT : Hid (twiceP R k ⟨nm, tg, bk, ow⟩) := HTW.out.2 ⟨HM1.out, m3⟩
          have HS : Hid (sameP R k ⟨nm, tg, bk, ow⟩) := HSM.out.2 ⟨g1, g2⟩
          have g3 : ¬ ow < 0 := by omega
          have HN : Hid _ := HX.out (fun x => (may_iff.1 x).2.1 HT.out)
          clear HT HS HTW HSM HYES HX HDS HRI HM1
          go_wp2_with fail
          refine hnm.mono ?_
          rintro e V2 ⟨rfl, rfl⟩
          go_wp2_with fail
          refine how.mono ?_
          rintro e V3 ⟨rfl, rfl⟩
          go_wp2
          go_ret
          exact HN.out
        · have HM1 : Hid _ := m1
          clear m1
          have HT : Hid (twiceP R k ⟨nm, tg, bk, ow⟩) := HTW.out.2 ⟨HM1.out, m3⟩
          have HS : Hid (¬ sameP R k ⟨nm, tg, bk, ow⟩) := fun x => g2 (HSM.out.1 x).2
          have g3 : ¬ ow < 0 := by omega
          have g4 : decide (0 ≤ i2) = false := decide_eq_false g2
          have HN : Hid _ := HX.out (fun x => (may_iff.1 x).2.1 HT.out)
          clear HT HS HTW HSM HYES HX HDS HRI HM1
          go_wp2_with fail
          refine hnm.mono ?_
          rintro e V2 ⟨rfl, rfl⟩
          go_wp2_with fail
          refine how.mono ?_
          rintro e V3 ⟨rfl, rfl⟩
          go_wp2
          go_ret
          exact HN.out
        · have HM1 : Hid _ := m1
          clear m1
          have HT : Hid (¬ twiceP R k ⟨nm, tg, bk, ow⟩) := fun x => m3 (HTW.out.1 x).2
          have m3' : decide (0 ≤ i1) = false := decide_eq_false m3
          have HS : Hid (¬ sameP R k ⟨nm, tg, bk, ow⟩) := fun x => g1 (HSM.out.1 x).1
          have g3 : decide (0 ≤ ow) = false := decide_eq_false g1
          have g4 : ow < 0 := by omega
          have HY : Hid _ := HYES.out (may_iff.2 ⟨HRI.out, HT.out, HS.out⟩)
          have HD1 : Hid (dmL R (k + 1) = dmL R k + 1) := by have h1 := HDS.out; have h2 := HRI.out.2.2.2.2.1; dsimp only at h2; rw [if_pos (by omega)] at h1; exact h1
          clear HT HS HTW HSM HYES HX HDS HRI HM1
          clear how
          go_wp2_with fail
          refine hnm.mono ?_
          rintro e V2 ⟨rfl, rfl⟩
          go_wp2
          go_roundg (R.length - (k + 1))
          case measure => omega
          case rel => exact ⟨k + 1, rfl, by omega, by rw [HD1.out]; rfl, rfl, HY, HBW⟩
        · have HM1 : Hid _ := m1
          clear m1
          have HT : Hid (¬ twiceP R k ⟨nm, tg, bk, ow⟩) := fun x => m3 (HTW.out.1 x).2
          have m3' : decide (0 ≤ i1) = false := decide_eq_false m3
          have HS : Hid (sameP R k ⟨nm, tg, bk, ow⟩) := HSM.out.2 ⟨g1, g2⟩
          have g3 : ¬ ow < 0 := by omega
          have HN : Hid _ := HX.out (fun x => (may_iff.1 x).2.2 HS.out)
          clear HT HS HTW HSM HYES HX HDS HRI HM1
          go_wp2_with fail
          refine hnm.mono ?_
          rintro e V2 ⟨rfl, rfl⟩
          go_wp2_with fail
          refine how.mono ?_
          rintro e V3 ⟨rfl, rfl⟩
          go_wp2
          go_ret
          exact HN.out
        · have HM1 : Hid _ := m1
          clear m1
          have HT : Hid (¬ twiceP R k ⟨nm, tg, bk, ow⟩) := fun x => m3 (HTW.out.1 x).2
          have m3' : decide (0 ≤ i1) = false := decide_eq_false m3
          have HS : Hid (¬ sameP R k ⟨nm, tg, bk, ow⟩) := fun x => g2 (HSM.out.1 x).2
          have g3 : ¬ ow < 0 := by omega
          have g4 : decide (0 ≤ i2) = false := decide_eq_false g2
          have HY : Hid _ := HYES.out (may_iff.2 ⟨HRI.out, HT.out, HS.out⟩)
          have HD1 : Hid (dmL R (k + 1) = dmL R k) := by have h1 := HDS.out; rw [if_neg (by omega)] at h1; exact h1
          clear HT HS HTW HSM HYES HX HDS HRI HM1
          go_wp2_with fail
          refine hnm.mono ?_
          rintro e V2 ⟨rfl, rfl⟩
          go_wp2_with fail
          refine how.mono ?_
          rintro e V3 ⟨rfl, rfl⟩
          go_wp2
          go_roundg (R.length - (k + 1))
          case measure => omega
          case rel => exact ⟨k + 1, rfl, by omega, by rw [HD1.out], rfl, HY, HBW⟩
      · rw [decide_eq_false hr] at c6
        have HX : Hid (∀ V, Below U.heap.size U V → Stl w f R Z (.returned (.bool false)) V) := fun V hV => HNO.out V hV (fun x => hr (may_iff.1 x).1)
        clear HNO HYES HDS HU2 hr
        go_wp2_with fail
        refine c6.mono ?_
        rintro e V ⟨rfl, hbV⟩
        have HX2 : Hid _ := HX.out V hbV
        clear hbV c6 HX
        go_wp2
        go_ret
        exact HX2.out
    · obtain rfl : k = R.length := by omega
      have hkI : ¬ (R.length : Int) < (R.length : Int) := by omega
      have HRW : Hid (∀ (j : Nat) o, R[j]? = some o → -1 ≤ o.ow) := fun j o ho => (may_iff.1 (HPR.out j o (some_lt ho) ho)).1.2.2.2.2.1
      have HROWS : Hid (∀ (j : Nat) o, R[j]? = some o → mayS (SK f R j) j o) := fun j o ho => HPR.out j o (some_lt ho) ho
      have HSR : Hid (See wr 4 (.slice a1 R.length c1) R.length (obsC R)) := hsr
      have HSQ : Hid (See wr 1 (.slice a2 Z.length c2) Z.length (zsC Z)) := hsq
      have HNO : Hid (¬ Fits f R Z → Stl w f R Z (.returned (.bool false)) wr) := fun h => stl_no hbw h
      have HBW : Hid (Below w.heap.size w wr) := hbw
      have hdl := HDM.out R.length
      clear HPR hsr hsq hbw hgk hkn hk HBE HD
      go_wp2
      go_loopg [10] Z.length (fun gk i wr' => ∃ k : Nat, gk = Z.length - k ∧ k ≤ Z.length ∧ i = .int .i64 (k : Int) ∧ wr = wr' ∧ Hid (∀ (j : Nat) z, j < k → Z[j]? = some z → rowN (SQ f R Z j) z ∧ outL (SQ f R Z j) z = true))
      case atStart => exact ⟨0, by omega, by omega, rfl, rfl, fun j z hj => by omega⟩
      case round =>
        obtain ⟨k, hgk, hkn, rfl, rfl, HPQ⟩ := hrel
        by_cases hk : k < Z.length
        · have hkJ : (k : Int) < (Z.length : Int) := by omega
          obtain ⟨z, hkz⟩ : ∃ z, Z[k]? = some z := ⟨_, List.getElem?_eq_getElem hk⟩
          obtain ⟨b2, o2, rfl, hx⟩ := HSQ.out.z hkz rfl
          have w1 : IntKind.i64.wrap ((k : Int) + 1) = ((k + 1 : Nat) : Int) := by rw [IntKind.wrap_i64]; omega
          have hqi := queue_iff (f := f) (z := z) HRW.out (fun j y hj hy => (HPQ.out j y hj hy).1.1)
          have HX : Hid (¬ ((0 ≤ z ∧ z < (R.length : Int)) ∧ (rowAt (SQ f R Z k) z).ow < 0 ∧ anyB z Z k = false) → Stl w f R Z (.returned (.bool false)) wr) := fun h => HNO.out (fun hF => h (hqi.1 (hF.queue k z hkz)))
          have HYES : Hid (((0 ≤ z ∧ z < (R.length : Int)) ∧ (rowAt (SQ f R Z k) z).ow < 0 ∧ anyB z Z k = false) → ∀ (j : Nat) z, j < k + 1 → Z[j]? = some z → rowN (SQ f R Z j) z ∧ outL (SQ f R Z j) z = true) := fun hy j p hj hp => by
            by_cases e : j = k
            · subst e
              rw [hkz] at hp
              obtain rfl := Option.some.inj hp
              exact hqi.2 hy
            · exact HPQ.out j p (by omega) hp
          have hqd := queued_any wr _ _ Z HSQ.out (by omega) z k hkn
          clear HPQ hqi hkz
          by_cases z0 : z < 0
          · have HN : Hid _ := HX.out (fun x => by omega)
            clear HX HYES hqd
            go_wp2
            go_ret
            exact HN.out
          · obtain ⟨m, rfl⟩ : ∃ m : Nat, z = m := ⟨z.toNat, by omega⟩
            by_cases z1 : (m : Int) < (R.length : Int)
            · have hml : m < R.length := by omega
              obtain ⟨o, hmo⟩ : ∃ o, R[m]? = some o := ⟨_, List.getElem?_eq_getElem hml⟩
              obtain ⟨b1, o1, rfl, -, -, -, r3⟩ := HSR.out.ob hmo rfl
              have hra : (rowAt (SQ f R Z k) (m : Int)) = o := by
                show (R[(m : Int).toNat]?).getD zOb = o
                rw [Int.toNat_natCast, hmo]
                rfl
              rw [hra] at HX HYES
              have z2 : ¬ (R.length : Int) ≤ (m : Int) := by omega
              clear hra hmo hml
              obtain ⟨nm, tg, bk, ow⟩ := o
              dsimp only at *
              by_cases g1 : 0 ≤ ow
              · have HN : Hid _ := HX.out (fun x => by omega)
                clear HX HYES hqd
                go_wp2
                go_ret
                exact HN.out
              · have g2 : decide (0 ≤ ow) = false := decide_eq_false g1
                have g3 : ow < 0 := by omega
                have HXA : Hid (anyB (m : Int) Z k = true → Stl w f R Z (.returned (.bool false)) wr) := fun e => HX.out (fun x => by rw [e] at x; exact absurd x.2.2 (by decide))
                have HYA : Hid (anyB (m : Int) Z k = false → ∀ (j : Nat) z, j < k + 1 → Z[j]? = some z → rowN (SQ f R Z j) z ∧ outL (SQ f R Z j) z = true) := fun e => HYES.out ⟨⟨by omega, z1⟩, g3, e⟩
                generalize anyB (m : Int) Z k = ab at *
                clear HX HYES
                cases ab with
                | true =>
                  have HN : Hid _ := HXA.out rfl
                  clear HXA HYA
                  go_wp2_with fail
                  refine hqd.mono ?_
                  rintro e V2 ⟨rfl, rfl⟩
                  go_wp2
                  go_ret
                  exact HN.out
                | false =>
                  have HY : Hid _ := HYA.out rfl
                  clear HXA HYA
                  go_wp2_with fail
                  refine hqd.mono ?_
                  rintro e V2 ⟨rfl, rfl⟩
                  go_wp2
                  go_roundg (Z.length - (k + 1))
                  case measure => omega
                  case rel => exact ⟨k + 1, rfl, by omega, rfl, rfl, HY⟩
            · have HN : Hid _ := HX.out (fun x => by omega)
              have z2 : (R.length : Int) ≤ (m : Int) := by omega
              clear HX HYES hqd
              go_wp2
              go_ret
              exact HN.out
        · obtain rfl : k = Z.length := by omega
          have hkJ : ¬ (Z.length : Int) < (Z.length : Int) := by omega
          have HF : Hid (((Z.length : Int) == (dmL R R.length : Int)) = true ↔ Fits f R Z) := by
            have hda := dm_all R
            rw [beq_iff_eq]
            exact ⟨fun h => ⟨HROWS.out, fun j z hz => HPQ.out j z (some_lt hz) hz, by omega⟩, fun h => by have := h.all; omega⟩
          clear HPQ
          go_wp2
          go_ret
          exact ⟨⟨_, rfl, HF.out⟩, HBW.out⟩
end Go.Proofs.Ythmjjpaengackaa.Po
