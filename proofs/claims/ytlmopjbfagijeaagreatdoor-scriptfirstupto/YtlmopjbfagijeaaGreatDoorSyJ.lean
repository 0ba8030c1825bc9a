import Derived.Test.YtlmopjbfagijeaaGreatDoorYnM
import Derived.Test.YtlmopjbfagijeaaGreatDoorYoM
import Derived.Test.YtlmopjbfagijeaaGreatDoorSyH
namespace Go.Proofs.YtlmopjbfagijeaaGreatDoor.Sc
open Go.RowKit Go.Lib Go.Deep

/-- what actLines hands back, by letters -/
structure LineR (V : List ActV) (ah : Nat) (x : ByteArray) (q c : Int) : Prop where
  bad : firA V ≠ 0 → c = firA V
  code : firA V = 0 → c = 0
  num : firA V = 0 → q = ((ah + lnsT V : Nat) : Int)
  text : firA V = 0 → ah + lnsT V ≤ 20000 → x = str (actsT V)
theorem actLines_let (a : Option Addr) (c ah : Nat) (V : List ActV) (hok : VOk V) (hah : ah ≤ 1048576) (w : World) (hs : SeeV w a V) (ht : ITab w) :
    Calls Tryz.prog 32 #[.slice a V.length c, .int .i64 (ah : Int)] w fun e w' => (∃ x q c, e = .returned (.tuple #[.string x, .int .i64 q, .int .i64 c]) ∧ LineR V ah x q c) ∧ Below w.heap.size w w' :=
  (actLines_any a c ah V hok hah w hs ht).mono fun e w' => by
    rintro ⟨⟨B, hB, rfl⟩, hb⟩
    refine ⟨?_, hb⟩
    unfold linesV
    split
    · rename_i h
      exact ⟨_, _, _, rfl, fun hn => absurd h hn, fun _ => rfl, fun _ => rfl, fun _ hl => by rw [hB hl h]⟩
    · rename_i h
      exact ⟨_, _, _, rfl, fun _ => rfl, fun hn => absurd hn h, fun hn => absurd hn h, fun hn => absurd hn h⟩
theorem firA_each (V : List ActV) (h : firA V = 0) : ∀ x ∈ V, (prA x).2 = 0 := by
  induction V with
  | nil => intro x hx; cases hx
  | cons a t ih =>
    rw [firA] at h
    by_cases h1 : (prA a).2 = 0
    · rw [if_pos h1] at h
      intro x hx
      rcases List.mem_cons.1 hx with rfl | hx
      · exact h1
      · exact ih h x hx
    · rw [if_neg h1] at h
      exact absurd h h1
def rowsN (p : PlR) : Nat := (p.tape.size + 63) / 64
theorem cfgL_len (p : PlR) (hok : p.Ok) : (cfgL p).length ≤ 132 := by
  have h := nmL_len [p.s, p.f, p.d, p.m, p.l, p.p] (by
    simp only [List.mem_cons, List.not_mem_nil, or_false]
    rintro n (rfl | rfl | rfl | rfl | rfl | rfl)
    · exact hok.s
    · exact hok.f
    · exact hok.d
    · exact hok.m
    · exact hok.l
    · exact hok.p)
  simp only [cfgL, List.length_append, List.length_cons, List.length_nil] at h ⊢
  omega
def headL (p : PlR) : List UInt8 := cfgL p ++ [10] ++ (sealX p).2 ++ [10] ++ tapeL p.tape.data.toList (List.range (rowsN p)) ++ [97, 99, 116, 115] ++ [10]
/-- what Print answers -/
noncomputable def printV (p : PlR) (V : List ActV) : Value :=
  if p.ideal = true ∧ p.master.size ≠ 0 then .tuple #[.string { data := #[] }, .int .i64 225]
  else if (sealX p).1 = true ∨ 262144 < (sealX p).2.length then .tuple #[.string { data := #[] }, .int .i64 221]
  else if firA V ≠ 0 then .tuple #[.string { data := #[] }, .int .i64 (firA V)]
  else if 20000 < 3 + rowsN p + lnsT V then .tuple #[.string { data := #[] }, .int .i64 226]
  else .tuple #[.string (str (headL p ++ actsT V)), .int .i64 0]

set_option maxRecDepth 20000 in
set_option maxHeartbeats 4000000 in
theorem print_any (p : PlR) (hok : p.Ok) (V : List ActV) (hV : VOk V) (hn : V.length = p.nacts) (w : World) (hs : SeeV w p.acts V) (ht : ITab w) :
    Calls Tryz.prog 14 #[.agg p.cells] w fun e w' => e = .returned (printV p V) ∧ Below w.heap.size w w' := by
  obtain ⟨W, hW⟩ : ∃ W, w.alloc (.cells p.cells 26) = W := ⟨_, rfl⟩
  have hbW : Below w.heap.size w W := by rw [← hW]; exact (Below.refl _ _).alloc (Nat.le_refl _) _
  have hlt : w.heap.size < W.heap.size := by rw [← hW]; simp
  have h1 : W.heap[w.heap.size]? = some (.cells p.cells 26 (0, 0)) := by rw [← hW]; exact heap_alloc_new _ _
  have HP : Hid (∀ U, Below W.heap.size W U → PlAt U w.heap.size p) := fun U hU => (plAt_of h1).below hU (heap_lt h1)
  have HB : Hid (Below w.heap.size w W) := hbW
  have hse := sealLine_any p hok W
  have hrn : rowsN p ≤ 16385 := by have := hok.tape; unfold rowsN; omega
  have HAL : Hid (∀ U, Below W.heap.size W U → Calls Tryz.prog 32 #[.slice p.acts p.nacts p.cacts, .int .i64 ((3 + rowsN p : Nat) : Int)] U fun e w' => (∃ x q c, e = .returned (.tuple #[.string x, .int .i64 q, .int .i64 c]) ∧ LineR V (3 + rowsN p) x q c) ∧ Below U.heap.size U w') := by
    show ∀ U, _
    intro U hU
    have hwU : Below w.heap.size w U := HB.out.trans (hU.mono HB.out.size)
    have h := actLines_let p.acts p.cacts (3 + rowsN p) V hV (by omega) U (hs.below hwU) (ht.below hwU ht.lt)
    rw [hn] at h
    exact h
  have HTL : Hid (∀ U, Calls Tryz.prog 33 #[.string p.tape] U fun e w' => e = .returned (.int .i64 ((rowsN p : Nat) : Int)) ∧ w' = U) := fun U => tapeLines_any p.tape hok.tape U
  have HTT : Hid (∀ U, Calls Tryz.prog 35 #[.string p.tape] U fun e w' => e = .returned (.string (str (tapeL p.tape.data.toList (List.range (rowsN p))))) ∧ Below U.heap.size U w') := fun U => tapeText_any p.tape hok.tape U
  have HCF : Hid (∀ U, Below W.heap.size W U → Calls Tryz.prog 34 #[.agg #[.int .i64 p.s, .int .i64 p.f, .int .i64 p.d, .int .i64 p.m, .int .i64 p.l, .int .i64 p.p]] U fun e w' => e = .returned (.string (str (cfgL p))) ∧ Below U.heap.size U w') := fun U hU => configLine_any p hok U (by
    have hwU : Below w.heap.size w U := HB.out.trans (hU.mono HB.out.size)
    exact ht.below hwU ht.lt)
  obtain ⟨c0, c1, c2, c3, c4, c5, c6, c7, c8, c9⟩ := (HP.out W (Below.refl _ _)).ten
  obtain ⟨R, hR⟩ : ∃ R, printV p V = R := ⟨_, rfl⟩
  have HR : Hid (printV p V = R) := hR
  rw [hR]
  have HVV : Hid (VOk V) := hV
  clear hR hbW h1 hs ht hV hn
  unfold PlR.cells at hW hse ⊢
  obtain ⟨sx, sc, hsx, hs0, hs1⟩ : ∃ (sx : ByteArray) (sc : Int), sealV p = .tuple #[.string sx, .int .i64 sc] ∧ (sc = 0 → ¬ ((sealX p).1 = true ∨ 262144 < (sealX p).2.length) ∧ sx = str (sealX p).2) ∧ (sc ≠ 0 → sc = 221 ∧ ((sealX p).1 = true ∨ 262144 < (sealX p).2.length)) := by
    unfold sealV
    split
    · rename_i h
      exact ⟨_, _, rfl, fun e => (by cases e), fun _ => ⟨rfl, h⟩⟩
    · rename_i h
      exact ⟨_, _, rfl, fun _ => ⟨h, rfl⟩, fun e => absurd rfl e⟩
  rw [hsx] at hse
  have HS0 : Hid (sc = 0 → ¬ ((sealX p).1 = true ∨ 262144 < (sealX p).2.length) ∧ sx = str (sealX p).2) := hs0
  have HS1 : Hid (sc ≠ 0 → sc = 221 ∧ ((sealX p).1 = true ∨ 262144 < (sealX p).2.length)) := hs1
  clear hsx hs0 hs1
  have hcase : (p.ideal = true ∧ p.master.size ≠ 0) ∨ (p.ideal = true ∧ p.master.size = 0) ∨ p.ideal = false := by
    cases p.ideal
    · exact .inr (.inr rfl)
    · by_cases h : p.master.size = 0
      · exact .inr (.inl ⟨rfl, h⟩)
      · exact .inl ⟨rfl, h⟩
  rcases hcase with ⟨hid, hm⟩ | hrest
  · rw [hid] at c6 hW ⊢
    have HW : Hid (Unit → _ = W) := fun _ => hW
    have HF : Hid (R = .tuple #[.string { data := #[] }, .int .i64 225]) := by
      show _ = _
      rw [← HR.out]
      unfold printV
      rw [if_pos ⟨hid, hm⟩]
    clear hse hW
    have hme : p.master.toList.isEmpty = false := by
      rw [Bool.eq_false_iff]
      intro h
      apply hm
      rw [List.isEmpty_iff] at h
      have := ByteArray.toList_eq p.master
      rw [h] at this
      rw [size_eq, ← this]
      rfl
    go_enter Tryz.func14, Tryz.ntmps14
    go_wp2
    go_ret2
    rw [HF.out, HW.out ()]
    exact ⟨rfl, HB.out⟩
  rcases hrest with ⟨hid, hm⟩ | hid
  · rw [hid] at c6 hW hse ⊢
    have hme : p.master = ({ data := #[] } : ByteArray) := by
      have h := size_eq p.master
      rw [hm] at h
      apply ByteArray.ext
      apply Array.toList_inj.1
      exact List.length_eq_zero_iff.1 h.symm
    rw [hme] at c7 hW hse ⊢
    have HW : Hid (Unit → _ = W) := fun _ => hW
    clear hW
    go_enter Tryz.func14, Tryz.ntmps14
    go_wp2_with fail
    rw [HW.out ()]
    refine hse.mono ?_
    rintro e w1 ⟨rfl, hb1⟩
    clear hse HW c0 c1 c2 c3 c4 c5 c6 c7 c8 c9
    have HB1 : Hid (Below W.heap.size W w1) := hb1
    have HBB : Hid (Below w.heap.size w w1) := HB.out.trans (hb1.mono HB.out.size)
    clear hb1
    by_cases hsc : sc = 0
    · subst hsc
      obtain ⟨hsn, rfl⟩ := HS0.out rfl
      have HSn : Hid (¬ ((sealX p).1 = true ∨ 262144 < (sealX p).2.length)) := hsn
      obtain ⟨sl, hsl⟩ : ∃ sl, str (sealX p).2 = sl := ⟨_, rfl⟩
      rw [hsl]
      have HSL : Hid (str (sealX p).2 = sl) := hsl
      have hslz : sl.size ≤ 262144 := by
        rw [← hsl, str_size]
        omega
      clear hsl hsn HS0 HS1
      obtain ⟨c0, c1, c2, c3, c4, c5, c6, c7, c8, c9⟩ := (HP.out w1 HB1.out).ten
      have hTL := HTL.out w1.drew
      have hbd := bd1 w1
      have hAL := HAL.out w1.drew (HB1.out.trans (hbd.mono HB1.out.size))
      obtain ⟨ah, hah⟩ : ∃ ah, 3 + rowsN p = ah := ⟨_, rfl⟩
      obtain ⟨rn, hrnE⟩ : ∃ rn, rowsN p = rn := ⟨_, rfl⟩
      rw [hah] at hAL
      rw [hrnE] at hTL hah hrn
      have HRn : Hid (rowsN p = rn) := hrnE
      have hadd : (3 : Int) + (rn : Int) = ((ah : Nat) : Int) := by omega
      have hwrap : IntKind.i64.wrap ((ah : Nat) : Int) = ((ah : Nat) : Int) := by rw [IntKind.wrap_i64]; omega
      clear hrnE
      have HSS : Hid (∀ U, Below w1.heap.size w1 U → U.cell? ⟨w.heap.size, 8, none⟩ = some (.string p.tape) ∧ U.cell? ⟨w.heap.size, 9, none⟩ = some (.slice p.acts p.nacts p.cacts)) := fun U hU => by
        have h := (HP.out U (HB1.out.trans (hU.mono HB1.out.size))).ten
        exact ⟨h.2.2.2.2.2.2.2.2.1, h.2.2.2.2.2.2.2.2.2⟩
      clear c0 c1 c2 c3 c4 c5 c6 c7
      go_wp2_with fail
      go_region_held_law (fun U => U.cell? ⟨w.heap.size, 8, none⟩ = some (.string p.tape) ∧ U.cell? ⟨w.heap.size, 9, none⟩ = some (.slice p.acts p.nacts p.cacts)) (first | exact HSS.out _ hbd | exact HSS.out _ hb3x | go_keep) (first | (go_at_call 33; refine hTL.mono ?_; rintro e w2 ⟨rfl, rfl⟩; clear hTL) | (go_at_call 32; refine hAL.mono ?_; rintro e w3 ⟨⟨x, q, c, rfl, hLR⟩, hb3⟩; have hb3x := hbd.trans (hb3.mono hbd.size); have HLR : Hid (LineR V ah x q c) := hLR; clear hAL hLR))
      all_goals
        have HW3 : Hid (Below W.heap.size W w3) := HB1.out.trans (hb3x.mono HB1.out.size)
        have HB3 : Hid (Below w.heap.size w w3) := HB.out.trans (HW3.out.mono HB.out.size)
        have HNA : Hid (¬ (p.ideal = true ∧ p.master.size ≠ 0)) := by
          show ¬ _
          rintro ⟨-, h⟩; exact h hm
        have HSN : Hid (¬ ((sealX p).1 = true ∨ 262144 < (sealX p).2.length)) := HSn
        have HAH : Hid (3 + rowsN p = ah) := by show _ = _; rw [HRn.out]; exact hah
        clear hb3 hb3x hbd HSS
        by_cases hc : c = 0
        · have HF0 : Hid (firA V = 0) := by
            show _ = _
            by_cases h : firA V = 0
            · exact h
            · exact (HLR.out.bad h).symm.trans hc
          have hqe := HLR.out.num HF0.out
          obtain ⟨lt, hlt2⟩ : ∃ lt, ah + lnsT V = lt := ⟨_, rfl⟩
          have HLT : Hid (ah + lnsT V = lt) := hlt2
          rw [hlt2] at hqe
          subst hqe hc
          clear hlt2
          by_cases hq : 20000 < lt
          · have hqI : (20000 : Int) < ((lt : Nat) : Int) := by omega
            have HF : Hid (R = .tuple #[.string { data := #[] }, .int .i64 226]) := by
              show _ = _
              rw [← HR.out]
              unfold printV
              rw [if_neg HNA.out, if_neg HSN.out, if_neg (fun h => h HF0.out), HAH.out, HLT.out, if_pos hq]
            go_wp2
            go_ret2
            rw [HF.out]
            exact ⟨rfl, HB3.out⟩
          · have hqI : ¬ (20000 : Int) < ((lt : Nat) : Int) := by omega
            have HX : Hid (x = str (actsT V)) := HLR.out.text HF0.out (by rw [HLT.out]; omega)
            have HF : Hid (R = .tuple #[.string (str (headL p ++ actsT V)), .int .i64 0]) := by
              show _ = _
              rw [← HR.out]
              unfold printV
              rw [if_neg HNA.out, if_neg HSN.out, if_neg (fun h => h HF0.out), HAH.out, HLT.out, if_neg hq]
            have hxz : x.size ≤ 5242900000 := by
              have h := actsT_len V HVV.out.each (firA_each V HF0.out)
              have h2 := HLT.out
              have h3 := Nat.mul_le_mul_left 262145 (show lnsT V ≤ 20000 by omega)
              rw [HX.out, str_size]
              omega
            have hbd := bd1 w3
            have hcf := HCF.out w3.drew (HW3.out.trans (hbd.mono HW3.out.size))
            obtain ⟨cf, hcfe⟩ : ∃ cf, str (cfgL p) = cf := ⟨_, rfl⟩
            obtain ⟨tt, htte⟩ : ∃ tt, str (tapeL p.tape.data.toList (List.range (rowsN p))) = tt := ⟨_, rfl⟩
            have hcz : cf.size ≤ 132 := by rw [← hcfe, str_size]; exact cfgL_len p hok
            have htz : tt.size ≤ 2195590 := by
              have h := tapeL_len p.tape.data.toList (List.range (rowsN p))
              rw [List.length_range] at h
              have := HRn.out
              rw [← htte, str_size]
              omega
            have hTT := HTT
            rw [htte] at hTT
            rw [hcfe] at hcf
            have HCE : Hid (str (cfgL p) = cf) := hcfe
            have HTE : Hid (str (tapeL p.tape.data.toList (List.range (rowsN p))) = tt) := htte
            clear hcfe htte HCF HTT HAL HTL hrn hadd hwrap hah hq
            have HSS : Hid (∀ U, Below w3.heap.size w3 U → U.cell? ⟨w.heap.size, 0, none⟩ = some (.int .i64 p.s) ∧ U.cell? ⟨w.heap.size, 1, none⟩ = some (.int .i64 p.f) ∧ U.cell? ⟨w.heap.size, 2, none⟩ = some (.int .i64 p.d) ∧ U.cell? ⟨w.heap.size, 3, none⟩ = some (.int .i64 p.m) ∧ U.cell? ⟨w.heap.size, 4, none⟩ = some (.int .i64 p.l) ∧ U.cell? ⟨w.heap.size, 5, none⟩ = some (.int .i64 p.p) ∧ U.cell? ⟨w.heap.size, 8, none⟩ = some (.string p.tape)) := fun U hU => by
              have h := (HP.out U (HW3.out.trans (hU.mono HW3.out.size))).ten
              exact ⟨h.1, h.2.1, h.2.2.1, h.2.2.2.1, h.2.2.2.2.1, h.2.2.2.2.2.1, h.2.2.2.2.2.2.2.2.1⟩
            have z1 : ¬ 9223372036854775807 < cf.size + 1 := by omega
            have z2 : ¬ 9223372036854775807 < cf.size + 1 + sl.size := by omega
            have z3 : ¬ 9223372036854775807 < cf.size + 1 + sl.size + 1 := by omega
            have z4 : ¬ 9223372036854775807 < cf.size + 1 + sl.size + 1 + tt.size := by omega
            have z5 : ¬ 9223372036854775807 < cf.size + 1 + sl.size + 1 + tt.size + 4 := by omega
            have z6 : ¬ 9223372036854775807 < cf.size + 1 + sl.size + 1 + tt.size + 4 + 1 := by omega
            have z7 : ¬ 9223372036854775807 < cf.size + 1 + sl.size + 1 + tt.size + 4 + 1 + x.size := by omega
            go_wp2_with fail
            go_region_held_law (fun U => U.cell? ⟨w.heap.size, 0, none⟩ = some (.int .i64 p.s) ∧ U.cell? ⟨w.heap.size, 1, none⟩ = some (.int .i64 p.f) ∧ U.cell? ⟨w.heap.size, 2, none⟩ = some (.int .i64 p.d) ∧ U.cell? ⟨w.heap.size, 3, none⟩ = some (.int .i64 p.m) ∧ U.cell? ⟨w.heap.size, 4, none⟩ = some (.int .i64 p.l) ∧ U.cell? ⟨w.heap.size, 5, none⟩ = some (.int .i64 p.p) ∧ U.cell? ⟨w.heap.size, 8, none⟩ = some (.string p.tape)) (first | exact HSS.out _ hbd | exact HSS.out _ hb4x | exact HSS.out _ hb5x | go_keep) (first | (go_at_call 34; refine hcf.mono ?_; rintro e w4 ⟨rfl, hb4⟩; have hb4x := hbd.trans (hb4.mono hbd.size); have htt := hTT.out w4; clear hcf hTT) | (go_at_call 35; refine htt.mono ?_; rintro e w5 ⟨rfl, hb5⟩; have hb5x := hb4x.trans (hb5.mono hb4x.size); clear htt))
            all_goals
              have HTX : Hid (cf ++ { data := #[10] } ++ sl ++ { data := #[10] } ++ tt ++ { data := #[97, 99, 116, 115] } ++ { data := #[10] } ++ x = str (headL p ++ actsT V)) := by
                show _ = _
                rw [HX.out, ← HCE.out, ← HTE.out, ← HSL.out]
                apply ByteArray.ext
                apply Array.toList_inj.1
                simp [str, headL]
              have HB5 : Hid (Below w.heap.size w w5) := HB3.out.trans (hb5x.mono HB3.out.size)
              clear hb4 hb5 hb4x hb5x hbd HSS
              go_wp2
              go_ret2
              rw [HF.out, HTX.out]
              exact ⟨rfl, HB5.out⟩
        · have HF : Hid (R = .tuple #[.string { data := #[] }, .int .i64 c]) := by
            show _ = _
            have h : firA V ≠ 0 := fun h => hc (HLR.out.code h)
            rw [← HR.out]
            unfold printV
            rw [if_neg HNA.out, if_neg HSN.out, if_pos h, HLR.out.bad h]
          go_wp2
          go_ret2
          rw [HF.out]
          exact ⟨rfl, HB3.out⟩
    · obtain ⟨rfl, hbad⟩ := HS1.out hsc
      have HF : Hid (R = .tuple #[.string { data := #[] }, .int .i64 221]) := by
        show _ = _
        rw [← HR.out]
        unfold printV
        rw [if_neg (by rintro ⟨-, h⟩; exact h hm), if_pos hbad]
      clear HS0 HS1 hbad
      go_wp2
      go_ret2
      rw [HF.out]
      exact ⟨rfl, HBB.out⟩
  · rw [hid] at c6 hW hse ⊢
    have HW : Hid (Unit → _ = W) := fun _ => hW
    clear hW
    go_enter Tryz.func14, Tryz.ntmps14
    go_wp2_with fail
    rw [HW.out ()]
    refine hse.mono ?_
    rintro e w1 ⟨rfl, hb1⟩
    clear hse HW c0 c1 c2 c3 c4 c5 c6 c7 c8 c9
    have HB1 : Hid (Below W.heap.size W w1) := hb1
    have HBB : Hid (Below w.heap.size w w1) := HB.out.trans (hb1.mono HB.out.size)
    clear hb1
    by_cases hsc : sc = 0
    · subst hsc
      obtain ⟨hsn, rfl⟩ := HS0.out rfl
      have HSn : Hid (¬ ((sealX p).1 = true ∨ 262144 < (sealX p).2.length)) := hsn
      obtain ⟨sl, hsl⟩ : ∃ sl, str (sealX p).2 = sl := ⟨_, rfl⟩
      rw [hsl]
      have HSL : Hid (str (sealX p).2 = sl) := hsl
      have hslz : sl.size ≤ 262144 := by
        rw [← hsl, str_size]
        omega
      clear hsl hsn HS0 HS1
      obtain ⟨c0, c1, c2, c3, c4, c5, c6, c7, c8, c9⟩ := (HP.out w1 HB1.out).ten
      have hTL := HTL.out w1.drew
      have hbd := bd1 w1
      have hAL := HAL.out w1.drew (HB1.out.trans (hbd.mono HB1.out.size))
      obtain ⟨ah, hah⟩ : ∃ ah, 3 + rowsN p = ah := ⟨_, rfl⟩
      obtain ⟨rn, hrnE⟩ : ∃ rn, rowsN p = rn := ⟨_, rfl⟩
      rw [hah] at hAL
      rw [hrnE] at hTL hah hrn
      have HRn : Hid (rowsN p = rn) := hrnE
      have hadd : (3 : Int) + (rn : Int) = ((ah : Nat) : Int) := by omega
      have hwrap : IntKind.i64.wrap ((ah : Nat) : Int) = ((ah : Nat) : Int) := by rw [IntKind.wrap_i64]; omega
      clear hrnE
      have HSS : Hid (∀ U, Below w1.heap.size w1 U → U.cell? ⟨w.heap.size, 8, none⟩ = some (.string p.tape) ∧ U.cell? ⟨w.heap.size, 9, none⟩ = some (.slice p.acts p.nacts p.cacts)) := fun U hU => by
        have h := (HP.out U (HB1.out.trans (hU.mono HB1.out.size))).ten
        exact ⟨h.2.2.2.2.2.2.2.2.1, h.2.2.2.2.2.2.2.2.2⟩
      clear c0 c1 c2 c3 c4 c5 c6 c7
      go_wp2_with fail
      go_region_held_law (fun U => U.cell? ⟨w.heap.size, 8, none⟩ = some (.string p.tape) ∧ U.cell? ⟨w.heap.size, 9, none⟩ = some (.slice p.acts p.nacts p.cacts)) (first | exact HSS.out _ hbd | exact HSS.out _ hb3x | go_keep) (first | (go_at_call 33; refine hTL.mono ?_; rintro e w2 ⟨rfl, rfl⟩; clear hTL) | (go_at_call 32; refine hAL.mono ?_; rintro e w3 ⟨⟨x, q, c, rfl, hLR⟩, hb3⟩; have hb3x := hbd.trans (hb3.mono hbd.size); have HLR : Hid (LineR V ah x q c) := hLR; clear hAL hLR))
      all_goals
        have HW3 : Hid (Below W.heap.size W w3) := HB1.out.trans (hb3x.mono HB1.out.size)
        have HB3 : Hid (Below w.heap.size w w3) := HB.out.trans (HW3.out.mono HB.out.size)
        have HNA : Hid (¬ (p.ideal = true ∧ p.master.size ≠ 0)) := by
          show ¬ _
          rw [hid]; rintro ⟨h, -⟩; cases h
        have HSN : Hid (¬ ((sealX p).1 = true ∨ 262144 < (sealX p).2.length)) := HSn
        have HAH : Hid (3 + rowsN p = ah) := by show _ = _; rw [HRn.out]; exact hah
        clear hb3 hb3x hbd HSS
        by_cases hc : c = 0
        · have HF0 : Hid (firA V = 0) := by
            show _ = _
            by_cases h : firA V = 0
            · exact h
            · exact (HLR.out.bad h).symm.trans hc
          have hqe := HLR.out.num HF0.out
          obtain ⟨lt, hlt2⟩ : ∃ lt, ah + lnsT V = lt := ⟨_, rfl⟩
          have HLT : Hid (ah + lnsT V = lt) := hlt2
          rw [hlt2] at hqe
          subst hqe hc
          clear hlt2
          by_cases hq : 20000 < lt
          · have hqI : (20000 : Int) < ((lt : Nat) : Int) := by omega
            have HF : Hid (R = .tuple #[.string { data := #[] }, .int .i64 226]) := by
              show _ = _
              rw [← HR.out]
              unfold printV
              rw [if_neg HNA.out, if_neg HSN.out, if_neg (fun h => h HF0.out), HAH.out, HLT.out, if_pos hq]
            go_wp2
            go_ret2
            rw [HF.out]
            exact ⟨rfl, HB3.out⟩
          · have hqI : ¬ (20000 : Int) < ((lt : Nat) : Int) := by omega
            have HX : Hid (x = str (actsT V)) := HLR.out.text HF0.out (by rw [HLT.out]; omega)
            have HF : Hid (R = .tuple #[.string (str (headL p ++ actsT V)), .int .i64 0]) := by
              show _ = _
              rw [← HR.out]
              unfold printV
              rw [if_neg HNA.out, if_neg HSN.out, if_neg (fun h => h HF0.out), HAH.out, HLT.out, if_neg hq]
            have hxz : x.size ≤ 5242900000 := by
              have h := actsT_len V HVV.out.each (firA_each V HF0.out)
              have h2 := HLT.out
              have h3 := Nat.mul_le_mul_left 262145 (show lnsT V ≤ 20000 by omega)
              rw [HX.out, str_size]
              omega
            have hbd := bd1 w3
            have hcf := HCF.out w3.drew (HW3.out.trans (hbd.mono HW3.out.size))
            obtain ⟨cf, hcfe⟩ : ∃ cf, str (cfgL p) = cf := ⟨_, rfl⟩
            obtain ⟨tt, htte⟩ : ∃ tt, str (tapeL p.tape.data.toList (List.range (rowsN p))) = tt := ⟨_, rfl⟩
            have hcz : cf.size ≤ 132 := by rw [← hcfe, str_size]; exact cfgL_len p hok
            have htz : tt.size ≤ 2195590 := by
              have h := tapeL_len p.tape.data.toList (List.range (rowsN p))
              rw [List.length_range] at h
              have := HRn.out
              rw [← htte, str_size]
              omega
            have hTT := HTT
            rw [htte] at hTT
            rw [hcfe] at hcf
            have HCE : Hid (str (cfgL p) = cf) := hcfe
            have HTE : Hid (str (tapeL p.tape.data.toList (List.range (rowsN p))) = tt) := htte
            clear hcfe htte HCF HTT HAL HTL hrn hadd hwrap hah hq
            have HSS : Hid (∀ U, Below w3.heap.size w3 U → U.cell? ⟨w.heap.size, 0, none⟩ = some (.int .i64 p.s) ∧ U.cell? ⟨w.heap.size, 1, none⟩ = some (.int .i64 p.f) ∧ U.cell? ⟨w.heap.size, 2, none⟩ = some (.int .i64 p.d) ∧ U.cell? ⟨w.heap.size, 3, none⟩ = some (.int .i64 p.m) ∧ U.cell? ⟨w.heap.size, 4, none⟩ = some (.int .i64 p.l) ∧ U.cell? ⟨w.heap.size, 5, none⟩ = some (.int .i64 p.p) ∧ U.cell? ⟨w.heap.size, 8, none⟩ = some (.string p.tape)) := fun U hU => by
              have h := (HP.out U (HW3.out.trans (hU.mono HW3.out.size))).ten
              exact ⟨h.1, h.2.1, h.2.2.1, h.2.2.2.1, h.2.2.2.2.1, h.2.2.2.2.2.1, h.2.2.2.2.2.2.2.2.1⟩
            have z1 : ¬ 9223372036854775807 < cf.size + 1 := by omega
            have z2 : ¬ 9223372036854775807 < cf.size + 1 + sl.size := by omega
            have z3 : ¬ 9223372036854775807 < cf.size + 1 + sl.size + 1 := by omega
            have z4 : ¬ 9223372036854775807 < cf.size + 1 + sl.size + 1 + tt.size := by omega
            have z5 : ¬ 9223372036854775807 < cf.size + 1 + sl.size + 1 + tt.size + 4 := by omega
            have z6 : ¬ 9223372036854775807 < cf.size + 1 + sl.size + 1 + tt.size + 4 + 1 := by omega
            have z7 : ¬ 9223372036854775807 < cf.size + 1 + sl.size + 1 + tt.size + 4 + 1 + x.size := by omega
            go_wp2_with fail
            go_region_held_law (fun U => U.cell? ⟨w.heap.size, 0, none⟩ = some (.int .i64 p.s) ∧ U.cell? ⟨w.heap.size, 1, none⟩ = some (.int .i64 p.f) ∧ U.cell? ⟨w.heap.size, 2, none⟩ = some (.int .i64 p.d) ∧ U.cell? ⟨w.heap.size, 3, none⟩ = some (.int .i64 p.m) ∧ U.cell? ⟨w.heap.size, 4, none⟩ = some (.int .i64 p.l) ∧ U.cell? ⟨w.heap.size, 5, none⟩ = some (.int .i64 p.p) ∧ U.cell? ⟨w.heap.size, 8, none⟩ = some (.string p.tape)) (first | exact HSS.out _ hbd | exact HSS.out _ hb4x | exact HSS.out _ hb5x | go_keep) (first | (go_at_call 34; refine hcf.mono ?_; rintro e w4 ⟨rfl, hb4⟩; have hb4x := hbd.trans (hb4.mono hbd.size); have htt := hTT.out w4; clear hcf hTT) | (go_at_call 35; refine htt.mono ?_; rintro e w5 ⟨rfl, hb5⟩; have hb5x := hb4x.trans (hb5.mono hb4x.size); clear htt))
            all_goals
              have HTX : Hid (cf ++ { data := #[10] } ++ sl ++ { data := #[10] } ++ tt ++ { data := #[97, 99, 116, 115] } ++ { data := #[10] } ++ x = str (headL p ++ actsT V)) := by
                show _ = _
                rw [HX.out, ← HCE.out, ← HTE.out, ← HSL.out]
                apply ByteArray.ext
                apply Array.toList_inj.1
                simp [str, headL]
              have HB5 : Hid (Below w.heap.size w w5) := HB3.out.trans (hb5x.mono HB3.out.size)
              clear hb4 hb5 hb4x hb5x hbd HSS
              go_wp2
              go_ret2
              rw [HF.out, HTX.out]
              exact ⟨rfl, HB5.out⟩
        · have HF : Hid (R = .tuple #[.string { data := #[] }, .int .i64 c]) := by
            show _ = _
            have h : firA V ≠ 0 := fun h => hc (HLR.out.code h)
            rw [← HR.out]
            unfold printV
            rw [if_neg HNA.out, if_neg HSN.out, if_pos h, HLR.out.bad h]
          go_wp2
          go_ret2
          rw [HF.out]
          exact ⟨rfl, HB3.out⟩
    · obtain ⟨rfl, hbad⟩ := HS1.out hsc
      have HF : Hid (R = .tuple #[.string { data := #[] }, .int .i64 221]) := by
        show _ = _
        rw [← HR.out]
        unfold printV
        rw [if_neg (by rw [hid]; rintro ⟨h, -⟩; cases h), if_pos hbad]
      clear HS0 HS1 hbad
      go_wp2
      go_ret2
      rw [HF.out]
      exact ⟨rfl, HBB.out⟩
end Go.Proofs.YtlmopjbfagijeaaGreatDoor.Sc
