import Derived.Test.YtbdgbefjmfcgcaaDoorIxO
import Derived.Deep.RegionWith
namespace Go.Proofs.YtbdgbefjmfcgcaaDoor.Ix
open Go.RowKit Go.Lib Go.Deep

theorem cells2 {W : World} {g : Nat} {t : TypeId} {x0 x1 : Value} (h : W.heap[g]? = some (.cells #[x0, x1] t (0, 0))) : W.cell? ⟨g, 0, none⟩ = some x0 ∧ W.cell? ⟨g, 1, none⟩ = some x1 := ⟨(cell_of_heap h).trans rfl, (cell_of_heap h).trans rfl⟩
theorem cells4 {W : World} {g : Nat} {t : TypeId} {x0 x1 x2 x3 : Value} (h : W.heap[g]? = some (.cells #[x0, x1, x2, x3] t (0, 0))) : W.cell? ⟨g, 0, none⟩ = some x0 ∧ W.cell? ⟨g, 1, none⟩ = some x1 ∧ W.cell? ⟨g, 2, none⟩ = some x2 ∧ W.cell? ⟨g, 3, none⟩ = some x3 := ⟨(cell_of_heap h).trans rfl, (cell_of_heap h).trans rfl, (cell_of_heap h).trans rfl, (cell_of_heap h).trans rfl⟩
theorem obF_iff (sl fl dr mf ls pg : Nat) (nm tg : ByteArray) (bk ow : Int) : decide (ObF ⟨sl, fl, dr, mf, ls, pg⟩ ⟨nm, tg, bk, ow⟩) = (decide (nm.size = 16 ∧ tg.size = 16) && (decide (0 ≤ bk ∧ bk ≤ 1048576) && decide (-1 ≤ ow ∧ ow ≤ (fl : Int) - 1))) := by
  have : ObF ⟨sl, fl, dr, mf, ls, pg⟩ ⟨nm, tg, bk, ow⟩ ↔ (nm.size = 16 ∧ tg.size = 16) ∧ (0 ≤ bk ∧ bk ≤ 1048576) ∧ (-1 ≤ ow ∧ ow ≤ (fl : Int) - 1) := by
    unfold ObF
    simp only
    omega
  rw [decide_eq_decide.2 this, Bool.decide_and, Bool.decide_and (p := 0 ≤ bk ∧ bk ≤ 1048576)]
set_option maxRecDepth 20000 in
set_option maxHeartbeats 2000000 in
theorem poolFits_any (sl fl dr mf ls pg : Nat) (hc : Cn.In ⟨sl, fl, dr, mf, ls, pg⟩) (O : List Ob) (Q : List Int) (w : World) (a q : Option Addr) (n k m j : Nat) (hS : See w 4 (.slice a n k) n (obsC O)) (hn : O.length = n) (hnb : n ≤ 1099511000000) (hS2 : See w 1 (.slice q m j) m (zsC Q)) (hm : Q.length = m) (h1' : n = fl + sl) (h2 : m ≤ n) :
    Calls Tryd.prog 21 #[.agg #[.int .i64 (sl : Int), .int .i64 (fl : Int), .int .i64 (dr : Int), .int .i64 (mf : Int), .int .i64 (ls : Int), .int .i64 (pg : Int)], .agg #[.slice a n k, .slice q m j]] w fun e w' => e = .returned (.bool (poolB ⟨sl, fl, dr, mf, ls, pg⟩ O Q)) ∧ Below w.heap.size w w' := by
  have KR0 := fun X => rowsOf_any sl fl dr mf ls pg hc X
  have hfl : fl ≤ 65536 := hc.2.2.2.1
  have hfs : fl + sl ≤ 65600 := by have := hc.2.1; simp only at this; omega
  have hf1 : 1 ≤ fl + sl := by have := hc.1; simp only at this; omega
  clear hc
  obtain ⟨V, hV, hbV, g0, g1⟩ := two_new w #[.int .i64 (sl : Int), .int .i64 (fl : Int), .int .i64 (dr : Int), .int .i64 (mf : Int), .int .i64 (ls : Int), .int .i64 (pg : Int)] #[.slice a n k, .slice q m j] 23 32
  have l0 := heap_lt g0
  have l1 := heap_lt g1
  have HX : Hid (∀ X, Below V.heap.size V X → (X.cell? ⟨w.heap.size, 0, none⟩ = some (.int .i64 (sl : Int)) ∧ X.cell? ⟨w.heap.size, 1, none⟩ = some (.int .i64 (fl : Int)) ∧ X.cell? ⟨w.heap.size, 2, none⟩ = some (.int .i64 (dr : Int)) ∧ X.cell? ⟨w.heap.size, 3, none⟩ = some (.int .i64 (mf : Int)) ∧ X.cell? ⟨w.heap.size, 4, none⟩ = some (.int .i64 (ls : Int)) ∧ X.cell? ⟨w.heap.size, 5, none⟩ = some (.int .i64 (pg : Int))) ∧ (X.cell? ⟨w.heap.size + 1, 0, none⟩ = some (.slice a n k) ∧ X.cell? ⟨w.heap.size + 1, 1, none⟩ = some (.slice q m j)) ∧ See X 4 (.slice a n k) n (obsC O) ∧ See X 1 (.slice q m j) m (zsC Q) ∧ Below w.heap.size w X) := fun X hX => by
    have hb := hbV.trans (hX.mono hbV.size)
    exact ⟨cells6 ((hX.block _ l0).trans g0), cells2 ((hX.block _ l1).trans g1), hS.below hb, hS2.below hb, hb⟩
  obtain ⟨R, hR⟩ : ∃ R, fl + sl = R := ⟨_, rfl⟩
  have HR : Hid (Cn.rows ⟨sl, fl, dr, mf, ls, pg⟩ = R) := hR
  rw [hR] at KR0 hfs hf1
  have KR : Hid (∀ X, Below V.heap.size V X → Calls Tryd.prog 34 #[.agg #[.int .i64 (sl : Int), .int .i64 (fl : Int), .int .i64 (dr : Int), .int .i64 (mf : Int), .int .i64 (ls : Int), .int .i64 (pg : Int)]] X fun e w' => e = .returned (.int .i64 (R : Int)) ∧ Below V.heap.size V w') := fun X hX => by
    refine (KR0 X).mono ?_
    rintro e w' ⟨rfl, hb⟩
    exact ⟨rfl, hX.trans (hb.mono hX.size)⟩
  have HS : Hid (∀ X, Below V.heap.size V X → (X.cell? ⟨w.heap.size, 0, none⟩ = some (.int .i64 (sl : Int)) ∧ X.cell? ⟨w.heap.size, 1, none⟩ = some (.int .i64 (fl : Int)) ∧ X.cell? ⟨w.heap.size, 2, none⟩ = some (.int .i64 (dr : Int)) ∧ X.cell? ⟨w.heap.size, 3, none⟩ = some (.int .i64 (mf : Int)) ∧ X.cell? ⟨w.heap.size, 4, none⟩ = some (.int .i64 (ls : Int)) ∧ X.cell? ⟨w.heap.size, 5, none⟩ = some (.int .i64 (pg : Int))) ∧ (X.cell? ⟨w.heap.size + 1, 0, none⟩ = some (.slice a n k) ∧ X.cell? ⟨w.heap.size + 1, 1, none⟩ = some (.slice q m j))) := fun X hX => ⟨(HX.out X hX).1, (HX.out X hX).2.1⟩
  have XD : Below V.heap.size V V.drew := (Below.refl _ _).drew
  obtain ⟨Z, hZ⟩ : ∃ Z, poolB ⟨sl, fl, dr, mf, ls, pg⟩ O Q = Z := ⟨_, rfl⟩
  rw [hZ]
  have HZ : Hid (poolB ⟨sl, fl, dr, mf, ls, pg⟩ O Q = Z) := hZ
  have h1 : n = R := by omega
  clear hZ g0 g1 hbV hS hS2 KR0 hR l0 l1 h1'
  obtain rfl : n = R := h1
  have hne : ((n : Int) != (n : Int)) = false := by rw [bne_eq_false_iff_eq]
  have hgt : ¬ (n : Int) < (m : Int) := by omega
  go_enter Tryd.func21, Tryd.ntmps21
  go_wp2_with fail
  go_region_held_law (fun X => (X.cell? ⟨w.heap.size, 0, none⟩ = some (.int .i64 (sl : Int)) ∧ X.cell? ⟨w.heap.size, 1, none⟩ = some (.int .i64 (fl : Int)) ∧ X.cell? ⟨w.heap.size, 2, none⟩ = some (.int .i64 (dr : Int)) ∧ X.cell? ⟨w.heap.size, 3, none⟩ = some (.int .i64 (mf : Int)) ∧ X.cell? ⟨w.heap.size, 4, none⟩ = some (.int .i64 (ls : Int)) ∧ X.cell? ⟨w.heap.size, 5, none⟩ = some (.int .i64 (pg : Int))) ∧ (X.cell? ⟨w.heap.size + 1, 0, none⟩ = some (.slice a n k) ∧ X.cell? ⟨w.heap.size + 1, 1, none⟩ = some (.slice q m j))) (first | exact HS.out _ (by assumption) | go_keep) (first | (go_at_call 34; refine (KR.out _ (by assumption)).mono ?_; rintro e w5 ⟨rfl, hb5⟩))
  have hdm : decide (n < m) = false := decide_eq_false (by omega)
  simp only [hdm]
  clear XD hdm
  obtain ⟨-, ⟨u0, u1⟩, -, -, -⟩ := HX.out w5 hb5
  have HO5 : Hid (Below V.heap.size V w5) := hb5
  clear hb5
  go_wp2_with fail
  go_loopg [26] n (fun gk iv wr => ∃ i : Nat, i + gk = n ∧ iv = .int .i64 (i : Int) ∧ Hid (Below V.heap.size V wr) ∧ Hid (∀ o ∈ O.take i, ObF ⟨sl, fl, dr, mf, ls, pg⟩ o))
  case atStart => exact ⟨0, by omega, rfl, HO5.out, fun r hr => by simp at hr⟩
  case round =>
    obtain ⟨i, hik, rfl, hbr, hpre⟩ := hrel
    obtain ⟨e6, e7, s1, -, hbw⟩ := HX.out wr hbr.out
    by_cases hlt : i < n
    · have hltI : (i : Int) < (n : Int) := by omega
      obtain ⟨x, hx⟩ : ∃ x, O[i]? = some x := ⟨_, List.getElem?_eq_getElem (by omega)⟩
      obtain ⟨b, off, rfl, hbl, hcc⟩ := s1.row obC_len (by decide) hx
      obtain ⟨nm, tg, bk, ow⟩ := x
      have c0 : wr.cell? ⟨b, off + i * 4, none⟩ = some (.string nm) := hcc 0 _ rfl
      have c1 : wr.cell? ⟨b, off + i * 4 + 1, none⟩ = some (.string tg) := hcc 1 _ rfl
      have c2 : wr.cell? ⟨b, off + i * 4 + 2, none⟩ = some (.int .i64 bk) := hcc 2 _ rfl
      have c3 : wr.cell? ⟨b, off + i * 4 + 3, none⟩ = some (.int .i64 ow) := hcc 3 _ rfl
      obtain ⟨W, hW, hbW, gn⟩ := one_new wr #[.string nm, .string tg, .int .i64 bk, .int .i64 ow] 46
      have hbVW : Below V.heap.size V W := hbr.out.trans (hbW.mono hbr.out.size)
      obtain ⟨⟨f0, f1, f2, f3, f4, f5⟩, -, -, -, hbwW⟩ := HX.out W hbVW
      obtain ⟨m0, m1, m2, m3⟩ := cells4 gn
      have KN := isNamed_any nm tg
      have K1 := isFrom_any bk 0 1048576
      have K2 := isFrom_any ow (-1) ((fl : Int) - 1)
      have hob := obF_iff sl fl dr mf ls pg nm tg bk ow
      have HBW : Hid (Below V.heap.size V W) := hbVW
      have HBw : Hid (Below w.heap.size w W) := hbwW
      have HF : Hid (decide (ObF ⟨sl, fl, dr, mf, ls, pg⟩ ⟨nm, tg, bk, ow⟩) = false → Z = false) := fun h => by
        rw [← HZ.out]
        apply Bool.eq_false_iff.2
        intro hq
        have := (pool_iff.1 hq).2.1 _ (List.mem_of_getElem? hx)
        rw [decide_eq_true this] at h
        cases h
      have HT : Hid (decide (ObF ⟨sl, fl, dr, mf, ls, pg⟩ ⟨nm, tg, bk, ow⟩) = true → ∀ o ∈ O.take (i + 1), ObF ⟨sl, fl, dr, mf, ls, pg⟩ o) := fun h o ho => by
        rw [List.take_add_one, hx] at ho
        rcases List.mem_append.1 ho with ho | ho
        · exact hpre.out o ho
        · simp at ho
          rw [ho]
          exact of_decide_eq_true h
      rw [hob] at HF HT
      clear hcc hx s1 hbw gn hbW hbVW hbwW hob hpre e6 e7
      generalize hB1 : decide (nm.size = 16 ∧ tg.size = 16) = B1 at *
      generalize hB2 : decide (0 ≤ bk ∧ bk ≤ 1048576) = B2 at *
      generalize hB3 : decide (-1 ≤ ow ∧ ow ≤ (fl : Int) - 1) = B3 at *
      clear hB1 hB2 hB3
      cases B1 with
      | false =>
        obtain rfl := HF.out rfl
        clear HF HT
        go_wp2_with fail
        refine (KN _).mono ?_
        rintro e w1 ⟨rfl, rfl⟩
        go_wp2
        go_ret
        exact ⟨rfl, HBw.out⟩
      | true =>
        cases B2 with
        | false =>
          obtain rfl := HF.out rfl
          clear HF HT
          go_wp2_with fail
          refine (KN _).mono ?_
          rintro e w1 ⟨rfl, rfl⟩
          go_wp2_with fail
          refine (K1 _).mono ?_
          rintro e w1 ⟨rfl, rfl⟩
          go_wp2
          go_ret
          exact ⟨rfl, HBw.out⟩
        | true =>
          cases B3 with
          | false =>
            obtain rfl := HF.out rfl
            clear HF HT
            go_wp2_with fail
            refine (KN _).mono ?_
            rintro e w1 ⟨rfl, rfl⟩
            go_wp2_with fail
            refine (K1 _).mono ?_
            rintro e w1 ⟨rfl, rfl⟩
            go_wp2_with fail
            refine (K2 _).mono ?_
            rintro e w1 ⟨rfl, rfl⟩
            go_wp2
            go_ret
            exact ⟨rfl, HBw.out⟩
          | true =>
            have HP : Hid _ := HT.out rfl
            clear HF HT
            go_wp2_with fail
            refine (KN _).mono ?_
            rintro e w1 ⟨rfl, rfl⟩
            go_wp2_with fail
            refine (K1 _).mono ?_
            rintro e w1 ⟨rfl, rfl⟩
            go_wp2_with fail
            refine (K2 _).mono ?_
            rintro e w1 ⟨rfl, rfl⟩
            go_wp2
            go_roundg (gk - 1)
            case measure => omega
            case rel => exact ⟨i + 1, by omega, rfl, HBW, HP⟩
    · obtain rfl : i = n := by omega
      have hltI : ¬ (i : Int) < (i : Int) := by omega
      have HALL : Hid (∀ o ∈ O, ObF ⟨sl, fl, dr, mf, ls, pg⟩ o) := fun o ho => hpre.out o (by rw [List.take_of_length_le (by omega)]; exact ho)
      obtain ⟨v0, v1⟩ := e7
      have HBR : Hid (Below V.heap.size V wr) := hbr.out
      clear hpre s1 hbw e6 hbr
      go_wp2_with fail
      go_loopg [55] m (fun gk iv wr => ∃ i : Nat, i + gk = m ∧ iv = .int .i64 (i : Int) ∧ Hid (Below V.heap.size V wr) ∧ Hid (∀ z ∈ Q.take i, 0 ≤ z ∧ z < (Cn.rows ⟨sl, fl, dr, mf, ls, pg⟩ : Int)))
      case atStart => exact ⟨0, by omega, rfl, HBR.out, fun r hr => by simp at hr⟩
      case round =>
        obtain ⟨i2, hik2, rfl, hbr2, hpre2⟩ := hrel
        obtain ⟨⟨f0, f1, f2, f3, f4, f5⟩, -, -, s2, hbw2⟩ := HX.out wr hbr2.out
        by_cases hlt2 : i2 < m
        · have hltJ : (i2 : Int) < (m : Int) := by omega
          obtain ⟨z, hz⟩ : ∃ z, Q[i2]? = some z := ⟨_, List.getElem?_eq_getElem (by omega)⟩
          obtain ⟨b, off, rfl, hbl, hcz⟩ := s2.z hz
          have K1 := isFrom_any z 0 ((i : Int) - 1)
          have HF : Hid (decide (0 ≤ z ∧ z ≤ (i : Int) - 1) = false → Z = false) := fun h => by
            rw [← HZ.out]
            apply Bool.eq_false_iff.2
            intro hq
            have := (pool_iff.1 hq).2.2 _ (List.mem_of_getElem? hz)
            rw [HR.out] at this
            rw [decide_eq_true (by omega)] at h
            cases h
          have HT : Hid (decide (0 ≤ z ∧ z ≤ (i : Int) - 1) = true → ∀ z ∈ Q.take (i2 + 1), 0 ≤ z ∧ z < (Cn.rows ⟨sl, fl, dr, mf, ls, pg⟩ : Int)) := fun h y hy => by
            rw [List.take_add_one, hz] at hy
            rcases List.mem_append.1 hy with hy | hy
            · exact hpre2.out y hy
            · simp at hy
              have := of_decide_eq_true h
              rw [HR.out, hy]
              omega
          have KRw := KR.out wr hbr2.out
          clear hz s2 hbw2 hpre2
          cases hB : decide (0 ≤ z ∧ z ≤ (i : Int) - 1) with
          | false =>
            rw [hB] at K1
            obtain rfl := HF.out hB
            clear HF HT hB
            go_wp2_with fail
            refine KRw.mono ?_
            rintro e w1 ⟨rfl, hb1⟩
            have HB1 : Hid _ := (HX.out w1 hb1).2.2.2.2
            clear hb1 KRw
            go_wp2_with fail
            refine (K1 _).mono ?_
            rintro e w2 ⟨rfl, rfl⟩
            go_wp2
            go_ret
            exact ⟨rfl, HB1.out⟩
          | true =>
            rw [hB] at K1
            have HP : Hid _ := HT.out hB
            clear HF HT hB
            go_wp2_with fail
            refine KRw.mono ?_
            rintro e w1 ⟨rfl, hb1⟩
            have HB1 : Hid (Below V.heap.size V w1) := hb1
            clear hb1 KRw
            go_wp2_with fail
            refine (K1 _).mono ?_
            rintro e w2 ⟨rfl, rfl⟩
            go_wp2
            go_roundg (gk - 1)
            case measure => omega
            case rel => exact ⟨i2 + 1, by omega, rfl, HB1, HP⟩
        · obtain rfl : i2 = m := by omega
          have hltJ : ¬ (i2 : Int) < (i2 : Int) := by omega
          obtain rfl : Z = true := by
            rw [← HZ.out]
            refine pool_iff.2 ⟨⟨by rw [HR.out, hn], by rw [HR.out, hm]; exact h2⟩, HALL.out, fun z hz => hpre2.out z (by rw [List.take_of_length_le (by omega)]; exact hz)⟩
          have HB1 : Hid _ := hbw2
          clear hpre2 s2 hbw2 HZ HALL
          go_wp2
          go_ret
          exact ⟨rfl, HB1.out⟩
end Go.Proofs.YtbdgbefjmfcgcaaDoor.Ix
