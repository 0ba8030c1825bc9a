import Derived.Test.YtlmopjbfagijeaaGreatDoorZcM
import Derived.Test.YtlmopjbfagijeaaGreatDoorYjM
import Derived.Test.YtlmopjbfagijeaaGreatDoorSqJ
namespace Go.Proofs.YtlmopjbfagijeaaGreatDoor.Sc
open Go.RowKit Go.Lib Go.Deep

theorem len6 {α : Type} {T : List α} (h : T.length = 6) : ∃ a b c d e f, T = [a, b, c, d, e, f] := by
  match T, h with
  | [a, b, c, d, e, f], _ => exact ⟨a, b, c, d, e, f, rfl⟩
/-- what the function that reads a form's words leaves of an act -/
noncomputable def rdAc (f : FuncId) (o : ActR) (T : List ByteArray) : ActR × Bool :=
  if f = 55 then (match T with | [] => (o, false) | _ => (o, true))
  else if f = 58 then (match T with | [x] => ({ o with i := rN x }, (false || bN x)) | _ => (o, true))
  else (match T with | [a, b, c, d, e, f] => ({ o with before := rN a, ek := rN b, put := rN c, frm := rN d, name := rB e, blob := rB f }, ((((((false || bN a) || bN b) || bN c) || bN d) || bB e) || bB f)) | _ => (o, true))
theorem rda_any (f : Fm) (hf : f ∈ actTab) (T : List ByteArray) (hT : (T.length : Int) + 1 = f.count) (hs : ∀ x ∈ T, x.size ≤ 8388608) (o : ActR) (B g ob : Nat) (hne : ob ≠ g) (hgB : B ≤ g) (_ : B ≤ ob) (w : World) (h : Wd g T false w) (ho : ActAt w ob o) (hG : GlB B w) :
    Calls Tryz.prog f.rd #[.pointer (some ⟨g, 0, none⟩), .pointer (some ⟨ob, 0, none⟩)] w fun e w' => e = .returned (.tuple #[]) ∧ RdA g ob [] (rdAc f.rd o T).2 (rdAc f.rd o T).1 w w' := by
  unfold actTab at hf
  simp only [List.mem_cons, List.not_mem_nil, or_false] at hf
  rcases hf with rfl | rfl | rfl | rfl | rfl | rfl
  all_goals dsimp only at hT ⊢
  all_goals first
    | (obtain rfl : T = [] := List.length_eq_zero_iff.1 (by omega)
       exact readAlone_any g ob [] false o w h ho)
    | (obtain ⟨x, rfl⟩ := len1 (T := T) (by omega)
       exact readFuse_any B g ob x [] false o (hs x (by simp)) hne hgB w h ho hG)
    | (obtain ⟨a, b, c, d, e, f, rfl⟩ := len6 (T := T) (by omega)
       exact readEdit_any B g ob a b c d e f [] false o (hs a (by simp)) (hs b (by simp)) (hs c (by simp)) (hs d (by simp)) (hs e (by simp)) (hs f (by simp)) hne hgB w h ho hG)
theorem cf_rda (f : Fm) (hf : f ∈ actTab) (args : Array Value) (w : World) : (callFunc f.rd args).run Tryz.prog w = .ok (.enter f.rd args) w := by
  unfold actTab at hf
  simp only [List.mem_cons, List.not_mem_nil, or_false] at hf
  rcases hf with rfl | rfl | rfl | rfl | rfl | rfl
  all_goals kernel_rfl
theorem sizeAc9 : (Tryz.prog.info? 36).map (·.size) = some 9 := by kernel_rfl
def zA : ActR := ⟨0, none, 0, 0, 0, 0, 0, 0, 0, nil_, nil_⟩
noncomputable def toldAF (r : List ByteArray) : Option Fm → Value
  | none => .tuple #[.int .i64 0, zA.val, .int .i64 222]
  | some f => if (r.length : Int) + 1 ≠ f.count then .tuple #[.int .i64 0, zA.val, .int .i64 223]
      else if (rdAc f.rd zA r).2 = true then .tuple #[.int .i64 0, zA.val, .int .i64 224]
      else .tuple #[.int .i64 f.kind, (rdAc f.rd zA r).1.val, .int .i64 0]
/-- what told answers -/
noncomputable def toldAV : List ByteArray → Value
  | [] => undef
  | x :: r => toldAF r (fmOf actTab x)
theorem toldAV_some {x : ByteArray} {r : List ByteArray} {f : Fm} (h : fmOf actTab x = some f) : toldAV (x :: r) = if (r.length : Int) + 1 ≠ f.count then .tuple #[.int .i64 0, zA.val, .int .i64 223]
      else if (rdAc f.rd zA r).2 = true then .tuple #[.int .i64 0, zA.val, .int .i64 224]
      else .tuple #[.int .i64 f.kind, (rdAc f.rd zA r).1.val, .int .i64 0] := by
  show toldAF r (fmOf actTab x) = _
  rw [h]
  rfl
theorem toldAV_none {x : ByteArray} {r : List ByteArray} (h : fmOf actTab x = none) : toldAV (x :: r) = .tuple #[.int .i64 0, zA.val, .int .i64 222] := by
  show toldAF r (fmOf actTab x) = _
  rw [h]
  rfl
set_option maxRecDepth 20000 in
set_option maxHeartbeats 1000000 in
theorem toldA_any (B : Nat) (x : ByteArray) (r : List ByteArray) (hs : ∀ y ∈ x :: r, y.size ≤ 8388608) (b off c fg : Nat) (hc : (x :: r).length ≤ c) (hlen : (x :: r).length ≤ 8388608) (w : World) (hcs : ∀ (i : Nat) s, (x :: r)[i]? = some s → w.cell? ⟨b, off + i, none⟩ = some (.string s)) (hbt : ∃ cs, w.heap[b]? = some (.cells cs 9 (0, 0)))
    (hg : w.heap[fg]? = some (.cells (tabC actTab) 110 (0, 0))) (hG : GlB B w) :
    Calls Tryz.prog 140 #[.slice (some ⟨fg, 0, none⟩) 6 6, .slice (some ⟨b, off, none⟩) (x :: r).length c] w fun e w' => e = .returned (toldAV (x :: r)) ∧ Below w.heap.size w w' := by
  obtain ⟨m, hm⟩ : ∃ m, (x :: r).length = m := ⟨_, rfl⟩
  rw [hm] at hc hlen ⊢
  obtain ⟨W, hW⟩ : ∃ W, (((w.alloc (.cells #[.slice (some ⟨b, off, none⟩) m c] 96)).alloc (.cells #[.int .i64 0, .slice none 0 0, .int .i64 0, .int .i64 0, .int .i64 0, .int .i64 0, .int .i64 0, .string { data := #[] }, .string { data := #[] }] 36)).alloc (.cells #[.int .i64 0, .slice none 0 0, .int .i64 0, .int .i64 0, .int .i64 0, .int .i64 0, .int .i64 0, .string { data := #[] }, .string { data := #[] }] 36)).alloc (.cells #[.int .i64 0, .slice none 0 0, .int .i64 0, .int .i64 0, .int .i64 0, .int .i64 0, .int .i64 0, .string { data := #[] }, .string { data := #[] }] 36) = W := ⟨_, rfl⟩
  have hbW : Below w.heap.size w W := by
    rw [← hW]
    exact ((((Below.refl w.heap.size w).alloc (Nat.le_refl _) _).alloc (by simp) _).alloc (by simp <;> omega) _).alloc (by simp <;> omega) _
  have hq0 : W.heap[w.heap.size]? = some (.cells #[.slice (some ⟨b, off, none⟩) m c] 96 (0, 0)) := by
    rw [← hW]
    exact (Lib.alloc_old _ _ _ (by simp <;> omega)).trans ((Lib.alloc_old _ _ _ (by simp <;> omega)).trans ((Lib.alloc_old _ _ _ (by simp)).trans (heap_alloc_new _ _)))
  have hq1 : ActAt W (w.heap.size + 1) zA := by
    show W.heap[_]? = _
    rw [← hW]
    refine (Lib.alloc_old _ _ _ (by simp <;> omega)).trans ((Lib.alloc_old _ _ _ (by simp)).trans ?_)
    have h := heap_alloc_new (w.alloc (.cells #[.slice (some ⟨b, off, none⟩) m c] 96)) (.cells zA.cells 36)
    rw [show (w.alloc (.cells #[.slice (some ⟨b, off, none⟩) m c] 96)).heap.size = w.heap.size + 1 by simp] at h
    exact h
  have hq2 : ActAt W (w.heap.size + 1 + 1) zA := by
    show W.heap[_]? = _
    rw [← hW]
    refine (Lib.alloc_old _ _ _ (by simp)).trans ?_
    have h := heap_alloc_new ((w.alloc (.cells #[.slice (some ⟨b, off, none⟩) m c] 96)).alloc (.cells zA.cells 36)) (.cells zA.cells 36)
    rw [show ((w.alloc (.cells #[.slice (some ⟨b, off, none⟩) m c] 96)).alloc (.cells zA.cells 36)).heap.size = w.heap.size + 1 + 1 by simp] at h
    exact h
  have hq3 : ActAt W (w.heap.size + 1 + 1 + 1) zA := by
    show W.heap[_]? = _
    rw [← hW]
    have h := heap_alloc_new (((w.alloc (.cells #[.slice (some ⟨b, off, none⟩) m c] 96)).alloc (.cells zA.cells 36)).alloc (.cells zA.cells 36)) (.cells zA.cells 36)
    rw [show (((w.alloc (.cells #[.slice (some ⟨b, off, none⟩) m c] 96)).alloc (.cells zA.cells 36)).alloc (.cells zA.cells 36)).heap.size = w.heap.size + 1 + 1 + 1 by simp] at h
    exact h
  have hm1 : 0 < m := by rw [← hm]; simp
  have HB : Hid (Below w.heap.size w W ∧ W.heap.size = w.heap.size + 1 + 1 + 1 + 1) := ⟨hbW, by rw [← hW]; simp⟩
  have HQ : Hid (ActAt W (w.heap.size + 1) zA ∧ ActAt W (w.heap.size + 1 + 1) zA ∧ ActAt W (w.heap.size + 1 + 1 + 1) zA) := ⟨hq1, hq2, hq3⟩
  have HL : Hid (W.heap[w.heap.size]? = some (.cells #[.slice (some ⟨b, off, none⟩) m c] 96 (0, 0))) := hq0
  have hgW := (hbW.block _ (heap_lt hg)).trans hg
  have hx0 : W.cell? ⟨b, off, none⟩ = some (.string x) := by
    have h := hcs 0 x rfl
    exact (hbW.cell (p := ⟨b, off, none⟩) (block_lt_of_cell h)).trans h
  have hix := indexWordA_any actTab 6 rfl (by decide) x w.heap.size b off m c fg hm1 W (by rw [Lib.cell_of_heap hq0]; rfl) hx0 hgW
  have HG : Hid (GlB B w) := hG
  have HSZ : Hid (∀ y ∈ r, y.size ≤ 8388608) := fun y hy => hs y (List.mem_cons_of_mem _ hy)
  have HCS : Hid (∀ (i : Nat) s, (x :: r)[i]? = some s → w.cell? ⟨b, off + i, none⟩ = some (.string s)) := hcs
  have HBT : Hid (∃ cs, w.heap[b]? = some (.cells cs 9 (0, 0))) := hbt
  have HFG : Hid (W.heap[fg]? = some (.cells (tabC actTab) 110 (0, 0))) := hgW
  have HM : Hid ((x :: r).length = m ∧ r.length = m - 1) := ⟨hm, by rw [← hm]; simp⟩
  clear hq0 hq1 hq2 hq3 hbW hcs hbt hg hG hs hm hx0 hgW
  go_enter Tryz.func140, Tryz.ntmps140
  go_wp2_with fail
  clear hW
  refine hix.mono ?_
  rintro e w1 ⟨hidx, hb1⟩
  clear hix
  rcases hidx with ⟨i, f, hf, hfk, hfirst, rfl⟩ | ⟨hno, rfl⟩
  · have hmem : f ∈ actTab := List.mem_of_getElem? hf
    have HFM : Hid (f ∈ actTab ∧ fmOf actTab x = some f) := ⟨hmem, fmOf_hit actTab x i f hf hfk hfirst⟩
    have hi6 : i < 6 := (List.getElem?_eq_some_iff.1 hf).1
    have hiI : (i : Int) < 6 := by omega
    have hiN : ¬ (i : Int) < 0 := by omega
    have hfg1 := (hb1.block _ (heap_lt HFG.out)).trans HFG.out
    obtain ⟨c0, c1, c2, c3, c4⟩ := tab_cell hfg1 hf
    have l0 : w1.cell? ⟨w.heap.size, 0, none⟩ = some (.slice (some ⟨b, off, none⟩) m c) := by rw [Lib.cell_of_heap ((hb1.block _ (heap_lt HL.out)).trans HL.out)]; rfl
    have HB1 : Hid (Below w.heap.size w w1 ∧ Below W.heap.size W w1) := ⟨HB.out.1.trans (hb1.mono HB.out.1.size), hb1⟩
    have HIF : Hid (actTab[i]? = some f) := hf
    clear hf hfk hfirst hb1 hmem
    by_cases hct : (m : Int) = f.count
    · have hctI : ((m : Int) != f.count) = false := by simp [hct]
      have hmI1 : (1 : Int) ≤ (m : Int) := by omega
      have hmc : (m : Int) ≤ (c : Int) := by omega
      go_wp2_with fail
      go_quiet (fail)
      have m0 : (w1.drewN nq).cell? ⟨w.heap.size, 0, none⟩ = some (.slice (some ⟨b, off, none⟩) m c) := l0
      have HWD : Hid (∀ (nq : Nat) (a : Option Addr) (c' : Nat), (r ≠ [] → a = some ⟨b, off + 1, none⟩) → m - 1 ≤ c' → Wd w1.heap.size r false ((w1.drewN nq).alloc (.cells #[.slice a (m - 1) c', .bool false] 206))) := fun nq a c' ha hc' => by
        have hnew := heap_alloc_new (w1.drewN nq) (.cells #[.slice a (m - 1) c', .bool false] 206)
        refine ⟨a, c', by rw [HM.out.2]; exact hnew, by rw [HM.out.2]; exact hc', fun hne => ?_⟩
        obtain ⟨cs, hty⟩ := HBT.out
        have hbl := heap_lt hty
        have hbW : Below w.heap.size w ((w1.drewN nq).alloc (.cells #[.slice a (m - 1) c', .bool false] 206)) := Below.alloc (w := w1.drewN nq) ⟨HB1.out.1.os, HB1.out.1.tape, HB1.out.1.output, HB1.out.1.size, HB1.out.1.block⟩ HB1.out.1.size _
        refine ⟨b, off + 1, ha hne, by have := HB1.out.1.size; omega, Nat.lt_of_lt_of_le hbl hbW.size, ⟨cs, (hbW.block _ hbl).trans hty⟩, fun i s hs => ?_⟩
        have h := HCS.out (i + 1) s hs
        rw [show off + 1 + i = off + (i + 1) by omega]
        exact (hbW.cell (p := ⟨b, off + (i + 1), none⟩) hbl).trans h
      by_cases hc1 : c = 1
      · have hw2 : Wd w1.heap.size r false ((w1.drewN nq).alloc (.cells #[.slice (some ⟨b, off, none⟩) 0 0, .bool false] 206)) := by
          have h := HWD.out nq (some ⟨b, off, none⟩) 0 (fun hne => by have h1 := HM.out.2; have := List.length_pos_iff.2 hne; omega) (by omega)
          rw [show m - 1 = 0 by omega] at h
          exact h
        obtain ⟨W2, hW2⟩ : ∃ W2, (w1.drewN nq).alloc (.cells #[.slice (some ⟨b, off, none⟩) 0 0, .bool false] 206) = W2 := ⟨_, rfl⟩
        have hbW2 : Below w1.heap.size w1 W2 := by
          rw [← hW2]
          have h0 : Below w1.heap.size w1 (w1.drewN nq) := ⟨rfl, rfl, rfl, Nat.le_refl _, fun _ _ => rfl⟩
          exact h0.alloc (Nat.le_refl _) _
        rw [hW2] at hw2
        have HW2 : Hid (Unit → _ = W2) := fun _ => hW2
        clear hW2
        subst hc1
        go_upto_region 8 with fail
        rw [HW2.out ()]
        clear HW2
        have HBW2 : Hid (Below w1.heap.size w1 W2) := hbW2
        obtain ⟨c0, c1, c2, c3, c4⟩ := tab_cell ((hbW2.block _ (heap_lt hfg1)).trans hfg1) HIF.out
        have hob : w.heap.size + 1 + 1 ≠ w1.heap.size := by have := HB.out.2; have := HB1.out.2.size; omega
        have hrd := rda_any f HFM.out.1 r (by rw [HM.out.2]; omega) HSZ.out zA w.heap.size w1.heap.size (w.heap.size + 1 + 1) hob HB1.out.1.size (by omega) W2 hw2 ((HQ.out.2.1.below HB1.out.2 HQ.out.2.1.lt).below hbW2 (by have := HB.out.2; have := HB1.out.2.size; omega)) (HG.out.up.to (HB1.out.1.trans (hbW2.mono HB1.out.1.size)))
        have hcf := cf_rda f HFM.out.1
        obtain ⟨o', ho'⟩ : ∃ o', (rdAc f.rd zA r).1 = o' := ⟨_, rfl⟩
        obtain ⟨bd, hbd⟩ : ∃ bd, (rdAc f.rd zA r).2 = bd := ⟨_, rfl⟩
        rw [ho', hbd] at hrd
        have HRD : Hid ((rdAc f.rd zA r).1 = o' ∧ (rdAc f.rd zA r).2 = bd) := ⟨ho', hbd⟩
        have HNE : Hid (¬ ((r.length : Int) + 1 ≠ f.count)) := fun h => h (by rw [HM.out.2]; omega)
        obtain ⟨fr, hfr⟩ : ∃ fr, f.rd = fr := ⟨_, rfl⟩
        rw [hfr] at hrd hcf c4
        clear ho' hbd hw2 hbW2 hfr
        go_wp2_with fail
        refine hrd.mono ?_
        rintro e w3 ⟨rfl, hR⟩
        clear hrd hcf c0 c1 c2 c3 c4
        have HK : Hid (∀ k, k < w1.heap.size → k ≠ w.heap.size + 1 + 1 → w3.heap[k]? = w1.heap[k]?) := fun k hk hne => (hR.only.block k (Nat.lt_of_lt_of_le hk HBW2.out.size) (by simp; omega)).trans (HBW2.out.block k hk)
        have HB3 : Hid (Below w.heap.size w w3) := HB1.out.1.trans ((HBW2.out.mono HB1.out.1.size).trans (hR.only.below (Nat.le_trans HB1.out.1.size HBW2.out.size) (by simp; exact ⟨HB1.out.1.size, by omega⟩)))
        have hv3 : ActAt w3 (w.heap.size + 1 + 1) o' := hR.op
        have hwc := wcode_any w1.heap.size [] bd w3 hR.wd
        have hr3 : w3.heap[w.heap.size + 1]? = some (.cells zA.cells 36 (0, 0)) := (HK.out _ (Nat.lt_of_lt_of_le HQ.out.1.lt HB1.out.2.size) (by omega)).trans (HQ.out.1.below HB1.out.2 HQ.out.1.lt)
        have hn3 : w3.heap[w.heap.size + 1 + 1 + 1]? = some (.cells zA.cells 36 (0, 0)) := (HK.out _ (Nat.lt_of_lt_of_le HQ.out.2.2.lt HB1.out.2.size) (by omega)).trans (HQ.out.2.2.below HB1.out.2 HQ.out.2.2.lt)
        have hfg3 : w3.heap[fg]? = some (.cells (tabC actTab) 110 (0, 0)) := (HK.out _ (heap_lt hfg1) (by
          intro e
          subst e
          have h0 : W.heap[_]? = _ := HQ.out.2.1
          rw [HFG.out] at h0
          injection h0 with h0
          injection h0 with _ q _
          revert q
          decide)).trans hfg1
        have HV : Hid (w3.heap[w.heap.size + 1 + 1]? = some (.cells o'.cells 36 (0, 0))) := hv3
        have HR : Hid (w3.heap[w.heap.size + 1]? = some (.cells zA.cells 36 (0, 0))) := hr3
        have HN : Hid (w3.heap[w.heap.size + 1 + 1 + 1]? = some (.cells zA.cells 36 (0, 0))) := hn3
        clear hv3 hr3 hn3 hR
        cases bd with
        | true =>
          have HF : Hid (toldAV (x :: r) = .tuple #[.int .i64 0, zA.val, .int .i64 224]) := by
            show _ = _
            rw [toldAV_some HFM.out.2, if_neg HNE.out, HRD.out.2, if_pos rfl]
          clear hfg3 hfg1 l0 m0
          go_wp2_with fail
          refine hwc.mono ?_
          rintro e w4 ⟨rfl, rfl⟩
          clear hwc
          have HBU : Hid (Below w.heap.size w w4) := HB3.out
          have hsrc : ActAt w4 (w.heap.size + 1 + 1 + 1) zA := HN.out
          have hres : ActAt w4 (w.heap.size + 1) zA := HR.out
          clear HV HR HN
          obtain ⟨x0, x1, x2, x3, x4, x5, x6, x7, x8⟩ := hsrc.drew.nine
          obtain ⟨y0, y1, y2, y3, y4, y5, y6, y7, y8⟩ := hsrc.nine
          obtain ⟨r0, r1, r2, r3, r4, r5, r6, r7, r8⟩ := hres.drew.nine
          have rf := hres.drew.frozen
          obtain ⟨s0, s1, s2, s3, s4, s5, s6, s7, s8⟩ := hres.nine
          have sf := hres.frozen
          have hF : ActAt (nineS w4 (w.heap.size + 1) zA).drew (w.heap.size + 1) zA := (hres.putAll zA).drew
          have hBF : Below w.heap.size w (nineS w4 (w.heap.size + 1) zA).drew := Below.drew (below_nine HBU.out (by omega))
          obtain ⟨V9, hV9⟩ : ∃ V9, (nineS w4 (w.heap.size + 1) zA).drew = V9 := ⟨_, rfl⟩
          rw [hV9] at hF hBF
          have HFO : Hid (V9.heap[w.heap.size + 1]? = some (.cells (ActR.cells zA) 36 (0, 0))) := hF
          have HBF : Hid (Below w.heap.size w V9) := hBF
          have HV9 : Hid (Unit → (nineS w4 (w.heap.size + 1) zA).drew = V9) := fun _ => hV9
          clear hsrc hres hF hBF hV9
          unfold nineS at HV9
          go_wp2_with fail
          go_region
          all_goals
            rw [HV9.out ()]
            clear HV9 x0 x1 x2 x3 x4 x5 x6 x7 x8 y0 y1 y2 y3 y4 y5 y6 y7 y8 r0 r1 r2 r3 r4 r5 r6 r7 r8 rf s0 s1 s2 s3 s4 s5 s6 s7 s8 sf
            go_wp2
            refine bodyPost_ret (results_tct rfl _ _ (w.heap.size + 1) 36 _ (0, 0) _ rfl HFO.out Tryz.underlying36 rfl sizeAc9) rfl ?_
            rw [HF.out]
            exact ⟨rfl, HBF.out⟩
        | false =>
          have HF : Hid (toldAV (x :: r) = .tuple #[.int .i64 f.kind, o'.val, .int .i64 0]) := by
            show _ = _
            rw [toldAV_some HFM.out.2, if_neg HNE.out, HRD.out.2, if_neg (by decide), HRD.out.1]
          obtain ⟨c0, c1, c2, c3, c4⟩ := tab_cell hfg3 HIF.out
          clear hfg3 hfg1 l0 m0
          go_wp2_with fail
          refine hwc.mono ?_
          rintro e w4 ⟨rfl, rfl⟩
          clear hwc
          have HBU : Hid (Below w.heap.size w w4) := HB3.out
          have hsrc : ActAt w4 (w.heap.size + 1 + 1) o' := HV.out
          have hres : ActAt w4 (w.heap.size + 1) zA := HR.out
          have d0 : w4.drew.cell? ⟨fg, i * 5, none⟩ = some (.int .i64 f.kind) := c0
          clear HV HR HN c1 c2 c3 c4
          obtain ⟨x0, x1, x2, x3, x4, x5, x6, x7, x8⟩ := hsrc.drew.nine
          obtain ⟨y0, y1, y2, y3, y4, y5, y6, y7, y8⟩ := hsrc.nine
          obtain ⟨r0, r1, r2, r3, r4, r5, r6, r7, r8⟩ := hres.drew.nine
          have rf := hres.drew.frozen
          obtain ⟨s0, s1, s2, s3, s4, s5, s6, s7, s8⟩ := hres.nine
          have sf := hres.frozen
          have hF : ActAt (nineS w4 (w.heap.size + 1) o').drew (w.heap.size + 1) o' := (hres.putAll o').drew
          have hBF : Below w.heap.size w (nineS w4 (w.heap.size + 1) o').drew := Below.drew (below_nine HBU.out (by omega))
          obtain ⟨V9, hV9⟩ : ∃ V9, (nineS w4 (w.heap.size + 1) o').drew = V9 := ⟨_, rfl⟩
          rw [hV9] at hF hBF
          have HFO : Hid (V9.heap[w.heap.size + 1]? = some (.cells (ActR.cells o') 36 (0, 0))) := hF
          have HBF : Hid (Below w.heap.size w V9) := hBF
          have HV9 : Hid (Unit → (nineS w4 (w.heap.size + 1) o').drew = V9) := fun _ => hV9
          clear hsrc hres hF hBF hV9
          unfold nineS at HV9
          go_wp2_with fail
          go_region
          all_goals
            rw [HV9.out ()]
            clear HV9 x0 x1 x2 x3 x4 x5 x6 x7 x8 y0 y1 y2 y3 y4 y5 y6 y7 y8 r0 r1 r2 r3 r4 r5 r6 r7 r8 rf s0 s1 s2 s3 s4 s5 s6 s7 s8 sf
            go_wp2
            refine bodyPost_ret (results_tct rfl _ _ (w.heap.size + 1) 36 _ (0, 0) _ rfl HFO.out Tryz.underlying36 rfl sizeAc9) rfl ?_
            rw [HF.out]
            exact ⟨rfl, HBF.out⟩
      · have hw2 : Wd w1.heap.size r false ((w1.drewN nq).alloc (.cells #[.slice (some ⟨b, off + 1, none⟩) (m - 1) (c - 1), .bool false] 206)) := HWD.out nq (some ⟨b, off + 1, none⟩) (c - 1) (fun _ => rfl) (by omega)
        obtain ⟨W2, hW2⟩ : ∃ W2, (w1.drewN nq).alloc (.cells #[.slice (some ⟨b, off + 1, none⟩) (m - 1) (c - 1), .bool false] 206) = W2 := ⟨_, rfl⟩
        have hbW2 : Below w1.heap.size w1 W2 := by
          rw [← hW2]
          have h0 : Below w1.heap.size w1 (w1.drewN nq) := ⟨rfl, rfl, rfl, Nat.le_refl _, fun _ _ => rfl⟩
          exact h0.alloc (Nat.le_refl _) _
        rw [hW2] at hw2
        have HW2 : Hid (Unit → _ = W2) := fun _ => hW2
        clear hW2
        go_upto_region 8 with fail
        rw [HW2.out ()]
        clear HW2
        have HBW2 : Hid (Below w1.heap.size w1 W2) := hbW2
        obtain ⟨c0, c1, c2, c3, c4⟩ := tab_cell ((hbW2.block _ (heap_lt hfg1)).trans hfg1) HIF.out
        have hob : w.heap.size + 1 + 1 ≠ w1.heap.size := by have := HB.out.2; have := HB1.out.2.size; omega
        have hrd := rda_any f HFM.out.1 r (by rw [HM.out.2]; omega) HSZ.out zA w.heap.size w1.heap.size (w.heap.size + 1 + 1) hob HB1.out.1.size (by omega) W2 hw2 ((HQ.out.2.1.below HB1.out.2 HQ.out.2.1.lt).below hbW2 (by have := HB.out.2; have := HB1.out.2.size; omega)) (HG.out.up.to (HB1.out.1.trans (hbW2.mono HB1.out.1.size)))
        have hcf := cf_rda f HFM.out.1
        obtain ⟨o', ho'⟩ : ∃ o', (rdAc f.rd zA r).1 = o' := ⟨_, rfl⟩
        obtain ⟨bd, hbd⟩ : ∃ bd, (rdAc f.rd zA r).2 = bd := ⟨_, rfl⟩
        rw [ho', hbd] at hrd
        have HRD : Hid ((rdAc f.rd zA r).1 = o' ∧ (rdAc f.rd zA r).2 = bd) := ⟨ho', hbd⟩
        have HNE : Hid (¬ ((r.length : Int) + 1 ≠ f.count)) := fun h => h (by rw [HM.out.2]; omega)
        obtain ⟨fr, hfr⟩ : ∃ fr, f.rd = fr := ⟨_, rfl⟩
        rw [hfr] at hrd hcf c4
        clear ho' hbd hw2 hbW2 hfr
        go_wp2_with fail
        refine hrd.mono ?_
        rintro e w3 ⟨rfl, hR⟩
        clear hrd hcf c0 c1 c2 c3 c4
        have HK : Hid (∀ k, k < w1.heap.size → k ≠ w.heap.size + 1 + 1 → w3.heap[k]? = w1.heap[k]?) := fun k hk hne => (hR.only.block k (Nat.lt_of_lt_of_le hk HBW2.out.size) (by simp; omega)).trans (HBW2.out.block k hk)
        have HB3 : Hid (Below w.heap.size w w3) := HB1.out.1.trans ((HBW2.out.mono HB1.out.1.size).trans (hR.only.below (Nat.le_trans HB1.out.1.size HBW2.out.size) (by simp; exact ⟨HB1.out.1.size, by omega⟩)))
        have hv3 : ActAt w3 (w.heap.size + 1 + 1) o' := hR.op
        have hwc := wcode_any w1.heap.size [] bd w3 hR.wd
        have hr3 : w3.heap[w.heap.size + 1]? = some (.cells zA.cells 36 (0, 0)) := (HK.out _ (Nat.lt_of_lt_of_le HQ.out.1.lt HB1.out.2.size) (by omega)).trans (HQ.out.1.below HB1.out.2 HQ.out.1.lt)
        have hn3 : w3.heap[w.heap.size + 1 + 1 + 1]? = some (.cells zA.cells 36 (0, 0)) := (HK.out _ (Nat.lt_of_lt_of_le HQ.out.2.2.lt HB1.out.2.size) (by omega)).trans (HQ.out.2.2.below HB1.out.2 HQ.out.2.2.lt)
        have hfg3 : w3.heap[fg]? = some (.cells (tabC actTab) 110 (0, 0)) := (HK.out _ (heap_lt hfg1) (by
          intro e
          subst e
          have h0 : W.heap[_]? = _ := HQ.out.2.1
          rw [HFG.out] at h0
          injection h0 with h0
          injection h0 with _ q _
          revert q
          decide)).trans hfg1
        have HV : Hid (w3.heap[w.heap.size + 1 + 1]? = some (.cells o'.cells 36 (0, 0))) := hv3
        have HR : Hid (w3.heap[w.heap.size + 1]? = some (.cells zA.cells 36 (0, 0))) := hr3
        have HN : Hid (w3.heap[w.heap.size + 1 + 1 + 1]? = some (.cells zA.cells 36 (0, 0))) := hn3
        clear hv3 hr3 hn3 hR
        cases bd with
        | true =>
          have HF : Hid (toldAV (x :: r) = .tuple #[.int .i64 0, zA.val, .int .i64 224]) := by
            show _ = _
            rw [toldAV_some HFM.out.2, if_neg HNE.out, HRD.out.2, if_pos rfl]
          clear hfg3 hfg1 l0 m0
          go_wp2_with fail
          refine hwc.mono ?_
          rintro e w4 ⟨rfl, rfl⟩
          clear hwc
          have HBU : Hid (Below w.heap.size w w4) := HB3.out
          have hsrc : ActAt w4 (w.heap.size + 1 + 1 + 1) zA := HN.out
          have hres : ActAt w4 (w.heap.size + 1) zA := HR.out
          clear HV HR HN
          obtain ⟨x0, x1, x2, x3, x4, x5, x6, x7, x8⟩ := hsrc.drew.nine
          obtain ⟨y0, y1, y2, y3, y4, y5, y6, y7, y8⟩ := hsrc.nine
          obtain ⟨r0, r1, r2, r3, r4, r5, r6, r7, r8⟩ := hres.drew.nine
          have rf := hres.drew.frozen
          obtain ⟨s0, s1, s2, s3, s4, s5, s6, s7, s8⟩ := hres.nine
          have sf := hres.frozen
          have hF : ActAt (nineS w4 (w.heap.size + 1) zA).drew (w.heap.size + 1) zA := (hres.putAll zA).drew
          have hBF : Below w.heap.size w (nineS w4 (w.heap.size + 1) zA).drew := Below.drew (below_nine HBU.out (by omega))
          obtain ⟨V9, hV9⟩ : ∃ V9, (nineS w4 (w.heap.size + 1) zA).drew = V9 := ⟨_, rfl⟩
          rw [hV9] at hF hBF
          have HFO : Hid (V9.heap[w.heap.size + 1]? = some (.cells (ActR.cells zA) 36 (0, 0))) := hF
          have HBF : Hid (Below w.heap.size w V9) := hBF
          have HV9 : Hid (Unit → (nineS w4 (w.heap.size + 1) zA).drew = V9) := fun _ => hV9
          clear hsrc hres hF hBF hV9
          unfold nineS at HV9
          go_wp2_with fail
          go_region
          all_goals
            rw [HV9.out ()]
            clear HV9 x0 x1 x2 x3 x4 x5 x6 x7 x8 y0 y1 y2 y3 y4 y5 y6 y7 y8 r0 r1 r2 r3 r4 r5 r6 r7 r8 rf s0 s1 s2 s3 s4 s5 s6 s7 s8 sf
            go_wp2
            refine bodyPost_ret (results_tct rfl _ _ (w.heap.size + 1) 36 _ (0, 0) _ rfl HFO.out Tryz.underlying36 rfl sizeAc9) rfl ?_
            rw [HF.out]
            exact ⟨rfl, HBF.out⟩
        | false =>
          have HF : Hid (toldAV (x :: r) = .tuple #[.int .i64 f.kind, o'.val, .int .i64 0]) := by
            show _ = _
            rw [toldAV_some HFM.out.2, if_neg HNE.out, HRD.out.2, if_neg (by decide), HRD.out.1]
          obtain ⟨c0, c1, c2, c3, c4⟩ := tab_cell hfg3 HIF.out
          clear hfg3 hfg1 l0 m0
          go_wp2_with fail
          refine hwc.mono ?_
          rintro e w4 ⟨rfl, rfl⟩
          clear hwc
          have HBU : Hid (Below w.heap.size w w4) := HB3.out
          have hsrc : ActAt w4 (w.heap.size + 1 + 1) o' := HV.out
          have hres : ActAt w4 (w.heap.size + 1) zA := HR.out
          have d0 : w4.drew.cell? ⟨fg, i * 5, none⟩ = some (.int .i64 f.kind) := c0
          clear HV HR HN c1 c2 c3 c4
          obtain ⟨x0, x1, x2, x3, x4, x5, x6, x7, x8⟩ := hsrc.drew.nine
          obtain ⟨y0, y1, y2, y3, y4, y5, y6, y7, y8⟩ := hsrc.nine
          obtain ⟨r0, r1, r2, r3, r4, r5, r6, r7, r8⟩ := hres.drew.nine
          have rf := hres.drew.frozen
          obtain ⟨s0, s1, s2, s3, s4, s5, s6, s7, s8⟩ := hres.nine
          have sf := hres.frozen
          have hF : ActAt (nineS w4 (w.heap.size + 1) o').drew (w.heap.size + 1) o' := (hres.putAll o').drew
          have hBF : Below w.heap.size w (nineS w4 (w.heap.size + 1) o').drew := Below.drew (below_nine HBU.out (by omega))
          obtain ⟨V9, hV9⟩ : ∃ V9, (nineS w4 (w.heap.size + 1) o').drew = V9 := ⟨_, rfl⟩
          rw [hV9] at hF hBF
          have HFO : Hid (V9.heap[w.heap.size + 1]? = some (.cells (ActR.cells o') 36 (0, 0))) := hF
          have HBF : Hid (Below w.heap.size w V9) := hBF
          have HV9 : Hid (Unit → (nineS w4 (w.heap.size + 1) o').drew = V9) := fun _ => hV9
          clear hsrc hres hF hBF hV9
          unfold nineS at HV9
          go_wp2_with fail
          go_region
          all_goals
            rw [HV9.out ()]
            clear HV9 x0 x1 x2 x3 x4 x5 x6 x7 x8 y0 y1 y2 y3 y4 y5 y6 y7 y8 r0 r1 r2 r3 r4 r5 r6 r7 r8 rf s0 s1 s2 s3 s4 s5 s6 s7 s8 sf
            go_wp2
            refine bodyPost_ret (results_tct rfl _ _ (w.heap.size + 1) 36 _ (0, 0) _ rfl HFO.out Tryz.underlying36 rfl sizeAc9) rfl ?_
            rw [HF.out]
            exact ⟨rfl, HBF.out⟩
    · have HF : Hid (toldAV (x :: r) = .tuple #[.int .i64 0, zA.val, .int .i64 223]) := by
        show _ = _
        rw [toldAV_some HFM.out.2, if_pos (by rw [HM.out.2]; omega)]
      have hctI : ((m : Int) != f.count) = true := by simp [hct]
      go_wp2_with fail
      go_quiet (fail)
      have hn3 : ActAt (w1.drewN nq) (w.heap.size + 1 + 1 + 1) zA := HQ.out.2.2.below (w' := w1) HB1.out.2 HQ.out.2.2.lt
      have hr1 : ActAt (w1.drewN nq) (w.heap.size + 1) zA := HQ.out.1.below (w' := w1) HB1.out.2 HQ.out.1.lt
      have HBU : Hid (Below w.heap.size w (w1.drewN nq)) := ⟨HB1.out.1.os, HB1.out.1.tape, HB1.out.1.output, HB1.out.1.size, HB1.out.1.block⟩
      clear hfg1 c0 c1 c2 c3 c4 l0
      obtain ⟨U, hU⟩ : ∃ U, w1.drewN nq = U := ⟨_, rfl⟩
      rw [hU] at hn3 hr1 HBU ⊢
      clear hU
      have hsrc := hn3
      have hres := hr1
      clear hn3 hr1
      obtain ⟨x0, x1, x2, x3, x4, x5, x6, x7, x8⟩ := hsrc.drew.nine
      obtain ⟨y0, y1, y2, y3, y4, y5, y6, y7, y8⟩ := hsrc.nine
      obtain ⟨r0, r1, r2, r3, r4, r5, r6, r7, r8⟩ := hres.drew.nine
      have rf := hres.drew.frozen
      obtain ⟨s0, s1, s2, s3, s4, s5, s6, s7, s8⟩ := hres.nine
      have sf := hres.frozen
      have hF : ActAt (nineS U (w.heap.size + 1) zA).drew (w.heap.size + 1) zA := (hres.putAll zA).drew
      have hBF : Below w.heap.size w (nineS U (w.heap.size + 1) zA).drew := Below.drew (below_nine HBU.out (by omega))
      obtain ⟨V9, hV9⟩ : ∃ V9, (nineS U (w.heap.size + 1) zA).drew = V9 := ⟨_, rfl⟩
      rw [hV9] at hF hBF
      have HFO : Hid (V9.heap[w.heap.size + 1]? = some (.cells (ActR.cells zA) 36 (0, 0))) := hF
      have HBF : Hid (Below w.heap.size w V9) := hBF
      have HV9 : Hid (Unit → (nineS U (w.heap.size + 1) zA).drew = V9) := fun _ => hV9
      clear hsrc hres hF hBF hV9
      unfold nineS at HV9
      go_wp2_with fail
      go_region
      all_goals
        rw [HV9.out ()]
        clear HV9 x0 x1 x2 x3 x4 x5 x6 x7 x8 y0 y1 y2 y3 y4 y5 y6 y7 y8 r0 r1 r2 r3 r4 r5 r6 r7 r8 rf s0 s1 s2 s3 s4 s5 s6 s7 s8 sf
        go_wp2
        refine bodyPost_ret (results_tct rfl _ _ (w.heap.size + 1) 36 _ (0, 0) _ rfl HFO.out Tryz.underlying36 rfl sizeAc9) rfl ?_
        rw [HF.out]
        exact ⟨rfl, HBF.out⟩
  · have HF : Hid (toldAV (x :: r) = .tuple #[.int .i64 0, zA.val, .int .i64 222]) := toldAV_none (fmOf_none actTab x hno)
    have hsrc : ActAt w1 (w.heap.size + 1 + 1 + 1) zA := HQ.out.2.2.below hb1 HQ.out.2.2.lt
    have hres : ActAt w1 (w.heap.size + 1) zA := HQ.out.1.below hb1 HQ.out.1.lt
    have HBU : Hid (Below w.heap.size w w1) := HB.out.1.trans (hb1.mono HB.out.1.size)
    clear hno hb1
    obtain ⟨x0, x1, x2, x3, x4, x5, x6, x7, x8⟩ := hsrc.drew.nine
    obtain ⟨y0, y1, y2, y3, y4, y5, y6, y7, y8⟩ := hsrc.nine
    obtain ⟨r0, r1, r2, r3, r4, r5, r6, r7, r8⟩ := hres.drew.nine
    have rf := hres.drew.frozen
    obtain ⟨s0, s1, s2, s3, s4, s5, s6, s7, s8⟩ := hres.nine
    have sf := hres.frozen
    have hF : ActAt (nineS w1 (w.heap.size + 1) zA).drew (w.heap.size + 1) zA := (hres.putAll zA).drew
    have hBF : Below w.heap.size w (nineS w1 (w.heap.size + 1) zA).drew := Below.drew (below_nine HBU.out (by omega))
    obtain ⟨V9, hV9⟩ : ∃ V9, (nineS w1 (w.heap.size + 1) zA).drew = V9 := ⟨_, rfl⟩
    rw [hV9] at hF hBF
    have HFO : Hid (V9.heap[w.heap.size + 1]? = some (.cells (ActR.cells zA) 36 (0, 0))) := hF
    have HBF : Hid (Below w.heap.size w V9) := hBF
    have HV9 : Hid (Unit → (nineS w1 (w.heap.size + 1) zA).drew = V9) := fun _ => hV9
    clear hsrc hres hF hBF hV9
    unfold nineS at HV9
    go_wp2_with fail
    go_region
    all_goals
      rw [HV9.out ()]
      clear HV9 x0 x1 x2 x3 x4 x5 x6 x7 x8 y0 y1 y2 y3 y4 y5 y6 y7 y8 r0 r1 r2 r3 r4 r5 r6 r7 r8 rf s0 s1 s2 s3 s4 s5 s6 s7 s8 sf
      go_wp2
      refine bodyPost_ret (results_tct rfl _ _ (w.heap.size + 1) 36 _ (0, 0) _ rfl HFO.out Tryz.underlying36 rfl sizeAc9) rfl ?_
      rw [HF.out]
      exact ⟨rfl, HBF.out⟩
end Go.Proofs.YtlmopjbfagijeaaGreatDoor.Sc
