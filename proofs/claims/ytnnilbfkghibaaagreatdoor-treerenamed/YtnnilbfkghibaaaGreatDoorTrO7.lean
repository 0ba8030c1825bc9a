import Derived.Test.YtnnilbfkghibaaaGreatDoorOaM
import Derived.Sort.KeysCollected
namespace Go.Proofs.YtnnilbfkghibaaaGreatDoor.Tr
open Go.RowKit Go.Lib Go.Deep

theorem size_zero {w : World} {m n : Nat} {Dt : DataW Unit} {f : Key → Option (Nat × Nat)} (h : w.ownsMap Tryz.prog 9 nodeR m n Dt) (hT : Tab Dt f) : Maps.size Dt = 0 ↔ ¬ ∃ k, (f k).isSome = true := by
  obtain ⟨es, rfl, hko⟩ := h.keysOf
  constructor
  · rintro h0 ⟨k, hk⟩
    have hes : es = [] := List.eq_nil_of_length_eq_zero h0
    subst hes
    rw [← hT.has k] at hk
    cases hk
  · intro hno
    cases es with
    | nil => rfl
    | cons p es =>
      exfalso
      obtain ⟨v, hv⟩ := hko p (by simp)
      obtain ⟨x, _, hx, _⟩ := Maps.keyOf_str Tryz.underlying9 hv
      refine hno ⟨x, ?_⟩
      rw [← hT.has x]
      simp [Maps.has, hx, Lit.sameKey]
open Classical in
set_option maxRecDepth 20000 in
set_option maxHeartbeats 4000000 in
theorem rmdir_any (w : World) (q : Nat) (F : List Nat) (nn : Nat) (T : Ts) (dp : Nat → Nat) (hL : Lay w q F nn T) (hv : Inv T dp) (P : List ByteArray) (sa : Option Addr) (n sc : Nat) (hs : Pa.See w (.slice sa n sc) P) (hnm : P.all Pa.nm = true) (hl : P.length ≤ 16) (ok oa on : Int) (op ot od : ByteArray) (ta : Option Addr) (tn tc : Nat) :
    Calls Tryz.prog 113 #[.pointer (some ⟨q, 0, none⟩), .agg #[.int .i64 ok, .string op, .string ot, .int .i64 oa, .int .i64 on, .string od, .slice sa n sc, .slice ta tn tc]] w fun e w' => Did F w w' q (nn + 1) (rmdT T P) e := by
  obtain ⟨W, hW, hb, kp, k0, k1⟩ := three_new w #[.int .i64 ok, .string op, .string ot, .int .i64 oa, .int .i64 on, .string od, .slice sa n sc, .slice ta tn tc] R0 E0 84 33 35
  have hc := findDir_any W q F nn T dp (hL.below hb) hv _ P (hs.below hb) hnm hl
  have HX : Hid (∀ w2, Below W.heap.size W w2 → Below w.heap.size w w2 ∧ w2.heap[w.heap.size]? = some (.cells #[.int .i64 ok, .string op, .string ot, .int .i64 oa, .int .i64 on, .string od, .slice sa n sc, .slice ta tn tc] 84 (0, 0)) ∧ w2.heap[w.heap.size + 1]? = some (.cells R0 33 (0, 0)) ∧ w2.heap[w.heap.size + 1 + 1]? = some (.cells E0 35 (0, 0))) := fun w2 h2 => ⟨hb.trans (h2.mono hb.size), (h2.block _ (heap_lt kp)).trans kp, (h2.block _ (heap_lt k0)).trans k0, (h2.block _ (heap_lt k1)).trans k1⟩
  obtain ⟨p0, p1, p2, p3, p4, p5, p6, p7⟩ := cells8 kp
  have HLay : Hid (∀ W', Below w.heap.size w W' → Lay W' q F nn T) := fun W' hb => hL.below hb
  have HV : Hid (Inv T dp) := hv
  have HG : Hid ((fndD T P).2 = 0 → fndD T P = fndA T P ∧ (fndA T P).2 = 0 ∧ Got T dp P (fndD T P).1) := fun h => by
    have h1 := fndD_ok h
    exact ⟨h1.1, h1.2.1, by rw [h1.1]; exact got hv hnm h1.2.1⟩
  have HK : Hid ((fndD T P).2 = 0 → (fun k => k ≠ 0 ∧ k ≠ 2) (fndD T P).1.kd) := fun h => by
    have h1 := fndD_ok h
    rw [h1.1]
    exact h1.2.2
  have hnP : n = P.length := by
    obtain ⟨a, c, e, _⟩ := hs
    injection e
  have HA : Hid (rmdT T P = if P = [] then ref T 1 else if (fndD T P).2 ≠ 0 then ref T (fndD T P).2 else if ∃ k, (T.M (fndD T P).1.no k).isSome = true then ref T 124 else (Rs.no 0, Ef.no, setD (hangT T (fndD T P).1.par (fndD T P).1.nm none) (fndD T P).1.no none)) := rfl
  by_cases hP0 : P = []
  · have hn0 : n = 0 := by rw [hnP, hP0]; rfl
    have HA2 : Hid (rmdT T P = ref T 1) := HA.out.trans (if_pos hP0)
    generalize rmdT T P = A at *
    have hrf := refused_any W 1
    have HXX := HX
    clear hc HG HK HA hL hv hs hb kp k0 k1 hnP hP0 HX
    subst hn0
    unfold R0 E0 at hW
    go_enter Tryz.func113, Tryz.ntmps113
    go_wp2_with fail
    refine hrf.mono ?_
    rintro e w4 ⟨rfl, hb4⟩
    obtain ⟨hbw, -, q0, q1⟩ := HXX.out w4 hb4
    have HBw4 : Hid _ := hbw
    have HQw4 : Hid _ := q0
    have HEw4 : Hid _ := q1
    clear hbw q0 q1 hb4 hrf
    obtain ⟨a0, a1, a2, a3, a4, a5⟩ := cells6 HQw4.out
    obtain ⟨b0, b1, b2, b3, b4, b5, b6⟩ := cells7 HEw4.out
    have fz0 : ∀ j, w4.frozen? ⟨w.heap.size + 1, j, none⟩ = false := fun j => frozen_of_heap HQw4.out
    have fz1 : ∀ j, w4.frozen? ⟨w.heap.size + 1 + 1, j, none⟩ = false := fun j => frozen_of_heap HEw4.out
    (try unfold rsV)
    (try unfold Rs.no)
    (try unfold efV)
    (try unfold Ef.no)
    go_wp2_with fail
    refine bodyPost_ret (results_cell2 rfl _ _ (w.heap.size + 1) 33 _ (0, 0) _ (w.heap.size + 1 + 1) 35 _ (0, 0) _ rfl (putRE HQw4.out HEw4.out (by omega)).1 Tryz.underlying33 rfl sizeRes rfl (putRE HQw4.out HEw4.out (by omega)).2 Tryz.underlying35 rfl sizeEff) rfl ?_
    rw [HA2.out]
    exact ⟨_, rfl, Pa.Own.nil _ _, (HLay.out _ (putRE_below HBw4.out (by omega) (by omega))).turn0 (putRE_below HBw4.out (by omega) (by omega))⟩
  have hnI : ¬ (n : Int) = 0 := by
    have : P.length ≠ 0 := fun e => hP0 (List.eq_nil_of_length_eq_zero e)
    omega
  have HA' : Hid (rmdT T P = if (fndD T P).2 ≠ 0 then ref T (fndD T P).2 else if ∃ k, (T.M (fndD T P).1.no k).isSome = true then ref T 124 else (Rs.no 0, Ef.no, setD (hangT T (fndD T P).1.par (fndD T P).1.nm none) (fndD T P).1.no none)) := HA.out.trans (if_neg hP0)
  clear HA hnP
  generalize fndD T P = r at *
  generalize rmdT T P = A at *
  obtain ⟨⟨par, nm, kd, no⟩, e⟩ := r
  unfold spV spA at hc
  unfold R0 E0 at hW
  clear hL hv hs hb kp k0 k1
  go_enter Tryz.func113, Tryz.ntmps113
  go_wp2_with fail
  refine hc.mono ?_
  rintro e w2 ⟨rfl, hb2⟩
  obtain ⟨hbw, qp, q0, q1⟩ := HX.out w2 hb2
  obtain ⟨W3, hW3, hb3, k3⟩ := one_new w2 #[.int .i64 (par : Int), .string nm, .int .i64 (kd : Int), .int .i64 (no : Int)] 191
  have HB3 : Hid (Below w.heap.size w W3) := hbw.trans (hb3.mono hbw.size)
  have s0 : W3.cell? ⟨w2.heap.size, 0, none⟩ = some (.int .i64 (par : Int)) := (cell_of_heap k3).trans rfl
  have s1 : W3.cell? ⟨w2.heap.size, 1, none⟩ = some (.string nm) := (cell_of_heap k3).trans rfl
  have s2 : W3.cell? ⟨w2.heap.size, 2, none⟩ = some (.int .i64 (kd : Int)) := (cell_of_heap k3).trans rfl
  have s3 : W3.cell? ⟨w2.heap.size, 3, none⟩ = some (.int .i64 (no : Int)) := (cell_of_heap k3).trans rfl
  have hn2 : w.heap.size + 1 + 1 < w2.heap.size := heap_lt q1
  have hne1 : ¬ w2.heap.size = w.heap.size + 1 := by omega
  have hne2 : ¬ w2.heap.size = w.heap.size + 1 + 1 := by omega
  have hne3 : ¬ w.heap.size + 1 = w2.heap.size := by omega
  have hne4 : ¬ w.heap.size + 1 + 1 = w2.heap.size := by omega
  clear hn2
  have HS3 : Hid _ := k3
  have HP3 : Hid _ := (hb3.block _ (heap_lt qp)).trans qp
  have HQ3 : Hid _ := (hb3.block _ (heap_lt q0)).trans q0
  have HE3 : Hid _ := (hb3.block _ (heap_lt q1)).trans q1
  clear hb2 hbw qp q0 q1 hb3 k3 HX hc
  by_cases he : e = 0
  · subst he
    have hdir : kd = 1 ∧ tk T par ∧ nm.size ≤ 32 ∧ ∃ d, T.D[no]? = some (some d) := by
      obtain ⟨g1, g2, g3⟩ := HG.out rfl
      have hk1 := HK.out rfl
      have sp := g3.sp hP0
      have hk2 : kd = 1 := by
        rcases sp.kd HV.out with h | h | h
        · exact absurd h hk1.1
        · exact h
        · exact absurd h hk1.2
      exact ⟨hk2, sp.ht, nm_size sp.hn, (g3.dir hk2).1⟩
    obtain ⟨hk, htk, hns, d, hD⟩ := hdir
    have HL3 : Hid (Lay W3 q F nn T) := HLay.out W3 HB3.out
    obtain ⟨dv, fv, ld, lf, ms, hFe, hI⟩ := HL3.out
    have hin := inside_any W3 q dv fv ld lf ms nn T hI no d hD
    have HLen : Hid (∀ w4, Below W3.heap.size W3 w4 → ∃ sz : Nat, (Builtin.len_ #[129] 3 #[.map (some (ms no))]).run Tryz.prog w4 = .ok (.int .i64 (sz : Int)) w4 ∧ Hid (sz = 0 ↔ ¬ ∃ k, (T.M no k).isSome = true) ∧ sz ≤ nn) := fun w4 hb4 => by
      obtain ⟨Dt, hm, hT⟩ := (hI.below hb4).hm no d hD
      exact ⟨_, hm.len Tryz.underlying129 3, size_zero hm hT, hm.size_le⟩
    have HD : Hid (T.D[no]? = some (some d)) := hD
    have HTK : Hid (tk T par) := htk
    generalize ms no = m at *
    clear hI hFe hD htk hk
    go_wp2_with (fail)
    refine hin.mono ?_
    rintro e w4 ⟨rfl, hb4⟩
    obtain ⟨sz, hlen, HSZ, hsn⟩ := HLen.out w4 hb4
    have HB34 : Hid (Below W3.heap.size W3 w4) := hb4
    have HBw4 : Hid (Below w.heap.size w w4) := HB3.out.trans (hb4.mono HB3.out.size)
    have HQw4 : Hid _ := (hb4.block _ (heap_lt HQ3.out)).trans HQ3.out
    have HEw4 : Hid _ := (hb4.block _ (heap_lt HE3.out)).trans HE3.out
    have HSw4 : Hid _ := (hb4.block _ (heap_lt HS3.out)).trans HS3.out
    have s0w4 : w4.cell? ⟨w2.heap.size, 0, none⟩ = some (.int .i64 (par : Int)) := (cell_of_heap HSw4.out).trans rfl
    have s1w4 : w4.cell? ⟨w2.heap.size, 1, none⟩ = some (.string nm) := (cell_of_heap HSw4.out).trans rfl
    have s3w4 : w4.cell? ⟨w2.heap.size, 3, none⟩ = some (.int .i64 (no : Int)) := (cell_of_heap HSw4.out).trans rfl
    clear hb4 hin HLen
    by_cases hz : sz = 0
    · have HA2 : Hid (A = (Rs.no 0, Ef.no, setD (hangT T par nm none) no none)) := HA'.out.trans ((if_neg (by simp)).trans (if_neg (HSZ.out.1 hz)))
      subst hz
      have hlen' : (Builtin.len_ #[129] 3 #[.map (some m)]).run Tryz.prog w4 = .ok (.int .i64 0) w4 := hlen
      have hun := unhang_any w4 q F nn T (HLay.out _ HBw4.out) par nm HTK.out (by unfold maxLen; omega)
      clear hlen HSZ hsn
      go_wp2_with fail
      refine hun.mono ?_
      rintro e w5 ⟨rfl, hT5⟩
      have HQw5 : Hid _ := Turn.keep hT5 (HLay.out _ HBw4.out) HQw4.out (by decide)
      have HEw5 : Hid _ := Turn.keep hT5 (HLay.out _ HBw4.out) HEw4.out (by decide)
      have HSw5 : Hid _ := Turn.keep hT5 (HLay.out _ HBw4.out) HSw4.out (by decide)
      have s3w5 : w5.cell? ⟨w2.heap.size, 3, none⟩ = some (.int .i64 (no : Int)) := (cell_of_heap HSw5.out).trans rfl
      obtain ⟨ho5, F5, hL5, hF5⟩ := hT5
      have hL5d := hL5.below (Below.refl w5.heap.size w5).drew
      have hfr := freeD_any w5.drew q F5 nn _ hL5d no d HD.out
      have HL5 : Hid _ := hL5d
      have HO5 : Hid _ := ho5
      have HF5 : Hid _ := hF5
      clear ho5 hL5 hF5 hL5d hun
      go_wp2_with fail
      go_region_with (go_at_call 149; refine hfr.mono ?_; rintro e w6 ⟨rfl, hT6⟩; have HT6 : Hid (Turn F5 w5.drew w6 q nn (setD (hangT T par nm none) no none)) := hT6; clear hT6)
      all_goals
        have HQw6 : Hid _ := Turn.keep HT6.out HL5.out HQw5.out (by decide)
        have HEw6 : Hid _ := Turn.keep HT6.out HL5.out HEw5.out (by decide)
        have HTw6 : Hid (Turn F w w6 q (nn + 1) (setD (hangT T par nm none) no none)) := (Turn.ahead HBw4.out (turn_trans HO5.out HF5.out (Turn.ahead (Below.refl w5.heap.size w5).drew HT6.out))).up (Nat.le_succ _)
        go_wp2_with fail
        refine (quiet_any w6 0 0 0 0 none 0 0).mono ?_
        rintro e w7 ⟨rfl, hb7⟩
        have HQw7 : Hid _ := (hb7.block _ (heap_lt HQw6.out)).trans HQw6.out
        have HEw7 : Hid _ := (hb7.block _ (heap_lt HEw6.out)).trans HEw6.out
        have HTw7 : Hid (Turn F w w7 q (nn + 1) (setD (hangT T par nm none) no none)) := HTw6.out.below hb7
        clear hb7
        obtain ⟨a0, a1, a2, a3, a4, a5⟩ := cells6 HQw7.out
        obtain ⟨b0, b1, b2, b3, b4, b5, b6⟩ := cells7 HEw7.out
        have fz0 : ∀ j, w7.frozen? ⟨w.heap.size + 1, j, none⟩ = false := fun j => frozen_of_heap HQw7.out
        have fz1 : ∀ j, w7.frozen? ⟨w.heap.size + 1 + 1, j, none⟩ = false := fun j => frozen_of_heap HEw7.out
        (try unfold rsV)
        (try unfold Rs.no)
        (try unfold efV)
        (try unfold Ef.no)
        go_wp2_with fail
        refine bodyPost_ret (results_cell2 rfl _ _ (w.heap.size + 1) 33 _ (0, 0) _ (w.heap.size + 1 + 1) 35 _ (0, 0) _ rfl (putRE HQw7.out HEw7.out (by omega)).1 Tryz.underlying33 rfl sizeRes rfl (putRE HQw7.out HEw7.out (by omega)).2 Tryz.underlying35 rfl sizeEff) rfl ?_
        rw [HA2.out]
        exact ⟨_, rfl, Pa.Own.nil _ _, HTw7.out.putRE (by omega) (by omega) HQw7.out HEw7.out⟩
    · have HA2 : Hid (A = ref T 124) := HA'.out.trans ((if_neg (by simp)).trans (if_pos (Classical.byContradiction (fun h => hz (HSZ.out.2 h)))))
      have hzI : (0 : Int) < (sz : Int) := by omega
      go_wp2_with fail
      refine (refused_any w4 124).mono ?_
      rintro e w6 ⟨rfl, hb6⟩
      have HQw6 : Hid _ := (hb6.block _ (heap_lt HQw4.out)).trans HQw4.out
      have HEw6 : Hid _ := (hb6.block _ (heap_lt HEw4.out)).trans HEw4.out
      have HBw6 : Hid (Below w.heap.size w w6) := HBw4.out.trans (hb6.mono HBw4.out.size)
      clear hb6
      obtain ⟨a0, a1, a2, a3, a4, a5⟩ := cells6 HQw6.out
      obtain ⟨b0, b1, b2, b3, b4, b5, b6⟩ := cells7 HEw6.out
      have fz0 : ∀ j, w6.frozen? ⟨w.heap.size + 1, j, none⟩ = false := fun j => frozen_of_heap HQw6.out
      have fz1 : ∀ j, w6.frozen? ⟨w.heap.size + 1 + 1, j, none⟩ = false := fun j => frozen_of_heap HEw6.out
      (try unfold rsV)
      (try unfold Rs.no)
      (try unfold efV)
      (try unfold Ef.no)
      go_wp2_with fail
      refine bodyPost_ret (results_cell2 rfl _ _ (w.heap.size + 1) 33 _ (0, 0) _ (w.heap.size + 1 + 1) 35 _ (0, 0) _ rfl (putRE HQw6.out HEw6.out (by omega)).1 Tryz.underlying33 rfl sizeRes rfl (putRE HQw6.out HEw6.out (by omega)).2 Tryz.underlying35 rfl sizeEff) rfl ?_
      rw [HA2.out]
      exact ⟨_, rfl, Pa.Own.nil _ _, (HLay.out _ (putRE_below HBw6.out (by omega) (by omega))).turn0 (putRE_below HBw6.out (by omega) (by omega))⟩
  · have HA2 : Hid (A = ref T e) := HA'.out.trans (if_pos he)
    go_wp2_with fail
    refine (refused_any W3 e).mono ?_
    rintro e w4 ⟨rfl, hb4⟩
    have HBw4 : Hid (Below w.heap.size w w4) := HB3.out.trans (hb4.mono HB3.out.size)
    have HQw4 : Hid _ := (hb4.block _ (heap_lt HQ3.out)).trans HQ3.out
    have HEw4 : Hid _ := (hb4.block _ (heap_lt HE3.out)).trans HE3.out
    have HPw4 : Hid _ := (hb4.block _ (heap_lt HP3.out)).trans HP3.out
    have HSw4 : Hid _ := (hb4.block _ (heap_lt HS3.out)).trans HS3.out
    clear hb4
    obtain ⟨a0, a1, a2, a3, a4, a5⟩ := cells6 HQw4.out
    obtain ⟨b0, b1, b2, b3, b4, b5, b6⟩ := cells7 HEw4.out
    have fz0 : ∀ j, w4.frozen? ⟨w.heap.size + 1, j, none⟩ = false := fun j => frozen_of_heap HQw4.out
    have fz1 : ∀ j, w4.frozen? ⟨w.heap.size + 1 + 1, j, none⟩ = false := fun j => frozen_of_heap HEw4.out
    (try unfold rsV)
    (try unfold Rs.no)
    (try unfold efV)
    (try unfold Ef.no)
    go_wp2_with fail
    refine bodyPost_ret (results_cell2 rfl _ _ (w.heap.size + 1) 33 _ (0, 0) _ (w.heap.size + 1 + 1) 35 _ (0, 0) _ rfl (putRE HQw4.out HEw4.out (by omega)).1 Tryz.underlying33 rfl sizeRes rfl (putRE HQw4.out HEw4.out (by omega)).2 Tryz.underlying35 rfl sizeEff) rfl ?_
    rw [HA2.out]
    exact ⟨_, rfl, Pa.Own.nil _ _, (HLay.out _ (putRE_below HBw4.out (by omega) (by omega))).turn0 (putRE_below HBw4.out (by omega) (by omega))⟩

end Go.Proofs.YtnnilbfkghibaaaGreatDoor.Tr
