import Derived.Test.YtnfddiabhpandaaGreatDoorLyM
namespace Go.Proofs.YtnfddiabhpandaaGreatDoor.Tr
open Go.RowKit Go.Lib Go.Deep

theorem Lay.turn0 {w W : World} {q : Nat} {F : List Nat} {nn : Nat} {T : Ts} (h : Lay W q F nn T) (hb : Below w.heap.size w W) : Turn F w W q (nn + 1) T := ⟨only_below (Only.refl _ _) hb, F, h.up (Nat.le_succ _), fun _ hk => .inl hk⟩
set_option maxRecDepth 20000 in
set_option maxHeartbeats 4000000 in
theorem stat_any (w : World) (q : Nat) (F : List Nat) (nn : Nat) (T : Ts) (dp : Nat → Nat) (hL : Lay w q F nn T) (hv : Inv T dp) (P : List ByteArray) (sa : Option Addr) (n sc : Nat) (hs : Pa.See w (.slice sa n sc) P) (hnm : P.all Pa.nm = true) (hl : P.length ≤ 16) (ok oa on : Int) (op ot od : ByteArray) (ta : Option Addr) (tn tc : Nat) :
    Calls Tryz.prog 115 #[.pointer (some ⟨q, 0, none⟩), .agg #[.int .i64 ok, .string op, .string ot, .int .i64 oa, .int .i64 on, .string od, .slice sa n sc, .slice ta tn tc]] w fun e w' => Did F w w' q (nn + 1) (staT T P) e := by
  obtain ⟨W, hW, hb, kp, k0, k1⟩ := three_new w #[.int .i64 ok, .string op, .string ot, .int .i64 oa, .int .i64 on, .string od, .slice sa n sc, .slice ta tn tc] R0 E0 84 33 35
  have hc := findSome_any W q F nn T dp (hL.below hb) hv _ P (hs.below hb) hnm hl
  have HX : Hid (∀ w2, Below W.heap.size W w2 → Below w.heap.size w w2 ∧ w2.heap[w.heap.size]? = some (.cells #[.int .i64 ok, .string op, .string ot, .int .i64 oa, .int .i64 on, .string od, .slice sa n sc, .slice ta tn tc] 84 (0, 0)) ∧ w2.heap[w.heap.size + 1]? = some (.cells R0 33 (0, 0)) ∧ w2.heap[w.heap.size + 1 + 1]? = some (.cells E0 35 (0, 0))) := fun w2 h2 => ⟨hb.trans (h2.mono hb.size), (h2.block _ (heap_lt kp)).trans kp, (h2.block _ (heap_lt k0)).trans k0, (h2.block _ (heap_lt k1)).trans k1⟩
  obtain ⟨p0, p1, p2, p3, p4, p5, p6, p7⟩ := cells8 kp
  have HLay : Hid (∀ W', Below w.heap.size w W' → Lay W' q F nn T) := fun W' hb => hL.below hb
  have HV : Hid (Inv T dp) := hv
  have HG : Hid ((fndS T P).2 = 0 → fndS T P = fndA T P ∧ (fndA T P).2 = 0 ∧ Got T dp P (fndS T P).1) := fun h => by
    have h1 := fndS_ok h
    exact ⟨h1.1, h1.2.1, by rw [h1.1]; exact got hv hnm h1.2.1⟩
  have HK : Hid ((fndS T P).2 = 0 → (fun k => k ≠ 0) (fndS T P).1.kd) := fun h => by
    have h1 := fndS_ok h
    rw [h1.1]
    exact h1.2.2
  have HA : Hid (staT T P = if (fndS T P).2 ≠ 0 then ref T (fndS T P).2 else if (fndS T P).1.kd = 1 then (⟨0, 0, [], 1, 0⟩, Ef.no, T) else (⟨0, 0, [], 2, szF T (fndS T P).1.no⟩, Ef.no, T)) := rfl
  generalize fndS T P = r at *
  generalize staT T P = A at *
  obtain ⟨⟨par, nm, kd, no⟩, e⟩ := r
  unfold spV spA at hc
  unfold R0 E0 at hW
  clear hL hv hs hb kp k0 k1
  go_enter Tryz.func115, Tryz.ntmps115
  go_wp2_with fail
  refine hc.mono ?_
  rintro e w2 ⟨rfl, hb2⟩
  obtain ⟨hbw, qp, q0, q1⟩ := HX.out w2 hb2
  obtain ⟨W3, hW3, hb3, k3⟩ := one_new w2 #[.int .i64 (par : Int), .string nm, .int .i64 (kd : Int), .int .i64 (no : Int)] 191
  have HB3 : Hid (Below w.heap.size w W3) := hbw.trans (hb3.mono hbw.size)
  have s0 : W3.cell? ⟨w2.heap.size, 0, none⟩ = some (.int .i64 (par : Int)) := (cell_of_heap k3).trans rfl
  have s1 : W3.cell? ⟨w2.heap.size, 1, none⟩ = some (.string nm) := (cell_of_heap k3).trans rfl
  have s2 : W3.cell? ⟨w2.heap.size, 2, none⟩ = some (.int .i64 (kd : Int)) := (cell_of_heap k3).trans rfl
  have s3 : W3.cell? ⟨w2.heap.size, 3, none⟩ = some (.int .i64 (no : Int)) := (cell_of_heap k3).trans rfl
  have hn2 : w.heap.size + 1 + 1 < w2.heap.size := heap_lt q1
  have hne1 : ¬ w2.heap.size = w.heap.size + 1 := by omega
  have hne2 : ¬ w2.heap.size = w.heap.size + 1 + 1 := by omega
  have hne3 : ¬ w.heap.size + 1 = w2.heap.size := by omega
  have hne4 : ¬ w.heap.size + 1 + 1 = w2.heap.size := by omega
  clear hn2
  have HS3 : Hid _ := k3
  have HP3 : Hid _ := (hb3.block _ (heap_lt qp)).trans qp
  have HQ3 : Hid _ := (hb3.block _ (heap_lt q0)).trans q0
  have HE3 : Hid _ := (hb3.block _ (heap_lt q1)).trans q1
  clear hb2 hbw qp q0 q1 hb3 k3 HX hc
  by_cases he : e = 0
  · subst he
    by_cases hk : kd = 1
    · have HA2 : Hid (A = (⟨0, 0, [], 1, 0⟩, Ef.no, T)) := HA.out.trans ((if_neg (by simp)).trans (if_pos hk))
      obtain rfl : kd = 1 := hk
      have hW3b : w2.alloc (.cells #[.int .i64 (par : Int), .string nm, .int .i64 1, .int .i64 (no : Int)] 191) = W3 := hW3
      have s2b : W3.cell? ⟨w2.heap.size, 2, none⟩ = some (.int .i64 1) := s2
      clear hW3 s2
      go_wp2_with fail
      refine (quiet_any W3 0 0 1 0 none 0 0).mono ?_
      rintro e w4 ⟨rfl, hb4⟩
      have HBw4 : Hid (Below w.heap.size w w4) := HB3.out.trans (hb4.mono HB3.out.size)
      have HQw4 : Hid _ := (hb4.block _ (heap_lt HQ3.out)).trans HQ3.out
      have HEw4 : Hid _ := (hb4.block _ (heap_lt HE3.out)).trans HE3.out
      have HPw4 : Hid _ := (hb4.block _ (heap_lt HP3.out)).trans HP3.out
      have HSw4 : Hid _ := (hb4.block _ (heap_lt HS3.out)).trans HS3.out
      clear hb4
      obtain ⟨a0, a1, a2, a3, a4, a5⟩ := cells6 HQw4.out
      obtain ⟨b0, b1, b2, b3, b4, b5, b6⟩ := cells7 HEw4.out
      have fz0 : ∀ j, w4.frozen? ⟨w.heap.size + 1, j, none⟩ = false := fun j => frozen_of_heap HQw4.out
      have fz1 : ∀ j, w4.frozen? ⟨w.heap.size + 1 + 1, j, none⟩ = false := fun j => frozen_of_heap HEw4.out
      (try unfold rsV)
      (try unfold Rs.no)
      (try unfold efV)
      (try unfold Ef.no)
      go_wp2_with fail
      refine bodyPost_ret (results_cell2 rfl _ _ (w.heap.size + 1) 33 _ (0, 0) _ (w.heap.size + 1 + 1) 35 _ (0, 0) _ rfl (putRE HQw4.out HEw4.out (by omega)).1 Tryz.underlying33 rfl sizeRes rfl (putRE HQw4.out HEw4.out (by omega)).2 Tryz.underlying35 rfl sizeEff) rfl ?_
      rw [HA2.out]
      exact ⟨_, rfl, Pa.Own.nil _ _, (HLay.out _ (putRE_below HBw4.out (by omega) (by omega))).turn0 (putRE_below HBw4.out (by omega) (by omega))⟩
    · have HA2 : Hid (A = (⟨0, 0, [], 2, szF T no⟩, Ef.no, T)) := HA.out.trans ((if_neg (by simp)).trans (if_neg hk))
      have hfile : ∃ (n' : ByteArray) (s : Nat), T.F[no]? = some (some (par, n', s)) ∧ kd = 2 := by
        obtain ⟨g1, g2, g3⟩ := HG.out rfl
        have hk1 := HK.out rfl
        have hP0 : P ≠ [] := fun e => hk (by have := g3.rt e; injection this)
        have sp := g3.sp hP0
        have hk2 : kd = 2 := by
          rcases sp.kd HV.out with h | h | h
          · exact absurd h hk1
          · exact absurd h hk
          · exact h
        have hm2 : T.M par (ky nm) = some (2, no) := by rw [← hk2]; exact sp.there (by show kd ≠ 0; omega)
        obtain ⟨n', s, h1, _⟩ := HV.out.fileF hm2
        exact ⟨n', s, h1, hk2⟩
      obtain ⟨n', s, hF, hk⟩ := hfile
      have hsz : szF T no = s := by unfold szF; rw [hF]
      rw [hsz] at HA2
      obtain ⟨dv, fv, ld, lf, ms, -, hI⟩ := HLay.out W3 HB3.out
      have hI := hI.below (Below.refl W3.heap.size W3).drew
      have hg := get_f W3.drew q fv _ hI.cells.2.2.2.2.1 hI.hf' (Nat.le_trans hI.lenF (by omega)) no (fRow (some (par, n', s))) (by rw [fRows_get, hF]; rfl) (s : Int) rfl
      unfold fRow at hg
      have HFL : Hid _ := fun w => fldF w (.int .i64 (par : Int)) (.string n') (.int .i64 (s : Int))
      have HQU : Hid _ := fun w4 => quiet_any w4 0 0 2 s none 0 0
      have HX5 : Hid (∀ w5, Below W3.heap.size W3 w5 → Below w.heap.size w w5 ∧ Hid (w5.heap[w.heap.size + 1]? = some (.cells R0 33 (0, 0))) ∧ Hid (w5.heap[w.heap.size + 1 + 1]? = some (.cells E0 35 (0, 0)))) := fun w5 h5 => ⟨HB3.out.trans (h5.mono HB3.out.size), (h5.block _ (heap_lt HQ3.out)).trans HQ3.out, (h5.block _ (heap_lt HE3.out)).trans HE3.out⟩
      clear hI hF hsz
      obtain rfl : kd = 2 := hk
      have hW3b : w2.alloc (.cells #[.int .i64 (par : Int), .string nm, .int .i64 2, .int .i64 (no : Int)] 191) = W3 := hW3
      have s2b : W3.cell? ⟨w2.heap.size, 2, none⟩ = some (.int .i64 2) := s2
      clear hW3 s2
      go_wp2_with fail
      go_region_with (first
        | (go_at_call 136; refine (HQU.out _).mono ?_; rintro e w5 ⟨rfl, hb5⟩; obtain ⟨HBw5', HQw5, HEw5⟩ := HX5.out w5 (HB4.out.trans (hb5.mono HB4.out.size)); have HBw5 : Hid _ := HBw5'; obtain ⟨a0, a1, a2, a3, a4, a5⟩ := cells6 HQw5.out; obtain ⟨b0, b1, b2, b3, b4, b5, b6⟩ := cells7 HEw5.out; have fz0 : ∀ j, w5.frozen? ⟨w.heap.size + 1, j, none⟩ = false := fun j => frozen_of_heap HQw5.out; have fz1 : ∀ j, w5.frozen? ⟨w.heap.size + 1 + 1, j, none⟩ = false := fun j => frozen_of_heap HEw5.out; clear HBw5' hb5; unfold efV; unfold Ef.no)
        | (go_at_call 141; refine hg.mono ?_; rintro e w4 ⟨rfl, hb4⟩; have hfl := HFL.out w4; have HB4 : Hid (Below W3.heap.size W3 w4) := ((Below.refl W3.heap.size W3).drew).trans hb4; clear hb4))
      all_goals
        go_wp2_with fail
        refine bodyPost_ret (results_cell2 rfl _ _ (w.heap.size + 1) 33 _ (0, 0) _ (w.heap.size + 1 + 1) 35 _ (0, 0) _ rfl (putRE HQw5.out HEw5.out (by omega)).1 Tryz.underlying33 rfl sizeRes rfl (putRE HQw5.out HEw5.out (by omega)).2 Tryz.underlying35 rfl sizeEff) rfl ?_
        rw [HA2.out]
        exact ⟨_, rfl, Pa.Own.nil _ _, (HLay.out _ (putRE_below HBw5.out (by omega) (by omega))).turn0 (putRE_below HBw5.out (by omega) (by omega))⟩
  · have HA2 : Hid (A = ref T e) := HA.out.trans (if_pos he)
    go_wp2_with fail
    refine (refused_any W3 e).mono ?_
    rintro e w4 ⟨rfl, hb4⟩
    have HBw4 : Hid (Below w.heap.size w w4) := HB3.out.trans (hb4.mono HB3.out.size)
    have HQw4 : Hid _ := (hb4.block _ (heap_lt HQ3.out)).trans HQ3.out
    have HEw4 : Hid _ := (hb4.block _ (heap_lt HE3.out)).trans HE3.out
    have HPw4 : Hid _ := (hb4.block _ (heap_lt HP3.out)).trans HP3.out
    have HSw4 : Hid _ := (hb4.block _ (heap_lt HS3.out)).trans HS3.out
    clear hb4
    obtain ⟨a0, a1, a2, a3, a4, a5⟩ := cells6 HQw4.out
    obtain ⟨b0, b1, b2, b3, b4, b5, b6⟩ := cells7 HEw4.out
    have fz0 : ∀ j, w4.frozen? ⟨w.heap.size + 1, j, none⟩ = false := fun j => frozen_of_heap HQw4.out
    have fz1 : ∀ j, w4.frozen? ⟨w.heap.size + 1 + 1, j, none⟩ = false := fun j => frozen_of_heap HEw4.out
    (try unfold rsV)
    (try unfold Rs.no)
    (try unfold efV)
    (try unfold Ef.no)
    go_wp2_with fail
    refine bodyPost_ret (results_cell2 rfl _ _ (w.heap.size + 1) 33 _ (0, 0) _ (w.heap.size + 1 + 1) 35 _ (0, 0) _ rfl (putRE HQw4.out HEw4.out (by omega)).1 Tryz.underlying33 rfl sizeRes rfl (putRE HQw4.out HEw4.out (by omega)).2 Tryz.underlying35 rfl sizeEff) rfl ?_
    rw [HA2.out]
    exact ⟨_, rfl, Pa.Own.nil _ _, (HLay.out _ (putRE_below HBw4.out (by omega) (by omega))).turn0 (putRE_below HBw4.out (by omega) (by omega))⟩

end Go.Proofs.YtnfddiabhpandaaGreatDoor.Tr

namespace Go.Proofs.YtnfddiabhpandaaGreatDoor.Tr
open Go.RowKit Go.Lib Go.Deep

theorem nm_size {n : ByteArray} (h : Pa.nm n = true) : n.size ≤ 32 := by
  have := (Pa.nm_free h).2.2
  rw [Array.length_toList, ByteArray.size_data] at this
  exact this
theorem drew_heap {W : World} {g : Nat} {o : Option Obj} (h : W.heap[g]? = o) : W.drew.heap[g]? = o := h
theorem drew_turn {F : List Nat} {w W : World} {q nn : Nat} {T : Ts} (h : Turn F w W q nn T) : Turn F w W.drew q nn T := h.below (Below.refl _ _).drew
theorem only_put {S : List Nat} {w W : World} {b j : Nat} {v : Value} (h : Only S w W) (hb : b ∈ S) : Only S w (W.setCell ⟨b, j, none⟩ v) := h.trans ((only_set v).mono (by intro k hk; simp at hk; subst hk; exact hb))
theorem Turn.other {F S : List Nat} {w W W' : World} {q nn : Nat} {T : Ts} (h : Turn F w W q nn T) (ho : Only S W W') (hS : ∀ k, k ∈ S → w.heap.size ≤ k ∧ ∃ c e, W.heap[k]? = some (.cells c e (0, 0)) ∧ ¬ (e = 125 ∨ e = 172 ∨ e = 176)) : Turn F w W' q nn T := by
  obtain ⟨h1, F2, h2, h3⟩ := h
  refine ⟨⟨ho.os.trans h1.os, ho.tape.trans h1.tape, ho.output.trans h1.output, Nat.le_trans h1.size ho.size, fun k hk hF => (ho.block k (Nat.lt_of_lt_of_le hk h1.size) (fun e => by have := (hS k e).1; omega)).trans (h1.block k hk hF)⟩, F2, ?_, h3⟩
  have h4 := h2
  obtain ⟨dv, fv, ld, lf, ms, hF, hI⟩ := h2
  refine ⟨dv, fv, ld, lf, ms, hF, hI.keep fun k hk => ho.block k (hI.lt hk) (fun e => ?_)⟩
  obtain ⟨_, c, t, h5, h6⟩ := hS k e
  exact h4.notin h5 h6 (hF ▸ hk)
theorem Turn.putRE {F : List Nat} {w W : World} {q nn g b : Nat} {T : Ts} {c c' : Array Value} {r0 r1 r2 r3 r4 r5 f0 f1 f2 f3 f4 f5 f6 : Value} (h : Turn F w W q nn T) (hg : w.heap.size ≤ g) (hb : w.heap.size ≤ b) (kg : W.heap[g]? = some (.cells c 33 (0, 0))) (kb : W.heap[b]? = some (.cells c' 35 (0, 0))) : Turn F w (((((((((((((W.setCell ⟨g, 0, none⟩ r0).setCell ⟨g, 1, none⟩ r1).setCell ⟨g, 2, none⟩ r2).setCell ⟨g, 3, none⟩ r3).setCell ⟨g, 4, none⟩ r4).setCell ⟨g, 5, none⟩ r5).setCell ⟨b, 0, none⟩ f0).setCell ⟨b, 1, none⟩ f1).setCell ⟨b, 2, none⟩ f2).setCell ⟨b, 3, none⟩ f3).setCell ⟨b, 4, none⟩ f4).setCell ⟨b, 5, none⟩ f5).setCell ⟨b, 6, none⟩ f6) q nn T := by
  have ho : Only [g, b] W (((((((((((((W.setCell ⟨g, 0, none⟩ r0).setCell ⟨g, 1, none⟩ r1).setCell ⟨g, 2, none⟩ r2).setCell ⟨g, 3, none⟩ r3).setCell ⟨g, 4, none⟩ r4).setCell ⟨g, 5, none⟩ r5).setCell ⟨b, 0, none⟩ f0).setCell ⟨b, 1, none⟩ f1).setCell ⟨b, 2, none⟩ f2).setCell ⟨b, 3, none⟩ f3).setCell ⟨b, 4, none⟩ f4).setCell ⟨b, 5, none⟩ f5).setCell ⟨b, 6, none⟩ f6) := (only_put (only_put (only_put (only_put (only_put (only_put (only_put (only_put (only_put (only_put (only_put (only_put (only_put (Only.refl _ _) (by simp)) (by simp)) (by simp)) (by simp)) (by simp)) (by simp)) (by simp)) (by simp)) (by simp)) (by simp)) (by simp)) (by simp)) (by simp))
  refine h.other ho fun k hk => ?_
  simp only [List.mem_cons, List.not_mem_nil, or_false] at hk
  rcases hk with rfl | rfl
  · exact ⟨hg, _, _, kg, by decide⟩
  · exact ⟨hb, _, _, kb, by decide⟩
set_option maxRecDepth 20000 in
set_option maxHeartbeats 4000000 in
theorem remove_any (w : World) (q : Nat) (F : List Nat) (nn : Nat) (T : Ts) (dp : Nat → Nat) (hL : Lay w q F nn T) (hv : Inv T dp) (P : List ByteArray) (sa : Option Addr) (n sc : Nat) (hs : Pa.See w (.slice sa n sc) P) (hnm : P.all Pa.nm = true) (hl : P.length ≤ 16) (ok oa on : Int) (op ot od : ByteArray) (ta : Option Addr) (tn tc : Nat) :
    Calls Tryz.prog 112 #[.pointer (some ⟨q, 0, none⟩), .agg #[.int .i64 ok, .string op, .string ot, .int .i64 oa, .int .i64 on, .string od, .slice sa n sc, .slice ta tn tc]] w fun e w' => Did F w w' q (nn + 1) (remT T P) e := by
  obtain ⟨W, hW, hb, kp, k0, k1⟩ := three_new w #[.int .i64 ok, .string op, .string ot, .int .i64 oa, .int .i64 on, .string od, .slice sa n sc, .slice ta tn tc] R0 E0 84 33 35
  have hc := findFile_any W q F nn T dp (hL.below hb) hv _ P (hs.below hb) hnm hl
  have HX : Hid (∀ w2, Below W.heap.size W w2 → Below w.heap.size w w2 ∧ w2.heap[w.heap.size]? = some (.cells #[.int .i64 ok, .string op, .string ot, .int .i64 oa, .int .i64 on, .string od, .slice sa n sc, .slice ta tn tc] 84 (0, 0)) ∧ w2.heap[w.heap.size + 1]? = some (.cells R0 33 (0, 0)) ∧ w2.heap[w.heap.size + 1 + 1]? = some (.cells E0 35 (0, 0))) := fun w2 h2 => ⟨hb.trans (h2.mono hb.size), (h2.block _ (heap_lt kp)).trans kp, (h2.block _ (heap_lt k0)).trans k0, (h2.block _ (heap_lt k1)).trans k1⟩
  obtain ⟨p0, p1, p2, p3, p4, p5, p6, p7⟩ := cells8 kp
  have HLay : Hid (∀ W', Below w.heap.size w W' → Lay W' q F nn T) := fun W' hb => hL.below hb
  have HV : Hid (Inv T dp) := hv
  have HG : Hid ((fndF T P).2 = 0 → fndF T P = fndA T P ∧ (fndA T P).2 = 0 ∧ Got T dp P (fndF T P).1) := fun h => by
    have h1 := fndF_ok h
    exact ⟨h1.1, h1.2.1, by rw [h1.1]; exact got hv hnm h1.2.1⟩
  have HK : Hid ((fndF T P).2 = 0 → (fun k => k ≠ 0 ∧ k ≠ 1) (fndF T P).1.kd) := fun h => by
    have h1 := fndF_ok h
    rw [h1.1]
    exact h1.2.2
  have HA : Hid (remT T P = if (fndF T P).2 ≠ 0 then ref T (fndF T P).2 else (Rs.no 0, ⟨5, (fndF T P).1.no, -1, 0, 0, e0, 0⟩, setF (hangT T (fndF T P).1.par (fndF T P).1.nm none) (fndF T P).1.no none)) := rfl
  generalize fndF T P = r at *
  generalize remT T P = A at *
  obtain ⟨⟨par, nm, kd, no⟩, e⟩ := r
  unfold spV spA at hc
  unfold R0 E0 at hW
  clear hL hv hs hb kp k0 k1
  go_enter Tryz.func112, Tryz.ntmps112
  go_wp2_with fail
  refine hc.mono ?_
  rintro e w2 ⟨rfl, hb2⟩
  obtain ⟨hbw, qp, q0, q1⟩ := HX.out w2 hb2
  obtain ⟨W3, hW3, hb3, k3⟩ := one_new w2 #[.int .i64 (par : Int), .string nm, .int .i64 (kd : Int), .int .i64 (no : Int)] 191
  have HB3 : Hid (Below w.heap.size w W3) := hbw.trans (hb3.mono hbw.size)
  have s0 : W3.cell? ⟨w2.heap.size, 0, none⟩ = some (.int .i64 (par : Int)) := (cell_of_heap k3).trans rfl
  have s1 : W3.cell? ⟨w2.heap.size, 1, none⟩ = some (.string nm) := (cell_of_heap k3).trans rfl
  have s2 : W3.cell? ⟨w2.heap.size, 2, none⟩ = some (.int .i64 (kd : Int)) := (cell_of_heap k3).trans rfl
  have s3 : W3.cell? ⟨w2.heap.size, 3, none⟩ = some (.int .i64 (no : Int)) := (cell_of_heap k3).trans rfl
  have hn2 : w.heap.size + 1 + 1 < w2.heap.size := heap_lt q1
  have hne1 : ¬ w2.heap.size = w.heap.size + 1 := by omega
  have hne2 : ¬ w2.heap.size = w.heap.size + 1 + 1 := by omega
  have hne3 : ¬ w.heap.size + 1 = w2.heap.size := by omega
  have hne4 : ¬ w.heap.size + 1 + 1 = w2.heap.size := by omega
  clear hn2
  have HS3 : Hid _ := k3
  have HP3 : Hid _ := (hb3.block _ (heap_lt qp)).trans qp
  have HQ3 : Hid _ := (hb3.block _ (heap_lt q0)).trans q0
  have HE3 : Hid _ := (hb3.block _ (heap_lt q1)).trans q1
  clear hb2 hbw qp q0 q1 hb3 k3 HX hc
  by_cases he : e = 0
  · subst he
    have HA2 : Hid (A = (Rs.no 0, ⟨5, no, -1, 0, 0, e0, 0⟩, setF (hangT T par nm none) no none)) := HA.out.trans (if_neg (by simp))
    have hfile : ∃ (n' : ByteArray) (s : Nat), T.F[no]? = some (some (par, n', s)) ∧ tk T par ∧ nm.size ≤ 32 := by
      obtain ⟨g1, g2, g3⟩ := HG.out rfl
      have hk1 := HK.out rfl
      have hP0 : P ≠ [] := fun e => hk1.2 (by have := g3.rt e; injection this)
      have sp := g3.sp hP0
      have hk2 : kd = 2 := by
        rcases sp.kd HV.out with h | h | h
        · exact absurd h hk1.1
        · exact absurd h hk1.2
        · exact h
      have hm2 : T.M par (ky nm) = some (2, no) := by rw [← hk2]; exact sp.there hk1.1
      obtain ⟨n', s, h1, _⟩ := HV.out.fileF hm2
      exact ⟨n', s, h1, sp.ht, nm_size sp.hn⟩
    obtain ⟨n', s, hF, htk, hns⟩ := hfile
    have HLay3 : Hid (Lay W3 q F nn T) := HLay.out W3 HB3.out
    have hun := unhang_any W3 q F nn T HLay3.out par nm htk (by unfold maxLen; omega)
    clear htk
    go_wp2_with fail
    refine (hun).mono ?_
    rintro e w4 ⟨rfl, hT4⟩
    have HL3 := HLay3.out
    have HQw4 : Hid _ := hT4.keep HL3 HQ3.out (by decide)
    have HEw4 : Hid _ := hT4.keep HL3 HE3.out (by decide)
    have HPw4 : Hid _ := hT4.keep HL3 HP3.out (by decide)
    have HSw4 : Hid _ := hT4.keep HL3 HS3.out (by decide)
    have s0w4 : w4.cell? ⟨w2.heap.size, 0, none⟩ = some (.int .i64 (par : Int)) := (cell_of_heap HSw4.out).trans rfl
    have s1w4 : w4.cell? ⟨w2.heap.size, 1, none⟩ = some (.string nm) := (cell_of_heap HSw4.out).trans rfl
    have s2w4 : w4.cell? ⟨w2.heap.size, 2, none⟩ = some (.int .i64 (kd : Int)) := (cell_of_heap HSw4.out).trans rfl
    have s3w4 : w4.cell? ⟨w2.heap.size, 3, none⟩ = some (.int .i64 (no : Int)) := (cell_of_heap HSw4.out).trans rfl
    have HTw4 : Hid _ := hT4
    clear hT4 HL3
    obtain ⟨ho4, F4, hL4, hF4⟩ := HTw4.out
    have hL4d := hL4.below (Below.refl w4.heap.size w4).drew
    have hfr := freeF_any w4.drew q F4 nn _ hL4d no (par, n', s) hF
    have HLay4 : Hid _ := hL4d
    have HO4 : Hid _ := ho4
    have HF4 : Hid _ := hF4
    clear ho4 hL4 hF4 hF hL4d
    go_wp2_with fail
    go_region_with (go_at_call 146; refine hfr.mono ?_; rintro e w5 ⟨rfl, hT5⟩; have HT5 : Hid (Turn F4 w4.drew w5 q nn (setF (hangT T par nm none) no none)) := hT5; clear hT5)
    all_goals
      have HQw5 : Hid _ := Turn.keep HT5.out HLay4.out HQw4.out (by decide)
      have HEw5 : Hid _ := Turn.keep HT5.out HLay4.out HEw4.out (by decide)
      have HSw5 : Hid _ := Turn.keep HT5.out HLay4.out HSw4.out (by decide)
      have s0w5 : w5.cell? ⟨w2.heap.size, 0, none⟩ = some (.int .i64 (par : Int)) := (cell_of_heap HSw5.out).trans rfl
      have s3w5 : w5.cell? ⟨w2.heap.size, 3, none⟩ = some (.int .i64 (no : Int)) := (cell_of_heap HSw5.out).trans rfl
      have HT : Hid (Turn F w w5 q (nn + 1) (setF (hangT T par nm none) no none)) := (Turn.ahead HB3.out (turn_trans HO4.out HF4.out (Turn.ahead (Below.refl w4.heap.size w4).drew HT5.out))).up (Nat.le_succ _)
      obtain ⟨a0, a1, a2, a3, a4, a5⟩ := cells6 HQw5.out
      obtain ⟨b0, b1, b2, b3, b4, b5, b6⟩ := cells7 HEw5.out
      have fz0 : ∀ j, w5.frozen? ⟨w.heap.size + 1, j, none⟩ = false := fun j => frozen_of_heap HQw5.out
      have fz1 : ∀ j, w5.frozen? ⟨w.heap.size + 1 + 1, j, none⟩ = false := fun j => frozen_of_heap HEw5.out
      (try unfold rsV)
      (try unfold Rs.no)
      (try unfold efV)
      (try unfold Ef.no)
      go_wp2_with fail
      go_region_with fail
      all_goals
        refine with_world (R := fun W => Exit.then _ _ _ _ W) (Q := fun W => Hid (W.heap[w.heap.size + 1]? = some (.cells #[.int .i64 0, .string { data := #[] }, .int .i64 0, .slice none 0 0, .int .i64 0, .int .i64 0] 33 (0, 0))) ∧ Hid (W.heap[w.heap.size + 1 + 1]? = some (.cells #[.int .i64 5, .int .i64 (no : Int), .int .i64 (-1), .int .i64 0, .int .i64 0, .string { data := #[] }, .int .i64 0] 35 (0, 0))) ∧ Hid (Turn F w W q (nn + 1) (setF (hangT T par nm none) no none))) _ ⟨drew_heap (putRE HQw5.out HEw5.out (by omega)).1, drew_heap (putRE HQw5.out HEw5.out (by omega)).2, drew_turn (HT.out.putRE (by omega) (by omega) HQw5.out HEw5.out)⟩ ?_
        rintro W6 ⟨HR6, HE6, HT6⟩
        go_wp2_with fail
        refine bodyPost_ret (results_cell2 rfl _ _ (w.heap.size + 1) 33 _ (0, 0) _ (w.heap.size + 1 + 1) 35 _ (0, 0) _ rfl HR6.out Tryz.underlying33 rfl sizeRes rfl HE6.out Tryz.underlying35 rfl sizeEff) rfl ?_
        rw [HA2.out]
        exact ⟨_, rfl, Pa.Own.nil _ _, HT6.out⟩
  · have HA2 : Hid (A = ref T e) := HA.out.trans (if_pos he)
    go_wp2_with fail
    refine (refused_any W3 e).mono ?_
    rintro e w4 ⟨rfl, hb4⟩
    have HBw4 : Hid (Below w.heap.size w w4) := HB3.out.trans (hb4.mono HB3.out.size)
    have HQw4 : Hid _ := (hb4.block _ (heap_lt HQ3.out)).trans HQ3.out
    have HEw4 : Hid _ := (hb4.block _ (heap_lt HE3.out)).trans HE3.out
    have HPw4 : Hid _ := (hb4.block _ (heap_lt HP3.out)).trans HP3.out
    have HSw4 : Hid _ := (hb4.block _ (heap_lt HS3.out)).trans HS3.out
    clear hb4
    obtain ⟨a0, a1, a2, a3, a4, a5⟩ := cells6 HQw4.out
    obtain ⟨b0, b1, b2, b3, b4, b5, b6⟩ := cells7 HEw4.out
    have fz0 : ∀ j, w4.frozen? ⟨w.heap.size + 1, j, none⟩ = false := fun j => frozen_of_heap HQw4.out
    have fz1 : ∀ j, w4.frozen? ⟨w.heap.size + 1 + 1, j, none⟩ = false := fun j => frozen_of_heap HEw4.out
    (try unfold rsV)
    (try unfold Rs.no)
    (try unfold efV)
    (try unfold Ef.no)
    go_wp2_with fail
    refine bodyPost_ret (results_cell2 rfl _ _ (w.heap.size + 1) 33 _ (0, 0) _ (w.heap.size + 1 + 1) 35 _ (0, 0) _ rfl (putRE HQw4.out HEw4.out (by omega)).1 Tryz.underlying33 rfl sizeRes rfl (putRE HQw4.out HEw4.out (by omega)).2 Tryz.underlying35 rfl sizeEff) rfl ?_
    rw [HA2.out]
    exact ⟨_, rfl, Pa.Own.nil _ _, (HLay.out _ (putRE_below HBw4.out (by omega) (by omega))).turn0 (putRE_below HBw4.out (by omega) (by omega))⟩

end Go.Proofs.YtnfddiabhpandaaGreatDoor.Tr
