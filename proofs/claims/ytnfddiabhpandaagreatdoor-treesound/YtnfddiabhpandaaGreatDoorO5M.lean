import Derived.Test.YtnfddiabhpandaaGreatDoorOaM
import Derived.Sort.KeysCollected
namespace Go.Proofs.YtnfddiabhpandaaGreatDoor.Tr
open Go.RowKit Go.Lib Go.Deep

set_option maxRecDepth 20000 in
set_option maxHeartbeats 1000000 in
theorem resize_any (w : World) (q : Nat) (F : List Nat) (nn : Nat) (T : Ts) (hL : Lay w q F nn T) (i p s s' : Nat) (n : ByteArray) (hi : T.F[i]? = some (some (p, n, s))) :
    Calls Tryz.prog 140 #[.pointer (some ⟨q, 0, none⟩), .int .i64 (i : Int), .int .i64 (s' : Int)] w fun e w' => e = .returned (.tuple #[]) ∧ Turn F w w' q nn (sizeT T i s') := by
  have hg := getF_any w q F nn T hL i p s n hi
  have e1 : sizeT T i s' = setF T i (some (p, n, s')) := by unfold sizeT plF; rw [hi]
  rw [e1]
  have HX : Hid (∀ w2, Below w.heap.size w w2 → ∃ W3, w2.alloc (.cells #[.int .i64 (p : Int), .string n, .int .i64 (s' : Int)] 136) = W3 ∧ Hid (Below w.heap.size w W3.drew) ∧ W3.heap[w2.heap.size]? = some (.cells #[.int .i64 (p : Int), .string n, .int .i64 (s' : Int)] 136 (0, 0)) ∧
      Calls Tryz.prog 159 #[.pointer (some ⟨q, 3, none⟩), .int .i64 (i : Int), .agg #[.int .i64 (p : Int), .string n, .int .i64 (s' : Int)]] W3.drew fun e w' => e = .returned (.tuple #[]) ∧ Turn F w w' q nn (setF T i (some (p, n, s')))) := fun w2 hb => by
    obtain ⟨W3, h3, hb3, k3⟩ := one_new w2 #[.int .i64 (p : Int), .string n, .int .i64 (s' : Int)] 136
    have hbW : Below w.heap.size w W3.drew := (hb.trans (hb3.mono hb.size)).drew
    refine ⟨W3, h3, hbW, k3, (setF_any W3.drew q F nn T (hL.below hbW) i (some_lt hi) p s' n).mono ?_⟩
    rintro e w' ⟨rfl, hT⟩
    exact ⟨rfl, Turn.ahead hbW hT⟩
  clear hL hi e1
  go_enter Tryz.func140, Tryz.ntmps140
  go_wp2_with fail
  refine hg.mono ?_
  rintro e w2 ⟨rfl, hb2⟩
  obtain ⟨W3, hW3, HB3, k3, hset⟩ := HX.out w2 hb2
  have s0 : W3.cell? ⟨w2.heap.size, 0, none⟩ = some (.int .i64 (p : Int)) := (cell_of_heap k3).trans rfl
  have s1 : W3.cell? ⟨w2.heap.size, 1, none⟩ = some (.string n) := (cell_of_heap k3).trans rfl
  have s2 : W3.cell? ⟨w2.heap.size, 2, none⟩ = some (.int .i64 (s' : Int)) := (cell_of_heap k3).trans rfl
  clear hb2 k3 HX hg
  go_wp2_with fail
  go_region_with (go_at_call 159; refine hset.mono ?_; rintro e w4 ⟨rfl, hT4⟩; have HT4 : Hid (Turn F w w4 q nn (setF T i (some (p, n, s')))) := hT4; clear hT4)
  all_goals
    go_wp2
    go_end0
    exact ⟨rfl, HT4.out⟩
set_option maxRecDepth 20000 in
set_option maxHeartbeats 4000000 in
theorem cut_any (w : World) (q : Nat) (F : List Nat) (nn : Nat) (T : Ts) (dp : Nat → Nat) (hL : Lay w q F nn T) (hv : Inv T dp) (P : List ByteArray) (sa : Option Addr) (n sc : Nat) (hs : Pa.See w (.slice sa n sc) P) (hnm : P.all Pa.nm = true) (hl : P.length ≤ 16) (ok oa on : Int) (op ot od : ByteArray) (ta : Option Addr) (tn tc : Nat) (hon : 0 ≤ on) :
    Calls Tryz.prog 110 #[.pointer (some ⟨q, 0, none⟩), .agg #[.int .i64 ok, .string op, .string ot, .int .i64 oa, .int .i64 on, .string od, .slice sa n sc, .slice ta tn tc]] w fun e w' => Did F w w' q (nn + 1) (cutT T P ⟨ok, op, ot, oa, on, od⟩) e := by
  obtain ⟨W, hW, hb, kp, k0, k1⟩ := three_new w #[.int .i64 ok, .string op, .string ot, .int .i64 oa, .int .i64 on, .string od, .slice sa n sc, .slice ta tn tc] R0 E0 84 33 35
  have hc := findFile_any W q F nn T dp (hL.below hb) hv _ P (hs.below hb) hnm hl
  have HX : Hid (∀ w2, Below W.heap.size W w2 → Below w.heap.size w w2 ∧ w2.heap[w.heap.size]? = some (.cells #[.int .i64 ok, .string op, .string ot, .int .i64 oa, .int .i64 on, .string od, .slice sa n sc, .slice ta tn tc] 84 (0, 0)) ∧ w2.heap[w.heap.size + 1]? = some (.cells R0 33 (0, 0)) ∧ w2.heap[w.heap.size + 1 + 1]? = some (.cells E0 35 (0, 0))) := fun w2 h2 => ⟨hb.trans (h2.mono hb.size), (h2.block _ (heap_lt kp)).trans kp, (h2.block _ (heap_lt k0)).trans k0, (h2.block _ (heap_lt k1)).trans k1⟩
  obtain ⟨p0, p1, p2, p3, p4, p5, p6, p7⟩ := cells8 kp
  have HLay : Hid (∀ W', Below w.heap.size w W' → Lay W' q F nn T) := fun W' hb => hL.below hb
  have HV : Hid (Inv T dp) := hv
  have HG : Hid ((fndF T P).2 = 0 → fndF T P = fndA T P ∧ (fndA T P).2 = 0 ∧ Got T dp P (fndF T P).1) := fun h => by
    have h1 := fndF_ok h
    exact ⟨h1.1, h1.2.1, by rw [h1.1]; exact got hv hnm h1.2.1⟩
  have HK : Hid ((fndF T P).2 = 0 → (fun k => k ≠ 0 ∧ k ≠ 1) (fndF T P).1.kd) := fun h => by
    have h1 := fndF_ok h
    rw [h1.1]
    exact h1.2.2
  have HA : Hid (cutT T P ⟨ok, op, ot, oa, on, od⟩ = if (fndF T P).2 ≠ 0 then ref T (fndF T P).2 else if (T.most : Int) < on then ref T 3 else (Rs.no 0, ⟨4, (fndF T P).1.no, -1, 0, on, e0, on⟩, sizeT T (fndF T P).1.no on.toNat)) := rfl
  generalize fndF T P = r at *
  generalize cutT T P ⟨ok, op, ot, oa, on, od⟩ = A at *
  obtain ⟨⟨par, nm, kd, no⟩, e⟩ := r
  unfold spV spA at hc
  unfold R0 E0 at hW
  clear hL hv hs hb kp k0 k1
  go_enter Tryz.func110, Tryz.ntmps110
  go_wp2_with fail
  refine hc.mono ?_
  rintro e w2 ⟨rfl, hb2⟩
  obtain ⟨hbw, qp, q0, q1⟩ := HX.out w2 hb2
  obtain ⟨W3, hW3, hb3, k3⟩ := one_new w2 #[.int .i64 (par : Int), .string nm, .int .i64 (kd : Int), .int .i64 (no : Int)] 191
  have HB3 : Hid (Below w.heap.size w W3) := hbw.trans (hb3.mono hbw.size)
  have s0 : W3.cell? ⟨w2.heap.size, 0, none⟩ = some (.int .i64 (par : Int)) := (cell_of_heap k3).trans rfl
  have s1 : W3.cell? ⟨w2.heap.size, 1, none⟩ = some (.string nm) := (cell_of_heap k3).trans rfl
  have s2 : W3.cell? ⟨w2.heap.size, 2, none⟩ = some (.int .i64 (kd : Int)) := (cell_of_heap k3).trans rfl
  have s3 : W3.cell? ⟨w2.heap.size, 3, none⟩ = some (.int .i64 (no : Int)) := (cell_of_heap k3).trans rfl
  have hn2 : w.heap.size + 1 + 1 < w2.heap.size := heap_lt q1
  have hne1 : ¬ w2.heap.size = w.heap.size + 1 := by omega
  have hne2 : ¬ w2.heap.size = w.heap.size + 1 + 1 := by omega
  have hne3 : ¬ w.heap.size + 1 = w2.heap.size := by omega
  have hne4 : ¬ w.heap.size + 1 + 1 = w2.heap.size := by omega
  clear hn2
  have HS3 : Hid _ := k3
  have HP3 : Hid _ := (hb3.block _ (heap_lt qp)).trans qp
  have HQ3 : Hid _ := (hb3.block _ (heap_lt q0)).trans q0
  have HE3 : Hid _ := (hb3.block _ (heap_lt q1)).trans q1
  clear hb2 hbw qp q0 q1 hb3 k3 HX hc
  by_cases he : e = 0
  · subst he
    have hfile : ∃ (n' : ByteArray) (s : Nat), T.F[no]? = some (some (par, n', s)) ∧ tk T par ∧ nm.size ≤ 32 := by
      obtain ⟨g1, g2, g3⟩ := HG.out rfl
      have hk1 := HK.out rfl
      have hP0 : P ≠ [] := fun e => hk1.2 (by have := g3.rt e; injection this)
      have sp := g3.sp hP0
      have hk2 : kd = 2 := by
        rcases sp.kd HV.out with h | h | h
        · exact absurd h hk1.1
        · exact absurd h hk1.2
        · exact h
      have hm2 : T.M par (ky nm) = some (2, no) := by rw [← hk2]; exact sp.there hk1.1
      obtain ⟨n', s, h1, _⟩ := HV.out.fileF hm2
      exact ⟨n', s, h1, sp.ht, nm_size sp.hn⟩
    obtain ⟨n', s, hF, htk, hns⟩ := hfile
    have HLay3 : Hid (∀ j, Lay (W3.drewN j) q F nn T) := fun j => HLay.out _ (bdr HB3.out j)
    obtain ⟨dv, fv, ld, lf, ms, -, hI3⟩ := HLay3.out 0
    have c6 : W3.cell? ⟨q, 6, none⟩ = some (.int .i64 (T.most : Int)) := hI3.cells.2.2.2.2.2.2
    have p4' : W3.cell? ⟨w.heap.size, 4, none⟩ = some (.int .i64 on) := (cell_of_heap HP3.out).trans rfl
    obtain ⟨M, hM⟩ : ∃ M, T.most = M := ⟨_, rfl⟩
    rw [hM] at c6 HA
    clear hI3 htk hns
    by_cases hbig : (M : Int) < on
    · have HA2 : Hid (A = ref T 3) := HA.out.trans ((if_neg (by simp)).trans (if_pos hbig))
      go_wp2_with fail
      go_quiet (fail)
      go_wp2_with fail
      refine (refused_any _ 3).mono ?_
      rintro e w4 ⟨rfl, hb4⟩
      have hb4' : Below W3.heap.size W3 w4 := (bdr (Below.refl W3.heap.size W3) _).trans hb4
      have HBw4 : Hid (Below w.heap.size w w4) := HB3.out.trans (hb4'.mono HB3.out.size)
      have HQw4 : Hid _ := (hb4'.block _ (heap_lt HQ3.out)).trans HQ3.out
      have HEw4 : Hid _ := (hb4'.block _ (heap_lt HE3.out)).trans HE3.out
      clear hb4 hb4'
      obtain ⟨a0, a1, a2, a3, a4, a5⟩ := cells6 HQw4.out
      obtain ⟨b0, b1, b2, b3, b4, b5, b6⟩ := cells7 HEw4.out
      have fz0 : ∀ j, w4.frozen? ⟨w.heap.size + 1, j, none⟩ = false := fun j => frozen_of_heap HQw4.out
      have fz1 : ∀ j, w4.frozen? ⟨w.heap.size + 1 + 1, j, none⟩ = false := fun j => frozen_of_heap HEw4.out
      (try unfold rsV)
      (try unfold Rs.no)
      (try unfold efV)
      (try unfold Ef.no)
      go_wp2_with fail
      refine bodyPost_ret (results_cell2 rfl _ _ (w.heap.size + 1) 33 _ (0, 0) _ (w.heap.size + 1 + 1) 35 _ (0, 0) _ rfl (putRE HQw4.out HEw4.out (by omega)).1 Tryz.underlying33 rfl sizeRes rfl (putRE HQw4.out HEw4.out (by omega)).2 Tryz.underlying35 rfl sizeEff) rfl ?_
      rw [HA2.out]
      exact ⟨_, rfl, Pa.Own.nil _ _, (HLay.out _ (putRE_below HBw4.out (by omega) (by omega))).turn0 (putRE_below HBw4.out (by omega) (by omega))⟩
    · have HA2 : Hid (A = (Rs.no 0, ⟨4, no, -1, 0, on, e0, on⟩, sizeT T no on.toNat)) := HA.out.trans ((if_neg (by simp)).trans (if_neg hbig))
      obtain ⟨s', rfl⟩ : ∃ s' : Nat, on = s' := ⟨on.toNat, by omega⟩
      have HRZ : Hid (∀ j, Calls Tryz.prog 140 #[.pointer (some ⟨q, 0, none⟩), .int .i64 (no : Int), .int .i64 (s' : Int)] (W3.drewN j) fun e w' => e = .returned (.tuple #[]) ∧ Hid (Turn F (W3.drewN j) w' q nn (sizeT T no s'))) := fun j => resize_any _ q F nn T (HLay3.out j) no par s s' n' hF
      have HFX : Hid ((sizeT T no s').F[no]? = some (some (par, n', s'))) := by
        have e1 : sizeT T no s' = setF T no (some (par, n', s')) := by unfold sizeT plF; rw [hF]
        show _ = _
        rw [e1, setF_get T no _ (Nat.le_of_lt (some_lt hF)), if_pos rfl]
      clear hF
      go_wp2_with fail
      go_quiet (fail)
      go_wp2_with fail
      refine (HRZ.out _).mono ?_
      rintro e w4 ⟨rfl, HT4⟩
      have HQw4 : Hid _ := Turn.keep HT4.out (HLay3.out _) HQ3.out (by decide)
      have HEw4 : Hid _ := Turn.keep HT4.out (HLay3.out _) HE3.out (by decide)
      have HPw4 : Hid _ := Turn.keep HT4.out (HLay3.out _) HP3.out (by decide)
      have HSw4 : Hid _ := Turn.keep HT4.out (HLay3.out _) HS3.out (by decide)
      have HTw4 : Hid (Turn F w w4 q (nn + 1) (sizeT T no s')) := (Turn.ahead (bdr HB3.out _) HT4.out).up (Nat.le_succ _)
      have s3w4 : w4.cell? ⟨w2.heap.size, 3, none⟩ = some (.int .i64 (no : Int)) := (cell_of_heap HSw4.out).trans rfl
      obtain ⟨ho4, F4, hL4, hF4⟩ := HTw4.out
      have hef := eff_any w4 q F4 (nn + 1) _ hL4 4 no par s' n' HFX.out
      clear ho4 hL4 hF4 HRZ HT4 HFX
      unfold efV at hef
      go_wp2_with fail
      refine hef.mono ?_
      rintro e w5 ⟨rfl, hb5⟩
      obtain ⟨W6, hW6, hb6, k6⟩ := one_new w5 #[.int .i64 4, .int .i64 (no : Int), .int .i64 (-1), .int .i64 0, .int .i64 (s' : Int), .string e0, .int .i64 (s' : Int)] 35
      have hb46 : Below w4.heap.size w4 W6 := hb5.trans (hb6.mono hb5.size)
      have p4i : (w5.alloc (.cells #[.int .i64 4, .int .i64 (no : Int), .int .i64 (-1), .int .i64 0, .int .i64 0, .string e0, .int .i64 (s' : Int)] 35)).cell? ⟨w.heap.size, 4, none⟩ = some (.int .i64 (s' : Int)) := by
        rw [cell_of_heap ((Below.heap_alloc _ _ _ (Nat.lt_of_lt_of_le (heap_lt HPw4.out) hb5.size)).trans ((hb5.block _ (heap_lt HPw4.out)).trans HPw4.out))]
        rfl
      obtain ⟨y0, y1, y2, y3, y4, y5, y6⟩ := cells7 k6
      have HQW6 : Hid _ := (hb46.block _ (heap_lt HQw4.out)).trans HQw4.out
      have HEW6 : Hid _ := (hb46.block _ (heap_lt HEw4.out)).trans HEw4.out
      have HT : Hid (Turn F w W6 q (nn + 1) (sizeT T no s')) := HTw4.out.below hb46
      have hlt5 : w.heap.size + 1 + 1 < w5.heap.size := Nat.lt_of_lt_of_le (heap_lt HEw4.out) hb5.size
      have hne5 : ¬ w5.heap.size = w.heap.size + 1 := by omega
      have hne6 : ¬ w5.heap.size = w.heap.size + 1 + 1 := by omega
      have hne7 : ¬ w.heap.size + 1 = w5.heap.size := by omega
      have hne8 : ¬ w.heap.size + 1 + 1 = w5.heap.size := by omega
      clear hb5 hb6 k6 hb46 hef hlt5
      obtain ⟨a0, a1, a2, a3, a4, a5⟩ := cells6 HQW6.out
      obtain ⟨b0, b1, b2, b3, b4, b5, b6⟩ := cells7 HEW6.out
      have fz0 : ∀ j, W6.frozen? ⟨w.heap.size + 1, j, none⟩ = false := fun j => frozen_of_heap HQW6.out
      have fz1 : ∀ j, W6.frozen? ⟨w.heap.size + 1 + 1, j, none⟩ = false := fun j => frozen_of_heap HEW6.out
      (try unfold rsV)
      (try unfold Rs.no)
      (try unfold efV)
      (try unfold Ef.no)
      go_wp2_with fail
      go_region_with fail
      all_goals
        refine with_world (R := fun W => Exit.then _ _ _ _ W) (Q := fun W => Hid (W.heap[w.heap.size + 1]? = some (.cells #[.int .i64 0, .string { data := #[] }, .int .i64 0, .slice none 0 0, .int .i64 0, .int .i64 0] 33 (0, 0))) ∧ Hid (W.heap[w.heap.size + 1 + 1]? = some (.cells #[.int .i64 4, .int .i64 (no : Int), .int .i64 (-1), .int .i64 0, .int .i64 (s' : Int), .string { data := #[] }, .int .i64 (s' : Int)] 35 (0, 0))) ∧ Hid (Turn F w W q (nn + 1) (sizeT T no s'))) _ ⟨drew_heap (putRE HQW6.out HEW6.out (by omega)).1, drew_heap (putRE HQW6.out HEW6.out (by omega)).2, drew_turn (HT.out.putRE (by omega) (by omega) HQW6.out HEW6.out)⟩ ?_
        rintro W6 ⟨HR6, HE6, HT6⟩
        go_wp2_with fail
        refine bodyPost_ret (results_cell2 rfl _ _ (w.heap.size + 1) 33 _ (0, 0) _ (w.heap.size + 1 + 1) 35 _ (0, 0) _ rfl HR6.out Tryz.underlying33 rfl sizeRes rfl HE6.out Tryz.underlying35 rfl sizeEff) rfl ?_
        rw [HA2.out]
        exact ⟨_, rfl, Pa.Own.nil _ _, HT6.out⟩
  · have HA2 : Hid (A = ref T e) := HA.out.trans (if_pos he)
    go_wp2_with fail
    refine (refused_any W3 e).mono ?_
    rintro e w4 ⟨rfl, hb4⟩
    have HBw4 : Hid (Below w.heap.size w w4) := HB3.out.trans (hb4.mono HB3.out.size)
    have HQw4 : Hid _ := (hb4.block _ (heap_lt HQ3.out)).trans HQ3.out
    have HEw4 : Hid _ := (hb4.block _ (heap_lt HE3.out)).trans HE3.out
    have HPw4 : Hid _ := (hb4.block _ (heap_lt HP3.out)).trans HP3.out
    have HSw4 : Hid _ := (hb4.block _ (heap_lt HS3.out)).trans HS3.out
    clear hb4
    obtain ⟨a0, a1, a2, a3, a4, a5⟩ := cells6 HQw4.out
    obtain ⟨b0, b1, b2, b3, b4, b5, b6⟩ := cells7 HEw4.out
    have fz0 : ∀ j, w4.frozen? ⟨w.heap.size + 1, j, none⟩ = false := fun j => frozen_of_heap HQw4.out
    have fz1 : ∀ j, w4.frozen? ⟨w.heap.size + 1 + 1, j, none⟩ = false := fun j => frozen_of_heap HEw4.out
    (try unfold rsV)
    (try unfold Rs.no)
    (try unfold efV)
    (try unfold Ef.no)
    go_wp2_with fail
    refine bodyPost_ret (results_cell2 rfl _ _ (w.heap.size + 1) 33 _ (0, 0) _ (w.heap.size + 1 + 1) 35 _ (0, 0) _ rfl (putRE HQw4.out HEw4.out (by omega)).1 Tryz.underlying33 rfl sizeRes rfl (putRE HQw4.out HEw4.out (by omega)).2 Tryz.underlying35 rfl sizeEff) rfl ?_
    rw [HA2.out]
    exact ⟨_, rfl, Pa.Own.nil _ _, (HLay.out _ (putRE_below HBw4.out (by omega) (by omega))).turn0 (putRE_below HBw4.out (by omega) (by omega))⟩

end Go.Proofs.YtnfddiabhpandaaGreatDoor.Tr

namespace Go.Proofs.YtnfddiabhpandaaGreatDoor.Tr
open Go.RowKit Go.Lib Go.Deep

set_option maxRecDepth 20000 in
set_option maxHeartbeats 4000000 in
theorem read_any (w : World) (q : Nat) (F : List Nat) (nn : Nat) (T : Ts) (dp : Nat → Nat) (hL : Lay w q F nn T) (hv : Inv T dp) (P : List ByteArray) (sa : Option Addr) (n sc : Nat) (hs : Pa.See w (.slice sa n sc) P) (hnm : P.all Pa.nm = true) (hl : P.length ≤ 16) (ok oa on : Int) (op ot od : ByteArray) (ta : Option Addr) (tn tc : Nat) (hon : 0 ≤ on) (hoa : 0 ≤ oa) (hoa1 : oa ≤ 9223372036854775807) :
    Calls Tryz.prog 108 #[.pointer (some ⟨q, 0, none⟩), .agg #[.int .i64 ok, .string op, .string ot, .int .i64 oa, .int .i64 on, .string od, .slice sa n sc, .slice ta tn tc]] w fun e w' => Did F w w' q (nn + 1) (reaT T P ⟨ok, op, ot, oa, on, od⟩) e := by
  obtain ⟨W, hW, hb, kp, k0, k1⟩ := three_new w #[.int .i64 ok, .string op, .string ot, .int .i64 oa, .int .i64 on, .string od, .slice sa n sc, .slice ta tn tc] R0 E0 84 33 35
  have hc := findFile_any W q F nn T dp (hL.below hb) hv _ P (hs.below hb) hnm hl
  have HX : Hid (∀ w2, Below W.heap.size W w2 → Below w.heap.size w w2 ∧ w2.heap[w.heap.size]? = some (.cells #[.int .i64 ok, .string op, .string ot, .int .i64 oa, .int .i64 on, .string od, .slice sa n sc, .slice ta tn tc] 84 (0, 0)) ∧ w2.heap[w.heap.size + 1]? = some (.cells R0 33 (0, 0)) ∧ w2.heap[w.heap.size + 1 + 1]? = some (.cells E0 35 (0, 0))) := fun w2 h2 => ⟨hb.trans (h2.mono hb.size), (h2.block _ (heap_lt kp)).trans kp, (h2.block _ (heap_lt k0)).trans k0, (h2.block _ (heap_lt k1)).trans k1⟩
  obtain ⟨p0, p1, p2, p3, p4, p5, p6, p7⟩ := cells8 kp
  have HLay : Hid (∀ W', Below w.heap.size w W' → Lay W' q F nn T) := fun W' hb => hL.below hb
  have HV : Hid (Inv T dp) := hv
  have HG : Hid ((fndF T P).2 = 0 → fndF T P = fndA T P ∧ (fndA T P).2 = 0 ∧ Got T dp P (fndF T P).1) := fun h => by
    have h1 := fndF_ok h
    exact ⟨h1.1, h1.2.1, by rw [h1.1]; exact got hv hnm h1.2.1⟩
  have HK : Hid ((fndF T P).2 = 0 → (fun k => k ≠ 0 ∧ k ≠ 1) (fndF T P).1.kd) := fun h => by
    have h1 := fndF_ok h
    rw [h1.1]
    exact h1.2.2
  have HA : Hid (reaT T P ⟨ok, op, ot, oa, on, od⟩ = if (fndF T P).2 ≠ 0 then ref T (fndF T P).2 else (⟨0, min on (max ((szF T (fndF T P).1.no : Int) - oa) 0), [], 0, 0⟩, ⟨2, (fndF T P).1.no, -1, oa, min on (max ((szF T (fndF T P).1.no : Int) - oa) 0), e0, szF T (fndF T P).1.no⟩, T)) := rfl
  generalize fndF T P = r at *
  generalize reaT T P ⟨ok, op, ot, oa, on, od⟩ = A at *
  obtain ⟨⟨par, nm, kd, no⟩, e⟩ := r
  unfold spV spA at hc
  unfold R0 E0 at hW
  clear hL hv hs hb kp k0 k1
  go_enter Tryz.func108, Tryz.ntmps108
  go_wp2_with fail
  refine hc.mono ?_
  rintro e w2 ⟨rfl, hb2⟩
  obtain ⟨hbw, qp, q0, q1⟩ := HX.out w2 hb2
  obtain ⟨W3, hW3, hb3, k3⟩ := one_new w2 #[.int .i64 (par : Int), .string nm, .int .i64 (kd : Int), .int .i64 (no : Int)] 191
  have HB3 : Hid (Below w.heap.size w W3) := hbw.trans (hb3.mono hbw.size)
  have s0 : W3.cell? ⟨w2.heap.size, 0, none⟩ = some (.int .i64 (par : Int)) := (cell_of_heap k3).trans rfl
  have s1 : W3.cell? ⟨w2.heap.size, 1, none⟩ = some (.string nm) := (cell_of_heap k3).trans rfl
  have s2 : W3.cell? ⟨w2.heap.size, 2, none⟩ = some (.int .i64 (kd : Int)) := (cell_of_heap k3).trans rfl
  have s3 : W3.cell? ⟨w2.heap.size, 3, none⟩ = some (.int .i64 (no : Int)) := (cell_of_heap k3).trans rfl
  have hn2 : w.heap.size + 1 + 1 < w2.heap.size := heap_lt q1
  have hne1 : ¬ w2.heap.size = w.heap.size + 1 := by omega
  have hne2 : ¬ w2.heap.size = w.heap.size + 1 + 1 := by omega
  have hne3 : ¬ w.heap.size + 1 = w2.heap.size := by omega
  have hne4 : ¬ w.heap.size + 1 + 1 = w2.heap.size := by omega
  clear hn2
  have HS3 : Hid _ := k3
  have HP3 : Hid _ := (hb3.block _ (heap_lt qp)).trans qp
  have HQ3 : Hid _ := (hb3.block _ (heap_lt q0)).trans q0
  have HE3 : Hid _ := (hb3.block _ (heap_lt q1)).trans q1
  clear hb2 hbw qp q0 q1 hb3 k3 HX hc
  by_cases he : e = 0
  · subst he
    have hfile : ∃ (n' : ByteArray) (s : Nat), T.F[no]? = some (some (par, n', s)) ∧ tk T par ∧ nm.size ≤ 32 := by
      obtain ⟨g1, g2, g3⟩ := HG.out rfl
      have hk1 := HK.out rfl
      have hP0 : P ≠ [] := fun e => hk1.2 (by have := g3.rt e; injection this)
      have sp := g3.sp hP0
      have hk2 : kd = 2 := by
        rcases sp.kd HV.out with h | h | h
        · exact absurd h hk1.1
        · exact absurd h hk1.2
        · exact h
      have hm2 : T.M par (ky nm) = some (2, no) := by rw [← hk2]; exact sp.there hk1.1
      obtain ⟨n', s, h1, _⟩ := HV.out.fileF hm2
      exact ⟨n', s, h1, sp.ht, nm_size sp.hn⟩
    obtain ⟨n', s, hF, htk, hns⟩ := hfile
    have hsz : szF T no = s := by unfold szF; rw [hF]
    have hsb : s ≤ 65536 := by
      obtain ⟨dv, fv, ld, lf, ms, -, hI3⟩ := HLay.out W3 HB3.out
      have := HV.out.hS _ _ _ _ hF
      have := hI3.lim
      omega
    have HA2 : Hid (A = (⟨0, min on (max ((s : Int) - oa) 0), [], 0, 0⟩, ⟨2, no, -1, oa, min on (max ((s : Int) - oa) 0), e0, s⟩, T)) := by
      have := HA.out.trans (if_neg (by simp))
      simp only [hsz] at this
      exact this
    have hef := eff_any W3 q F nn T (HLay.out W3 HB3.out) 2 no par s n' hF
    clear htk hns hF hsz
    unfold efV at hef
    go_wp2_with fail
    refine hef.mono ?_
    rintro e w5 ⟨rfl, hb5⟩
    have HPo : Hid (∀ o, (w5.alloc o).heap[w.heap.size]? = _) := fun o => (Below.heap_alloc w5 o _ (Nat.lt_of_lt_of_le (heap_lt HP3.out) hb5.size)).trans ((hb5.block _ (heap_lt HP3.out)).trans HP3.out)
    have p3o : ∀ o, (w5.alloc o).cell? ⟨w.heap.size, 3, none⟩ = some (.int .i64 oa) := fun o => (cell_of_heap (HPo.out o)).trans rfl
    have p4o : ∀ o, (w5.alloc o).cell? ⟨w.heap.size, 4, none⟩ = some (.int .i64 on) := fun o => (cell_of_heap (HPo.out o)).trans rfl
    have HO : Hid (w.heap.size + 1 + 1 < w5.heap.size ∧ (∀ o, (w5.alloc o).heap[w.heap.size + 1]? = some (.cells R0 33 (0, 0))) ∧ (∀ o, (w5.alloc o).heap[w.heap.size + 1 + 1]? = some (.cells E0 35 (0, 0))) ∧ ∀ o, Turn F w (w5.alloc o) q (nn + 1) T) := by
      have hbw5 : Below w.heap.size w w5 := HB3.out.trans (hb5.mono HB3.out.size)
      refine ⟨Nat.lt_of_lt_of_le (heap_lt HE3.out) hb5.size, fun o => (Below.heap_alloc w5 o _ (Nat.lt_of_lt_of_le (heap_lt HQ3.out) hb5.size)).trans ((hb5.block _ (heap_lt HQ3.out)).trans HQ3.out), fun o => (Below.heap_alloc w5 o _ (Nat.lt_of_lt_of_le (heap_lt HE3.out) hb5.size)).trans ((hb5.block _ (heap_lt HE3.out)).trans HE3.out), fun o => ?_⟩
      have hbo : Below w.heap.size w (w5.alloc o) := hbw5.alloc hbw5.size _
      exact (HLay.out _ hbo).turn0 hbo
    clear hb5 hef
    go_wp2_with fail
    all_goals
      first
        | (have hN : min on (max ((s : Int) - oa) 0) = on := by omega
           rw [hN] at HA2
           obtain ⟨hlt5, HQo, HEo, HTo⟩ := HO.out
           have a0 : ∀ o, (w5.alloc o).cell? ⟨w.heap.size + 1, 0, none⟩ = some (.int .i64 0) := fun o => (cell_of_heap (HQo o)).trans rfl
           have a1 : ∀ o, (w5.alloc o).cell? ⟨w.heap.size + 1, 1, none⟩ = some (.string { data := #[] }) := fun o => (cell_of_heap (HQo o)).trans rfl
           have a2 : ∀ o, (w5.alloc o).cell? ⟨w.heap.size + 1, 2, none⟩ = some (.int .i64 0) := fun o => (cell_of_heap (HQo o)).trans rfl
           have a3 : ∀ o, (w5.alloc o).cell? ⟨w.heap.size + 1, 3, none⟩ = some (.slice none 0 0) := fun o => (cell_of_heap (HQo o)).trans rfl
           have a4 : ∀ o, (w5.alloc o).cell? ⟨w.heap.size + 1, 4, none⟩ = some (.int .i64 0) := fun o => (cell_of_heap (HQo o)).trans rfl
           have a5 : ∀ o, (w5.alloc o).cell? ⟨w.heap.size + 1, 5, none⟩ = some (.int .i64 0) := fun o => (cell_of_heap (HQo o)).trans rfl
           have b0 : ∀ o, (w5.alloc o).cell? ⟨w.heap.size + 1 + 1, 0, none⟩ = some (.int .i64 0) := fun o => (cell_of_heap (HEo o)).trans rfl
           have b1 : ∀ o, (w5.alloc o).cell? ⟨w.heap.size + 1 + 1, 1, none⟩ = some (.int .i64 0) := fun o => (cell_of_heap (HEo o)).trans rfl
           have b2 : ∀ o, (w5.alloc o).cell? ⟨w.heap.size + 1 + 1, 2, none⟩ = some (.int .i64 0) := fun o => (cell_of_heap (HEo o)).trans rfl
           have b3 : ∀ o, (w5.alloc o).cell? ⟨w.heap.size + 1 + 1, 3, none⟩ = some (.int .i64 0) := fun o => (cell_of_heap (HEo o)).trans rfl
           have b4 : ∀ o, (w5.alloc o).cell? ⟨w.heap.size + 1 + 1, 4, none⟩ = some (.int .i64 0) := fun o => (cell_of_heap (HEo o)).trans rfl
           have b5 : ∀ o, (w5.alloc o).cell? ⟨w.heap.size + 1 + 1, 5, none⟩ = some (.string { data := #[] }) := fun o => (cell_of_heap (HEo o)).trans rfl
           have b6 : ∀ o, (w5.alloc o).cell? ⟨w.heap.size + 1 + 1, 6, none⟩ = some (.int .i64 0) := fun o => (cell_of_heap (HEo o)).trans rfl
           have fz0 : ∀ o j, (w5.alloc o).frozen? ⟨w.heap.size + 1, j, none⟩ = false := fun o j => frozen_of_heap (HQo o)
           have fz1 : ∀ o j, (w5.alloc o).frozen? ⟨w.heap.size + 1 + 1, j, none⟩ = false := fun o j => frozen_of_heap (HEo o)
           have hne5 : ¬ w5.heap.size = w.heap.size + 1 := by omega
           have hne6 : ¬ w5.heap.size = w.heap.size + 1 + 1 := by omega
           have hne7 : ¬ w.heap.size + 1 = w5.heap.size := by omega
           have hne8 : ¬ w.heap.size + 1 + 1 = w5.heap.size := by omega
           have HQo' : Hid _ := HQo
           have HEo' : Hid _ := HEo
           have HTo' : Hid _ := HTo
           clear HQo HEo HTo hlt5
           go_wp2_with fail
           go_region_with fail
           all_goals
             refine with_world (R := fun W => Exit.then _ _ _ _ W) (Q := fun W => Hid (W.heap[w.heap.size + 1]? = some (.cells #[.int .i64 0, .string { data := #[] }, .int .i64 on, .slice none 0 0, .int .i64 0, .int .i64 0] 33 (0, 0))) ∧ Hid (W.heap[w.heap.size + 1 + 1]? = some (.cells #[.int .i64 2, .int .i64 (no : Int), .int .i64 (-1), .int .i64 oa, .int .i64 on, .string e0, .int .i64 (s : Int)] 35 (0, 0))) ∧ Hid (Turn F w W q (nn + 1) (T))) _ ⟨drew_heap (putRE (HQo'.out _) (HEo'.out _) (by omega)).1, drew_heap (putRE (HQo'.out _) (HEo'.out _) (by omega)).2, drew_turn (Turn.putRE (HTo'.out _) (by omega) (by omega) (HQo'.out _) (HEo'.out _))⟩ ?_
             rintro W6 ⟨HR6, HE6, HT6⟩
             go_wp2_with fail
             refine bodyPost_ret (results_cell2 rfl _ _ (w.heap.size + 1) 33 _ (0, 0) _ (w.heap.size + 1 + 1) 35 _ (0, 0) _ rfl HR6.out Tryz.underlying33 rfl sizeRes rfl HE6.out Tryz.underlying35 rfl sizeEff) rfl ?_
             rw [HA2.out]
             exact ⟨_, rfl, Pa.Own.nil _ _, HT6.out⟩)
        | (have hN : min on (max ((s : Int) - oa) 0) = ((s : Int) - oa) := by omega
           rw [hN] at HA2
           obtain ⟨hlt5, HQo, HEo, HTo⟩ := HO.out
           have a0 : ∀ o, (w5.alloc o).cell? ⟨w.heap.size + 1, 0, none⟩ = some (.int .i64 0) := fun o => (cell_of_heap (HQo o)).trans rfl
           have a1 : ∀ o, (w5.alloc o).cell? ⟨w.heap.size + 1, 1, none⟩ = some (.string { data := #[] }) := fun o => (cell_of_heap (HQo o)).trans rfl
           have a2 : ∀ o, (w5.alloc o).cell? ⟨w.heap.size + 1, 2, none⟩ = some (.int .i64 0) := fun o => (cell_of_heap (HQo o)).trans rfl
           have a3 : ∀ o, (w5.alloc o).cell? ⟨w.heap.size + 1, 3, none⟩ = some (.slice none 0 0) := fun o => (cell_of_heap (HQo o)).trans rfl
           have a4 : ∀ o, (w5.alloc o).cell? ⟨w.heap.size + 1, 4, none⟩ = some (.int .i64 0) := fun o => (cell_of_heap (HQo o)).trans rfl
           have a5 : ∀ o, (w5.alloc o).cell? ⟨w.heap.size + 1, 5, none⟩ = some (.int .i64 0) := fun o => (cell_of_heap (HQo o)).trans rfl
           have b0 : ∀ o, (w5.alloc o).cell? ⟨w.heap.size + 1 + 1, 0, none⟩ = some (.int .i64 0) := fun o => (cell_of_heap (HEo o)).trans rfl
           have b1 : ∀ o, (w5.alloc o).cell? ⟨w.heap.size + 1 + 1, 1, none⟩ = some (.int .i64 0) := fun o => (cell_of_heap (HEo o)).trans rfl
           have b2 : ∀ o, (w5.alloc o).cell? ⟨w.heap.size + 1 + 1, 2, none⟩ = some (.int .i64 0) := fun o => (cell_of_heap (HEo o)).trans rfl
           have b3 : ∀ o, (w5.alloc o).cell? ⟨w.heap.size + 1 + 1, 3, none⟩ = some (.int .i64 0) := fun o => (cell_of_heap (HEo o)).trans rfl
           have b4 : ∀ o, (w5.alloc o).cell? ⟨w.heap.size + 1 + 1, 4, none⟩ = some (.int .i64 0) := fun o => (cell_of_heap (HEo o)).trans rfl
           have b5 : ∀ o, (w5.alloc o).cell? ⟨w.heap.size + 1 + 1, 5, none⟩ = some (.string { data := #[] }) := fun o => (cell_of_heap (HEo o)).trans rfl
           have b6 : ∀ o, (w5.alloc o).cell? ⟨w.heap.size + 1 + 1, 6, none⟩ = some (.int .i64 0) := fun o => (cell_of_heap (HEo o)).trans rfl
           have fz0 : ∀ o j, (w5.alloc o).frozen? ⟨w.heap.size + 1, j, none⟩ = false := fun o j => frozen_of_heap (HQo o)
           have fz1 : ∀ o j, (w5.alloc o).frozen? ⟨w.heap.size + 1 + 1, j, none⟩ = false := fun o j => frozen_of_heap (HEo o)
           have hne5 : ¬ w5.heap.size = w.heap.size + 1 := by omega
           have hne6 : ¬ w5.heap.size = w.heap.size + 1 + 1 := by omega
           have hne7 : ¬ w.heap.size + 1 = w5.heap.size := by omega
           have hne8 : ¬ w.heap.size + 1 + 1 = w5.heap.size := by omega
           have HQo' : Hid _ := HQo
           have HEo' : Hid _ := HEo
           have HTo' : Hid _ := HTo
           clear HQo HEo HTo hlt5
           go_wp2_with fail
           go_region_with fail
           all_goals
             refine with_world (R := fun W => Exit.then _ _ _ _ W) (Q := fun W => Hid (W.heap[w.heap.size + 1]? = some (.cells #[.int .i64 0, .string { data := #[] }, .int .i64 ((s : Int) - oa), .slice none 0 0, .int .i64 0, .int .i64 0] 33 (0, 0))) ∧ Hid (W.heap[w.heap.size + 1 + 1]? = some (.cells #[.int .i64 2, .int .i64 (no : Int), .int .i64 (-1), .int .i64 oa, .int .i64 ((s : Int) - oa), .string e0, .int .i64 (s : Int)] 35 (0, 0))) ∧ Hid (Turn F w W q (nn + 1) (T))) _ ⟨drew_heap (putRE (HQo'.out _) (HEo'.out _) (by omega)).1, drew_heap (putRE (HQo'.out _) (HEo'.out _) (by omega)).2, drew_turn (Turn.putRE (HTo'.out _) (by omega) (by omega) (HQo'.out _) (HEo'.out _))⟩ ?_
             rintro W6 ⟨HR6, HE6, HT6⟩
             go_wp2_with fail
             refine bodyPost_ret (results_cell2 rfl _ _ (w.heap.size + 1) 33 _ (0, 0) _ (w.heap.size + 1 + 1) 35 _ (0, 0) _ rfl HR6.out Tryz.underlying33 rfl sizeRes rfl HE6.out Tryz.underlying35 rfl sizeEff) rfl ?_
             rw [HA2.out]
             exact ⟨_, rfl, Pa.Own.nil _ _, HT6.out⟩)
        | (have hN : min on (max ((s : Int) - oa) 0) = 0 := by omega
           rw [hN] at HA2
           obtain ⟨hlt5, HQo, HEo, HTo⟩ := HO.out
           have a0 : ∀ o, (w5.alloc o).cell? ⟨w.heap.size + 1, 0, none⟩ = some (.int .i64 0) := fun o => (cell_of_heap (HQo o)).trans rfl
           have a1 : ∀ o, (w5.alloc o).cell? ⟨w.heap.size + 1, 1, none⟩ = some (.string { data := #[] }) := fun o => (cell_of_heap (HQo o)).trans rfl
           have a2 : ∀ o, (w5.alloc o).cell? ⟨w.heap.size + 1, 2, none⟩ = some (.int .i64 0) := fun o => (cell_of_heap (HQo o)).trans rfl
           have a3 : ∀ o, (w5.alloc o).cell? ⟨w.heap.size + 1, 3, none⟩ = some (.slice none 0 0) := fun o => (cell_of_heap (HQo o)).trans rfl
           have a4 : ∀ o, (w5.alloc o).cell? ⟨w.heap.size + 1, 4, none⟩ = some (.int .i64 0) := fun o => (cell_of_heap (HQo o)).trans rfl
           have a5 : ∀ o, (w5.alloc o).cell? ⟨w.heap.size + 1, 5, none⟩ = some (.int .i64 0) := fun o => (cell_of_heap (HQo o)).trans rfl
           have b0 : ∀ o, (w5.alloc o).cell? ⟨w.heap.size + 1 + 1, 0, none⟩ = some (.int .i64 0) := fun o => (cell_of_heap (HEo o)).trans rfl
           have b1 : ∀ o, (w5.alloc o).cell? ⟨w.heap.size + 1 + 1, 1, none⟩ = some (.int .i64 0) := fun o => (cell_of_heap (HEo o)).trans rfl
           have b2 : ∀ o, (w5.alloc o).cell? ⟨w.heap.size + 1 + 1, 2, none⟩ = some (.int .i64 0) := fun o => (cell_of_heap (HEo o)).trans rfl
           have b3 : ∀ o, (w5.alloc o).cell? ⟨w.heap.size + 1 + 1, 3, none⟩ = some (.int .i64 0) := fun o => (cell_of_heap (HEo o)).trans rfl
           have b4 : ∀ o, (w5.alloc o).cell? ⟨w.heap.size + 1 + 1, 4, none⟩ = some (.int .i64 0) := fun o => (cell_of_heap (HEo o)).trans rfl
           have b5 : ∀ o, (w5.alloc o).cell? ⟨w.heap.size + 1 + 1, 5, none⟩ = some (.string { data := #[] }) := fun o => (cell_of_heap (HEo o)).trans rfl
           have b6 : ∀ o, (w5.alloc o).cell? ⟨w.heap.size + 1 + 1, 6, none⟩ = some (.int .i64 0) := fun o => (cell_of_heap (HEo o)).trans rfl
           have fz0 : ∀ o j, (w5.alloc o).frozen? ⟨w.heap.size + 1, j, none⟩ = false := fun o j => frozen_of_heap (HQo o)
           have fz1 : ∀ o j, (w5.alloc o).frozen? ⟨w.heap.size + 1 + 1, j, none⟩ = false := fun o j => frozen_of_heap (HEo o)
           have hne5 : ¬ w5.heap.size = w.heap.size + 1 := by omega
           have hne6 : ¬ w5.heap.size = w.heap.size + 1 + 1 := by omega
           have hne7 : ¬ w.heap.size + 1 = w5.heap.size := by omega
           have hne8 : ¬ w.heap.size + 1 + 1 = w5.heap.size := by omega
           have HQo' : Hid _ := HQo
           have HEo' : Hid _ := HEo
           have HTo' : Hid _ := HTo
           clear HQo HEo HTo hlt5
           go_wp2_with fail
           go_region_with fail
           all_goals
             refine with_world (R := fun W => Exit.then _ _ _ _ W) (Q := fun W => Hid (W.heap[w.heap.size + 1]? = some (.cells #[.int .i64 0, .string { data := #[] }, .int .i64 0, .slice none 0 0, .int .i64 0, .int .i64 0] 33 (0, 0))) ∧ Hid (W.heap[w.heap.size + 1 + 1]? = some (.cells #[.int .i64 2, .int .i64 (no : Int), .int .i64 (-1), .int .i64 oa, .int .i64 0, .string e0, .int .i64 (s : Int)] 35 (0, 0))) ∧ Hid (Turn F w W q (nn + 1) (T))) _ ⟨drew_heap (putRE (HQo'.out _) (HEo'.out _) (by omega)).1, drew_heap (putRE (HQo'.out _) (HEo'.out _) (by omega)).2, drew_turn (Turn.putRE (HTo'.out _) (by omega) (by omega) (HQo'.out _) (HEo'.out _))⟩ ?_
             rintro W6 ⟨HR6, HE6, HT6⟩
             go_wp2_with fail
             refine bodyPost_ret (results_cell2 rfl _ _ (w.heap.size + 1) 33 _ (0, 0) _ (w.heap.size + 1 + 1) 35 _ (0, 0) _ rfl HR6.out Tryz.underlying33 rfl sizeRes rfl HE6.out Tryz.underlying35 rfl sizeEff) rfl ?_
             rw [HA2.out]
             exact ⟨_, rfl, Pa.Own.nil _ _, HT6.out⟩)
  · have HA2 : Hid (A = ref T e) := HA.out.trans (if_pos he)
    go_wp2_with fail
    refine (refused_any W3 e).mono ?_
    rintro e w4 ⟨rfl, hb4⟩
    have HBw4 : Hid (Below w.heap.size w w4) := HB3.out.trans (hb4.mono HB3.out.size)
    have HQw4 : Hid _ := (hb4.block _ (heap_lt HQ3.out)).trans HQ3.out
    have HEw4 : Hid _ := (hb4.block _ (heap_lt HE3.out)).trans HE3.out
    have HPw4 : Hid _ := (hb4.block _ (heap_lt HP3.out)).trans HP3.out
    have HSw4 : Hid _ := (hb4.block _ (heap_lt HS3.out)).trans HS3.out
    clear hb4
    obtain ⟨a0, a1, a2, a3, a4, a5⟩ := cells6 HQw4.out
    obtain ⟨b0, b1, b2, b3, b4, b5, b6⟩ := cells7 HEw4.out
    have fz0 : ∀ j, w4.frozen? ⟨w.heap.size + 1, j, none⟩ = false := fun j => frozen_of_heap HQw4.out
    have fz1 : ∀ j, w4.frozen? ⟨w.heap.size + 1 + 1, j, none⟩ = false := fun j => frozen_of_heap HEw4.out
    (try unfold rsV)
    (try unfold Rs.no)
    (try unfold efV)
    (try unfold Ef.no)
    go_wp2_with fail
    refine bodyPost_ret (results_cell2 rfl _ _ (w.heap.size + 1) 33 _ (0, 0) _ (w.heap.size + 1 + 1) 35 _ (0, 0) _ rfl (putRE HQw4.out HEw4.out (by omega)).1 Tryz.underlying33 rfl sizeRes rfl (putRE HQw4.out HEw4.out (by omega)).2 Tryz.underlying35 rfl sizeEff) rfl ?_
    rw [HA2.out]
    exact ⟨_, rfl, Pa.Own.nil _ _, (HLay.out _ (putRE_below HBw4.out (by omega) (by omega))).turn0 (putRE_below HBw4.out (by omega) (by omega))⟩

end Go.Proofs.YtnfddiabhpandaaGreatDoor.Tr

namespace Go.Proofs.YtnfddiabhpandaaGreatDoor.Tr
open Go.RowKit Go.Lib Go.Deep

theorem size_zero {w : World} {m n : Nat} {Dt : DataW Unit} {f : Key → Option (Nat × Nat)} (h : w.ownsMap Tryz.prog 9 nodeR m n Dt) (hT : Tab Dt f) : Maps.size Dt = 0 ↔ ¬ ∃ k, (f k).isSome = true := by
  obtain ⟨es, rfl, hko⟩ := h.keysOf
  constructor
  · rintro h0 ⟨k, hk⟩
    have hes : es = [] := List.eq_nil_of_length_eq_zero h0
    subst hes
    rw [← hT.has k] at hk
    cases hk
  · intro hno
    cases es with
    | nil => rfl
    | cons p es =>
      exfalso
      obtain ⟨v, hv⟩ := hko p (by simp)
      obtain ⟨x, _, hx, _⟩ := Maps.keyOf_str Tryz.underlying9 hv
      refine hno ⟨x, ?_⟩
      rw [← hT.has x]
      simp [Maps.has, hx, Lit.sameKey]
open Classical in
set_option maxRecDepth 20000 in
set_option maxHeartbeats 4000000 in
theorem rmdir_any (w : World) (q : Nat) (F : List Nat) (nn : Nat) (T : Ts) (dp : Nat → Nat) (hL : Lay w q F nn T) (hv : Inv T dp) (P : List ByteArray) (sa : Option Addr) (n sc : Nat) (hs : Pa.See w (.slice sa n sc) P) (hnm : P.all Pa.nm = true) (hl : P.length ≤ 16) (ok oa on : Int) (op ot od : ByteArray) (ta : Option Addr) (tn tc : Nat) :
    Calls Tryz.prog 113 #[.pointer (some ⟨q, 0, none⟩), .agg #[.int .i64 ok, .string op, .string ot, .int .i64 oa, .int .i64 on, .string od, .slice sa n sc, .slice ta tn tc]] w fun e w' => Did F w w' q (nn + 1) (rmdT T P) e := by
  obtain ⟨W, hW, hb, kp, k0, k1⟩ := three_new w #[.int .i64 ok, .string op, .string ot, .int .i64 oa, .int .i64 on, .string od, .slice sa n sc, .slice ta tn tc] R0 E0 84 33 35
  have hc := findDir_any W q F nn T dp (hL.below hb) hv _ P (hs.below hb) hnm hl
  have HX : Hid (∀ w2, Below W.heap.size W w2 → Below w.heap.size w w2 ∧ w2.heap[w.heap.size]? = some (.cells #[.int .i64 ok, .string op, .string ot, .int .i64 oa, .int .i64 on, .string od, .slice sa n sc, .slice ta tn tc] 84 (0, 0)) ∧ w2.heap[w.heap.size + 1]? = some (.cells R0 33 (0, 0)) ∧ w2.heap[w.heap.size + 1 + 1]? = some (.cells E0 35 (0, 0))) := fun w2 h2 => ⟨hb.trans (h2.mono hb.size), (h2.block _ (heap_lt kp)).trans kp, (h2.block _ (heap_lt k0)).trans k0, (h2.block _ (heap_lt k1)).trans k1⟩
  obtain ⟨p0, p1, p2, p3, p4, p5, p6, p7⟩ := cells8 kp
  have HLay : Hid (∀ W', Below w.heap.size w W' → Lay W' q F nn T) := fun W' hb => hL.below hb
  have HV : Hid (Inv T dp) := hv
  have HG : Hid ((fndD T P).2 = 0 → fndD T P = fndA T P ∧ (fndA T P).2 = 0 ∧ Got T dp P (fndD T P).1) := fun h => by
    have h1 := fndD_ok h
    exact ⟨h1.1, h1.2.1, by rw [h1.1]; exact got hv hnm h1.2.1⟩
  have HK : Hid ((fndD T P).2 = 0 → (fun k => k ≠ 0 ∧ k ≠ 2) (fndD T P).1.kd) := fun h => by
    have h1 := fndD_ok h
    rw [h1.1]
    exact h1.2.2
  have hnP : n = P.length := by
    obtain ⟨a, c, e, _⟩ := hs
    injection e
  have HA : Hid (rmdT T P = if P = [] then ref T 1 else if (fndD T P).2 ≠ 0 then ref T (fndD T P).2 else if ∃ k, (T.M (fndD T P).1.no k).isSome = true then ref T 124 else (Rs.no 0, Ef.no, setD (hangT T (fndD T P).1.par (fndD T P).1.nm none) (fndD T P).1.no none)) := rfl
  by_cases hP0 : P = []
  · have hn0 : n = 0 := by rw [hnP, hP0]; rfl
    have HA2 : Hid (rmdT T P = ref T 1) := HA.out.trans (if_pos hP0)
    generalize rmdT T P = A at *
    have hrf := refused_any W 1
    have HXX := HX
    clear hc HG HK HA hL hv hs hb kp k0 k1 hnP hP0 HX
    subst hn0
    unfold R0 E0 at hW
    go_enter Tryz.func113, Tryz.ntmps113
    go_wp2_with fail
    refine hrf.mono ?_
    rintro e w4 ⟨rfl, hb4⟩
    obtain ⟨hbw, -, q0, q1⟩ := HXX.out w4 hb4
    have HBw4 : Hid _ := hbw
    have HQw4 : Hid _ := q0
    have HEw4 : Hid _ := q1
    clear hbw q0 q1 hb4 hrf
    obtain ⟨a0, a1, a2, a3, a4, a5⟩ := cells6 HQw4.out
    obtain ⟨b0, b1, b2, b3, b4, b5, b6⟩ := cells7 HEw4.out
    have fz0 : ∀ j, w4.frozen? ⟨w.heap.size + 1, j, none⟩ = false := fun j => frozen_of_heap HQw4.out
    have fz1 : ∀ j, w4.frozen? ⟨w.heap.size + 1 + 1, j, none⟩ = false := fun j => frozen_of_heap HEw4.out
    (try unfold rsV)
    (try unfold Rs.no)
    (try unfold efV)
    (try unfold Ef.no)
    go_wp2_with fail
    refine bodyPost_ret (results_cell2 rfl _ _ (w.heap.size + 1) 33 _ (0, 0) _ (w.heap.size + 1 + 1) 35 _ (0, 0) _ rfl (putRE HQw4.out HEw4.out (by omega)).1 Tryz.underlying33 rfl sizeRes rfl (putRE HQw4.out HEw4.out (by omega)).2 Tryz.underlying35 rfl sizeEff) rfl ?_
    rw [HA2.out]
    exact ⟨_, rfl, Pa.Own.nil _ _, (HLay.out _ (putRE_below HBw4.out (by omega) (by omega))).turn0 (putRE_below HBw4.out (by omega) (by omega))⟩
  have hnI : ¬ (n : Int) = 0 := by
    have : P.length ≠ 0 := fun e => hP0 (List.eq_nil_of_length_eq_zero e)
    omega
  have HA' : Hid (rmdT T P = if (fndD T P).2 ≠ 0 then ref T (fndD T P).2 else if ∃ k, (T.M (fndD T P).1.no k).isSome = true then ref T 124 else (Rs.no 0, Ef.no, setD (hangT T (fndD T P).1.par (fndD T P).1.nm none) (fndD T P).1.no none)) := HA.out.trans (if_neg hP0)
  clear HA hnP
  generalize fndD T P = r at *
  generalize rmdT T P = A at *
  obtain ⟨⟨par, nm, kd, no⟩, e⟩ := r
  unfold spV spA at hc
  unfold R0 E0 at hW
  clear hL hv hs hb kp k0 k1
  go_enter Tryz.func113, Tryz.ntmps113
  go_wp2_with fail
  refine hc.mono ?_
  rintro e w2 ⟨rfl, hb2⟩
  obtain ⟨hbw, qp, q0, q1⟩ := HX.out w2 hb2
  obtain ⟨W3, hW3, hb3, k3⟩ := one_new w2 #[.int .i64 (par : Int), .string nm, .int .i64 (kd : Int), .int .i64 (no : Int)] 191
  have HB3 : Hid (Below w.heap.size w W3) := hbw.trans (hb3.mono hbw.size)
  have s0 : W3.cell? ⟨w2.heap.size, 0, none⟩ = some (.int .i64 (par : Int)) := (cell_of_heap k3).trans rfl
  have s1 : W3.cell? ⟨w2.heap.size, 1, none⟩ = some (.string nm) := (cell_of_heap k3).trans rfl
  have s2 : W3.cell? ⟨w2.heap.size, 2, none⟩ = some (.int .i64 (kd : Int)) := (cell_of_heap k3).trans rfl
  have s3 : W3.cell? ⟨w2.heap.size, 3, none⟩ = some (.int .i64 (no : Int)) := (cell_of_heap k3).trans rfl
  have hn2 : w.heap.size + 1 + 1 < w2.heap.size := heap_lt q1
  have hne1 : ¬ w2.heap.size = w.heap.size + 1 := by omega
  have hne2 : ¬ w2.heap.size = w.heap.size + 1 + 1 := by omega
  have hne3 : ¬ w.heap.size + 1 = w2.heap.size := by omega
  have hne4 : ¬ w.heap.size + 1 + 1 = w2.heap.size := by omega
  clear hn2
  have HS3 : Hid _ := k3
  have HP3 : Hid _ := (hb3.block _ (heap_lt qp)).trans qp
  have HQ3 : Hid _ := (hb3.block _ (heap_lt q0)).trans q0
  have HE3 : Hid _ := (hb3.block _ (heap_lt q1)).trans q1
  clear hb2 hbw qp q0 q1 hb3 k3 HX hc
  by_cases he : e = 0
  · subst he
    have hdir : kd = 1 ∧ tk T par ∧ nm.size ≤ 32 ∧ ∃ d, T.D[no]? = some (some d) := by
      obtain ⟨g1, g2, g3⟩ := HG.out rfl
      have hk1 := HK.out rfl
      have sp := g3.sp hP0
      have hk2 : kd = 1 := by
        rcases sp.kd HV.out with h | h | h
        · exact absurd h hk1.1
        · exact h
        · exact absurd h hk1.2
      exact ⟨hk2, sp.ht, nm_size sp.hn, (g3.dir hk2).1⟩
    obtain ⟨hk, htk, hns, d, hD⟩ := hdir
    have HL3 : Hid (Lay W3 q F nn T) := HLay.out W3 HB3.out
    obtain ⟨dv, fv, ld, lf, ms, hFe, hI⟩ := HL3.out
    have hin := inside_any W3 q dv fv ld lf ms nn T hI no d hD
    have HLen : Hid (∀ w4, Below W3.heap.size W3 w4 → ∃ sz : Nat, (Builtin.len_ #[129] 3 #[.map (some (ms no))]).run Tryz.prog w4 = .ok (.int .i64 (sz : Int)) w4 ∧ Hid (sz = 0 ↔ ¬ ∃ k, (T.M no k).isSome = true) ∧ sz ≤ nn) := fun w4 hb4 => by
      obtain ⟨Dt, hm, hT⟩ := (hI.below hb4).hm no d hD
      exact ⟨_, hm.len Tryz.underlying129 3, size_zero hm hT, hm.size_le⟩
    have HD : Hid (T.D[no]? = some (some d)) := hD
    have HTK : Hid (tk T par) := htk
    generalize ms no = m at *
    clear hI hFe hD htk hk
    go_wp2_with (fail)
    refine hin.mono ?_
    rintro e w4 ⟨rfl, hb4⟩
    obtain ⟨sz, hlen, HSZ, hsn⟩ := HLen.out w4 hb4
    have HB34 : Hid (Below W3.heap.size W3 w4) := hb4
    have HBw4 : Hid (Below w.heap.size w w4) := HB3.out.trans (hb4.mono HB3.out.size)
    have HQw4 : Hid _ := (hb4.block _ (heap_lt HQ3.out)).trans HQ3.out
    have HEw4 : Hid _ := (hb4.block _ (heap_lt HE3.out)).trans HE3.out
    have HSw4 : Hid _ := (hb4.block _ (heap_lt HS3.out)).trans HS3.out
    have s0w4 : w4.cell? ⟨w2.heap.size, 0, none⟩ = some (.int .i64 (par : Int)) := (cell_of_heap HSw4.out).trans rfl
    have s1w4 : w4.cell? ⟨w2.heap.size, 1, none⟩ = some (.string nm) := (cell_of_heap HSw4.out).trans rfl
    have s3w4 : w4.cell? ⟨w2.heap.size, 3, none⟩ = some (.int .i64 (no : Int)) := (cell_of_heap HSw4.out).trans rfl
    clear hb4 hin HLen
    by_cases hz : sz = 0
    · have HA2 : Hid (A = (Rs.no 0, Ef.no, setD (hangT T par nm none) no none)) := HA'.out.trans ((if_neg (by simp)).trans (if_neg (HSZ.out.1 hz)))
      subst hz
      have hlen' : (Builtin.len_ #[129] 3 #[.map (some m)]).run Tryz.prog w4 = .ok (.int .i64 0) w4 := hlen
      have hun := unhang_any w4 q F nn T (HLay.out _ HBw4.out) par nm HTK.out (by unfold maxLen; omega)
      clear hlen HSZ hsn
      go_wp2_with fail
      refine hun.mono ?_
      rintro e w5 ⟨rfl, hT5⟩
      have HQw5 : Hid _ := Turn.keep hT5 (HLay.out _ HBw4.out) HQw4.out (by decide)
      have HEw5 : Hid _ := Turn.keep hT5 (HLay.out _ HBw4.out) HEw4.out (by decide)
      have HSw5 : Hid _ := Turn.keep hT5 (HLay.out _ HBw4.out) HSw4.out (by decide)
      have s3w5 : w5.cell? ⟨w2.heap.size, 3, none⟩ = some (.int .i64 (no : Int)) := (cell_of_heap HSw5.out).trans rfl
      obtain ⟨ho5, F5, hL5, hF5⟩ := hT5
      have hL5d := hL5.below (Below.refl w5.heap.size w5).drew
      have hfr := freeD_any w5.drew q F5 nn _ hL5d no d HD.out
      have HL5 : Hid _ := hL5d
      have HO5 : Hid _ := ho5
      have HF5 : Hid _ := hF5
      clear ho5 hL5 hF5 hL5d hun
      go_wp2_with fail
      go_region_with (go_at_call 149; refine hfr.mono ?_; rintro e w6 ⟨rfl, hT6⟩; have HT6 : Hid (Turn F5 w5.drew w6 q nn (setD (hangT T par nm none) no none)) := hT6; clear hT6)
      all_goals
        have HQw6 : Hid _ := Turn.keep HT6.out HL5.out HQw5.out (by decide)
        have HEw6 : Hid _ := Turn.keep HT6.out HL5.out HEw5.out (by decide)
        have HTw6 : Hid (Turn F w w6 q (nn + 1) (setD (hangT T par nm none) no none)) := (Turn.ahead HBw4.out (turn_trans HO5.out HF5.out (Turn.ahead (Below.refl w5.heap.size w5).drew HT6.out))).up (Nat.le_succ _)
        go_wp2_with fail
        refine (quiet_any w6 0 0 0 0 none 0 0).mono ?_
        rintro e w7 ⟨rfl, hb7⟩
        have HQw7 : Hid _ := (hb7.block _ (heap_lt HQw6.out)).trans HQw6.out
        have HEw7 : Hid _ := (hb7.block _ (heap_lt HEw6.out)).trans HEw6.out
        have HTw7 : Hid (Turn F w w7 q (nn + 1) (setD (hangT T par nm none) no none)) := HTw6.out.below hb7
        clear hb7
        obtain ⟨a0, a1, a2, a3, a4, a5⟩ := cells6 HQw7.out
        obtain ⟨b0, b1, b2, b3, b4, b5, b6⟩ := cells7 HEw7.out
        have fz0 : ∀ j, w7.frozen? ⟨w.heap.size + 1, j, none⟩ = false := fun j => frozen_of_heap HQw7.out
        have fz1 : ∀ j, w7.frozen? ⟨w.heap.size + 1 + 1, j, none⟩ = false := fun j => frozen_of_heap HEw7.out
        (try unfold rsV)
        (try unfold Rs.no)
        (try unfold efV)
        (try unfold Ef.no)
        go_wp2_with fail
        refine bodyPost_ret (results_cell2 rfl _ _ (w.heap.size + 1) 33 _ (0, 0) _ (w.heap.size + 1 + 1) 35 _ (0, 0) _ rfl (putRE HQw7.out HEw7.out (by omega)).1 Tryz.underlying33 rfl sizeRes rfl (putRE HQw7.out HEw7.out (by omega)).2 Tryz.underlying35 rfl sizeEff) rfl ?_
        rw [HA2.out]
        exact ⟨_, rfl, Pa.Own.nil _ _, HTw7.out.putRE (by omega) (by omega) HQw7.out HEw7.out⟩
    · have HA2 : Hid (A = ref T 124) := HA'.out.trans ((if_neg (by simp)).trans (if_pos (Classical.byContradiction (fun h => hz (HSZ.out.2 h)))))
      have hzI : (0 : Int) < (sz : Int) := by omega
      go_wp2_with fail
      refine (refused_any w4 124).mono ?_
      rintro e w6 ⟨rfl, hb6⟩
      have HQw6 : Hid _ := (hb6.block _ (heap_lt HQw4.out)).trans HQw4.out
      have HEw6 : Hid _ := (hb6.block _ (heap_lt HEw4.out)).trans HEw4.out
      have HBw6 : Hid (Below w.heap.size w w6) := HBw4.out.trans (hb6.mono HBw4.out.size)
      clear hb6
      obtain ⟨a0, a1, a2, a3, a4, a5⟩ := cells6 HQw6.out
      obtain ⟨b0, b1, b2, b3, b4, b5, b6⟩ := cells7 HEw6.out
      have fz0 : ∀ j, w6.frozen? ⟨w.heap.size + 1, j, none⟩ = false := fun j => frozen_of_heap HQw6.out
      have fz1 : ∀ j, w6.frozen? ⟨w.heap.size + 1 + 1, j, none⟩ = false := fun j => frozen_of_heap HEw6.out
      (try unfold rsV)
      (try unfold Rs.no)
      (try unfold efV)
      (try unfold Ef.no)
      go_wp2_with fail
      refine bodyPost_ret (results_cell2 rfl _ _ (w.heap.size + 1) 33 _ (0, 0) _ (w.heap.size + 1 + 1) 35 _ (0, 0) _ rfl (putRE HQw6.out HEw6.out (by omega)).1 Tryz.underlying33 rfl sizeRes rfl (putRE HQw6.out HEw6.out (by omega)).2 Tryz.underlying35 rfl sizeEff) rfl ?_
      rw [HA2.out]
      exact ⟨_, rfl, Pa.Own.nil _ _, (HLay.out _ (putRE_below HBw6.out (by omega) (by omega))).turn0 (putRE_below HBw6.out (by omega) (by omega))⟩
  · have HA2 : Hid (A = ref T e) := HA'.out.trans (if_pos he)
    go_wp2_with fail
    refine (refused_any W3 e).mono ?_
    rintro e w4 ⟨rfl, hb4⟩
    have HBw4 : Hid (Below w.heap.size w w4) := HB3.out.trans (hb4.mono HB3.out.size)
    have HQw4 : Hid _ := (hb4.block _ (heap_lt HQ3.out)).trans HQ3.out
    have HEw4 : Hid _ := (hb4.block _ (heap_lt HE3.out)).trans HE3.out
    have HPw4 : Hid _ := (hb4.block _ (heap_lt HP3.out)).trans HP3.out
    have HSw4 : Hid _ := (hb4.block _ (heap_lt HS3.out)).trans HS3.out
    clear hb4
    obtain ⟨a0, a1, a2, a3, a4, a5⟩ := cells6 HQw4.out
    obtain ⟨b0, b1, b2, b3, b4, b5, b6⟩ := cells7 HEw4.out
    have fz0 : ∀ j, w4.frozen? ⟨w.heap.size + 1, j, none⟩ = false := fun j => frozen_of_heap HQw4.out
    have fz1 : ∀ j, w4.frozen? ⟨w.heap.size + 1 + 1, j, none⟩ = false := fun j => frozen_of_heap HEw4.out
    (try unfold rsV)
    (try unfold Rs.no)
    (try unfold efV)
    (try unfold Ef.no)
    go_wp2_with fail
    refine bodyPost_ret (results_cell2 rfl _ _ (w.heap.size + 1) 33 _ (0, 0) _ (w.heap.size + 1 + 1) 35 _ (0, 0) _ rfl (putRE HQw4.out HEw4.out (by omega)).1 Tryz.underlying33 rfl sizeRes rfl (putRE HQw4.out HEw4.out (by omega)).2 Tryz.underlying35 rfl sizeEff) rfl ?_
    rw [HA2.out]
    exact ⟨_, rfl, Pa.Own.nil _ _, (HLay.out _ (putRE_below HBw4.out (by omega) (by omega))).turn0 (putRE_below HBw4.out (by omega) (by omega))⟩

end Go.Proofs.YtnfddiabhpandaaGreatDoor.Tr
