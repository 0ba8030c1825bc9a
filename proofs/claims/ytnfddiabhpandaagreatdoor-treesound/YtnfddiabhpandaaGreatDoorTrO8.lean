import Derived.Test.YtnfddiabhpandaaGreatDoorOaM
import Derived.Test.YtnfddiabhpandaaGreatDoorItA
import Derived.Sort.KeysCollected
namespace Go.Proofs.YtnfddiabhpandaaGreatDoor.Tr
open Go.RowKit Go.Lib Go.Deep

theorem keys_of {w : World} {m n : Nat} {Dt : DataW Unit} {f : Key → Option (Nat × Nat)} (h : w.ownsMap Tryz.prog 9 nodeR m n Dt) (hT : Tab Dt f) : (strKeys Dt).Nodup ∧ ∀ k, k ∈ strKeys Dt ↔ (f k).isSome = true := by
  obtain ⟨es, hD, hpw, _⟩ := h.entries keyLaw
  obtain ⟨es', hD', hko⟩ := h.keysOf
  obtain rfl : es = es' := by rw [hD] at hD'; simpa using hD'
  subst hD
  have hk : ∀ p ∈ es, ∃ x, p.1 = Lit.string x := fun p hp => by
    obtain ⟨v, hv⟩ := hko p hp
    obtain ⟨x, _, hx, _⟩ := Maps.keyOf_str Tryz.underlying9 hv
    exact ⟨x, hx⟩
  refine ⟨?_, fun x => ?_⟩
  · show (es.map fun p => strOf p.1).Nodup
    refine List.pairwise_map.2 (hpw.imp_of_mem fun {p q} hp hq hne e => hne ?_)
    obtain ⟨a, ha⟩ := hk p hp
    obtain ⟨b, hb⟩ := hk q hq
    rw [ha, hb] at e ⊢
    simp only [strOf] at e
    rw [e]
  · rw [← hT.has x]
    show x ∈ (es.map fun p => strOf p.1) ↔ (es.any fun p => p.1.sameKey (.string x)) = true
    rw [List.mem_map, List.any_eq_true]
    constructor
    · rintro ⟨p, hp', rfl⟩
      obtain ⟨a, ha⟩ := hk p hp'
      exact ⟨p, hp', by rw [ha]; simp [Lit.sameKey, strOf]⟩
    · rintro ⟨p, hp', hs⟩
      obtain ⟨a, ha⟩ := hk p hp'
      rw [ha] at hs
      exact ⟨p, hp', by rw [ha]; simpa [Lit.sameKey, strOf] using hs⟩
theorem own_putRE {B : Nat} {W : World} {g b : Nat} {v : Value} {L : List ByteArray} {r0 r1 r2 r3 r4 r5 f0 f1 f2 f3 f4 f5 f6 : Value} (h : Pa.Own W B v L) (hg : ∀ k, v.ownBlock = some k → k ≠ g ∧ k ≠ b) : Pa.Own (((((((((((((W.setCell ⟨g, 0, none⟩ r0).setCell ⟨g, 1, none⟩ r1).setCell ⟨g, 2, none⟩ r2).setCell ⟨g, 3, none⟩ r3).setCell ⟨g, 4, none⟩ r4).setCell ⟨g, 5, none⟩ r5).setCell ⟨b, 0, none⟩ f0).setCell ⟨b, 1, none⟩ f1).setCell ⟨b, 2, none⟩ f2).setCell ⟨b, 3, none⟩ f3).setCell ⟨b, 4, none⟩ f4).setCell ⟨b, 5, none⟩ f5).setCell ⟨b, 6, none⟩ f6) B v L := by
  have ho : Only [g, b] W (((((((((((((W.setCell ⟨g, 0, none⟩ r0).setCell ⟨g, 1, none⟩ r1).setCell ⟨g, 2, none⟩ r2).setCell ⟨g, 3, none⟩ r3).setCell ⟨g, 4, none⟩ r4).setCell ⟨g, 5, none⟩ r5).setCell ⟨b, 0, none⟩ f0).setCell ⟨b, 1, none⟩ f1).setCell ⟨b, 2, none⟩ f2).setCell ⟨b, 3, none⟩ f3).setCell ⟨b, 4, none⟩ f4).setCell ⟨b, 5, none⟩ f5).setCell ⟨b, 6, none⟩ f6) := (only_put (only_put (only_put (only_put (only_put (only_put (only_put (only_put (only_put (only_put (only_put (only_put (only_put (Only.refl _ _) (by simp)) (by simp)) (by simp)) (by simp)) (by simp)) (by simp)) (by simp)) (by simp)) (by simp)) (by simp)) (by simp)) (by simp)) (by simp))
  exact owns_keep h fun k hk => ho.block k (h.lt k hk).2 (by simp; exact hg k hk)
set_option maxRecDepth 20000 in
set_option maxHeartbeats 4000000 in
theorem list_any (w : World) (q : Nat) (F : List Nat) (nn : Nat) (T : Ts) (dp : Nat → Nat) (hL : Lay w q F nn T) (hv : Inv T dp) (P : List ByteArray) (sa : Option Addr) (n sc : Nat) (hs : Pa.See w (.slice sa n sc) P) (hnm : P.all Pa.nm = true) (hl : P.length ≤ 16) (ok oa on : Int) (op ot od : ByteArray) (ta : Option Addr) (tn tc : Nat) (hnn : nn ≤ 8796093022207) :
    Calls Tryz.prog 114 #[.pointer (some ⟨q, 0, none⟩), .agg #[.int .i64 ok, .string op, .string ot, .int .i64 oa, .int .i64 on, .string od, .slice sa n sc, .slice ta tn tc]] w fun e w' => Did F w w' q (nn + 1) (lisT T P) e := by
  obtain ⟨W, hW, hb, kp, k0, k1⟩ := three_new w #[.int .i64 ok, .string op, .string ot, .int .i64 oa, .int .i64 on, .string od, .slice sa n sc, .slice ta tn tc] R0 E0 84 33 35
  have hc := findDir_any W q F nn T dp (hL.below hb) hv _ P (hs.below hb) hnm hl
  have HX : Hid (∀ w2, Below W.heap.size W w2 → Below w.heap.size w w2 ∧ w2.heap[w.heap.size]? = some (.cells #[.int .i64 ok, .string op, .string ot, .int .i64 oa, .int .i64 on, .string od, .slice sa n sc, .slice ta tn tc] 84 (0, 0)) ∧ w2.heap[w.heap.size + 1]? = some (.cells R0 33 (0, 0)) ∧ w2.heap[w.heap.size + 1 + 1]? = some (.cells E0 35 (0, 0))) := fun w2 h2 => ⟨hb.trans (h2.mono hb.size), (h2.block _ (heap_lt kp)).trans kp, (h2.block _ (heap_lt k0)).trans k0, (h2.block _ (heap_lt k1)).trans k1⟩
  obtain ⟨p0, p1, p2, p3, p4, p5, p6, p7⟩ := cells8 kp
  have HLay : Hid (∀ W', Below w.heap.size w W' → Lay W' q F nn T) := fun W' hb => hL.below hb
  have HV : Hid (Inv T dp) := hv
  have HG : Hid ((fndD T P).2 = 0 → fndD T P = fndA T P ∧ (fndA T P).2 = 0 ∧ Got T dp P (fndD T P).1) := fun h => by
    have h1 := fndD_ok h
    exact ⟨h1.1, h1.2.1, by rw [h1.1]; exact got hv hnm h1.2.1⟩
  have HK : Hid ((fndD T P).2 = 0 → (fun k => k ≠ 0 ∧ k ≠ 2) (fndD T P).1.kd) := fun h => by
    have h1 := fndD_ok h
    rw [h1.1]
    exact h1.2.2
  have HA : Hid (lisT T P = if (fndD T P).2 ≠ 0 then ref T (fndD T P).2 else (⟨0, 0, (keysL (T.M (fndD T P).1.no)).map str, 0, 0⟩, Ef.no, T)) := rfl
  generalize fndD T P = r at *
  generalize lisT T P = A at *
  obtain ⟨⟨par, nm, kd, no⟩, e⟩ := r
  unfold spV spA at hc
  unfold R0 E0 at hW
  clear hL hv hs hb kp k0 k1
  go_enter Tryz.func114, Tryz.ntmps114
  go_wp2_with fail
  refine hc.mono ?_
  rintro e w2 ⟨rfl, hb2⟩
  obtain ⟨hbw, qp, q0, q1⟩ := HX.out w2 hb2
  obtain ⟨W3, hW3, hb3, k3⟩ := one_new w2 #[.int .i64 (par : Int), .string nm, .int .i64 (kd : Int), .int .i64 (no : Int)] 191
  have HB3 : Hid (Below w.heap.size w W3) := hbw.trans (hb3.mono hbw.size)
  have s0 : W3.cell? ⟨w2.heap.size, 0, none⟩ = some (.int .i64 (par : Int)) := (cell_of_heap k3).trans rfl
  have s1 : W3.cell? ⟨w2.heap.size, 1, none⟩ = some (.string nm) := (cell_of_heap k3).trans rfl
  have s2 : W3.cell? ⟨w2.heap.size, 2, none⟩ = some (.int .i64 (kd : Int)) := (cell_of_heap k3).trans rfl
  have s3 : W3.cell? ⟨w2.heap.size, 3, none⟩ = some (.int .i64 (no : Int)) := (cell_of_heap k3).trans rfl
  have hn2 : w.heap.size + 1 + 1 < w2.heap.size := heap_lt q1
  have hne1 : ¬ w2.heap.size = w.heap.size + 1 := by omega
  have hne2 : ¬ w2.heap.size = w.heap.size + 1 + 1 := by omega
  have hne3 : ¬ w.heap.size + 1 = w2.heap.size := by omega
  have hne4 : ¬ w.heap.size + 1 + 1 = w2.heap.size := by omega
  clear hn2
  have HS3 : Hid _ := k3
  have HP3 : Hid _ := (hb3.block _ (heap_lt qp)).trans qp
  have HQ3 : Hid _ := (hb3.block _ (heap_lt q0)).trans q0
  have HE3 : Hid _ := (hb3.block _ (heap_lt q1)).trans q1
  clear hb2 hbw qp q0 q1 hb3 k3 HX hc
  by_cases he : e = 0
  · subst he
    have hdir : ∃ d, T.D[no]? = some (some d) := by
      obtain ⟨g1, g2, g3⟩ := HG.out rfl
      have hk1 := HK.out rfl
      have hk2 : kd = 1 := by
        by_cases hP0 : P = []
        · have := g3.rt hP0
          injection this
        · rcases (g3.sp hP0).kd HV.out with h | h | h
          · exact absurd h hk1.1
          · exact h
          · exact absurd h hk1.2
      exact (g3.dir hk2).1
    obtain ⟨d, hD⟩ := hdir
    have HA2 : Hid (A = (⟨0, 0, (keysL (T.M no)).map str, 0, 0⟩, Ef.no, T)) := HA.out.trans (if_neg (by simp))
    obtain ⟨dv, fv, ld, lf, ms, hFe, hI⟩ := HLay.out W3 HB3.out
    have hin := inside_any W3 q dv fv ld lf ms nn T hI no d hD
    have HSO : Hid (∀ w4, Below W3.heap.size W3 w4 → Calls Tryz.prog 150 #[.func (.func 166) #[] #[.pointer (some ⟨w4.heap.size, 0, none⟩)]] (w4.alloc (.cells #[.map (some (ms no))] 129)) fun e w6 => ∃ sa a b, e = .returned (.slice sa a b) ∧ Hid (Below w.heap.size w w6) ∧ Hid (Below W3.heap.size W3 w6) ∧ Hid (Pa.Own w6 (w4.heap.size + 1) (.slice sa a b) ((keysL (T.M no)).map str))) := fun w4 hb4 => by
      obtain ⟨Dt, hm, hT⟩ := (hI.below hb4).hm no d hD
      have hsz := hm.size_le
      refine (callsIn_wide.1 (sorted_any (ms no) nn Dt nodeR w4 hm (by unfold maxLen; omega) (by omega))).mono ?_
      rintro e w6 ⟨v, ss, rfl, hp, hrow, hnil, hb6⟩
      have hk := keys_of hm hT
      have hR : Rises (ss.mergeSort fun x y => decide (x ≤ y)) (T.M no) := rises_sort (hp.nodup_iff.2 hk.1) (fun k => (hp.mem_iff).trans (hk.2 k))
      rw [keysL_eq hR]
      have hbw4 : Below w.heap.size w w4 := HB3.out.trans (hb4.mono HB3.out.size)
      have hb56 : Below w4.heap.size w4 w6 := ((Below.refl w4.heap.size w4).alloc (Nat.le_refl _) _).trans (hb6.mono (by simp))
      have hO : Pa.Own w6 (w4.heap.size + 1) v ((ss.mergeSort fun x y => decide (x ≤ y)).map str) := by
        unfold Pa.Own Pa.sc
        rw [List.length_map, List.map_map, List.length_mergeSort]
        have hs5 : (w4.alloc (.cells #[.map (some (ms no))] 129)).heap.size = w4.heap.size + 1 := by simp
        rw [hs5] at hrow
        exact hrow
      obtain ⟨a, cap, rfl⟩ := hO.len
      exact ⟨_, _, _, rfl, hbw4.trans (hb56.mono hbw4.size), hb4.trans (hb56.mono hb4.size), hO⟩
    generalize ms no = m at *
    clear hI hFe hD
    go_wp2_with fail
    refine hin.mono ?_
    rintro e w4 ⟨rfl, hb4⟩
    have hso := HSO.out w4 hb4
    have hky := callsIn_wide.1 (keys_any (some m) w4)
    have hlt4 : w.heap.size + 1 + 1 < w4.heap.size := Nat.lt_of_lt_of_le (heap_lt HE3.out) hb4.size
    clear hb4 hin HSO
    go_wp2_with fail
    refine hky.mono ?_
    rintro e w5 ⟨rfl, rfl⟩
    go_wp2_with fail
    refine hso.mono ?_
    rintro e w6 ⟨sa6, a6, b6, rfl, HBw6, HB36, HOw6⟩
    have HQw6 : Hid _ := (HB36.out.block _ (heap_lt HQ3.out)).trans HQ3.out
    have HEw6 : Hid _ := (HB36.out.block _ (heap_lt HE3.out)).trans HE3.out
    have hqu := quiet_any w6 0 0 0 0 sa6 a6 b6
    clear hso hky
    go_wp2_with fail
    refine hqu.mono ?_
    rintro e w7 ⟨rfl, hb7⟩
    have HQw7 : Hid _ := (hb7.block _ (heap_lt HQw6.out)).trans HQw6.out
    have HEw7 : Hid _ := (hb7.block _ (heap_lt HEw6.out)).trans HEw6.out
    have HBw7 : Hid (Below w.heap.size w w7) := HBw6.out.trans (hb7.mono HBw6.out.size)
    have HOw7 : Hid (Pa.Own w7 (w4.heap.size + 1) (.slice sa6 a6 b6) ((keysL (T.M no)).map str)) := HOw6.out.below hb7
    clear hb7 hqu
    obtain ⟨a0, a1, a2, a3, a4, a5⟩ := cells6 HQw7.out
    obtain ⟨b0, b1, b2, b3, b4, b5, b6⟩ := cells7 HEw7.out
    have fz0 : ∀ j, w7.frozen? ⟨w.heap.size + 1, j, none⟩ = false := fun j => frozen_of_heap HQw7.out
    have fz1 : ∀ j, w7.frozen? ⟨w.heap.size + 1 + 1, j, none⟩ = false := fun j => frozen_of_heap HEw7.out
    (try unfold rsV)
    (try unfold Rs.no)
    (try unfold efV)
    (try unfold Ef.no)
    go_wp2_with fail
    refine bodyPost_ret (results_cell2 rfl _ _ (w.heap.size + 1) 33 _ (0, 0) _ (w.heap.size + 1 + 1) 35 _ (0, 0) _ rfl (putRE HQw7.out HEw7.out (by omega)).1 Tryz.underlying33 rfl sizeRes rfl (putRE HQw7.out HEw7.out (by omega)).2 Tryz.underlying35 rfl sizeEff) rfl ?_
    rw [HA2.out]
    exact ⟨_, rfl, (own_putRE HOw7.out (fun k hk => by have := (HOw7.out.lt k hk).1; omega)).mono (by omega), (HLay.out _ (putRE_below HBw7.out (by omega) (by omega))).turn0 (putRE_below HBw7.out (by omega) (by omega))⟩
  · have HA2 : Hid (A = ref T e) := HA.out.trans (if_pos he)
    go_wp2_with fail
    refine (refused_any W3 e).mono ?_
    rintro e w4 ⟨rfl, hb4⟩
    have HBw4 : Hid (Below w.heap.size w w4) := HB3.out.trans (hb4.mono HB3.out.size)
    have HQw4 : Hid _ := (hb4.block _ (heap_lt HQ3.out)).trans HQ3.out
    have HEw4 : Hid _ := (hb4.block _ (heap_lt HE3.out)).trans HE3.out
    have HPw4 : Hid _ := (hb4.block _ (heap_lt HP3.out)).trans HP3.out
    have HSw4 : Hid _ := (hb4.block _ (heap_lt HS3.out)).trans HS3.out
    clear hb4
    obtain ⟨a0, a1, a2, a3, a4, a5⟩ := cells6 HQw4.out
    obtain ⟨b0, b1, b2, b3, b4, b5, b6⟩ := cells7 HEw4.out
    have fz0 : ∀ j, w4.frozen? ⟨w.heap.size + 1, j, none⟩ = false := fun j => frozen_of_heap HQw4.out
    have fz1 : ∀ j, w4.frozen? ⟨w.heap.size + 1 + 1, j, none⟩ = false := fun j => frozen_of_heap HEw4.out
    (try unfold rsV)
    (try unfold Rs.no)
    (try unfold efV)
    (try unfold Ef.no)
    go_wp2_with fail
    refine bodyPost_ret (results_cell2 rfl _ _ (w.heap.size + 1) 33 _ (0, 0) _ (w.heap.size + 1 + 1) 35 _ (0, 0) _ rfl (putRE HQw4.out HEw4.out (by omega)).1 Tryz.underlying33 rfl sizeRes rfl (putRE HQw4.out HEw4.out (by omega)).2 Tryz.underlying35 rfl sizeEff) rfl ?_
    rw [HA2.out]
    exact ⟨_, rfl, Pa.Own.nil _ _, (HLay.out _ (putRE_below HBw4.out (by omega) (by omega))).turn0 (putRE_below HBw4.out (by omega) (by omega))⟩

end Go.Proofs.YtnfddiabhpandaaGreatDoor.Tr
