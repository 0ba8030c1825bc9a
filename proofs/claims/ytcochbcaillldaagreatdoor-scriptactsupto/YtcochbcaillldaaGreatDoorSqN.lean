import Derived.Deep.Cut
import Derived.Test.YtcochbcaillldaaGreatDoorSqY
import Derived.Test.YtcochbcaillldaaGreatDoorSqP
import Derived.Test.YtcochbcaillldaaGreatDoorSqNm
namespace Go.Proofs.YtcochbcaillldaaGreatDoor.Sc
open Go.RowKit Go.Lib Go.Deep
def lastA : ActR := ⟨3, none, 0, 0, 0, 0, 0, 0, 0, nil_, nil_⟩
theorem lastA_ok : lastA.Ok := ⟨⟨by decide, by decide⟩, ⟨by decide, by decide⟩, ⟨by decide, by decide⟩, ⟨by decide, by decide⟩, ⟨by decide, by decide⟩, ⟨by decide, by decide⟩, by decide, by decide⟩
theorem lastA_any (w : World) (ht : ITab w) : Calls Tryz.prog 10 #[.agg #[.int .i64 3, .slice none 0 0, .int .i64 0, .int .i64 0, .int .i64 0, .int .i64 0, .int .i64 0, .string { data := #[] }, .string { data := #[] }]] w fun e w' => e = .returned (.tuple #[.string { data := #[98, 97, 116, 99, 104, 10, 101, 110, 100] }, .int .i64 0]) ∧ Below w.heap.size w w' := by
  refine (printAct_any lastA lastA_ok [] (fun x hx => (by cases hx)) rfl (by decide) w (fun h => absurd rfl h) ht).mono ?_
  rintro e w' ⟨hout, hb⟩
  refine ⟨?_, hb⟩
  rcases hout with ⟨hno, -⟩ | ⟨g, hg, hgk, rfl⟩
  · obtain ⟨f, hf, hk⟩ := tabA_all 3 (by decide) (by decide)
    exact absurd hk (hno f hf)
  · have hb2 : bareA (shRA g.wr lastA) = true := by
      unfold actTab at hg
      simp only [List.mem_cons, List.not_mem_nil, or_false] at hg
      rcases hg with rfl | rfl | rfl | rfl | rfl | rfl <;> first | (exfalso; revert hgk; decide) | simp [shRA, bareA, lastA, nil_]
    unfold actV
    rw [if_pos ⟨hgk, hb2⟩]
    unfold batchV
    rw [if_pos (by rfl)]
    rfl
set_option maxRecDepth 20000 in
set_option maxHeartbeats 4000000 in
theorem acts_walk (a : Option Addr) (c : Nat) (V : List ActV) (hok : VOk V) (hc : V.length ≤ c) (w : World) (hs : SeeV w a V) (ht : ITab w) :
    Calls Tryz.prog 3 #[.slice a V.length c] w fun e w' => e = .returned (.bool true) ∧ Below w.heap.size w w' := by
  have HS : Hid (SeeV w a V) := hs
  have HT : Hid (ITab w) := ht
  have HOK : Hid (VOk V) := hok
  obtain ⟨n, hn⟩ : ∃ n, V.length = n := ⟨_, rfl⟩
  have HN : Hid (V.length = n) := hn
  have hnb : n ≤ 1048576 := by rw [← hn]; exact hok.len
  rw [hn] at hc ⊢
  clear hn hs ht hok
  go_enter Tryz.func3, Tryz.ntmps3
  go_wp2_with fail
  go_loopg [3] n (fun gk i wr => ∃ j : Nat, j + gk = n ∧ i = .int .i64 (j : Int) ∧ Hid (Below w.heap.size w wr))
  case atStart => exact ⟨0, by omega, rfl, Below.refl _ _⟩
  case round =>
    obtain ⟨j, hj, rfl, HB⟩ := hrel
    have HJ : Hid (j + gk = n) := hj
    by_cases hlt : j < n
    · have hltI : (j : Int) < (n : Int) := by omega
      obtain ⟨x, hx⟩ : ∃ x, V[j]? = some x := ⟨_, List.getElem?_eq_getElem (by rw [HN.out]; omega)⟩
      obtain ⟨b, off, rfl, hbl, hnine, hops⟩ := HS.out.at hx
      obtain ⟨hxok, hxo, hxn, hxl⟩ := HOK.out.each x (List.mem_of_getElem? hx)
      obtain ⟨P, hP⟩ : ∃ P : PlR, (⟨0, 0, 0, 0, 0, 0, false, { data := #[] }, { data := #[] }, some ⟨b, off + j * 9, none⟩, 1, c - j⟩ : PlR) = P := ⟨_, rfl⟩
      have hcj : ¬ c = j := by omega
      have hc0 : ¬ c = 0 := by omega
      have hcj1 : j + 1 ≤ c := by omega
      have hcjI : ((j : Int) + 1) ≤ (c : Int) := by omega
      obtain ⟨W1, hW1⟩ : ∃ W1, wr.alloc (.cells P.cells 26) = W1 := ⟨_, rfl⟩
      have hb1 : Below wr.heap.size wr W1 := by rw [← hW1]; exact (Below.refl _ _).alloc (Nat.le_refl _) _
      have hp1 : W1.heap[wr.heap.size]? = some (.cells P.cells 26 (0, 0)) := by rw [← hW1]; exact heap_alloc_new _ _
      have hb1w : Below w.heap.size w W1 := HB.out.trans (hb1.mono HB.out.size)
      have HSX : Hid (∀ U, Below W1.heap.size W1 U → SeeV U P.acts [x]) := fun U hU => by
        have hn2 := (hnine.below hb1w hbl).below hU (by have := hb1w.size; omega)
        have ho2 := (hops.below hb1w).below hU
        refine ⟨fun _ => ⟨b, off + j * 9, by rw [← hP], by have := hb1w.size; have := hU.size; omega, fun i o ho => ?_⟩, fun i y hy => ?_⟩
        · cases i with
          | zero =>
            obtain rfl : x.1 = o := by simpa using ho
            rw [Nat.zero_mul, Nat.add_zero]
            exact hn2
          | succ i => simp at ho
        · cases i with
          | zero =>
            obtain rfl : x = y := by simpa using hy
            exact ho2
          | succ i => simp at hy
      have HOK1 : Hid (VOk [x]) := ⟨fun y hy => by
        obtain rfl : y = x := by simpa using hy
        exact ⟨hxok, hxo, hxn, hxl⟩, by simp⟩
      have HPn : Hid (P.nacts = 1) := by show _ = _; rw [← hP]
      have hh := hand_any P [x] HOK1.out (by rw [HPn.out]; rfl) W1 (HSX.out W1 (Below.refl _ _))
      rw [HPn.out] at hh
      have hp0 : ∀ i v, P.cells[i]? = some v → W1.cell? ⟨wr.heap.size, i, none⟩ = some v := fun i v hv => by rw [Lib.cell_of_heap hp1]; exact hv
      have HP1 : Hid (W1.heap[wr.heap.size]? = some (.cells P.cells 26 (0, 0))) := hp1
      have HNI : Hid (NineAt w b (off + j * 9) x.1) := hnine
      have HBL : Hid (b < w.heap.size) := hbl
      have HB1 : Hid (Below w.heap.size w W1) := hb1w
      have HWL : Hid (wr.heap.size < W1.heap.size) := heap_lt hp1
      have HPE : Hid (_ = P) := hP
      obtain ⟨s, cd, hcd0, hcd1, href, hprog⟩ := acts_same x.1 hxok x.2 hxo hxn hxl
      have HX : Hid (x.1.Ok ∧ x.2.length = x.1.nops) := ⟨hxok, hxn⟩
      have HOPS : Hid (SeeO w x.1.ops x.2) := hops
      unfold PlR.cells at *
      rw [← hP] at hW1 hh hp0
      dsimp only at hW1 hh hp0
      have q0 := hp0 0 _ rfl
      have q1 := hp0 1 _ rfl
      have q2 := hp0 2 _ rfl
      have q3 := hp0 3 _ rfl
      have q4 := hp0 4 _ rfl
      have q5 := hp0 5 _ rfl
      have q6 := hp0 6 _ rfl
      have q7 := hp0 7 _ rfl
      have q8 := hp0 8 _ rfl
      have q9 := hp0 9 _ rfl
      simp only [List.getElem_toArray, List.getElem_cons_zero, List.getElem_cons_succ] at q0 q1 q2 q3 q4 q5 q6 q7 q8 q9
      have HW1 : Hid (Unit → _ = W1) := fun _ => hW1
      clear hW1 hp0 hp1 hb1 hb1w hnine hops hbl hxok hxo hxn hxl hx hP
      go_upto_region 5 with fail
      rw [HW1.out ()]
      clear HW1
      go_wp2_with (go_at_call 9; refine hh.mono ?_)
      rintro e w2 ⟨G, fg, fc, oa, oc, rfl, hG, hm, hb2⟩
      clear hh q0 q1 q2 q3 q4 q5 q6 q7 q8 q9
      rw [HPE.out] at hm
      have hB2 : Below w.heap.size w w2 := HB1.out.trans (hb2.mono HB1.out.size)
      obtain ⟨h9, -⟩ := hm.hand.cells
      have hsee := hm.see (by rw [hG])
      obtain ⟨gc, hgc, hv2⟩ := V2_at (V := [x]) (G := G) (by rw [hG]; rfl) (i := 0) (x := x) rfl
      obtain ⟨b2, off2, e2, hbl2, hnine2, hops2⟩ := hsee.at hv2
      injection e2 with e2
      injection e2 with e3 e4
      subst e3 e4
      rw [Nat.zero_mul, Nat.zero_add] at hnine2
      obtain ⟨k0, k1, k2, k3, k4, k5, k6, k7, k8⟩ := hnine2
      rw [Nat.zero_add] at k1 k2 k3 k4 k5 k6 k7 k8
      have hpr := hprog (hd x gc) ⟨HX.out.1.kind, HX.out.1.i, HX.out.1.before, HX.out.1.ek, HX.out.1.put, HX.out.1.frm, HX.out.1.name, HX.out.1.blob⟩ ⟨_, _, rfl⟩ w2 hops2 (HT.out.below hB2 HT.out.lt)
      unfold ActR.val ActR.cells hd at hpr
      unfold hd at k0 k1 k2 k3 k4 k5 k6 k7 k8
      dsimp only at hpr k0 k1 k2 k3 k4 k5 k6 k7 k8
      have HB2 : Hid (Below w.heap.size w w2) := hB2
      have HW2 : Hid (Below W1.heap.size W1 w2) := hb2
      have HM : Hid (Made w2 (W1.heap.size + 1 + 1) (W1.heap.size + 1) P [x] G (.slice (some ⟨fg, 0, none⟩) 1 fc) (.slice (some ⟨fg, 0, none⟩) (1 + 8) fc) (.slice oa 1 oc) 8) := hm
      have HG : Hid (G.length = 1) := hG
      clear hm hsee hgc hv2 hbl2 hops2 hprog hB2 hb2 hG
      go_wp2_with (go_at_call 10; refine hpr.mono ?_)
      rintro e w3 ⟨rfl, hb3⟩
      clear hpr k0 k1 k2 k3 k4 k5 k6 k7 k8 h9
      have hB3 : Below w.heap.size w w3 := HB2.out.trans (hb3.mono HB2.out.size)
      have hrf := href w3 (HOPS.out.below hB3) (HT.out.below hB3 HT.out.lt)
      obtain ⟨k0, k1, k2, k3, k4, k5, k6, k7, k8⟩ := HNI.out.below hB3 HBL.out
      unfold ActR.val ActR.cells at hrf
      have HB3 : Hid (Below w.heap.size w w3) := hB3
      have HW3 : Hid (Below W1.heap.size W1 w3) := HW2.out.trans (hb3.mono HW2.out.size)
      have HM3 : Hid (Made w3 (W1.heap.size + 1 + 1) (W1.heap.size + 1) P [x] G (.slice (some ⟨fg, 0, none⟩) 1 fc) (.slice (some ⟨fg, 0, none⟩) (1 + 8) fc) (.slice oa 1 oc) 8) := HM.out.below hb3
      clear hB3 hb3 href HM HB2 HW2
      go_wp2_with (go_at_call 11; refine hrf.mono ?_)
      rintro e w4 ⟨rfl, hb4⟩
      clear hrf k0 k1 k2 k3 k4 k5 k6 k7 k8
      have HB4 : Hid (Below w.heap.size w w4) := HB3.out.trans (hb4.mono HB3.out.size)
      have HW4 : Hid (Below W1.heap.size W1 w4) := HW3.out.trans (hb4.mono HW3.out.size)
      have hm4 := HM3.out.below hb4
      have hlf := left_any P [x] G HOK1.out (by rw [HPn.out]; rfl) (by rw [HPn.out]; exact HG.out) fg fc oa oc (W1.heap.size + 1 + 1) (W1.heap.size + 1) w4 (HSX.out w4 HW4.out) (by rw [HPn.out]; exact hm4)
      have hp4 : ∀ i v, P.cells[i]? = some v → w4.cell? ⟨wr.heap.size, i, none⟩ = some v := fun i v hv => by
        rw [Lib.cell_of_heap ((HW4.out.block _ HWL.out).trans HP1.out)]
        exact hv
      unfold PlR.cells at hlf hp4
      rw [← HPE.out] at hlf hp4
      dsimp only at hlf hp4
      have q0 := hp4 0 _ rfl
      have q1 := hp4 1 _ rfl
      have q2 := hp4 2 _ rfl
      have q3 := hp4 3 _ rfl
      have q4 := hp4 4 _ rfl
      have q5 := hp4 5 _ rfl
      have q6 := hp4 6 _ rfl
      have q7 := hp4 7 _ rfl
      have q8 := hp4 8 _ rfl
      have q9 := hp4 9 _ rfl
      simp only [List.getElem_toArray, List.getElem_cons_zero, List.getElem_cons_succ] at q0 q1 q2 q3 q4 q5 q6 q7 q8 q9
      clear hp4 hm4 hb4 HM3 HB3 HW3
      go_wp2_with (first
        | (go_at_call 13; refine hlf.mono ?_; rintro e w5 ⟨rfl, hb5⟩; clear hlf)
        | (go_at_call 12; refine (num_any cd ⟨hcd0, hcd1⟩ _).mono ?_; rintro e w6 ⟨rfl, rfl⟩))
      go_roundg (gk - 1)
      case measure => omega
      case rel => exact ⟨j + 1, by omega, by go_num, HB4.out.trans (hb5.mono HB4.out.size)⟩
    · obtain rfl : j = n := by omega
      have hltI : ¬ (j : Int) < (j : Int) := by omega
      have hla := lastA_any wr (HT.out.below HB.out HT.out.lt)
      have hHB := HB.out
      go_wp2_with (first
        | (go_at_call 12; refine (num_any 0 ⟨by decide, by decide⟩ _).mono ?_; rintro e w5 ⟨rfl, rfl⟩)
        | (go_at_call 10; refine hla.mono ?_; rintro e w1 ⟨rfl, hb1⟩; clear hla))
      go_ret
      exact ⟨rfl, hHB.trans (hb1.mono hHB.size)⟩
end Go.Proofs.YtcochbcaillldaaGreatDoor.Sc
