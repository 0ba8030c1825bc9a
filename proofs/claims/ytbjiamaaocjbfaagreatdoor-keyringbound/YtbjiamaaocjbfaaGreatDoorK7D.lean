import Derived.Test.YtbjiamaaocjbfaaGreatDoorK7B
import Derived.Test.YtbjiamaaocjbfaaGreatDoorKrM
import Derived.Test.YtbjiamaaocjbfaaGreatDoorK7R
import Derived.Test.YtbjiamaaocjbfaaGreatDoorKoM
namespace Go.Proofs.YtbjiamaaocjbfaaGreatDoor.Kr
open Go.RowKit Go.Lib Go.Deep

def PrintC (KT : World → Prop) : Prop := ∀ (id : List UInt8) (v : Value) (ss : List Slot) (w : World), SeeS w v ss → id.length ≤ 140737488355328 → ss.length ≤ 4194304 → KT w →
    Calls Tryz.prog 14 #[.agg #[.string (str id), v]] w fun e w' => e = .returned (.tuple #[.string (str (printY id ss)), .int .i64 (printE id ss)]) ∧ Below w.heap.size w w'
theorem unlock_printed {id p : List UInt8} {ss : List Slot} (hr : rightR id ss = true) (hp : passK p = true) : unlockE (printL id ss) p = 0 ∨ unlockE (printL id ss) p = 73 := by
  obtain ⟨a, _, _⟩ := parse_print hr
  unfold unlockE
  rw [if_neg (by rw [a]; decide), if_neg (by rw [hp]; decide)]
  split
  · exact .inr rfl
  · exact .inl rfl
theorem printL_small {id : List UInt8} {ss : List Slot} (h : rightR id ss = true) : (printL id ss).length ≤ 4165 := by
  rw [printL_length]
  have := textL_le h
  omega

set_option maxRecDepth 20000 in
set_option maxHeartbeats 4000000 in
theorem keyringBound_walk {KT : World → Prop} (hKT : Tbl KT) (hM : MakeC KT) (hU : UnlockC KT) (hP : ParseC KT) (hR : PrintC KT) (master pass coins id0 : ByteArray) (rounds : Int) (w : World) (b0 : master.size ≤ 140737488351232) (b1 : pass.size ≤ 140737488351232) (b2 : coins.size ≤ 140737488351232) (b3 : id0.size ≤ 140737488351232) (hw : KT w) :
    Calls Tryz.prog 4 #[.string master, .string pass, .string coins, .string id0, .int .i64 rounds] w fun e w' => e = .returned (.bool true) ∧ Below w.heap.size w w' := by
  have hp0 := phrase_ok pass.data.toList
  have hph := fun W => phrase_any pass (by omega) W
  have hs1 := fun W => ksized_any master 32 (by omega) (by omega) (by omega) W
  have hs2 := fun W => ksized_any coins 56 (by omega) (by omega) (by omega) W
  have hs3 := fun W => ksized_any id0 16 (by omega) (by omega) (by omega) W
  change ∀ W, Calls Tryz.prog _ #[_, .int .i64 32] W _ at hs1
  change ∀ W, Calls Tryz.prog _ #[_, .int .i64 56] W _ at hs2
  change ∀ W, Calls Tryz.prog _ #[_, .int .i64 16] W _ at hs3
  obtain ⟨m, hm⟩ : ∃ m, sz5 master.data.toList 32 = m := ⟨_, rfl⟩
  obtain ⟨c, hc⟩ : ∃ c, sz5 coins.data.toList 56 = c := ⟨_, rfl⟩
  obtain ⟨i2, hi⟩ : ∃ c, sz5 id0.data.toList 16 = c := ⟨_, rfl⟩
  have hm1 : m.length = 32 := by rw [← hm, sz5_length]
  have hc1 : c.length = 56 := by rw [← hc, sz5_length]
  have hi1 : i2.length = 16 := by rw [← hi, sz5_length]
  rw [hm] at hs1
  rw [hc] at hs2
  rw [hi] at hs3
  have hpl : (phraseL pass.data.toList).length ≤ 256 := (of_decide_eq_true hp0).2
  generalize phraseL pass.data.toList = p at hp0 hph hpl
  clear hm hc hi
  obtain ⟨g1, g2, g3⟩ := make_yes (rounds := 2) hm1 hp0 rfl hc1
  obtain ⟨f1, f2, f3, f4, f5, f6⟩ := made_facts (rounds := 2) hm1 hp0 rfl hc1
  have hmk := fun W (k : KT W) => hM (str m) (str p) (str c) 2 W (by rw [str_size]; omega) (by rw [str_size]; omega) (by rw [str_size]; omega) k
  simp only [str_data] at hmk
  rw [g1] at hmk
  obtain ⟨t, ht⟩ : ∃ t, makeY m p 2 c = t := ⟨_, rfl⟩
  rw [ht] at hmk f2 f3 f4 f6 g2
  have hpr := fun W (k : KT W) => hP (str t) W (by rw [str_size]; omega) k
  simp only [str_data] at hpr
  rw [f2, f3, f4] at hpr
  obtain ⟨id, hid⟩ : ∃ x, c.take 16 = x := ⟨_, rfl⟩
  obtain ⟨s, hss⟩ : ∃ s, makeS m p 2 c = [s] := ⟨_, rfl⟩
  have hs0 : s.rounds = 2 := by
    have : s = madeK (c.take 16) m p 2 (c.drop 16) := by simpa [makeS] using hss.symm
    rw [this]
    rfl
  rw [hid] at hpr g3 g2
  rw [hss] at hpr g3 g2
  have HKT : Hid (∀ W, Below w.heap.size w W → KT W) := fun W h => hKT.below w W hw h
  have HF : Hid (rightR id [s] = true ∧ t = printL id [s] ∧ s.rounds = 2 ∧ passK p = true ∧ opensK (c.take 16) p (makeS m p 2 c) = some (m, 0) ∧ c.take 16 = id ∧ makeS m p 2 c = [s] ∧ m.length = 32 ∧ i2.length = 16) := ⟨g3, g2, hs0, hp0, f5, hid, hss, hm1, hi1⟩
  clear g1 g2 g3 f1 f2 f3 f4 f5 f6 ht hid hss hs0 hp0 hm1 hc1 hi1 hpl hKT hw hM hP
  generalize hym : str m = ym at *
  generalize hyp : str p = yp at *
  generalize hyc : str c = yc at *
  generalize hyt : str t = yt at *
  generalize hyi : str id = yi at *
  generalize hy2 : str i2 = y2 at *
  have HY : Hid (str m = ym ∧ str p = yp ∧ str t = yt ∧ str id = yi ∧ str i2 = y2) := ⟨hym, hyp, hyt, hyi, hy2⟩
  clear hym hyp hyc hyt hyi hy2
  have hb0 := Below.refl w.heap.size w
  go_enter Tryz.func4, Tryz.ntmps4
  go_wp2_with fail
  refine (hs1 w).mono ?_
  rintro e w1 ⟨rfl, hbn⟩
  have hb1 := hb0.trans (hbn.mono hb0.size)
  clear hbn hb0
  go_wp2_with fail
  refine (hph w1).mono ?_
  rintro e w1' ⟨rfl, rfl⟩
  go_wp2_with fail
  refine (hs2 w1).mono ?_
  rintro e w2 ⟨rfl, hbn⟩
  have hb2 := hb1.trans (hbn.mono hb1.size)
  have k2 := HKT.out w2 hb2
  clear hbn hb1
  go_wp2_with fail
  refine (hmk w2 k2).mono ?_
  rintro e w3 ⟨rfl, hbn⟩
  have hb3 := hb2.trans (hbn.mono hb2.size)
  have k3 := HKT.out w3 hb3
  clear hbn hb2
  go_wp2_with fail
  refine (hpr w3 k3).mono ?_
  rintro e w4 ⟨⟨a, sn, cp, rfl, hown⟩, hbn⟩
  have hb4 := hb3.trans (hbn.mono hb3.size)
  have hsee := SeeS.of_own hown
  obtain ⟨g, rfl, rfl, hg, hgl⟩ : ∃ g, a = some ⟨g, 0, none⟩ ∧ sn = 1 ∧ w3.heap.size ≤ g ∧ g < w4.heap.size := by
    rcases hown.2 with ⟨_, h0⟩ | ⟨g, cap, cur, h1, h2, h3, _⟩
    · cases h0
    · injection h1 with e1 e2 e3
      exact ⟨g, e1, e2, h2, heap_lt h3⟩
  have hcs : w4.cell? ⟨g, 0, none⟩ = some (.string (str s.salt)) ∧ w4.cell? ⟨g, 1, none⟩ = some (.int .i64 s.rounds) ∧ w4.cell? ⟨g, 2, none⟩ = some (.string (str s.wrapped)) := by
    obtain ⟨a', b', off', cap', v1, v2, v3⟩ := hsee.ex
    obtain ⟨va, vb⟩ := v2 (by simp)
    injection v1 with e1 e2 e3
    rw [← e1] at va
    injection va with va
    injection va with va1 va2
    subst va1 va2
    obtain ⟨q0, q1, q2⟩ := ring_at [s] 0 s rfl
    exact ⟨v3 _ _ q0, v3 _ _ q1, v3 _ _ q2⟩
  obtain ⟨c0, c1, c2⟩ := hcs
  clear hbn hb3 k3 hpr hmk hs1 hs2 hph
  obtain ⟨xa, hxa⟩ : ∃ x, str s.salt = x := ⟨_, rfl⟩
  obtain ⟨xc, hxc⟩ : ∃ x, str s.wrapped = x := ⟨_, rfl⟩
  rw [hxa] at c0
  rw [hxc] at c2
  have HXA : Hid (str s.salt = xa ∧ str s.wrapped = xc) := ⟨hxa, hxc⟩
  clear hxa hxc
  rw [HF.out.2.2.1] at c1
  have hb5 := hb4.alloc hb4.size (.cells #[.string yi, .slice (some ⟨g, 0, none⟩) 1 cp] 32)
  have hk5 := HKT.out _ hb5
  have hse5 := hsee.below ((Below.refl w4.heap.size w4).alloc (Nat.le_refl _) (.cells #[.string yi, .slice (some ⟨g, 0, none⟩) 1 cp] 32))
  have hpr1 := hR id _ [s] _ hse5 (by have := (right_sizes HF.out.1).1; omega) (by simp) hk5
  rw [(printY_of HF.out.1).1, (printY_of HF.out.1).2, ← HF.out.2.1, HY.out.2.2.2.1, HY.out.2.2.1] at hpr1
  have hA5 : (w4.alloc (.cells #[.string yi, .slice (some ⟨g, 0, none⟩) 1 cp] 32)).heap[w4.heap.size]? = some (.cells #[.string yi, .slice (some ⟨g, 0, none⟩) 1 cp] 32 (0, 0)) := heap_new _ _
  -- what is there behind: the ring's block, the slot's cells
  have HG : Hid (∀ W, Below w4.heap.size w4 W → W.heap[w4.heap.size]? = some (.cells #[.string yi, .slice (some ⟨g, 0, none⟩) 1 cp] 32 (0, 0)) → SeeS W (.slice (some ⟨g, 0, none⟩) 1 cp) [s] ∧ W.cell? ⟨g, 0, none⟩ = some (.string xa) ∧ W.cell? ⟨g, 1, none⟩ = some (.int .i64 2) ∧ W.cell? ⟨g, 2, none⟩ = some (.string xc) ∧ W.cell? ⟨w4.heap.size, 0, none⟩ = some (.string yi) ∧ W.cell? ⟨w4.heap.size, 1, none⟩ = some (.slice (some ⟨g, 0, none⟩) 1 cp)) := fun W hb hA =>
    ⟨hsee.below hb, (hb.cell (p := ⟨g, 0, none⟩) hgl).trans c0, (hb.cell (p := ⟨g, 1, none⟩) hgl).trans c1, (hb.cell (p := ⟨g, 2, none⟩) hgl).trans c2, (cell_of_heap hA).trans rfl, (cell_of_heap hA).trans rfl⟩
  have hul1 : ∀ W, KT W → Calls Tryz.prog 15 #[.string yt, .string yp] W fun e w' => e = .returned (.tuple #[.string ym, .int .i64 0, .int .i64 0]) ∧ Below W.heap.size W w' := fun W k => by
    obtain ⟨r1, r2, _, r4, r5, r6, r7, _⟩ := HF.out
    obtain ⟨p1, p2, p3⟩ := parse_print r1
    have h := hU (str t) (str p) W (by rw [str_size, r2]; have := printL_small r1; omega) (by rw [str_size]; have := (of_decide_eq_true r4).2; omega) k
    simp only [str_data] at h
    obtain ⟨u1, u2, u3⟩ := unlock_yes (t := t) (p := p) (m := m) (n := 0) (by rw [r2]; exact p1) r4 (by rw [r2, p2, p3, ← r7, ← r6]; exact r5)
    rw [u1, u2, u3, HY.out.1, HY.out.2.1, HY.out.2.2.1] at h
    exact h
  have hb5' : Below w4.heap.size w4 (w4.alloc (.cells #[.string yi, .slice (some ⟨g, 0, none⟩) 1 cp] 32)) := (Below.refl w4.heap.size w4).alloc (Nat.le_refl _) _
  clear hsee hse5
  go_wp2_with (go_at_call 10; refine (knum_any _ _).mono ?_; rintro e wn ⟨rfl, rfl⟩)
  refine hpr1.mono ?_
  rintro e w6 ⟨rfl, hbn⟩
  have hb6 := hb5.trans (hbn.mono hb5.size)
  have hb6' := hb5'.trans (hbn.mono hb5'.size)
  have hA6 := (hbn.block _ (heap_lt hA5)).trans hA5
  clear hpr1 hb5 hb5' hA5 hbn c0 c1 c2 hk5
  have k6 := HKT.out w6 hb6
  go_wp2_with fail
  refine (hul1 w6 k6).mono ?_
  rintro e w7 ⟨rfl, hbn⟩
  have hb7 := hb6.trans (hbn.mono hb6.size)
  have hb7' := hb6'.trans (hbn.mono hb6'.size)
  have hA7 := (hbn.block _ (heap_lt hA6)).trans hA6
  clear hul1 hb6 hb6' hA6 hbn k6
  obtain ⟨see7, d0, d1, d2, r0, r1⟩ := HG.out w7 hb7' hA7
  go_wp2_with (go_at_call 10; refine (knum_any _ _).mono ?_; rintro e wn ⟨rfl, rfl⟩)
  have hO7 : (w7.alloc (.cells #[.string yi, .slice (some ⟨g, 0, none⟩) 1 cp] 32)).heap[w7.heap.size]? = some (.cells #[.string yi, .slice (some ⟨g, 0, none⟩) 1 cp] 32 (0, 0)) := heap_new _ _
  have hA7b := (Below.heap_alloc w7 (.cells #[.string yi, .slice (some ⟨g, 0, none⟩) 1 cp] 32) _ (heap_lt hA7)).trans hA7
  have hb7b := hb7.alloc hb7.size (.cells #[.string yi, .slice (some ⟨g, 0, none⟩) 1 cp] 32)
  have hb7c := hb7'.alloc hb7'.size (.cells #[.string yi, .slice (some ⟨g, 0, none⟩) 1 cp] 32)
  have hlt7 : w4.heap.size < w7.heap.size := heap_lt hA7
  clear see7 d0 d1 d2 r0 r1 hb7 hb7' hA7
  refine (hs3 _).mono ?_
  rintro e w8 ⟨rfl, hbn⟩
  have hb8 := hb7b.trans (hbn.mono hb7b.size)
  have hb8' := hb7c.trans (hbn.mono hb7c.size)
  have hA8 := (hbn.block _ (heap_lt hA7b)).trans hA7b
  have hO8 := (hbn.block _ (heap_lt hO7)).trans hO7
  clear hbn hb7b hb7c hA7b hO7
  generalize w7.heap.size = O at hO8 hlt7 ⊢
  have o0 : w8.cell? ⟨O, 0, none⟩ = some (.string yi) := (cell_of_heap hO8).trans rfl
  have o1 : w8.cell? ⟨O, 1, none⟩ = some (.slice (some ⟨g, 0, none⟩) 1 cp) := (cell_of_heap hO8).trans rfl
  have of0 : w8.frozen? ⟨O, 0, none⟩ = false := frozen_of_heap hO8
  have hb9 : Below w.heap.size w (w8.setCell ⟨O, 0, none⟩ (.string y2)) := hb8.setCell (by have := hb4.size; show w.heap.size ≤ O; omega) _
  have hb9' : Below w4.heap.size w4 (w8.setCell ⟨O, 0, none⟩ (.string y2)) := hb8'.setCell (by show w4.heap.size ≤ O; omega) _
  have hA9 : (w8.setCell ⟨O, 0, none⟩ (.string y2)).heap[w4.heap.size]? = _ := (heap_setCell_other w8 ⟨O, 0, none⟩ w4.heap.size (.string y2) (by show w4.heap.size ≠ O; omega)).trans hA8
  have hO9 : (w8.setCell ⟨O, 0, none⟩ (.string y2)).heap[O]? = some (.cells #[.string y2, .slice (some ⟨g, 0, none⟩) 1 cp] 32 (0, 0)) := heap_setCell_same _ _ 0 _ _ (.string y2) hO8
  have hr2 : rightR i2 [s] = true := by
    obtain ⟨r1, _, _, _, _, _, _, _, r9⟩ := HF.out
    have hall := (Bool.and_eq_true _ _ ▸ r1 : _ ∧ _).2
    exact right_mk r9 (by simp) (by simp) (List.all_eq_true.1 hall)
  have hpr2 := hR i2 _ [s] _ (HG.out _ hb9' hA9).1 (by have := (right_sizes hr2).1; omega) (by simp) (HKT.out _ hb9)
  rw [(printY_of hr2).1, (printY_of hr2).2, HY.out.2.2.2.2] at hpr2
  obtain ⟨EJ, hEJ⟩ : ∃ E, unlockE (printL i2 [s]) p = E := ⟨_, rfl⟩
  have HEJ : Hid ((EJ = 0 ∨ EJ = 73) ∧ (y2 = yi → EJ = 0)) := by
    obtain ⟨r1, r2, _, r4, r5, r6, r7, _⟩ := HF.out
    refine ⟨by rw [← hEJ]; exact unlock_printed hr2 r4, fun e => ?_⟩
    have e2 : i2 = id := by
      have h := HY.out
      rw [← h.2.2.2.1, ← h.2.2.2.2] at e
      rw [← str_data i2, e, str_data]
    obtain ⟨p1, p2, p3⟩ := parse_print r1
    rw [← hEJ, e2]
    exact (unlock_yes (m := m) (n := 0) p1 r4 (by rw [p2, p3, ← r7, ← r6]; exact r5)).1
  have hul2 : ∀ W, KT W → Calls Tryz.prog 15 #[.string (str (printL i2 [s])), .string yp] W fun e w' => (∃ a n, e = .returned (.tuple #[.string a, .int .i64 n, .int .i64 EJ])) ∧ Below W.heap.size W w' := fun W k => by
    obtain ⟨_, _, _, r4, _⟩ := HF.out
    have h := hU (str (printL i2 [s])) (str p) W (by rw [str_size]; have := printL_small hr2; omega) (by rw [str_size]; have := (of_decide_eq_true r4).2; omega) k
    simp only [str_data] at h
    rw [hEJ, HY.out.2.1] at h
    exact h.mono (by rintro e w' ⟨h1, h2⟩; exact ⟨⟨_, _, h1⟩, h2⟩)
  clear hEJ hr2 hs3
  generalize str (printL i2 [s]) = yo at hpr2 hul2
  go_wp2_with fail
  refine hpr2.mono ?_
  rintro e w10 ⟨rfl, hbn⟩
  have hb10 := hb9.trans (hbn.mono hb9.size)
  have hb10' := hb9'.trans (hbn.mono hb9'.size)
  have hA10 := (hbn.block _ (heap_lt hA9)).trans hA9
  have hO10 := (hbn.block _ (heap_lt hO9)).trans hO9
  clear hbn hpr2 hb8 hb8' hA8 hO8 o0 o1 of0 hb9 hb9' hA9 hO9
  go_wp2_with fail
  refine (hul2 w10 (HKT.out _ hb10)).mono ?_
  rintro e w11 ⟨⟨ja, jn, rfl⟩, hbn⟩
  have hb11 := hb10.trans (hbn.mono hb10.size)
  have hb11' := hb10'.trans (hbn.mono hb10'.size)
  have hA11 := (hbn.block _ (heap_lt hA10)).trans hA10
  have hO11 := (hbn.block _ (heap_lt hO10)).trans hO10
  clear hbn hul2 hb10 hb10' hA10 hO10
  obtain ⟨see11, d0, d1, d2, r0, r1⟩ := HG.out w11 hb11' hA11
  go_wp2_with fail
  --REGION
  obtain ⟨rr, hrr⟩ : ∃ r : Nat, 1 + (rounds % ((4 : Nat) : Int)).toNat = r := ⟨_, rfl⟩
  have hrl : 1 ≤ rr ∧ rr ≤ 4 := by
    have a := Int.emod_nonneg rounds (show ((4 : Nat) : Int) ≠ 0 by omega)
    have b := Int.emod_lt_of_pos rounds (show (0 : Int) < ((4 : Nat) : Int) by omega)
    omega
  have hcl := fun W => clipped_any rounds 1 4 (by omega) (by omega) (by omega) W
  rw [hrr] at hcl
  change ∀ W, Calls Tryz.prog _ #[_, .int .i64 1, .int .i64 4] W _ at hcl
  clear hrr see11 d0 d1 d2 r0 r1
  have HK2 : Hid (∀ V W : World, (Below w.heap.size w V ∧ Below w4.heap.size w4 V ∧ V.heap[w4.heap.size]? = some (.cells #[.string yi, .slice (some ⟨g, 0, none⟩) 1 cp] 32 (0, 0)) ∧ V.heap[O]? = some (.cells #[.string y2, .slice (some ⟨g, 0, none⟩) 1 cp] 32 (0, 0))) → Below V.heap.size V W → (Below w.heap.size w W ∧ Below w4.heap.size w4 W ∧ W.heap[w4.heap.size]? = some (.cells #[.string yi, .slice (some ⟨g, 0, none⟩) 1 cp] 32 (0, 0)) ∧ W.heap[O]? = some (.cells #[.string y2, .slice (some ⟨g, 0, none⟩) 1 cp] 32 (0, 0)))) := fun V W k hb => ⟨k.1.trans (hb.mono k.1.size), k.2.1.trans (hb.mono k.2.1.size), (hb.block _ (heap_lt k.2.2.1)).trans k.2.2.1, (hb.block _ (heap_lt k.2.2.2)).trans k.2.2.2⟩
  refine wp_region_held_drew (S := fun W => Below w.heap.size w W ∧ Below w4.heap.size w4 W ∧ W.heap[w4.heap.size]? = some (.cells #[.string yi, .slice (some ⟨g, 0, none⟩) 1 cp] 32 (0, 0)) ∧ W.heap[O]? = some (.cells #[.string y2, .slice (some ⟨g, 0, none⟩) 1 cp] 32 (0, 0))) (by kernel_rfl) ⟨hb11.drew, hb11'.drew, hA11, hO11⟩ ?_
  clear hb11 hb11' hA11 hO11
  generalize World.drew _ = V
  intro hS
  refine wpAnyH_take (i := 0) (oi := { dst := some 125, op := .fieldAddr 32 (.tmp 15) 0, type := _, pos := _, after := _, guard := none }) (v := .pointer (some ⟨w4.heap.size, 0, none⟩)) rfl (by kernel_rfl) (by kernel_rfl) (by kernel_rfl) (fun _ _ _ h => h) (Or.inl ⟨by rfl, by intro x _; go_simp⟩) hS ?_
  (try simp only [Act.put, List.setIfInBounds_toArray, List.set_cons_zero, List.set_cons_succ])
  refine wpAnyH_take (i := 1) (oi := { dst := some 126, op := .load 9 (.tmp 125), type := _, pos := _, after := _, guard := none }) (v := .string yi) rfl (by kernel_rfl) (by kernel_rfl) (by kernel_rfl) (fun _ _ _ h => h) (Or.inl ⟨by rfl, by intro x hx; have h1 : x.cell? ⟨w4.heap.size, 0, none⟩ = some (.string yi) := (HG.out x hx.2.1 hx.2.2.1).2.2.2.2.1; go_simp⟩) hS ?_
  (try simp only [Act.put, List.setIfInBounds_toArray, List.set_cons_zero, List.set_cons_succ])
  refine wpAnyH_take (i := 2) (oi := { dst := some 127, op := .fieldAddr 32 (.tmp 15) 1, type := _, pos := _, after := _, guard := none }) (v := .pointer (some ⟨w4.heap.size, 1, none⟩)) rfl (by kernel_rfl) (by kernel_rfl) (by kernel_rfl) (fun _ _ _ h => h) (Or.inl ⟨by rfl, by intro x _; go_simp⟩) hS ?_
  (try simp only [Act.put, List.setIfInBounds_toArray, List.set_cons_zero, List.set_cons_succ])
  refine wpAnyH_take (i := 3) (oi := { dst := some 128, op := .load 30 (.tmp 127), type := _, pos := _, after := _, guard := none }) (v := .slice (some ⟨g, 0, none⟩) 1 cp) rfl (by kernel_rfl) (by kernel_rfl) (by kernel_rfl) (fun _ _ _ h => h) (Or.inl ⟨by rfl, by intro x hx; have h1 : x.cell? ⟨w4.heap.size, 1, none⟩ = some (.slice (some ⟨g, 0, none⟩) 1 cp) := (HG.out x hx.2.1 hx.2.2.1).2.2.2.2.2; go_simp⟩) hS ?_
  (try simp only [Act.put, List.setIfInBounds_toArray, List.set_cons_zero, List.set_cons_succ])
  refine wpAnyH_take (i := 4) (oi := { dst := some 129, op := .indexAddr 30 (.tmp 128) (.const (.int .i64 0)), type := _, pos := _, after := _, guard := none }) (v := .pointer (some ⟨g, 0, none⟩)) rfl (by kernel_rfl) (by kernel_rfl) (by kernel_rfl) (fun _ _ _ h => h) (Or.inl ⟨by rfl, by intro x _; go_simp⟩) hS ?_
  (try simp only [Act.put, List.setIfInBounds_toArray, List.set_cons_zero, List.set_cons_succ])
  refine wpAnyH_take (i := 5) (oi := { dst := some 130, op := .fieldAddr 38 (.tmp 129) 0, type := _, pos := _, after := _, guard := none }) (v := .pointer (some ⟨g, 0, none⟩)) rfl (by kernel_rfl) (by kernel_rfl) (by kernel_rfl) (fun _ _ _ h => h) (Or.inl ⟨by rfl, by intro x _; go_simp⟩) hS ?_
  (try simp only [Act.put, List.setIfInBounds_toArray, List.set_cons_zero, List.set_cons_succ])
  refine wpAnyH_take (i := 6) (oi := { dst := some 131, op := .load 9 (.tmp 130), type := _, pos := _, after := _, guard := none }) (v := .string xa) rfl (by kernel_rfl) (by kernel_rfl) (by kernel_rfl) (fun _ _ _ h => h) (Or.inl ⟨by rfl, by intro x hx; have h1 : x.cell? ⟨g, 0, none⟩ = some (.string xa) := (HG.out x hx.2.1 hx.2.2.1).2.1; go_simp⟩) hS ?_
  (try simp only [Act.put, List.setIfInBounds_toArray, List.set_cons_zero, List.set_cons_succ])
  refine wpAnyH_take (i := 7) (oi := { dst := some 132, op := .move (.tmp 4), type := _, pos := _, after := _, guard := none }) (v := .int .i64 rounds) rfl (by kernel_rfl) (by kernel_rfl) (by kernel_rfl) (fun _ _ _ h => h) (Or.inl ⟨by rfl, by intro x _; go_simp⟩) hS ?_
  (try simp only [Act.put, List.setIfInBounds_toArray, List.set_cons_zero, List.set_cons_succ])
  refine wpAnyH_take (i := 9) (oi := { dst := some 134, op := .fieldAddr 32 (.tmp 15) 1, type := _, pos := _, after := _, guard := none }) (v := .pointer (some ⟨w4.heap.size, 1, none⟩)) rfl (by kernel_rfl) (by kernel_rfl) (by kernel_rfl) (fun _ _ _ h => h) (Or.inl ⟨by rfl, by intro x _; go_simp⟩) hS ?_
  (try simp only [Act.put, List.setIfInBounds_toArray, List.set_cons_zero, List.set_cons_succ])
  refine wpAnyH_take (i := 10) (oi := { dst := some 135, op := .load 30 (.tmp 134), type := _, pos := _, after := _, guard := none }) (v := .slice (some ⟨g, 0, none⟩) 1 cp) rfl (by kernel_rfl) (by kernel_rfl) (by kernel_rfl) (fun _ _ _ h => h) (Or.inl ⟨by rfl, by intro x hx; have h1 : x.cell? ⟨w4.heap.size, 1, none⟩ = some (.slice (some ⟨g, 0, none⟩) 1 cp) := (HG.out x hx.2.1 hx.2.2.1).2.2.2.2.2; go_simp⟩) hS ?_
  (try simp only [Act.put, List.setIfInBounds_toArray, List.set_cons_zero, List.set_cons_succ])
  refine wpAnyH_take (i := 11) (oi := { dst := some 136, op := .indexAddr 30 (.tmp 135) (.const (.int .i64 0)), type := _, pos := _, after := _, guard := none }) (v := .pointer (some ⟨g, 0, none⟩)) rfl (by kernel_rfl) (by kernel_rfl) (by kernel_rfl) (fun _ _ _ h => h) (Or.inl ⟨by rfl, by intro x _; go_simp⟩) hS ?_
  (try simp only [Act.put, List.setIfInBounds_toArray, List.set_cons_zero, List.set_cons_succ])
  refine wpAnyH_take (i := 12) (oi := { dst := some 137, op := .fieldAddr 38 (.tmp 136) 2, type := _, pos := _, after := _, guard := none }) (v := .pointer (some ⟨g, 2, none⟩)) rfl (by kernel_rfl) (by kernel_rfl) (by kernel_rfl) (fun _ _ _ h => h) (Or.inl ⟨by rfl, by intro x _; go_simp⟩) hS ?_
  (try simp only [Act.put, List.setIfInBounds_toArray, List.set_cons_zero, List.set_cons_succ])
  refine wpAnyH_take (i := 13) (oi := { dst := some 138, op := .load 9 (.tmp 137), type := _, pos := _, after := _, guard := none }) (v := .string xc) rfl (by kernel_rfl) (by kernel_rfl) (by kernel_rfl) (fun _ _ _ h => h) (Or.inl ⟨by rfl, by intro x hx; have h1 : x.cell? ⟨g, 2, none⟩ = some (.string xc) := (HG.out x hx.2.1 hx.2.2.1).2.2.2.1; go_simp⟩) hS ?_
  (try simp only [Act.put, List.setIfInBounds_toArray, List.set_cons_zero, List.set_cons_succ])
  refine wpAnyH_ready (rs := [8, 17]) (by kernel_rfl) (by simp) ?_
  refine AllReadyH.cons (o := { dst := some 133, op := .call { callee := .value (.func 11), args := #[.tmp 132, .const (.int .i64 1), .const (.int .i64 4)], argTypes := #[3, 3, 3] }, type := _, pos := _, after := _, guard := none }) rfl (fun K hK => ?_) (AllReadyH.cons (o := { dst := some 28, op := .alloc 32, type := _, pos := _, after := _, guard := none }) rfl (fun K hK => ?_) AllReadyH.nil)
  · go_simp
    refine (hcl V).mono ?_
    rintro e W2 ⟨rfl, rfl⟩
    refine hK.out _ _ hS (fun _ => ?_)
    clear hK K
    (try simp only [Act.put, List.setIfInBounds_toArray, List.set_cons_zero, List.set_cons_succ])
    refine wpAnyH_take (i := 14) (oi := { dst := some 139, op := .build 38 #[(0, .tmp 131), (1, .tmp 133), (2, .tmp 138)], type := _, pos := _, after := _, guard := none }) (v := .agg #[.string xa, .int .i64 (rr : Int), .string xc]) rfl (by kernel_rfl) (by kernel_rfl) (by kernel_rfl) (fun _ _ _ h => h) (Or.inl ⟨by rfl, by intro x _; go_simp⟩) hS ?_
    (try simp only [Act.put, List.setIfInBounds_toArray, List.set_cons_zero, List.set_cons_succ])
    refine wpAnyH_ready (rs := [15, 17]) (by kernel_rfl) (by simp) ?_
    refine AllReadyH.cons (o := { dst := some 140, op := .buildSlice 30 1 #[(0, .tmp 139)], type := _, pos := _, after := _, guard := none }) rfl (fun K hK => ?_) (AllReadyH.cons (o := { dst := some 28, op := .alloc 32, type := _, pos := _, after := _, guard := none }) rfl (fun K hK => ?_) AllReadyH.nil)
    · go_simp
      have m1 : (V.alloc (.cells #[.string xa, .int .i64 (rr : Int), .string xc] 38)).heap[V.heap.size]? = some (.cells #[.string xa, .int .i64 (rr : Int), .string xc] 38) := heap_new _ _
      have hb9 : Below V.heap.size V (V.alloc (.cells #[.string xa, .int .i64 (rr : Int), .string xc] 38)) := (Below.refl _ _).alloc (Nat.le_refl _) _
      have hS2 := HK2.out V _ hS hb9
      have hl1 : w4.heap.size < V.heap.size ∧ O < V.heap.size := ⟨heap_lt hS.2.2.1, heap_lt hS.2.2.2⟩
      refine hK.out _ _ hS2 (fun _ => ?_)
      clear hK K
      (try simp only [Act.put, List.setIfInBounds_toArray, List.set_cons_zero, List.set_cons_succ])
      revert m1 hS2 hl1
      clear hS hb9
      generalize V.alloc (.cells #[.string xa, .int .i64 (rr : Int), .string xc] 38) = V2
      generalize V.heap.size = h1
      intro n1 hS hl1
      revert n1 hS
      generalize V2 = V
      intro n1 hS
      refine wpAnyH_take (i := 16) (oi := { dst := some 141, op := .build 32 #[(0, .tmp 126), (1, .tmp 140)], type := _, pos := _, after := _, guard := none }) (v := .agg #[.string yi, .slice (some ⟨h1, 0, none⟩) 1 1]) rfl (by kernel_rfl) (by kernel_rfl) (by kernel_rfl) (fun _ _ _ h => h) (Or.inl ⟨by rfl, by intro x _; go_simp⟩) hS ?_
      (try simp only [Act.put, List.setIfInBounds_toArray, List.set_cons_zero, List.set_cons_succ])
      refine wpAnyH_ready (rs := [17]) (by kernel_rfl) (by simp) ?_
      refine AllReadyH.cons (o := { dst := some 28, op := .alloc 32, type := _, pos := _, after := _, guard := none }) rfl (fun K hK => ?_) AllReadyH.nil
      go_simp
      have m2 : (V.alloc (.cells #[.string { data := #[] }, .slice none 0 0] 32)).heap[V.heap.size]? = some (.cells #[.string { data := #[] }, .slice none 0 0] 32) := heap_new _ _
      have hb9 : Below V.heap.size V (V.alloc (.cells #[.string { data := #[] }, .slice none 0 0] 32)) := (Below.refl _ _).alloc (Nat.le_refl _) _
      have m1 := (hb9.block _ (heap_lt n1)).trans n1
      have hne : h1 ≠ V.heap.size := by have := heap_lt n1; omega
      have hS2 := HK2.out V _ hS hb9
      have hl2 : w4.heap.size < V.heap.size ∧ O < V.heap.size := ⟨heap_lt hS.2.2.1, heap_lt hS.2.2.2⟩
      refine hK.out _ _ hS2 (fun _ => ?_)
      clear hK K
      (try simp only [Act.put, List.setIfInBounds_toArray, List.set_cons_zero, List.set_cons_succ])
      revert m2 m1 hne hS2 hl2
      clear hS hb9 n1
      generalize V.alloc (.cells #[.string { data := #[] }, .slice none 0 0] 32) = V2
      generalize V.heap.size = h2
      intro n2 n1 hne hS hl2
      revert n2 n1 hne hS
      generalize V2 = V
      intro n2 n1 hne hS
      refine wpAnyH_ready (rs := [18]) (by kernel_rfl) (by simp) ?_
      refine AllReadyH.cons (o := { dst := none, op := .store 32 (.tmp 28) (.tmp 141), type := _, pos := _, after := _, guard := none }) rfl (fun K hK => ?_) AllReadyH.nil
      have hne2 : h1 ≠ h2 := by omega
      have z0 : V.cell? ⟨h2, 0, none⟩ = some (.string { data := #[] }) := (cell_of_heap n2).trans rfl
      have z1 : V.cell? ⟨h2, 1, none⟩ = some (.slice none 0 0) := (cell_of_heap n2).trans rfl
      have z2 : V.frozen? ⟨h2, 0, none⟩ = false := frozen_of_heap n2
      have z3 : V.frozen? ⟨h2, 1, none⟩ = false := frozen_of_heap n2
      go_simp
      have m2 : ((V.setCell ⟨h2, 0, none⟩ (.string yi)).setCell ⟨h2, 1, none⟩ (.slice (some ⟨h1, 0, none⟩) 1 1)).heap[h2]? = _ := put2 n2
      have m1 : ((V.setCell ⟨h2, 0, none⟩ (.string yi)).setCell ⟨h2, 1, none⟩ (.slice (some ⟨h1, 0, none⟩) 1 1)).heap[h1]? = _ := (heap_setCell_other _ ⟨h2, 1, none⟩ h1 _ hne2).trans ((heap_setCell_other _ ⟨h2, 0, none⟩ h1 _ hne2).trans n1)
      have hw4 := hb4.size
      have hS9 : Below w.heap.size w ((V.setCell ⟨h2, 0, none⟩ (.string yi)).setCell ⟨h2, 1, none⟩ (.slice (some ⟨h1, 0, none⟩) 1 1)) ∧ Below w4.heap.size w4 ((V.setCell ⟨h2, 0, none⟩ (.string yi)).setCell ⟨h2, 1, none⟩ (.slice (some ⟨h1, 0, none⟩) 1 1)) ∧ ((V.setCell ⟨h2, 0, none⟩ (.string yi)).setCell ⟨h2, 1, none⟩ (.slice (some ⟨h1, 0, none⟩) 1 1)).heap[w4.heap.size]? = some (.cells #[.string yi, .slice (some ⟨g, 0, none⟩) 1 cp] 32 (0, 0)) ∧ ((V.setCell ⟨h2, 0, none⟩ (.string yi)).setCell ⟨h2, 1, none⟩ (.slice (some ⟨h1, 0, none⟩) 1 1)).heap[O]? = some (.cells #[.string y2, .slice (some ⟨g, 0, none⟩) 1 cp] 32 (0, 0)) := ⟨(hS.1.setCell (by show w.heap.size ≤ h2; omega) _).setCell (by show w.heap.size ≤ h2; omega) _, (hS.2.1.setCell (by show w4.heap.size ≤ h2; omega) _).setCell (by show w4.heap.size ≤ h2; omega) _, (heap_setCell_other _ ⟨h2, 1, none⟩ w4.heap.size _ (by show w4.heap.size ≠ h2; omega)).trans ((heap_setCell_other _ ⟨h2, 0, none⟩ w4.heap.size _ (by show w4.heap.size ≠ h2; omega)).trans hS.2.2.1), (heap_setCell_other _ ⟨h2, 1, none⟩ O _ (by show O ≠ h2; omega)).trans ((heap_setCell_other _ ⟨h2, 0, none⟩ O _ (by show O ≠ h2; omega)).trans hS.2.2.2)⟩
      refine hK.out _ _ hS9 (fun _ => ?_)
      clear hK K
      (try simp only [Act.put])
      revert m1 m2 hS9
      clear hS n1 n2 z0 z1 z2 z3
      generalize ((V.setCell ⟨h2, 0, none⟩ (.string yi)).setCell ⟨h2, 1, none⟩ (.slice (some ⟨h1, 0, none⟩) 1 1)) = V3
      intro n2 n1 hS
      revert n2 n1 hS
      generalize V3 = V
      intro n2 n1 hS
      refine wpAnyH_done (by kernel_rfl) ?_ _
      obtain ⟨s2, hs2⟩ : ∃ s2 : Slot, s2 = ⟨s.salt, (rr : Int), s.wrapped⟩ := ⟨_, rfl⟩
      have hrg : ringCells [s2] = [.string xa, .int .i64 (rr : Int), .string xc] := by rw [hs2]; show [Value.string (str s.salt), .int .i64 (rr : Int), .string (str s.wrapped)] = _; rw [HXA.out.1, HXA.out.2]
      have hse : SeeS V (.slice (some ⟨h1, 0, none⟩) 1 1) [s2] := ⟨some ⟨h1, 0, none⟩, h1, 0, 1, rfl, fun _ => ⟨rfl, heap_lt n1⟩, fun j u hu => by rw [hrg] at hu; rw [Nat.zero_add, cell_of_heap n1]; simpa using hu⟩
      have hr3 : rightR id [s2] = true := by
        have h := right_sizes HF.out.1
        refine right_mk h.1 (by simp) (by simp) (fun x hx => ?_)
        obtain rfl : x = s2 := by simpa using hx
        obtain ⟨u1, u2, u3, u4⟩ := h.2.2.2 s (by simp)
        rw [hs2]
        exact decide_eq_true ⟨u1, by show (1 : Int) ≤ (rr : Int); omega, by show (rr : Int) ≤ 4096; omega, u4⟩
      have hpr3 := hR id _ [s2] V hse (by have := (right_sizes hr3).1; omega) (by simp) (HKT.out _ hS.1)
      rw [(printY_of hr3).1, (printY_of hr3).2, HY.out.2.2.2.1] at hpr3
      obtain ⟨EY, hEY⟩ : ∃ E, unlockE (printL id [s2]) p = E := ⟨_, rfl⟩
      have HEY : Hid ((EY = 0 ∨ EY = 73) ∧ (rr = 2 → EY = 0)) := by
        obtain ⟨v1, v2, v3, v4, v5, v6, v7, _⟩ := HF.out
        refine ⟨by rw [← hEY]; exact unlock_printed hr3 v4, fun e => ?_⟩
        have e2 : s2 = s := by
          rw [hs2, e]
          show (⟨s.salt, 2, s.wrapped⟩ : Slot) = s
          rw [← v3]
        obtain ⟨p1, p2, p3⟩ := parse_print v1
        rw [← hEY, e2]
        exact (unlock_yes (m := m) (n := 0) p1 v4 (by rw [p2, p3, ← v7, ← v6]; exact v5)).1
      have hul3 : ∀ W, KT W → Calls Tryz.prog 15 #[.string (str (printL id [s2])), .string yp] W fun e w' => (∃ a n, e = .returned (.tuple #[.string a, .int .i64 n, .int .i64 EY])) ∧ Below W.heap.size W w' := fun W k => by
        obtain ⟨_, _, _, v4, _⟩ := HF.out
        have h := hU (str (printL id [s2])) (str p) W (by rw [str_size]; have := printL_small hr3; omega) (by rw [str_size]; have := (of_decide_eq_true v4).2; omega) k
        simp only [str_data] at h
        rw [hEY, HY.out.2.1] at h
        exact h.mono (by rintro e w' ⟨h1, h2⟩; exact ⟨⟨_, _, h1⟩, h2⟩)
      clear hEY hr3 hse hrg hs2 hcl HK2
      generalize str (printL id [s2]) = yu at hpr3 hul3
      have y0 : V.cell? ⟨h2, 0, none⟩ = some (.string yi) := (cell_of_heap n2).trans rfl
      have y1 : V.cell? ⟨h2, 1, none⟩ = some (.slice (some ⟨h1, 0, none⟩) 1 1) := (cell_of_heap n2).trans rfl
      go_wp2_with fail
      refine hpr3.mono ?_
      rintro e v1 ⟨rfl, hbn⟩
      have hc1 := hS.1.trans (hbn.mono hS.1.size)
      have hA1 := (hbn.block _ (heap_lt hS.2.2.1)).trans hS.2.2.1
      have hO1 := (hbn.block _ (heap_lt hS.2.2.2)).trans hS.2.2.2
      have m1 := (hbn.block _ (heap_lt n1)).trans n1
      have m2 := (hbn.block _ (heap_lt n2)).trans n2
      clear hbn hpr3 hS n1 n2 y0 y1
      go_wp2_with fail
      refine (hul3 v1 (HKT.out _ hc1)).mono ?_
      rintro e v2 ⟨⟨ya, yn, rfl⟩, hbn⟩
      have hc2 := hc1.trans (hbn.mono hc1.size)
      have hA2 := (hbn.block _ (heap_lt hA1)).trans hA1
      have hO2 := (hbn.block _ (heap_lt hO1)).trans hO1
      have k1 := (hbn.block _ (heap_lt m1)).trans m1
      have k2 := (hbn.block _ (heap_lt m2)).trans m2
      clear hbn hul3 hc1 hA1 hO1 m1 m2
      have a0 : v2.cell? ⟨w4.heap.size, 0, none⟩ = some (.string yi) := (cell_of_heap hA2).trans rfl
      have a1 : v2.cell? ⟨O, 0, none⟩ = some (.string y2) := (cell_of_heap hO2).trans rfl
      have a2 : v2.cell? ⟨h2, 1, none⟩ = some (.slice (some ⟨h1, 0, none⟩) 1 1) := (cell_of_heap k2).trans rfl
      have a3 : v2.cell? ⟨h1, 1, none⟩ = some (.int .i64 (rr : Int)) := (cell_of_heap k1).trans rfl
      clear hA2 hO2 k1 k2
      obtain ⟨hEJ1, hEJ2⟩ := HEJ.out
      obtain ⟨hEY1, hEY2⟩ := HEY.out
      by_cases hi9 : y2 = yi
      · have hj0 := hEJ2 hi9
        subst hi9
        subst hj0
        by_cases hr9 : rr = 2
        · have hy0 := hEY2 hr9
          subst hr9
          subst hy0
          clear HF HEJ HEY HG HY HKT HXA hEJ2 hEY2
          go_wp2_with (go_at_call 10; refine (knum_any _ _).mono ?_; rintro e wn ⟨rfl, rfl⟩)
          go_ret
          exact ⟨rfl, hc2⟩
        · have hrI : ¬ (rr : Int) = 2 := by omega
          have hrB : ((rr : Int) == 2) = false := by simpa using hrI
          rcases hEY1 with rfl | rfl
          · clear HF HEJ HEY HG HY HKT HXA hEJ2 hEY2
            go_wp2_with (go_at_call 10; refine (knum_any _ _).mono ?_; rintro e wn ⟨rfl, rfl⟩)
            go_ret
            exact ⟨rfl, hc2⟩
          · clear HF HEJ HEY HG HY HKT HXA hEJ2 hEY2
            go_wp2_with (go_at_call 10; refine (knum_any _ _).mono ?_; rintro e wn ⟨rfl, rfl⟩)
            go_ret
            exact ⟨rfl, hc2⟩
      · have hib : (y2.toList == yi.toList) = false := ba_ne hi9
        have hib2 : ¬ y2.toList = yi.toList := ba_ne2 hi9
        by_cases hr9 : rr = 2
        · have hy0 := hEY2 hr9
          subst hr9
          subst hy0
          rcases hEJ1 with rfl | rfl
          · clear HF HEJ HEY HG HY HKT HXA hEJ2 hEY2
            go_wp2_with (go_at_call 10; refine (knum_any _ _).mono ?_; rintro e wn ⟨rfl, rfl⟩)
            go_ret
            exact ⟨rfl, hc2⟩
          · clear HF HEJ HEY HG HY HKT HXA hEJ2 hEY2
            go_wp2_with (go_at_call 10; refine (knum_any _ _).mono ?_; rintro e wn ⟨rfl, rfl⟩)
            go_ret
            exact ⟨rfl, hc2⟩
        · have hrI : ¬ (rr : Int) = 2 := by omega
          have hrB : ((rr : Int) == 2) = false := by simpa using hrI
          rcases hEY1 with rfl | rfl
          · rcases hEJ1 with rfl | rfl
            · clear HF HEJ HEY HG HY HKT HXA hEJ2 hEY2
              go_wp2_with (go_at_call 10; refine (knum_any _ _).mono ?_; rintro e wn ⟨rfl, rfl⟩)
              go_ret
              exact ⟨rfl, hc2⟩
            · clear HF HEJ HEY HG HY HKT HXA hEJ2 hEY2
              go_wp2_with (go_at_call 10; refine (knum_any _ _).mono ?_; rintro e wn ⟨rfl, rfl⟩)
              go_ret
              exact ⟨rfl, hc2⟩
          · rcases hEJ1 with rfl | rfl
            · clear HF HEJ HEY HG HY HKT HXA hEJ2 hEY2
              go_wp2_with (go_at_call 10; refine (knum_any _ _).mono ?_; rintro e wn ⟨rfl, rfl⟩)
              go_ret
              exact ⟨rfl, hc2⟩
            · clear HF HEJ HEY HG HY HKT HXA hEJ2 hEY2
              go_wp2_with (go_at_call 10; refine (knum_any _ _).mono ?_; rintro e wn ⟨rfl, rfl⟩)
              go_ret
              exact ⟨rfl, hc2⟩
    · go_simp
      have m2 : (V.alloc (.cells #[.string { data := #[] }, .slice none 0 0] 32)).heap[V.heap.size]? = some (.cells #[.string { data := #[] }, .slice none 0 0] 32) := heap_new _ _
      have hb9 : Below V.heap.size V (V.alloc (.cells #[.string { data := #[] }, .slice none 0 0] 32)) := (Below.refl _ _).alloc (Nat.le_refl _) _
      have hS2 := HK2.out V _ hS hb9
      have hl2 : w4.heap.size < V.heap.size ∧ O < V.heap.size := ⟨heap_lt hS.2.2.1, heap_lt hS.2.2.2⟩
      refine hK.out _ _ hS2 (fun _ => ?_)
      clear hK K
      (try simp only [Act.put, List.setIfInBounds_toArray, List.set_cons_zero, List.set_cons_succ])
      revert m2 hS2 hl2
      clear hS hb9
      generalize V.alloc (.cells #[.string { data := #[] }, .slice none 0 0] 32) = V2
      generalize V.heap.size = h2
      intro n2 hS hl2
      revert n2 hS
      generalize V2 = V
      intro n2 hS
      refine wpAnyH_ready (rs := [15]) (by kernel_rfl) (by simp) ?_
      refine AllReadyH.cons (o := { dst := some 140, op := .buildSlice 30 1 #[(0, .tmp 139)], type := _, pos := _, after := _, guard := none }) rfl (fun K hK => ?_) AllReadyH.nil
      go_simp
      have m1 : (V.alloc (.cells #[.string xa, .int .i64 (rr : Int), .string xc] 38)).heap[V.heap.size]? = some (.cells #[.string xa, .int .i64 (rr : Int), .string xc] 38) := heap_new _ _
      have hb9 : Below V.heap.size V (V.alloc (.cells #[.string xa, .int .i64 (rr : Int), .string xc] 38)) := (Below.refl _ _).alloc (Nat.le_refl _) _
      have m2 := (hb9.block _ (heap_lt n2)).trans n2
      have hne : h2 ≠ V.heap.size := by have := heap_lt n2; omega
      have hS2 := HK2.out V _ hS hb9
      have hl1 : w4.heap.size < V.heap.size ∧ O < V.heap.size := ⟨heap_lt hS.2.2.1, heap_lt hS.2.2.2⟩
      refine hK.out _ _ hS2 (fun _ => ?_)
      clear hK K
      (try simp only [Act.put, List.setIfInBounds_toArray, List.set_cons_zero, List.set_cons_succ])
      revert m1 m2 hne hS2 hl1
      clear hS hb9 n2
      generalize V.alloc (.cells #[.string xa, .int .i64 (rr : Int), .string xc] 38) = V2
      generalize V.heap.size = h1
      intro n1 n2 hne hS hl1
      revert n1 n2 hne hS
      generalize V2 = V
      intro n1 n2 hne hS
      refine wpAnyH_take (i := 16) (oi := { dst := some 141, op := .build 32 #[(0, .tmp 126), (1, .tmp 140)], type := _, pos := _, after := _, guard := none }) (v := .agg #[.string yi, .slice (some ⟨h1, 0, none⟩) 1 1]) rfl (by kernel_rfl) (by kernel_rfl) (by kernel_rfl) (fun _ _ _ h => h) (Or.inl ⟨by rfl, by intro x _; go_simp⟩) hS ?_
      (try simp only [Act.put, List.setIfInBounds_toArray, List.set_cons_zero, List.set_cons_succ])
      refine wpAnyH_ready (rs := [18]) (by kernel_rfl) (by simp) ?_
      refine AllReadyH.cons (o := { dst := none, op := .store 32 (.tmp 28) (.tmp 141), type := _, pos := _, after := _, guard := none }) rfl (fun K hK => ?_) AllReadyH.nil
      have hne2 : h1 ≠ h2 := by omega
      have z0 : V.cell? ⟨h2, 0, none⟩ = some (.string { data := #[] }) := (cell_of_heap n2).trans rfl
      have z1 : V.cell? ⟨h2, 1, none⟩ = some (.slice none 0 0) := (cell_of_heap n2).trans rfl
      have z2 : V.frozen? ⟨h2, 0, none⟩ = false := frozen_of_heap n2
      have z3 : V.frozen? ⟨h2, 1, none⟩ = false := frozen_of_heap n2
      go_simp
      have m2 : ((V.setCell ⟨h2, 0, none⟩ (.string yi)).setCell ⟨h2, 1, none⟩ (.slice (some ⟨h1, 0, none⟩) 1 1)).heap[h2]? = _ := put2 n2
      have m1 : ((V.setCell ⟨h2, 0, none⟩ (.string yi)).setCell ⟨h2, 1, none⟩ (.slice (some ⟨h1, 0, none⟩) 1 1)).heap[h1]? = _ := (heap_setCell_other _ ⟨h2, 1, none⟩ h1 _ hne2).trans ((heap_setCell_other _ ⟨h2, 0, none⟩ h1 _ hne2).trans n1)
      have hw4 := hb4.size
      have hS9 : Below w.heap.size w ((V.setCell ⟨h2, 0, none⟩ (.string yi)).setCell ⟨h2, 1, none⟩ (.slice (some ⟨h1, 0, none⟩) 1 1)) ∧ Below w4.heap.size w4 ((V.setCell ⟨h2, 0, none⟩ (.string yi)).setCell ⟨h2, 1, none⟩ (.slice (some ⟨h1, 0, none⟩) 1 1)) ∧ ((V.setCell ⟨h2, 0, none⟩ (.string yi)).setCell ⟨h2, 1, none⟩ (.slice (some ⟨h1, 0, none⟩) 1 1)).heap[w4.heap.size]? = some (.cells #[.string yi, .slice (some ⟨g, 0, none⟩) 1 cp] 32 (0, 0)) ∧ ((V.setCell ⟨h2, 0, none⟩ (.string yi)).setCell ⟨h2, 1, none⟩ (.slice (some ⟨h1, 0, none⟩) 1 1)).heap[O]? = some (.cells #[.string y2, .slice (some ⟨g, 0, none⟩) 1 cp] 32 (0, 0)) := ⟨(hS.1.setCell (by show w.heap.size ≤ h2; omega) _).setCell (by show w.heap.size ≤ h2; omega) _, (hS.2.1.setCell (by show w4.heap.size ≤ h2; omega) _).setCell (by show w4.heap.size ≤ h2; omega) _, (heap_setCell_other _ ⟨h2, 1, none⟩ w4.heap.size _ (by show w4.heap.size ≠ h2; omega)).trans ((heap_setCell_other _ ⟨h2, 0, none⟩ w4.heap.size _ (by show w4.heap.size ≠ h2; omega)).trans hS.2.2.1), (heap_setCell_other _ ⟨h2, 1, none⟩ O _ (by show O ≠ h2; omega)).trans ((heap_setCell_other _ ⟨h2, 0, none⟩ O _ (by show O ≠ h2; omega)).trans hS.2.2.2)⟩
      refine hK.out _ _ hS9 (fun _ => ?_)
      clear hK K
      (try simp only [Act.put])
      revert m1 m2 hS9
      clear hS n1 n2 z0 z1 z2 z3
      generalize ((V.setCell ⟨h2, 0, none⟩ (.string yi)).setCell ⟨h2, 1, none⟩ (.slice (some ⟨h1, 0, none⟩) 1 1)) = V3
      intro n2 n1 hS
      revert n2 n1 hS
      generalize V3 = V
      intro n2 n1 hS
      refine wpAnyH_done (by kernel_rfl) ?_ _
      obtain ⟨s2, hs2⟩ : ∃ s2 : Slot, s2 = ⟨s.salt, (rr : Int), s.wrapped⟩ := ⟨_, rfl⟩
      have hrg : ringCells [s2] = [.string xa, .int .i64 (rr : Int), .string xc] := by rw [hs2]; show [Value.string (str s.salt), .int .i64 (rr : Int), .string (str s.wrapped)] = _; rw [HXA.out.1, HXA.out.2]
      have hse : SeeS V (.slice (some ⟨h1, 0, none⟩) 1 1) [s2] := ⟨some ⟨h1, 0, none⟩, h1, 0, 1, rfl, fun _ => ⟨rfl, heap_lt n1⟩, fun j u hu => by rw [hrg] at hu; rw [Nat.zero_add, cell_of_heap n1]; simpa using hu⟩
      have hr3 : rightR id [s2] = true := by
        have h := right_sizes HF.out.1
        refine right_mk h.1 (by simp) (by simp) (fun x hx => ?_)
        obtain rfl : x = s2 := by simpa using hx
        obtain ⟨u1, u2, u3, u4⟩ := h.2.2.2 s (by simp)
        rw [hs2]
        exact decide_eq_true ⟨u1, by show (1 : Int) ≤ (rr : Int); omega, by show (rr : Int) ≤ 4096; omega, u4⟩
      have hpr3 := hR id _ [s2] V hse (by have := (right_sizes hr3).1; omega) (by simp) (HKT.out _ hS.1)
      rw [(printY_of hr3).1, (printY_of hr3).2, HY.out.2.2.2.1] at hpr3
      obtain ⟨EY, hEY⟩ : ∃ E, unlockE (printL id [s2]) p = E := ⟨_, rfl⟩
      have HEY : Hid ((EY = 0 ∨ EY = 73) ∧ (rr = 2 → EY = 0)) := by
        obtain ⟨v1, v2, v3, v4, v5, v6, v7, _⟩ := HF.out
        refine ⟨by rw [← hEY]; exact unlock_printed hr3 v4, fun e => ?_⟩
        have e2 : s2 = s := by
          rw [hs2, e]
          show (⟨s.salt, 2, s.wrapped⟩ : Slot) = s
          rw [← v3]
        obtain ⟨p1, p2, p3⟩ := parse_print v1
        rw [← hEY, e2]
        exact (unlock_yes (m := m) (n := 0) p1 v4 (by rw [p2, p3, ← v7, ← v6]; exact v5)).1
      have hul3 : ∀ W, KT W → Calls Tryz.prog 15 #[.string (str (printL id [s2])), .string yp] W fun e w' => (∃ a n, e = .returned (.tuple #[.string a, .int .i64 n, .int .i64 EY])) ∧ Below W.heap.size W w' := fun W k => by
        obtain ⟨_, _, _, v4, _⟩ := HF.out
        have h := hU (str (printL id [s2])) (str p) W (by rw [str_size]; have := printL_small hr3; omega) (by rw [str_size]; have := (of_decide_eq_true v4).2; omega) k
        simp only [str_data] at h
        rw [hEY, HY.out.2.1] at h
        exact h.mono (by rintro e w' ⟨h1, h2⟩; exact ⟨⟨_, _, h1⟩, h2⟩)
      clear hEY hr3 hse hrg hs2 hcl HK2
      generalize str (printL id [s2]) = yu at hpr3 hul3
      have y0 : V.cell? ⟨h2, 0, none⟩ = some (.string yi) := (cell_of_heap n2).trans rfl
      have y1 : V.cell? ⟨h2, 1, none⟩ = some (.slice (some ⟨h1, 0, none⟩) 1 1) := (cell_of_heap n2).trans rfl
      go_wp2_with fail
      refine hpr3.mono ?_
      rintro e v1 ⟨rfl, hbn⟩
      have hc1 := hS.1.trans (hbn.mono hS.1.size)
      have hA1 := (hbn.block _ (heap_lt hS.2.2.1)).trans hS.2.2.1
      have hO1 := (hbn.block _ (heap_lt hS.2.2.2)).trans hS.2.2.2
      have m1 := (hbn.block _ (heap_lt n1)).trans n1
      have m2 := (hbn.block _ (heap_lt n2)).trans n2
      clear hbn hpr3 hS n1 n2 y0 y1
      go_wp2_with fail
      refine (hul3 v1 (HKT.out _ hc1)).mono ?_
      rintro e v2 ⟨⟨ya, yn, rfl⟩, hbn⟩
      have hc2 := hc1.trans (hbn.mono hc1.size)
      have hA2 := (hbn.block _ (heap_lt hA1)).trans hA1
      have hO2 := (hbn.block _ (heap_lt hO1)).trans hO1
      have k1 := (hbn.block _ (heap_lt m1)).trans m1
      have k2 := (hbn.block _ (heap_lt m2)).trans m2
      clear hbn hul3 hc1 hA1 hO1 m1 m2
      have a0 : v2.cell? ⟨w4.heap.size, 0, none⟩ = some (.string yi) := (cell_of_heap hA2).trans rfl
      have a1 : v2.cell? ⟨O, 0, none⟩ = some (.string y2) := (cell_of_heap hO2).trans rfl
      have a2 : v2.cell? ⟨h2, 1, none⟩ = some (.slice (some ⟨h1, 0, none⟩) 1 1) := (cell_of_heap k2).trans rfl
      have a3 : v2.cell? ⟨h1, 1, none⟩ = some (.int .i64 (rr : Int)) := (cell_of_heap k1).trans rfl
      clear hA2 hO2 k1 k2
      obtain ⟨hEJ1, hEJ2⟩ := HEJ.out
      obtain ⟨hEY1, hEY2⟩ := HEY.out
      by_cases hi9 : y2 = yi
      · have hj0 := hEJ2 hi9
        subst hi9
        subst hj0
        by_cases hr9 : rr = 2
        · have hy0 := hEY2 hr9
          subst hr9
          subst hy0
          clear HF HEJ HEY HG HY HKT HXA hEJ2 hEY2
          go_wp2_with (go_at_call 10; refine (knum_any _ _).mono ?_; rintro e wn ⟨rfl, rfl⟩)
          go_ret
          exact ⟨rfl, hc2⟩
        · have hrI : ¬ (rr : Int) = 2 := by omega
          have hrB : ((rr : Int) == 2) = false := by simpa using hrI
          rcases hEY1 with rfl | rfl
          · clear HF HEJ HEY HG HY HKT HXA hEJ2 hEY2
            go_wp2_with (go_at_call 10; refine (knum_any _ _).mono ?_; rintro e wn ⟨rfl, rfl⟩)
            go_ret
            exact ⟨rfl, hc2⟩
          · clear HF HEJ HEY HG HY HKT HXA hEJ2 hEY2
            go_wp2_with (go_at_call 10; refine (knum_any _ _).mono ?_; rintro e wn ⟨rfl, rfl⟩)
            go_ret
            exact ⟨rfl, hc2⟩
      · have hib : (y2.toList == yi.toList) = false := ba_ne hi9
        have hib2 : ¬ y2.toList = yi.toList := ba_ne2 hi9
        by_cases hr9 : rr = 2
        · have hy0 := hEY2 hr9
          subst hr9
          subst hy0
          rcases hEJ1 with rfl | rfl
          · clear HF HEJ HEY HG HY HKT HXA hEJ2 hEY2
            go_wp2_with (go_at_call 10; refine (knum_any _ _).mono ?_; rintro e wn ⟨rfl, rfl⟩)
            go_ret
            exact ⟨rfl, hc2⟩
          · clear HF HEJ HEY HG HY HKT HXA hEJ2 hEY2
            go_wp2_with (go_at_call 10; refine (knum_any _ _).mono ?_; rintro e wn ⟨rfl, rfl⟩)
            go_ret
            exact ⟨rfl, hc2⟩
        · have hrI : ¬ (rr : Int) = 2 := by omega
          have hrB : ((rr : Int) == 2) = false := by simpa using hrI
          rcases hEY1 with rfl | rfl
          · rcases hEJ1 with rfl | rfl
            · clear HF HEJ HEY HG HY HKT HXA hEJ2 hEY2
              go_wp2_with (go_at_call 10; refine (knum_any _ _).mono ?_; rintro e wn ⟨rfl, rfl⟩)
              go_ret
              exact ⟨rfl, hc2⟩
            · clear HF HEJ HEY HG HY HKT HXA hEJ2 hEY2
              go_wp2_with (go_at_call 10; refine (knum_any _ _).mono ?_; rintro e wn ⟨rfl, rfl⟩)
              go_ret
              exact ⟨rfl, hc2⟩
          · rcases hEJ1 with rfl | rfl
            · clear HF HEJ HEY HG HY HKT HXA hEJ2 hEY2
              go_wp2_with (go_at_call 10; refine (knum_any _ _).mono ?_; rintro e wn ⟨rfl, rfl⟩)
              go_ret
              exact ⟨rfl, hc2⟩
            · clear HF HEJ HEY HG HY HKT HXA hEJ2 hEY2
              go_wp2_with (go_at_call 10; refine (knum_any _ _).mono ?_; rintro e wn ⟨rfl, rfl⟩)
              go_ret
              exact ⟨rfl, hc2⟩
  · go_simp
    have m2 : (V.alloc (.cells #[.string { data := #[] }, .slice none 0 0] 32)).heap[V.heap.size]? = some (.cells #[.string { data := #[] }, .slice none 0 0] 32) := heap_new _ _
    have hb9 : Below V.heap.size V (V.alloc (.cells #[.string { data := #[] }, .slice none 0 0] 32)) := (Below.refl _ _).alloc (Nat.le_refl _) _
    have hS2 := HK2.out V _ hS hb9
    have hl2 : w4.heap.size < V.heap.size ∧ O < V.heap.size := ⟨heap_lt hS.2.2.1, heap_lt hS.2.2.2⟩
    refine hK.out _ _ hS2 (fun _ => ?_)
    clear hK K
    (try simp only [Act.put, List.setIfInBounds_toArray, List.set_cons_zero, List.set_cons_succ])
    revert m2 hS2 hl2
    clear hS hb9
    generalize V.alloc (.cells #[.string { data := #[] }, .slice none 0 0] 32) = V2
    generalize V.heap.size = h2
    intro n2 hS hl2
    revert n2 hS
    generalize V2 = V
    intro n2 hS
    refine wpAnyH_ready (rs := [8]) (by kernel_rfl) (by simp) ?_
    refine AllReadyH.cons (o := { dst := some 133, op := .call { callee := .value (.func 11), args := #[.tmp 132, .const (.int .i64 1), .const (.int .i64 4)], argTypes := #[3, 3, 3] }, type := _, pos := _, after := _, guard := none }) rfl (fun K hK => ?_) AllReadyH.nil
    go_simp
    refine (hcl V).mono ?_
    rintro e W2 ⟨rfl, rfl⟩
    refine hK.out _ _ hS (fun _ => ?_)
    clear hK K
    (try simp only [Act.put, List.setIfInBounds_toArray, List.set_cons_zero, List.set_cons_succ])
    refine wpAnyH_take (i := 14) (oi := { dst := some 139, op := .build 38 #[(0, .tmp 131), (1, .tmp 133), (2, .tmp 138)], type := _, pos := _, after := _, guard := none }) (v := .agg #[.string xa, .int .i64 (rr : Int), .string xc]) rfl (by kernel_rfl) (by kernel_rfl) (by kernel_rfl) (fun _ _ _ h => h) (Or.inl ⟨by rfl, by intro x _; go_simp⟩) hS ?_
    (try simp only [Act.put, List.setIfInBounds_toArray, List.set_cons_zero, List.set_cons_succ])
    refine wpAnyH_ready (rs := [15]) (by kernel_rfl) (by simp) ?_
    refine AllReadyH.cons (o := { dst := some 140, op := .buildSlice 30 1 #[(0, .tmp 139)], type := _, pos := _, after := _, guard := none }) rfl (fun K hK => ?_) AllReadyH.nil
    go_simp
    have m1 : (V.alloc (.cells #[.string xa, .int .i64 (rr : Int), .string xc] 38)).heap[V.heap.size]? = some (.cells #[.string xa, .int .i64 (rr : Int), .string xc] 38) := heap_new _ _
    have hb9 : Below V.heap.size V (V.alloc (.cells #[.string xa, .int .i64 (rr : Int), .string xc] 38)) := (Below.refl _ _).alloc (Nat.le_refl _) _
    have m2 := (hb9.block _ (heap_lt n2)).trans n2
    have hne : h2 ≠ V.heap.size := by have := heap_lt n2; omega
    have hS2 := HK2.out V _ hS hb9
    have hl1 : w4.heap.size < V.heap.size ∧ O < V.heap.size := ⟨heap_lt hS.2.2.1, heap_lt hS.2.2.2⟩
    refine hK.out _ _ hS2 (fun _ => ?_)
    clear hK K
    (try simp only [Act.put, List.setIfInBounds_toArray, List.set_cons_zero, List.set_cons_succ])
    revert m1 m2 hne hS2 hl1
    clear hS hb9 n2
    generalize V.alloc (.cells #[.string xa, .int .i64 (rr : Int), .string xc] 38) = V2
    generalize V.heap.size = h1
    intro n1 n2 hne hS hl1
    revert n1 n2 hne hS
    generalize V2 = V
    intro n1 n2 hne hS
    refine wpAnyH_take (i := 16) (oi := { dst := some 141, op := .build 32 #[(0, .tmp 126), (1, .tmp 140)], type := _, pos := _, after := _, guard := none }) (v := .agg #[.string yi, .slice (some ⟨h1, 0, none⟩) 1 1]) rfl (by kernel_rfl) (by kernel_rfl) (by kernel_rfl) (fun _ _ _ h => h) (Or.inl ⟨by rfl, by intro x _; go_simp⟩) hS ?_
    (try simp only [Act.put, List.setIfInBounds_toArray, List.set_cons_zero, List.set_cons_succ])
    refine wpAnyH_ready (rs := [18]) (by kernel_rfl) (by simp) ?_
    refine AllReadyH.cons (o := { dst := none, op := .store 32 (.tmp 28) (.tmp 141), type := _, pos := _, after := _, guard := none }) rfl (fun K hK => ?_) AllReadyH.nil
    have hne2 : h1 ≠ h2 := by omega
    have z0 : V.cell? ⟨h2, 0, none⟩ = some (.string { data := #[] }) := (cell_of_heap n2).trans rfl
    have z1 : V.cell? ⟨h2, 1, none⟩ = some (.slice none 0 0) := (cell_of_heap n2).trans rfl
    have z2 : V.frozen? ⟨h2, 0, none⟩ = false := frozen_of_heap n2
    have z3 : V.frozen? ⟨h2, 1, none⟩ = false := frozen_of_heap n2
    go_simp
    have m2 : ((V.setCell ⟨h2, 0, none⟩ (.string yi)).setCell ⟨h2, 1, none⟩ (.slice (some ⟨h1, 0, none⟩) 1 1)).heap[h2]? = _ := put2 n2
    have m1 : ((V.setCell ⟨h2, 0, none⟩ (.string yi)).setCell ⟨h2, 1, none⟩ (.slice (some ⟨h1, 0, none⟩) 1 1)).heap[h1]? = _ := (heap_setCell_other _ ⟨h2, 1, none⟩ h1 _ hne2).trans ((heap_setCell_other _ ⟨h2, 0, none⟩ h1 _ hne2).trans n1)
    have hw4 := hb4.size
    have hS9 : Below w.heap.size w ((V.setCell ⟨h2, 0, none⟩ (.string yi)).setCell ⟨h2, 1, none⟩ (.slice (some ⟨h1, 0, none⟩) 1 1)) ∧ Below w4.heap.size w4 ((V.setCell ⟨h2, 0, none⟩ (.string yi)).setCell ⟨h2, 1, none⟩ (.slice (some ⟨h1, 0, none⟩) 1 1)) ∧ ((V.setCell ⟨h2, 0, none⟩ (.string yi)).setCell ⟨h2, 1, none⟩ (.slice (some ⟨h1, 0, none⟩) 1 1)).heap[w4.heap.size]? = some (.cells #[.string yi, .slice (some ⟨g, 0, none⟩) 1 cp] 32 (0, 0)) ∧ ((V.setCell ⟨h2, 0, none⟩ (.string yi)).setCell ⟨h2, 1, none⟩ (.slice (some ⟨h1, 0, none⟩) 1 1)).heap[O]? = some (.cells #[.string y2, .slice (some ⟨g, 0, none⟩) 1 cp] 32 (0, 0)) := ⟨(hS.1.setCell (by show w.heap.size ≤ h2; omega) _).setCell (by show w.heap.size ≤ h2; omega) _, (hS.2.1.setCell (by show w4.heap.size ≤ h2; omega) _).setCell (by show w4.heap.size ≤ h2; omega) _, (heap_setCell_other _ ⟨h2, 1, none⟩ w4.heap.size _ (by show w4.heap.size ≠ h2; omega)).trans ((heap_setCell_other _ ⟨h2, 0, none⟩ w4.heap.size _ (by show w4.heap.size ≠ h2; omega)).trans hS.2.2.1), (heap_setCell_other _ ⟨h2, 1, none⟩ O _ (by show O ≠ h2; omega)).trans ((heap_setCell_other _ ⟨h2, 0, none⟩ O _ (by show O ≠ h2; omega)).trans hS.2.2.2)⟩
    refine hK.out _ _ hS9 (fun _ => ?_)
    clear hK K
    (try simp only [Act.put])
    revert m1 m2 hS9
    clear hS n1 n2 z0 z1 z2 z3
    generalize ((V.setCell ⟨h2, 0, none⟩ (.string yi)).setCell ⟨h2, 1, none⟩ (.slice (some ⟨h1, 0, none⟩) 1 1)) = V3
    intro n2 n1 hS
    revert n2 n1 hS
    generalize V3 = V
    intro n2 n1 hS
    refine wpAnyH_done (by kernel_rfl) ?_ _
    obtain ⟨s2, hs2⟩ : ∃ s2 : Slot, s2 = ⟨s.salt, (rr : Int), s.wrapped⟩ := ⟨_, rfl⟩
    have hrg : ringCells [s2] = [.string xa, .int .i64 (rr : Int), .string xc] := by rw [hs2]; show [Value.string (str s.salt), .int .i64 (rr : Int), .string (str s.wrapped)] = _; rw [HXA.out.1, HXA.out.2]
    have hse : SeeS V (.slice (some ⟨h1, 0, none⟩) 1 1) [s2] := ⟨some ⟨h1, 0, none⟩, h1, 0, 1, rfl, fun _ => ⟨rfl, heap_lt n1⟩, fun j u hu => by rw [hrg] at hu; rw [Nat.zero_add, cell_of_heap n1]; simpa using hu⟩
    have hr3 : rightR id [s2] = true := by
      have h := right_sizes HF.out.1
      refine right_mk h.1 (by simp) (by simp) (fun x hx => ?_)
      obtain rfl : x = s2 := by simpa using hx
      obtain ⟨u1, u2, u3, u4⟩ := h.2.2.2 s (by simp)
      rw [hs2]
      exact decide_eq_true ⟨u1, by show (1 : Int) ≤ (rr : Int); omega, by show (rr : Int) ≤ 4096; omega, u4⟩
    have hpr3 := hR id _ [s2] V hse (by have := (right_sizes hr3).1; omega) (by simp) (HKT.out _ hS.1)
    rw [(printY_of hr3).1, (printY_of hr3).2, HY.out.2.2.2.1] at hpr3
    obtain ⟨EY, hEY⟩ : ∃ E, unlockE (printL id [s2]) p = E := ⟨_, rfl⟩
    have HEY : Hid ((EY = 0 ∨ EY = 73) ∧ (rr = 2 → EY = 0)) := by
      obtain ⟨v1, v2, v3, v4, v5, v6, v7, _⟩ := HF.out
      refine ⟨by rw [← hEY]; exact unlock_printed hr3 v4, fun e => ?_⟩
      have e2 : s2 = s := by
        rw [hs2, e]
        show (⟨s.salt, 2, s.wrapped⟩ : Slot) = s
        rw [← v3]
      obtain ⟨p1, p2, p3⟩ := parse_print v1
      rw [← hEY, e2]
      exact (unlock_yes (m := m) (n := 0) p1 v4 (by rw [p2, p3, ← v7, ← v6]; exact v5)).1
    have hul3 : ∀ W, KT W → Calls Tryz.prog 15 #[.string (str (printL id [s2])), .string yp] W fun e w' => (∃ a n, e = .returned (.tuple #[.string a, .int .i64 n, .int .i64 EY])) ∧ Below W.heap.size W w' := fun W k => by
      obtain ⟨_, _, _, v4, _⟩ := HF.out
      have h := hU (str (printL id [s2])) (str p) W (by rw [str_size]; have := printL_small hr3; omega) (by rw [str_size]; have := (of_decide_eq_true v4).2; omega) k
      simp only [str_data] at h
      rw [hEY, HY.out.2.1] at h
      exact h.mono (by rintro e w' ⟨h1, h2⟩; exact ⟨⟨_, _, h1⟩, h2⟩)
    clear hEY hr3 hse hrg hs2 hcl HK2
    generalize str (printL id [s2]) = yu at hpr3 hul3
    have y0 : V.cell? ⟨h2, 0, none⟩ = some (.string yi) := (cell_of_heap n2).trans rfl
    have y1 : V.cell? ⟨h2, 1, none⟩ = some (.slice (some ⟨h1, 0, none⟩) 1 1) := (cell_of_heap n2).trans rfl
    go_wp2_with fail
    refine hpr3.mono ?_
    rintro e v1 ⟨rfl, hbn⟩
    have hc1 := hS.1.trans (hbn.mono hS.1.size)
    have hA1 := (hbn.block _ (heap_lt hS.2.2.1)).trans hS.2.2.1
    have hO1 := (hbn.block _ (heap_lt hS.2.2.2)).trans hS.2.2.2
    have m1 := (hbn.block _ (heap_lt n1)).trans n1
    have m2 := (hbn.block _ (heap_lt n2)).trans n2
    clear hbn hpr3 hS n1 n2 y0 y1
    go_wp2_with fail
    refine (hul3 v1 (HKT.out _ hc1)).mono ?_
    rintro e v2 ⟨⟨ya, yn, rfl⟩, hbn⟩
    have hc2 := hc1.trans (hbn.mono hc1.size)
    have hA2 := (hbn.block _ (heap_lt hA1)).trans hA1
    have hO2 := (hbn.block _ (heap_lt hO1)).trans hO1
    have k1 := (hbn.block _ (heap_lt m1)).trans m1
    have k2 := (hbn.block _ (heap_lt m2)).trans m2
    clear hbn hul3 hc1 hA1 hO1 m1 m2
    have a0 : v2.cell? ⟨w4.heap.size, 0, none⟩ = some (.string yi) := (cell_of_heap hA2).trans rfl
    have a1 : v2.cell? ⟨O, 0, none⟩ = some (.string y2) := (cell_of_heap hO2).trans rfl
    have a2 : v2.cell? ⟨h2, 1, none⟩ = some (.slice (some ⟨h1, 0, none⟩) 1 1) := (cell_of_heap k2).trans rfl
    have a3 : v2.cell? ⟨h1, 1, none⟩ = some (.int .i64 (rr : Int)) := (cell_of_heap k1).trans rfl
    clear hA2 hO2 k1 k2
    obtain ⟨hEJ1, hEJ2⟩ := HEJ.out
    obtain ⟨hEY1, hEY2⟩ := HEY.out
    by_cases hi9 : y2 = yi
    · have hj0 := hEJ2 hi9
      subst hi9
      subst hj0
      by_cases hr9 : rr = 2
      · have hy0 := hEY2 hr9
        subst hr9
        subst hy0
        clear HF HEJ HEY HG HY HKT HXA hEJ2 hEY2
        go_wp2_with (go_at_call 10; refine (knum_any _ _).mono ?_; rintro e wn ⟨rfl, rfl⟩)
        go_ret
        exact ⟨rfl, hc2⟩
      · have hrI : ¬ (rr : Int) = 2 := by omega
        have hrB : ((rr : Int) == 2) = false := by simpa using hrI
        rcases hEY1 with rfl | rfl
        · clear HF HEJ HEY HG HY HKT HXA hEJ2 hEY2
          go_wp2_with (go_at_call 10; refine (knum_any _ _).mono ?_; rintro e wn ⟨rfl, rfl⟩)
          go_ret
          exact ⟨rfl, hc2⟩
        · clear HF HEJ HEY HG HY HKT HXA hEJ2 hEY2
          go_wp2_with (go_at_call 10; refine (knum_any _ _).mono ?_; rintro e wn ⟨rfl, rfl⟩)
          go_ret
          exact ⟨rfl, hc2⟩
    · have hib : (y2.toList == yi.toList) = false := ba_ne hi9
      have hib2 : ¬ y2.toList = yi.toList := ba_ne2 hi9
      by_cases hr9 : rr = 2
      · have hy0 := hEY2 hr9
        subst hr9
        subst hy0
        rcases hEJ1 with rfl | rfl
        · clear HF HEJ HEY HG HY HKT HXA hEJ2 hEY2
          go_wp2_with (go_at_call 10; refine (knum_any _ _).mono ?_; rintro e wn ⟨rfl, rfl⟩)
          go_ret
          exact ⟨rfl, hc2⟩
        · clear HF HEJ HEY HG HY HKT HXA hEJ2 hEY2
          go_wp2_with (go_at_call 10; refine (knum_any _ _).mono ?_; rintro e wn ⟨rfl, rfl⟩)
          go_ret
          exact ⟨rfl, hc2⟩
      · have hrI : ¬ (rr : Int) = 2 := by omega
        have hrB : ((rr : Int) == 2) = false := by simpa using hrI
        rcases hEY1 with rfl | rfl
        · rcases hEJ1 with rfl | rfl
          · clear HF HEJ HEY HG HY HKT HXA hEJ2 hEY2
            go_wp2_with (go_at_call 10; refine (knum_any _ _).mono ?_; rintro e wn ⟨rfl, rfl⟩)
            go_ret
            exact ⟨rfl, hc2⟩
          · clear HF HEJ HEY HG HY HKT HXA hEJ2 hEY2
            go_wp2_with (go_at_call 10; refine (knum_any _ _).mono ?_; rintro e wn ⟨rfl, rfl⟩)
            go_ret
            exact ⟨rfl, hc2⟩
        · rcases hEJ1 with rfl | rfl
          · clear HF HEJ HEY HG HY HKT HXA hEJ2 hEY2
            go_wp2_with (go_at_call 10; refine (knum_any _ _).mono ?_; rintro e wn ⟨rfl, rfl⟩)
            go_ret
            exact ⟨rfl, hc2⟩
          · clear HF HEJ HEY HG HY HKT HXA hEJ2 hEY2
            go_wp2_with (go_at_call 10; refine (knum_any _ _).mono ?_; rintro e wn ⟨rfl, rfl⟩)
            go_ret
            exact ⟨rfl, hc2⟩

end Go.Proofs.YtbjiamaaocjbfaaGreatDoor.Kr
