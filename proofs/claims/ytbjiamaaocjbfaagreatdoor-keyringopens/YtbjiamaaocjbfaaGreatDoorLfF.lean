import Derived.Test.YtbjiamaaocjbfaaGreatDoorLfC
import Derived.Deep.Slices
import Derived.Deep.Strs
import Derived.WalkKit
import Derived.ProofKit
import Derived.OpenShut
import Derived.SizedLaws
namespace Go.Proofs.YtbjiamaaocjbfaaGreatDoor.Kp
open Go.RowKit Go.Lib Go.Deep Kr

/-- what a step leaves, held against the world in which it begins -/
structure LP (wr : World) (G : Nat) (M : List UInt8) (t' : ByteArray) (a' : Option Addr) (n' : Nat) (cl : Bool) (w6 : World) : Prop where
  inv : cl = true → ∃ T ph, t' = str T ∧ Inv T M ph ∧ ph.length = n' ∧ Lst w6 a' n' (ph.map str)
  ne : ∀ b off, a' = some ⟨b, off, none⟩ → b ≠ G
  bel : Below wr.heap.size wr w6

theorem lst_put3 {W : World} {a : Option Addr} {n p : Nat} {ss : List ByteArray} (h : Lst W a n ss) (hne : ∀ b off, a = some ⟨b, off, none⟩ → b ≠ p) (v0 v1 v2 : Value) : Lst (((W.setCell ⟨p, 0, none⟩ v0).setCell ⟨p, 1, none⟩ v1).setCell ⟨p, 2, none⟩ v2) a n ss := by
  refine ⟨h.sz, h.top, fun i s hs => ?_⟩
  obtain ⟨b, off, rfl, hb, hc⟩ := h.cell i s hs
  have hn := hne b off rfl
  refine ⟨b, off, rfl, by simpa using hb, ?_⟩
  exact (World.cell?_of_block (w := W) ((Below.heap_setCell _ _ _ _ hn).trans ((Below.heap_setCell _ _ _ _ hn).trans (Below.heap_setCell _ _ _ _ hn)))).trans hc

/-- steps as they were handed in -/
def IsT (w : World) (a : Option Addr) (len : Nat) (K A N R : Nat → Int) (X C : Nat → ByteArray) : Prop :=
  ∀ i, i < len → ∃ b off, a = some ⟨b, off, none⟩ ∧ b < w.heap.size ∧ w.rangeAt b (off + i * 6) [.int .i64 (K i), .int .i64 (A i), .int .i64 (N i), .string (X i), .string (C i), .int .i64 (R i)]

set_option maxRecDepth 20000 in
set_option maxHeartbeats 4000000 in
theorem opens_walk (master first coins : ByteArray) (a : Option Addr) (len cap : Nat) (K A N R : Nat → Int) (X C : Nat → ByteArray) (w : World) (hm : master.size ≤ 140737488351232) (hf : first.size ≤ 140737488351232) (hc : coins.size ≤ 140737488351232) (hX : ∀ i, i < len → (X i).size ≤ 140737488355328) (hC : ∀ i, i < len → (C i).size ≤ 140737488355328) (hT : IsT w a len K A N R X C) (_hl : len ≤ 9223372036854775807) (hK : KT w) :
    Calls Tryz.prog 6 #[.string master, .string first, .string coins, .slice a len cap] w fun e w' => e = .returned (.bool true) ∧ Below w.heap.size w w' := by
  have cm := fun W => ksized_any master 32 (by omega) (by omega) (by omega) W
  rw [show ((32 : Nat) : Int) = 32 by rfl] at cm
  have cf := fun W => phrase_any first (by omega) W
  have cc := fun W => ksized_any coins 56 (by omega) (by omega) (by omega) W
  rw [show ((56 : Nat) : Int) = 56 by rfl] at cc
  have hpk : passK (phraseL first.data.toList) = true := phrase_ok _
  have hm32 : (sz5 master.data.toList 32).length = 32 := sz5_length _ _
  have hc56 : (sz5 coins.data.toList 56).length = 56 := sz5_length _ _
  generalize phraseL first.data.toList = P at cf hpk
  generalize sz5 master.data.toList 32 = M at cm hm32
  generalize sz5 coins.data.toList 56 = CN at cc hc56
  obtain ⟨me, hinv⟩ := inv_make hm32 hpk hc56
  go_enter Tryz.func6, Tryz.ntmps6
  go_wp2_with fail
  refine (cm _).mono ?_
  clear cm
  rintro e w1 ⟨rfl, hb1⟩
  go_wp2_with (first | (go_at_call 9; refine (cf _).mono ?_; rintro e wn ⟨rfl, rfl⟩) | fail)
  obtain ⟨W0, hW0⟩ : ∃ W, (w1.alloc (.cells #[.string (str P)] 9)).alloc (.cells #[.string { data := #[] }, .string (str M), .slice (some ⟨w1.heap.size, 0, none⟩) 1 1] 49) = W := ⟨_, rfl⟩
  have hb0 : Below w.heap.size w W0 := by rw [← hW0]; exact (hb1.alloc hb1.size _).alloc (by have := hb1.size; simp; omega) _
  have hs0 : W0.heap.size = w1.heap.size + 2 := by rw [← hW0]; simp
  have e1 : W0.heap[w1.heap.size + 1]? = some (.cells #[.string { data := #[] }, .string (str M), .slice (some ⟨w1.heap.size, 0, none⟩) 1 1] 49 (0, 0)) := by
    rw [← hW0]
    have := heap_new (w1.alloc (.cells #[.string (str P)] 9)) (.cells #[.string { data := #[] }, .string (str M), .slice (some ⟨w1.heap.size, 0, none⟩) 1 1] 49)
    rw [show (w1.alloc (.cells #[.string (str P)] 9)).heap.size = w1.heap.size + 1 by simp] at this
    exact this
  have hL0 : Lst W0 (some ⟨w1.heap.size, 0, none⟩) 1 [str P] := by rw [← hW0]; exact (lst_one (str P) w1).below ((Below.refl _ _).alloc (Nat.le_refl _) _)
  have hG : ∀ W, Below W0.heap.size W0 W → W.heap[w1.heap.size + 1]? = some (.cells #[.string { data := #[] }, .string (str M), .slice (some ⟨w1.heap.size, 0, none⟩) 1 1] 49 (0, 0)) ∧ Lst W (some ⟨w1.heap.size, 0, none⟩) 1 [str P] ∧ Below w.heap.size w W := fun W hb => ⟨(hb.block _ (by omega)).trans e1, hL0.below hb, hb0.trans (hb.mono (by have := hb1.size; omega))⟩
  have HF : Hid (∀ W, Below W0.heap.size W0 W → W.cell? ⟨w1.heap.size + 1, 1, none⟩ = some (.string (str M)) ∧ W.cell? ⟨w1.heap.size + 1, 2, none⟩ = some (.slice (some ⟨w1.heap.size, 0, none⟩) 1 1) ∧ W.cell? ⟨w1.heap.size, 0, none⟩ = some (.string (str P))) := fun W hb => by
    obtain ⟨q0, q1, _⟩ := hG W hb
    obtain ⟨b, off, e, _, hc⟩ := q1.cell 0 (str P) rfl
    injection e with e
    injection e with e1 e2 _
    subst e1 e2
    exact ⟨(cell_of_heap q0).trans rfl, (cell_of_heap q0).trans rfl, hc⟩
  have K0 : Hid (∀ W, Below W0.heap.size W0 W → Calls Tryz.prog 8 #[.string coins, .int .i64 56] W fun e w2 => e = .returned (.string (str CN)) ∧ Below W0.heap.size W0 w2) := fun W hb => (cc W).mono (fun e w2 ⟨h1, h2⟩ => ⟨h1, hb.trans (h2.mono hb.size)⟩)
  have K1 : Hid (∀ W, Below W0.heap.size W0 W → Calls Tryz.prog 7 #[.string (str M), .string (str P), .int .i64 1, .string (str CN)] W fun e w2 => e = .returned (.tuple #[.string (str (makeY M P 1 CN)), .int .i64 0]) ∧ Below W0.heap.size W0 w2) := fun W hb => by
    have h := makeC (str M) (str P) (str CN) 1 W (by rw [str_size]; omega) (by rw [str_size]; have := of_decide_eq_true hpk; omega) (by rw [str_size]; omega) (hK.below (hG W hb).2.2)
    rw [str_data, str_data, str_data, me] at h
    exact h.mono (fun e w2 ⟨h1, h2⟩ => ⟨h1, hb.trans (h2.mono hb.size)⟩)
  have HGG : Hid _ := hG
  have HI : Hid (Inv (makeY M P 1 CN) M [P]) := hinv
  generalize makeY M P 1 CN = T at K1 HI
  clear hb0 e1 hL0 hG hinv me cc cf hs0
  have hb1' := hb1.size
  clear hb1
  rw [hW0]
  clear hW0
  go_region_held_law (fun W => W.cell? ⟨w1.heap.size + 1, 1, none⟩ = some (.string (str M)) ∧ W.cell? ⟨w1.heap.size + 1, 2, none⟩ = some (.slice (some ⟨w1.heap.size, 0, none⟩) 1 1) ∧ W.cell? ⟨w1.heap.size, 0, none⟩ = some (.string (str P))) (first | exact HF.out _ (bdN _ _) | exact HF.out _ hb5 | exact HF.out _ hb6 | go_keep) (first | (go_at_call 8; refine (K0.out _ (bdN _ _)).mono ?_; rintro e w5 ⟨rfl, hb5⟩) | (go_at_call 7; refine (K1.out _ hb5).mono ?_; rintro e w6 ⟨rfl, hb6⟩))
  obtain ⟨hg6, hL6, hbw6⟩ := HGG.out _ hb6
  clear HF K0 K1 HGG hb5 hb6
  have x0 : w6.cell? ⟨w1.heap.size + 1, 0, none⟩ = some (.string { data := #[] }) := (cell_of_heap hg6).trans rfl
  have f0 : w6.frozen? ⟨w1.heap.size + 1, 0, none⟩ = false := frozen_of_heap hg6
  have hg7 := heap_setCell_same w6 (w1.heap.size + 1) 0 _ _ (.string (str T)) hg6
  obtain ⟨W7, hW7⟩ : ∃ W, w6.setCell ⟨w1.heap.size + 1, 0, none⟩ (.string (str T)) = W := ⟨_, rfl⟩
  rw [hW7] at hg7
  have hg7' : W7.heap[w1.heap.size + 1]? = some (.cells #[.string (str T), .string (str M), .slice (some ⟨w1.heap.size, 0, none⟩) 1 1] 49 (0, 0)) := hg7
  have hbw7 : Below w.heap.size w W7 := by rw [← hW7]; exact hbw6.setCell (by show w.heap.size ≤ w1.heap.size + 1; omega) _
  have hL7 : Lst W7 (some ⟨w1.heap.size, 0, none⟩) 1 ([P].map str) := ⟨rfl, by omega, fun i s hs => by
    obtain ⟨b, off, e, hbl, hc⟩ := hL6.cell i s hs
    injection e with e
    injection e with e1 e2 _
    subst e1 e2
    refine ⟨w1.heap.size, 0, rfl, by rw [← hW7, World.size_setCell]; exact hbl, ?_⟩
    rw [← hW7]
    exact (World.cell?_of_block (w := w6) (Below.heap_setCell _ _ _ _ (by show w1.heap.size ≠ w1.heap.size + 1; omega))).trans hc⟩
  clear hg7 hg6 hL6 hbw6
  have y0 : W7.cell? ⟨w1.heap.size + 1, 0, none⟩ = some (.string (str T)) := (cell_of_heap hg7').trans rfl
  have y1 : W7.cell? ⟨w1.heap.size + 1, 1, none⟩ = some (.string (str M)) := (cell_of_heap hg7').trans rfl
  have y2 : W7.cell? ⟨w1.heap.size + 1, 2, none⟩ = some (.slice (some ⟨w1.heap.size, 0, none⟩) 1 1) := (cell_of_heap hg7').trans rfl
  obtain ⟨m0, n0, ho0, hn0, _, hm0⟩ := HI.out.opens (i := 0) (q := P) rfl
  obtain rfl : n0 = 0 := by omega
  have cu := unlocked_any T M [P] HI.out 0 P m0 0 rfl ho0 (by omega) P rfl (fun _ => hm0 rfl) (some ⟨w1.heap.size, 0, none⟩) 1 1 rfl W7 hL7 (hK.below hbw7)
  rw [if_pos rfl, show ((0 : Nat) : Int) = 0 by rfl] at cu
  have HG7 : Hid _ := hg7'
  have HL7 : Hid _ := hL7
  have HB7 : Hid _ := hbw7
  clear hg7' hL7 hbw7
  go_wp2_with (first | (go_at_call 10; refine (knum_any _ _).mono ?_; rintro e wn ⟨rfl, rfl⟩) | (go_at_call 19; refine cu.mono ?_; rintro e w8 ⟨rfl, hb8⟩) | fail)
  have HB8 : Hid (Below w.heap.size w w8) := HB7.out.trans (hb8.mono HB7.out.size)
  have HG8 : Hid (w8.heap[w1.heap.size + 1]? = some (.cells #[.string (str T), .string (str M), .slice (some ⟨w1.heap.size, 0, none⟩) 1 1] 49 (0, 0))) := (hb8.block _ (heap_lt HG7.out)).trans HG7.out
  have HL8 : Hid (Lst w8 (some ⟨w1.heap.size, 0, none⟩) 1 ([P].map str)) := HL7.out.below hb8
  obtain ⟨G, hGe⟩ : ∃ G, w1.heap.size + 1 = G := ⟨_, rfl⟩
  have hGw : w.heap.size ≤ G := by omega
  have hne : w1.heap.size ≠ G := by omega
  rw [hGe] at HG8
  have HT : Hid _ := hT
  have HX : Hid (∀ i, i < len → (X i).size ≤ 9223372036854775807 ∧ (C i).size ≤ 9223372036854775807) := fun i hi => ⟨by have := hX i hi; omega, by have := hC i hi; omega⟩
  clear hb8 cu hm0 ho0 y0 y1 y2 x0 f0 hW7 HG7 HL7 HB7 hT hX hC
  rw [hGe]
  go_loopg [12] len (fun gk iv wr => ∃ (i : Nat) (T : List UInt8) (ph : List (List UInt8)) (b2 : Option Addr) (n2 c2 : Nat), i + gk = len ∧ iv = .int .i64 (i : Int) ∧ Hid (Inv T M ph ∧ ph.length = n2) ∧ Hid (wr.heap[G]? = some (.cells #[.string (str T), .string (str M), .slice b2 n2 c2] 49 (0, 0))) ∧ Hid (Lst wr b2 n2 (ph.map str)) ∧ Hid (∀ b off, b2 = some ⟨b, off, none⟩ → b ≠ G) ∧ Hid (Below w.heap.size w wr))
  case atStart => exact ⟨0, T, [P], some ⟨w1.heap.size, 0, none⟩, 1, 1, by omega, rfl, ⟨HI.out, rfl⟩, HG8, HL8, (fun b off e => by injection e with e; injection e with e1 _ _; rw [← e1]; exact hne), HB8⟩
  case round =>
    clear HG8 HL8 HB8 HI hGe hne hb1'
    obtain ⟨i, T2, ph, b2, n2, c2, hi, rfl, HI2, HG2, HL2, HN2, HB2⟩ := hrel
    have HK : Hid (i + gk = len) := hi
    have hi' : i ≤ len := by omega
    clear hi
    by_cases hlt : i < len ∧ i < 40
    · obtain ⟨hlt1, hlt2⟩ := hlt
      have h1I : (i : Int) < (len : Int) := by omega
      have h2I : (i : Int) < 40 := by omega
      obtain ⟨b, off, rfl, hbl, hrg⟩ := HT.out i hlt1
      have t0 := (HB2.out.cell (p := ⟨b, off + i * 6, none⟩) hbl).trans (hrg 0 _ rfl)
      have t1 := (HB2.out.cell (p := ⟨b, off + i * 6 + 1, none⟩) hbl).trans (hrg 1 _ rfl)
      have t2 := (HB2.out.cell (p := ⟨b, off + i * 6 + 2, none⟩) hbl).trans (hrg 2 _ rfl)
      have t3 := (HB2.out.cell (p := ⟨b, off + i * 6 + 3, none⟩) hbl).trans (hrg 3 _ rfl)
      have t4 := (HB2.out.cell (p := ⟨b, off + i * 6 + 4, none⟩) hbl).trans (hrg 4 _ rfl)
      have t5 := (HB2.out.cell (p := ⟨b, off + i * 6 + 5, none⟩) hbl).trans (hrg 5 _ rfl)
      obtain ⟨hx3, hx4⟩ := HX.out i hlt1
      have g0 : wr.cell? ⟨G, 0, none⟩ = some (.string (str T2)) := (cell_of_heap HG2.out).trans rfl
      have g1 : wr.cell? ⟨G, 1, none⟩ = some (.string (str M)) := (cell_of_heap HG2.out).trans rfl
      have g2 : wr.cell? ⟨G, 2, none⟩ = some (.slice b2 n2 c2) := (cell_of_heap HG2.out).trans rfl
      have hGl : G < wr.heap.size := heap_lt HG2.out
      have KL : ∀ W, Below wr.heap.size wr W → Calls Tryz.prog 20 #[.agg #[.string (str T2), .string (str M), .slice b2 n2 c2], .agg #[.int .i64 (K i), .int .i64 (A i), .int .i64 (N i), .string (X i), .string (C i), .int .i64 (R i)]] W fun e w6 => ∃ t' a' n' c' cl, e = .returned (.tuple #[.agg #[.string t', .string (str M), .slice a' n' c'], .bool true, .bool cl]) ∧ LP wr G M t' a' n' cl w6 ∧ Below W.heap.size W w6 ∧ (a' = b2 ∨ ∀ b off, a' = some ⟨b, off, none⟩ → W.heap.size ≤ b) := fun W hb => by
        refine (lives_any T2 M ph HI2.out.1 b2 n2 c2 HI2.out.2 (K i) (A i) (N i) (R i) (X i) (C i) hx3 hx4 W (HL2.out.below hb) (hK.below (HB2.out.trans (hb.mono HB2.out.size)))).mono ?_
        rintro e w6 ⟨⟨t', a', n', c', cl, rfl, hcl, hax⟩, hb6⟩
        refine ⟨t', a', n', c', cl, rfl, ⟨hcl, fun b off e => ?_, hb.trans (hb6.mono hb.size)⟩, hb6, hax⟩
        rcases hax with rfl | h
        · exact HN2.out b off e
        · have := h b off e
          have := hb.size
          omega
      obtain ⟨Z, hZ⟩ : ∃ Z : Obj, Obj.cells #[.string { data := #[] }, .string { data := #[] }, .slice none 0 0] 49 = Z := ⟨_, rfl⟩
      have KA : Hid (∀ k, Calls Tryz.prog 20 #[.agg #[.string (str T2), .string (str M), .slice b2 n2 c2], .agg #[.int .i64 (K i), .int .i64 (A i), .int .i64 (N i), .string (X i), .string (C i), .int .i64 (R i)]] ((wr.drewN k).alloc (.cells #[.string { data := #[] }, .string { data := #[] }, .slice none 0 0] 49)) fun e w6 => ∃ t' a' n' c' cl, e = .returned (.tuple #[.agg #[.string t', .string (str M), .slice a' n' c'], .bool true, .bool cl]) ∧ LP wr G M t' a' n' cl w6 ∧ Hid (w6.heap[wr.heap.size]? = some (.cells #[.string { data := #[] }, .string { data := #[] }, .slice none 0 0] 49 (0, 0))) ∧ Hid (∀ b off, a' = some ⟨b, off, none⟩ → b ≠ wr.heap.size)) := fun k => by
        refine (KL _ ((bdN _ _).alloc (Nat.le_refl _) _)).mono ?_
        rintro e w6 ⟨t', a', n', c', cl, rfl, hlp, hb6, hax⟩
        refine ⟨t', a', n', c', cl, rfl, hlp, (hb6.block _ (by simp)).trans (heap_new _ _), fun b off e => ?_⟩
        rcases hax with rfl | h
        · obtain ⟨q, hq⟩ : ∃ q, ph[0]? = some q := ⟨_, List.getElem?_eq_getElem (by have := inv_ph HI2.out.1; omega)⟩
          obtain ⟨b', off', e', hb', _⟩ := HL2.out.cell 0 (str q) (by simp [hq])
          rw [e] at e'
          injection e' with e'
          injection e' with e1 _ _
          omega
        · have := h b off e
          simp at this
          omega
      have KB : Hid (∀ k, Calls Tryz.prog 20 #[.agg #[.string (str T2), .string (str M), .slice b2 n2 c2], .agg #[.int .i64 (K i), .int .i64 (A i), .int .i64 (N i), .string (X i), .string (C i), .int .i64 (R i)]] (wr.drewN k) fun e w6 => ∃ t' a' n' c' cl, e = .returned (.tuple #[.agg #[.string t', .string (str M), .slice a' n' c'], .bool true, .bool cl]) ∧ LP wr G M t' a' n' cl w6) := fun k => by
        refine (KL _ (bdN _ _)).mono ?_
        rintro e w6 ⟨t', a', n', c', cl, rfl, hlp, _, _⟩
        exact ⟨t', a', n', c', cl, rfl, hlp⟩
      have HGW : Hid (∀ W, Below wr.heap.size wr W → W.heap[G]? = some (.cells #[.string (str T2), .string (str M), .slice b2 n2 c2] 49 (0, 0))) := fun W hb => (hb.block _ hGl).trans HG2.out
      have HF : Hid (∀ W, Below wr.heap.size wr W → W.cell? ⟨G, 0, none⟩ = some (.string (str T2)) ∧ W.cell? ⟨G, 1, none⟩ = some (.string (str M)) ∧ W.cell? ⟨G, 2, none⟩ = some (.slice b2 n2 c2) ∧ W.cell? ⟨b, off + i * 6, none⟩ = some (.int .i64 (K i)) ∧ W.cell? ⟨b, off + i * 6 + 1, none⟩ = some (.int .i64 (A i)) ∧ W.cell? ⟨b, off + i * 6 + 2, none⟩ = some (.int .i64 (N i)) ∧ W.cell? ⟨b, off + i * 6 + 3, none⟩ = some (.string (X i)) ∧ W.cell? ⟨b, off + i * 6 + 4, none⟩ = some (.string (C i)) ∧ W.cell? ⟨b, off + i * 6 + 5, none⟩ = some (.int .i64 (R i))) := fun W hb => by
        have hbb : b < wr.heap.size := Nat.lt_of_lt_of_le hbl HB2.out.size
        exact ⟨(hb.cell (p := ⟨G, 0, none⟩) hGl).trans g0, (hb.cell (p := ⟨G, 1, none⟩) hGl).trans g1, (hb.cell (p := ⟨G, 2, none⟩) hGl).trans g2, (hb.cell (p := ⟨b, off + i * 6, none⟩) hbb).trans t0, (hb.cell (p := ⟨b, off + i * 6 + 1, none⟩) hbb).trans t1, (hb.cell (p := ⟨b, off + i * 6 + 2, none⟩) hbb).trans t2, (hb.cell (p := ⟨b, off + i * 6 + 3, none⟩) hbb).trans t3, (hb.cell (p := ⟨b, off + i * 6 + 4, none⟩) hbb).trans t4, (hb.cell (p := ⟨b, off + i * 6 + 5, none⟩) hbb).trans t5⟩
      have HP3 : Hid (∀ (W : World) (p : Nat) v0 v1 v2, Below wr.heap.size wr W → wr.heap.size ≤ p → Below wr.heap.size wr (((W.setCell ⟨p, 0, none⟩ v0).setCell ⟨p, 1, none⟩ v1).setCell ⟨p, 2, none⟩ v2)) := fun W p v0 v1 v2 hb hp => ((hb.setCell hp _).setCell hp _).setCell hp _
      clear hrg hx3 hx4 KL hZ hbl t0 t1 t2 t3 t4 t5
      go_wp2_with fail
      go_region_held_law (fun W => W.cell? ⟨G, 0, none⟩ = some (.string (str T2)) ∧ W.cell? ⟨G, 1, none⟩ = some (.string (str M)) ∧ W.cell? ⟨G, 2, none⟩ = some (.slice b2 n2 c2) ∧ W.cell? ⟨b, off + i * 6, none⟩ = some (.int .i64 (K i)) ∧ W.cell? ⟨b, off + i * 6 + 1, none⟩ = some (.int .i64 (A i)) ∧ W.cell? ⟨b, off + i * 6 + 2, none⟩ = some (.int .i64 (N i)) ∧ W.cell? ⟨b, off + i * 6 + 3, none⟩ = some (.string (X i)) ∧ W.cell? ⟨b, off + i * 6 + 4, none⟩ = some (.string (C i)) ∧ W.cell? ⟨b, off + i * 6 + 5, none⟩ = some (.int .i64 (R i)))
        (first | exact HF.out _ (bdN _ _) | exact HF.out _ ((bdN _ _).alloc (Nat.le_refl _) _) | exact HF.out _ hlp.bel | exact HF.out _ (hlp.bel.alloc hlp.bel.size _) | exact HF.out _ (HP3.out _ _ _ _ _ hlp.bel (Nat.le_refl _)) | exact HF.out _ (HP3.out _ _ _ _ _ (hlp.bel.alloc hlp.bel.size _) hlp.bel.size) | go_keep)
        (first | (go_at_call 20; refine (KA.out _).mono ?_; rintro e w6 ⟨t', a', n', c', cl, rfl, hlp, hz, hzn⟩; have y0 : w6.cell? ⟨wr.heap.size, 0, none⟩ = some (.string { data := #[] }) := (cell_of_heap hz.out).trans rfl; have y1 : w6.cell? ⟨wr.heap.size, 1, none⟩ = some (.string { data := #[] }) := (cell_of_heap hz.out).trans rfl; have y2 : w6.cell? ⟨wr.heap.size, 2, none⟩ = some (.slice none 0 0) := (cell_of_heap hz.out).trans rfl; have f0 : w6.frozen? ⟨wr.heap.size, 0, none⟩ = false := frozen_of_heap hz.out; have f1 : w6.frozen? ⟨wr.heap.size, 1, none⟩ = false := frozen_of_heap hz.out; have f2 : w6.frozen? ⟨wr.heap.size, 2, none⟩ = false := frozen_of_heap hz.out) | (go_at_call 20; refine (KB.out _).mono ?_; rintro e w6 ⟨t', a', n', c', cl, rfl, hlp⟩))
      · clear HF KA KB HP3 HGW g0 g1 g2 
        have HV : Hid ((w6.alloc (.cells #[.string t', .string (str M), .slice a' n' c'] 49)).heap[w6.heap.size]? = some (.cells #[.string t', .string (str M), .slice a' n' c'] 49 (0, 0))) := heap_new _ _
        have HBV : Hid (Below wr.heap.size wr (w6.alloc (.cells #[.string t', .string (str M), .slice a' n' c'] 49))) := hlp.bel.alloc hlp.bel.size _
        have HGV : Hid ((w6.alloc (.cells #[.string t', .string (str M), .slice a' n' c'] 49)).heap[G]? = some (.cells #[.string (str T2), .string (str M), .slice b2 n2 c2] 49 (0, 0))) := (HBV.out.block _ hGl).trans HG2.out
        have HIV : Hid (cl = true → ∃ T ph, t' = str T ∧ Inv T M ph ∧ ph.length = n' ∧ Lst (w6.alloc (.cells #[.string t', .string (str M), .slice a' n' c'] 49)) a' n' (ph.map str)) := fun h => by
          obtain ⟨T3, ph3, q1, q2, q3, q4⟩ := hlp.inv h
          exact ⟨T3, ph3, q1, q2, q3, q4.below ((Below.refl _ _).alloc (Nat.le_refl _) _)⟩
        have HNV : Hid (∀ b off, a' = some ⟨b, off, none⟩ → b ≠ G) := hlp.ne
        have HBW : Hid (Below w.heap.size w (w6.alloc (.cells #[.string t', .string (str M), .slice a' n' c'] 49))) := HB2.out.trans (HBV.out.mono HB2.out.size)
        obtain ⟨V, hV⟩ : ∃ V, (w6.alloc (.cells #[.string t', .string (str M), .slice a' n' c'] 49)) = V := ⟨_, rfl⟩
        rw [hV] at HV HBV HGV HIV HBW
        obtain ⟨nb, hnb⟩ : ∃ nb, w6.heap.size = nb := ⟨_, rfl⟩
        rw [hnb] at HV
        rw [hV, hnb]
        clear hlp hV hnb 
        cases cl with
        | false =>
          go_wp2
          go_ret
          exact ⟨rfl, HBW.out⟩
        | true =>
          obtain ⟨T3, ph3, rfl, hI3, hn3, hL3⟩ := HIV.out rfl
          have v0 : V.cell? ⟨nb, 0, none⟩ = some (.string (str T3)) := (cell_of_heap HV.out).trans rfl
          have v1 : V.cell? ⟨nb, 1, none⟩ = some (.string (str M)) := (cell_of_heap HV.out).trans rfl
          have v2 : V.cell? ⟨nb, 2, none⟩ = some (.slice a' n' c') := (cell_of_heap HV.out).trans rfl
          have g0 : V.cell? ⟨G, 0, none⟩ = some (.string (str T2)) := (cell_of_heap HGV.out).trans rfl
          have g1 : V.cell? ⟨G, 1, none⟩ = some (.string (str M)) := (cell_of_heap HGV.out).trans rfl
          have g2 : V.cell? ⟨G, 2, none⟩ = some (.slice b2 n2 c2) := (cell_of_heap HGV.out).trans rfl
          have k0 : V.frozen? ⟨G, 0, none⟩ = false := frozen_of_heap HGV.out
          have k1 : V.frozen? ⟨G, 1, none⟩ = false := frozen_of_heap HGV.out
          have k2 : V.frozen? ⟨G, 2, none⟩ = false := frozen_of_heap HGV.out
          obtain ⟨U, hU⟩ : ∃ U, ((V.setCell ⟨G, 0, none⟩ (.string (str T3))).setCell ⟨G, 1, none⟩ (.string (str M))).setCell ⟨G, 2, none⟩ (.slice a' n' c') = U := ⟨_, rfl⟩
          have HGU : Hid (U.heap[G]? = some (.cells #[.string (str T3), .string (str M), .slice a' n' c'] 49 (0, 0))) := by
            show _ = _
            rw [← hU]
            exact put3 HGV.out
          have HLU : Hid (Lst U a' n' (ph3.map str)) := by
            show Lst _ _ _ _
            rw [← hU]
            exact lst_put3 hL3 HNV.out _ _ _
          have HBU : Hid (Below w.heap.size w U) := by
            show Below _ _ _
            rw [← hU]
            exact ((HBW.out.setCell hGw _).setCell hGw _).setCell hGw _
          have HI3 : Hid (Inv T3 M ph3 ∧ ph3.length = n') := ⟨hI3, hn3⟩
          have hn8 := inv_ph hI3
          have u2 : U.cell? ⟨G, 2, none⟩ = some (.slice a' n' c') := (cell_of_heap HGU.out).trans rfl
          clear HIV hI3 hL3 HGV HV HBV
          go_wp2
          go_loopg [16] n' (fun gk kv wr => ∃ k : Nat, k + gk = n' ∧ kv = .int .i64 (k : Int) ∧ Hid (Below U.heap.size U wr))
          case atStart => exact ⟨0, by omega, rfl, Below.refl _ _⟩
          case round =>
            clear v0 v1 v2 g0 g1 g2 k0 k1 k2 u2 hU
            obtain ⟨k, hk, rfl, HBr⟩ := hrel
            have HKK : Hid (k + gk = n') := hk
            have hk' : k ≤ n' := by omega
            clear hk
            have hgr : wr.heap[G]? = _ := (HBr.out.block _ (heap_lt HGU.out)).trans HGU.out
            have r0 : wr.cell? ⟨G, 0, none⟩ = some (.string (str T3)) := (cell_of_heap hgr).trans rfl
            have r1 : wr.cell? ⟨G, 1, none⟩ = some (.string (str M)) := (cell_of_heap hgr).trans rfl
            have r2 : wr.cell? ⟨G, 2, none⟩ = some (.slice a' n' c') := (cell_of_heap hgr).trans rfl
            have HBw : Hid (Below w.heap.size w wr) := HBU.out.trans (HBr.out.mono HBU.out.size)
            by_cases hkn : k < n'
            · have hkI : (k : Int) < (n' : Int) := by omega
              obtain ⟨q, hq⟩ : ∃ q, ph3[k]? = some q := ⟨_, List.getElem?_eq_getElem (by omega)⟩
              obtain ⟨m3, u3, ho3, hu3, hul, hm3⟩ := HI3.out.1.opens hq
              obtain ⟨y, hy⟩ : ∃ y, ph3[u3]? = some y := ⟨_, List.getElem?_eq_getElem hul⟩
              have cu := unlocked_any T3 M ph3 HI3.out.1 k q m3 u3 hq ho3 hu3 y hy (fun e => hm3 (by rw [hy, e])) a' n' c' HI3.out.2 wr (HLU.out.below HBr.out) (hK.below HBw.out)
              clear hgr hq ho3 hm3 hy
              by_cases hyq : y = q
              · rw [if_pos hyq] at cu
                have hu2 : ((u3 : Int) == -2) = false := by first | (simp; done) | (simp; omega)
                have hu2' : ¬ (u3 : Int) = -2 := by omega
                go_wp2_with fail
                refine cu.mono ?_
                clear cu
                rintro e w9 ⟨rfl, hb9⟩
                have HB9 : Hid (Below U.heap.size U w9) := HBr.out.trans (hb9.mono HBr.out.size)
                clear hb9
                go_wp2
                go_roundg (gk - 1)
                case measure => have := HKK.out; omega
                case rel => exact ⟨k + 1, by have := HKK.out; omega, by go_num, HB9.out⟩
              · rw [if_neg hyq] at cu
                go_wp2_with fail
                refine cu.mono ?_
                clear cu
                rintro e w9 ⟨rfl, hb9⟩
                have HB9 : Hid (Below w.heap.size w w9) := HBw.out.trans (hb9.mono HBw.out.size)
                clear hb9
                go_wp2
                go_ret
                exact ⟨rfl, HB9.out⟩
            · obtain rfl : k = n' := by omega
              have hkI : ¬ (k : Int) < (k : Int) := by omega
              go_wp2
              go_roundg (len - (i + 1))
              case measure => have := HK.out; omega
              case rel => exact ⟨i + 1, T3, ph3, a', k, c', by have := HK.out; omega, by go_num, HI3, hgr, HLU.out.below HBr.out, HNV, HBw⟩
      · have HPP : Hid (∀ (W : World) v0 v1 v2, Below wr.heap.size wr W → Below wr.heap.size wr (((W.setCell ⟨wr.heap.size, 0, none⟩ v0).setCell ⟨wr.heap.size, 1, none⟩ v1).setCell ⟨wr.heap.size, 2, none⟩ v2)) := fun W v0 v1 v2 hb => HP3.out W _ v0 v1 v2 hb (Nat.le_refl _)
        clear HF KA KB HP3 HGW g0 g1 g2 y0 y1 y2 f0 f1 f2
        have HV : Hid ((((w6.setCell ⟨wr.heap.size, 0, none⟩ (.string t')).setCell ⟨wr.heap.size, 1, none⟩ (.string (str M))).setCell ⟨wr.heap.size, 2, none⟩ (.slice a' n' c')).heap[wr.heap.size]? = some (.cells #[.string t', .string (str M), .slice a' n' c'] 49 (0, 0))) := put3 hz.out
        have HBV : Hid (Below wr.heap.size wr (((w6.setCell ⟨wr.heap.size, 0, none⟩ (.string t')).setCell ⟨wr.heap.size, 1, none⟩ (.string (str M))).setCell ⟨wr.heap.size, 2, none⟩ (.slice a' n' c'))) := HPP.out _ _ _ _ hlp.bel
        have HGV : Hid ((((w6.setCell ⟨wr.heap.size, 0, none⟩ (.string t')).setCell ⟨wr.heap.size, 1, none⟩ (.string (str M))).setCell ⟨wr.heap.size, 2, none⟩ (.slice a' n' c')).heap[G]? = some (.cells #[.string (str T2), .string (str M), .slice b2 n2 c2] 49 (0, 0))) := (HBV.out.block _ hGl).trans HG2.out
        have HIV : Hid (cl = true → ∃ T ph, t' = str T ∧ Inv T M ph ∧ ph.length = n' ∧ Lst (((w6.setCell ⟨wr.heap.size, 0, none⟩ (.string t')).setCell ⟨wr.heap.size, 1, none⟩ (.string (str M))).setCell ⟨wr.heap.size, 2, none⟩ (.slice a' n' c')) a' n' (ph.map str)) := fun h => by
          obtain ⟨T3, ph3, q1, q2, q3, q4⟩ := hlp.inv h
          exact ⟨T3, ph3, q1, q2, q3, lst_put3 q4 hzn.out _ _ _⟩
        have HNV : Hid (∀ b off, a' = some ⟨b, off, none⟩ → b ≠ G) := hlp.ne
        have HBW : Hid (Below w.heap.size w (((w6.setCell ⟨wr.heap.size, 0, none⟩ (.string t')).setCell ⟨wr.heap.size, 1, none⟩ (.string (str M))).setCell ⟨wr.heap.size, 2, none⟩ (.slice a' n' c'))) := HB2.out.trans (HBV.out.mono HB2.out.size)
        obtain ⟨V, hV⟩ : ∃ V, (((w6.setCell ⟨wr.heap.size, 0, none⟩ (.string t')).setCell ⟨wr.heap.size, 1, none⟩ (.string (str M))).setCell ⟨wr.heap.size, 2, none⟩ (.slice a' n' c')) = V := ⟨_, rfl⟩
        rw [hV] at HV HBV HGV HIV HBW
        obtain ⟨nb, hnb⟩ : ∃ nb, wr.heap.size = nb := ⟨_, rfl⟩
        rw [hnb] at HV
        rw [hV, hnb]
        clear hlp hV hnb hz hzn HPP
        cases cl with
        | false =>
          go_wp2
          go_ret
          exact ⟨rfl, HBW.out⟩
        | true =>
          obtain ⟨T3, ph3, rfl, hI3, hn3, hL3⟩ := HIV.out rfl
          have v0 : V.cell? ⟨nb, 0, none⟩ = some (.string (str T3)) := (cell_of_heap HV.out).trans rfl
          have v1 : V.cell? ⟨nb, 1, none⟩ = some (.string (str M)) := (cell_of_heap HV.out).trans rfl
          have v2 : V.cell? ⟨nb, 2, none⟩ = some (.slice a' n' c') := (cell_of_heap HV.out).trans rfl
          have g0 : V.cell? ⟨G, 0, none⟩ = some (.string (str T2)) := (cell_of_heap HGV.out).trans rfl
          have g1 : V.cell? ⟨G, 1, none⟩ = some (.string (str M)) := (cell_of_heap HGV.out).trans rfl
          have g2 : V.cell? ⟨G, 2, none⟩ = some (.slice b2 n2 c2) := (cell_of_heap HGV.out).trans rfl
          have k0 : V.frozen? ⟨G, 0, none⟩ = false := frozen_of_heap HGV.out
          have k1 : V.frozen? ⟨G, 1, none⟩ = false := frozen_of_heap HGV.out
          have k2 : V.frozen? ⟨G, 2, none⟩ = false := frozen_of_heap HGV.out
          obtain ⟨U, hU⟩ : ∃ U, ((V.setCell ⟨G, 0, none⟩ (.string (str T3))).setCell ⟨G, 1, none⟩ (.string (str M))).setCell ⟨G, 2, none⟩ (.slice a' n' c') = U := ⟨_, rfl⟩
          have HGU : Hid (U.heap[G]? = some (.cells #[.string (str T3), .string (str M), .slice a' n' c'] 49 (0, 0))) := by
            show _ = _
            rw [← hU]
            exact put3 HGV.out
          have HLU : Hid (Lst U a' n' (ph3.map str)) := by
            show Lst _ _ _ _
            rw [← hU]
            exact lst_put3 hL3 HNV.out _ _ _
          have HBU : Hid (Below w.heap.size w U) := by
            show Below _ _ _
            rw [← hU]
            exact ((HBW.out.setCell hGw _).setCell hGw _).setCell hGw _
          have HI3 : Hid (Inv T3 M ph3 ∧ ph3.length = n') := ⟨hI3, hn3⟩
          have hn8 := inv_ph hI3
          have u2 : U.cell? ⟨G, 2, none⟩ = some (.slice a' n' c') := (cell_of_heap HGU.out).trans rfl
          clear HIV hI3 hL3 HGV HV HBV
          go_wp2
          go_loopg [16] n' (fun gk kv wr => ∃ k : Nat, k + gk = n' ∧ kv = .int .i64 (k : Int) ∧ Hid (Below U.heap.size U wr))
          case atStart => exact ⟨0, by omega, rfl, Below.refl _ _⟩
          case round =>
            clear v0 v1 v2 g0 g1 g2 k0 k1 k2 u2 hU
            obtain ⟨k, hk, rfl, HBr⟩ := hrel
            have HKK : Hid (k + gk = n') := hk
            have hk' : k ≤ n' := by omega
            clear hk
            have hgr : wr.heap[G]? = _ := (HBr.out.block _ (heap_lt HGU.out)).trans HGU.out
            have r0 : wr.cell? ⟨G, 0, none⟩ = some (.string (str T3)) := (cell_of_heap hgr).trans rfl
            have r1 : wr.cell? ⟨G, 1, none⟩ = some (.string (str M)) := (cell_of_heap hgr).trans rfl
            have r2 : wr.cell? ⟨G, 2, none⟩ = some (.slice a' n' c') := (cell_of_heap hgr).trans rfl
            have HBw : Hid (Below w.heap.size w wr) := HBU.out.trans (HBr.out.mono HBU.out.size)
            by_cases hkn : k < n'
            · have hkI : (k : Int) < (n' : Int) := by omega
              obtain ⟨q, hq⟩ : ∃ q, ph3[k]? = some q := ⟨_, List.getElem?_eq_getElem (by omega)⟩
              obtain ⟨m3, u3, ho3, hu3, hul, hm3⟩ := HI3.out.1.opens hq
              obtain ⟨y, hy⟩ : ∃ y, ph3[u3]? = some y := ⟨_, List.getElem?_eq_getElem hul⟩
              have cu := unlocked_any T3 M ph3 HI3.out.1 k q m3 u3 hq ho3 hu3 y hy (fun e => hm3 (by rw [hy, e])) a' n' c' HI3.out.2 wr (HLU.out.below HBr.out) (hK.below HBw.out)
              clear hgr hq ho3 hm3 hy
              by_cases hyq : y = q
              · rw [if_pos hyq] at cu
                have hu2 : ((u3 : Int) == -2) = false := by first | (simp; done) | (simp; omega)
                have hu2' : ¬ (u3 : Int) = -2 := by omega
                go_wp2_with fail
                refine cu.mono ?_
                clear cu
                rintro e w9 ⟨rfl, hb9⟩
                have HB9 : Hid (Below U.heap.size U w9) := HBr.out.trans (hb9.mono HBr.out.size)
                clear hb9
                go_wp2
                go_roundg (gk - 1)
                case measure => have := HKK.out; omega
                case rel => exact ⟨k + 1, by have := HKK.out; omega, by go_num, HB9.out⟩
              · rw [if_neg hyq] at cu
                go_wp2_with fail
                refine cu.mono ?_
                clear cu
                rintro e w9 ⟨rfl, hb9⟩
                have HB9 : Hid (Below w.heap.size w w9) := HBw.out.trans (hb9.mono HBw.out.size)
                clear hb9
                go_wp2
                go_ret
                exact ⟨rfl, HB9.out⟩
            · obtain rfl : k = n' := by omega
              have hkI : ¬ (k : Int) < (k : Int) := by omega
              go_wp2
              go_roundg (len - (i + 1))
              case measure => have := HK.out; omega
              case rel => exact ⟨i + 1, T3, ph3, a', k, c', by have := HK.out; omega, by go_num, HI3, hgr, HLU.out.below HBr.out, HNV, HBw⟩
    · have HBw := HB2.out
      by_cases hlt1 : i < len
      · have h1I : (i : Int) < (len : Int) := by omega
        have h2I : ¬ (i : Int) < 40 := by omega
        clear HG2
        go_wp2
        go_ret
        exact ⟨rfl, HBw⟩
      · have h1I : ¬ (i : Int) < (len : Int) := by omega
        clear HG2
        go_wp2
        go_ret
        exact ⟨rfl, HBw⟩

end Go.Proofs.YtbjiamaaocjbfaaGreatDoor.Kp

namespace Go.Proofs.YtbjiamaaocjbfaaGreatDoor.Kp
open Go.ChangeShapes Go.WideShapes Go.ChangeAt Go.RowKit Go.Deep

theorem cells6t : Tryz.prog.cellsOf 54 = 6 := by kernel_rfl
theorem cells3i : Tryz.prog.cellsOf 3 = 1 := by kernel_rfl
theorem cells9s : Tryz.prog.cellsOf 9 = 1 := by kernel_rfl

theorem weightsAll_mem {H : Type} {P : Program} {e : TypeId} : ∀ {l : List (DataW H)} {d : DataW H} {n : Nat}, d ∈ l → n ∈ d.weights P e → n ∈ DataW.weightsAll P e l
  | x :: r, d, n, hd, hn => by
    rw [DataW.weightsAll, List.mem_append]
    rcases List.mem_cons.1 hd with rfl | hd
    · exact Or.inl hn
    · exact Or.inr (weightsAll_mem hd hn)

set_option maxRecDepth 20000 in
theorem turns_of {H : Type} {enc : TypeId × Value → H} {W : World} {a : Option Addr} {len cap : Nat} {d : DataW H} {ps : List MemPlace} (h : DataW.Trod enc Tryz.prog W 0 (fun _ => true) true 46 (.slice a len cap) d ps) :
    ∃ K A N R X C, IsT W a len K A N R X C ∧ len ≤ 9223372036854775807 ∧ ∀ i, i < len → (X i).size ∈ d.weights Tryz.prog 46 ∧ (C i).size ∈ d.weights Tryz.prog 46 := by
  obtain ⟨fuel, hf⟩ := h
  rcases open_slice Tryz.underlying46 hf with ⟨hcs, _⟩ | ⟨x, len', cap', m, n, D, Pl, hcs, _, hl, hm, hmm, hx0, hx⟩
  · simp [Value.cells] at hcs
    obtain ⟨rfl, rfl, rfl⟩ := hcs
    exact ⟨fun _ => 0, fun _ => 0, fun _ => 0, fun _ => 0, fun _ => .empty, fun _ => .empty, fun i hi => by omega, by omega, fun i hi => by omega⟩
  · simp [Value.cells] at hcs
    obtain ⟨rfl, rfl, rfl⟩ := hcs
    simp only [if_true] at hmm
    subst hmm
    simp only [Prod.mk.injEq] at hx0
    obtain ⟨rfl, _⟩ := hx0
    have each : ∀ i, i < len → ∃ q : Int × Int × Int × ByteArray × ByteArray × Int, W.cell? (x.add (i * 6)) = some (.int .i64 q.1) ∧ W.cell? (x.add (i * 6 + 1)) = some (.int .i64 q.2.1) ∧ W.cell? (x.add (i * 6 + 2)) = some (.int .i64 q.2.2.1) ∧ W.cell? (x.add (i * 6 + 3)) = some (.string q.2.2.2.1) ∧ W.cell? (x.add (i * 6 + 4)) = some (.string q.2.2.2.2.1) ∧ W.cell? (x.add (i * 6 + 5)) = some (.int .i64 q.2.2.2.2.2) ∧ q.2.2.2.1.size ∈ (D i).weights Tryz.prog 54 ∧ q.2.2.2.2.1.size ∈ (D i).weights Tryz.prog 54 := by
      intro i hi
      obtain ⟨cs', h1, h2⟩ := hx i (by omega)
      rw [cells6t] at h1
      obtain ⟨_, hlen, hcell⟩ := World.cells?_some h1
      obtain ⟨xs, k, hk, hxy, _, hxl, hfl⟩ := DataW.trod_struct Tryz.underlying54 h2
      match xs, hxl, cs', hlen with
      | [y0, y1, y2, y3, y4, y5], _, [v0, v1, v2, v3, v4, v5], _ =>
        have g0 := hfl 0 _ rfl
        have g1 := hfl 1 _ rfl
        have g2 := hfl 2 _ rfl
        have g3 := hfl 3 _ rfl
        have g4 := hfl 4 _ rfl
        have g5 := hfl 5 _ rfl
        simp [cells3i, cells9s] at g0 g1 g2 g3 g4 g5
        have e0 := hcell 0 (by omega)
        have e1 := hcell 1 (by omega)
        have e2 := hcell 2 (by omega)
        have e3 := hcell 3 (by omega)
        have e4 := hcell 4 (by omega)
        have e5 := hcell 5 (by omega)
        rw [add_add] at e0 e1 e2 e3 e4 e5
        obtain ⟨i0, a0, _⟩ := DataW.trod_int Tryz.underlying3 g0
        obtain ⟨i1, a1, _⟩ := DataW.trod_int Tryz.underlying3 g1
        obtain ⟨i2, a2, _⟩ := DataW.trod_int Tryz.underlying3 g2
        obtain ⟨s3, a3, b3, _⟩ := DataW.trod_string Tryz.underlying9 g3
        obtain ⟨s4, a4, b4, _⟩ := DataW.trod_string Tryz.underlying9 g4
        obtain ⟨i5, a5, _⟩ := DataW.trod_int Tryz.underlying3 g5
        simp at a0 a1 a2 a3 a4 a5
        subst a0 a1 a2 a3 a4 a5
        refine ⟨(i0, i1, i2, s3, s4, i5), by simpa using e0, by simpa using e1, by simpa using e2, by simpa using e3, by simpa using e4, by simpa using e5, ?_, ?_⟩
        · simp only [Prod.mk.injEq] at hxy
          rw [hxy.1]
          have hsz : s3.data.toList.length = s3.size := by rw [Array.length_toList]; rfl
          have hw : s3.data.toList.length ∈ DataW.weights (H := H) Tryz.prog 9 (.lit (.string s3.data.toList)) := by simp [DataW.weights]
          simp only [DataW.weights, Tryz.underlying54]
          refine DataW.weights_mem_each (j := 3) (t := 9) (d := .lit (.string s3.data.toList)) rfl ?_ _ (by rw [← hsz]; exact hw)
          simp only [List.map_cons, List.map_nil, b3]
          rfl
        · simp only [Prod.mk.injEq] at hxy
          rw [hxy.1]
          have hsz : s4.data.toList.length = s4.size := by rw [Array.length_toList]; rfl
          have hw : s4.data.toList.length ∈ DataW.weights (H := H) Tryz.prog 9 (.lit (.string s4.data.toList)) := by simp [DataW.weights]
          simp only [DataW.weights, Tryz.underlying54]
          refine DataW.weights_mem_each (j := 4) (t := 9) (d := .lit (.string s4.data.toList)) rfl ?_ _ (by rw [← hsz]; exact hw)
          simp only [List.map_cons, List.map_nil, b4]
          rfl
    obtain ⟨q, hq⟩ := choose_lt each
    refine ⟨fun i => (q i).1, fun i => (q i).2.1, fun i => (q i).2.2.1, fun i => (q i).2.2.2.2.2, fun i => (q i).2.2.2.1, fun i => (q i).2.2.2.2.1, fun i hi => ?_, by unfold maxLen at hm; omega, fun i hi => ?_⟩
    · obtain ⟨c0, c1, c2, c3, c4, c5, _⟩ := hq i hi
      obtain ⟨b, off, spot⟩ := x
      have hspot : spot = none := by
        have h0 := (hq 0 (by omega)).1
        simpa [Addr.add] using World.cell?_spot h0
      subst hspot
      rw [Addr.add_lit] at c0 c1 c2 c3 c4 c5
      refine ⟨b, off, rfl, block_lt_of_cell c0, fun d v hv => ?_⟩
      rcases d with _ | _ | _ | _ | _ | _ | d
      · simp at hv; subst hv; exact c0
      · simp at hv; subst hv; rw [Nat.add_assoc]; exact c1
      · simp at hv; subst hv; rw [Nat.add_assoc]; exact c2
      · simp at hv; subst hv; rw [Nat.add_assoc]; exact c3
      · simp at hv; subst hv; rw [Nat.add_assoc]; exact c4
      · simp at hv; subst hv; rw [Nat.add_assoc]; exact c5
      · simp at hv
    · simp only [DataW.weights, Tryz.underlying46]
      obtain ⟨_, _, _, _, _, _, r1, r2⟩ := hq i hi
      exact ⟨List.mem_cons_of_mem _ (List.mem_append_left _ (weightsAll_mem (d := D i) (List.mem_map.2 ⟨i, List.mem_range.2 hi, rfl⟩) r1)), List.mem_cons_of_mem _ (List.mem_append_left _ (weightsAll_mem (d := D i) (List.mem_map.2 ⟨i, List.mem_range.2 hi, rfl⟩) r2))⟩

/-- a text of a step that came in is within reach -/
theorem sized_turns {H : Type} {ts : List TypeId} {ds : List (DataW H)} (h : (DataW.weightsEach Tryz.prog ts ds).all (· ≤ reachBytes) = true) {j : Nat} {d : DataW H} {t : TypeId} {n : Nat} (ht : ts[j]? = some t) (hd : ds[j]? = some d) (hn : n ∈ d.weights Tryz.prog t) : n ≤ 140737488355328 := by
  have h1 := of_decide_eq_true (List.all_eq_true.1 h _ (DataW.weights_mem_each ht hd n hn))
  unfold reachBytes at h1
  omega

end Go.Proofs.YtbjiamaaocjbfaaGreatDoor.Kp
