import Derived.Test.YtbjiamaaocjbfaaGreatDoorK7M
namespace Go.Proofs.YtbjiamaaocjbfaaGreatDoor.Kr
open Go.RowKit Go.Lib Go.Deep

section
variable {t p : List UInt8}
theorem unlock_arg (h : parseE t = 0) : unlockE t [] = 1 := by
  unfold unlockE
  rw [if_neg (by rw [h]; decide), if_pos (show passK [] = false from rfl)]
theorem may_arg (h : parseE t = 0) (rounds : Int) (coins : List UInt8) : mayE t p [] rounds coins = 1 := by
  unfold mayE
  rw [if_neg (by rw [h]; decide), if_pos (.inr (show passK [] = false from rfl))]
theorem may_rounds (h : parseE t = 0) (hp : passK p = true) {rounds : Int} (hr : roundsK rounds = false) (coins : List UInt8) : mayE t p p rounds coins = 30 := by
  unfold mayE
  rw [if_neg (by rw [h]; decide), if_neg (by rw [hp]; decide), if_pos hr]
theorem may_coins (h : parseE t = 0) (hp : passK p = true) {rounds : Int} (hr : roundsK rounds = true) {coins : List UInt8} (hc : coins.length ≠ 40) : mayE t p p rounds coins = 77 := by
  unfold mayE
  rw [if_neg (by rw [h]; decide), if_neg (by rw [hp]; decide), if_neg (by rw [hr]; decide), if_pos hc]
theorem add_may {next : List UInt8} {rounds : Int} {coins : List UInt8} (h : mayE t p next rounds coins ≠ 0) : addE t p next rounds coins = mayE t p next rounds coins := by
  unfold addE
  rw [if_pos h]
theorem unlock_yes (h : parseE t = 0) (hp : passK p = true) {m : List UInt8} {n : Nat} (ho : opensK (parseI t) p (parseS t) = some (m, n)) : unlockE t p = 0 ∧ unlockM t p = m ∧ unlockN t p = n := by
  have e : unlockE t p = 0 := by
    unfold unlockE
    rw [if_neg (by rw [h]; decide), if_neg (by rw [hp]; decide), if_neg (by rw [ho]; simp)]
  refine ⟨e, ?_, ?_⟩
  · unfold unlockM
    rw [if_pos e, ho]
    rfl
  · unfold unlockN
    rw [if_pos e, ho]
    rfl
theorem drop_slot (h : unlockE t p = 0) {n : Int} (hn : n < 0 ∨ (parseS t).length ≤ n) : dropE t p n = 76 := by
  unfold dropE
  rw [if_neg (by rw [h]; decide), if_pos hn]
theorem drop_last (h : unlockE t p = 0) {n : Int} (hn : ¬ (n < 0 ∨ (parseS t).length ≤ n)) (h1 : (parseS t).length = 1) : dropE t p n = 75 := by
  unfold dropE
  rw [if_neg (by rw [h]; decide), if_neg hn, if_pos h1]
end

/-- Drop, of a ring of one slot -/
def DropC1 (KT : World → Prop) : Prop := ∀ (t p : ByteArray) (n : Int) (w : World), t.size ≤ 4194304 → (parseS t.data.toList).length ≤ 1 → KT w →
    Calls Tryz.prog 18 #[.string t, .string p, .int .i64 n] w fun e w' => e = .returned (.tuple #[.string (str (dropY t.data.toList p.data.toList n)), .int .i64 (dropE t.data.toList p.data.toList n)]) ∧ Below w.heap.size w w'

set_option maxRecDepth 20000 in
set_option maxHeartbeats 2000000 in
theorem keyringRefuses_walk {KT : World → Prop} (hKT : Tbl KT) (hM : MakeC KT) (hU : UnlockC KT) (hA : AddC KT) (hC : ChangeC KT) (hD : DropC1 KT) (pass : ByteArray) (rounds : Int) (coins : ByteArray) (slot : Int) (w : World) (b0 : pass.size ≤ 140737488351232) (b2 : coins.size ≤ 140737488351232) (hw : KT w) :
    Calls Tryz.prog 5 #[.string pass, .int .i64 rounds, .string coins, .int .i64 slot] w fun e w' => e = .returned (.bool true) ∧ Below w.heap.size w w' := by
  have hcl : coins.data.toList.length = coins.size := (size_eq coins).symm
  have hp0 := phrase_ok pass.data.toList
  have hph := fun W => phrase_any pass (by omega) W
  have hs1 := fun W => ksized_any { data := #[] } 32 (by omega) (by omega) (by decide) W
  have hs2 := fun W => ksized_any coins 56 (by omega) (by omega) (by omega) W
  change ∀ W, Calls Tryz.prog _ #[_, .int .i64 32] W _ at hs1
  change ∀ W, Calls Tryz.prog _ #[_, .int .i64 56] W _ at hs2
  obtain ⟨m, hm⟩ : ∃ m, sz5 ({ data := #[] } : ByteArray).data.toList 32 = m := ⟨_, rfl⟩
  obtain ⟨c, hc⟩ : ∃ c, sz5 coins.data.toList 56 = c := ⟨_, rfl⟩
  have hm1 : m.length = 32 := by rw [← hm, sz5_length]
  have hc1 : c.length = 56 := by rw [← hc, sz5_length]
  rw [hm] at hs1
  rw [hc] at hs2
  have hpl : (phraseL pass.data.toList).length ≤ 256 := (of_decide_eq_true hp0).2
  generalize phraseL pass.data.toList = p at hp0 hph hpl
  clear hm hc
  obtain ⟨g1, g2, g3, g4, g5, g6⟩ := made_facts (rounds := 1) hm1 hp0 rfl hc1
  have hmk := fun W (k : KT W) => hM (str m) (str p) (str c) 1 W (by rw [str_size]; omega) (by rw [str_size]; omega) (by rw [str_size]; omega) k
  simp only [str_data] at hmk
  rw [g1] at hmk
  generalize makeY m p 1 c = t at *
  have hS1 : (parseS t).length = 1 := by rw [g4]; rfl
  rw [← g3, ← g4] at g5
  have hul := fun W (k : KT W) => hU (str t) { data := #[] } W (by rw [str_size]; omega) (by decide) k
  have hdr := fun W (k : KT W) => hD (str t) (str p) slot W (by rw [str_size]; omega) (by rw [str_data]; omega) k
  have had := fun W (k : KT W) => hA (str t) (str p) (str p) coins rounds W (by rw [str_size]; omega) (by rw [str_size]; omega) (by rw [str_size]; omega) (by omega) k
  have had2 := fun W (k : KT W) => hA (str t) (str p) { data := #[] } coins rounds W (by rw [str_size]; omega) (by rw [str_size]; omega) (by decide) (by omega) k
  have hch := fun W (k : KT W) => hC (str t) (str p) (str p) coins rounds W (by rw [str_size]; omega) (by rw [str_size]; omega) (by rw [str_size]; omega) (by omega) k
  simp only [str_data] at hul hdr had had2 hch
  rw [unlock_arg g2] at hul
  have e1 : addE t p [] rounds coins.data.toList = 1 := by rw [add_may (by rw [may_arg g2]; decide), may_arg g2]
  rw [e1] at had2
  have hu0 := (unlock_yes g2 hp0 g5).1
  clear e1 hM hU hA hC hD g1 g3 g4 g5 g6 hm1 hc1 hpl
  have HKT : Hid (∀ W, Below w.heap.size w W → KT W) := fun W h => hKT.below w W hw h
  clear hKT hw
  generalize str (unlockM t []) = yu at hul
  generalize (unlockN t [] : Int) = nu at hul
  generalize str (addY t p [] rounds coins.data.toList) = ya at had2
  generalize str (addY t p p rounds coins.data.toList) = yb at had
  generalize str (changeY t p p rounds coins.data.toList) = yc at hch
  generalize str (dropY t p slot) = yd at hdr
  generalize str m = ym at *
  generalize str c = yk at *
  cases hr : roundsK rounds with
  | false =>
    have hr2 := of_decide_eq_false hr
    rw [add_may (by rw [may_rounds g2 hp0 hr]; decide), may_rounds g2 hp0 hr] at had
    rw [may_rounds g2 hp0 hr] at hch
    clear hr g2 hp0 hcl
    by_cases j1 : rounds < 1
    · by_cases hcI : (coins.size : Int) = 40
      · by_cases hs0 : slot = 0
        · rw [drop_last hu0 (by omega) hS1] at hdr
          subst hs0
          generalize str p = yp at *
          generalize str t = yt at *
          have hb0 := Below.refl w.heap.size w
          have k0 := HKT.out w hb0
          go_enter Tryz.func5, Tryz.ntmps5
          go_wp2_with fail
          refine (hph w).mono ?_
          rintro e w0 ⟨rfl, rfl⟩
          go_wp2_with fail
          refine (hs1 w).mono ?_
          rintro e w1 ⟨rfl, hbn⟩
          have hb1 := hb0.trans (hbn.mono hb0.size)
          clear hbn hb0 k0
          go_wp2_with fail
          refine (hs2 w1).mono ?_
          rintro e w2 ⟨rfl, hbn⟩
          have hb2 := hb1.trans (hbn.mono hb1.size)
          have k2 := HKT.out w2 hb2
          clear hbn hb1
          go_wp2_with fail
          refine (hmk w2 k2).mono ?_
          rintro e w3 ⟨rfl, hbn⟩
          have hb3 := hb2.trans (hbn.mono hb2.size)
          have k3 := HKT.out w3 hb3
          clear hbn hb2
          go_wp2_with (go_at_call 10; refine (knum_any _ _).mono ?_; rintro e wn ⟨rfl, rfl⟩)
          refine (hul w3 k3).mono ?_
          rintro e w4 ⟨rfl, hbn⟩
          have hb4 := hb3.trans (hbn.mono hb3.size)
          have k4 := HKT.out w4 hb4
          clear hbn hb3
          go_wp2_with (go_at_call 10; refine (knum_any _ _).mono ?_; rintro e wn ⟨rfl, rfl⟩)
          refine (had w4 k4).mono ?_
          rintro e w5 ⟨rfl, hbn⟩
          have hb5 := hb4.trans (hbn.mono hb4.size)
          have k5 := HKT.out w5 hb5
          clear hbn hb4
          go_wp2_with (go_at_call 10; refine (knum_any _ _).mono ?_; rintro e wn ⟨rfl, rfl⟩)
          refine (hch w5 k5).mono ?_
          rintro e w6 ⟨rfl, hbn⟩
          have hb6 := hb5.trans (hbn.mono hb5.size)
          have k6 := HKT.out w6 hb6
          clear hbn hb5
          go_wp2_with (go_at_call 10; refine (knum_any _ _).mono ?_; rintro e wn ⟨rfl, rfl⟩)
          refine (had2 w6 k6).mono ?_
          rintro e w7 ⟨rfl, hbn⟩
          have hb7 := hb6.trans (hbn.mono hb6.size)
          have k7 := HKT.out w7 hb7
          clear hbn hb6
          go_wp2_with (go_at_call 10; refine (knum_any _ _).mono ?_; rintro e wn ⟨rfl, rfl⟩)
          refine (hdr w7 k7).mono ?_
          rintro e w8 ⟨rfl, hbn⟩
          have hb8 := hb7.trans (hbn.mono hb7.size)
          have k8 := HKT.out w8 hb8
          clear hbn hb7
          go_wp2_with (go_at_call 10; refine (knum_any _ _).mono ?_; rintro e wn ⟨rfl, rfl⟩)
          go_ret
          exact ⟨rfl, hb8⟩
        · rw [drop_slot hu0 (by omega)] at hdr
          generalize str p = yp at *
          generalize str t = yt at *
          have hb0 := Below.refl w.heap.size w
          have k0 := HKT.out w hb0
          go_enter Tryz.func5, Tryz.ntmps5
          go_wp2_with fail
          refine (hph w).mono ?_
          rintro e w0 ⟨rfl, rfl⟩
          go_wp2_with fail
          refine (hs1 w).mono ?_
          rintro e w1 ⟨rfl, hbn⟩
          have hb1 := hb0.trans (hbn.mono hb0.size)
          clear hbn hb0 k0
          go_wp2_with fail
          refine (hs2 w1).mono ?_
          rintro e w2 ⟨rfl, hbn⟩
          have hb2 := hb1.trans (hbn.mono hb1.size)
          have k2 := HKT.out w2 hb2
          clear hbn hb1
          go_wp2_with fail
          refine (hmk w2 k2).mono ?_
          rintro e w3 ⟨rfl, hbn⟩
          have hb3 := hb2.trans (hbn.mono hb2.size)
          have k3 := HKT.out w3 hb3
          clear hbn hb2
          go_wp2_with (go_at_call 10; refine (knum_any _ _).mono ?_; rintro e wn ⟨rfl, rfl⟩)
          refine (hul w3 k3).mono ?_
          rintro e w4 ⟨rfl, hbn⟩
          have hb4 := hb3.trans (hbn.mono hb3.size)
          have k4 := HKT.out w4 hb4
          clear hbn hb3
          go_wp2_with (go_at_call 10; refine (knum_any _ _).mono ?_; rintro e wn ⟨rfl, rfl⟩)
          refine (had w4 k4).mono ?_
          rintro e w5 ⟨rfl, hbn⟩
          have hb5 := hb4.trans (hbn.mono hb4.size)
          have k5 := HKT.out w5 hb5
          clear hbn hb4
          go_wp2_with (go_at_call 10; refine (knum_any _ _).mono ?_; rintro e wn ⟨rfl, rfl⟩)
          refine (hch w5 k5).mono ?_
          rintro e w6 ⟨rfl, hbn⟩
          have hb6 := hb5.trans (hbn.mono hb5.size)
          have k6 := HKT.out w6 hb6
          clear hbn hb5
          go_wp2_with (go_at_call 10; refine (knum_any _ _).mono ?_; rintro e wn ⟨rfl, rfl⟩)
          refine (had2 w6 k6).mono ?_
          rintro e w7 ⟨rfl, hbn⟩
          have hb7 := hb6.trans (hbn.mono hb6.size)
          have k7 := HKT.out w7 hb7
          clear hbn hb6
          go_wp2_with (go_at_call 10; refine (knum_any _ _).mono ?_; rintro e wn ⟨rfl, rfl⟩)
          refine (hdr w7 k7).mono ?_
          rintro e w8 ⟨rfl, hbn⟩
          have hb8 := hb7.trans (hbn.mono hb7.size)
          have k8 := HKT.out w8 hb8
          clear hbn hb7
          go_wp2_with (go_at_call 10; refine (knum_any _ _).mono ?_; rintro e wn ⟨rfl, rfl⟩)
          go_ret
          exact ⟨rfl, hb8⟩
      · by_cases hs0 : slot = 0
        · rw [drop_last hu0 (by omega) hS1] at hdr
          subst hs0
          generalize str p = yp at *
          generalize str t = yt at *
          have hb0 := Below.refl w.heap.size w
          have k0 := HKT.out w hb0
          go_enter Tryz.func5, Tryz.ntmps5
          go_wp2_with fail
          refine (hph w).mono ?_
          rintro e w0 ⟨rfl, rfl⟩
          go_wp2_with fail
          refine (hs1 w).mono ?_
          rintro e w1 ⟨rfl, hbn⟩
          have hb1 := hb0.trans (hbn.mono hb0.size)
          clear hbn hb0 k0
          go_wp2_with fail
          refine (hs2 w1).mono ?_
          rintro e w2 ⟨rfl, hbn⟩
          have hb2 := hb1.trans (hbn.mono hb1.size)
          have k2 := HKT.out w2 hb2
          clear hbn hb1
          go_wp2_with fail
          refine (hmk w2 k2).mono ?_
          rintro e w3 ⟨rfl, hbn⟩
          have hb3 := hb2.trans (hbn.mono hb2.size)
          have k3 := HKT.out w3 hb3
          clear hbn hb2
          go_wp2_with (go_at_call 10; refine (knum_any _ _).mono ?_; rintro e wn ⟨rfl, rfl⟩)
          refine (hul w3 k3).mono ?_
          rintro e w4 ⟨rfl, hbn⟩
          have hb4 := hb3.trans (hbn.mono hb3.size)
          have k4 := HKT.out w4 hb4
          clear hbn hb3
          go_wp2_with (go_at_call 10; refine (knum_any _ _).mono ?_; rintro e wn ⟨rfl, rfl⟩)
          refine (had w4 k4).mono ?_
          rintro e w5 ⟨rfl, hbn⟩
          have hb5 := hb4.trans (hbn.mono hb4.size)
          have k5 := HKT.out w5 hb5
          clear hbn hb4
          go_wp2_with (go_at_call 10; refine (knum_any _ _).mono ?_; rintro e wn ⟨rfl, rfl⟩)
          refine (hch w5 k5).mono ?_
          rintro e w6 ⟨rfl, hbn⟩
          have hb6 := hb5.trans (hbn.mono hb5.size)
          have k6 := HKT.out w6 hb6
          clear hbn hb5
          go_wp2_with (go_at_call 10; refine (knum_any _ _).mono ?_; rintro e wn ⟨rfl, rfl⟩)
          refine (had2 w6 k6).mono ?_
          rintro e w7 ⟨rfl, hbn⟩
          have hb7 := hb6.trans (hbn.mono hb6.size)
          have k7 := HKT.out w7 hb7
          clear hbn hb6
          go_wp2_with (go_at_call 10; refine (knum_any _ _).mono ?_; rintro e wn ⟨rfl, rfl⟩)
          refine (hdr w7 k7).mono ?_
          rintro e w8 ⟨rfl, hbn⟩
          have hb8 := hb7.trans (hbn.mono hb7.size)
          have k8 := HKT.out w8 hb8
          clear hbn hb7
          go_wp2_with (go_at_call 10; refine (knum_any _ _).mono ?_; rintro e wn ⟨rfl, rfl⟩)
          go_ret
          exact ⟨rfl, hb8⟩
        · rw [drop_slot hu0 (by omega)] at hdr
          generalize str p = yp at *
          generalize str t = yt at *
          have hb0 := Below.refl w.heap.size w
          have k0 := HKT.out w hb0
          go_enter Tryz.func5, Tryz.ntmps5
          go_wp2_with fail
          refine (hph w).mono ?_
          rintro e w0 ⟨rfl, rfl⟩
          go_wp2_with fail
          refine (hs1 w).mono ?_
          rintro e w1 ⟨rfl, hbn⟩
          have hb1 := hb0.trans (hbn.mono hb0.size)
          clear hbn hb0 k0
          go_wp2_with fail
          refine (hs2 w1).mono ?_
          rintro e w2 ⟨rfl, hbn⟩
          have hb2 := hb1.trans (hbn.mono hb1.size)
          have k2 := HKT.out w2 hb2
          clear hbn hb1
          go_wp2_with fail
          refine (hmk w2 k2).mono ?_
          rintro e w3 ⟨rfl, hbn⟩
          have hb3 := hb2.trans (hbn.mono hb2.size)
          have k3 := HKT.out w3 hb3
          clear hbn hb2
          go_wp2_with (go_at_call 10; refine (knum_any _ _).mono ?_; rintro e wn ⟨rfl, rfl⟩)
          refine (hul w3 k3).mono ?_
          rintro e w4 ⟨rfl, hbn⟩
          have hb4 := hb3.trans (hbn.mono hb3.size)
          have k4 := HKT.out w4 hb4
          clear hbn hb3
          go_wp2_with (go_at_call 10; refine (knum_any _ _).mono ?_; rintro e wn ⟨rfl, rfl⟩)
          refine (had w4 k4).mono ?_
          rintro e w5 ⟨rfl, hbn⟩
          have hb5 := hb4.trans (hbn.mono hb4.size)
          have k5 := HKT.out w5 hb5
          clear hbn hb4
          go_wp2_with (go_at_call 10; refine (knum_any _ _).mono ?_; rintro e wn ⟨rfl, rfl⟩)
          refine (hch w5 k5).mono ?_
          rintro e w6 ⟨rfl, hbn⟩
          have hb6 := hb5.trans (hbn.mono hb5.size)
          have k6 := HKT.out w6 hb6
          clear hbn hb5
          go_wp2_with (go_at_call 10; refine (knum_any _ _).mono ?_; rintro e wn ⟨rfl, rfl⟩)
          refine (had2 w6 k6).mono ?_
          rintro e w7 ⟨rfl, hbn⟩
          have hb7 := hb6.trans (hbn.mono hb6.size)
          have k7 := HKT.out w7 hb7
          clear hbn hb6
          go_wp2_with (go_at_call 10; refine (knum_any _ _).mono ?_; rintro e wn ⟨rfl, rfl⟩)
          refine (hdr w7 k7).mono ?_
          rintro e w8 ⟨rfl, hbn⟩
          have hb8 := hb7.trans (hbn.mono hb7.size)
          have k8 := HKT.out w8 hb8
          clear hbn hb7
          go_wp2_with (go_at_call 10; refine (knum_any _ _).mono ?_; rintro e wn ⟨rfl, rfl⟩)
          go_ret
          exact ⟨rfl, hb8⟩
    · have j2 : (4096 : Int) < rounds := by omega
      by_cases hcI : (coins.size : Int) = 40
      · by_cases hs0 : slot = 0
        · rw [drop_last hu0 (by omega) hS1] at hdr
          subst hs0
          generalize str p = yp at *
          generalize str t = yt at *
          have hb0 := Below.refl w.heap.size w
          have k0 := HKT.out w hb0
          go_enter Tryz.func5, Tryz.ntmps5
          go_wp2_with fail
          refine (hph w).mono ?_
          rintro e w0 ⟨rfl, rfl⟩
          go_wp2_with fail
          refine (hs1 w).mono ?_
          rintro e w1 ⟨rfl, hbn⟩
          have hb1 := hb0.trans (hbn.mono hb0.size)
          clear hbn hb0 k0
          go_wp2_with fail
          refine (hs2 w1).mono ?_
          rintro e w2 ⟨rfl, hbn⟩
          have hb2 := hb1.trans (hbn.mono hb1.size)
          have k2 := HKT.out w2 hb2
          clear hbn hb1
          go_wp2_with fail
          refine (hmk w2 k2).mono ?_
          rintro e w3 ⟨rfl, hbn⟩
          have hb3 := hb2.trans (hbn.mono hb2.size)
          have k3 := HKT.out w3 hb3
          clear hbn hb2
          go_wp2_with (go_at_call 10; refine (knum_any _ _).mono ?_; rintro e wn ⟨rfl, rfl⟩)
          refine (hul w3 k3).mono ?_
          rintro e w4 ⟨rfl, hbn⟩
          have hb4 := hb3.trans (hbn.mono hb3.size)
          have k4 := HKT.out w4 hb4
          clear hbn hb3
          go_wp2_with (go_at_call 10; refine (knum_any _ _).mono ?_; rintro e wn ⟨rfl, rfl⟩)
          refine (had w4 k4).mono ?_
          rintro e w5 ⟨rfl, hbn⟩
          have hb5 := hb4.trans (hbn.mono hb4.size)
          have k5 := HKT.out w5 hb5
          clear hbn hb4
          go_wp2_with (go_at_call 10; refine (knum_any _ _).mono ?_; rintro e wn ⟨rfl, rfl⟩)
          refine (hch w5 k5).mono ?_
          rintro e w6 ⟨rfl, hbn⟩
          have hb6 := hb5.trans (hbn.mono hb5.size)
          have k6 := HKT.out w6 hb6
          clear hbn hb5
          go_wp2_with (go_at_call 10; refine (knum_any _ _).mono ?_; rintro e wn ⟨rfl, rfl⟩)
          refine (had2 w6 k6).mono ?_
          rintro e w7 ⟨rfl, hbn⟩
          have hb7 := hb6.trans (hbn.mono hb6.size)
          have k7 := HKT.out w7 hb7
          clear hbn hb6
          go_wp2_with (go_at_call 10; refine (knum_any _ _).mono ?_; rintro e wn ⟨rfl, rfl⟩)
          refine (hdr w7 k7).mono ?_
          rintro e w8 ⟨rfl, hbn⟩
          have hb8 := hb7.trans (hbn.mono hb7.size)
          have k8 := HKT.out w8 hb8
          clear hbn hb7
          go_wp2_with (go_at_call 10; refine (knum_any _ _).mono ?_; rintro e wn ⟨rfl, rfl⟩)
          go_ret
          exact ⟨rfl, hb8⟩
        · rw [drop_slot hu0 (by omega)] at hdr
          generalize str p = yp at *
          generalize str t = yt at *
          have hb0 := Below.refl w.heap.size w
          have k0 := HKT.out w hb0
          go_enter Tryz.func5, Tryz.ntmps5
          go_wp2_with fail
          refine (hph w).mono ?_
          rintro e w0 ⟨rfl, rfl⟩
          go_wp2_with fail
          refine (hs1 w).mono ?_
          rintro e w1 ⟨rfl, hbn⟩
          have hb1 := hb0.trans (hbn.mono hb0.size)
          clear hbn hb0 k0
          go_wp2_with fail
          refine (hs2 w1).mono ?_
          rintro e w2 ⟨rfl, hbn⟩
          have hb2 := hb1.trans (hbn.mono hb1.size)
          have k2 := HKT.out w2 hb2
          clear hbn hb1
          go_wp2_with fail
          refine (hmk w2 k2).mono ?_
          rintro e w3 ⟨rfl, hbn⟩
          have hb3 := hb2.trans (hbn.mono hb2.size)
          have k3 := HKT.out w3 hb3
          clear hbn hb2
          go_wp2_with (go_at_call 10; refine (knum_any _ _).mono ?_; rintro e wn ⟨rfl, rfl⟩)
          refine (hul w3 k3).mono ?_
          rintro e w4 ⟨rfl, hbn⟩
          have hb4 := hb3.trans (hbn.mono hb3.size)
          have k4 := HKT.out w4 hb4
          clear hbn hb3
          go_wp2_with (go_at_call 10; refine (knum_any _ _).mono ?_; rintro e wn ⟨rfl, rfl⟩)
          refine (had w4 k4).mono ?_
          rintro e w5 ⟨rfl, hbn⟩
          have hb5 := hb4.trans (hbn.mono hb4.size)
          have k5 := HKT.out w5 hb5
          clear hbn hb4
          go_wp2_with (go_at_call 10; refine (knum_any _ _).mono ?_; rintro e wn ⟨rfl, rfl⟩)
          refine (hch w5 k5).mono ?_
          rintro e w6 ⟨rfl, hbn⟩
          have hb6 := hb5.trans (hbn.mono hb5.size)
          have k6 := HKT.out w6 hb6
          clear hbn hb5
          go_wp2_with (go_at_call 10; refine (knum_any _ _).mono ?_; rintro e wn ⟨rfl, rfl⟩)
          refine (had2 w6 k6).mono ?_
          rintro e w7 ⟨rfl, hbn⟩
          have hb7 := hb6.trans (hbn.mono hb6.size)
          have k7 := HKT.out w7 hb7
          clear hbn hb6
          go_wp2_with (go_at_call 10; refine (knum_any _ _).mono ?_; rintro e wn ⟨rfl, rfl⟩)
          refine (hdr w7 k7).mono ?_
          rintro e w8 ⟨rfl, hbn⟩
          have hb8 := hb7.trans (hbn.mono hb7.size)
          have k8 := HKT.out w8 hb8
          clear hbn hb7
          go_wp2_with (go_at_call 10; refine (knum_any _ _).mono ?_; rintro e wn ⟨rfl, rfl⟩)
          go_ret
          exact ⟨rfl, hb8⟩
      · by_cases hs0 : slot = 0
        · rw [drop_last hu0 (by omega) hS1] at hdr
          subst hs0
          generalize str p = yp at *
          generalize str t = yt at *
          have hb0 := Below.refl w.heap.size w
          have k0 := HKT.out w hb0
          go_enter Tryz.func5, Tryz.ntmps5
          go_wp2_with fail
          refine (hph w).mono ?_
          rintro e w0 ⟨rfl, rfl⟩
          go_wp2_with fail
          refine (hs1 w).mono ?_
          rintro e w1 ⟨rfl, hbn⟩
          have hb1 := hb0.trans (hbn.mono hb0.size)
          clear hbn hb0 k0
          go_wp2_with fail
          refine (hs2 w1).mono ?_
          rintro e w2 ⟨rfl, hbn⟩
          have hb2 := hb1.trans (hbn.mono hb1.size)
          have k2 := HKT.out w2 hb2
          clear hbn hb1
          go_wp2_with fail
          refine (hmk w2 k2).mono ?_
          rintro e w3 ⟨rfl, hbn⟩
          have hb3 := hb2.trans (hbn.mono hb2.size)
          have k3 := HKT.out w3 hb3
          clear hbn hb2
          go_wp2_with (go_at_call 10; refine (knum_any _ _).mono ?_; rintro e wn ⟨rfl, rfl⟩)
          refine (hul w3 k3).mono ?_
          rintro e w4 ⟨rfl, hbn⟩
          have hb4 := hb3.trans (hbn.mono hb3.size)
          have k4 := HKT.out w4 hb4
          clear hbn hb3
          go_wp2_with (go_at_call 10; refine (knum_any _ _).mono ?_; rintro e wn ⟨rfl, rfl⟩)
          refine (had w4 k4).mono ?_
          rintro e w5 ⟨rfl, hbn⟩
          have hb5 := hb4.trans (hbn.mono hb4.size)
          have k5 := HKT.out w5 hb5
          clear hbn hb4
          go_wp2_with (go_at_call 10; refine (knum_any _ _).mono ?_; rintro e wn ⟨rfl, rfl⟩)
          refine (hch w5 k5).mono ?_
          rintro e w6 ⟨rfl, hbn⟩
          have hb6 := hb5.trans (hbn.mono hb5.size)
          have k6 := HKT.out w6 hb6
          clear hbn hb5
          go_wp2_with (go_at_call 10; refine (knum_any _ _).mono ?_; rintro e wn ⟨rfl, rfl⟩)
          refine (had2 w6 k6).mono ?_
          rintro e w7 ⟨rfl, hbn⟩
          have hb7 := hb6.trans (hbn.mono hb6.size)
          have k7 := HKT.out w7 hb7
          clear hbn hb6
          go_wp2_with (go_at_call 10; refine (knum_any _ _).mono ?_; rintro e wn ⟨rfl, rfl⟩)
          refine (hdr w7 k7).mono ?_
          rintro e w8 ⟨rfl, hbn⟩
          have hb8 := hb7.trans (hbn.mono hb7.size)
          have k8 := HKT.out w8 hb8
          clear hbn hb7
          go_wp2_with (go_at_call 10; refine (knum_any _ _).mono ?_; rintro e wn ⟨rfl, rfl⟩)
          go_ret
          exact ⟨rfl, hb8⟩
        · rw [drop_slot hu0 (by omega)] at hdr
          generalize str p = yp at *
          generalize str t = yt at *
          have hb0 := Below.refl w.heap.size w
          have k0 := HKT.out w hb0
          go_enter Tryz.func5, Tryz.ntmps5
          go_wp2_with fail
          refine (hph w).mono ?_
          rintro e w0 ⟨rfl, rfl⟩
          go_wp2_with fail
          refine (hs1 w).mono ?_
          rintro e w1 ⟨rfl, hbn⟩
          have hb1 := hb0.trans (hbn.mono hb0.size)
          clear hbn hb0 k0
          go_wp2_with fail
          refine (hs2 w1).mono ?_
          rintro e w2 ⟨rfl, hbn⟩
          have hb2 := hb1.trans (hbn.mono hb1.size)
          have k2 := HKT.out w2 hb2
          clear hbn hb1
          go_wp2_with fail
          refine (hmk w2 k2).mono ?_
          rintro e w3 ⟨rfl, hbn⟩
          have hb3 := hb2.trans (hbn.mono hb2.size)
          have k3 := HKT.out w3 hb3
          clear hbn hb2
          go_wp2_with (go_at_call 10; refine (knum_any _ _).mono ?_; rintro e wn ⟨rfl, rfl⟩)
          refine (hul w3 k3).mono ?_
          rintro e w4 ⟨rfl, hbn⟩
          have hb4 := hb3.trans (hbn.mono hb3.size)
          have k4 := HKT.out w4 hb4
          clear hbn hb3
          go_wp2_with (go_at_call 10; refine (knum_any _ _).mono ?_; rintro e wn ⟨rfl, rfl⟩)
          refine (had w4 k4).mono ?_
          rintro e w5 ⟨rfl, hbn⟩
          have hb5 := hb4.trans (hbn.mono hb4.size)
          have k5 := HKT.out w5 hb5
          clear hbn hb4
          go_wp2_with (go_at_call 10; refine (knum_any _ _).mono ?_; rintro e wn ⟨rfl, rfl⟩)
          refine (hch w5 k5).mono ?_
          rintro e w6 ⟨rfl, hbn⟩
          have hb6 := hb5.trans (hbn.mono hb5.size)
          have k6 := HKT.out w6 hb6
          clear hbn hb5
          go_wp2_with (go_at_call 10; refine (knum_any _ _).mono ?_; rintro e wn ⟨rfl, rfl⟩)
          refine (had2 w6 k6).mono ?_
          rintro e w7 ⟨rfl, hbn⟩
          have hb7 := hb6.trans (hbn.mono hb6.size)
          have k7 := HKT.out w7 hb7
          clear hbn hb6
          go_wp2_with (go_at_call 10; refine (knum_any _ _).mono ?_; rintro e wn ⟨rfl, rfl⟩)
          refine (hdr w7 k7).mono ?_
          rintro e w8 ⟨rfl, hbn⟩
          have hb8 := hb7.trans (hbn.mono hb7.size)
          have k8 := HKT.out w8 hb8
          clear hbn hb7
          go_wp2_with (go_at_call 10; refine (knum_any _ _).mono ?_; rintro e wn ⟨rfl, rfl⟩)
          go_ret
          exact ⟨rfl, hb8⟩
  | true =>
    have hr2 := of_decide_eq_true hr
    have j1 : ¬ rounds < 1 := by omega
    have j2 : ¬ (4096 : Int) < rounds := by omega
    by_cases hc40 : coins.size = 40
    · have hcI : (coins.size : Int) = 40 := by omega
      by_cases hs0 : slot = 0
      · rw [drop_last hu0 (by omega) hS1] at hdr
        subst hs0
        generalize str p = yp at *
        generalize str t = yt at *
        have hb0 := Below.refl w.heap.size w
        have k0 := HKT.out w hb0
        go_enter Tryz.func5, Tryz.ntmps5
        go_wp2_with fail
        refine (hph w).mono ?_
        rintro e w0 ⟨rfl, rfl⟩
        go_wp2_with fail
        refine (hs1 w).mono ?_
        rintro e w1 ⟨rfl, hbn⟩
        have hb1 := hb0.trans (hbn.mono hb0.size)
        clear hbn hb0 k0
        go_wp2_with fail
        refine (hs2 w1).mono ?_
        rintro e w2 ⟨rfl, hbn⟩
        have hb2 := hb1.trans (hbn.mono hb1.size)
        have k2 := HKT.out w2 hb2
        clear hbn hb1
        go_wp2_with fail
        refine (hmk w2 k2).mono ?_
        rintro e w3 ⟨rfl, hbn⟩
        have hb3 := hb2.trans (hbn.mono hb2.size)
        have k3 := HKT.out w3 hb3
        clear hbn hb2
        go_wp2_with (go_at_call 10; refine (knum_any _ _).mono ?_; rintro e wn ⟨rfl, rfl⟩)
        refine (hul w3 k3).mono ?_
        rintro e w4 ⟨rfl, hbn⟩
        have hb4 := hb3.trans (hbn.mono hb3.size)
        have k4 := HKT.out w4 hb4
        clear hbn hb3
        go_wp2_with (go_at_call 10; refine (knum_any _ _).mono ?_; rintro e wn ⟨rfl, rfl⟩)
        refine (hdr w4 k4).mono ?_
        rintro e w5 ⟨rfl, hbn⟩
        have hb5 := hb4.trans (hbn.mono hb4.size)
        have k5 := HKT.out w5 hb5
        clear hbn hb4
        go_wp2_with (go_at_call 10; refine (knum_any _ _).mono ?_; rintro e wn ⟨rfl, rfl⟩)
        go_ret
        exact ⟨rfl, hb5⟩
      · rw [drop_slot hu0 (by omega)] at hdr
        generalize str p = yp at *
        generalize str t = yt at *
        have hb0 := Below.refl w.heap.size w
        have k0 := HKT.out w hb0
        go_enter Tryz.func5, Tryz.ntmps5
        go_wp2_with fail
        refine (hph w).mono ?_
        rintro e w0 ⟨rfl, rfl⟩
        go_wp2_with fail
        refine (hs1 w).mono ?_
        rintro e w1 ⟨rfl, hbn⟩
        have hb1 := hb0.trans (hbn.mono hb0.size)
        clear hbn hb0 k0
        go_wp2_with fail
        refine (hs2 w1).mono ?_
        rintro e w2 ⟨rfl, hbn⟩
        have hb2 := hb1.trans (hbn.mono hb1.size)
        have k2 := HKT.out w2 hb2
        clear hbn hb1
        go_wp2_with fail
        refine (hmk w2 k2).mono ?_
        rintro e w3 ⟨rfl, hbn⟩
        have hb3 := hb2.trans (hbn.mono hb2.size)
        have k3 := HKT.out w3 hb3
        clear hbn hb2
        go_wp2_with (go_at_call 10; refine (knum_any _ _).mono ?_; rintro e wn ⟨rfl, rfl⟩)
        refine (hul w3 k3).mono ?_
        rintro e w4 ⟨rfl, hbn⟩
        have hb4 := hb3.trans (hbn.mono hb3.size)
        have k4 := HKT.out w4 hb4
        clear hbn hb3
        go_wp2_with (go_at_call 10; refine (knum_any _ _).mono ?_; rintro e wn ⟨rfl, rfl⟩)
        refine (hdr w4 k4).mono ?_
        rintro e w5 ⟨rfl, hbn⟩
        have hb5 := hb4.trans (hbn.mono hb4.size)
        have k5 := HKT.out w5 hb5
        clear hbn hb4
        go_wp2_with (go_at_call 10; refine (knum_any _ _).mono ?_; rintro e wn ⟨rfl, rfl⟩)
        go_ret
        exact ⟨rfl, hb5⟩
    · have hcI : ¬ (coins.size : Int) = 40 := by omega
      rw [add_may (by rw [may_coins g2 hp0 hr (by omega)]; decide), may_coins g2 hp0 hr (by omega)] at had
      rw [may_coins g2 hp0 hr (by omega)] at hch
      by_cases hs0 : slot = 0
      · rw [drop_last hu0 (by omega) hS1] at hdr
        subst hs0
        generalize str p = yp at *
        generalize str t = yt at *
        have hb0 := Below.refl w.heap.size w
        have k0 := HKT.out w hb0
        go_enter Tryz.func5, Tryz.ntmps5
        go_wp2_with fail
        refine (hph w).mono ?_
        rintro e w0 ⟨rfl, rfl⟩
        go_wp2_with fail
        refine (hs1 w).mono ?_
        rintro e w1 ⟨rfl, hbn⟩
        have hb1 := hb0.trans (hbn.mono hb0.size)
        clear hbn hb0 k0
        go_wp2_with fail
        refine (hs2 w1).mono ?_
        rintro e w2 ⟨rfl, hbn⟩
        have hb2 := hb1.trans (hbn.mono hb1.size)
        have k2 := HKT.out w2 hb2
        clear hbn hb1
        go_wp2_with fail
        refine (hmk w2 k2).mono ?_
        rintro e w3 ⟨rfl, hbn⟩
        have hb3 := hb2.trans (hbn.mono hb2.size)
        have k3 := HKT.out w3 hb3
        clear hbn hb2
        go_wp2_with (go_at_call 10; refine (knum_any _ _).mono ?_; rintro e wn ⟨rfl, rfl⟩)
        refine (hul w3 k3).mono ?_
        rintro e w4 ⟨rfl, hbn⟩
        have hb4 := hb3.trans (hbn.mono hb3.size)
        have k4 := HKT.out w4 hb4
        clear hbn hb3
        go_wp2_with (go_at_call 10; refine (knum_any _ _).mono ?_; rintro e wn ⟨rfl, rfl⟩)
        refine (had w4 k4).mono ?_
        rintro e w5 ⟨rfl, hbn⟩
        have hb5 := hb4.trans (hbn.mono hb4.size)
        have k5 := HKT.out w5 hb5
        clear hbn hb4
        go_wp2_with (go_at_call 10; refine (knum_any _ _).mono ?_; rintro e wn ⟨rfl, rfl⟩)
        refine (hch w5 k5).mono ?_
        rintro e w6 ⟨rfl, hbn⟩
        have hb6 := hb5.trans (hbn.mono hb5.size)
        have k6 := HKT.out w6 hb6
        clear hbn hb5
        go_wp2_with (go_at_call 10; refine (knum_any _ _).mono ?_; rintro e wn ⟨rfl, rfl⟩)
        refine (had2 w6 k6).mono ?_
        rintro e w7 ⟨rfl, hbn⟩
        have hb7 := hb6.trans (hbn.mono hb6.size)
        have k7 := HKT.out w7 hb7
        clear hbn hb6
        go_wp2_with (go_at_call 10; refine (knum_any _ _).mono ?_; rintro e wn ⟨rfl, rfl⟩)
        refine (hdr w7 k7).mono ?_
        rintro e w8 ⟨rfl, hbn⟩
        have hb8 := hb7.trans (hbn.mono hb7.size)
        have k8 := HKT.out w8 hb8
        clear hbn hb7
        go_wp2_with (go_at_call 10; refine (knum_any _ _).mono ?_; rintro e wn ⟨rfl, rfl⟩)
        go_ret
        exact ⟨rfl, hb8⟩
      · rw [drop_slot hu0 (by omega)] at hdr
        generalize str p = yp at *
        generalize str t = yt at *
        have hb0 := Below.refl w.heap.size w
        have k0 := HKT.out w hb0
        go_enter Tryz.func5, Tryz.ntmps5
        go_wp2_with fail
        refine (hph w).mono ?_
        rintro e w0 ⟨rfl, rfl⟩
        go_wp2_with fail
        refine (hs1 w).mono ?_
        rintro e w1 ⟨rfl, hbn⟩
        have hb1 := hb0.trans (hbn.mono hb0.size)
        clear hbn hb0 k0
        go_wp2_with fail
        refine (hs2 w1).mono ?_
        rintro e w2 ⟨rfl, hbn⟩
        have hb2 := hb1.trans (hbn.mono hb1.size)
        have k2 := HKT.out w2 hb2
        clear hbn hb1
        go_wp2_with fail
        refine (hmk w2 k2).mono ?_
        rintro e w3 ⟨rfl, hbn⟩
        have hb3 := hb2.trans (hbn.mono hb2.size)
        have k3 := HKT.out w3 hb3
        clear hbn hb2
        go_wp2_with (go_at_call 10; refine (knum_any _ _).mono ?_; rintro e wn ⟨rfl, rfl⟩)
        refine (hul w3 k3).mono ?_
        rintro e w4 ⟨rfl, hbn⟩
        have hb4 := hb3.trans (hbn.mono hb3.size)
        have k4 := HKT.out w4 hb4
        clear hbn hb3
        go_wp2_with (go_at_call 10; refine (knum_any _ _).mono ?_; rintro e wn ⟨rfl, rfl⟩)
        refine (had w4 k4).mono ?_
        rintro e w5 ⟨rfl, hbn⟩
        have hb5 := hb4.trans (hbn.mono hb4.size)
        have k5 := HKT.out w5 hb5
        clear hbn hb4
        go_wp2_with (go_at_call 10; refine (knum_any _ _).mono ?_; rintro e wn ⟨rfl, rfl⟩)
        refine (hch w5 k5).mono ?_
        rintro e w6 ⟨rfl, hbn⟩
        have hb6 := hb5.trans (hbn.mono hb5.size)
        have k6 := HKT.out w6 hb6
        clear hbn hb5
        go_wp2_with (go_at_call 10; refine (knum_any _ _).mono ?_; rintro e wn ⟨rfl, rfl⟩)
        refine (had2 w6 k6).mono ?_
        rintro e w7 ⟨rfl, hbn⟩
        have hb7 := hb6.trans (hbn.mono hb6.size)
        have k7 := HKT.out w7 hb7
        clear hbn hb6
        go_wp2_with (go_at_call 10; refine (knum_any _ _).mono ?_; rintro e wn ⟨rfl, rfl⟩)
        refine (hdr w7 k7).mono ?_
        rintro e w8 ⟨rfl, hbn⟩
        have hb8 := hb7.trans (hbn.mono hb7.size)
        have k8 := HKT.out w8 hb8
        clear hbn hb7
        go_wp2_with (go_at_call 10; refine (knum_any _ _).mono ?_; rintro e wn ⟨rfl, rfl⟩)
        go_ret
        exact ⟨rfl, hb8⟩

end Go.Proofs.YtbjiamaaocjbfaaGreatDoor.Kr
