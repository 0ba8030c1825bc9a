import Derived.Test.YtggfeppphhigdabDoorRunA
import Derived.Test.YtggfeppphhigdabDoorScrP
namespace Go.Proofs.YtggfeppphhigdabDoor
open Go.RowKit Go.Lib Go.Deep

theorem size37 : (Tryd.prog.info? 37).map (·.size) = some 3 := by kernel_rfl
theorem Pair.lt {w : World} {key : ByteArray} {l : List UInt8} {o : Option (Nat × Nat)} (h : Pair w key l o) : ∀ k ∈ blks o, k < w.heap.size := by
  match o, h with
  | none, _ => intro k hk; simp [blks] at hk
  | some (p, q), ⟨_, h2, h3, _⟩ =>
    intro k hk
    simp [blks] at hk
    rcases hk with rfl | rfl
    · exact h2.lt
    · exact h3.lt

set_option maxRecDepth 20000 in
set_option maxHeartbeats 8000000 in
theorem polyRuns_walk (one two : ByteArray) (w : World) (hT : KTab w) (h1 : 0 < w.heap.size) (a : Option Addr) (len cap : Nat) (A : Nat → Int) (B : Nat → Bool) (S : Nat → ByteArray) (hL : IsOps w a len A B S) (hsm : sumS S len + len ≤ 1048576) :
    Calls Tryd.prog 4 #[.string one, .string two, .slice a len cap] w fun e w' => e = .returned (.bool true) ∧ Below w.heap.size w w' := by
  have HL : Hid (IsOps w a len A B S) := hL
  clear hL
  have HTT : Hid (∀ W, Below w.heap.size w W → KTab W ∧ 0 < W.heap.size) := fun W h => ⟨hT.below h h1, by have := h.size; omega⟩
  by_cases hk1 : one.size = 32
  · by_cases hk2 : two.size = 32
    · skip
      go_enter Tryd.func4, Tryd.ntmps4
      go_wp2_with fail
      refine (new_yes one hk1 w hT h1).mono ?_
      rintro e w1 ⟨⟨p1, rfl, hp1, hM1⟩, hb1⟩
      go_wp2_with fail
      refine (new_yes two hk2 w1 (HTT.out w1 hb1).1 (HTT.out w1 hb1).2).mono ?_
      rintro e w2 ⟨⟨p2, rfl, hp2, hM2⟩, hb2'⟩
      have hb2 := hb1.trans (hb2'.mono hb1.size)
      have hM1b := hM1.below hb2' hM1.lt
      have hp1b : p1 < w1.heap.size := hM1.lt
      go_wp2_with fail
      refine (r5new_yes one hk1 w2).mono ?_
      rintro e w3 ⟨rfl, hR1, hb3'⟩
      have hb3 := hb2.trans (hb3'.mono hb2.size)
      have hM1c := hM1b.below hb3' hM1b.lt
      have hp1c : p1 < w2.heap.size := hM1b.lt
      have hq1c : w2.heap.size < w3.heap.size := hR1.lt
      have hM2c := hM2.below hb3' hM2.lt
      have hp2c : p2 < w2.heap.size := hM2.lt
      go_wp2_with fail
      refine (r5new_yes two hk2 w3).mono ?_
      rintro e w4 ⟨rfl, hR2, hb4'⟩
      have hb4 := hb3.trans (hb4'.mono hb3.size)
      have zz1 := hb1.size
      have zz2 := hb2.size
      have zz3 := hb3.size
      have zz4 := hb3'.size
      have zz5 := hb2'.size
      have hM1d := hM1c.below hb4' hM1c.lt
      have hR1d := hR1.below hb4' hR1.lt
      generalize hq1 : w2.heap.size = q1 at *
      have hM2d := hM2c.below hb4' hM2c.lt
      generalize hq2 : w3.heap.size = q2 at *
      have H1 : Pair w4 one [] (some (p1, q1)) := ⟨hk1, hM1d, hR1d, by omega⟩
      have H2 : Pair w4 two [] (some (p2, q2)) := ⟨hk2, hM2d, hR2, by omega⟩
      have HG : Hid ((∀ k ∈ blks (some (p1, q1)), w.heap.size ≤ k) ∧ (∀ k ∈ blks (some (p2, q2)), w.heap.size ≤ k) ∧ (∀ k ∈ blks (some (p1, q1)), k ∉ blks (some (p2, q2))) ∧ (∀ k ∈ blks (some (p2, q2)), k ∉ blks (some (p1, q1)))) := ⟨(by intro k hk; simp [blks] at hk; rcases hk with rfl | rfl <;> omega), (by intro k hk; simp [blks] at hk; rcases hk with rfl | rfl <;> omega), by intro k hk h2; simp [blks] at hk h2; omega, by intro k hk h2; simp [blks] at hk h2; omega⟩
      clear hb1 hb2' hb2 hb3' hb3 hb4' hM1 hM1b hM1c hM1d hR1 hR1d hp1 hp1b hp1c hq1c hM2 hM2c hM2d hR2 hp2 hp2c
      have HST1 : Hid (∀ W l at0 ask text, Pair W one l (some (p1, q1)) → l.length + text.size ≤ 9223372036854775000 → (∀ k ∈ blks (some (p1, q1)), k < W.heap.size) → Calls Tryd.prog 10 #[.pointer (some ⟨p1, 0, none⟩), .pointer (some ⟨q1, 0, none⟩), .agg #[.int .i64 at0, .bool ask, .string text]] W fun e w' => e = .returned (.bool true) ∧ (∃ l', l'.length ≤ l.length + text.size ∧ Pair w' one l' (some (p1, q1))) ∧ Only (blks (some (p1, q1))) W w') := fun W l at0 ask text h hl ho => step_any one text at0 ask (some (p1, q1)) l W h hl ho
      have HST2 : Hid (∀ W l at0 ask text, Pair W two l (some (p2, q2)) → l.length + text.size ≤ 9223372036854775000 → (∀ k ∈ blks (some (p2, q2)), k < W.heap.size) → Calls Tryd.prog 10 #[.pointer (some ⟨p2, 0, none⟩), .pointer (some ⟨q2, 0, none⟩), .agg #[.int .i64 at0, .bool ask, .string text]] W fun e w' => e = .returned (.bool true) ∧ (∃ l', l'.length ≤ l.length + text.size ∧ Pair w' two l' (some (p2, q2))) ∧ Only (blks (some (p2, q2))) W w') := fun W l at0 ask text h hl ho => step_any two text at0 ask (some (p2, q2)) l W h hl ho
      have HSM1 : Hid (∀ W l, Pair W one l (some (p1, q1)) → l.length ≤ 9223372036854775000 → ∃ y : ByteArray, (∀ W, Pair W one l (some (p1, q1)) → Calls Tryd.prog 11 #[.pointer (some ⟨p1, 0, none⟩)] W fun e w' => e = .returned (.string y) ∧ Below W.heap.size W w') ∧ (∀ W, Pair W one l (some (p1, q1)) → Calls Tryd.prog 12 #[.pointer (some ⟨q1, 0, none⟩)] W fun e w' => e = .returned (.string y) ∧ Below W.heap.size W w')) := fun W l h hl => pair_sums h hl
      have HSM2 : Hid (∀ W l, Pair W two l (some (p2, q2)) → l.length ≤ 9223372036854775000 → ∃ y : ByteArray, (∀ W, Pair W two l (some (p2, q2)) → Calls Tryd.prog 11 #[.pointer (some ⟨p2, 0, none⟩)] W fun e w' => e = .returned (.string y) ∧ Below W.heap.size W w') ∧ (∀ W, Pair W two l (some (p2, q2)) → Calls Tryd.prog 12 #[.pointer (some ⟨q2, 0, none⟩)] W fun e w' => e = .returned (.string y) ∧ Below W.heap.size W w')) := fun W l h hl => pair_sums h hl
      have HLT : Hid (∀ W l, (Pair W one l (some (p1, q1)) → ∀ k ∈ blks (some (p1, q1)), k < W.heap.size) ∧ (Pair W two l (some (p2, q2)) → ∀ k ∈ blks (some (p2, q2)), k < W.heap.size)) := fun W l => ⟨Pair.lt, Pair.lt⟩
      have HPO : Hid (∀ W W' l, (Pair W two l (some (p2, q2)) → Only (blks (some (p1, q1))) W W' → Pair W' two l (some (p2, q2))) ∧ (Pair W one l (some (p1, q1)) → Only (blks (some (p2, q2))) W W' → Pair W' one l (some (p1, q1)))) := fun W W' l => ⟨fun h ho => h.only ho HG.out.2.2.2, fun h ho => h.only ho HG.out.2.2.1⟩
      have HPB : Hid (∀ W W' l, Below W.heap.size W W' → (Pair W two l (some (p2, q2)) → Pair W' two l (some (p2, q2))) ∧ (Pair W one l (some (p1, q1)) → Pair W' one l (some (p1, q1)))) := fun W W' l hb => ⟨fun h => h.below hb, fun h => h.below hb⟩
      have HBO : Hid (∀ W W', Below w.heap.size w W → (Only (blks (some (p1, q1))) W W' → Below w.heap.size w W') ∧ (Only (blks (some (p2, q2))) W W' → Below w.heap.size w W')) := fun W W' hb => ⟨fun h => hb.trans (h.below hb.size HG.out.1), fun h => hb.trans (h.below hb.size HG.out.2.1)⟩
      generalize hB1 : blks (some (p1, q1)) = B1 at *
      generalize hB2 : blks (some (p2, q2)) = B2 at *
      generalize hO1 : (some (p1, q1)) = O1 at H1 HST1 HSM1 HLT HPO HPB
      clear hB1 hB2 hO1
      generalize hO2 : (some (p2, q2)) = O2 at H2 HST2 HSM2 HLT HPO HPB
      clear hO2
      go_wp2_with (go_at_call 7; refine (num_any _ _).mono ?_; rintro e w5 ⟨rfl, rfl⟩)
      go_loopg [15] len (fun gk iv wr => ∃ (i : Nat) (l1 l2 : List UInt8), i + gk = len ∧ iv = .int .i64 i ∧ l1.length ≤ sumS S i ∧ l2.length ≤ sumS S i ∧ Pair wr one l1 O1 ∧ Pair wr two l2 O2 ∧ Below w.heap.size w wr)
      case atStart => exact ⟨0, [], [], by omega, rfl, Nat.zero_le _, Nat.zero_le _, H1, H2, hb4⟩
      case round =>
        clear H1 H2 hb4
        obtain ⟨i, l1, l2, hkk, rfl, hl1, hl2, H1, H2, hbel⟩ := hrel
        have HK : Hid (i + gk = len) := hkk
        have hi' : i ≤ len := by omega
        clear hkk
        have hsi := sumS_mono S hi'
        by_cases hlt : i < len
        · have hltI : (i : Int) < (len : Int) := by omega
          have hss : sumS S (i + 1) = sumS S i + (S i).size := rfl
          have hs1 := sumS_mono S (show i + 1 ≤ len by omega)
          obtain ⟨b, off, rfl, hbl, c0, c1, c2⟩ := HL.out i hlt
          have d0 := (hbel.cell (p := ⟨b, off + i * 3, none⟩) hbl).trans c0
          have hrg : wr.rangeAt b (off + i * 3) [.int .i64 (A i), .bool (B i), .string (S i)] := by
            intro j v hv
            match j, hv with
            | 0, hv => simp at hv; subst hv; exact d0
            | 1, hv => simp at hv; subst hv; exact (hbel.cell (p := ⟨b, off + i * 3 + 1, none⟩) hbl).trans c1
            | 2, hv => simp at hv; subst hv; exact (hbel.cell (p := ⟨b, off + i * 3 + 2, none⟩) hbl).trans c2
            | j + 3, hv => simp at hv
          clear c0 c1 c2
          by_cases hm : (A i).tmod 2 = 0
          · have hst := HST1.out wr l1 (A i) (B i) (S i) H1 (by omega) ((HLT.out wr l1).1 H1)
            go_wp2_with (refine wpList_load_mid rfl 37 (.tmp 78) rfl b (off + i * 3) rfl _ _ hrg Tryd.underlying37 rfl size37 ?_)
            refine hst.mono ?_
            rintro e w6 ⟨rfl, ⟨l', hl', H6⟩, hO6⟩
            have H7 := (HPO.out wr w6 l2).1 H2 hO6
            have hb7 := (HBO.out wr w6 hbel).1 hO6
            clear hst H1 H2 hbel hO6 hrg d0
            go_wp2
            go_roundg (gk - 1)
            case measure => have := HK.out; omega
            case rel => exact ⟨i + 1, l', l2, by have := HK.out; omega, by go_num, by omega, by omega, H6, H7, hb7⟩
          · have hst := HST2.out wr l2 (A i) (B i) (S i) H2 (by omega) ((HLT.out wr l2).2 H2)
            go_wp2_with (refine wpList_load_mid rfl 37 (.tmp 85) rfl b (off + i * 3) rfl _ _ hrg Tryd.underlying37 rfl size37 ?_)
            refine hst.mono ?_
            rintro e w6 ⟨rfl, ⟨l', hl', H6⟩, hO6⟩
            have H7 := (HPO.out wr w6 l1).2 H1 hO6
            have hb7 := (HBO.out wr w6 hbel).2 hO6
            clear hst H1 H2 hbel hO6 hrg d0
            go_wp2
            go_roundg (gk - 1)
            case measure => have := HK.out; omega
            case rel => exact ⟨i + 1, l1, l', by have := HK.out; omega, by go_num, by omega, by omega, H7, H6, hb7⟩
        · have hltI : ¬ (i : Int) < (len : Int) := by omega
          obtain ⟨y1, s1, s2⟩ := HSM1.out wr l1 H1 (by omega)
          obtain ⟨y2, t1, t2⟩ := HSM2.out wr l2 H2 (by omega)
          have T1 : Hid _ := t1
          have T2 : Hid _ := t2
          have S2 : Hid _ := s2
          have hs1 := s1 wr H1
          clear s1 s2 t1 t2 HSM1 HSM2 HST1 HST2 HLT HPO HBO HG HL
          go_wp2_with fail
          refine hs1.mono ?_
          rintro e w6 ⟨rfl, hb6'⟩
          have hb6 := hbel.trans (hb6'.mono hbel.size)
          have G1 := (HPB.out wr w6 l1 hb6').2 H1
          have G2 := (HPB.out wr w6 l2 hb6').1 H2
          clear hs1 hb6' hbel H1 H2
          have hs2 := S2.out w6 G1
          go_wp2_with fail
          refine hs2.mono ?_
          rintro e w7 ⟨rfl, hb7'⟩
          have hb7 := hb6.trans (hb7'.mono hb6.size)
          have F2 := (HPB.out w6 w7 l2 hb7').1 G2
          clear hs2 hb7' hb6 G1 G2 S2
          have ht1 := T1.out w7 F2
          go_wp2_with fail
          refine ht1.mono ?_
          rintro e w8 ⟨rfl, hb8'⟩
          have hb8 := hb7.trans (hb8'.mono hb7.size)
          have E2 := (HPB.out w7 w8 l2 hb8').1 F2
          clear ht1 hb8' hb7 F2 T1
          have ht2 := T2.out w8 E2
          go_wp2_with fail
          refine ht2.mono ?_
          rintro e w9 ⟨rfl, hb9'⟩
          have hb9 := hb8.trans (hb9'.mono hb8.size)
          clear ht2 hb9' hb8 E2 T2
          go_wp2
          go_ret
          exact ⟨by simp, hb9⟩
    · skip
      go_enter Tryd.func4, Tryd.ntmps4
      go_wp2_with fail
      refine (new_yes one hk1 w hT h1).mono ?_
      rintro e w1 ⟨⟨p1, rfl, hp1, hM1⟩, hb1⟩
      go_wp2_with fail
      refine (new_no two hk2 w1).mono ?_
      rintro e w2 ⟨rfl, hww⟩
      have hb2' : Below w1.heap.size w1 w2 := hww ▸ Below.refl _ _
      clear hww
      have hb2 := hb1.trans (hb2'.mono hb1.size)
      have hM1b := hM1.below hb2' hM1.lt
      have hp1b : p1 < w1.heap.size := hM1.lt
      go_wp2_with fail
      refine (r5new_yes one hk1 w2).mono ?_
      rintro e w3 ⟨rfl, hR1, hb3'⟩
      have hb3 := hb2.trans (hb3'.mono hb2.size)
      have hM1c := hM1b.below hb3' hM1b.lt
      have hp1c : p1 < w2.heap.size := hM1b.lt
      have hq1c : w2.heap.size < w3.heap.size := hR1.lt
      go_wp2_with fail
      refine (r5new_no two hk2 w3).mono ?_
      rintro e w4 ⟨rfl, hww⟩
      have hb4' : Below w3.heap.size w3 w4 := hww ▸ Below.refl _ _
      clear hww
      have hb4 := hb3.trans (hb4'.mono hb3.size)
      have zz1 := hb1.size
      have zz2 := hb2.size
      have zz3 := hb3.size
      have zz4 := hb3'.size
      have zz5 := hb2'.size
      have hM1d := hM1c.below hb4' hM1c.lt
      have hR1d := hR1.below hb4' hR1.lt
      generalize hq1 : w2.heap.size = q1 at *
      have H1 : Pair w4 one [] (some (p1, q1)) := ⟨hk1, hM1d, hR1d, by omega⟩
      have H2 : Pair w4 two [] none := trivial
      have HG : Hid ((∀ k ∈ blks (some (p1, q1)), w.heap.size ≤ k) ∧ (∀ k ∈ blks none, w.heap.size ≤ k) ∧ (∀ k ∈ blks (some (p1, q1)), k ∉ blks none) ∧ (∀ k ∈ blks none, k ∉ blks (some (p1, q1)))) := ⟨(by intro k hk; simp [blks] at hk; rcases hk with rfl | rfl <;> omega), (by intro k hk; simp [blks] at hk), by intro k hk h2; simp [blks] at hk h2, by intro k hk h2; simp [blks] at hk h2⟩
      clear hb1 hb2' hb2 hb3' hb3 hb4' hM1 hM1b hM1c hM1d hR1 hR1d hp1 hp1b hp1c hq1c
      have HST1 : Hid (∀ W l at0 ask text, Pair W one l (some (p1, q1)) → l.length + text.size ≤ 9223372036854775000 → (∀ k ∈ blks (some (p1, q1)), k < W.heap.size) → Calls Tryd.prog 10 #[.pointer (some ⟨p1, 0, none⟩), .pointer (some ⟨q1, 0, none⟩), .agg #[.int .i64 at0, .bool ask, .string text]] W fun e w' => e = .returned (.bool true) ∧ (∃ l', l'.length ≤ l.length + text.size ∧ Pair w' one l' (some (p1, q1))) ∧ Only (blks (some (p1, q1))) W w') := fun W l at0 ask text h hl ho => step_any one text at0 ask (some (p1, q1)) l W h hl ho
      have HST2 : Hid (∀ W l at0 ask text, Pair W two l none → l.length + text.size ≤ 9223372036854775000 → (∀ k ∈ blks none, k < W.heap.size) → Calls Tryd.prog 10 #[.pointer none, .pointer none, .agg #[.int .i64 at0, .bool ask, .string text]] W fun e w' => e = .returned (.bool true) ∧ (∃ l', l'.length ≤ l.length + text.size ∧ Pair w' two l' none) ∧ Only (blks none) W w') := fun W l at0 ask text h hl ho => step_any two text at0 ask none l W h hl ho
      have HSM1 : Hid (∀ W l, Pair W one l (some (p1, q1)) → l.length ≤ 9223372036854775000 → ∃ y : ByteArray, (∀ W, Pair W one l (some (p1, q1)) → Calls Tryd.prog 11 #[.pointer (some ⟨p1, 0, none⟩)] W fun e w' => e = .returned (.string y) ∧ Below W.heap.size W w') ∧ (∀ W, Pair W one l (some (p1, q1)) → Calls Tryd.prog 12 #[.pointer (some ⟨q1, 0, none⟩)] W fun e w' => e = .returned (.string y) ∧ Below W.heap.size W w')) := fun W l h hl => pair_sums h hl
      have HSM2 : Hid (∀ W l, Pair W two l none → l.length ≤ 9223372036854775000 → ∃ y : ByteArray, (∀ W, Pair W two l none → Calls Tryd.prog 11 #[.pointer none] W fun e w' => e = .returned (.string y) ∧ Below W.heap.size W w') ∧ (∀ W, Pair W two l none → Calls Tryd.prog 12 #[.pointer none] W fun e w' => e = .returned (.string y) ∧ Below W.heap.size W w')) := fun W l h hl => pair_sums h hl
      have HLT : Hid (∀ W l, (Pair W one l (some (p1, q1)) → ∀ k ∈ blks (some (p1, q1)), k < W.heap.size) ∧ (Pair W two l none → ∀ k ∈ blks none, k < W.heap.size)) := fun W l => ⟨Pair.lt, Pair.lt⟩
      have HPO : Hid (∀ W W' l, (Pair W two l none → Only (blks (some (p1, q1))) W W' → Pair W' two l none) ∧ (Pair W one l (some (p1, q1)) → Only (blks none) W W' → Pair W' one l (some (p1, q1)))) := fun W W' l => ⟨fun h ho => h.only ho HG.out.2.2.2, fun h ho => h.only ho HG.out.2.2.1⟩
      have HPB : Hid (∀ W W' l, Below W.heap.size W W' → (Pair W two l none → Pair W' two l none) ∧ (Pair W one l (some (p1, q1)) → Pair W' one l (some (p1, q1)))) := fun W W' l hb => ⟨fun h => h.below hb, fun h => h.below hb⟩
      have HBO : Hid (∀ W W', Below w.heap.size w W → (Only (blks (some (p1, q1))) W W' → Below w.heap.size w W') ∧ (Only (blks none) W W' → Below w.heap.size w W')) := fun W W' hb => ⟨fun h => hb.trans (h.below hb.size HG.out.1), fun h => hb.trans (h.below hb.size HG.out.2.1)⟩
      generalize hB1 : blks (some (p1, q1)) = B1 at *
      generalize hB2 : blks none = B2 at *
      generalize hO1 : (some (p1, q1)) = O1 at H1 HST1 HSM1 HLT HPO HPB
      clear hB1 hB2 hO1
      go_wp2_with (go_at_call 7; refine (num_any _ _).mono ?_; rintro e w5 ⟨rfl, rfl⟩)
      go_loopg [15] len (fun gk iv wr => ∃ (i : Nat) (l1 l2 : List UInt8), i + gk = len ∧ iv = .int .i64 i ∧ l1.length ≤ sumS S i ∧ l2.length ≤ sumS S i ∧ Pair wr one l1 O1 ∧ Pair wr two l2 none ∧ Below w.heap.size w wr)
      case atStart => exact ⟨0, [], [], by omega, rfl, Nat.zero_le _, Nat.zero_le _, H1, H2, hb4⟩
      case round =>
        clear H1 H2 hb4
        obtain ⟨i, l1, l2, hkk, rfl, hl1, hl2, H1, H2, hbel⟩ := hrel
        have HK : Hid (i + gk = len) := hkk
        have hi' : i ≤ len := by omega
        clear hkk
        have hsi := sumS_mono S hi'
        by_cases hlt : i < len
        · have hltI : (i : Int) < (len : Int) := by omega
          have hss : sumS S (i + 1) = sumS S i + (S i).size := rfl
          have hs1 := sumS_mono S (show i + 1 ≤ len by omega)
          obtain ⟨b, off, rfl, hbl, c0, c1, c2⟩ := HL.out i hlt
          have d0 := (hbel.cell (p := ⟨b, off + i * 3, none⟩) hbl).trans c0
          have hrg : wr.rangeAt b (off + i * 3) [.int .i64 (A i), .bool (B i), .string (S i)] := by
            intro j v hv
            match j, hv with
            | 0, hv => simp at hv; subst hv; exact d0
            | 1, hv => simp at hv; subst hv; exact (hbel.cell (p := ⟨b, off + i * 3 + 1, none⟩) hbl).trans c1
            | 2, hv => simp at hv; subst hv; exact (hbel.cell (p := ⟨b, off + i * 3 + 2, none⟩) hbl).trans c2
            | j + 3, hv => simp at hv
          clear c0 c1 c2
          by_cases hm : (A i).tmod 2 = 0
          · have hst := HST1.out wr l1 (A i) (B i) (S i) H1 (by omega) ((HLT.out wr l1).1 H1)
            go_wp2_with (refine wpList_load_mid rfl 37 (.tmp 78) rfl b (off + i * 3) rfl _ _ hrg Tryd.underlying37 rfl size37 ?_)
            refine hst.mono ?_
            rintro e w6 ⟨rfl, ⟨l', hl', H6⟩, hO6⟩
            have H7 := (HPO.out wr w6 l2).1 H2 hO6
            have hb7 := (HBO.out wr w6 hbel).1 hO6
            clear hst H1 H2 hbel hO6 hrg d0
            go_wp2
            go_roundg (gk - 1)
            case measure => have := HK.out; omega
            case rel => exact ⟨i + 1, l', l2, by have := HK.out; omega, by go_num, by omega, by omega, H6, H7, hb7⟩
          · have hst := HST2.out wr l2 (A i) (B i) (S i) H2 (by omega) ((HLT.out wr l2).2 H2)
            go_wp2_with (refine wpList_load_mid rfl 37 (.tmp 85) rfl b (off + i * 3) rfl _ _ hrg Tryd.underlying37 rfl size37 ?_)
            refine hst.mono ?_
            rintro e w6 ⟨rfl, ⟨l', hl', H6⟩, hO6⟩
            have H7 := (HPO.out wr w6 l1).2 H1 hO6
            have hb7 := (HBO.out wr w6 hbel).2 hO6
            clear hst H1 H2 hbel hO6 hrg d0
            go_wp2
            go_roundg (gk - 1)
            case measure => have := HK.out; omega
            case rel => exact ⟨i + 1, l1, l', by have := HK.out; omega, by go_num, by omega, by omega, H7, H6, hb7⟩
        · have hltI : ¬ (i : Int) < (len : Int) := by omega
          obtain ⟨y1, s1, s2⟩ := HSM1.out wr l1 H1 (by omega)
          obtain ⟨y2, t1, t2⟩ := HSM2.out wr l2 H2 (by omega)
          have T1 : Hid _ := t1
          have T2 : Hid _ := t2
          have S2 : Hid _ := s2
          have hs1 := s1 wr H1
          clear s1 s2 t1 t2 HSM1 HSM2 HST1 HST2 HLT HPO HBO HG HL
          go_wp2_with fail
          refine hs1.mono ?_
          rintro e w6 ⟨rfl, hb6'⟩
          have hb6 := hbel.trans (hb6'.mono hbel.size)
          have G1 := (HPB.out wr w6 l1 hb6').2 H1
          have G2 := (HPB.out wr w6 l2 hb6').1 H2
          clear hs1 hb6' hbel H1 H2
          have hs2 := S2.out w6 G1
          go_wp2_with fail
          refine hs2.mono ?_
          rintro e w7 ⟨rfl, hb7'⟩
          have hb7 := hb6.trans (hb7'.mono hb6.size)
          have F2 := (HPB.out w6 w7 l2 hb7').1 G2
          clear hs2 hb7' hb6 G1 G2 S2
          have ht1 := T1.out w7 F2
          go_wp2_with fail
          refine ht1.mono ?_
          rintro e w8 ⟨rfl, hb8'⟩
          have hb8 := hb7.trans (hb8'.mono hb7.size)
          have E2 := (HPB.out w7 w8 l2 hb8').1 F2
          clear ht1 hb8' hb7 F2 T1
          have ht2 := T2.out w8 E2
          go_wp2_with fail
          refine ht2.mono ?_
          rintro e w9 ⟨rfl, hb9'⟩
          have hb9 := hb8.trans (hb9'.mono hb8.size)
          clear ht2 hb9' hb8 E2 T2
          go_wp2
          go_ret
          exact ⟨by simp, hb9⟩
  · by_cases hk2 : two.size = 32
    · skip
      go_enter Tryd.func4, Tryd.ntmps4
      go_wp2_with fail
      refine (new_no one hk1 w).mono ?_
      rintro e w1 ⟨rfl, hww⟩
      have hb1 : Below w.heap.size w w1 := hww ▸ Below.refl _ _
      clear hww
      go_wp2_with fail
      refine (new_yes two hk2 w1 (HTT.out w1 hb1).1 (HTT.out w1 hb1).2).mono ?_
      rintro e w2 ⟨⟨p2, rfl, hp2, hM2⟩, hb2'⟩
      have hb2 := hb1.trans (hb2'.mono hb1.size)
      go_wp2_with fail
      refine (r5new_no one hk1 w2).mono ?_
      rintro e w3 ⟨rfl, hww⟩
      have hb3' : Below w2.heap.size w2 w3 := hww ▸ Below.refl _ _
      clear hww
      have hb3 := hb2.trans (hb3'.mono hb2.size)
      have hM2c := hM2.below hb3' hM2.lt
      have hp2c : p2 < w2.heap.size := hM2.lt
      go_wp2_with fail
      refine (r5new_yes two hk2 w3).mono ?_
      rintro e w4 ⟨rfl, hR2, hb4'⟩
      have hb4 := hb3.trans (hb4'.mono hb3.size)
      have zz1 := hb1.size
      have zz2 := hb2.size
      have zz3 := hb3.size
      have zz4 := hb3'.size
      have zz5 := hb2'.size
      have hM2d := hM2c.below hb4' hM2c.lt
      generalize hq2 : w3.heap.size = q2 at *
      have H1 : Pair w4 one [] none := trivial
      have H2 : Pair w4 two [] (some (p2, q2)) := ⟨hk2, hM2d, hR2, by omega⟩
      have HG : Hid ((∀ k ∈ blks none, w.heap.size ≤ k) ∧ (∀ k ∈ blks (some (p2, q2)), w.heap.size ≤ k) ∧ (∀ k ∈ blks none, k ∉ blks (some (p2, q2))) ∧ (∀ k ∈ blks (some (p2, q2)), k ∉ blks none)) := ⟨(by intro k hk; simp [blks] at hk), (by intro k hk; simp [blks] at hk; rcases hk with rfl | rfl <;> omega), by intro k hk h2; simp [blks] at hk h2, by intro k hk h2; simp [blks] at hk h2⟩
      clear hb1 hb2' hb2 hb3' hb3 hb4' hM2 hM2c hM2d hR2 hp2 hp2c
      have HST1 : Hid (∀ W l at0 ask text, Pair W one l none → l.length + text.size ≤ 9223372036854775000 → (∀ k ∈ blks none, k < W.heap.size) → Calls Tryd.prog 10 #[.pointer none, .pointer none, .agg #[.int .i64 at0, .bool ask, .string text]] W fun e w' => e = .returned (.bool true) ∧ (∃ l', l'.length ≤ l.length + text.size ∧ Pair w' one l' none) ∧ Only (blks none) W w') := fun W l at0 ask text h hl ho => step_any one text at0 ask none l W h hl ho
      have HST2 : Hid (∀ W l at0 ask text, Pair W two l (some (p2, q2)) → l.length + text.size ≤ 9223372036854775000 → (∀ k ∈ blks (some (p2, q2)), k < W.heap.size) → Calls Tryd.prog 10 #[.pointer (some ⟨p2, 0, none⟩), .pointer (some ⟨q2, 0, none⟩), .agg #[.int .i64 at0, .bool ask, .string text]] W fun e w' => e = .returned (.bool true) ∧ (∃ l', l'.length ≤ l.length + text.size ∧ Pair w' two l' (some (p2, q2))) ∧ Only (blks (some (p2, q2))) W w') := fun W l at0 ask text h hl ho => step_any two text at0 ask (some (p2, q2)) l W h hl ho
      have HSM1 : Hid (∀ W l, Pair W one l none → l.length ≤ 9223372036854775000 → ∃ y : ByteArray, (∀ W, Pair W one l none → Calls Tryd.prog 11 #[.pointer none] W fun e w' => e = .returned (.string y) ∧ Below W.heap.size W w') ∧ (∀ W, Pair W one l none → Calls Tryd.prog 12 #[.pointer none] W fun e w' => e = .returned (.string y) ∧ Below W.heap.size W w')) := fun W l h hl => pair_sums h hl
      have HSM2 : Hid (∀ W l, Pair W two l (some (p2, q2)) → l.length ≤ 9223372036854775000 → ∃ y : ByteArray, (∀ W, Pair W two l (some (p2, q2)) → Calls Tryd.prog 11 #[.pointer (some ⟨p2, 0, none⟩)] W fun e w' => e = .returned (.string y) ∧ Below W.heap.size W w') ∧ (∀ W, Pair W two l (some (p2, q2)) → Calls Tryd.prog 12 #[.pointer (some ⟨q2, 0, none⟩)] W fun e w' => e = .returned (.string y) ∧ Below W.heap.size W w')) := fun W l h hl => pair_sums h hl
      have HLT : Hid (∀ W l, (Pair W one l none → ∀ k ∈ blks none, k < W.heap.size) ∧ (Pair W two l (some (p2, q2)) → ∀ k ∈ blks (some (p2, q2)), k < W.heap.size)) := fun W l => ⟨Pair.lt, Pair.lt⟩
      have HPO : Hid (∀ W W' l, (Pair W two l (some (p2, q2)) → Only (blks none) W W' → Pair W' two l (some (p2, q2))) ∧ (Pair W one l none → Only (blks (some (p2, q2))) W W' → Pair W' one l none)) := fun W W' l => ⟨fun h ho => h.only ho HG.out.2.2.2, fun h ho => h.only ho HG.out.2.2.1⟩
      have HPB : Hid (∀ W W' l, Below W.heap.size W W' → (Pair W two l (some (p2, q2)) → Pair W' two l (some (p2, q2))) ∧ (Pair W one l none → Pair W' one l none)) := fun W W' l hb => ⟨fun h => h.below hb, fun h => h.below hb⟩
      have HBO : Hid (∀ W W', Below w.heap.size w W → (Only (blks none) W W' → Below w.heap.size w W') ∧ (Only (blks (some (p2, q2))) W W' → Below w.heap.size w W')) := fun W W' hb => ⟨fun h => hb.trans (h.below hb.size HG.out.1), fun h => hb.trans (h.below hb.size HG.out.2.1)⟩
      generalize hB1 : blks none = B1 at *
      generalize hB2 : blks (some (p2, q2)) = B2 at *
      have hO1 : (none : Option (Nat × Nat)) = none := rfl
      clear hB1 hB2 hO1
      generalize hO2 : (some (p2, q2)) = O2 at H2 HST2 HSM2 HLT HPO HPB
      clear hO2
      go_wp2_with (go_at_call 7; refine (num_any _ _).mono ?_; rintro e w5 ⟨rfl, rfl⟩)
      go_loopg [15] len (fun gk iv wr => ∃ (i : Nat) (l1 l2 : List UInt8), i + gk = len ∧ iv = .int .i64 i ∧ l1.length ≤ sumS S i ∧ l2.length ≤ sumS S i ∧ Pair wr one l1 none ∧ Pair wr two l2 O2 ∧ Below w.heap.size w wr)
      case atStart => exact ⟨0, [], [], by omega, rfl, Nat.zero_le _, Nat.zero_le _, H1, H2, hb4⟩
      case round =>
        clear H1 H2 hb4
        obtain ⟨i, l1, l2, hkk, rfl, hl1, hl2, H1, H2, hbel⟩ := hrel
        have HK : Hid (i + gk = len) := hkk
        have hi' : i ≤ len := by omega
        clear hkk
        have hsi := sumS_mono S hi'
        by_cases hlt : i < len
        · have hltI : (i : Int) < (len : Int) := by omega
          have hss : sumS S (i + 1) = sumS S i + (S i).size := rfl
          have hs1 := sumS_mono S (show i + 1 ≤ len by omega)
          obtain ⟨b, off, rfl, hbl, c0, c1, c2⟩ := HL.out i hlt
          have d0 := (hbel.cell (p := ⟨b, off + i * 3, none⟩) hbl).trans c0
          have hrg : wr.rangeAt b (off + i * 3) [.int .i64 (A i), .bool (B i), .string (S i)] := by
            intro j v hv
            match j, hv with
            | 0, hv => simp at hv; subst hv; exact d0
            | 1, hv => simp at hv; subst hv; exact (hbel.cell (p := ⟨b, off + i * 3 + 1, none⟩) hbl).trans c1
            | 2, hv => simp at hv; subst hv; exact (hbel.cell (p := ⟨b, off + i * 3 + 2, none⟩) hbl).trans c2
            | j + 3, hv => simp at hv
          clear c0 c1 c2
          by_cases hm : (A i).tmod 2 = 0
          · have hst := HST1.out wr l1 (A i) (B i) (S i) H1 (by omega) ((HLT.out wr l1).1 H1)
            go_wp2_with (refine wpList_load_mid rfl 37 (.tmp 78) rfl b (off + i * 3) rfl _ _ hrg Tryd.underlying37 rfl size37 ?_)
            refine hst.mono ?_
            rintro e w6 ⟨rfl, ⟨l', hl', H6⟩, hO6⟩
            have H7 := (HPO.out wr w6 l2).1 H2 hO6
            have hb7 := (HBO.out wr w6 hbel).1 hO6
            clear hst H1 H2 hbel hO6 hrg d0
            go_wp2
            go_roundg (gk - 1)
            case measure => have := HK.out; omega
            case rel => exact ⟨i + 1, l', l2, by have := HK.out; omega, by go_num, by omega, by omega, H6, H7, hb7⟩
          · have hst := HST2.out wr l2 (A i) (B i) (S i) H2 (by omega) ((HLT.out wr l2).2 H2)
            go_wp2_with (refine wpList_load_mid rfl 37 (.tmp 85) rfl b (off + i * 3) rfl _ _ hrg Tryd.underlying37 rfl size37 ?_)
            refine hst.mono ?_
            rintro e w6 ⟨rfl, ⟨l', hl', H6⟩, hO6⟩
            have H7 := (HPO.out wr w6 l1).2 H1 hO6
            have hb7 := (HBO.out wr w6 hbel).2 hO6
            clear hst H1 H2 hbel hO6 hrg d0
            go_wp2
            go_roundg (gk - 1)
            case measure => have := HK.out; omega
            case rel => exact ⟨i + 1, l1, l', by have := HK.out; omega, by go_num, by omega, by omega, H7, H6, hb7⟩
        · have hltI : ¬ (i : Int) < (len : Int) := by omega
          obtain ⟨y1, s1, s2⟩ := HSM1.out wr l1 H1 (by omega)
          obtain ⟨y2, t1, t2⟩ := HSM2.out wr l2 H2 (by omega)
          have T1 : Hid _ := t1
          have T2 : Hid _ := t2
          have S2 : Hid _ := s2
          have hs1 := s1 wr H1
          clear s1 s2 t1 t2 HSM1 HSM2 HST1 HST2 HLT HPO HBO HG HL
          go_wp2_with fail
          refine hs1.mono ?_
          rintro e w6 ⟨rfl, hb6'⟩
          have hb6 := hbel.trans (hb6'.mono hbel.size)
          have G1 := (HPB.out wr w6 l1 hb6').2 H1
          have G2 := (HPB.out wr w6 l2 hb6').1 H2
          clear hs1 hb6' hbel H1 H2
          have hs2 := S2.out w6 G1
          go_wp2_with fail
          refine hs2.mono ?_
          rintro e w7 ⟨rfl, hb7'⟩
          have hb7 := hb6.trans (hb7'.mono hb6.size)
          have F2 := (HPB.out w6 w7 l2 hb7').1 G2
          clear hs2 hb7' hb6 G1 G2 S2
          have ht1 := T1.out w7 F2
          go_wp2_with fail
          refine ht1.mono ?_
          rintro e w8 ⟨rfl, hb8'⟩
          have hb8 := hb7.trans (hb8'.mono hb7.size)
          have E2 := (HPB.out w7 w8 l2 hb8').1 F2
          clear ht1 hb8' hb7 F2 T1
          have ht2 := T2.out w8 E2
          go_wp2_with fail
          refine ht2.mono ?_
          rintro e w9 ⟨rfl, hb9'⟩
          have hb9 := hb8.trans (hb9'.mono hb8.size)
          clear ht2 hb9' hb8 E2 T2
          go_wp2
          go_ret
          exact ⟨by simp, hb9⟩
    · skip
      go_enter Tryd.func4, Tryd.ntmps4
      go_wp2_with fail
      refine (new_no one hk1 w).mono ?_
      rintro e w1 ⟨rfl, hww⟩
      have hb1 : Below w.heap.size w w1 := hww ▸ Below.refl _ _
      clear hww
      go_wp2_with fail
      refine (new_no two hk2 w1).mono ?_
      rintro e w2 ⟨rfl, hww⟩
      have hb2' : Below w1.heap.size w1 w2 := hww ▸ Below.refl _ _
      clear hww
      have hb2 := hb1.trans (hb2'.mono hb1.size)
      go_wp2_with fail
      refine (r5new_no one hk1 w2).mono ?_
      rintro e w3 ⟨rfl, hww⟩
      have hb3' : Below w2.heap.size w2 w3 := hww ▸ Below.refl _ _
      clear hww
      have hb3 := hb2.trans (hb3'.mono hb2.size)
      go_wp2_with fail
      refine (r5new_no two hk2 w3).mono ?_
      rintro e w4 ⟨rfl, hww⟩
      have hb4' : Below w3.heap.size w3 w4 := hww ▸ Below.refl _ _
      clear hww
      have hb4 := hb3.trans (hb4'.mono hb3.size)
      have zz1 := hb1.size
      have zz2 := hb2.size
      have zz3 := hb3.size
      have zz4 := hb3'.size
      have zz5 := hb2'.size
      have H1 : Pair w4 one [] none := trivial
      have H2 : Pair w4 two [] none := trivial
      have HG : Hid ((∀ k ∈ blks none, w.heap.size ≤ k) ∧ (∀ k ∈ blks none, w.heap.size ≤ k) ∧ (∀ k ∈ blks none, k ∉ blks none) ∧ (∀ k ∈ blks none, k ∉ blks none)) := ⟨(by intro k hk; simp [blks] at hk), (by intro k hk; simp [blks] at hk), by intro k hk h2; simp [blks] at hk h2, by intro k hk h2; simp [blks] at hk h2⟩
      clear hb1 hb2' hb2 hb3' hb3 hb4'
      have HST1 : Hid (∀ W l at0 ask text, Pair W one l none → l.length + text.size ≤ 9223372036854775000 → (∀ k ∈ blks none, k < W.heap.size) → Calls Tryd.prog 10 #[.pointer none, .pointer none, .agg #[.int .i64 at0, .bool ask, .string text]] W fun e w' => e = .returned (.bool true) ∧ (∃ l', l'.length ≤ l.length + text.size ∧ Pair w' one l' none) ∧ Only (blks none) W w') := fun W l at0 ask text h hl ho => step_any one text at0 ask none l W h hl ho
      have HST2 : Hid (∀ W l at0 ask text, Pair W two l none → l.length + text.size ≤ 9223372036854775000 → (∀ k ∈ blks none, k < W.heap.size) → Calls Tryd.prog 10 #[.pointer none, .pointer none, .agg #[.int .i64 at0, .bool ask, .string text]] W fun e w' => e = .returned (.bool true) ∧ (∃ l', l'.length ≤ l.length + text.size ∧ Pair w' two l' none) ∧ Only (blks none) W w') := fun W l at0 ask text h hl ho => step_any two text at0 ask none l W h hl ho
      have HSM1 : Hid (∀ W l, Pair W one l none → l.length ≤ 9223372036854775000 → ∃ y : ByteArray, (∀ W, Pair W one l none → Calls Tryd.prog 11 #[.pointer none] W fun e w' => e = .returned (.string y) ∧ Below W.heap.size W w') ∧ (∀ W, Pair W one l none → Calls Tryd.prog 12 #[.pointer none] W fun e w' => e = .returned (.string y) ∧ Below W.heap.size W w')) := fun W l h hl => pair_sums h hl
      have HSM2 : Hid (∀ W l, Pair W two l none → l.length ≤ 9223372036854775000 → ∃ y : ByteArray, (∀ W, Pair W two l none → Calls Tryd.prog 11 #[.pointer none] W fun e w' => e = .returned (.string y) ∧ Below W.heap.size W w') ∧ (∀ W, Pair W two l none → Calls Tryd.prog 12 #[.pointer none] W fun e w' => e = .returned (.string y) ∧ Below W.heap.size W w')) := fun W l h hl => pair_sums h hl
      have HLT : Hid (∀ W l, (Pair W one l none → ∀ k ∈ blks none, k < W.heap.size) ∧ (Pair W two l none → ∀ k ∈ blks none, k < W.heap.size)) := fun W l => ⟨Pair.lt, Pair.lt⟩
      have HPO : Hid (∀ W W' l, (Pair W two l none → Only (blks none) W W' → Pair W' two l none) ∧ (Pair W one l none → Only (blks none) W W' → Pair W' one l none)) := fun W W' l => ⟨fun h ho => h.only ho HG.out.2.2.2, fun h ho => h.only ho HG.out.2.2.1⟩
      have HPB : Hid (∀ W W' l, Below W.heap.size W W' → (Pair W two l none → Pair W' two l none) ∧ (Pair W one l none → Pair W' one l none)) := fun W W' l hb => ⟨fun h => h.below hb, fun h => h.below hb⟩
      have HBO : Hid (∀ W W', Below w.heap.size w W → (Only (blks none) W W' → Below w.heap.size w W') ∧ (Only (blks none) W W' → Below w.heap.size w W')) := fun W W' hb => ⟨fun h => hb.trans (h.below hb.size HG.out.1), fun h => hb.trans (h.below hb.size HG.out.2.1)⟩
      generalize hB1 : blks none = B1 at *
      generalize hB2 : blks none = B2 at *
      have hO1 : (none : Option (Nat × Nat)) = none := rfl
      clear hB1 hB2 hO1
      go_wp2_with (go_at_call 7; refine (num_any _ _).mono ?_; rintro e w5 ⟨rfl, rfl⟩)
      go_loopg [15] len (fun gk iv wr => ∃ (i : Nat) (l1 l2 : List UInt8), i + gk = len ∧ iv = .int .i64 i ∧ l1.length ≤ sumS S i ∧ l2.length ≤ sumS S i ∧ Pair wr one l1 none ∧ Pair wr two l2 none ∧ Below w.heap.size w wr)
      case atStart => exact ⟨0, [], [], by omega, rfl, Nat.zero_le _, Nat.zero_le _, H1, H2, hb4⟩
      case round =>
        clear H1 H2 hb4
        obtain ⟨i, l1, l2, hkk, rfl, hl1, hl2, H1, H2, hbel⟩ := hrel
        have HK : Hid (i + gk = len) := hkk
        have hi' : i ≤ len := by omega
        clear hkk
        have hsi := sumS_mono S hi'
        by_cases hlt : i < len
        · have hltI : (i : Int) < (len : Int) := by omega
          have hss : sumS S (i + 1) = sumS S i + (S i).size := rfl
          have hs1 := sumS_mono S (show i + 1 ≤ len by omega)
          obtain ⟨b, off, rfl, hbl, c0, c1, c2⟩ := HL.out i hlt
          have d0 := (hbel.cell (p := ⟨b, off + i * 3, none⟩) hbl).trans c0
          have hrg : wr.rangeAt b (off + i * 3) [.int .i64 (A i), .bool (B i), .string (S i)] := by
            intro j v hv
            match j, hv with
            | 0, hv => simp at hv; subst hv; exact d0
            | 1, hv => simp at hv; subst hv; exact (hbel.cell (p := ⟨b, off + i * 3 + 1, none⟩) hbl).trans c1
            | 2, hv => simp at hv; subst hv; exact (hbel.cell (p := ⟨b, off + i * 3 + 2, none⟩) hbl).trans c2
            | j + 3, hv => simp at hv
          clear c0 c1 c2
          by_cases hm : (A i).tmod 2 = 0
          · have hst := HST1.out wr l1 (A i) (B i) (S i) H1 (by omega) ((HLT.out wr l1).1 H1)
            go_wp2_with (refine wpList_load_mid rfl 37 (.tmp 78) rfl b (off + i * 3) rfl _ _ hrg Tryd.underlying37 rfl size37 ?_)
            refine hst.mono ?_
            rintro e w6 ⟨rfl, ⟨l', hl', H6⟩, hO6⟩
            have H7 := (HPO.out wr w6 l2).1 H2 hO6
            have hb7 := (HBO.out wr w6 hbel).1 hO6
            clear hst H1 H2 hbel hO6 hrg d0
            go_wp2
            go_roundg (gk - 1)
            case measure => have := HK.out; omega
            case rel => exact ⟨i + 1, l', l2, by have := HK.out; omega, by go_num, by omega, by omega, H6, H7, hb7⟩
          · have hst := HST2.out wr l2 (A i) (B i) (S i) H2 (by omega) ((HLT.out wr l2).2 H2)
            go_wp2_with (refine wpList_load_mid rfl 37 (.tmp 85) rfl b (off + i * 3) rfl _ _ hrg Tryd.underlying37 rfl size37 ?_)
            refine hst.mono ?_
            rintro e w6 ⟨rfl, ⟨l', hl', H6⟩, hO6⟩
            have H7 := (HPO.out wr w6 l1).2 H1 hO6
            have hb7 := (HBO.out wr w6 hbel).2 hO6
            clear hst H1 H2 hbel hO6 hrg d0
            go_wp2
            go_roundg (gk - 1)
            case measure => have := HK.out; omega
            case rel => exact ⟨i + 1, l1, l', by have := HK.out; omega, by go_num, by omega, by omega, H7, H6, hb7⟩
        · have hltI : ¬ (i : Int) < (len : Int) := by omega
          obtain ⟨y1, s1, s2⟩ := HSM1.out wr l1 H1 (by omega)
          obtain ⟨y2, t1, t2⟩ := HSM2.out wr l2 H2 (by omega)
          have T1 : Hid _ := t1
          have T2 : Hid _ := t2
          have S2 : Hid _ := s2
          have hs1 := s1 wr H1
          clear s1 s2 t1 t2 HSM1 HSM2 HST1 HST2 HLT HPO HBO HG HL
          go_wp2_with fail
          refine hs1.mono ?_
          rintro e w6 ⟨rfl, hb6'⟩
          have hb6 := hbel.trans (hb6'.mono hbel.size)
          have G1 := (HPB.out wr w6 l1 hb6').2 H1
          have G2 := (HPB.out wr w6 l2 hb6').1 H2
          clear hs1 hb6' hbel H1 H2
          have hs2 := S2.out w6 G1
          go_wp2_with fail
          refine hs2.mono ?_
          rintro e w7 ⟨rfl, hb7'⟩
          have hb7 := hb6.trans (hb7'.mono hb6.size)
          have F2 := (HPB.out w6 w7 l2 hb7').1 G2
          clear hs2 hb7' hb6 G1 G2 S2
          have ht1 := T1.out w7 F2
          go_wp2_with fail
          refine ht1.mono ?_
          rintro e w8 ⟨rfl, hb8'⟩
          have hb8 := hb7.trans (hb8'.mono hb7.size)
          have E2 := (HPB.out w7 w8 l2 hb8').1 F2
          clear ht1 hb8' hb7 F2 T1
          have ht2 := T2.out w8 E2
          go_wp2_with fail
          refine ht2.mono ?_
          rintro e w9 ⟨rfl, hb9'⟩
          have hb9 := hb8.trans (hb9'.mono hb8.size)
          clear ht2 hb9' hb8 E2 T2
          go_wp2
          go_ret
          exact ⟨by simp, hb9⟩

end Go.Proofs.YtggfeppphhigdabDoor
