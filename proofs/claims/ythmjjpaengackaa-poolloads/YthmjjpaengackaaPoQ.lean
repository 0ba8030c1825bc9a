import Derived.Test.YthmjjpaengackaaPoP
namespace Go.Proofs.Ythmjjpaengackaa.Po
open Go.RowKit Go.Lib Go.Deep

set_option maxRecDepth 20000 in
set_option maxHeartbeats 1000000 in
theorem asg_any (w : World) (pb q : Nat) (F : List Nat) (nn : Nat) (S : Ps) (i f : Int) (hK : Ok w pb q F nn S) : Calls Try.prog 15 #[.pointer (some ⟨pb, 0, none⟩), .int .i64 i, .int .i64 f] w fun e w' => e = .returned (.int .i64 (asgE S i f)) ∧ Turn F w w' q (nn + 1) (asgS S i f) := by
  have hf := fault_ok hK i
  have c0 := hK.top.cell
  by_cases h1 : rowN S i
  · rw [show faultE S i = 0 from if_pos h1] at hf
    have hfi := isFile_any w q F nn S f hK.lay
    by_cases h2 : fileN S f
    · rw [show decide (fileN S f) = true from decide_eq_true h2] at hfi
      obtain ⟨j, rfl, hi⟩ := row_of h1
      have hKL := hK.lay
      obtain ⟨rv, mv, oa, na, room, h, rfl, hI⟩ := hK.lay
      obtain ⟨g, cap, rfl⟩ := hI.form hi
      obtain ⟨-, c1, -⟩ := hI.cells
      obtain ⟨r0, r1, r2, r3, r4⟩ := hI.row hi
      have hlt : (j : Int) < (S.R.length : Int) := by have := some_lt hi; omega
      have hout := isOut_any (rowAt S (j : Int)) (decide (j ∈ S.Q)) w
      have hbo : (decide ((rowAt S (j : Int)).ow = -1) && !decide (j ∈ S.Q)) = outL S (j : Int) := by unfold outL; rw [Int.toNat_natCast]
      rw [hbo] at hout
      have HH : Hid (∀ V, Below w.heap.size w V → V.cell? ⟨pb, 0, none⟩ = some (.pointer (some ⟨q, 0, none⟩)) ∧ Calls Try.prog 33 #[.pointer (some ⟨q, 0, none⟩), .int .i64 f] V fun e w' => e = .returned (.bool (heldL S.R f)) ∧ w' = V) := fun V hb => ⟨(hK.top.below hb).cell, isHeld_any V q _ nn S f (hKL.below hb) h2⟩
      by_cases h3 : outL S (j : Int) = true
      · rw [h3] at hout
        by_cases h4 : heldL S.R f = false
        · have e1 : asgE S (j : Int) f = 0 := by unfold asgE; rw [if_pos h1, if_pos h2, if_pos ⟨h3, h4⟩]
          have e2 : asgS S (j : Int) f = putP S j (owO (rowAt S (j : Int)) f) := by unfold asgS; rw [if_pos e1, Int.toNat_natCast]
          rw [e1, e2]
          have HP : Hid (∀ V, Below w.heap.size w V → V.cell? ⟨pb, 0, none⟩ = some (.pointer (some ⟨q, 0, none⟩)) ∧ Calls Try.prog 34 #[.pointer (some ⟨q, 0, none⟩), .int .i64 (j : Int), .int .i64 f] V fun e w' => e = .returned (.tuple #[]) ∧ Hid (Turn (fp q (.slice (some ⟨g, 0, none⟩) S.R.length cap) mv oa na) w w' q (nn + 1) (putP S j (owO (rowAt S (j : Int)) f)))) := fun V hb => by
            refine ⟨(hK.top.below hb).cell, (give_any V q _ nn S j _ f (hKL.below hb) hK.good hK.nn hi ?_ (fun _ k o _ ho => held_no h4 k o ho)).mono ?_⟩
            · have := hI.lim
              unfold fileN at h2
              omega
            · rintro e w' ⟨rfl, hT⟩
              exact ⟨rfl, Turn.ahead hb hT⟩
          simp only [h4] at HH
          generalize hg1 : putP S j (owO (rowAt S (j : Int)) f) = S2 at *
          generalize rowAt S (j : Int) = o at *
          generalize S.R.length = N at *
          obtain ⟨nm, tg, bk, ow⟩ := o
          dsimp only at *
          clear hI hi h1 hK hKL hbo h2 e1 e2 h3 h4 hg1
          go_enter Try.func15, Try.ntmps15
          go_wp2_with (first
            | (go_at_call 29; refine hout.mono ?_; rintro e w3 ⟨rfl, hb3⟩; obtain ⟨d0, hpu⟩ := HP.out w3 hb3; obtain ⟨-, hhe⟩ := HH.out w3 hb3; clear hb3 HP HH)
            | (go_at_call 28; refine hf.mono ?_; rintro e w2 ⟨rfl, rfl⟩)
            | (go_at_call 32; refine hfi.mono ?_; rintro e w2 ⟨rfl, rfl⟩)
            | (go_at_call 33; refine hhe.mono ?_; rintro e w2 ⟨rfl, rfl⟩)
            | (go_at_call 34; refine hpu.mono ?_; rintro e w4 ⟨rfl, HT⟩))
          go_ret
          exact ⟨rfl, HT.out⟩
        · have e1 : asgE S (j : Int) f = 132 := by unfold asgE; rw [if_pos h1, if_pos h2, if_neg (fun x => h4 x.2)]
          have e2 : asgS S (j : Int) f = S := by unfold asgS; rw [e1, if_neg (by decide)]
          rw [e1, e2]
          rw [Bool.not_eq_false] at h4
          simp only [h4] at HH
          have HP : Hid (∀ V, Below w.heap.size w V → Turn (fp q (.slice (some ⟨g, 0, none⟩) S.R.length cap) mv oa na) w V q (nn + 1) S) := fun V hb => (hKL.turn hb).up (Nat.le_succ _)
          generalize rowAt S (j : Int) = o at *
          generalize S.R.length = N at *
          obtain ⟨nm, tg, bk, ow⟩ := o
          dsimp only at *
          clear hI hi h1 hK hKL hbo h2 e1 e2 h3 h4
          go_enter Try.func15, Try.ntmps15
          go_wp2_with (first
            | (go_at_call 29; refine hout.mono ?_; rintro e w3 ⟨rfl, hb3⟩; have HT : Hid _ := HP.out w3 hb3; obtain ⟨d0, hhe⟩ := HH.out w3 hb3; clear hb3 HP HH)
            | (go_at_call 28; refine hf.mono ?_; rintro e w2 ⟨rfl, rfl⟩)
            | (go_at_call 32; refine hfi.mono ?_; rintro e w2 ⟨rfl, rfl⟩)
            | (go_at_call 33; refine hhe.mono ?_; rintro e w2 ⟨rfl, rfl⟩))
          go_ret
          exact ⟨rfl, HT.out⟩
      · have e1 : asgE S (j : Int) f = 132 := by unfold asgE; rw [if_pos h1, if_pos h2, if_neg (fun x => h3 x.1)]
        have e2 : asgS S (j : Int) f = S := by unfold asgS; rw [e1, if_neg (by decide)]
        rw [e1, e2]
        rw [Bool.not_eq_true] at h3
        rw [h3] at hout
        have HP : Hid (∀ V, Below w.heap.size w V → Turn (fp q (.slice (some ⟨g, 0, none⟩) S.R.length cap) mv oa na) w V q (nn + 1) S) := fun V hb => (hKL.turn hb).up (Nat.le_succ _)
        generalize rowAt S (j : Int) = o at *
        generalize S.R.length = N at *
        obtain ⟨nm, tg, bk, ow⟩ := o
        dsimp only at *
        clear hI hi h1 hK hKL hbo h2 e1 e2 h3 HH
        go_enter Try.func15, Try.ntmps15
        go_wp2_with (first
          | (go_at_call 29; refine hout.mono ?_; rintro e w3 ⟨rfl, hb3⟩; have HT : Hid _ := HP.out w3 hb3; clear hb3 HP)
          | (go_at_call 28; refine hf.mono ?_; rintro e w2 ⟨rfl, rfl⟩)
          | (go_at_call 32; refine hfi.mono ?_; rintro e w2 ⟨rfl, rfl⟩))
        go_ret
        exact ⟨rfl, HT.out⟩
    · rw [show decide (fileN S f) = false from decide_eq_false h2] at hfi
      have e1 : asgE S i f = 1 := by unfold asgE; rw [if_pos h1, if_neg h2]
      have e2 : asgS S i f = S := by unfold asgS; rw [e1, if_neg (by decide)]
      rw [e1, e2]
      have HT : Hid (Turn F w w q (nn + 1) S) := (hK.lay.turn (Below.refl _ _)).up (Nat.le_succ _)
      clear hK h1 h2 e1 e2
      go_enter Try.func15, Try.ntmps15
      go_wp2_with (first
        | (go_at_call 28; refine hf.mono ?_; rintro e w2 ⟨rfl, rfl⟩)
        | (go_at_call 32; refine hfi.mono ?_; rintro e w2 ⟨rfl, rfl⟩))
      go_ret
      exact ⟨rfl, HT.out⟩
  · rw [show faultE S i = 131 from if_neg h1] at hf
    have e1 : asgE S i f = 131 := by unfold asgE; rw [if_neg h1]
    have e2 : asgS S i f = S := by unfold asgS; rw [e1, if_neg (by decide)]
    rw [e1, e2]
    have HT : Hid (Turn F w w q (nn + 1) S) := (hK.lay.turn (Below.refl _ _)).up (Nat.le_succ _)
    clear hK h1 e1 e2
    go_enter Try.func15, Try.ntmps15
    go_wp2_with (go_at_call 28; refine hf.mono ?_; rintro e w2 ⟨rfl, rfl⟩)
    go_ret
    exact ⟨rfl, HT.out⟩
set_option maxRecDepth 20000 in
set_option maxHeartbeats 1000000 in
theorem rel_any (w : World) (pb q : Nat) (F : List Nat) (nn : Nat) (S : Ps) (i : Int) (hK : Ok w pb q F nn S) : Calls Try.prog 16 #[.pointer (some ⟨pb, 0, none⟩), .int .i64 i] w fun e w' => e = .returned (.int .i64 (relE S i)) ∧ Turn F w w' q (nn + 1) (relS S i) := by
  have hf := fault_ok hK i
  have c0 := hK.top.cell
  by_cases h1 : rowN S i
  · rw [show faultE S i = 0 from if_pos h1] at hf
    obtain ⟨j, rfl, hi⟩ := row_of h1
    have hKL := hK.lay
    obtain ⟨rv, mv, oa, na, room, h, rfl, hI⟩ := hK.lay
    obtain ⟨g, cap, rfl⟩ := hI.form hi
    obtain ⟨-, c1, -⟩ := hI.cells
    obtain ⟨r0, r1, r2, r3, r4⟩ := hI.row hi
    have hlt : (j : Int) < (S.R.length : Int) := by have := some_lt hi; omega
    have hdu := isDummy_any (rowAt S (j : Int)) (decide (j ∈ S.Q)) w
    generalize decide (j ∈ S.Q) = bq at *
    by_cases h3 : (rowAt S (j : Int)).ow = -1
    · rw [decide_eq_true h3] at hdu
      have e1 : relE S (j : Int) = 132 := by unfold relE; rw [if_pos h1, if_pos h3]
      have e2 : relS S (j : Int) = S := by unfold relS; rw [e1, if_neg (by decide)]
      rw [e1, e2]
      have HP : Hid (∀ V, Below w.heap.size w V → Turn (fp q (.slice (some ⟨g, 0, none⟩) S.R.length cap) mv oa na) w V q (nn + 1) S) := fun V hb => (hKL.turn hb).up (Nat.le_succ _)
      generalize rowAt S (j : Int) = o at *
      generalize S.R.length = N at *
      obtain ⟨nm, tg, bk, ow⟩ := o
      dsimp only at *
      clear hI hi h1 hK hKL e1 e2 h3
      go_enter Try.func16, Try.ntmps16
      go_wp2_with (first
        | (go_at_call 35; refine hdu.mono ?_; rintro e w3 ⟨rfl, hb3⟩; have HT : Hid _ := HP.out w3 hb3; clear hb3 HP)
        | (go_at_call 28; refine hf.mono ?_; rintro e w2 ⟨rfl, rfl⟩))
      go_ret
      exact ⟨rfl, HT.out⟩
    · rw [decide_eq_false h3] at hdu
      have e1 : relE S (j : Int) = 0 := by unfold relE; rw [if_pos h1, if_neg h3]
      have e2 : relS S (j : Int) = putP S j (owO (rowAt S (j : Int)) (-1)) := by unfold relS; rw [if_pos e1, Int.toNat_natCast]
      rw [e1, e2]
      have HP : Hid (∀ V, Below w.heap.size w V → V.cell? ⟨pb, 0, none⟩ = some (.pointer (some ⟨q, 0, none⟩)) ∧ Calls Try.prog 34 #[.pointer (some ⟨q, 0, none⟩), .int .i64 (j : Int), .int .i64 (-1)] V fun e w' => e = .returned (.tuple #[]) ∧ Hid (Turn (fp q (.slice (some ⟨g, 0, none⟩) S.R.length cap) mv oa na) w w' q (nn + 1) (putP S j (owO (rowAt S (j : Int)) (-1))))) := fun V hb => by
        refine ⟨(hK.top.below hb).cell, (give_any V q _ nn S j _ (-1) (hKL.below hb) hK.good hK.nn hi (by omega) (fun x => absurd rfl x)).mono ?_⟩
        rintro e w' ⟨rfl, hT⟩
        exact ⟨rfl, Turn.ahead hb hT⟩
      generalize hg1 : putP S j (owO (rowAt S (j : Int)) (-1)) = S2 at *
      generalize rowAt S (j : Int) = o at *
      generalize S.R.length = N at *
      obtain ⟨nm, tg, bk, ow⟩ := o
      dsimp only at *
      clear hI hi h1 hK hKL e1 e2 h3 hg1
      go_enter Try.func16, Try.ntmps16
      go_wp2_with (first
        | (go_at_call 35; refine hdu.mono ?_; rintro e w3 ⟨rfl, hb3⟩; obtain ⟨d0, hpu⟩ := HP.out w3 hb3; clear hb3 HP)
        | (go_at_call 28; refine hf.mono ?_; rintro e w2 ⟨rfl, rfl⟩)
        | (go_at_call 34; refine hpu.mono ?_; rintro e w4 ⟨rfl, HT⟩))
      go_ret
      exact ⟨rfl, HT.out⟩
  · rw [show faultE S i = 131 from if_neg h1] at hf
    have e1 : relE S i = 131 := by unfold relE; rw [if_neg h1]
    have e2 : relS S i = S := by unfold relS; rw [e1, if_neg (by decide)]
    rw [e1, e2]
    have HT : Hid (Turn F w w q (nn + 1) S) := (hK.lay.turn (Below.refl _ _)).up (Nat.le_succ _)
    clear hK h1 e1 e2
    go_enter Try.func16, Try.ntmps16
    go_wp2_with (go_at_call 28; refine hf.mono ?_; rintro e w2 ⟨rfl, rfl⟩)
    go_ret
    exact ⟨rfl, HT.out⟩
end Go.Proofs.Ythmjjpaengackaa.Po
