import Derived.Test.YthmjjpaengackaaPoO
namespace Go.Proofs.Ythmjjpaengackaa.Po
open Go.RowKit Go.Lib Go.Deep

theorem row_of {S : Ps} {i : Int} (h : rowN S i) : ∃ j : Nat, i = j ∧ S.R[j]? = some (rowAt S i) := by
  have := row_get h
  refine ⟨i.toNat, ?_, this⟩
  unfold rowN at h
  omega
set_option maxRecDepth 20000 in
set_option maxHeartbeats 1000000 in
theorem push_any (w : World) (pb q : Nat) (F : List Nat) (nn : Nat) (S : Ps) (i : Int) (hK : Ok w pb q F nn S) : Calls Try.prog 12 #[.pointer (some ⟨pb, 0, none⟩), .int .i64 i] w fun e w' => e = .returned (.int .i64 (pushE S i)) ∧ Turn F w w' q nn (pushS S i) := by
  have hf := fault_ok hK i
  have c0 := hK.top.cell
  by_cases h1 : rowN S i
  · rw [show faultE S i = 0 from if_pos h1] at hf
    obtain ⟨j, rfl, hi⟩ := row_of h1
    have hKL := hK.lay
    obtain ⟨rv, mv, oa, na, room, h, rfl, hI⟩ := hK.lay
    obtain ⟨g, cap, rfl⟩ := hI.form hi
    obtain ⟨-, c1, -⟩ := hI.cells
    obtain ⟨r0, r1, r2, r3, r4⟩ := hI.row hi
    have hlt : (j : Int) < (S.R.length : Int) := by have := some_lt hi; omega
    have hout := isOut_any (rowAt S (j : Int)) (decide (j ∈ S.Q)) w
    have hbo : (decide ((rowAt S (j : Int)).ow = -1) && !decide (j ∈ S.Q)) = outL S (j : Int) := by unfold outL; rw [Int.toNat_natCast]
    rw [hbo] at hout
    by_cases h2 : outL S (j : Int) = true
    · have e1 : pushE S (j : Int) = 0 := by unfold pushE; rw [if_pos h1, if_pos h2]
      have e2 : pushS S (j : Int) = pushP S j := by unfold pushS; rw [if_pos e1, Int.toNat_natCast]
      rw [e1, e2]
      rw [h2] at hout
      have HP : Hid (∀ V, Below w.heap.size w V → V.cell? ⟨pb, 0, none⟩ = some (.pointer (some ⟨q, 0, none⟩)) ∧ Calls Try.prog 30 #[.pointer (some ⟨q, 0, none⟩), .int .i64 (j : Int)] V fun e w' => e = .returned (.tuple #[]) ∧ Hid (Turn (fp q (.slice (some ⟨g, 0, none⟩) S.R.length cap) mv oa na) w w' q nn (pushP S j))) := fun V hb => by
        refine ⟨(hK.top.below hb).cell, (spush_any V q _ nn S j _ (hKL.below hb) hi hK.good.ql).mono ?_⟩
        rintro e w' ⟨rfl, hT⟩
        exact ⟨rfl, Turn.ahead hb hT⟩
      generalize rowAt S (j : Int) = o at *
      generalize S.R.length = N at *
      obtain ⟨nm, tg, bk, ow⟩ := o
      dsimp only at *
      clear hI hi h1 hK hKL hbo h2 e1 e2
      go_enter Try.func12, Try.ntmps12
      go_wp2_with (first
        | (go_at_call 29; refine hout.mono ?_; rintro e w3 ⟨rfl, hb3⟩; obtain ⟨d0, hpu⟩ := HP.out w3 hb3; clear hb3 HP)
        | (go_at_call 28; refine hf.mono ?_; rintro e w2 ⟨rfl, rfl⟩)
        | (go_at_call 30; refine hpu.mono ?_; rintro e w4 ⟨rfl, HT⟩))
      go_ret
      exact ⟨rfl, HT.out⟩
    · have e1 : pushE S (j : Int) = 132 := by unfold pushE; rw [if_pos h1, if_neg h2]
      have e2 : pushS S (j : Int) = S := by unfold pushS; rw [e1, if_neg (by decide)]
      rw [e1, e2]
      rw [Bool.not_eq_true] at h2
      rw [h2] at hout
      have HP : Hid (∀ V, Below w.heap.size w V → Turn (fp q (.slice (some ⟨g, 0, none⟩) S.R.length cap) mv oa na) w V q nn S) := fun V hb => hKL.turn hb
      generalize rowAt S (j : Int) = o at *
      generalize S.R.length = N at *
      obtain ⟨nm, tg, bk, ow⟩ := o
      dsimp only at *
      clear hI hi h1 hK hKL hbo h2 e1 e2
      go_enter Try.func12, Try.ntmps12
      go_wp2_with (first
        | (go_at_call 29; refine hout.mono ?_; rintro e w3 ⟨rfl, hb3⟩; have HT : Hid _ := HP.out w3 hb3; clear hb3 HP)
        | (go_at_call 28; refine hf.mono ?_; rintro e w2 ⟨rfl, rfl⟩))
      go_ret
      exact ⟨rfl, HT.out⟩
  · rw [show faultE S i = 131 from if_neg h1] at hf
    have e1 : pushE S i = 131 := by unfold pushE; rw [if_neg h1]
    have e2 : pushS S i = S := by unfold pushS; rw [e1, if_neg (by decide)]
    rw [e1, e2]
    have HT : Hid (Turn F w w q nn S) := hK.lay.turn (Below.refl _ _)
    clear hK h1 e1 e2
    go_enter Try.func12, Try.ntmps12
    go_wp2_with (go_at_call 28; refine hf.mono ?_; rintro e w2 ⟨rfl, rfl⟩)
    go_ret
    exact ⟨rfl, HT.out⟩
set_option maxRecDepth 20000 in
set_option maxHeartbeats 1000000 in
theorem pop_any (w : World) (pb q : Nat) (F : List Nat) (nn : Nat) (S : Ps) (hK : Ok w pb q F nn S) : Calls Try.prog 14 #[.pointer (some ⟨pb, 0, none⟩)] w fun e w' => e = .returned (.tuple #[.int .i64 (popY S), .int .i64 (popE S)]) ∧ Turn F w w' q nn (popS S) := by
  have c0 := hK.top.cell
  have hm := made_any w pb q c0
  unfold popY popE
  cases hq : S.Q with
  | nil =>
    have hp := spop0_any w q F nn S hK.lay hq
    have e2 : popS S = S := by unfold popS; rw [hq]; obtain ⟨a, b, c⟩ := S; simp only at hq; subst hq; rfl
    rw [e2, if_pos rfl]
    have HT : Hid (Turn F w w q nn S) := hK.lay.turn (Below.refl _ _)
    simp only [List.head?_nil, Option.getD_none]
    clear hK e2
    go_enter Try.func14, Try.ntmps14
    go_wp2_with (first
      | (go_at_call 31; refine hp.mono ?_; rintro e w2 ⟨rfl, rfl⟩)
      | (go_at_call 26; refine hm.mono ?_; rintro e w2 ⟨rfl, rfl⟩))
    go_ret2
    exact ⟨rfl, HT.out⟩
  | cons a Q =>
    obtain ⟨o, h1, h2⟩ := hK.good.qd a (by rw [hq]; simp)
    have hp := spop_any w q F nn S a Q o hK.lay hq hK.good.qn h1
    rw [if_neg (by simp)]
    simp only [List.head?_cons, Option.getD_some]
    clear hK h1 h2 hq
    go_enter Try.func14, Try.ntmps14
    go_wp2_with (first
      | (go_at_call 31; refine hp.mono ?_; rintro e w2 ⟨rfl, hT⟩; have HT : Hid _ := hT; clear hT)
      | (go_at_call 26; refine hm.mono ?_; rintro e w2 ⟨rfl, rfl⟩))
    go_ret2
    exact ⟨rfl, HT.out⟩
end Go.Proofs.Ythmjjpaengackaa.Po
