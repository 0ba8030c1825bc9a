import Derived.Test.YthmjjpaengackaaPoQ
namespace Go.Proofs.Ythmjjpaengackaa.Po
open Go.RowKit Go.Lib Go.Deep

/-- a pool, and an object of the call's own -/
structure Sx (V : World) (pb q b : Nat) (o : Ob) : Prop where
  top : Top V pb q
  ob : V.heap[b]? = some (.cells #[.string o.nm, .string o.tg, .int .i64 o.bk, .int .i64 o.ow] 35 (0, 0))
theorem Sx.below {V W : World} {pb q b : Nat} {o : Ob} (h : Sx V pb q b o) (hb : Below V.heap.size V W) : Sx W pb q b o := ⟨h.top.below hb, (hb.block _ (heap_lt h.ob)).trans h.ob⟩
theorem Sx.turn {V W : World} {pb q b nn N : Nat} {o : Ob} {F : List Nat} {S S' : Ps} (h : Sx V pb q b o) (hL : Lay V q F nn S) (hT : Turn F V W q N S') : Sx W pb q b o := ⟨h.top.keep hL hT, (hT.1.block _ (heap_lt h.ob) (hL.notin h.ob (by decide))).trans h.ob⟩
theorem Sx.cells {V : World} {pb q b : Nat} {o : Ob} (h : Sx V pb q b o) : V.cell? ⟨pb, 0, none⟩ = some (.pointer (some ⟨q, 0, none⟩)) ∧ V.cell? ⟨b, 0, none⟩ = some (.string o.nm) ∧ V.cell? ⟨b, 1, none⟩ = some (.string o.tg) ∧ V.cell? ⟨b, 2, none⟩ = some (.int .i64 o.bk) ∧ V.cell? ⟨b, 3, none⟩ = some (.int .i64 o.ow) :=
  ⟨h.top.cell, (cell_of_heap h.ob).trans rfl, (cell_of_heap h.ob).trans rfl, (cell_of_heap h.ob).trans rfl, (cell_of_heap h.ob).trans rfl⟩
set_option maxRecDepth 20000 in
set_option maxHeartbeats 1000000 in
theorem set_any (w : World) (pb q : Nat) (F : List Nat) (nn : Nat) (S : Ps) (i : Int) (n t : ByteArray) (b : Int) (hK : Ok w pb q F nn S) (hn : n.size ≤ maxLen) (ht : t.size ≤ maxLen) : Calls Try.prog 25 #[.pointer (some ⟨pb, 0, none⟩), .int .i64 i, .string n, .string t, .int .i64 b] w fun e w' => e = .returned (.int .i64 (setE S i n t b)) ∧ Turn F w w' q (nn + 1) (setS S i n t b) := by
  have hf := fault_ok hK i
  have c0 := hK.top.cell
  by_cases h1 : rowN S i
  · rw [show faultE S i = 0 from if_pos h1] at hf
    obtain ⟨j, rfl, hi⟩ := row_of h1
    have hKL := hK.lay
    obtain ⟨rv, mv, oa, na, room, h, rfl, hI⟩ := hK.lay
    obtain ⟨g, cap, rfl⟩ := hI.form hi
    obtain ⟨-, c1, -⟩ := hI.cells
    obtain ⟨-, -, -, r3, -⟩ := hI.row hi
    have hlt : (j : Int) < (S.R.length : Int) := by have := some_lt hi; omega
    obtain ⟨ow, how⟩ : ∃ ow, (rowAt S (j : Int)).ow = ow := ⟨_, rfl⟩
    rw [how] at r3
    obtain ⟨V, hV, hb, k0⟩ := one_new w #[.string n, .string t, .int .i64 b, .int .i64 ow] 35
    have sx : Sx V pb q w.heap.size ⟨n, t, b, ow⟩ := ⟨hK.top.below hb, k0⟩
    obtain ⟨d0, d1, d2, d3, d4⟩ := sx.cells
    have hst := isStored_any ⟨n, t, b, ow⟩ hn ht V
    unfold obV at hst
    dsimp only at hst d1 d2 d3 d4
    by_cases h2 : stored ⟨n, t, b, ow⟩
    · rw [show decide (stored ⟨n, t, b, ow⟩) = true from decide_eq_true h2] at hst
      have HH : Hid (∀ W, Below V.heap.size V W → W.cell? ⟨pb, 0, none⟩ = some (.pointer (some ⟨q, 0, none⟩)) ∧ Calls Try.prog 48 #[.pointer (some ⟨q, 0, none⟩), .string n, .int .i64 (j : Int)] W fun e w' => e = .returned (.bool (otherL S.R n j)) ∧ w' = W) := fun W hbW => ⟨(sx.below hbW).top.cell, isOther_any W q _ nn S n j ((hKL.below hb).below hbW) hn⟩
      by_cases h3 : otherL S.R n j = false
      · have e1 : setE S (j : Int) n t b = 0 := by unfold setE; rw [if_pos h1, how, Int.toNat_natCast, if_pos ⟨h2, h3⟩]
        have e2 : setS S (j : Int) n t b = putP S j ⟨n, t, b, ow⟩ := by unfold setS; rw [if_pos e1, Int.toNat_natCast, how]
        rw [e1, e2]
        simp only [h3] at HH
        have hns : n.size ≤ 16 ∧ t.size ≤ 16 := by
          obtain ⟨a1, a2, _⟩ := h2
          unfold isText at a1 a2
          dsimp only at a1 a2
          omega
        -- the row is laid: in any world behind the first block
        have HC : Hid (∀ W, Below V.heap.size V W → (W.drew.cell? ⟨pb, 0, none⟩ = some (.pointer (some ⟨q, 0, none⟩)) ∧ W.drew.cell? ⟨w.heap.size, 0, none⟩ = some (.string n) ∧ W.drew.cell? ⟨w.heap.size, 1, none⟩ = some (.string t) ∧ W.drew.cell? ⟨w.heap.size, 2, none⟩ = some (.int .i64 b) ∧ W.drew.cell? ⟨w.heap.size, 3, none⟩ = some (.int .i64 ow)) ∧
            Calls Try.prog 50 #[.agg #[.string n, .string t, .int .i64 b, .int .i64 ow]] W.drew fun e w5 => e = .returned (.agg #[.string n, .string t, .int .i64 b, .int .i64 ow]) ∧ (w5.cell? ⟨pb, 0, none⟩ = some (.pointer (some ⟨q, 0, none⟩)) ∧ w5.cell? ⟨w.heap.size, 0, none⟩ = some (.string n) ∧ w5.cell? ⟨w.heap.size, 1, none⟩ = some (.string t) ∧ w5.cell? ⟨w.heap.size, 2, none⟩ = some (.int .i64 b) ∧ w5.cell? ⟨w.heap.size, 3, none⟩ = some (.int .i64 ow)) ∧
              Calls Try.prog 49 #[.pointer (some ⟨q, 0, none⟩), .int .i64 (j : Int), .agg #[.string n, .string t, .int .i64 b, .int .i64 ow]] w5 fun e w6 => e = .returned (.tuple #[]) ∧ (w6.cell? ⟨pb, 0, none⟩ = some (.pointer (some ⟨q, 0, none⟩)) ∧ w6.cell? ⟨w.heap.size, 0, none⟩ = some (.string n) ∧ w6.cell? ⟨w.heap.size, 1, none⟩ = some (.string t) ∧ w6.cell? ⟨w.heap.size, 2, none⟩ = some (.int .i64 b) ∧ w6.cell? ⟨w.heap.size, 3, none⟩ = some (.int .i64 ow)) ∧ Hid (Turn (fp q (.slice (some ⟨g, 0, none⟩) S.R.length cap) mv oa na) w w6 q (nn + 1) (putP S j ⟨n, t, b, ow⟩))) := fun W hbW => by
          refine ⟨(sx.below hbW.drew).cells, (owned_any ⟨n, t, b, ow⟩ hns.1 hns.2 W.drew).mono ?_⟩
          rintro e w5 ⟨rfl, hb5⟩
          have hb5' : Below V.heap.size V w5 := hbW.drew.trans (hb5.mono hbW.size)
          have L5 := (hKL.below hb).below hb5'
          refine ⟨rfl, (sx.below hb5').cells, (put_any w5 q _ nn S j _ ⟨n, t, b, ow⟩ L5 hi hns.1 (hK.good.nm hi).1 (hK.good.ow hi) ?_ ?_ ?_ ?_).mono ?_⟩
          · show -1 ≤ ow ∧ ow ≤ 65600
            rw [← how]
            exact hK.good.ow hi
          · intro e k o hk ho e2
            dsimp only at e2 e
            exact hk (hK.good.ou k j o _ ho hi (by rw [how]; exact e2) (by rw [e2]; exact e))
          · intro e k o hk ho
            exact other_no h3 e k o hk ho
          · have := hK.nn
            unfold maxLen
            omega
          · rintro e w6 ⟨rfl, hT⟩
            exact ⟨rfl, ((sx.below hb5').turn L5 hT).cells, Turn.ahead (hb.trans (hb5'.mono hb.size)) hT⟩
        generalize hg1 : putP S j ⟨n, t, b, ow⟩ = S2 at *
        generalize S.R.length = N at *
        clear hI hi h1 hK hKL e1 e2 h2 h3 hg1 how hb k0 sx hns hn ht
        go_enter Try.func25, Try.ntmps25
        go_wp2_with (first
          | (go_at_call 47; refine hst.mono ?_; rintro e w3 ⟨rfl, hb3⟩; obtain ⟨x0, hot⟩ := HH.out w3 hb3; obtain ⟨HS, how3⟩ := HC.out w3 hb3; clear hb3 HH HC)
          | (go_at_call 28; refine hf.mono ?_; rintro e w2 ⟨rfl, e2⟩; obtain rfl := e2.symm)
          | (go_at_call 48; refine hot.mono ?_; rintro e w2 ⟨rfl, rfl⟩))
        go_region_held_law (fun U => U.cell? ⟨pb, 0, none⟩ = some (.pointer (some ⟨q, 0, none⟩)) ∧ U.cell? ⟨w.heap.size, 0, none⟩ = some (.string n) ∧ U.cell? ⟨w.heap.size, 1, none⟩ = some (.string t) ∧ U.cell? ⟨w.heap.size, 2, none⟩ = some (.int .i64 b) ∧ U.cell? ⟨w.heap.size, 3, none⟩ = some (.int .i64 ow)) (first | assumption | go_keep) (first | (go_at_call 50; refine how3.mono ?_; rintro e w5 ⟨rfl, HS5, hpu⟩) | (go_at_call 49; refine hpu.mono ?_; rintro e w6 ⟨rfl, HS6, HT⟩))
        all_goals
          go_wp2
          go_ret
          exact ⟨rfl, HT.out⟩
      · have e1 : setE S (j : Int) n t b = 1 := by unfold setE; rw [if_pos h1, how, Int.toNat_natCast, if_neg (fun x => h3 x.2)]
        have e2 : setS S (j : Int) n t b = S := by unfold setS; rw [e1, if_neg (by decide)]
        rw [e1, e2]
        rw [Bool.not_eq_false] at h3
        simp only [h3] at HH
        have HP : Hid (∀ W, Below V.heap.size V W → Turn (fp q (.slice (some ⟨g, 0, none⟩) S.R.length cap) mv oa na) w W q (nn + 1) S) := fun W hbW => (hKL.turn (hb.trans (hbW.mono hb.size))).up (Nat.le_succ _)
        generalize S.R.length = N at *
        clear hI hi h1 hK hKL e1 e2 h2 h3 how hb k0 sx hn ht
        go_enter Try.func25, Try.ntmps25
        go_wp2_with (first
          | (go_at_call 47; refine hst.mono ?_; rintro e w3 ⟨rfl, hb3⟩; obtain ⟨x0, hot⟩ := HH.out w3 hb3; have HT : Hid _ := HP.out w3 hb3; clear hb3 HH HP)
          | (go_at_call 28; refine hf.mono ?_; rintro e w2 ⟨rfl, e2⟩; obtain rfl := e2.symm)
          | (go_at_call 48; refine hot.mono ?_; rintro e w2 ⟨rfl, rfl⟩))
        go_ret
        exact ⟨rfl, HT.out⟩
    · rw [show decide (stored ⟨n, t, b, ow⟩) = false from decide_eq_false h2] at hst
      have e1 : setE S (j : Int) n t b = 1 := by unfold setE; rw [if_pos h1, how, if_neg (fun x => h2 x.1)]
      have e2 : setS S (j : Int) n t b = S := by unfold setS; rw [e1, if_neg (by decide)]
      rw [e1, e2]
      have HP : Hid (∀ W, Below V.heap.size V W → Turn (fp q (.slice (some ⟨g, 0, none⟩) S.R.length cap) mv oa na) w W q (nn + 1) S) := fun W hbW => (hKL.turn (hb.trans (hbW.mono hb.size))).up (Nat.le_succ _)
      generalize S.R.length = N at *
      clear hI hi h1 hK hKL e1 e2 h2 how hb k0 sx hn ht
      go_enter Try.func25, Try.ntmps25
      go_wp2_with (first
        | (go_at_call 47; refine hst.mono ?_; rintro e w3 ⟨rfl, hb3⟩; have HT : Hid _ := HP.out w3 hb3; clear hb3 HP)
        | (go_at_call 28; refine hf.mono ?_; rintro e w2 ⟨rfl, e2⟩; obtain rfl := e2.symm))
      go_ret
      exact ⟨rfl, HT.out⟩
  · rw [show faultE S i = 131 from if_neg h1] at hf
    have e1 : setE S i n t b = 131 := by unfold setE; rw [if_neg h1]
    have e2 : setS S i n t b = S := by unfold setS; rw [e1, if_neg (by decide)]
    rw [e1, e2]
    have HT : Hid (Turn F w w q (nn + 1) S) := (hK.lay.turn (Below.refl _ _)).up (Nat.le_succ _)
    clear hK h1 e1 e2 hn ht
    go_enter Try.func25, Try.ntmps25
    go_wp2_with (go_at_call 28; refine hf.mono ?_; rintro e w2 ⟨rfl, e2⟩; obtain rfl := e2.symm)
    go_ret
    exact ⟨rfl, HT.out⟩
end Go.Proofs.Ythmjjpaengackaa.Po
