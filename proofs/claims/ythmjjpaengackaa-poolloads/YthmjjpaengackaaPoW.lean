import Derived.Test.YthmjjpaengackaaPoV
namespace Go.Proofs.Ythmjjpaengackaa.Po
open Go.RowKit Go.Lib Go.Deep

/-- a pool of the call's own -/
structure Lv (w wr : World) (pb q : Nat) (F : List Nat) (nn : Nat) (S : Ps) : Prop where
  ok : Ok wr pb q F nn S
  pb : w.heap.size ≤ pb
  fr : ∀ k, k ∈ F → w.heap.size ≤ k
  be : Below w.heap.size w wr
def Kp (F : List Nat) (wr w' : World) (F' : List Nat) : Prop := wr.heap.size ≤ w'.heap.size ∧ (∀ k, k < wr.heap.size → k ∉ F → w'.heap[k]? = wr.heap[k]?) ∧ ∀ k, k ∈ F' → k ∈ F ∨ wr.heap.size ≤ k
theorem Lv.next {w wr w' : World} {pb q nn N : Nat} {F : List Nat} {S S' : Ps} (h : Lv w wr pb q F nn S) (hT : Turn F wr w' q N S') (hG : Good S') (hN : N < 9223372036854775800) : ∃ F', Lv w w' pb q F' N S' ∧ Kp F wr w' F' := by
  have htop := h.ok.top.keep h.ok.lay hT
  obtain ⟨ho, F', hL, hF⟩ := hT
  refine ⟨F', ⟨⟨htop, hL, hG, hN⟩, h.pb, fun k hk => ?_, ?_⟩, ho.size, fun k hk hn => ho.block k hk hn, hF⟩
  · rcases hF k hk with h1 | h1
    · exact h.fr k h1
    · exact Nat.le_trans h.be.size h1
  · exact h.be.trans (ho.below h.be.size h.fr)
theorem Lv.below {w wr W : World} {pb q nn : Nat} {F : List Nat} {S : Ps} (h : Lv w wr pb q F nn S) (hb : Below wr.heap.size wr W) : Lv w W pb q F nn S := ⟨⟨h.ok.top.below hb, h.ok.lay.below hb, h.ok.good, h.ok.nn⟩, h.pb, h.fr, h.be.trans (hb.mono h.be.size)⟩
theorem Kp.below (F : List Nat) {wr W : World} (hb : Below wr.heap.size wr W) : Kp F wr W F := ⟨hb.size, fun k hk _ => hb.block k hk, fun _ h => .inl h⟩
/-- numbers of the call's own, beside a pool -/
structure Wn (w wr : World) (F : List Nat) (v : Value) (L : List Nat) : Prop where
  own : wr.ownsRow w.heap.size 3 1 v L.length (nsC L)
  out : ∀ g, v.ownBlock = some g → g ∉ F
theorem Wn.keep {w wr w' : World} {F F' : List Nat} {v : Value} {L : List Nat} (h : Wn w wr F v L) (hk : Kp F wr w' F') : Wn w w' F' v L :=
  ⟨owns_keep h.own fun g hg => hk.2.1 g (h.own.lt g hg).2 (h.out g hg), fun g hg hm => by
    rcases hk.2.2 g hm with h1 | h1
    · exact h.out g hg h1
    · have := (h.own.lt g hg).2
      omega⟩
theorem Kp.cell {F F' : List Nat} {wr w' : World} (h : Kp F wr w' F') {b : Nat} {cs : Array Value} {t : TypeId} (hb : wr.heap[b]? = some (.cells cs t (0, 0))) (hn : b ∉ F) : w'.heap[b]? = some (.cells cs t (0, 0)) := (h.2.1 b (heap_lt hb) hn).trans hb
theorem Lv.grown {w wr W : World} {pb q nn : Nat} {F : List Nat} {S : Ps} {row : Option Nat} (h : Lv w wr pb q F nn S) (hg : wr.grownBy W row) (hr : ∀ g, row = some g → g ∉ F ∧ w.heap.size ≤ g ∧ g ≠ pb) : Lv w W pb q F nn S := by
  refine ⟨⟨?_, ?_, h.ok.good, h.ok.nn⟩, h.pb, h.fr, ?_⟩
  · exact (hg.block pb (heap_lt h.ok.top) (fun e => (hr pb e.symm).2.2 rfl)).trans h.ok.top
  · exact h.ok.lay.keep fun k hk => hg.block k (h.ok.lay.lt k hk) (fun e => (hr k e.symm).1 hk)
  · refine h.be.trans ⟨hg.os, hg.tape, hg.output, hg.size, fun k hk => hg.block k (Nat.lt_of_lt_of_le hk h.be.size) (fun e => ?_)⟩
    have := (hr k e.symm).2.1
    omega
theorem Wn.app {w W w9 : World} {pb q nn : Nat} {F : List Nat} {S : Ps} {v v' : Value} {L : List Nat} {m : Nat} (h : Wn w W F v L) (hL : Lv w W pb q F nn S) (ho : w9.ownsRow w.heap.size 3 1 v' (L.length + 1) (nsC L ++ [.int .i64 (m : Int)])) (hg : W.grownBy w9 v.ownBlock) (hb : v'.ownBlock = v.ownBlock ∨ v'.ownBlock = some W.heap.size) : Lv w w9 pb q F nn S ∧ Wn w w9 F v' (L ++ [m]) := by
  refine ⟨hL.grown hg fun g e => ⟨h.out g e, (h.own.lt g e).1, fun e2 => ?_⟩, ⟨?_, fun g hg' hm => ?_⟩⟩
  · obtain ⟨cur, hc⟩ := owns_block h.own e
    have := hL.ok.top
    unfold Top at this
    rw [← e2, hc] at this
    injection this with this
    injection this with _ this _
    cases this
  · rw [show (L ++ [m]).length = L.length + 1 by simp, nsC_append]
    exact ho
  · rcases hb with e | e
    · exact h.out g (e ▸ hg') hm
    · rw [e] at hg'
      injection hg' with hg'
      have := hL.ok.lay.lt g hm
      omega
theorem Wn.below {w wr W : World} {F : List Nat} {v : Value} {L : List Nat} (h : Wn w wr F v L) (hb : Below wr.heap.size wr W) : Wn w W F v L := h.keep (Kp.below F hb)
theorem fldPs (w : World) (a b : Value) : (Instr.field 29 (.agg #[a, b]) 1).run Try.prog w = .ok b w := by kernel_rfl

/-! what the steps come to -/
theorem push_ok {S : Ps} {n : Int} (h : pushE S n = 0) : rowN S n ∧ (rowAt S n).ow = -1 ∧ pushS S n = pushP S n.toNat := by
  have e := h
  unfold pushE at h
  by_cases h1 : rowN S n
  · rw [if_pos h1] at h
    by_cases h2 : outL S n = true
    · exact ⟨h1, (out_iff.1 h2).1, by unfold pushS; rw [if_pos e]⟩
    · rw [if_neg h2] at h
      cases h
  · rw [if_neg h1] at h
    cases h
theorem push_no {S : Ps} {n : Int} (h : pushE S n ≠ 0) : pushS S n = S := by unfold pushS; rw [if_neg h]
/-- a row that was popped is out -/
theorem popped {S : Ps} (hG : Good S) {a : Nat} {Q : List Nat} (hq : S.Q = a :: Q) : ∃ o, S.R[a]? = some o ∧ o.ow = -1 ∧ rowN (popS S) (a : Int) ∧ rowAt (popS S) (a : Int) = o ∧ outL (popS S) (a : Int) = true := by
  obtain ⟨o, h1, h2⟩ := hG.qd a (by rw [hq]; simp)
  have hl := some_lt h1
  have e1 : rowAt (popS S) (a : Int) = o := by
    unfold rowAt popS
    rw [Int.toNat_natCast, h1]
    rfl
  refine ⟨o, h1, h2, ⟨by omega, by show (a : Int) < (S.R.length : Int); omega⟩, e1, out_iff.2 ⟨by rw [e1]; exact h2, ?_⟩⟩
  rw [Int.toNat_natCast]
  show a ∉ S.Q.tail
  rw [hq]
  have := hG.qn
  rw [hq] at this
  exact (List.nodup_cons.1 this).1
theorem popped_asg {S : Ps} (hG : Good S) {a : Nat} {Q : List Nat} (hq : S.Q = a :: Q) : (asgE (popS S) (a : Int) 0 = 0 ∨ asgE (popS S) (a : Int) 0 = 132) := by
  obtain ⟨o, h1, h2, h3, h4, h5⟩ := popped hG hq
  unfold asgE
  rw [if_pos h3, if_pos ⟨by omega, by have := hG.fl; show (0 : Int) < (S.fl : Int); omega⟩]
  split
  · exact .inl rfl
  · exact .inr rfl
theorem popped_rel {S : Ps} (hG : Good S) {a : Nat} {Q : List Nat} (hq : S.Q = a :: Q) (h : asgE (popS S) (a : Int) 0 = 0) : relE (asgS (popS S) (a : Int) 0) (a : Int) = 0 ∧ relS (asgS (popS S) (a : Int) 0) (a : Int) = popS S := by
  obtain ⟨o, h1, h2, h3, h4, h5⟩ := popped hG hq
  have e1 : asgS (popS S) (a : Int) 0 = putP (popS S) a (owO o 0) := by unfold asgS; rw [if_pos h, Int.toNat_natCast, h4]
  have hl : a < S.R.length := some_lt h1
  have h6 : rowN (asgS (popS S) (a : Int) 0) (a : Int) := by
    rw [e1]
    unfold rowN
    rw [len_put]
    exact h3
  have h7 : rowAt (asgS (popS S) (a : Int) 0) (a : Int) = owO o 0 := by
    rw [e1]
    unfold rowAt putP popS
    rw [Int.toNat_natCast]
    simp [hl]
  have h8 : relE (asgS (popS S) (a : Int) 0) (a : Int) = 0 := by
    unfold relE
    rw [if_pos h6, h7, if_neg (by simp [owO])]
  refine ⟨h8, ?_⟩
  unfold relS
  rw [if_pos h8, h7, Int.toNat_natCast, e1]
  unfold putP popS owO
  simp only [List.set_set, Ps.mk.injEq, true_and, and_true]
  obtain ⟨nm, tg, bk, ow⟩ := o
  simp only at h2
  subst h2
  apply List.ext_getElem?
  intro j
  rw [set_get hl j]
  by_cases e : a = j
  · rw [if_pos e, ← e]; exact h1.symm
  · rw [if_neg e]
theorem asg_no {S : Ps} {i f : Int} (h : asgE S i f ≠ 0) : asgS S i f = S := by unfold asgS; rw [if_neg h]
end Go.Proofs.Ythmjjpaengackaa.Po
