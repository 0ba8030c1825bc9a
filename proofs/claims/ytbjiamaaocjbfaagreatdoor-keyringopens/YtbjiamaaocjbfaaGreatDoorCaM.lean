import Derived.Test.YtbjiamaaocjbfaaGreatDoorSkM2
import Derived.Test.YtbjiamaaocjbfaaGreatDoorRdK
import Derived.Test.YtbjiamaaocjbfaaGreatDoorPrB
import Derived.Test.YtbjiamaaocjbfaaGreatDoorK7M
namespace Go.Proofs.YtbjiamaaocjbfaaGreatDoor.Kp
open Go.RowKit Go.Lib Go.Deep Kr

def failV (c : Int) : Value := .tuple #[.agg #[.string { data := #[] }, .slice none 0 0], .string { data := #[] }, .int .i64 0, .int .i64 c]
/-- what unlock answers; v: the list of the ring that was read -/
noncomputable def unlockV (T p : List UInt8) (v : Value) : Value := if parseE T ≠ 0 then failV (parseE T) else if passK p = false then failV 1 else openedV (parseI T) v (opensK (parseI T) p (parseS T))
noncomputable def forV (T : List UInt8) (p next : ByteArray) (rounds : Int) (coins : List UInt8) (v : Value) : Value :=
  if parseE T ≠ 0 then failV (parseE T) else if faultK rounds coins 40 [p, next] ≠ 0 then failV (faultK rounds coins 40 [p, next]) else openedV (parseI T) v (opensK (parseI T) p.data.toList (parseS T))
/-- what opened answers, in parts -/
theorem openedV_parts (id : List UInt8) (a : Option Addr) (n c : Nat) (o : Option (List UInt8 × Nat)) : ∃ x y1 y2 y3 z u e, openedV id (.slice a n c) o = .tuple #[.agg #[.string x, .slice y1 y2 y3], .string z, .int .i64 u, .int .i64 e] := by
  cases o with
  | none => exact ⟨_, _, _, _, _, _, _, rfl⟩
  | some m => exact ⟨_, _, _, _, _, _, _, rfl⟩

set_option maxRecDepth 20000 in
set_option maxHeartbeats 2000000 in
theorem unlock_any (t p : ByteArray) (w : World) (ht : t.size ≤ 4194304) (hT : KTab w) :
    Calls Tryz.prog 34 #[.string t, .string p] w fun e w' => ∃ a n c, e = .returned (unlockV t.data.toList p.data.toList (.slice a n c)) ∧ OwnS w' w.heap.size (.slice a n c) (parseS t.data.toList) ∧ Below w.heap.size w w' := by
  have hbA : Below w.heap.size w (w.alloc (.cells #[.string { data := #[] }, .slice none 0 0] 32)) := (Below.refl _ _).alloc (Nat.le_refl _) _
  have c0 := parse_any t (w.alloc (.cells #[.string { data := #[] }, .slice none 0 0] 32)) (by rw [← size_eq]; exact ht) (hT.below hbA).t (hT.below hbA).i
  have hq : (w.alloc (.cells #[.string { data := #[] }, .slice none 0 0] 32)).heap[w.heap.size]? = some (.cells #[.string { data := #[] }, .slice none 0 0] 32 (0, 0)) := heap_new _ _
  have HQ : Hid _ := hq
  have HBA : Hid _ := hbA
  clear hq hbA
  generalize t.data.toList = T at c0 ⊢
  go_enter Tryz.func34, Tryz.ntmps34
  go_wp2_with fail
  refine c0.mono ?_
  clear c0
  rintro e w1 ⟨⟨a, n, c, rfl, hown⟩, hb1⟩
  have HQ1 : Hid (w1.heap[w.heap.size]? = _) := (hb1.block _ (heap_lt HQ.out)).trans HQ.out
  have HB1 : Hid (Below w.heap.size w w1) := HBA.out.trans (hb1.mono HBA.out.size)
  have hown2 : OwnS w1 (w.heap.size + 1) (.slice a n c) (parseS T) := by
    rw [show (w.alloc (.cells #[.string { data := #[] }, .slice none 0 0] 32)).heap.size = w.heap.size + 1 by simp] at hown
    exact hown
  have hq2 : (w1.alloc (.cells #[.string (str (parseI T)), .slice a n c] 32)).heap[w.heap.size]? = _ := (Below.heap_alloc _ _ _ (heap_lt HQ1.out)).trans HQ1.out
  have hg2 : (w1.alloc (.cells #[.string (str (parseI T)), .slice a n c] 32)).heap[w1.heap.size]? = some (.cells #[.string (str (parseI T)), .slice a n c] 32 (0, 0)) := heap_new _ _
  have HB2 : Hid (Below w.heap.size w (w1.alloc (.cells #[.string (str (parseI T)), .slice a n c] 32))) := HB1.out.alloc HB1.out.size _
  have HO2 : Hid (OwnS (w1.alloc (.cells #[.string (str (parseI T)), .slice a n c] 32)) (w.heap.size + 1) (.slice a n c) (parseS T)) := OwnS.below hown2 ((Below.refl _ _).alloc (Nat.le_refl _) _)
  have q0 : (w1.alloc (.cells #[.string (str (parseI T)), .slice a n c] 32)).cell? ⟨w.heap.size, 0, none⟩ = some (.string { data := #[] }) := (cell_of_heap hq2).trans rfl
  have q1 : (w1.alloc (.cells #[.string (str (parseI T)), .slice a n c] 32)).cell? ⟨w.heap.size, 1, none⟩ = some (.slice none 0 0) := (cell_of_heap hq2).trans rfl
  have f0 : (w1.alloc (.cells #[.string (str (parseI T)), .slice a n c] 32)).frozen? ⟨w.heap.size, 0, none⟩ = false := frozen_of_heap hq2
  have f1 : (w1.alloc (.cells #[.string (str (parseI T)), .slice a n c] 32)).frozen? ⟨w.heap.size, 1, none⟩ = false := frozen_of_heap hq2
  have HQ2 : Hid _ := hq2
  have HG2 : Hid _ := hg2
  clear hown hown2 hb1 HBA HQ hq2 hg2 HB1 HQ1
  by_cases hpe : parseE T = 0
  · have g0 : (w1.alloc (.cells #[.string (str (parseI T)), .slice a n c] 32)).cell? ⟨w1.heap.size, 0, none⟩ = some (.string (str (parseI T))) := (cell_of_heap HG2.out).trans rfl
    have g1 : (w1.alloc (.cells #[.string (str (parseI T)), .slice a n c] 32)).cell? ⟨w1.heap.size, 1, none⟩ = some (.slice a n c) := (cell_of_heap HG2.out).trans rfl
    have hri : rightR (parseI T) (parseS T) = true := (print_parse hpe).2
    have hip := fun W => isPass_any p W
    cases hpk : passK p.data.toList with
    | false =>
      have HV : Hid (unlockV T p.data.toList (.slice a n c) = failV 1) := by show _ = _; unfold unlockV; rw [if_neg (by simp [hpe]), if_pos hpk]
      rw [hpk] at hip
      clear hpk
      go_wp2_with (go_at_call 38; refine (hip _).mono ?_; rintro e w' ⟨rfl, rfl⟩)
      refine bodyPost_ret (results_cell_tmp3 rfl _ _ w.heap.size 32 _ (0, 0) _ rfl (put2 HQ2.out) Tryz.underlying32 rfl sizeRing) rfl ?_
      exact ⟨a, n, c, by rw [HV.out]; rfl, owns_mono (owns_set (owns_set HO2.out (by simp)) (by simp)) (by omega), (HB2.out.setCell (by simp) _).setCell (by simp) _⟩
    | true =>
      rw [hpk] at hip
      have hpl := of_decide_eq_true hpk
      have hop := fun W (hb : Below w.heap.size w W) (hs : SeeS W (.slice a n c) (parseS T)) => opened_any (parseI T) p.data.toList (.slice a n c) (parseS T) W hs hri (by rw [← size_eq]; have := size_eq p; omega) (hT.below hb)
      rw [str_of] at hop
      have HOP : Hid _ := hop
      clear hop
      have HV : Hid (unlockV T p.data.toList (.slice a n c) = openedV (parseI T) (.slice a n c) (opensK (parseI T) p.data.toList (parseS T))) := by show _ = _; unfold unlockV; rw [if_neg (by simp [hpe]), if_neg (by rw [hpk]; decide)]
      obtain ⟨x, y1, y2, y3, z, u, e5, hov⟩ := openedV_parts (parseI T) a n c (opensK (parseI T) p.data.toList (parseS T))
      rw [hov] at HOP HV
      clear hov
      clear hpk
      go_wp2_with (go_at_call 38; refine (hip _).mono ?_; rintro e w' ⟨rfl, rfl⟩)
      refine (HOP.out _ HB2.out (SeeS.of_own HO2.out)).mono ?_
      rintro e w3 ⟨rfl, hb3⟩
      have hq3 := (hb3.block _ (heap_lt HQ2.out)).trans HQ2.out
      have p0 : w3.cell? ⟨w.heap.size, 0, none⟩ = some (.string { data := #[] }) := (cell_of_heap hq3).trans rfl
      have p1 : w3.cell? ⟨w.heap.size, 1, none⟩ = some (.slice none 0 0) := (cell_of_heap hq3).trans rfl
      have t0 : w3.frozen? ⟨w.heap.size, 0, none⟩ = false := frozen_of_heap hq3
      have t1 : w3.frozen? ⟨w.heap.size, 1, none⟩ = false := frozen_of_heap hq3
      have HQ3 : Hid _ := hq3
      have HB3 : Hid (Below w.heap.size w w3) := HB2.out.trans (hb3.mono HB2.out.size)
      have HO3 : Hid (OwnS w3 (w.heap.size + 1) (.slice a n c) (parseS T)) := OwnS.below HO2.out hb3
      clear hq3 hb3 g0 g1 q0 q1 f0 f1 hip
      go_wp2
      refine bodyPost_ret (results_cell_tmp3 rfl _ _ w.heap.size 32 _ (0, 0) _ rfl (put2 HQ3.out) Tryz.underlying32 rfl sizeRing) rfl ?_
      exact ⟨a, n, c, by rw [HV.out]; rfl, owns_mono (owns_set (owns_set HO3.out (by simp)) (by simp)) (by omega), (HB3.out.setCell (by simp) _).setCell (by simp) _⟩
  · have hne : (parseE T != 0) = true := by simpa using hpe
    have HV : Hid (unlockV T p.data.toList (.slice a n c) = failV (parseE T)) := by show _ = _; unfold unlockV; rw [if_pos hpe]
    clear hpe
    go_wp2
    refine bodyPost_ret (results_cell_tmp3 rfl _ _ w.heap.size 32 _ (0, 0) _ rfl (put2 HQ2.out) Tryz.underlying32 rfl sizeRing) rfl ?_
    exact ⟨a, n, c, by rw [HV.out]; rfl, owns_mono (owns_set (owns_set HO2.out (by simp)) (by simp)) (by omega), (HB2.out.setCell (by simp) _).setCell (by simp) _⟩

set_option maxRecDepth 20000 in
set_option maxHeartbeats 2000000 in
theorem unlockFor_any (t p next coins : ByteArray) (rounds : Int) (w : World) (ht : t.size ≤ 4194304) (hT : KTab w) :
    Calls Tryz.prog 35 #[.string t, .string p, .string next, .int .i64 rounds, .string coins] w fun e w' => ∃ a n c, e = .returned (forV t.data.toList p next rounds coins.data.toList (.slice a n c)) ∧ OwnS w' w.heap.size (.slice a n c) (parseS t.data.toList) ∧ Below w.heap.size w w' := by
  have hbA : Below w.heap.size w (w.alloc (.cells #[.string { data := #[] }, .slice none 0 0] 32)) := (Below.refl _ _).alloc (Nat.le_refl _) _
  have c0 := parse_any t (w.alloc (.cells #[.string { data := #[] }, .slice none 0 0] 32)) (by rw [← size_eq]; exact ht) (hT.below hbA).t (hT.below hbA).i
  have hq : (w.alloc (.cells #[.string { data := #[] }, .slice none 0 0] 32)).heap[w.heap.size]? = some (.cells #[.string { data := #[] }, .slice none 0 0] 32 (0, 0)) := heap_new _ _
  have HQ : Hid _ := hq
  have HBA : Hid _ := hbA
  clear hq hbA
  generalize t.data.toList = T at c0 ⊢
  go_enter Tryz.func35, Tryz.ntmps35
  go_wp2_with fail
  refine c0.mono ?_
  clear c0
  rintro e w1 ⟨⟨a, n, c, rfl, hown⟩, hb1⟩
  have HQ1 : Hid (w1.heap[w.heap.size]? = _) := (hb1.block _ (heap_lt HQ.out)).trans HQ.out
  have HB1 : Hid (Below w.heap.size w w1) := HBA.out.trans (hb1.mono HBA.out.size)
  have hown2 : OwnS w1 (w.heap.size + 1) (.slice a n c) (parseS T) := by
    rw [show (w.alloc (.cells #[.string { data := #[] }, .slice none 0 0] 32)).heap.size = w.heap.size + 1 by simp] at hown
    exact hown
  have hq2 : (w1.alloc (.cells #[.string (str (parseI T)), .slice a n c] 32)).heap[w.heap.size]? = _ := (Below.heap_alloc _ _ _ (heap_lt HQ1.out)).trans HQ1.out
  have hg2 : (w1.alloc (.cells #[.string (str (parseI T)), .slice a n c] 32)).heap[w1.heap.size]? = some (.cells #[.string (str (parseI T)), .slice a n c] 32 (0, 0)) := heap_new _ _
  have HB2 : Hid (Below w.heap.size w (w1.alloc (.cells #[.string (str (parseI T)), .slice a n c] 32))) := HB1.out.alloc HB1.out.size _
  have HO2 : Hid (OwnS (w1.alloc (.cells #[.string (str (parseI T)), .slice a n c] 32)) (w.heap.size + 1) (.slice a n c) (parseS T)) := OwnS.below hown2 ((Below.refl _ _).alloc (Nat.le_refl _) _)
  have q0 : (w1.alloc (.cells #[.string (str (parseI T)), .slice a n c] 32)).cell? ⟨w.heap.size, 0, none⟩ = some (.string { data := #[] }) := (cell_of_heap hq2).trans rfl
  have q1 : (w1.alloc (.cells #[.string (str (parseI T)), .slice a n c] 32)).cell? ⟨w.heap.size, 1, none⟩ = some (.slice none 0 0) := (cell_of_heap hq2).trans rfl
  have f0 : (w1.alloc (.cells #[.string (str (parseI T)), .slice a n c] 32)).frozen? ⟨w.heap.size, 0, none⟩ = false := frozen_of_heap hq2
  have f1 : (w1.alloc (.cells #[.string (str (parseI T)), .slice a n c] 32)).frozen? ⟨w.heap.size, 1, none⟩ = false := frozen_of_heap hq2
  have HQ2 : Hid _ := hq2
  have HG2 : Hid _ := hg2
  clear hown hown2 hb1 HBA HQ hq2 hg2 HB1 HQ1
  by_cases hpe : parseE T = 0
  · have g0 : (w1.alloc (.cells #[.string (str (parseI T)), .slice a n c] 32)).cell? ⟨w1.heap.size, 0, none⟩ = some (.string (str (parseI T))) := (cell_of_heap HG2.out).trans rfl
    have g1 : (w1.alloc (.cells #[.string (str (parseI T)), .slice a n c] 32)).cell? ⟨w1.heap.size, 1, none⟩ = some (.slice a n c) := (cell_of_heap HG2.out).trans rfl
    have hri : rightR (parseI T) (parseS T) = true := (print_parse hpe).2
    have hcs : ∀ (i : Nat) s, [p, next][i]? = some s → ((w1.alloc (.cells #[.string (str (parseI T)), .slice a n c] 32)).alloc (.cells #[.string p, .string next] 9)).cell? ⟨w1.heap.size + 1, i, none⟩ = some (.string s) := fun i s h => by
      have h1 := cells_strs (w1.alloc (.cells #[.string (str (parseI T)), .slice a n c] 32)) [p, next] i s h
      rw [show (w1.alloc (.cells #[.string (str (parseI T)), .slice a n c] 32)).heap.size = w1.heap.size + 1 by simp, Nat.zero_add] at h1
      exact h1
    have hfa := slotFault_any rounds coins 40 (by omega) [p, next] 2 rfl (by omega) (w1.heap.size + 1) 2 ((w1.alloc (.cells #[.string (str (parseI T)), .slice a n c] 32)).alloc (.cells #[.string p, .string next] 9)) hcs
    clear hcs
    have hq4 : ((w1.alloc (.cells #[.string (str (parseI T)), .slice a n c] 32)).alloc (.cells #[.string p, .string next] 9)).heap[w.heap.size]? = _ := (Below.heap_alloc _ _ _ (heap_lt HQ2.out)).trans HQ2.out
    have hg4 : ((w1.alloc (.cells #[.string (str (parseI T)), .slice a n c] 32)).alloc (.cells #[.string p, .string next] 9)).heap[w1.heap.size]? = _ := (Below.heap_alloc _ _ _ (heap_lt HG2.out)).trans HG2.out
    have HQ4 : Hid _ := hq4
    have HB4 : Hid (Below w.heap.size w ((w1.alloc (.cells #[.string (str (parseI T)), .slice a n c] 32)).alloc (.cells #[.string p, .string next] 9))) := HB2.out.alloc HB2.out.size _
    have HO4 : Hid (OwnS ((w1.alloc (.cells #[.string (str (parseI T)), .slice a n c] 32)).alloc (.cells #[.string p, .string next] 9)) (w.heap.size + 1) (.slice a n c) (parseS T)) := OwnS.below HO2.out ((Below.refl _ _).alloc (Nat.le_refl _) _)
    have k0 : ((w1.alloc (.cells #[.string (str (parseI T)), .slice a n c] 32)).alloc (.cells #[.string p, .string next] 9)).cell? ⟨w.heap.size, 0, none⟩ = some (.string { data := #[] }) := (cell_of_heap hq4).trans rfl
    have k1 : ((w1.alloc (.cells #[.string (str (parseI T)), .slice a n c] 32)).alloc (.cells #[.string p, .string next] 9)).cell? ⟨w.heap.size, 1, none⟩ = some (.slice none 0 0) := (cell_of_heap hq4).trans rfl
    have j0 : ((w1.alloc (.cells #[.string (str (parseI T)), .slice a n c] 32)).alloc (.cells #[.string p, .string next] 9)).frozen? ⟨w.heap.size, 0, none⟩ = false := frozen_of_heap hq4
    have j1 : ((w1.alloc (.cells #[.string (str (parseI T)), .slice a n c] 32)).alloc (.cells #[.string p, .string next] 9)).frozen? ⟨w.heap.size, 1, none⟩ = false := frozen_of_heap hq4
    have i0 : ((w1.alloc (.cells #[.string (str (parseI T)), .slice a n c] 32)).alloc (.cells #[.string p, .string next] 9)).cell? ⟨w1.heap.size, 0, none⟩ = some (.string (str (parseI T))) := (cell_of_heap hg4).trans rfl
    have i1 : ((w1.alloc (.cells #[.string (str (parseI T)), .slice a n c] 32)).alloc (.cells #[.string p, .string next] 9)).cell? ⟨w1.heap.size, 1, none⟩ = some (.slice a n c) := (cell_of_heap hg4).trans rfl
    clear hq4 hg4
    by_cases hfk : faultK rounds coins.data.toList 40 [p, next] = 0
    · have hpk : passK p.data.toList = true := by
        unfold faultK at hfk
        cases h : passK p.data.toList with
        | true => rfl
        | false => rw [if_pos (by simp [h])] at hfk; cases hfk
      have hpl := of_decide_eq_true hpk
      rw [hfk] at hfa
      have hop := fun W (hb : Below w.heap.size w W) (hs : SeeS W (.slice a n c) (parseS T)) => opened_any (parseI T) p.data.toList (.slice a n c) (parseS T) W hs hri (by rw [← size_eq]; have := size_eq p; omega) (hT.below hb)
      rw [str_of] at hop
      have HOP : Hid _ := hop
      clear hop
      have HV : Hid (forV T p next rounds coins.data.toList (.slice a n c) = openedV (parseI T) (.slice a n c) (opensK (parseI T) p.data.toList (parseS T))) := by show _ = _; unfold forV; rw [if_neg (by simp [hpe]), if_neg (by simp [hfk])]
      obtain ⟨x, y1, y2, y3, z, u, e5, hov⟩ := openedV_parts (parseI T) a n c (opensK (parseI T) p.data.toList (parseS T))
      rw [hov] at HOP HV
      clear hov
      clear hfk
      go_wp2_with fail
      refine hfa.mono ?_
      rintro e w' ⟨rfl, rfl⟩
      go_wp2_with fail
      refine (HOP.out _ HB4.out (SeeS.of_own HO4.out)).mono ?_
      rintro e w3 ⟨rfl, hb3⟩
      have hq3 := (hb3.block _ (heap_lt HQ4.out)).trans HQ4.out
      have p0 : w3.cell? ⟨w.heap.size, 0, none⟩ = some (.string { data := #[] }) := (cell_of_heap hq3).trans rfl
      have p1 : w3.cell? ⟨w.heap.size, 1, none⟩ = some (.slice none 0 0) := (cell_of_heap hq3).trans rfl
      have t0 : w3.frozen? ⟨w.heap.size, 0, none⟩ = false := frozen_of_heap hq3
      have t1 : w3.frozen? ⟨w.heap.size, 1, none⟩ = false := frozen_of_heap hq3
      have HQ3 : Hid _ := hq3
      have HB3 : Hid (Below w.heap.size w w3) := HB4.out.trans (hb3.mono HB4.out.size)
      have HO3 : Hid (OwnS w3 (w.heap.size + 1) (.slice a n c) (parseS T)) := OwnS.below HO4.out hb3
      clear hq3 hb3 g0 g1 q0 q1 f0 f1 hfa k0 k1 j0 j1 i0 i1
      go_wp2
      refine bodyPost_ret (results_cell_tmp3 rfl _ _ w.heap.size 32 _ (0, 0) _ rfl (put2 HQ3.out) Tryz.underlying32 rfl sizeRing) rfl ?_
      exact ⟨a, n, c, by rw [HV.out]; rfl, owns_mono (owns_set (owns_set HO3.out (by simp)) (by simp)) (by omega), (HB3.out.setCell (by simp) _).setCell (by simp) _⟩
    · have HV : Hid (forV T p next rounds coins.data.toList (.slice a n c) = failV (faultK rounds coins.data.toList 40 [p, next])) := by show _ = _; unfold forV; rw [if_neg (by simp [hpe]), if_pos hfk]
      have hne : ((faultK rounds coins.data.toList 40 [p, next]) != 0) = true := by simpa using hfk
      generalize faultK rounds coins.data.toList 40 [p, next] = ef at hne HV hfa
      clear hfk
      go_wp2_with fail
      refine hfa.mono ?_
      rintro e w' ⟨rfl, rfl⟩
      clear g0 g1 q0 q1 f0 f1 hfa
      go_wp2
      refine bodyPost_ret (results_cell_tmp3 rfl _ _ w.heap.size 32 _ (0, 0) _ rfl (put2 HQ4.out) Tryz.underlying32 rfl sizeRing) rfl ?_
      exact ⟨a, n, c, by rw [HV.out]; rfl, owns_mono (owns_set (owns_set HO4.out (by simp)) (by simp)) (by omega), (HB4.out.setCell (by simp) _).setCell (by simp) _⟩
  · have hne : (parseE T != 0) = true := by simpa using hpe
    have HV : Hid (forV T p next rounds coins.data.toList (.slice a n c) = failV (parseE T)) := by show _ = _; unfold forV; rw [if_pos hpe]
    clear hpe
    go_wp2
    refine bodyPost_ret (results_cell_tmp3 rfl _ _ w.heap.size 32 _ (0, 0) _ rfl (put2 HQ2.out) Tryz.underlying32 rfl sizeRing) rfl ?_
    exact ⟨a, n, c, by rw [HV.out]; rfl, owns_mono (owns_set (owns_set HO2.out (by simp)) (by simp)) (by omega), (HB2.out.setCell (by simp) _).setCell (by simp) _⟩

end Go.Proofs.YtbjiamaaocjbfaaGreatDoor.Kp

namespace Go.Proofs.YtbjiamaaocjbfaaGreatDoor.Kp
open Go.RowKit Go.Lib Go.Deep Kr

/-- the tables, as the laws ask for them -/
structure KT (w : World) : Prop where
  k : KTab w
  i : ITab w
theorem KT.below {w w' : World} (h : KT w) (hb : Below w.heap.size w w') : KT w' := ⟨h.k.below hb, h.i.below hb (by have := h.k.i; omega)⟩
theorem tblK : Tbl KT := ⟨fun _ _ h hb => h.below hb⟩

theorem unlockV_eq (T p : List UInt8) (a : Option Addr) (n c : Nat) : ∃ x y1 y2 y3, unlockV T p (.slice a n c) = .tuple #[.agg #[.string x, .slice y1 y2 y3], .string (str (unlockM T p)), .int .i64 (unlockN T p : Int), .int .i64 (unlockE T p)] ∧
    (unlockE T p = 0 → x = str (parseI T) ∧ y1 = a ∧ y2 = n ∧ y3 = c ∧ parseE T = 0 ∧ rightR (parseI T) (parseS T) = true) := by
  by_cases h1 : parseE T ≠ 0
  · have e : unlockE T p = parseE T := by unfold unlockE; rw [if_pos h1]
    refine ⟨{ data := #[] }, none, 0, 0, ?_, fun h => absurd (e.symm.trans h) h1⟩
    unfold unlockV unlockM unlockN
    rw [if_pos h1, e, if_neg h1, if_neg h1]
    rfl
  · have h0 : parseE T = 0 := by simpa using h1
    cases h2 : passK p with
    | false =>
      have e : unlockE T p = 1 := by unfold unlockE; rw [if_neg h1, if_pos h2]
      refine ⟨{ data := #[] }, none, 0, 0, ?_, fun h => by rw [e] at h; cases h⟩
      unfold unlockV unlockM unlockN
      rw [if_neg h1, if_pos h2, e, if_neg (by decide), if_neg (by decide)]
      rfl
    | true =>
      cases h3 : opensK (parseI T) p (parseS T) with
      | none =>
        have e : unlockE T p = 73 := by unfold unlockE; rw [if_neg h1, if_neg (by rw [h2]; decide), if_pos h3]
        refine ⟨{ data := #[] }, none, 0, 0, ?_, fun h => by rw [e] at h; cases h⟩
        unfold unlockV unlockM unlockN
        rw [if_neg h1, if_neg (by rw [h2]; decide), e, if_neg (by decide), if_neg (by decide), h3]
        rfl
      | some m =>
        have e : unlockE T p = 0 := by unfold unlockE; rw [if_neg h1, if_neg (by rw [h2]; decide), if_neg (by rw [h3]; simp)]
        refine ⟨str (parseI T), a, n, c, ?_, fun _ => ⟨rfl, rfl, rfl, rfl, h0, (print_parse h0).2⟩⟩
        unfold unlockV unlockM unlockN
        rw [if_neg h1, if_neg (by rw [h2]; decide), if_pos e, if_pos e, e, h3]
        rfl

set_option maxRecDepth 20000 in
set_option maxHeartbeats 1000000 in
theorem unlockC : UnlockC KT := by
  intro t p w ht hp hT
  have c0 := unlock_any t p w ht hT.k
  generalize t.data.toList = T at c0 ⊢
  generalize p.data.toList = P at c0 ⊢
  go_enter Tryz.func15, Tryz.ntmps15
  go_wp2_with fail
  refine c0.mono ?_
  clear c0
  rintro e w1 ⟨a, n, c, rfl, _, hb1⟩
  obtain ⟨x, y1, y2, y3, hv, _⟩ := unlockV_eq T P a n c
  rw [hv]
  clear hv
  have HB : Hid _ := hb1
  clear hb1
  go_wp2
  refine bodyPost_ret (v := .tuple #[.string (str (unlockM T P)), .int .i64 (unlockN T P : Int), .int .i64 (unlockE T P)]) (by simp [results, Tryz.results15]) rfl ?_
  exact ⟨rfl, HB.out.alloc HB.out.size _⟩

theorem seeS_new (W : World) (s : Slot) : SeeS (W.alloc (.cells #[.string (str s.salt), .int .i64 s.rounds, .string (str s.wrapped)] 38)) (.slice (some ⟨W.heap.size, 0, none⟩) 1 1) [s] := by
  refine ⟨_, W.heap.size, 0, 1, rfl, fun _ => ⟨rfl, by simp⟩, fun j u hu => ?_⟩
  rw [Nat.zero_add]
  have e : ringCells [s] = slotCells s := by simp [ringCells]
  rw [e] at hu
  exact (cell_of_heap (heap_new _ _)).trans (by simpa [slotCells] using hu)

set_option maxRecDepth 20000 in
set_option maxHeartbeats 2000000 in
theorem makeC : MakeC KT := by
  intro master p coins rounds w hm hp hc hT
  obtain ⟨M, hM⟩ : ∃ l, master.data.toList = l := ⟨_, rfl⟩
  obtain ⟨P, hP⟩ : ∃ l, p.data.toList = l := ⟨_, rfl⟩
  obtain ⟨C, hC⟩ : ∃ l, coins.data.toList = l := ⟨_, rfl⟩
  rw [hM, hP, hC]
  obtain rfl : master = str M := by rw [← hM, str_of]
  obtain rfl : p = str P := by rw [← hP, str_of]
  obtain rfl : coins = str C := by rw [← hC, str_of]
  rw [str_size] at hm hp hc
  clear hM hP hC
  have hmz : ((str M).size : Int) = (M.length : Int) := by rw [str_size]
  by_cases h1 : M.length = 32
  · have h1I : (M.length : Int) = 32 := by omega
    have hb0 : Below w.heap.size w (w.alloc (.cells #[.string (str P)] 9)) := (Below.refl _ _).alloc (Nat.le_refl _) _
    have hfa := slotFault_any rounds (str C) 56 (by omega) [str P] 1 rfl (by omega) w.heap.size 1 (w.alloc (.cells #[.string (str P)] 9)) (fun i s h => by
      have := cells_strs w [str P] i s h
      rw [Nat.zero_add] at this
      exact this)
    rw [str_data] at hfa
    have e0 : makeE M P rounds C = faultK rounds C 56 [str P] := by
      unfold makeE faultK
      rw [if_neg (by omega)]
      simp only [List.all_cons, List.all_nil, Bool.and_true, str_data]
    by_cases hf : faultK rounds C 56 [str P] = 0
    · have hmk : makeE M P rounds C = 0 := by rw [e0, hf]
      have hpk : passK P = true := by
        cases h : passK P with
        | true => rfl
        | false => unfold makeE at hmk; rw [if_neg (by omega), if_pos h] at hmk; cases hmk
      have hrk : roundsK rounds = true := by
        cases h : roundsK rounds with
        | true => rfl
        | false => unfold makeE at hmk; rw [if_neg (by omega), if_neg (by rw [hpk]; decide), if_pos h] at hmk; cases hmk
      have hcl : C.length = 56 := by
        by_cases h : C.length = 56
        · exact h
        · unfold makeE at hmk; rw [if_neg (by omega), if_neg (by rw [hpk]; decide), if_neg (by rw [hrk]; decide), if_pos h] at hmk; cases hmk
      have hr2 := of_decide_eq_true hrk
      have hp2 := of_decide_eq_true hpk
      obtain ⟨_, hmy, hri⟩ := make_yes h1 hpk hrk hcl
      rw [hmk, hmy]
      rw [hf] at hfa
      have s1 := fun W => Ae.slice_take (P := Tryz.prog) W 9 Tryz.underlying9 C 16 (by omega)
      have s2 := fun W => Ae.slice_drop (P := Tryz.prog) W 9 Tryz.underlying9 C 16 (by omega)
      rw [show ((16 : Nat) : Int) = 16 from rfl] at s1 s2
      have hms := makeSlot_any (C.take 16) M P (C.drop 16) rounds (w.alloc (.cells #[.string (str P)] 9)) (by rw [List.length_take]; omega) (by omega) (by omega) hr2 (by rw [List.length_drop]; omega) (hT.k.below hb0)
      unfold slotV at hms
      have hpr : Hid (∀ W, Below w.heap.size w W → Calls Tryz.prog 14 #[.agg #[.string (str (C.take 16)), .slice (some ⟨W.heap.size, 0, none⟩) 1 1]] (W.alloc (.cells #[.string (str (madeK (C.take 16) M P rounds (C.drop 16)).salt), .int .i64 (madeK (C.take 16) M P rounds (C.drop 16)).rounds, .string (str (madeK (C.take 16) M P rounds (C.drop 16)).wrapped)] 38)) fun e w' => e = .returned (.tuple #[.string (str (printL (C.take 16) (makeS M P rounds C))), .int .i64 0]) ∧ Below w.heap.size w w') := fun W hb => by
        have hbW : Below w.heap.size w (W.alloc (.cells #[.string (str (madeK (C.take 16) M P rounds (C.drop 16)).salt), .int .i64 (madeK (C.take 16) M P rounds (C.drop 16)).rounds, .string (str (madeK (C.take 16) M P rounds (C.drop 16)).wrapped)] 38)) := hb.alloc hb.size _
        have h := print_any (C.take 16) _ [madeK (C.take 16) M P rounds (C.drop 16)] _ (seeS_new W (madeK (C.take 16) M P rounds (C.drop 16))) (by rw [List.length_take]; omega) (by simp) (hT.below hbW).k.t (hT.below hbW).i (hT.below hbW).k.i
        obtain ⟨e1, e2⟩ := printY_of hri
        rw [show [madeK (C.take 16) M P rounds (C.drop 16)] = makeS M P rounds C from rfl, e1, e2] at h
        refine h.mono ?_
        rintro e w' ⟨rfl, hb'⟩
        exact ⟨rfl, hbW.trans (hb'.mono hbW.size)⟩
      have HB0 : Hid _ := hb0
      clear e0 hf hmk hpk hrk hmy hri hb0
      generalize str (printL (C.take 16) (makeS M P rounds C)) = yr at hpr ⊢
      generalize madeK (C.take 16) M P rounds (C.drop 16) = sl at hms hpr
      generalize str sl.salt = xa at hms hpr
      generalize str sl.wrapped = xc at hms hpr
      generalize sl.rounds = xr at hms hpr
      generalize str (C.take 16) = yi at *
      generalize str (C.drop 16) = yd at *
      generalize str C = yc at *
      generalize str M = ym at *
      generalize str P = yp at *
      go_enter Tryz.func7, Tryz.ntmps7
      go_wp2_with fail
      refine hfa.mono ?_
      clear hfa
      rintro e w' ⟨rfl, rfl⟩
      go_wp2_with fail
      refine hms.mono ?_
      clear hms
      rintro e w2 ⟨rfl, hb2⟩
      have HB2 : Hid (Below w.heap.size w w2) := HB0.out.trans (hb2.mono HB0.out.size)
      clear hb2 HB0
      have hp3 := hpr.out (w2.alloc (.cells #[.string xa, .int .i64 xr, .string xc] 38)) (HB2.out.alloc HB2.out.size _)
      rw [show (w2.alloc (.cells #[.string xa, .int .i64 xr, .string xc] 38)).heap.size = w2.heap.size + 1 by simp] at hp3
      clear hpr
      go_wp2_with fail
      refine hp3.mono ?_
      clear hp3
      rintro e w3 ⟨rfl, hb3⟩
      have HB3 : Hid _ := hb3
      clear hb3
      go_wp2
      go_ret2
      exact ⟨rfl, HB3.out⟩
    · have hne : (faultK rounds C 56 [str P] != 0) = true := by simpa using hf
      have e2 : makeY M P rounds C = [] := by unfold makeY; rw [e0, if_neg hf]
      rw [e0, e2]
      have HB0 : Hid _ := hb0
      clear e0 e2 hf hb0
      generalize faultK rounds C 56 [str P] = ef at hfa hne ⊢
      generalize str P = yp at *
      go_enter Tryz.func7, Tryz.ntmps7
      go_wp2_with fail
      refine hfa.mono ?_
      clear hfa
      rintro e w' ⟨rfl, rfl⟩
      go_wp2
      go_ret2
      exact ⟨rfl, HB0.out⟩
  · have h1I : ¬ (M.length : Int) = 32 := by omega
    have e1 : makeE M P rounds C = 40 := by unfold makeE; rw [if_pos h1]
    have e2 : makeY M P rounds C = [] := by unfold makeY; rw [e1, if_neg (by decide)]
    rw [e1, e2]
    clear e1 e2
    go_enter Tryz.func7, Tryz.ntmps7
    go_wp2
    go_ret2
    exact ⟨rfl, Below.refl _ _⟩

end Go.Proofs.YtbjiamaaocjbfaaGreatDoor.Kp

namespace Go.Proofs.YtbjiamaaocjbfaaGreatDoor.Kp
open Go.RowKit Go.Lib Go.Deep Kr

theorem fault_may (T P N : List UInt8) (rounds : Int) (C : List UInt8) : mayE T P N rounds C = if parseE T ≠ 0 then parseE T else if faultK rounds C 40 [str P, str N] ≠ 0 then faultK rounds C 40 [str P, str N] else if opensK (parseI T) P (parseS T) = none then 73 else 0 := by
  unfold mayE faultK
  simp only [List.all_cons, List.all_nil, Bool.and_true, str_data]
  by_cases h0 : parseE T ≠ 0
  · rw [if_pos h0, if_pos h0]
  rw [if_neg h0, if_neg h0]
  by_cases h1 : passK P = false ∨ passK N = false
  · have e : (passK P && passK N) = false := by
      rcases h1 with h | h <;> simp [h]
    rw [if_pos h1, if_pos e, if_pos (by decide)]
  have e : ¬ (passK P && passK N) = false := by
    rw [not_or] at h1
    simp at h1
    simp [h1.1, h1.2]
  rw [if_neg h1, if_neg e]
  by_cases h2 : roundsK rounds = false
  · rw [if_pos h2, if_pos h2, if_pos (by decide)]
  rw [if_neg h2, if_neg h2]
  by_cases h3 : C.length ≠ 40
  · rw [if_pos h3, if_pos h3, if_pos (by decide)]
  rw [if_neg h3, if_neg h3]
  simp

theorem forV_eq (T P N : List UInt8) (rounds : Int) (C : List UInt8) (a : Option Addr) (n c : Nat) : ∃ x y1 y2 y3 z u, forV T (str P) (str N) rounds C (.slice a n c) = .tuple #[.agg #[.string x, .slice y1 y2 y3], .string z, .int .i64 ((u : Nat) : Int), .int .i64 (mayE T P N rounds C)] ∧
    (mayE T P N rounds C = 0 → x = str (parseI T) ∧ y1 = a ∧ y2 = n ∧ y3 = c ∧ parseE T = 0 ∧ rightR (parseI T) (parseS T) = true ∧ faultK rounds C 40 [str P, str N] = 0 ∧ ∃ m, opensK (parseI T) P (parseS T) = some (m, u) ∧ z = str m) := by
  have hm := fault_may T P N rounds C
  by_cases h1 : parseE T ≠ 0
  · rw [if_pos h1] at hm
    refine ⟨{ data := #[] }, none, 0, 0, { data := #[] }, 0, ?_, fun h => absurd (hm.symm.trans h) h1⟩
    unfold forV
    rw [if_pos h1, hm]
    rfl
  · have h0 : parseE T = 0 := by simpa using h1
    rw [if_neg h1] at hm
    by_cases h2 : faultK rounds C 40 [str P, str N] ≠ 0
    · rw [if_pos h2] at hm
      refine ⟨{ data := #[] }, none, 0, 0, { data := #[] }, 0, ?_, fun h => absurd (hm.symm.trans h) h2⟩
      unfold forV
      rw [if_neg h1, if_pos h2, hm]
      rfl
    · have h20 : faultK rounds C 40 [str P, str N] = 0 := by simpa using h2
      rw [if_neg h2] at hm
      unfold forV
      rw [if_neg h1, if_neg h2, str_data]
      cases h3 : opensK (parseI T) P (parseS T) with
      | none =>
        rw [if_pos h3] at hm
        rw [hm]
        exact ⟨{ data := #[] }, none, 0, 0, { data := #[] }, 0, rfl, fun h => by cases h⟩
      | some m =>
        obtain ⟨m, u⟩ := m
        rw [if_neg (by rw [h3]; simp)] at hm
        rw [hm]
        exact ⟨str (parseI T), a, n, c, str m, u, rfl, fun _ => ⟨rfl, rfl, rfl, rfl, h0, (print_parse h0).2, h20, m, rfl, rfl⟩⟩

/-- the parts of what may be made -/
theorem fault_none {rounds : Int} {C : List UInt8} {ps : List ByteArray} (h : faultK rounds C 40 ps = 0) : (∀ p ∈ ps, passK p.data.toList = true) ∧ roundsK rounds = true ∧ C.length = 40 := by
  unfold faultK at h
  split at h
  · cases h
  · next h1 =>
    split at h
    · cases h
    · next h2 =>
      split at h
      · cases h
      · next h3 =>
        refine ⟨fun p hp => ?_, by simpa using h2, by simpa using h3⟩
        have e : (ps.all fun p => passK p.data.toList) = true := by simpa using h1
        exact List.all_eq_true.1 e p hp

end Go.Proofs.YtbjiamaaocjbfaaGreatDoor.Kp
