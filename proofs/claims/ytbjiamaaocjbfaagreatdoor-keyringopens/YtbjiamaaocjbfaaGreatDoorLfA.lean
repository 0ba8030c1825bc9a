import Derived.Test.YtbjiamaaocjbfaaGreatDoorCaF
import Derived.Test.YtbjiamaaocjbfaaGreatDoorKrM
import Derived.Test.YtbjiamaaocjbfaaGreatDoorK7B
import Derived.Test.YtbjiamaaocjbfaaGreatDoorShM2
namespace Go.Proofs.YtbjiamaaocjbfaaGreatDoor.Kp
open Go.RowKit Go.Lib Go.Deep Kr

theorem inv_len {t master : List UInt8} {ph : List (List UInt8)} (h : Inv t master ph) : t.length ≤ 5000 := by
  obtain ⟨e, hr⟩ := print_parse h.ok
  rw [e]
  unfold printL wholeL
  have := textL_le hr
  rw [List.length_append]
  simp [sumLine, unwords, kSum, hexL_length, shaL_length]
  omega
theorem inv_ph {t master : List UInt8} {ph : List (List UInt8)} (h : Inv t master ph) : 1 ≤ ph.length ∧ ph.length ≤ 8 := by
  obtain ⟨_, a, b, _⟩ := right_parts h.right
  have := h.n
  omega
theorem unlock_of {t master : List UInt8} {ph : List (List UInt8)} {q m : List UInt8} {n : Nat} (h : Inv t master ph) (hq : passK q = true) (ho : opensK (parseI t) q (parseS t) = some (m, n)) : unlockE t q = 0 ∧ unlockM t q = m ∧ unlockN t q = n := by
  have hu : unlockE t q = 0 := by
    unfold unlockE
    rw [if_neg (by rw [h.ok]; decide), if_neg (by rw [hq]; decide), if_neg (by rw [ho]; simp)]
  refine ⟨hu, ?_, ?_⟩
  · unfold unlockM
    rw [if_pos hu, ho]
    rfl
  · unfold unlockN
    rw [if_pos hu, ho]
    rfl

theorem bdN (w : World) (n : Nat) : Below w.heap.size w (w.drewN n) := ⟨rfl, rfl, rfl, Nat.le_refl _, fun _ _ => rfl⟩

set_option maxRecDepth 20000 in
set_option maxHeartbeats 1000000 in
theorem unlocked_any (t master : List UInt8) (ph : List (List UInt8)) (hI : Inv t master ph) (i : Nat) (q m : List UInt8) (n : Nat) (hq : ph[i]? = some q) (ho : opensK (parseI t) q (parseS t) = some (m, n)) (hni : n ≤ i) (y : List UInt8) (hy : ph[n]? = some y) (hym : y = q → m = master)
    (a : Option Addr) (len c : Nat) (hlen : ph.length = len) (w : World) (hL : Lst w a len (ph.map str)) (hT : KT w) :
    Calls Tryz.prog 19 #[.agg #[.string (str t), .string (str master), .slice a len c], .int .i64 (i : Int)] w fun e w' => e = .returned (.int .i64 (if y = q then (n : Int) else -2)) ∧ Below w.heap.size w w' := by
  have hpq : passK q = true := hI.p q (List.mem_of_getElem? hq)
  obtain ⟨u1, u2, u3⟩ := unlock_of hI hpq ho
  have hl8 := inv_ph hI
  have hil : i < len := by have := (List.getElem?_eq_some_iff.1 hq).1; omega
  have hnl : n < len := by omega
  obtain ⟨b, off, rfl, hbw, cq⟩ := hL.cell i (str q) (by simp [hq])
  obtain ⟨b', off', e', _, cy⟩ := hL.cell n (str y) (by simp [hy])
  injection e' with e'
  injection e' with e1 e2 _
  subst e1 e2
  have cu := fun (W : World) (hb : Below w.heap.size w W) => unlockC (str t) (str q) W (by rw [str_size]; have := inv_len hI; omega) (by rw [str_size]; have := of_decide_eq_true hpq; omega) (hT.below hb)
  rw [str_data, str_data, u1, u2, u3] at cu
  obtain ⟨W0, hW0⟩ : ∃ W, w.alloc (.cells #[.string (str t), .string (str master), .slice (some ⟨b, off, none⟩) len c] 49) = W := ⟨_, rfl⟩
  have hb0 : Below w.heap.size w W0 := by rw [← hW0]; exact (Below.refl _ _).alloc (Nat.le_refl _) _
  have hh0 : W0.heap[w.heap.size]? = some (.cells #[.string (str t), .string (str master), .slice (some ⟨b, off, none⟩) len c] 49 (0, 0)) := by rw [← hW0]; exact heap_new _ _
  have hs0 : W0.heap.size = w.heap.size + 1 := by rw [← hW0]; simp
  have HW : Hid (∀ W, Below W0.heap.size W0 W → W.cell? ⟨w.heap.size, 0, none⟩ = some (.string (str t)) ∧ W.cell? ⟨w.heap.size, 1, none⟩ = some (.string (str master)) ∧ W.cell? ⟨w.heap.size, 2, none⟩ = some (.slice (some ⟨b, off, none⟩) len c) ∧ W.cell? ⟨b, off + i, none⟩ = some (.string (str q)) ∧ W.cell? ⟨b, off + n, none⟩ = some (.string (str y))) := fun W hb => by
    have hh : W.heap[w.heap.size]? = _ := (hb.block _ (by omega)).trans hh0
    have hbb : Below w.heap.size w W := hb0.trans (hb.mono (by omega))
    exact ⟨(cell_of_heap hh).trans rfl, (cell_of_heap hh).trans rfl, (cell_of_heap hh).trans rfl, (hbb.cell (p := ⟨b, off + i, none⟩) hbw).trans cq, (hbb.cell (p := ⟨b, off + n, none⟩) hbw).trans cy⟩
  have K1 : Hid (∀ W, Below W0.heap.size W0 W → Calls Tryz.prog 15 #[.string (str t), .string (str q)] W fun e w' => e = .returned (.tuple #[.string (str m), .int .i64 (n : Int), .int .i64 0]) ∧ Below W0.heap.size W0 w') := fun W hb => by
    refine (cu W (hb0.trans (hb.mono (by omega)))).mono ?_
    rintro e w' ⟨rfl, hb'⟩
    exact ⟨rfl, hb.trans (hb'.mono hb.size)⟩
  have HB : Hid (∀ W, Below W0.heap.size W0 W → Below w.heap.size w W) := fun W hb => hb0.trans (hb.mono (by omega))
  have HM : Hid (str y = str q → str m = str master) := fun h => by
    have := congrArg (fun b => b.data.toList) h
    simp only [str_data] at this
    rw [hym this]
  have hyq : (if y = q then (n : Int) else -2) = (if str y = str q then (n : Int) else -2) := by
    by_cases h : y = q
    · rw [if_pos h, if_pos (by rw [h])]
    · rw [if_neg h, if_neg (fun h' => h (by
        have := congrArg (fun b => b.data.toList) h'
        simpa only [str_data] using this))]
  rw [hyq]
  have hiI : (i : Int) < (len : Int) := by omega
  have hnI : (n : Int) < (len : Int) := by omega
  have hgt : ¬ (i : Int) < (n : Int) := by omega
  have hlI : len ≤ 8 := by omega
  clear hI hL hq ho hy hpq u1 u2 u3 hlen hym cu hb0 hh0 hs0 hyq hT cq cy hl8
  generalize str t = tS at HW K1 hW0
  generalize str master = mS at HW hW0 HM
  generalize str m = uS at K1 HM
  generalize str q = qS at HW K1 HM
  generalize str y = yS at HW HM
  go_enter Tryz.func19, Tryz.ntmps19
  go_wp2_with fail
  go_region_held_law (fun W => W.cell? ⟨w.heap.size, 0, none⟩ = some (.string tS) ∧ W.cell? ⟨w.heap.size, 1, none⟩ = some (.string mS) ∧ W.cell? ⟨w.heap.size, 2, none⟩ = some (.slice (some ⟨b, off, none⟩) len c) ∧ W.cell? ⟨b, off + i, none⟩ = some (.string qS) ∧ W.cell? ⟨b, off + n, none⟩ = some (.string yS)) (first | exact HW.out _ (bdN _ _) | exact HW.out _ hb6 | go_keep) (first | (go_at_call 15; refine (K1.out _ (bdN _ _)).mono ?_; rintro e w6 ⟨rfl, hb6⟩))
  obtain ⟨d0, d1, d2, d3, d4⟩ := HW.out _ hb6
  have HB6 : Hid (Below w.heap.size w w6) := HB.out _ hb6
  clear hb6 HB HW K1 hW0
  go_wp2_with (go_at_call 10; refine (knum_any _ _).mono ?_; rintro e wn ⟨rfl, rfl⟩)
  by_cases hyq : yS = qS
  · have hm := HM.out hyq
    subst hyq hm
    clear HM
    go_quiet (fail)
    go_wp2
    go_ret
    exact ⟨rfl, HB6.out.trans ((bdN _ _).mono HB6.out.size)⟩
  · have hy2 : (yS.toList == qS.toList) = false := ba_ne hyq
    clear HM
    go_quiet (fail)
    go_wp2
    go_ret
    exact ⟨rfl, HB6.out.trans ((bdN _ _).mono HB6.out.size)⟩

end Go.Proofs.YtbjiamaaocjbfaaGreatDoor.Kp
