import Derived.Test.YtbdgbefjmfcgcaaDoorIxMh
import Derived.Test.YtbdgbefjmfcgcaaDoorPaM
import Derived.Test.YtbdgbefjmfcgcaaDoorCfM
import Derived.Test.YtbdgbefjmfcgcaaDoorPaB
namespace Go.Proofs.YtbdgbefjmfcgcaaDoor.Ix
open Go.RowKit Go.Lib Go.Deep

theorem placeOf_any (sl fl dr mf ls pg : Nat) (kd nu pa sz : Int) (nm : ByteArray) (hd : dr ≤ 4096) (hnu : -1 ≤ nu ∧ nu ≤ 100000) (w : World) :
    Calls Tryd.prog 33 #[.agg #[.int .i64 (sl : Int), .int .i64 (fl : Int), .int .i64 (dr : Int), .int .i64 (mf : Int), .int .i64 (ls : Int), .int .i64 (pg : Int)], .agg #[.int .i64 kd, .int .i64 nu, .int .i64 pa, .string nm, .int .i64 sz]] w fun e w' => e = .returned (.int .i64 (plc ⟨sl, fl, dr, mf, ls, pg⟩ ⟨kd, nu, pa, nm, sz⟩)) ∧ Below w.heap.size w w' := by
  obtain ⟨h1, h2⟩ := hnu
  have hal : Below w.heap.size w ((w.alloc (.cells #[.int .i64 (sl : Int), .int .i64 (fl : Int), .int .i64 (dr : Int), .int .i64 (mf : Int), .int .i64 (ls : Int), .int .i64 (pg : Int)] 23)).alloc (.cells #[.int .i64 kd, .int .i64 nu, .int .i64 pa, .string nm, .int .i64 sz] 44)) := ((Below.refl _ _).alloc (Nat.le_refl _) _).alloc (by simp) _
  have HAL : Hid _ := hal
  clear hal
  unfold plc
  simp only
  by_cases h : kd = 1
  · rw [if_pos h]
    subst h
    go_enter Tryd.func33, Tryd.ntmps33
    go_wp2
    go_ret
    exact ⟨rfl, HAL.out⟩
  · rw [if_neg h]
    have hb : (kd == 1) = false := beq_false_of_ne h
    go_enter Tryd.func33, Tryd.ntmps33
    go_wp2
    go_ret
    exact ⟨rfl, HAL.out⟩
def NuF (c : Cn) (n : Nd) : Prop := n.kd = 1 ∧ 1 ≤ n.nu ∧ n.nu ≤ c.dr ∧ n.sz = 0 ∨ n.kd = 2 ∧ 0 ≤ n.nu ∧ n.nu < c.fl ∧ 0 ≤ n.sz ∧ n.sz ≤ c.mf
instance (c : Cn) (n : Nd) : Decidable (NuF c n) := by unfold NuF; infer_instance
theorem two_new2 (w : World) (A B : Array Value) (s t : TypeId) : ∃ V, (w.alloc (.cells A s)).alloc (.cells B t) = V ∧ Below w.heap.size w V ∧ V.heap[w.heap.size]? = some (.cells A s (0, 0)) ∧ V.heap[w.heap.size + 1]? = some (.cells B t (0, 0)) ∧ ∀ X, X = V → X.heap[w.heap.size]? = some (.cells A s (0, 0)) ∧ X.heap[w.heap.size + 1]? = some (.cells B t (0, 0)) := by
  obtain ⟨V, h1, h2, h3, h4⟩ := two_new w A B s t
  exact ⟨V, h1, h2, h3, h4, fun X e => by rw [e]; exact ⟨h3, h4⟩⟩
set_option maxRecDepth 20000 in
set_option maxHeartbeats 1000000 in
theorem numbersFit_any (sl fl dr mf ls pg : Nat) (hfl : fl ≤ 65536) (kd nu pa sz : Int) (nm : ByteArray) (w : World) :
    Calls Tryd.prog 61 #[.agg #[.int .i64 (sl : Int), .int .i64 (fl : Int), .int .i64 (dr : Int), .int .i64 (mf : Int), .int .i64 (ls : Int), .int .i64 (pg : Int)], .agg #[.int .i64 kd, .int .i64 nu, .int .i64 pa, .string nm, .int .i64 sz]] w fun e w' => e = .returned (.bool (decide (NuF ⟨sl, fl, dr, mf, ls, pg⟩ ⟨kd, nu, pa, nm, sz⟩))) ∧ Below w.heap.size w w' := by
  have hal : Below w.heap.size w ((w.alloc (.cells #[.int .i64 (sl : Int), .int .i64 (fl : Int), .int .i64 (dr : Int), .int .i64 (mf : Int), .int .i64 (ls : Int), .int .i64 (pg : Int)] 23)).alloc (.cells #[.int .i64 kd, .int .i64 nu, .int .i64 pa, .string nm, .int .i64 sz] 44)) := ((Below.refl _ _).alloc (Nat.le_refl _) _).alloc (by simp) _
  have HAL : Hid _ := hal
  clear hal
  have K1 := isFrom_any nu 1 (dr : Int)
  have K2 := isFrom_any nu 0 ((fl : Int) - 1)
  have K3 := isFrom_any sz 0 (mf : Int)
  unfold NuF
  simp only
  by_cases h1 : kd = 1
  · subst h1
    have e : decide ((1 : Int) = 1 ∧ 1 ≤ nu ∧ nu ≤ (dr : Int) ∧ sz = 0 ∨ (1 : Int) = 2 ∧ 0 ≤ nu ∧ nu < (fl : Int) ∧ 0 ≤ sz ∧ sz ≤ (mf : Int)) = (decide (1 ≤ nu ∧ nu ≤ (dr : Int)) && decide (sz = 0)) := by
      rw [← Bool.decide_and]
      exact decide_eq_decide.2 (by omega)
    rw [e]
    clear e
    cases hq : decide (1 ≤ nu ∧ nu ≤ (dr : Int)) with
    | false =>
      rw [hq] at K1
      go_enter Tryd.func61, Tryd.ntmps61
      go_wp2_with fail
      refine (K1 _).mono ?_
      rintro e w1 ⟨rfl, rfl⟩
      go_wp2
      go_ret
      exact ⟨rfl, HAL.out⟩
    | true =>
      rw [hq] at K1
      by_cases hz : sz = 0
      · subst hz
        go_enter Tryd.func61, Tryd.ntmps61
        go_wp2_with fail
        refine (K1 _).mono ?_
        rintro e w1 ⟨rfl, rfl⟩
        go_wp2
        go_ret
        exact ⟨rfl, HAL.out⟩
      · rw [decide_eq_false hz]
        have hb : (sz == 0) = false := beq_false_of_ne hz
        go_enter Tryd.func61, Tryd.ntmps61
        go_wp2_with fail
        refine (K1 _).mono ?_
        rintro e w1 ⟨rfl, rfl⟩
        go_wp2
        go_ret
        exact ⟨by simp, HAL.out⟩
  · have hb1 : (kd == 1) = false := beq_false_of_ne h1
    by_cases h2 : kd = 2
    · subst h2
      have e : decide ((2 : Int) = 1 ∧ 1 ≤ nu ∧ nu ≤ (dr : Int) ∧ sz = 0 ∨ (2 : Int) = 2 ∧ 0 ≤ nu ∧ nu < (fl : Int) ∧ 0 ≤ sz ∧ sz ≤ (mf : Int)) = (decide (0 ≤ nu ∧ nu ≤ (fl : Int) - 1) && decide (0 ≤ sz ∧ sz ≤ (mf : Int))) := by
        rw [← Bool.decide_and]
        exact decide_eq_decide.2 (by omega)
      rw [e]
      clear e
      cases hq : decide (0 ≤ nu ∧ nu ≤ (fl : Int) - 1) with
      | false =>
        rw [hq] at K2
        go_enter Tryd.func61, Tryd.ntmps61
        go_wp2_with fail
        refine (K2 _).mono ?_
        rintro e w1 ⟨rfl, rfl⟩
        go_wp2
        go_ret
        exact ⟨rfl, HAL.out⟩
      | true =>
        rw [hq] at K2
        generalize decide (0 ≤ sz ∧ sz ≤ (mf : Int)) = B3 at *
        go_enter Tryd.func61, Tryd.ntmps61
        go_wp2_with fail
        refine (K2 _).mono ?_
        rintro e w1 ⟨rfl, rfl⟩
        go_wp2_with fail
        refine (K3 _).mono ?_
        rintro e w2 ⟨rfl, rfl⟩
        go_wp2
        go_ret
        exact ⟨by simp, HAL.out⟩
    · have hb2 : (kd == 2) = false := beq_false_of_ne h2
      rw [show decide (kd = 1 ∧ 1 ≤ nu ∧ nu ≤ (dr : Int) ∧ sz = 0 ∨ kd = 2 ∧ 0 ≤ nu ∧ nu < (fl : Int) ∧ 0 ≤ sz ∧ sz ≤ (mf : Int)) = false from decide_eq_false (by omega)]
      go_enter Tryd.func61, Tryd.ntmps61
      go_wp2
      go_ret
      exact ⟨rfl, HAL.out⟩
theorem ndF_iff (c : Cn) (n : Nd) : decide (NdF c n) = (decide (NuF c n) && (decide (0 ≤ n.pa ∧ n.pa ≤ (c.dr : Int)) && Pa.nm n.nm)) := by
  have : NdF c n ↔ NuF c n ∧ (0 ≤ n.pa ∧ n.pa ≤ (c.dr : Int)) ∧ Pa.nm n.nm = true := by
    unfold NdF NuF
    constructor
    · rintro ⟨h1, h2, h3, h4⟩
      exact ⟨h1, ⟨h2, h3⟩, h4⟩
    · rintro ⟨h1, ⟨h2, h3⟩, h4⟩
      exact ⟨h1, h2, h3, h4⟩
  rw [decide_eq_decide.2 this, Bool.decide_and, Bool.decide_and]
  simp
set_option maxRecDepth 20000 in
set_option maxHeartbeats 1000000 in
theorem nodeFits_any (sl fl dr mf ls pg : Nat) (hfl : fl ≤ 65536) (kd nu pa sz : Int) (nm : ByteArray) (w : World) :
    Calls Tryd.prog 32 #[.agg #[.int .i64 (sl : Int), .int .i64 (fl : Int), .int .i64 (dr : Int), .int .i64 (mf : Int), .int .i64 (ls : Int), .int .i64 (pg : Int)], .agg #[.int .i64 kd, .int .i64 nu, .int .i64 pa, .string nm, .int .i64 sz]] w fun e w' => e = .returned (.bool (decide (NdF ⟨sl, fl, dr, mf, ls, pg⟩ ⟨kd, nu, pa, nm, sz⟩))) ∧ Below w.heap.size w w' := by
  rw [ndF_iff]
  simp only
  have KN := fun X => numbersFit_any sl fl dr mf ls pg hfl kd nu pa sz nm X
  have K1 := isFrom_any pa 0 (dr : Int)
  have KP := fun X => Pa.name_any nm X
  generalize decide (NuF ⟨sl, fl, dr, mf, ls, pg⟩ ⟨kd, nu, pa, nm, sz⟩) = B1 at *
  obtain ⟨V, hV, hbV, g0, g1⟩ := two_new w #[.int .i64 (sl : Int), .int .i64 (fl : Int), .int .i64 (dr : Int), .int .i64 (mf : Int), .int .i64 (ls : Int), .int .i64 (pg : Int)] #[.int .i64 kd, .int .i64 nu, .int .i64 pa, .string nm, .int .i64 sz] 23 44
  have HX : Hid (∀ X, Below V.heap.size V X → X.heap[w.heap.size]? = some (.cells #[.int .i64 (sl : Int), .int .i64 (fl : Int), .int .i64 (dr : Int), .int .i64 (mf : Int), .int .i64 (ls : Int), .int .i64 (pg : Int)] 23 (0, 0)) ∧ X.heap[w.heap.size + 1]? = some (.cells #[.int .i64 kd, .int .i64 nu, .int .i64 pa, .string nm, .int .i64 sz] 44 (0, 0)) ∧ Below w.heap.size w X) := fun X hX => ⟨(hX.block _ (heap_lt g0)).trans g0, (hX.block _ (heap_lt g1)).trans g1, hbV.trans (hX.mono hbV.size)⟩
  obtain ⟨y0, y1, y2, y3, y4, y5⟩ := cells6 g0
  have n0 : V.cell? ⟨w.heap.size + 1, 0, none⟩ = some (.int .i64 kd) := (cell_of_heap g1).trans rfl
  have n1 : V.cell? ⟨w.heap.size + 1, 1, none⟩ = some (.int .i64 nu) := (cell_of_heap g1).trans rfl
  have n2 : V.cell? ⟨w.heap.size + 1, 2, none⟩ = some (.int .i64 pa) := (cell_of_heap g1).trans rfl
  have n3 : V.cell? ⟨w.heap.size + 1, 3, none⟩ = some (.string nm) := (cell_of_heap g1).trans rfl
  have n4 : V.cell? ⟨w.heap.size + 1, 4, none⟩ = some (.int .i64 sz) := (cell_of_heap g1).trans rfl
  clear g0 g1 hbV
  go_enter Tryd.func32, Tryd.ntmps32
  go_wp2_with fail
  refine (KN _).mono ?_
  rintro e w1 ⟨rfl, hb1⟩
  obtain ⟨k0, k1, hbw⟩ := HX.out w1 hb1
  cases B1 with
  | false =>
    have HB : Hid _ := hbw
    clear k0 k1 hbw
    go_wp2
    go_ret
    exact ⟨rfl, HB.out⟩
  | true =>
    obtain ⟨z0, z1, z2, z3, z4, z5⟩ := cells6 k0
    have m2 : w1.cell? ⟨w.heap.size + 1, 2, none⟩ = some (.int .i64 pa) := (cell_of_heap k1).trans rfl
    have m3 : w1.cell? ⟨w.heap.size + 1, 3, none⟩ = some (.string nm) := (cell_of_heap k1).trans rfl
    cases hq : decide (0 ≤ pa ∧ pa ≤ (dr : Int)) with
    | false =>
      rw [hq] at K1
      have HB : Hid _ := hbw
      clear k0 k1 hbw
      go_wp2_with fail
      refine (K1 _).mono ?_
      rintro e w2 ⟨rfl, rfl⟩
      go_wp2
      go_ret
      exact ⟨by rw [hq]; rfl, HB.out⟩
    | true =>
      rw [hq] at K1
      have HB : Hid (∀ X, Below w1.heap.size w1 X → Below w.heap.size w X) := fun X hX => hbw.trans (hX.mono hbw.size)
      have HNM : Hid (((Pa.nameE nm == 0) : Bool) = Pa.nm nm) := by
        show _ = _
        unfold Pa.nameE
        cases Pa.nm nm <;> rfl
      generalize Pa.nameE nm = NE at *
      clear k0 k1 hbw
      go_wp2_with fail
      refine (K1 _).mono ?_
      rintro e w2 ⟨rfl, rfl⟩
      go_wp2_with fail
      refine (KP _).mono ?_
      rintro e w3 ⟨rfl, hb3⟩
      have HB3 : Hid _ := HB.out _ hb3
      clear hb3
      go_wp2
      go_ret
      exact ⟨by rw [hq, ← HNM.out]; rfl, HB3.out⟩
end Go.Proofs.YtbdgbefjmfcgcaaDoor.Ix
