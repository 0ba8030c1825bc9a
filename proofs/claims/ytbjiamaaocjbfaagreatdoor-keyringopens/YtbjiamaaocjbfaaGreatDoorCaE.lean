import Derived.Test.YtbjiamaaocjbfaaGreatDoorCaD
namespace Go.Proofs.YtbjiamaaocjbfaaGreatDoor.Kp
open Go.RowKit Go.Lib Go.Deep Kr

/-- the row of a list of slots -/
theorem own_row {w : World} {B n c : Nat} {a : Option Addr} {ss : List Slot} (h : OwnS w B (.slice a n c) ss) (hn : n = ss.length) (h1 : 1 ≤ n) : ∃ g cur, a = some ⟨g, 0, none⟩ ∧ B ≤ g ∧ w.heap[g]? = some (.cells cur 38 (0, 0)) ∧ cur.size = 3 * c ∧ n ≤ c ∧ c ≤ maxLen ∧ cur.toList.take (n * 3) = ringCells ss := by
  rcases h.2 with ⟨h1', h2⟩ | ⟨g, cap, cur, e1, e2, e3, e4, e5, e6, e7⟩
  · omega
  · injection e1 with f1 f2 f3
    subst f1 f3
    exact ⟨g, cur, rfl, e2, e3, by omega, by omega, e5, by rw [hn]; exact e7⟩
theorem ringCells_set (ss : List Slot) (u : Nat) (s : Slot) (hu : u < ss.length) : (((ringCells ss).set (u * 3) (.string (str s.salt))).set (u * 3 + 1) (.int .i64 s.rounds)).set (u * 3 + 2) (.string (str s.wrapped)) = ringCells (ss.set u s) := by
  induction ss generalizing u with
  | nil => simp at hu
  | cons x ss ih =>
    have e : ∀ y ys, ringCells (y :: ys) = slotCells y ++ ringCells ys := fun y ys => by simp [ringCells]
    have e3 : ∀ y : Slot, (slotCells y).length = 3 := fun y => rfl
    cases u with
    | zero =>
      rw [e, List.set_cons_zero, e]
      simp [slotCells]
    | succ u =>
      rw [List.set_cons_succ, e, e, ← ih u (by simpa using hu)]
      rw [List.set_append_right _ _ (by rw [e3]; omega), List.set_append_right _ _ (by rw [e3]; omega), List.set_append_right _ _ (by rw [e3]; omega), e3]
      rw [show (u + 1) * 3 - 3 = u * 3 by omega, show (u + 1) * 3 + 1 - 3 = u * 3 + 1 by omega, show (u + 1) * 3 + 2 - 3 = u * 3 + 2 by omega]
theorem own_set3 {w : World} {B n c g u : Nat} {ss : List Slot} (s : Slot) (h : OwnS w B (.slice (some ⟨g, 0, none⟩) n c) ss) (hn : n = ss.length) (hu : u < n) :
    OwnS (((w.setCell ⟨g, u * 3, none⟩ (.string (str s.salt))).setCell ⟨g, u * 3 + 1, none⟩ (.int .i64 s.rounds)).setCell ⟨g, u * 3 + 2, none⟩ (.string (str s.wrapped))) B (.slice (some ⟨g, 0, none⟩) n c) (ss.set u s) := by
  obtain ⟨g', cur, e0, e1, e2, e3, e4, e5, e6⟩ := own_row h hn (by omega)
  injection e0 with e0
  injection e0 with e0 _ _
  subst e0
  have r1 := heap_setCell_same w g (u * 3) _ _ (.string (str s.salt)) e2
  have r2 := heap_setCell_same _ g (u * 3 + 1) _ _ (.int .i64 s.rounds) r1
  have r3 := heap_setCell_same _ g (u * 3 + 2) _ _ (.string (str s.wrapped)) r2
  refine ⟨ringCells_length _, .inr ⟨g, c, _, by rw [List.length_set, hn], e1, r3, by rw [List.length_set]; omega, e5, by simp; omega, ?_⟩⟩
  rw [List.length_set, ← hn]
  simp only [Array.toList_setIfInBounds]
  rw [List.take_set, List.take_set, List.take_set, e6, ringCells_set ss u s (by omega)]

set_option maxRecDepth 20000 in
set_option maxHeartbeats 2000000 in
theorem changeC : ChangeC KT := by
  intro t p next coins rounds w ht hp hn hc hT
  obtain ⟨P, hP⟩ : ∃ l, p.data.toList = l := ⟨_, rfl⟩
  obtain ⟨N, hN⟩ : ∃ l, next.data.toList = l := ⟨_, rfl⟩
  obtain ⟨C, hC⟩ : ∃ l, coins.data.toList = l := ⟨_, rfl⟩
  rw [hP, hN, hC]
  obtain rfl : p = str P := by rw [← hP, str_of]
  obtain rfl : next = str N := by rw [← hN, str_of]
  obtain rfl : coins = str C := by rw [← hC, str_of]
  have c0 := unlockFor_any t (str P) (str N) (str C) rounds w ht hT.k
  rw [str_data] at c0
  clear hP hN hC hp hn hc
  generalize t.data.toList = T at c0 ⊢
  go_enter Tryz.func17, Tryz.ntmps17
  go_wp2_with fail
  refine c0.mono ?_
  clear c0
  rintro e w1 ⟨a, n, c, rfl, hown, hb1⟩
  obtain ⟨x, y1, y2, y3, z, u, hv, hok⟩ := forV_eq T P N rounds C a n c
  rw [hv]
  clear hv
  have HB1 : Hid _ := hb1
  have HO1 : Hid _ := hown
  clear hb1 hown
  by_cases hm : mayE T P N rounds C = 0
  · obtain ⟨hx0, hy1, hy2, hy3, hpe, hri, hfk, m, hop, hz0⟩ := hok hm
    subst x y1 y2 y3 z
    obtain ⟨l16, n1, n8, hss⟩ := right_parts hri
    have hal : a = a ∧ n = (parseS T).length := by
      obtain ⟨a1, n2, hv2⟩ := owns_len HO1.out
      injection hv2 with h1 h2 h3
      exact ⟨rfl, h2⟩
    have hnl := hal.2
    obtain ⟨hf1, hf2, hf3⟩ := fault_none hfk
    have hr2 := of_decide_eq_true hf2
    have hpn := of_decide_eq_true (hf1 (str N) (by simp))
    rw [str_data] at hpn
    have hml := opened_len hri hop
    have hg2 : (w1.alloc (.cells #[.string (str (parseI T)), .slice a n c] 32)).heap[w1.heap.size]? = some (.cells #[.string (str (parseI T)), .slice a n c] 32 (0, 0)) := heap_new _ _
    have hb2 : Below w.heap.size w (w1.alloc (.cells #[.string (str (parseI T)), .slice a n c] 32)) := HB1.out.alloc HB1.out.size _
    have ho2 : OwnS (w1.alloc (.cells #[.string (str (parseI T)), .slice a n c] 32)) w.heap.size (.slice a n c) (parseS T) := OwnS.below HO1.out ((Below.refl _ _).alloc (Nat.le_refl _) _)
    have g0 : (w1.alloc (.cells #[.string (str (parseI T)), .slice a n c] 32)).cell? ⟨w1.heap.size, 0, none⟩ = some (.string (str (parseI T))) := (cell_of_heap hg2).trans rfl
    have g1 : (w1.alloc (.cells #[.string (str (parseI T)), .slice a n c] 32)).cell? ⟨w1.heap.size, 1, none⟩ = some (.slice a n c) := (cell_of_heap hg2).trans rfl
    have hul : u < (parseS T).length := by
      obtain ⟨s, h1, _⟩ := opensK_some hop
      exact (List.getElem?_eq_some_iff.1 h1).1
    have e2 : changeY T P N rounds C = printY (parseI T) ((parseS T).set u (madeK (parseI T) m N rounds C)) := by unfold changeY slotN; rw [if_pos hm, hop]; rfl
    have e3 : printE (parseI T) ((parseS T).set u (madeK (parseI T) m N rounds C)) = 0 := by
      refine (printY_of (right_mk l16 (by rw [List.length_set]; omega) (by rw [List.length_set]; omega) fun s hs => ?_)).2
      rcases List.mem_or_eq_of_mem_set hs with h | h
      · exact decide_eq_true (hss s h)
      · subst h
        exact made_ok hf3 hml hf2
    have HE : Hid (mayE T P N rounds C = printE (parseI T) ((parseS T).set u (madeK (parseI T) m N rounds C)) ∧ changeY T P N rounds C = printY (parseI T) ((parseS T).set u (madeK (parseI T) m N rounds C))) := ⟨by rw [hm, e3], e2⟩
    have hms := makeSlot_any (parseI T) m N C rounds _ (by omega) (by omega) (by omega) hr2 hf3 (hT.k.below hb2)
    have HNL : Hid (n = (parseS T).length) := hnl
    have hn8 : n ≤ 8 := by omega
    have hun : u < n := by omega
    have hunI : (u : Int) < (n : Int) := by omega
    rw [hm]
    clear e2 e3 hok hm hf1 hss hal hnl n1 n8 hul
    generalize hsl : madeK (parseI T) m N rounds C = sl at hms HE
    unfold slotV at hms
    generalize hxa : str sl.salt = xa at hms
    generalize hxc : str sl.wrapped = xc at hms
    generalize hxr : sl.rounds = xr at hms
    have HX : Hid (str sl.salt = xa ∧ str sl.wrapped = xc ∧ sl.rounds = xr) := ⟨hxa, hxc, hxr⟩
    have HB2 : Hid _ := hb2
    have HO2 : Hid _ := ho2
    have HG2 : Hid _ := hg2
    clear hsl hxa hxc hxr hb2 ho2 hg2
    go_wp2_with fail
    refine hms.mono ?_
    clear hms g0 g1
    rintro e w3 ⟨rfl, hb3⟩
    have HB3 : Hid (Below w.heap.size w w3) := HB2.out.trans (hb3.mono HB2.out.size)
    have HO3 : Hid (OwnS w3 w.heap.size (.slice a n c) (parseS T)) := OwnS.below HO2.out hb3
    have HG3 : Hid (w3.heap[w1.heap.size]? = _) := (hb3.block _ (heap_lt HG2.out)).trans HG2.out
    clear hb3 HB2 HO2 HG2
    have hs4 : (w3.alloc (.cells #[.string xa, .int .i64 xr, .string xc] 38)).heap[w3.heap.size]? = some (.cells #[.string xa, .int .i64 xr, .string xc] 38 (0, 0)) := heap_new _ _
    have hg4 : (w3.alloc (.cells #[.string xa, .int .i64 xr, .string xc] 38)).heap[w1.heap.size]? = _ := (Below.heap_alloc _ _ _ (heap_lt HG3.out)).trans HG3.out
    have ho4 : OwnS (w3.alloc (.cells #[.string xa, .int .i64 xr, .string xc] 38)) w.heap.size (.slice a n c) (parseS T) := OwnS.below HO3.out ((Below.refl _ _).alloc (Nat.le_refl _) _)
    have hb4 : Below w.heap.size w (w3.alloc (.cells #[.string xa, .int .i64 xr, .string xc] 38)) := HB3.out.alloc HB3.out.size _
    obtain ⟨g, cur, rfl, hgB, hrow, hc1, hc2, _, _⟩ := own_row ho4 HNL.out (by omega)
    have g0' : (w3.alloc (.cells #[.string xa, .int .i64 xr, .string xc] 38)).cell? ⟨w1.heap.size, 0, none⟩ = some (.string (str (parseI T))) := (cell_of_heap hg4).trans rfl
    have g1' : (w3.alloc (.cells #[.string xa, .int .i64 xr, .string xc] 38)).cell? ⟨w1.heap.size, 1, none⟩ = some (.slice (some ⟨g, 0, none⟩) n c) := (cell_of_heap hg4).trans rfl
    have u0 : (w3.alloc (.cells #[.string xa, .int .i64 xr, .string xc] 38)).cell? ⟨w3.heap.size, 0, none⟩ = some (.string xa) := (cell_of_heap hs4).trans rfl
    have u1 : (w3.alloc (.cells #[.string xa, .int .i64 xr, .string xc] 38)).cell? ⟨w3.heap.size, 1, none⟩ = some (.int .i64 xr) := (cell_of_heap hs4).trans rfl
    have u2 : (w3.alloc (.cells #[.string xa, .int .i64 xr, .string xc] 38)).cell? ⟨w3.heap.size, 2, none⟩ = some (.string xc) := (cell_of_heap hs4).trans rfl
    have F0 : (w3.alloc (.cells #[.string xa, .int .i64 xr, .string xc] 38)).frozen? ⟨g, u * 3, none⟩ = false := frozen_of_heap hrow
    have F1 : (w3.alloc (.cells #[.string xa, .int .i64 xr, .string xc] 38)).frozen? ⟨g, u * 3 + 1, none⟩ = false := frozen_of_heap hrow
    have F2 : (w3.alloc (.cells #[.string xa, .int .i64 xr, .string xc] 38)).frozen? ⟨g, u * 3 + 2, none⟩ = false := frozen_of_heap hrow
    have hcz : u * 3 + 2 < cur.size := by omega
    have K0 : ∃ q, (w3.alloc (.cells #[.string xa, .int .i64 xr, .string xc] 38)).cell? ⟨g, u * 3, none⟩ = some q := ⟨cur[u * 3]'(by omega), by rw [cell_of_heap hrow]; exact Array.getElem?_eq_getElem _⟩
    have K1 : ∃ q, (w3.alloc (.cells #[.string xa, .int .i64 xr, .string xc] 38)).cell? ⟨g, u * 3 + 1, none⟩ = some q := ⟨cur[u * 3 + 1]'(by omega), by rw [cell_of_heap hrow]; exact Array.getElem?_eq_getElem _⟩
    have K2 : ∃ q, (w3.alloc (.cells #[.string xa, .int .i64 xr, .string xc] 38)).cell? ⟨g, u * 3 + 2, none⟩ = some q := ⟨cur[u * 3 + 2]'(by omega), by rw [cell_of_heap hrow]; exact Array.getElem?_eq_getElem _⟩
    obtain ⟨q0, K0⟩ := K0
    obtain ⟨q1, K1⟩ := K1
    obtain ⟨q2, K2⟩ := K2
    have hgne : w1.heap.size ≠ g := fun e => by
      subst e
      rw [hg4] at hrow
      simp at hrow
    have hg5 : ((((w3.alloc (.cells #[.string xa, .int .i64 xr, .string xc] 38)).setCell ⟨g, u * 3, none⟩ (.string xa)).setCell ⟨g, u * 3 + 1, none⟩ (.int .i64 xr)).setCell ⟨g, u * 3 + 2, none⟩ (.string xc)).heap[w1.heap.size]? = _ := (Below.heap_setCell _ _ _ _ hgne).trans ((Below.heap_setCell _ _ _ _ hgne).trans ((Below.heap_setCell _ _ _ _ hgne).trans hg4))
    have g0'' : ((((w3.alloc (.cells #[.string xa, .int .i64 xr, .string xc] 38)).setCell ⟨g, u * 3, none⟩ (.string xa)).setCell ⟨g, u * 3 + 1, none⟩ (.int .i64 xr)).setCell ⟨g, u * 3 + 2, none⟩ (.string xc)).cell? ⟨w1.heap.size, 0, none⟩ = some (.string (str (parseI T))) := (cell_of_heap hg5).trans rfl
    have g1'' : ((((w3.alloc (.cells #[.string xa, .int .i64 xr, .string xc] 38)).setCell ⟨g, u * 3, none⟩ (.string xa)).setCell ⟨g, u * 3 + 1, none⟩ (.int .i64 xr)).setCell ⟨g, u * 3 + 2, none⟩ (.string xc)).cell? ⟨w1.heap.size, 1, none⟩ = some (.slice (some ⟨g, 0, none⟩) n c) := (cell_of_heap hg5).trans rfl
    have hb5 : Below w.heap.size w ((((w3.alloc (.cells #[.string xa, .int .i64 xr, .string xc] 38)).setCell ⟨g, u * 3, none⟩ (.string xa)).setCell ⟨g, u * 3 + 1, none⟩ (.int .i64 xr)).setCell ⟨g, u * 3 + 2, none⟩ (.string xc)) := ((hb4.setCell hgB _).setCell hgB _).setCell hgB _
    have ho5 : OwnS ((((w3.alloc (.cells #[.string xa, .int .i64 xr, .string xc] 38)).setCell ⟨g, u * 3, none⟩ (.string xa)).setCell ⟨g, u * 3 + 1, none⟩ (.int .i64 xr)).setCell ⟨g, u * 3 + 2, none⟩ (.string xc)) w.heap.size (.slice (some ⟨g, 0, none⟩) n c) ((parseS T).set u sl) := by
      have h5 := own_set3 sl ho4 HNL.out hun
      rw [HX.out.1, HX.out.2.1, HX.out.2.2] at h5
      exact h5
    have hpr := print_any (parseI T) (.slice (some ⟨g, 0, none⟩) n c) ((parseS T).set u sl) _ (SeeS.of_own ho5) (by omega) (by rw [List.length_set, ← HNL.out]; omega) (hT.below hb5).k.t (hT.below hb5).i (hT.below hb5).k.i
    have HB5 : Hid _ := hb5
    clear hrow hgB hg4 hb4 ho4 hs4 hcz HB3 HO3 HG3 hg5 hb5 ho5 hc1 hc2
    go_wp2_with fail
    refine hpr.mono ?_
    clear hpr
    rintro e w8 ⟨rfl, hb8⟩
    have HB8 : Hid _ := HB5.out.trans (hb8.mono HB5.out.size)
    clear hb8
    go_wp2
    go_ret2
    exact ⟨by rw [HE.out.1, HE.out.2]; rfl, HB8.out⟩
  · have hne : (mayE T P N rounds C != 0) = true := by simpa using hm
    have e2 : changeY T P N rounds C = [] := by unfold changeY; rw [if_neg hm]
    have HE : Hid (changeY T P N rounds C = []) := e2
    clear hok hm e2
    go_wp2
    go_ret2
    exact ⟨by rw [HE.out]; rfl, HB1.out.alloc HB1.out.size _⟩

end Go.Proofs.YtbjiamaaocjbfaaGreatDoor.Kp
