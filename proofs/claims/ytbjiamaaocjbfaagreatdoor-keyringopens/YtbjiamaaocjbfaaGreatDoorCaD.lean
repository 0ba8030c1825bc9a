import Derived.Test.YtbjiamaaocjbfaaGreatDoorCaM
namespace Go.Proofs.YtbjiamaaocjbfaaGreatDoor.Kp
open Go.RowKit Go.Lib Go.Deep Kr

theorem own_ne {w : World} {B n size g : Nat} {v : Value} {e T : TypeId} {xs : List Value} {cs : Array Value} {fr : Nat × Nat} (h : w.ownsRow B e size v n xs) (hg : w.heap[g]? = some (.cells cs T fr)) (hT : T ≠ e) : v.ownBlock ≠ some g := by
  rcases h.2 with ⟨rfl, _⟩ | ⟨g', cap, cur, rfl, _, hg', _⟩
  · simp [Value.ownBlock]
  · simp [Value.ownBlock]
    rintro rfl
    rw [hg] at hg'
    simp at hg'
    exact hT hg'.2.1
theorem grown_other {w w' : World} {B n size g : Nat} {v : Value} {e T : TypeId} {xs : List Value} {cs : Array Value} {fr : Nat × Nat} (hw : w.grownBy w' v.ownBlock) (h : w.ownsRow B e size v n xs) (hg : w.heap[g]? = some (.cells cs T fr)) (hT : T ≠ e) : w'.heap[g]? = w.heap[g]? :=
  hw.block g (heap_lt hg) (fun e => own_ne h hg hT e.symm)
theorem owns_set_other {w : World} {B n size : Nat} {v y : Value} {e T : TypeId} {xs : List Value} {p : Addr} {cs : Array Value} {fr : Nat × Nat} (h : w.ownsRow B e size v n xs) (hg : w.heap[p.block]? = some (.cells cs T fr)) (hT : T ≠ e) : (w.setCell p y).ownsRow B e size v n xs := by
  have hne := own_ne h hg hT
  obtain ⟨h1, h2⟩ := h
  refine ⟨h1, ?_⟩
  rcases h2 with h0 | ⟨g, cap, cur, e1, e2, e3, e4⟩
  · exact .inl h0
  · refine .inr ⟨g, cap, cur, e1, e2, (Below.heap_setCell _ _ _ _ (fun e => hne ?_)).trans e3, e4⟩
    rw [e1]
    simp [Value.ownBlock, e]
theorem opened_len {id p : List UInt8} {ss : List Slot} {m : List UInt8} {k : Nat} (hri : rightR id ss = true) (h : opensK id p ss = some (m, k)) : m.length = 32 := by
  obtain ⟨s, h1, h2, h3, _⟩ := opensK_some h
  obtain ⟨_, _, _, hss⟩ := right_parts hri
  have hs := hss s (List.mem_of_getElem? h1)
  rw [h3]
  unfold atY Ae.openY
  unfold atE at h2
  rw [if_pos h2, str_data]
  unfold Ae.openL
  rw [Cha.overL_length, List.length_take, str_data, List.length_drop]
  omega

set_option maxRecDepth 20000 in
set_option maxHeartbeats 2000000 in
theorem addC : AddC KT := by
  intro t p next coins rounds w ht hp hn hc hT
  obtain ⟨P, hP⟩ : ∃ l, p.data.toList = l := ⟨_, rfl⟩
  obtain ⟨N, hN⟩ : ∃ l, next.data.toList = l := ⟨_, rfl⟩
  obtain ⟨C, hC⟩ : ∃ l, coins.data.toList = l := ⟨_, rfl⟩
  rw [hP, hN, hC]
  obtain rfl : p = str P := by rw [← hP, str_of]
  obtain rfl : next = str N := by rw [← hN, str_of]
  obtain rfl : coins = str C := by rw [← hC, str_of]
  have c0 := unlockFor_any t (str P) (str N) (str C) rounds w ht hT.k
  rw [str_data] at c0
  clear hP hN hC hp hn hc
  generalize t.data.toList = T at c0 ⊢
  go_enter Tryz.func16, Tryz.ntmps16
  go_wp2_with fail
  refine c0.mono ?_
  clear c0
  rintro e w1 ⟨a, n, c, rfl, hown, hb1⟩
  obtain ⟨x, y1, y2, y3, z, u, hv, hok⟩ := forV_eq T P N rounds C a n c
  rw [hv]
  clear hv
  have HB1 : Hid _ := hb1
  have HO1 : Hid _ := hown
  clear hb1 hown
  by_cases hm : mayE T P N rounds C = 0
  · obtain ⟨hx0, hy1, hy2, hy3, hpe, hri, hfk, m, hop, hz0⟩ := hok hm
    subst x y1 y2 y3 z
    obtain ⟨l16, n1, n8, hss⟩ := right_parts hri
    have hal : a = a ∧ n = (parseS T).length := by
      obtain ⟨a1, n2, hv2⟩ := owns_len HO1.out
      injection hv2 with h1 h2 h3
      exact ⟨rfl, h2⟩
    have hnl := hal.2
    obtain ⟨hf1, hf2, hf3⟩ := fault_none hfk
    have hr2 := of_decide_eq_true hf2
    have hpn := of_decide_eq_true (hf1 (str N) (by simp))
    rw [str_data] at hpn
    have hml := opened_len hri hop
    have hg2 : (w1.alloc (.cells #[.string (str (parseI T)), .slice a n c] 32)).heap[w1.heap.size]? = some (.cells #[.string (str (parseI T)), .slice a n c] 32 (0, 0)) := heap_new _ _
    have hb2 : Below w.heap.size w (w1.alloc (.cells #[.string (str (parseI T)), .slice a n c] 32)) := HB1.out.alloc HB1.out.size _
    have ho2 : OwnS (w1.alloc (.cells #[.string (str (parseI T)), .slice a n c] 32)) w.heap.size (.slice a n c) (parseS T) := OwnS.below HO1.out ((Below.refl _ _).alloc (Nat.le_refl _) _)
    have g0 : (w1.alloc (.cells #[.string (str (parseI T)), .slice a n c] 32)).cell? ⟨w1.heap.size, 0, none⟩ = some (.string (str (parseI T))) := (cell_of_heap hg2).trans rfl
    have g1 : (w1.alloc (.cells #[.string (str (parseI T)), .slice a n c] 32)).cell? ⟨w1.heap.size, 1, none⟩ = some (.slice a n c) := (cell_of_heap hg2).trans rfl
    by_cases h8 : n = 8
    · subst h8
      have e1 : addE T P N rounds C = 74 := by unfold addE; rw [if_neg (by simp [hm]), if_pos (by omega)]
      have e2 : addY T P N rounds C = [] := by unfold addY; rw [e1, if_neg (by decide)]
      have HE : Hid (addE T P N rounds C = 74 ∧ addY T P N rounds C = []) := ⟨e1, e2⟩
      have HB2 : Hid _ := hb2
      rw [hm]
      clear hok hm e1 e2 hb2 ho2 hg2 hri hss hf1 hal hnl
      go_wp2
      go_ret2
      exact ⟨by rw [HE.out.1, HE.out.2]; rfl, HB2.out⟩
    · have h8I : ¬ (n : Int) = 8 := by omega
      have e1 : addE T P N rounds C = 0 := by unfold addE; rw [if_neg (by simp [hm]), if_neg (by omega)]
      have e2 : addY T P N rounds C = printY (parseI T) (parseS T ++ [madeK (parseI T) m N rounds C]) := by unfold addY slotN; rw [if_pos e1, hop]; rfl
      have e3 : printE (parseI T) (parseS T ++ [madeK (parseI T) m N rounds C]) = 0 := by
        refine (printY_of (right_mk l16 (by simp) (by rw [List.length_append]; simp; omega) fun s hs => ?_)).2
        rcases List.mem_append.1 hs with h | h
        · exact decide_eq_true (hss s h)
        · simp at h
          subst h
          exact made_ok hf3 hml hf2
      have HE : Hid (addE T P N rounds C = printE (parseI T) (parseS T ++ [madeK (parseI T) m N rounds C]) ∧ addY T P N rounds C = printY (parseI T) (parseS T ++ [madeK (parseI T) m N rounds C])) := ⟨by rw [e1, e3], e2⟩
      have hms := makeSlot_any (parseI T) m N C rounds _ (by omega) (by omega) (by omega) hr2 hf3 (hT.k.below hb2)
      rw [hm]
      have HNL : Hid (n = (parseS T).length) := hnl
      have hn7 : n ≤ 7 := by omega
      clear e1 e2 e3 hok hm hf1 hss hal hnl n1 n8
      generalize hsl : madeK (parseI T) m N rounds C = sl at hms HE
      unfold slotV at hms
      generalize hxa : str sl.salt = xa at hms
      generalize hxc : str sl.wrapped = xc at hms
      generalize hxr : sl.rounds = xr at hms
      have HX : Hid (str sl.salt = xa ∧ str sl.wrapped = xc ∧ sl.rounds = xr) := ⟨hxa, hxc, hxr⟩
      have HB2 : Hid _ := hb2
      have HO2 : Hid _ := ho2
      have HG2 : Hid _ := hg2
      clear hsl hxa hxc hxr hb2 ho2 hg2
      go_wp2_with fail
      refine hms.mono ?_
      clear hms g0 g1
      rintro e w3 ⟨rfl, hb3⟩
      have HB3 : Hid (Below w.heap.size w w3) := HB2.out.trans (hb3.mono HB2.out.size)
      have HO3 : Hid (OwnS w3 w.heap.size (.slice a n c) (parseS T)) := OwnS.below HO2.out hb3
      have HG3 : Hid (w3.heap[w1.heap.size]? = _) := (hb3.block _ (heap_lt HG2.out)).trans HG2.out
      have g0 : w3.cell? ⟨w1.heap.size, 0, none⟩ = some (.string (str (parseI T))) := (cell_of_heap HG3.out).trans rfl
      have g1 : w3.cell? ⟨w1.heap.size, 1, none⟩ = some (.slice a n c) := (cell_of_heap HG3.out).trans rfl
      have hs4 : (w3.alloc (.cells #[.string xa, .int .i64 xr, .string xc] 38)).heap[w3.heap.size]? = some (.cells #[.string xa, .int .i64 xr, .string xc] 38 (0, 0)) := heap_new _ _
      have hg4 : (w3.alloc (.cells #[.string xa, .int .i64 xr, .string xc] 38)).heap[w1.heap.size]? = _ := (Below.heap_alloc _ _ _ (heap_lt HG3.out)).trans HG3.out
      have hg5 : ((w3.alloc (.cells #[.string xa, .int .i64 xr, .string xc] 38)).alloc (.cells #[.string xa, .int .i64 xr, .string xc] 38)).heap[w1.heap.size]? = _ := (Below.heap_alloc _ _ _ (heap_lt hg4)).trans hg4
      have ho5 : OwnS ((w3.alloc (.cells #[.string xa, .int .i64 xr, .string xc] 38)).alloc (.cells #[.string xa, .int .i64 xr, .string xc] 38)) w.heap.size (.slice a n c) (parseS T) := OwnS.below HO3.out (((Below.refl _ _).alloc (Nat.le_refl _) _).alloc (by simp) _)
      have hb5 : Below w.heap.size w ((w3.alloc (.cells #[.string xa, .int .i64 xr, .string xc] 38)).alloc (.cells #[.string xa, .int .i64 xr, .string xc] 38)) := (HB3.out.alloc HB3.out.size _).alloc (by have := HB3.out.size; simp; omega) _
      have g0' : (w3.alloc (.cells #[.string xa, .int .i64 xr, .string xc] 38)).cell? ⟨w1.heap.size, 0, none⟩ = some (.string (str (parseI T))) := (cell_of_heap hg4).trans rfl
      have g1' : (w3.alloc (.cells #[.string xa, .int .i64 xr, .string xc] 38)).cell? ⟨w1.heap.size, 1, none⟩ = some (.slice a n c) := (cell_of_heap hg4).trans rfl
      have u0 : (w3.alloc (.cells #[.string xa, .int .i64 xr, .string xc] 38)).cell? ⟨w3.heap.size, 0, none⟩ = some (.string xa) := (cell_of_heap hs4).trans rfl
      have u1 : (w3.alloc (.cells #[.string xa, .int .i64 xr, .string xc] 38)).cell? ⟨w3.heap.size, 1, none⟩ = some (.int .i64 xr) := (cell_of_heap hs4).trans rfl
      have u2 : (w3.alloc (.cells #[.string xa, .int .i64 xr, .string xc] 38)).cell? ⟨w3.heap.size, 2, none⟩ = some (.string xc) := (cell_of_heap hs4).trans rfl
      have hnews : ∀ (j : Nat) q, ([.string xa, .int .i64 xr, .string xc] : List Value)[j]? = some q → ((w3.alloc (.cells #[.string xa, .int .i64 xr, .string xc] 38)).alloc (.cells #[.string xa, .int .i64 xr, .string xc] 38)).cell? (Addr.add ⟨w3.heap.size + 1, 0, none⟩ j) = some q := fun j q h => by
        have := cells_new (w3.alloc (.cells #[.string xa, .int .i64 xr, .string xc] 38)) #[.string xa, .int .i64 xr, .string xc] 38 j q (by simpa using h)
        rw [show (w3.alloc (.cells #[.string xa, .int .i64 xr, .string xc] 38)).heap.size = w3.heap.size + 1 by simp] at this
        exact this
      have hone : ∀ q ∈ ([.string xa, .int .i64 xr, .string xc] : List Value), q.oneCell' = true := fun q hq => by
        simp at hq
        rcases hq with rfl | rfl | rfl <;> rfl
      obtain ⟨i0, hi, hz0, hz1, hz2⟩ := info_S
      have ho5' : ((w3.alloc (.cells #[.string xa, .int .i64 xr, .string xc] 38)).alloc (.cells #[.string xa, .int .i64 xr, .string xc] 38)).ownsRow w.heap.size 38 3 (.slice a n c) n (ringCells (parseS T)) := by
        have h := ho5
        unfold OwnS at h
        rw [← HNL.out] at h
        exact h
      have HN5 : Hid _ := hnews
      have HO5 : Hid _ := ho5'
      have HW5 : Hid (w.heap.size ≤ ((w3.alloc (.cells #[.string xa, .int .i64 xr, .string xc] 38)).alloc (.cells #[.string xa, .int .i64 xr, .string xc] 38)).heap.size) := hb5.size
      have HB5 : Hid _ := hb5
      have HG5 : Hid _ := hg5
      clear hb3 HB2 HO2 HG2 hs4 hg4 hg5 ho5 ho5' hb5 hnews g0 g1 HB3 HO3 HG3
      go_wp2_with (at_builtin; refine wpList_append_own _ rfl _ _ 30 rfl w.heap.size 38 i0 (.agg #[.string { data := #[] }, .int .i64 0, .string { data := #[] }]) 3 40 Tryz.underlying30 hi hz0 hz1 hz2 rfl (by decide) (.slice a n c) n (ringCells (parseS T)) rfl HO5.out ⟨w3.heap.size + 1, 0, none⟩ 1 1 [.string xa, .int .i64 xr, .string xc] rfl rfl HN5.out hone (by unfold maxLen; omega) (by omega) HW5.out ?_; intro v' w' hown' hgrow' _; refine Hid.out ?_)
      unfold Hid
      obtain ⟨av', cv', rfl⟩ := owns_len hown'
      have hg6 : w'.heap[w1.heap.size]? = _ := (grown_other hgrow' HO5.out HG5.out (by decide)).trans HG5.out
      have hb6 : Below w.heap.size w w' := HB5.out.trans (grown_below hgrow' HW5.out HO5.out)
      have k0 : w'.cell? ⟨w1.heap.size, 0, none⟩ = some (.string (str (parseI T))) := (cell_of_heap hg6).trans rfl
      have k1 : w'.cell? ⟨w1.heap.size, 1, none⟩ = some (.slice a n c) := (cell_of_heap hg6).trans rfl
      have f1 : w'.frozen? ⟨w1.heap.size, 1, none⟩ = false := frozen_of_heap hg6
      have hg7 := heap_setCell_same w' w1.heap.size 1 _ _ (.slice av' (n + 1) cv') hg6
      have m0 : (w'.setCell ⟨w1.heap.size, 1, none⟩ (.slice av' (n + 1) cv')).cell? ⟨w1.heap.size, 0, none⟩ = some (.string (str (parseI T))) := (cell_of_heap hg7).trans rfl
      have m1 : (w'.setCell ⟨w1.heap.size, 1, none⟩ (.slice av' (n + 1) cv')).cell? ⟨w1.heap.size, 1, none⟩ = some (.slice av' (n + 1) cv') := (cell_of_heap hg7).trans rfl
      have ho7 : OwnS (w'.setCell ⟨w1.heap.size, 1, none⟩ (.slice av' (n + 1) cv')) w.heap.size (.slice av' (n + 1) cv') (parseS T ++ [sl]) := by
        unfold OwnS
        rw [ringCells_append, List.length_append, ← HNL.out]
        have e : ringCells [sl] = [.string xa, .int .i64 xr, .string xc] := by simp [ringCells, slotCells, HX.out.1, HX.out.2.1, HX.out.2.2]
        rw [e]
        exact owns_set_other hown' hg6 (by decide)
      have hb7 : Below w.heap.size w (w'.setCell ⟨w1.heap.size, 1, none⟩ (.slice av' (n + 1) cv')) := hb6.setCell HB1.out.size _
      have hpr := print_any (parseI T) (.slice av' (n + 1) cv') (parseS T ++ [sl]) _ (SeeS.of_own ho7) (by omega) (by rw [List.length_append, ← HNL.out]; simp; omega) (hT.below hb7).k.t (hT.below hb7).i (hT.below hb7).k.i
      have HB7 : Hid _ := hb7
      clear hown' hgrow' hg6 hg7 hb6 ho7 hb7 HB5 HG5 HO5 HW5 HN5 g0' g1' u0 u1 u2
      go_wp2_with fail
      refine hpr.mono ?_
      clear hpr
      rintro e w8 ⟨rfl, hb8⟩
      have HB8 : Hid _ := HB7.out.trans (hb8.mono HB7.out.size)
      clear hb8
      go_wp2
      go_ret2
      exact ⟨by rw [HE.out.1, HE.out.2]; rfl, HB8.out⟩
  · have hne : (mayE T P N rounds C != 0) = true := by simpa using hm
    have e1 : addE T P N rounds C = mayE T P N rounds C := by unfold addE; rw [if_pos hm]
    have e2 : addY T P N rounds C = [] := by unfold addY; rw [e1, if_neg hm]
    have HE : Hid (addE T P N rounds C = mayE T P N rounds C ∧ addY T P N rounds C = []) := ⟨e1, e2⟩
    clear hok hm e1 e2
    go_wp2
    go_ret2
    exact ⟨by rw [HE.out.1, HE.out.2]; rfl, HB1.out.alloc HB1.out.size _⟩

end Go.Proofs.YtbjiamaaocjbfaaGreatDoor.Kp
