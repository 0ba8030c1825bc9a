import Derived.Test.YtbjiamaaocjbfaaDoorRdK
import Derived.Test.YtbjiamaaocjbfaaDoorPrB
import Derived.Test.YtbjiamaaocjbfaaDoorR7G
namespace Go.Proofs.YtbjiamaaocjbfaaDoor.Kl
open Go.RowKit Go.Lib Go.Deep Kr Kp

theorem lnum7 (z : Int) (w : World) : Calls Tryd.prog 7 #[.int .i64 z] w fun e w' => e = .returned (.int .i64 z) ∧ w = w' := by
  go_enter Tryd.func7, Tryd.ntmps7
  go_wp2
  go_ret
  exact ⟨rfl, rfl⟩

deriving instance DecidableEq for Kr.Slot

theorem ba_ne2 {a b : ByteArray} (h : a ≠ b) : ¬ a.toList = b.toList := fun e => h (by rw [toList_data, toList_data] at e; rw [← str_of a, ← str_of b, e])
theorem ba_ne {a b : ByteArray} (h : a ≠ b) : (a.toList == b.toList) = false := beq_eq_false_iff_ne.2 (ba_ne2 h)
theorem str_inj {a b : List UInt8} (h : str a = str b) : a = b := by
  have := congrArg (fun b => b.data.toList) h
  simpa only [str_data] using this
theorem bdN (w : World) (n : Nat) : Below w.heap.size w (w.drewN n) := ⟨rfl, rfl, rfl, Nat.le_refl _, fun _ _ => rfl⟩
theorem slot_ne {s t : Slot} (h : s ≠ t) : ¬ (str s.salt = str t.salt ∧ s.rounds = t.rounds ∧ str s.wrapped = str t.wrapped) := fun ⟨h1, h2, h3⟩ => h (by
  have a := congrArg (fun b => b.data.toList) h1
  have c := congrArg (fun b => b.data.toList) h3
  simp only [str_data] at a c
  cases s; cases t; simp_all)

set_option maxRecDepth 20000 in
set_option maxHeartbeats 1000000 in
theorem sameRing_any (i1 i2 : List UInt8) (v1 v2 : Value) (ss ts : List Slot) (w : World) (hS : SeeS w v1 ss) (hS2 : SeeS w v2 ts) (hn : ss.length ≤ 9223372036854775807) (hn2 : ts.length ≤ 9223372036854775807) :
    Calls Tryd.prog 8 #[.agg #[.string (str i1), v1], .agg #[.string (str i2), v2]] w fun e w' => e = .returned (.bool (decide (i1 = i2 ∧ ss = ts))) ∧ Below w.heap.size w w' := by
  obtain ⟨a, b, off, cap, rfl, h2, h3⟩ := hS.ex
  obtain ⟨a', b', off', cap', rfl, h2', h3'⟩ := hS2.ex
  clear hS hS2
  have H3 : Hid (∀ j u, (ringCells ss)[j]? = some u → w.cell? ⟨b, off + j, none⟩ = some u) := h3
  have H3' : Hid (∀ j u, (ringCells ts)[j]? = some u → w.cell? ⟨b', off' + j, none⟩ = some u) := h3'
  clear h3 h3'
  obtain ⟨W0, hW0⟩ : ∃ W, (w.alloc (.cells #[.string (str i1), .slice a ss.length cap] 24)).alloc (.cells #[.string (str i2), .slice a' ts.length cap'] 24) = W := ⟨_, rfl⟩
  have hb0 : Below w.heap.size w W0 := by rw [← hW0]; exact ((Below.refl _ _).alloc (Nat.le_refl _) _).alloc (by simp) _
  have hs0 : W0.heap.size = w.heap.size + 2 := by rw [← hW0]; simp
  have hp1 : W0.heap[w.heap.size + 1]? = some (.cells #[.string (str i2), .slice a' ts.length cap'] 24 (0, 0)) := by
    rw [← hW0]
    have := heap_new (w.alloc (.cells #[.string (str i1), .slice a ss.length cap] 24)) (.cells #[.string (str i2), .slice a' ts.length cap'] 24)
    rw [show (w.alloc (.cells #[.string (str i1), .slice a ss.length cap] 24)).heap.size = w.heap.size + 1 by simp] at this
    exact this
  have hp0 : W0.heap[w.heap.size]? = some (.cells #[.string (str i1), .slice a ss.length cap] 24 (0, 0)) := by
    rw [← hW0]
    exact (Below.heap_alloc _ _ _ (by simp)).trans (heap_new _ _)
  by_cases hid : i1 = i2
  · subst hid
    by_cases hl : ss.length = ts.length
    · obtain ⟨n, hnn⟩ : ∃ n, ss.length = n := ⟨_, rfl⟩
      rw [← hl] at h2' hn2 hp1 hW0 ⊢
      rw [hnn] at hn hn2 h2 h2' hp0 hp1 hW0 ⊢
      have x1 : W0.cell? ⟨w.heap.size, 0, none⟩ = some (.string (str i1)) := (cell_of_heap hp0).trans rfl
      have x2 : W0.cell? ⟨w.heap.size, 1, none⟩ = some (.slice a n cap) := (cell_of_heap hp0).trans rfl
      have x3 : W0.cell? ⟨w.heap.size + 1, 0, none⟩ = some (.string (str i1)) := (cell_of_heap hp1).trans rfl
      have x4 : W0.cell? ⟨w.heap.size + 1, 1, none⟩ = some (.slice a' n cap') := (cell_of_heap hp1).trans rfl
      have HL : Hid (ss.length = n ∧ ts.length = n) := ⟨hnn, by omega⟩
      have HR : Hid (∀ W, Below W0.heap.size W0 W → W.cell? ⟨w.heap.size, 1, none⟩ = some (.slice a n cap) ∧ W.cell? ⟨w.heap.size + 1, 1, none⟩ = some (.slice a' n cap') ∧ Below w.heap.size w W) := fun W hb =>
        ⟨(hb.cell (p := ⟨w.heap.size, 1, none⟩) (by show w.heap.size < _; omega)).trans x2, (hb.cell (p := ⟨w.heap.size + 1, 1, none⟩) (by show w.heap.size + 1 < _; omega)).trans x4, hb0.trans (hb.mono (by omega))⟩
      have hR : decide (i1 = i1 ∧ ss = ts) = decide (ss = ts) := by simp
      rw [hR]
      obtain ⟨R, hR⟩ : ∃ R, decide (ss = ts) = R := ⟨_, rfl⟩
      have HD : Hid (decide (ss = ts) = R) := hR
      rw [hR]
      clear hR hl hnn hp0 hp1 hs0 hb0
      generalize str i1 = yi at hW0 x1 x3
      go_enter Tryd.func8, Tryd.ntmps8
      go_wp2
      go_loopg [5] n (fun gk i wr => ∃ k : Nat, k + gk = n ∧ i = .int .i64 (k : Int) ∧ Hid (ss.take k = ts.take k) ∧ Below W0.heap.size W0 wr)
      case atStart => exact ⟨0, by omega, rfl, by show _ = _; simp, Below.refl _ _⟩
      case round =>
        clear x1 x2 x3 x4 hW0
        obtain ⟨k, hk, rfl, HV, hbel⟩ := hrel
        have HK : Hid (k + gk = n) := hk
        have hk' : k ≤ n := by omega
        clear hk
        obtain ⟨r1, r2, hbw⟩ := HR.out _ hbel
        by_cases hlt : k < n
        · have hltI : (k : Int) < (n : Int) := by omega
          obtain ⟨rfl, hb1⟩ := h2 (by omega)
          obtain ⟨rfl, hb2⟩ := h2' (by omega)
          obtain ⟨s, hs⟩ : ∃ s, ss[k]? = some s := ⟨_, List.getElem?_eq_getElem (by have := HL.out; omega)⟩
          obtain ⟨t, ht⟩ : ∃ t, ts[k]? = some t := ⟨_, List.getElem?_eq_getElem (by have := HL.out; omega)⟩
          obtain ⟨a0, a1, a2⟩ := ring_at ss k s hs
          obtain ⟨d0, d1, d2⟩ := ring_at ts k t ht
          have c0 := (hbw.cell (p := ⟨b, off + k * 3, none⟩) hb1).trans (H3.out _ _ a0)
          have c1 := (hbw.cell (p := ⟨b, off + (k * 3 + 1), none⟩) hb1).trans (H3.out _ _ a1)
          have c2 := (hbw.cell (p := ⟨b, off + (k * 3 + 2), none⟩) hb1).trans (H3.out _ _ a2)
          have g0 := (hbw.cell (p := ⟨b', off' + k * 3, none⟩) hb2).trans (H3'.out _ _ d0)
          have g1 := (hbw.cell (p := ⟨b', off' + (k * 3 + 1), none⟩) hb2).trans (H3'.out _ _ d1)
          have g2 := (hbw.cell (p := ⟨b', off' + (k * 3 + 2), none⟩) hb2).trans (H3'.out _ _ d2)
          rw [← Nat.add_assoc] at c1 c2 g1 g2
          clear a0 a1 a2 d0 d1 d2
          by_cases hst : s = t
          · subst hst
            have HV2 : Hid (ss.take (k + 1) = ts.take (k + 1)) := by
              show _ = _
              rw [List.take_add_one, List.take_add_one, hs, ht, HV.out]
            have HB9 : Hid _ := hbel
            clear hs ht hbel hbw HV
            generalize str s.salt = xa at c0 g0
            generalize str s.wrapped = xc at c2 g2
            generalize s.rounds = xb at c1 g1
            go_wp2_with fail
            go_quiet (fail)
            go_wp2
            go_roundg (gk - 1)
            case measure => have := HK.out; omega
            case rel => exact ⟨k + 1, by have := HK.out; omega, by go_num, HV2, HB9.out.trans ((bdN _ _).mono HB9.out.size)⟩
          · have hR1 : R = false := by
              rw [← HD.out]
              refine decide_eq_false (fun e => hst ?_)
              subst e
              rw [hs] at ht
              exact Option.some.inj ht
            subst hR1
            have hne := slot_ne hst
            have HB9 : Hid _ := hbw
            clear hs ht hbel hbw HV hst HD
            generalize str s.salt = xa at c0 hne
            generalize str s.wrapped = xc at c2 hne
            generalize s.rounds = xb at c1 hne
            generalize str t.salt = ya at g0 hne
            generalize str t.wrapped = yc at g2 hne
            generalize t.rounds = yb at g1 hne
            by_cases q1 : xa = ya
            · by_cases q2 : xb = yb
              · subst q1 q2
                have q3 : xc ≠ yc := fun h => hne ⟨rfl, rfl, h⟩
                have q3b := ba_ne q3
                clear hne
                go_wp2_with fail
                go_quiet (fail)
                go_wp2
                go_ret
                exact ⟨rfl, HB9.out.trans ((bdN _ _).mono HB9.out.size)⟩
              · subst q1
                have q2b : (xb == yb) = false := by simpa using q2
                clear hne
                go_wp2_with fail
                go_quiet (fail)
                go_wp2
                go_ret
                exact ⟨rfl, HB9.out.trans ((bdN _ _).mono HB9.out.size)⟩
            · have q1b := ba_ne q1
              clear hne
              go_wp2_with fail
              go_quiet (fail)
              go_wp2
              go_ret
              exact ⟨rfl, HB9.out.trans ((bdN _ _).mono HB9.out.size)⟩
        · obtain rfl : k = n := by omega
          have hR1 : R = true := by
            have h := HV.out
            rw [List.take_of_length_le (by have := HL.out; omega), List.take_of_length_le (by have := HL.out; omega)] at h
            rw [← HD.out, h]
            simp
          subst hR1
          have hltI : ¬ (k : Int) < (k : Int) := by omega
          clear HD HV
          go_wp2
          go_ret
          exact ⟨rfl, hbw⟩
    · have hlI : ¬ (ss.length : Int) = (ts.length : Int) := by omega
      have hR : decide (i1 = i1 ∧ ss = ts) = false := decide_eq_false (fun ⟨_, e⟩ => hl (by rw [e]))
      rw [hR]
      have x1 : W0.cell? ⟨w.heap.size, 0, none⟩ = some (.string (str i1)) := (cell_of_heap hp0).trans rfl
      have x2 : W0.cell? ⟨w.heap.size, 1, none⟩ = some (.slice a ss.length cap) := (cell_of_heap hp0).trans rfl
      have x3 : W0.cell? ⟨w.heap.size + 1, 0, none⟩ = some (.string (str i1)) := (cell_of_heap hp1).trans rfl
      have x4 : W0.cell? ⟨w.heap.size + 1, 1, none⟩ = some (.slice a' ts.length cap') := (cell_of_heap hp1).trans rfl
      have HB9 : Hid _ := hb0
      clear hR hp0 hp1 hs0 hb0 H3 H3' h2 h2'
      generalize str i1 = yi at hW0 x1 x3
      generalize ss.length = n at *
      generalize ts.length = n' at *
      go_enter Tryd.func8, Tryd.ntmps8
      go_wp2
      go_ret
      exact ⟨rfl, HB9.out⟩
  · have hR : decide (i1 = i2 ∧ ss = ts) = false := decide_eq_false (fun ⟨e, _⟩ => hid e)
    rw [hR]
    have x1 : W0.cell? ⟨w.heap.size, 0, none⟩ = some (.string (str i1)) := (cell_of_heap hp0).trans rfl
    have x3 : W0.cell? ⟨w.heap.size + 1, 0, none⟩ = some (.string (str i2)) := (cell_of_heap hp1).trans rfl
    have q1 : (str i1).toList = (str i2).toList → False := ba_ne2 (fun e => hid (str_inj e))
    have q1b := ba_ne (fun e => hid (str_inj e))
    have HB9 : Hid _ := hb0
    clear hR hp0 hp1 hs0 hb0 H3 H3' h2 h2' hid
    generalize str i1 = yi at *
    generalize str i2 = yj at *
    go_enter Tryd.func8, Tryd.ntmps8
    go_wp2
    go_ret
    exact ⟨rfl, HB9.out⟩

end Go.Proofs.YtbjiamaaocjbfaaDoor.Kl
