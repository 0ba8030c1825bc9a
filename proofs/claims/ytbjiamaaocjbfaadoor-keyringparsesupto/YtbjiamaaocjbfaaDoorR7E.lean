import Derived.Test.YtbjiamaaocjbfaaDoorR7D
import Derived.Test.YtbjiamaaocjbfaaDoorKrP
namespace Go.Proofs.YtbjiamaaocjbfaaDoor.Kr
open Go.RowKit Go.Lib Go.Deep

set_option maxRecDepth 20000 in
set_option maxHeartbeats 1000000 in
theorem rright_any (id : List UInt8) (v : Value) (ss : List Slot) (w : World) (hS : SeeS w v ss) (hid : id.length ≤ 9223372036854775807) (hn : ss.length ≤ 9223372036854775807) :
    Calls Tryd.prog 18 #[.agg #[.string (str id), v]] w fun e w' => e = .returned (.bool (rightR id ss)) ∧ Below w.heap.size w w' := by
  obtain ⟨a, b, off, cap, rfl, h2, h3⟩ := hS.ex
  clear hS
  have H3 : Hid (∀ j u, (ringCells ss)[j]? = some u → w.cell? ⟨b, off + j, none⟩ = some u) := h3
  clear h3
  obtain ⟨n, hnn⟩ : ∃ n, ss.length = n := ⟨_, rfl⟩
  rw [hnn] at hn h2 ⊢
  obtain ⟨R, hR⟩ : ∃ R, rightR id ss = R := ⟨_, rfl⟩
  have HR : Hid (rightR id ss = R) := hR
  rw [hR]
  clear hR
  have hsz : (str id).size = id.length := str_size id
  obtain ⟨m, hm⟩ : ∃ m, id.length = m := ⟨_, rfl⟩
  have hidm : m ≤ 9223372036854775807 := hm ▸ hid
  rw [hm] at hsz
  clear hid
  by_cases h16 : m = 16
  · have j1 : (m : Int) = 16 := by omega
    by_cases hn1 : n < 1
    · have j2 : (n : Int) < 1 := by omega
      have hR1 : R = false := by rw [← HR.out]; unfold rightR; rw [decide_eq_false (by omega)]; rfl
      subst hR1
      generalize str id = yi at hsz
      go_enter Tryd.func18, Tryd.ntmps18
      go_wp2
      go_ret
      exact ⟨rfl, (Below.refl _ _).alloc (Nat.le_refl _) _⟩
    have j2 : ¬ (n : Int) < 1 := by omega
    by_cases hn8 : 8 < n
    · have j3 : (8 : Int) < (n : Int) := by omega
      have hR1 : R = false := by rw [← HR.out]; unfold rightR; rw [decide_eq_false (by omega)]; rfl
      subst hR1
      generalize str id = yi at hsz
      go_enter Tryd.func18, Tryd.ntmps18
      go_wp2
      go_ret
      exact ⟨rfl, (Below.refl _ _).alloc (Nat.le_refl _) _⟩
    have j3 : ¬ (8 : Int) < (n : Int) := by omega
    obtain ⟨rfl, hbw⟩ := h2 (by omega)
    have HL : Hid (ss.length = n) := hnn
    have HD : Hid (rightR id ss = ss.all slotOK) := by
      show _ = _
      unfold rightR
      rw [decide_eq_true (by omega)]
      rfl
    clear hnn hm
    have HA0 : Hid ((w.alloc (.cells #[.string (str id), .slice (some ⟨b, off, none⟩) n cap] 24)).heap[w.heap.size]? = some (.cells #[.string (str id), .slice (some ⟨b, off, none⟩) n cap] 24 (0, 0))) := heap_new _ _
    generalize str id = yi at hsz HA0
    go_enter Tryd.func18, Tryd.ntmps18
    go_wp2
    go_loopg [3] n (fun gk i wr => ∃ k : Nat, k + gk = n ∧ i = .int .i64 (k : Int) ∧ Hid ((ss.take k).all slotOK = true) ∧ Hid (wr.heap[w.heap.size]? = some (.cells #[.string yi, .slice (some ⟨b, off, none⟩) n cap] 24 (0, 0))) ∧ Below w.heap.size w wr)
    case atStart => exact ⟨0, by omega, rfl, by show _ = _; simp, HA0.out, (Below.refl _ _).alloc (Nat.le_refl _) _⟩
    case round =>
      clear HA0
      obtain ⟨k, hk, rfl, HV, HA, hbel⟩ := hrel
      have HK : Hid (k + gk = n) := hk
      have hk' : k ≤ n := by omega
      clear hk
      have r1 : wr.cell? ⟨w.heap.size, 1, none⟩ = some (.slice (some ⟨b, off, none⟩) n cap) := (cell_of_heap HA.out).trans rfl
      by_cases hlt : k < n
      · have hltI : (k : Int) < (n : Int) := by omega
        obtain ⟨s, hs⟩ : ∃ s, ss[k]? = some s := ⟨_, List.getElem?_eq_getElem (by have := HL.out; omega)⟩
        obtain ⟨a0, a1, a2⟩ := ring_at ss k s hs
        have c0 := (hbel.cell (p := ⟨b, off + k * 3, none⟩) hbw).trans (H3.out _ _ a0)
        have c1 := (hbel.cell (p := ⟨b, off + (k * 3 + 1), none⟩) hbw).trans (H3.out _ _ a1)
        have c2 := (hbel.cell (p := ⟨b, off + (k * 3 + 2), none⟩) hbw).trans (H3.out _ _ a2)
        rw [← Nat.add_assoc] at c1 c2
        clear a0 a1 a2
        have hz0 : (str s.salt).size = s.salt.length := str_size _
        have hz2 : (str s.wrapped).size = s.wrapped.length := str_size _
        have hb7 : Below w.heap.size w (wr.alloc (.cells #[.string (str s.salt), .int .i64 s.rounds, .string (str s.wrapped)] 26)) := hbel.alloc hbel.size _
        have HA7 : Hid ((wr.alloc (.cells #[.string (str s.salt), .int .i64 s.rounds, .string (str s.wrapped)] 26)).heap[w.heap.size]? = some (.cells #[.string yi, .slice (some ⟨b, off, none⟩) n cap] 24 (0, 0))) := (Below.heap_alloc _ _ _ (heap_lt HA.out)).trans HA.out
        have HB : Hid (slotOK s = false → R = false) := fun h => by rw [← HR.out]; exact right_bad hs h
        have HG : Hid (slotOK s = true → (ss.take (k + 1)).all slotOK = true) := fun h => by
          rw [List.take_add_one, hs, List.all_append, HV.out]
          simp [h]
        have HO : Hid (slotOK s = decide (s.salt.length = 16 ∧ 1 ≤ s.rounds ∧ s.rounds ≤ 4096 ∧ s.wrapped.length = 72)) := rfl
        generalize slotOK s = ok at HB HG HO
        clear hs hbel
        generalize str s.salt = xa at c0 hz0 hb7 HA7
        generalize str s.wrapped = xc at c2 hz2 hb7 HA7
        generalize s.salt.length = la at hz0 HO
        generalize s.wrapped.length = lc at hz2 HO
        generalize s.rounds = xb at c1 hb7 HA7 HO
        by_cases q1 : la = 16
        · have q1I : (la : Int) = 16 := by omega
          by_cases q2 : xb < 1
          · have hok : ok = false := by rw [HO.out]; exact decide_eq_false (by omega)
            have hR1 := HB.out hok
            subst hR1
            go_wp2
            go_ret
            exact ⟨rfl, hb7⟩
          · by_cases q3 : 4096 < xb
            · have hok : ok = false := by rw [HO.out]; exact decide_eq_false (by omega)
              have hR1 := HB.out hok
              subst hR1
              go_wp2
              go_ret
              exact ⟨rfl, hb7⟩
            · by_cases q4 : lc = 72
              · have q4I : (lc : Int) = 72 := by omega
                have hok : ok = true := by rw [HO.out]; exact decide_eq_true (by omega)
                have HG2 : Hid ((ss.take (k + 1)).all slotOK = true) := HG.out hok
                clear hok HG HB HO
                go_wp2
                go_roundg (gk - 1)
                case measure => have := HK.out; omega
                case rel => exact ⟨k + 1, by have := HK.out; omega, by go_num, HG2, HA7.out, hb7⟩
              · have q4I : ¬ (lc : Int) = 72 := by omega
                have hok : ok = false := by rw [HO.out]; exact decide_eq_false (by omega)
                have hR1 := HB.out hok
                subst hR1
                go_wp2
                go_ret
                exact ⟨rfl, hb7⟩
        · have q1I : ¬ (la : Int) = 16 := by omega
          have hok : ok = false := by rw [HO.out]; exact decide_eq_false (by omega)
          have hR1 := HB.out hok
          subst hR1
          go_wp2
          go_ret
          exact ⟨rfl, hb7⟩
      · obtain rfl : k = n := by omega
        have hR1 : R = true := by
          have h := HV.out
          rw [List.take_of_length_le (by have := HL.out; omega)] at h
          rw [← HR.out, HD.out, h]
        subst hR1
        have hltI : ¬ (k : Int) < (k : Int) := by omega
        clear HR HD HV
        go_wp2
        go_ret
        exact ⟨rfl, hbel⟩
  · have j1 : ¬ (m : Int) = 16 := by omega
    have hR1 : R = false := by rw [← HR.out]; unfold rightR; rw [decide_eq_false (by omega)]; rfl
    subst hR1
    generalize str id = yi at hsz
    go_enter Tryd.func18, Tryd.ntmps18
    go_wp2
    go_ret
    exact ⟨rfl, (Below.refl _ _).alloc (Nat.le_refl _) _⟩

end Go.Proofs.YtbjiamaaocjbfaaDoor.Kr
