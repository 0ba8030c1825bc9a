import Derived.Test.YtpoipgmphhfgeaaPaD
namespace Go.Proofs.Ytpoipgmphhfgeaa.Pa
open Go.RowKit Go.Lib

set_option maxRecDepth 20000 in
set_option maxHeartbeats 1000000 in
theorem rinside_any (w : World) (v u : Value) (P Q : List ByteArray) (h1 : See w v P) (h2 : See w u Q) (hn : P.length ≤ 9223372036854775000) : Calls Try.prog 11 #[v, u] w fun e w' => e = .returned (.bool (decide (P <+: Q))) ∧ Below w.heap.size w w' := by
  have HA : Hid (∀ W, Below w.heap.size w W → See W v P) := fun W hb => h1.below hb
  have HB : Hid (∀ W, Below w.heap.size w W → See W u Q) := fun W hb => h2.below hb
  obtain ⟨a1, k1, rfl, -⟩ := h1
  obtain ⟨a2, k2, rfl, -⟩ := h2
  obtain ⟨n, hl⟩ : ∃ n, P.length = n := ⟨_, rfl⟩
  obtain ⟨m, hm⟩ : ∃ m, Q.length = m := ⟨_, rfl⟩
  rw [hl] at HA hn ⊢
  rw [hm] at HB ⊢
  have HL : Hid (P.length = n) := hl
  have HM : Hid (Q.length = m) := hm
  obtain ⟨R, hR⟩ : ∃ R, decide (P <+: Q) = R := ⟨_, rfl⟩
  rw [hR]
  have HR : Hid (decide (P <+: Q) = R) := hR
  clear hl hm hR
  by_cases hmn : m < n
  · obtain rfl : R = false := by
      rw [← HR.out]
      apply decide_eq_false
      intro hp
      have := hp.length_le
      have := HL.out
      have := HM.out
      omega
    go_enter Try.func11, Try.ntmps11
    go_wp2
    go_ret
    exact ⟨rfl, Below.refl _ _⟩
  go_enter Try.func11, Try.ntmps11
  go_wp2_with fail
  go_loopg [5] n (fun gk iv wr => ∃ k : Nat, k + gk = n ∧ iv = .int .i64 (k : Int) ∧ Hid (Below w.heap.size w wr) ∧ Hid (∀ i, i < k → P[i]? = Q[i]?))
  case atStart => exact ⟨0, by omega, rfl, Below.refl _ _, fun i h => by omega⟩
  case round =>
    obtain ⟨k, hk, rfl, HW, HZ⟩ := hrel
    have HKG : Hid (k + gk = n) := hk
    have hkn : k ≤ n := by omega
    clear hk
    by_cases hlt : k < n
    · have hltI : (k : Int) < (n : Int) := by omega
      have hltM : (k : Int) < (m : Int) := by omega
      obtain ⟨x, hx⟩ : ∃ x, P[k]? = some x := ⟨_, List.getElem?_eq_getElem (by have := HL.out; omega)⟩
      obtain ⟨y, hy⟩ : ∃ y, Q[k]? = some y := ⟨_, List.getElem?_eq_getElem (by have := HM.out; omega)⟩
      obtain ⟨b1, o1, rfl, c1⟩ := (HA.out _ HW.out).cell hx
      obtain ⟨b2, o2, rfl, c2⟩ := (HB.out _ HW.out).cell hy
      have HWN : Hid (∀ j, Below w.heap.size w (wr.drewN j)) := fun j => HW.out.trans ((bdN wr j).mono HW.out.size)
      by_cases hxy : x = y
      · subst hxy
        have HZ2 : Hid (∀ i, i < k + 1 → P[i]? = Q[i]?) := fun i hi => by
          by_cases h : i = k
          · subst h; rw [hx, hy]
          · exact HZ.out i (by omega)
        clear hx hy
        go_wp2_with fail
        go_quiet (fail)
        go_wp2_with fail
        go_roundg (gk - 1)
        case measure => have := HKG.out; omega
        case rel => exact ⟨k + 1, by have := HKG.out; omega, by go_num, HWN.out _, HZ2⟩
      · have hne := beq_ne hxy
        obtain rfl : R = false := by
          rw [← HR.out]
          apply decide_eq_false
          intro hp
          obtain ⟨t, rfl⟩ := hp
          rw [List.getElem?_append_left (by have := HL.out; omega), hx] at hy
          injection hy with hy
          exact hxy hy
        clear hx hy hxy
        go_wp2_with fail
        go_quiet (fail)
        go_wp2_with fail
        go_ret
        exact ⟨rfl, HWN.out _⟩
    · obtain rfl : k = n := by omega
      have hltI : ¬ (k : Int) < (k : Int) := by omega
      obtain rfl : R = true := by
        rw [← HR.out]
        apply decide_eq_true
        rw [List.prefix_iff_eq_take]
        apply List.ext_getElem?
        intro i
        rw [List.getElem?_take, HL.out]
        by_cases hi : i < k
        · rw [if_pos hi]; exact HZ.out i hi
        · rw [if_neg hi]; exact List.getElem?_eq_none (by rw [HL.out]; omega)
      go_wp2
      go_ret
      exact ⟨rfl, HW.out⟩
end Go.Proofs.Ytpoipgmphhfgeaa.Pa
