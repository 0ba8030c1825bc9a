import Derived.Test.YtpoipgmphhfgeabDoorPaL
import Derived.Test.YtpoipgmphhfgeabDoorPaC
namespace Go.Proofs.YtpoipgmphhfgeabDoor.Pa
open Go.RowKit Go.Lib

theorem See.cell {w : World} {a : Option Addr} {n c : Nat} {L : List ByteArray} (h : See w (.slice a n c) L) {k : Nat} {x : ByteArray} (hx : L[k]? = some x) : ∃ b off, a = some ⟨b, off, none⟩ ∧ w.cell? ⟨b, off + k, none⟩ = some (.string x) := by
  obtain ⟨a', c', h1, _, _, h4⟩ := h
  injection h1 with e1 _ e2
  subst e1 e2
  obtain ⟨b, off, e, _, hc⟩ := h4 (fun e => by rw [e] at hx; cases hx)
  exact ⟨b, off, e, hc k x hx⟩
theorem beq_ne {x y : ByteArray} (h : x ≠ y) : (x.toList == y.toList) = false := by
  apply beq_eq_false_iff_ne.2
  intro e
  rw [toList_data, toList_data] at e
  exact h (by rw [← str_of x, ← str_of y, e])
theorem fault_bad {L : List ByteArray} {k : Nat} {x : ByteArray} (hx : L[k]? = some x) (h : nm x = false) : fault L = 111 := by
  unfold fault
  rw [if_neg]
  intro hh
  have := List.all_eq_true.1 hh x (List.mem_of_getElem? hx)
  rw [h] at this
  cases this
theorem all_of {L : List ByteArray} {n : Nat} (hl : L.length = n) (h : ∀ i x, i < n → L[i]? = some x → nm x = true) : L.all nm = true := by
  rw [List.all_eq_true]
  intro c hc
  obtain ⟨i, hi⟩ := List.mem_iff_getElem?.1 hc
  exact h i c (by have := (List.getElem?_eq_some_iff.1 hi).1; omega) hi

set_option maxRecDepth 20000 in
set_option maxHeartbeats 1000000 in
theorem fault_any (w : World) (v : Value) (L : List ByteArray) (h1 : See w v L) (hn : L.length ≤ 9223372036854775000) : Calls Tryd.prog 18 #[v] w fun e w' => e = .returned (.int .i64 (fault L)) ∧ Below w.heap.size w w' := by
  have HA : Hid (∀ W, Below w.heap.size w W → See W v L) := fun W hb => h1.below hb
  obtain ⟨a1, k1, rfl, -⟩ := h1
  obtain ⟨n, hl⟩ : ∃ n, L.length = n := ⟨_, rfl⟩
  rw [hl] at HA hn ⊢
  have HL : Hid (L.length = n) := hl
  obtain ⟨R, hR⟩ : ∃ R, fault L = R := ⟨_, rfl⟩
  rw [hR]
  have HR : Hid (fault L = R) := hR
  clear hl hR
  go_enter Tryd.func18, Tryd.ntmps18
  go_wp2_with fail
  go_loopg [8] n (fun gk iv wr => ∃ k : Nat, k + gk = n ∧ iv = .int .i64 (k : Int) ∧ Hid (Below w.heap.size w wr) ∧ Hid (∀ i x, i < k → L[i]? = some x → nm x = true))
  case atStart => exact ⟨0, by omega, rfl, Below.refl _ _, fun i x h => by omega⟩
  case round =>
    obtain ⟨k, hk, rfl, HW, HZ⟩ := hrel
    have HKG : Hid (k + gk = n) := hk
    have hkn : k ≤ n := by omega
    clear hk
    by_cases hlt : k < n
    · have hltI : (k : Int) < (n : Int) := by omega
      obtain ⟨x, hx⟩ : ∃ x, L[k]? = some x := ⟨_, List.getElem?_eq_getElem (by have := HL.out; omega)⟩
      obtain ⟨b, off, rfl, hc⟩ := (HA.out _ HW.out).cell hx
      cases hb : nm x
      · have h2 : ¬ (111 : Int) = 0 := by decide
        have hc1 := name_any x wr
        rw [nameE_of hb] at hc1
        obtain rfl : R = 111 := by rw [← HR.out]; exact fault_bad hx hb
        clear hx hb
        go_wp2_with (go_at_call 31; refine hc1.mono ?_; rintro e w1 ⟨rfl, hb1⟩)
        go_ret
        exact ⟨rfl, HW.out.trans (hb1.mono HW.out.size)⟩
      · have hc1 := name_any x wr
        rw [nameE_ok hb] at hc1
        have HZ2 : Hid (∀ i x, i < k + 1 → L[i]? = some x → nm x = true) := fun i y hi hy => by
          by_cases h : i = k
          · subst h; rw [hx] at hy; injection hy with hy; subst hy; exact hb
          · exact HZ.out i y (by omega) hy
        clear hx hb
        go_wp2_with (go_at_call 31; refine hc1.mono ?_; rintro e w1 ⟨rfl, hb1⟩)
        go_roundg (gk - 1)
        case measure => have := HKG.out; omega
        case rel => exact ⟨k + 1, by have := HKG.out; omega, by go_num, HW.out.trans (hb1.mono HW.out.size), HZ2⟩
    · obtain rfl : k = n := by omega
      have hltI : ¬ (k : Int) < (k : Int) := by omega
      have ha := all_of HL.out HZ.out
      by_cases h16 : k ≤ 16
      · have h16I : ¬ (16 : Int) < (k : Int) := by omega
        obtain rfl : R = 0 := by rw [← HR.out]; unfold fault; rw [if_pos ha, if_pos (by rw [HL.out]; exact h16)]
        clear ha
        go_wp2
        go_ret
        exact ⟨rfl, HW.out⟩
      · have h16I : (16 : Int) < (k : Int) := by omega
        obtain rfl : R = 112 := by rw [← HR.out]; unfold fault; rw [if_pos ha, if_neg (by rw [HL.out]; exact h16)]
        clear ha
        go_wp2
        go_ret
        exact ⟨rfl, HW.out⟩

set_option maxRecDepth 20000 in
set_option maxHeartbeats 1000000 in
theorem rnames_any (w : World) (v : Value) (L : List ByteArray) (h1 : See w v L) (hn : L.length ≤ 9223372036854775000) : Calls Tryd.prog 36 #[v] w fun e w' => e = .returned (.int .i64 (fault L)) ∧ Below w.heap.size w w' := by
  have HA : Hid (∀ W, Below w.heap.size w W → See W v L) := fun W hb => h1.below hb
  obtain ⟨a1, k1, rfl, -⟩ := h1
  obtain ⟨n, hl⟩ : ∃ n, L.length = n := ⟨_, rfl⟩
  rw [hl] at HA hn ⊢
  have HL : Hid (L.length = n) := hl
  obtain ⟨R, hR⟩ : ∃ R, fault L = R := ⟨_, rfl⟩
  rw [hR]
  have HR : Hid (fault L = R) := hR
  clear hl hR
  go_enter Tryd.func36, Tryd.ntmps36
  go_wp2_with fail
  go_loopg [3] n (fun gk iv wr => ∃ k : Nat, k + gk = n ∧ iv = .int .i64 (k : Int) ∧ Hid (Below w.heap.size w wr) ∧ Hid (∀ i x, i < k → L[i]? = some x → nm x = true))
  case atStart => exact ⟨0, by omega, rfl, Below.refl _ _, fun i x h => by omega⟩
  case round =>
    obtain ⟨k, hk, rfl, HW, HZ⟩ := hrel
    have HKG : Hid (k + gk = n) := hk
    have hkn : k ≤ n := by omega
    clear hk
    by_cases hlt : k < n
    · have hltI : (k : Int) < (n : Int) := by omega
      obtain ⟨x, hx⟩ : ∃ x, L[k]? = some x := ⟨_, List.getElem?_eq_getElem (by have := HL.out; omega)⟩
      obtain ⟨b, off, rfl, hc⟩ := (HA.out _ HW.out).cell hx
      cases hb : nm x
      · have h2 : ¬ (111 : Int) = 0 := by decide
        have hc1 := rname_any x wr
        rw [nameE_of hb] at hc1
        obtain rfl : R = 111 := by rw [← HR.out]; exact fault_bad hx hb
        clear hx hb
        go_wp2_with (go_at_call 46; refine hc1.mono ?_; rintro e w1 ⟨rfl, hb1⟩)
        go_ret
        exact ⟨rfl, hb1 ▸ HW.out⟩
      · have hc1 := rname_any x wr
        rw [nameE_ok hb] at hc1
        have HZ2 : Hid (∀ i x, i < k + 1 → L[i]? = some x → nm x = true) := fun i y hi hy => by
          by_cases h : i = k
          · subst h; rw [hx] at hy; injection hy with hy; subst hy; exact hb
          · exact HZ.out i y (by omega) hy
        clear hx hb
        go_wp2_with (go_at_call 46; refine hc1.mono ?_; rintro e w1 ⟨rfl, hb1⟩)
        go_roundg (gk - 1)
        case measure => have := HKG.out; omega
        case rel => exact ⟨k + 1, by have := HKG.out; omega, by go_num, hb1 ▸ HW.out, HZ2⟩
    · obtain rfl : k = n := by omega
      have hltI : ¬ (k : Int) < (k : Int) := by omega
      have ha := all_of HL.out HZ.out
      by_cases h16 : k ≤ 16
      · have h16I : ¬ (16 : Int) < (k : Int) := by omega
        obtain rfl : R = 0 := by rw [← HR.out]; unfold fault; rw [if_pos ha, if_pos (by rw [HL.out]; exact h16)]
        clear ha
        go_wp2
        go_ret
        exact ⟨rfl, HW.out⟩
      · have h16I : (16 : Int) < (k : Int) := by omega
        obtain rfl : R = 112 := by rw [← HR.out]; unfold fault; rw [if_pos ha, if_neg (by rw [HL.out]; exact h16)]
        clear ha
        go_wp2
        go_ret
        exact ⟨rfl, HW.out⟩
end Go.Proofs.YtpoipgmphhfgeabDoor.Pa
