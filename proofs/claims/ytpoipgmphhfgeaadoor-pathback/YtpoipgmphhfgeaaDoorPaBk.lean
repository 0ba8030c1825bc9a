import Derived.Test.YtpoipgmphhfgeaaDoorPaZ
namespace Go.Proofs.YtpoipgmphhfgeaaDoor.Pa
open Go.RowKit Go.Lib

set_option maxRecDepth 20000 in
set_option maxHeartbeats 2000000 in
theorem back_walk (s : ByteArray) (w : World) (v : Value) (L : List ByteArray) (h1 : See w v L) (hn : L.length ≤ 8796093022000) : Calls Tryd.prog 4 #[.string s, v] w fun e w' => e = .returned (.bool true) ∧ Below w.heap.size w w' := by
  have HA : Hid (∀ W, Below w.heap.size w W → See W v L) := fun W hb => h1.below hb
  have hp := parse_any s w
  obtain ⟨a1, k1, rfl, -⟩ := h1
  have HN : Hid (L.length ≤ 8796093022000) := hn
  obtain ⟨n, hln⟩ : ∃ n, L.length = n := ⟨_, rfl⟩
  rw [hln] at HA ⊢
  have HL : Hid (L.length = n) := hln
  clear hn hln
  by_cases h0 : parseE s = 0
  · rw [h0] at hp
    go_enter Tryd.func4, Tryd.ntmps4
    go_wp2_with fail
    refine hp.mono ?_
    rintro e w1 ⟨⟨u1, rfl, ho1⟩, hb1⟩
    have ht := text_any w1 u1 (parseY s) ho1.see (by have := (parse_len s).1; omega)
    rw [(parse_text h0).1, (parse_text h0).2] at ht
    have hpl := (parse_len s).1
    have HPN : Hid ((parseY s).all nm = true) := (parse_len s).2
    have HO1 : Hid (∀ W, Below w1.heap.size w1 W → See W u1 (parseY s)) := fun W hb => (ho1.below hb).see
    obtain ⟨a2, k2, rfl⟩ := ho1.len
    obtain ⟨m, hm⟩ : ∃ m, (parseY s).length = m := ⟨_, rfl⟩
    rw [hm] at HO1 hpl ht ⊢
    have HM : Hid ((parseY s).length = m) := hm
    have hmI : ¬ (16 : Int) < (m : Int) := by omega
    clear hm ho1
    go_wp2_with (first
      | (go_at_call 9; refine (num_any _ _).mono ?_; rintro e w4 ⟨rfl, h4⟩; rw [h4]; clear h4 w4)
      | (go_at_call 10; refine ht.mono ?_; rintro e w2 ⟨rfl, hb2⟩))
    have hb02 := hb1.trans (hb2.mono hb1.size)
    go_loopg [9] m (fun gk iv wr => ∃ k : Nat, k + gk = m ∧ iv = .int .i64 (k : Int) ∧ Hid (Below w1.heap.size w1 wr))
    case atStart => exact ⟨0, by omega, rfl, hb2⟩
    case round =>
      obtain ⟨k, hk, rfl, HW⟩ := hrel
      have HKG : Hid (k + gk = m) := hk
      have hkn : k ≤ m := by omega
      clear hk
      by_cases hlt : k < m
      · have hltI : (k : Int) < (m : Int) := by omega
        obtain ⟨x, hx⟩ : ∃ x, (parseY s)[k]? = some x := ⟨_, List.getElem?_eq_getElem (by have := HM.out; omega)⟩
        obtain ⟨b, off, rfl, hc⟩ := (HO1.out _ HW.out).cell hx
        have hnx := name_any x wr
        rw [nameE_ok (List.all_eq_true.1 HPN.out x (List.mem_of_getElem? hx))] at hnx
        clear hx
        go_wp2_with (first
          | (go_at_call 11; refine hnx.mono ?_; rintro e w3 ⟨rfl, hb3⟩)
          | (go_at_call 9; refine (num_any _ _).mono ?_; rintro e w4 ⟨rfl, h4⟩; rw [h4]; clear h4 w4))
        go_roundg (gk - 1)
        case measure => have := HKG.out; omega
        case rel => exact ⟨k + 1, by have := HKG.out; omega, by go_num, HW.out.trans (hb3.mono HW.out.size)⟩
      · obtain rfl : k = m := by omega
        have hltI : ¬ (k : Int) < (k : Int) := by omega
        have hbX : Below w.heap.size w wr := hb1.trans (HW.out.mono hb1.size)
        clear hb02 ht hp
        by_cases hf : fault L = 0
        · have HTX : Hid (∀ W v, See W v L → Calls Tryd.prog 10 #[v] W fun e w' => e = .returned (.tuple #[.string (textY L), .int .i64 0]) ∧ Below W.heap.size W w') := fun W v hv => by
            have h := text_any W v L hv (by have := HN.out; omega)
            rw [hf] at h
            exact h
          have HPX : Hid (∀ W, Calls Tryd.prog 6 #[.string (textY L)] W fun e w' => (∃ u, e = .returned (.tuple #[u, .int .i64 0]) ∧ Own w' W.heap.size u L) ∧ Below W.heap.size W w') := fun W => by
            have h := parse_any (textY L) W
            rw [(text_parse hf).1, (text_parse hf).2] at h
            exact h
          generalize textY L = Y at HTX HPX
          go_wp2_with (first
            | (at_builtin; refine wpList_app rfl _ _ rfl wr.heap.size _ _ [] L rfl (Own.nil _ _) rfl (HA.out _ hbX) (by have := HN.out; simp; omega) (Nat.le_refl _) ?_; intro v5 w5 ho5 hb5)
            | (go_at_call 10; refine (HTX.out _ _ ho5.see).mono ?_; rintro e w6 ⟨rfl, hb6⟩)
            | (go_at_call 9; refine (num_any _ _).mono ?_; rintro e w4 ⟨rfl, h4⟩; rw [h4]; clear h4 w4)
            | (go_at_call 6; refine (HPX.out _).mono ?_; rintro e w7 ⟨⟨u7, rfl, ho7⟩, hb7⟩; have h57 := hbX.trans ((hb5.trans ((hb6.trans (hb7.mono hb6.size)).mono hb5.size)).mono hbX.size))
            | (go_at_call 8; refine (same_any _ _ _ L ho7.see (HA.out _ h57) (by have := HN.out; omega)).mono ?_; rintro e w8 ⟨rfl, hb8⟩)
            | (go_at_call 12; refine (works_any _).mono ?_; rintro e w9 ⟨rfl, hb9⟩))
          go_ret
          exact ⟨rfl, h57.trans ((hb8.trans (hb9.mono hb8.size)).mono h57.size)⟩
        · have HTX : Hid (∀ W v, See W v L → Calls Tryd.prog 10 #[v] W fun e w' => e = .returned (.tuple #[.string { data := #[] }, .int .i64 (fault L)]) ∧ Below W.heap.size W w') := fun W v hv => by
            have h := text_any W v L hv (by have := HN.out; omega)
            have e : textY L = { data := #[] } := by unfold textY; rw [if_neg hf]; rfl
            rw [e] at h
            exact h
          generalize fault L = E at *
          have hE : (E == 0) = false := beq_eq_false_iff_ne.2 hf
          go_wp2_with (first
            | (at_builtin; refine wpList_app rfl _ _ rfl wr.heap.size _ _ [] L rfl (Own.nil _ _) rfl (HA.out _ hbX) (by have := HN.out; simp; omega) (Nat.le_refl _) ?_; intro v5 w5 ho5 hb5)
            | (go_at_call 10; refine (HTX.out _ _ ho5.see).mono ?_; rintro e w6 ⟨rfl, hb6⟩; have h56 := hbX.trans ((hb5.trans (hb6.mono hb5.size)).mono hbX.size))
            | (go_at_call 9; refine (num_any _ _).mono ?_; rintro e w4 ⟨rfl, h4⟩; rw [h4]; clear h4 w4)
            | (go_at_call 12; refine (works_any _).mono ?_; rintro e w9 ⟨rfl, hb9⟩))
          go_ret
          exact ⟨rfl, h56.trans (hb9.mono h56.size)⟩
  · have hY := parse_nil h0
    rw [hY] at hp
    have h0B : (parseE s == 0) = false := beq_eq_false_iff_ne.2 h0
    generalize parseE s = E0 at *
    go_enter Tryd.func4, Tryd.ntmps4
    go_wp2_with fail
    refine hp.mono ?_
    rintro e w1 ⟨⟨u1, rfl, ho1⟩, hb1⟩
    obtain ⟨a2, k2, rfl⟩ := ho1.len
    clear ho1 hp
    by_cases hf : fault L = 0
    · have HTX : Hid (∀ W v, See W v L → Calls Tryd.prog 10 #[v] W fun e w' => e = .returned (.tuple #[.string (textY L), .int .i64 0]) ∧ Below W.heap.size W w') := fun W v hv => by
        have h := text_any W v L hv (by have := HN.out; omega)
        rw [hf] at h
        exact h
      have HPX : Hid (∀ W, Calls Tryd.prog 6 #[.string (textY L)] W fun e w' => (∃ u, e = .returned (.tuple #[u, .int .i64 0]) ∧ Own w' W.heap.size u L) ∧ Below W.heap.size W w') := fun W => by
        have h := parse_any (textY L) W
        rw [(text_parse hf).1, (text_parse hf).2] at h
        exact h
      generalize textY L = Y at HTX HPX
      go_wp2_with (first
        | (at_builtin; refine wpList_app rfl _ _ rfl w1.heap.size _ _ [] L rfl (Own.nil _ _) rfl (HA.out _ hb1) (by have := HN.out; simp; omega) (Nat.le_refl _) ?_; intro v5 w5 ho5 hb5)
        | (go_at_call 10; refine (HTX.out _ _ ho5.see).mono ?_; rintro e w6 ⟨rfl, hb6⟩)
        | (go_at_call 9; refine (num_any _ _).mono ?_; rintro e w4 ⟨rfl, h4⟩; rw [h4]; clear h4 w4)
        | (go_at_call 6; refine (HPX.out _).mono ?_; rintro e w7 ⟨⟨u7, rfl, ho7⟩, hb7⟩; have h57 := hb1.trans ((hb5.trans ((hb6.trans (hb7.mono hb6.size)).mono hb5.size)).mono hb1.size))
        | (go_at_call 8; refine (same_any _ _ _ L ho7.see (HA.out _ h57) (by have := HN.out; omega)).mono ?_; rintro e w8 ⟨rfl, hb8⟩)
        | (go_at_call 12; refine (works_any _).mono ?_; rintro e w9 ⟨rfl, hb9⟩))
      go_ret
      exact ⟨rfl, h57.trans ((hb8.trans (hb9.mono hb8.size)).mono h57.size)⟩
    · have HTX : Hid (∀ W v, See W v L → Calls Tryd.prog 10 #[v] W fun e w' => e = .returned (.tuple #[.string { data := #[] }, .int .i64 (fault L)]) ∧ Below W.heap.size W w') := fun W v hv => by
        have h := text_any W v L hv (by have := HN.out; omega)
        have e : textY L = { data := #[] } := by unfold textY; rw [if_neg hf]; rfl
        rw [e] at h
        exact h
      generalize fault L = E at *
      have hE : (E == 0) = false := beq_eq_false_iff_ne.2 hf
      go_wp2_with (first
        | (at_builtin; refine wpList_app rfl _ _ rfl w1.heap.size _ _ [] L rfl (Own.nil _ _) rfl (HA.out _ hb1) (by have := HN.out; simp; omega) (Nat.le_refl _) ?_; intro v5 w5 ho5 hb5)
        | (go_at_call 10; refine (HTX.out _ _ ho5.see).mono ?_; rintro e w6 ⟨rfl, hb6⟩; have h56 := hb1.trans ((hb5.trans (hb6.mono hb5.size)).mono hb1.size))
        | (go_at_call 9; refine (num_any _ _).mono ?_; rintro e w4 ⟨rfl, h4⟩; rw [h4]; clear h4 w4)
        | (go_at_call 12; refine (works_any _).mono ?_; rintro e w9 ⟨rfl, hb9⟩))
      go_ret
      exact ⟨rfl, h56.trans (hb9.mono h56.size)⟩
end Go.Proofs.YtpoipgmphhfgeaaDoor.Pa
