import Derived.Test.YtpoipgmphhfgeaaDoorPaG
namespace Go.Proofs.YtpoipgmphhfgeaaDoor.Pa
open Go.RowKit Go.Lib

set_option maxRecDepth 20000 in
set_option maxHeartbeats 2000000 in
theorem joins_walk (w : World) (v : Value) (L : List ByteArray) (h1 : See w v L) (hn : L.length ≤ 8796093022000) (hy : ∀ s ∈ L, s.size ≤ 140737488351232) : Calls Tryd.prog 5 #[v] w fun e w' => e = .returned (.bool true) ∧ Below w.heap.size w w' := by
  have HA : Hid (∀ W, Below w.heap.size w W → See W v L) := fun W hb => h1.below hb
  have HT : Hid (∀ W v, See W v L → Calls Tryd.prog 10 #[v] W fun e w' => e = .returned (.tuple #[.string (textY L), .int .i64 (fault L)]) ∧ Below W.heap.size W w') := fun W v hv => text_any W v L hv (by omega)
  obtain ⟨a1, k1, rfl, -⟩ := h1
  obtain ⟨n, hln⟩ : ∃ n, L.length = n := ⟨_, rfl⟩
  rw [hln] at HA ⊢
  have HL : Hid (L.length = n) := hln
  have HY : Hid (∀ s ∈ L, s.size ≤ 140737488351232) := hy
  have HBY : Hid ((([] : List ByteArray).length + L.length) * 16 ≤ 140737488355328) := by show _ ≤ _; simp; omega
  clear hn hln hy
  by_cases hbig : 100 < n
  · have hbI : (100 : Int) < (n : Int) := by omega
    go_enter Tryd.func5, Tryd.ntmps5
    go_wp2_with (go_at_call 12; refine (works_any _).mono ?_; rintro e w9 ⟨rfl, hb9⟩)
    go_ret
    exact ⟨rfl, hb9⟩
  have hbI : ¬ (100 : Int) < (n : Int) := by omega
  go_enter Tryd.func5, Tryd.ntmps5
  go_wp2_with fail
  go_loopg [3, 4, 5] n (fun gk av tv iv wr => ∃ (k : Nat) (S : ByteArray) (A : Bool), k + gk = n ∧ iv = .int .i64 (k : Int) ∧ tv = .string S ∧ av = .bool A ∧ S.size ≤ k * 140737488351300 ∧ Hid (S = str (slashed (L.take k))) ∧ Hid (A = (L.take k).all nm) ∧ Hid (Below w.heap.size w wr))
  case atStart => exact ⟨0, { data := #[] }, true, by omega, rfl, rfl, rfl, Nat.le_refl _, rfl, rfl, Below.refl _ _⟩
  case round =>
    obtain ⟨k, S, A, hk, rfl, rfl, rfl, hz, HS, HAl, HW⟩ := hrel
    have HKG : Hid (k + gk = n) := hk
    have hkn : k ≤ n := by omega
    clear hk
    by_cases hlt : k < n
    · have hltI : (k : Int) < (n : Int) := by omega
      obtain ⟨x, hx⟩ : ∃ x, L[k]? = some x := ⟨_, List.getElem?_eq_getElem (by have := HL.out; omega)⟩
      obtain ⟨b, off, rfl, hc⟩ := (HA.out _ HW.out).cell hx
      have hxz := HY.out x (List.mem_of_getElem? hx)
      have hgd := good_any x (by omega)
      have hnx := name_any x wr
      have HC2 : Hid (∀ W, Below wr.heap.size wr W → W.cell? ⟨b, off + k, none⟩ = some (.string x)) := fun W hb => by
        obtain ⟨b', off', e, h⟩ := (HA.out _ (HW.out.trans (hb.mono HW.out.size))).cell hx
        injection e with e
        injection e with e1 e2
        subst e1 e2
        exact h
      have HS2 : Hid (S ++ { data := #[47] } ++ x = str (slashed (L.take (k + 1)))) := by
        show _ = _
        rw [slashed_take L k x hx, HS.out]
        have e : ({ data := #[47] } : ByteArray) = str [47] := rfl
        rw [e, ← str_of x, str_app, str_app, str_data]
        simp
      have HA2 : Hid ((A && nm x) = (L.take (k + 1)).all nm) := by
        show _ = _
        rw [List.take_add_one, hx, List.all_append, HAl.out]
        simp
      have hc1 : ¬ 9223372036854775807 < S.size + 1 := by omega
      have hc2 : ¬ 9223372036854775807 < S.size + 1 + x.size := by omega
      have HZ2 : Hid ((S ++ { data := #[47] } ++ x).size ≤ (k + 1) * 140737488351300) := by
        show _ ≤ _
        rw [ByteArray.size_append, ByteArray.size_append]
        have : ({ data := #[47] } : ByteArray).size = 1 := rfl
        omega
      clear hx hxz HS hz
      rcases Bool.eq_false_or_eq_true A with rfl | rfl
      all_goals
        cases hb : nm x
        · rw [hb] at hgd HA2
          rw [nameE_of hb] at hnx
          clear hb
          go_wp2_with (first
            | (go_at_call 13; refine (hgd _).mono ?_; rintro e w4 ⟨rfl, h4⟩; rw [h4]; clear h4 w4)
            | (go_at_call 11; refine hnx.mono ?_; rintro e w3 ⟨rfl, hb3⟩; have hc3 := HC2.out w3 hb3)
            | (go_at_call 9; refine (num_any _ _).mono ?_; rintro e w4 ⟨rfl, h4⟩; rw [h4]; clear h4 w4))
          all_goals
            go_roundg (gk - 1)
            case measure => have := HKG.out; omega
            case rel => exact ⟨k + 1, _, _, by have := HKG.out; omega, by go_num, rfl, rfl, HZ2.out, HS2, HA2, HW.out.trans (hb3.mono HW.out.size)⟩
        · rw [hb] at hgd HA2
          rw [nameE_ok hb] at hnx
          clear hb
          go_wp2_with (first
            | (go_at_call 13; refine (hgd _).mono ?_; rintro e w4 ⟨rfl, h4⟩; rw [h4]; clear h4 w4)
            | (go_at_call 11; refine hnx.mono ?_; rintro e w3 ⟨rfl, hb3⟩; have hc3 := HC2.out w3 hb3)
            | (go_at_call 9; refine (num_any _ _).mono ?_; rintro e w4 ⟨rfl, h4⟩; rw [h4]; clear h4 w4))
          all_goals
            go_roundg (gk - 1)
            case measure => have := HKG.out; omega
            case rel => exact ⟨k + 1, _, _, by have := HKG.out; omega, by go_num, rfl, rfl, HZ2.out, HS2, HA2, HW.out.trans (hb3.mono HW.out.size)⟩
    · obtain rfl : k = n := by omega
      have hltI : ¬ (k : Int) < (k : Int) := by omega
      have hLk : L.take k = L := List.take_of_length_le (by rw [HL.out]; exact Nat.le_refl _)
      rw [hLk] at HS HAl
      clear hLk hz
      by_cases h0 : L = []
      · obtain rfl : A = true := by rw [HAl.out, h0]; rfl
        obtain rfl : S = { data := #[] } := by rw [HS.out, h0]; rfl
        have e1 : textY L = { data := #[47] } := by rw [h0]; rfl
        have e2 : fault L = 0 := by rw [h0]; rfl
        have hk0 : k = 0 := by rw [← HL.out, h0]; rfl
        subst hk0
        rw [e1, e2] at HT
        clear h0 e1 e2 HAl HS
        go_wp2_with (first
          | (at_builtin; refine wpList_app rfl _ _ rfl wr.heap.size _ _ [] L rfl (Own.nil _ _) rfl (HA.out _ HW.out) HBY.out (Nat.le_refl _) ?_; intro v5 w5 ho5 hb5)
          | (go_at_call 10; refine (HT.out _ _ ho5.see).mono ?_; rintro e w6 ⟨rfl, hb6⟩; have h56 := HW.out.trans ((hb5.trans (hb6.mono hb5.size)).mono HW.out.size))
          | (go_at_call 9; refine (num_any _ _).mono ?_; rintro e w4 ⟨rfl, h4⟩; rw [h4]; clear h4 w4))
        go_ret
        exact ⟨rfl, h56⟩
      · have hne : S.toList.isEmpty = false := by
          rw [toList_data, HS.out, str_data]
          cases L with
          | nil => exact absurd rfl h0
          | cons x r => rfl
        have hneS : ¬ S.toList = [] := fun e => by rw [e] at hne; cases hne
        cases hA : A
        · have hf : fault L = 111 := by unfold fault; rw [if_neg (by rw [← HAl.out, hA]; decide)]
          have hY : textY L = { data := #[] } := by unfold textY; rw [hf]; rfl
          rw [hf, hY] at HT
          clear hf hY h0 HAl HS
          go_wp2_with (first
            | (at_builtin; refine wpList_app rfl _ _ rfl wr.heap.size _ _ [] L rfl (Own.nil _ _) rfl (HA.out _ HW.out) HBY.out (Nat.le_refl _) ?_; intro v5 w5 ho5 hb5)
            | (go_at_call 10; refine (HT.out _ _ ho5.see).mono ?_; rintro e w6 ⟨rfl, hb6⟩; have h56 := HW.out.trans ((hb5.trans (hb6.mono hb5.size)).mono HW.out.size))
            | (go_at_call 9; refine (num_any _ _).mono ?_; rintro e w4 ⟨rfl, h4⟩; rw [h4]; clear h4 w4))
          go_ret
          exact ⟨rfl, h56⟩
        · have hall : L.all nm = true := by rw [← HAl.out, hA]
          by_cases h16 : k ≤ 16
          · have h16I : ¬ (16 : Int) < (k : Int) := by omega
            have hf : fault L = 0 := fault_zero.2 ⟨hall, by rw [HL.out]; exact h16⟩
            have hY : textY L = S := by rw [textY_ok hf, HS.out]; unfold textL; rw [if_neg h0]
            rw [hf, hY] at HT
            clear hf hY h0 HAl HS hall
            go_wp2_with (first
              | (at_builtin; refine wpList_app rfl _ _ rfl wr.heap.size _ _ [] L rfl (Own.nil _ _) rfl (HA.out _ HW.out) HBY.out (Nat.le_refl _) ?_; intro v5 w5 ho5 hb5)
              | (go_at_call 10; refine (HT.out _ _ ho5.see).mono ?_; rintro e w6 ⟨rfl, hb6⟩; have h56 := HW.out.trans ((hb5.trans (hb6.mono hb5.size)).mono HW.out.size))
              | (go_at_call 9; refine (num_any _ _).mono ?_; rintro e w4 ⟨rfl, h4⟩; rw [h4]; clear h4 w4))
            go_ret
            exact ⟨rfl, h56⟩
          · have h16I : (16 : Int) < (k : Int) := by omega
            have hf : fault L = 112 := by unfold fault; rw [if_pos hall, if_neg (by rw [HL.out]; exact h16)]
            have hY : textY L = { data := #[] } := by unfold textY; rw [hf]; rfl
            rw [hf, hY] at HT
            clear hf hY h0 HAl HS hall
            go_wp2_with (first
              | (at_builtin; refine wpList_app rfl _ _ rfl wr.heap.size _ _ [] L rfl (Own.nil _ _) rfl (HA.out _ HW.out) HBY.out (Nat.le_refl _) ?_; intro v5 w5 ho5 hb5)
              | (go_at_call 10; refine (HT.out _ _ ho5.see).mono ?_; rintro e w6 ⟨rfl, hb6⟩; have h56 := HW.out.trans ((hb5.trans (hb6.mono hb5.size)).mono HW.out.size))
              | (go_at_call 9; refine (num_any _ _).mono ?_; rintro e w4 ⟨rfl, h4⟩; rw [h4]; clear h4 w4))
            go_ret
            exact ⟨rfl, h56⟩
end Go.Proofs.YtpoipgmphhfgeaaDoor.Pa
