import Derived.Test.YtpoipgmphhfgeaaDoorPaZ
namespace Go.Proofs.YtpoipgmphhfgeaaDoor.Pa
open Go.RowKit Go.Lib

theorem count_all (l : List UInt8) : l.countP nb = l.length ↔ l.all nb = true := by
  rw [List.countP_eq_length, List.all_eq_true]
theorem nm_split (s : ByteArray) : nm s = (decide (s.data.toList.countP nb = s.size) && decide (1 ≤ s.size) && decide (s.size ≤ 32) && decide (s.data.toList ≠ [46]) && decide (s.data.toList ≠ [46, 46])) := by
  have hl : s.data.toList.length = s.size := (size_eq s).symm
  unfold nm isN
  rw [hl]
  have e : s.data.toList.all nb = decide (s.data.toList.countP nb = s.size) := by
    by_cases h : s.data.toList.all nb = true
    · rw [h, decide_eq_true]; rw [← hl]; exact (count_all _).2 h
    · rw [Bool.eq_false_iff.2 h, decide_eq_false]; rw [← hl]; exact fun e => h ((count_all _).1 e)
  rw [e]
  cases decide (s.data.toList.countP nb = s.size) <;> cases decide (1 ≤ s.size) <;> cases decide (s.size ≤ 32) <;> cases decide (s.data.toList ≠ [46]) <;> cases decide (s.data.toList ≠ [46, 46]) <;> rfl

set_option maxRecDepth 20000 in
set_option maxHeartbeats 1000000 in
theorem good_any (s : ByteArray) (hs : s.size ≤ 9223372036854775000) (w : World) : Calls Tryd.prog 13 #[.string s] w fun e w' => e = .returned (.bool (nm s)) ∧ w' = w := by
  have hl : s.data.toList.length = s.size := (size_eq s).symm
  obtain ⟨R, hR⟩ : ∃ R, nm s = R := ⟨_, rfl⟩
  rw [hR]
  have HR : Hid (nm s = R) := hR
  clear hR
  go_enter Tryd.func13, Tryd.ntmps13
  go_wp2_with fail
  go_loopg [3, 4] s.size (fun gk cv iv wr => ∃ k c : Nat, k + gk = s.size ∧ iv = .int .i64 (k : Int) ∧ cv = .int .i64 (c : Int) ∧ c ≤ k ∧ Hid (c = (s.data.toList.take k).countP nb) ∧ wr = w)
  case atStart => exact ⟨0, 0, by omega, rfl, rfl, Nat.le_refl _, rfl, rfl⟩
  case round =>
    obtain ⟨k, c, hk, rfl, rfl, hck, HC, rfl⟩ := hrel
    by_cases hlt : k < s.size
    · have hltI : (k : Int) < (s.size : Int) := by omega
      obtain ⟨x, hx⟩ : ∃ x, s.data.toList[k]? = some x := ⟨_, List.getElem?_eq_getElem (by omega)⟩
      have hix := fun W => rindex_at (P := Tryd.prog) W 9 s .i64 (k : Int) k x Tryd.underlying9 rfl hx
      have hst : (s.data.toList.take (k + 1)).countP nb = c + (if nb x = true then 1 else 0) := by
        rw [List.take_add_one, hx, List.countP_append, ← HC.out]
        simp [List.countP_cons]
      by_cases hb : nb x = true
      · rw [if_pos hb] at hst
        obtain ⟨b1, b2, b3⟩ := (nb_iff x).1 hb
        have HC2 : Hid (c + 1 = (s.data.toList.take (k + 1)).countP nb) := hst.symm
        have c1 : (32 : Int) < (x.toNat : Int) := by omega
        have c2 : (x.toNat : Int) < 127 := by omega
        have c3 : ¬ (x.toNat : Int) = 47 := by omega
        clear hx hb b1 b2 b3 hst
        generalize x.toNat = xn at *
        go_wp2
        go_roundg (gk - 1)
        case measure => omega
        case rel => exact ⟨k + 1, c + 1, by omega, by go_num, by go_num, by omega, HC2, rfl⟩
      · rw [if_neg hb] at hst
        have HC2 : Hid (c = (s.data.toList.take (k + 1)).countP nb) := hst.symm
        have hh : ¬ (33 ≤ x.toNat ∧ x.toNat ≤ 126 ∧ x.toNat ≠ 47) := fun h => hb ((nb_iff x).2 h)
        clear hx hb hst
        generalize x.toNat = r at *
        by_cases r1 : r < 33
        · have r1' : ¬ (32 : Int) < (r : Int) := by omega
          clear hh
          go_wp2
          go_roundg (gk - 1)
          case measure => omega
          case rel => exact ⟨k + 1, c, by omega, by go_num, rfl, by omega, HC2, rfl⟩
        have r1' : (32 : Int) < (r : Int) := by omega
        by_cases r2 : 126 < r
        · have r2' : ¬ (r : Int) < 127 := by omega
          clear hh
          go_wp2
          go_roundg (gk - 1)
          case measure => omega
          case rel => exact ⟨k + 1, c, by omega, by go_num, rfl, by omega, HC2, rfl⟩
        have r2' : (r : Int) < 127 := by omega
        have r3' : (r : Int) = 47 := by omega
        clear hh
        go_wp2
        go_roundg (gk - 1)
        case measure => omega
        case rel => exact ⟨k + 1, c, by omega, by go_num, rfl, by omega, HC2, rfl⟩
    · have hks : k = s.size := by omega
      have hltI : ¬ (k : Int) < (s.size : Int) := by omega
      have HE : Hid ((decide (c = s.size) && decide (1 ≤ s.size) && decide (s.size ≤ 32) && decide (s.toList ≠ [46]) && decide (s.toList ≠ [46, 46])) = R) := by
        show _ = _
        rw [← HR.out, nm_split, toList_data, HC.out, List.take_of_length_le (by omega)]
      clear HC HR
      have fin : ∀ (b1 b2 b3 b4 b5 : Bool), decide (c = s.size) = b1 → decide (1 ≤ s.size) = b2 → decide (s.size ≤ 32) = b3 → decide (s.toList ≠ [46]) = b4 → decide (s.toList ≠ [46, 46]) = b5 → (b1 && b2 && b3 && b4 && b5) = R := fun b1 b2 b3 b4 b5 e1 e2 e3 e4 e5 => by
        rw [← HE.out, e1, e2, e3, e4, e5]
      have FIN : Hid (∀ (b1 b2 b3 b4 b5 : Bool), decide (c = s.size) = b1 → decide (1 ≤ s.size) = b2 → decide (s.size ≤ 32) = b3 → decide (s.toList ≠ [46]) = b4 → decide (s.toList ≠ [46, 46]) = b5 → (b1 && b2 && b3 && b4 && b5) = R) := fin
      clear fin
      by_cases e1 : c = s.size
      · have e1I : (c : Int) = (s.size : Int) := by omega
        by_cases e2 : 1 ≤ c
        · have e2I : (1 : Int) ≤ (c : Int) := by omega
          by_cases e3 : c ≤ 32
          · have e3I : (c : Int) ≤ 32 := by omega
            by_cases e4 : s.toList = [46]
            · have e4B : (s.toList == [46]) = true := beq_iff_eq.2 e4
              obtain rfl : R = false := by rw [← FIN.out true true true false _ (decide_eq_true e1) (decide_eq_true (by omega)) (decide_eq_true (by omega)) (decide_eq_false (fun h => h e4)) rfl]; rfl
              clear FIN HE
              go_wp2
              go_ret
              exact ⟨rfl, rfl⟩
            · have e4B : (s.toList == [46]) = false := beq_eq_false_iff_ne.2 e4
              by_cases e5 : s.toList = [46, 46]
              · have e5B : (s.toList == [46, 46]) = true := beq_iff_eq.2 e5
                obtain rfl : R = false := by rw [← FIN.out true true true true false (decide_eq_true e1) (decide_eq_true (by omega)) (decide_eq_true (by omega)) (decide_eq_true e4) (decide_eq_false (fun h => h e5))]; rfl
                clear FIN HE
                go_wp2
                go_ret
                exact ⟨rfl, rfl⟩
              · have e5B : (s.toList == [46, 46]) = false := beq_eq_false_iff_ne.2 e5
                obtain rfl : R = true := by rw [← FIN.out true true true true true (decide_eq_true e1) (decide_eq_true (by omega)) (decide_eq_true (by omega)) (decide_eq_true e4) (decide_eq_true e5)]; rfl
                clear FIN HE
                go_wp2
                go_ret
                exact ⟨rfl, rfl⟩
          · have e3I : ¬ (c : Int) ≤ 32 := by omega
            obtain rfl : R = false := by rw [← FIN.out true true false _ _ (decide_eq_true e1) (decide_eq_true (by omega)) (decide_eq_false (by omega)) rfl rfl]; rfl
            clear FIN HE
            go_wp2
            go_ret
            exact ⟨rfl, rfl⟩
        · have e2I : ¬ (1 : Int) ≤ (c : Int) := by omega
          obtain rfl : R = false := by rw [← FIN.out true false _ _ _ (decide_eq_true e1) (decide_eq_false (by omega)) rfl rfl rfl]; rfl
          clear FIN HE
          go_wp2
          go_ret
          exact ⟨rfl, rfl⟩
      · have e1I : ¬ (c : Int) = (s.size : Int) := by omega
        obtain rfl : R = false := by rw [← FIN.out false _ _ _ _ (decide_eq_false e1) rfl rfl rfl rfl]; rfl
        clear FIN HE
        go_wp2
        go_ret
        exact ⟨rfl, rfl⟩
end Go.Proofs.YtpoipgmphhfgeaaDoor.Pa
