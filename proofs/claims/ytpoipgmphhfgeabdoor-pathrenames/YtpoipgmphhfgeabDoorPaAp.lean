import Derived.Test.YtpoipgmphhfgeabDoorPaF
import Derived.Test.YtpoipgmphhfgeabDoorPaD
import Derived.BigQuiet
namespace Go.Proofs.YtpoipgmphhfgeabDoor.Pa
open Go.RowKit Go.Lib

set_option maxRecDepth 20000 in
set_option maxHeartbeats 1000000 in
theorem in_any (w : World) (v : Value) (L : List ByteArray) (x : ByteArray) (h1 : See w v L) (hn : L.length ≤ 9223372036854775000) : Calls Tryd.prog 22 #[v, .string x] w fun e w' => e = .returned (.bool (containsS L x)) ∧ w' = w := by
  have HA : Hid (∀ W, Below w.heap.size w W → See W v L) := fun W hb => h1.below hb
  obtain ⟨a1, k1, rfl, -⟩ := h1
  obtain ⟨n, hl⟩ : ∃ n, L.length = n := ⟨_, rfl⟩
  rw [hl] at HA hn ⊢
  have HL : Hid (L.length = n) := hl
  obtain ⟨R, hR⟩ : ∃ R, containsS L x = R := ⟨_, rfl⟩
  rw [hR]
  have HR : Hid (containsS L x = R) := hR
  clear hl hR
  go_enter Tryd.func22, Tryd.ntmps22
  go_wp2_with fail
  go_loopg [5] n (fun gk iv wr => ∃ k : Nat, k + gk = n ∧ iv = .int .i64 (k : Int) ∧ wr = w ∧ Hid (∀ j y, j < k → L[j]? = some y → y ≠ x))
  case atStart => exact ⟨0, by omega, rfl, rfl, fun j y h => by omega⟩
  case round =>
    obtain ⟨k, hk, rfl, rfl, HZ⟩ := hrel
    have HKG : Hid (k + gk = n) := hk
    have hkn : k ≤ n := by omega
    clear hk
    by_cases hlt : k < n
    · have hltI : (k : Int) < (n : Int) := by omega
      obtain ⟨y, hy⟩ : ∃ y, L[k]? = some y := ⟨_, List.getElem?_eq_getElem (by have := HL.out; omega)⟩
      obtain ⟨b, off, rfl, hc⟩ := (HA.out _ (Below.refl _ _)).cell hy
      by_cases hxy : y = x
      · subst hxy
        obtain rfl : R = true := by rw [← HR.out, containsS_iff]; exact List.mem_of_getElem? hy
        clear hy
        go_wp2
        go_ret
        exact ⟨rfl, rfl⟩
      · have HZ2 : Hid (∀ j y, j < k + 1 → L[j]? = some y → y ≠ x) := fun j y' hj hj' => by
          by_cases h : j = k
          · subst h; rw [hy] at hj'; injection hj' with hj'; subst hj'; exact hxy
          · exact HZ.out j y' (by omega) hj'
        have hne := beq_ne hxy
        clear hy hxy
        go_wp2
        go_roundg (gk - 1)
        case measure => have := HKG.out; omega
        case rel => exact ⟨k + 1, by have := HKG.out; omega, by go_num, rfl, HZ2⟩
    · obtain rfl : k = n := by omega
      have hltI : ¬ (k : Int) < (k : Int) := by omega
      obtain rfl : R = false := by
        rw [← HR.out]
        apply Bool.eq_false_iff.2
        intro hx
        rw [containsS_iff] at hx
        obtain ⟨j, hj⟩ := List.mem_iff_getElem?.1 hx
        exact HZ.out j x (by have := (List.getElem?_eq_some_iff.1 hj).1; have := HL.out; omega) hj rfl
      go_wp2
      go_ret
      exact ⟨rfl, rfl⟩
/-- a row of the table -/
def RowJ (F T : List ByteArray) (i j : Nat) : Prop := i ≠ j → F[i]? ≠ F[j]? ∧ T[i]? ≠ T[j]?
def RowK (F T L : List ByteArray) (i k : Nat) : Prop := ∀ x, L[k]? = some x → T[i]? = some x → x ∈ F
theorem apart_of {F T L : List ByteArray} {n m : Nat} (h1 : F.length = n) (h2 : T.length = n) (h3 : L.length = m) (hJ : ∀ i j, i < n → j < n → RowJ F T i j) (hK : ∀ i k, i < n → k < m → RowK F T L i k) : Apart F T L := by
  refine ⟨h1.trans h2.symm, fun i j x hi hj => ?_, fun i j x hi hj => ?_, fun x hx hl => ?_⟩
  · by_cases h : i = j
    · exact h
    · have := hJ i j (by have := (List.getElem?_eq_some_iff.1 hi).1; omega) (by have := (List.getElem?_eq_some_iff.1 hj).1; omega) h
      exact absurd (hi.trans hj.symm) this.1
  · by_cases h : i = j
    · exact h
    · have := hJ i j (by have := (List.getElem?_eq_some_iff.1 hi).1; omega) (by have := (List.getElem?_eq_some_iff.1 hj).1; omega) h
      exact absurd (hi.trans hj.symm) this.2
  · obtain ⟨i, hi⟩ := List.mem_iff_getElem?.1 hx
    obtain ⟨k, hk⟩ := List.mem_iff_getElem?.1 hl
    exact hK i k (by have := (List.getElem?_eq_some_iff.1 hi).1; omega) (by have := (List.getElem?_eq_some_iff.1 hk).1; omega) x hk hi
/-- what apart answers -/
def ApP (F T L : List ByteArray) (e : Ending) : Prop := ∃ R : Bool, e = .returned (.bool R) ∧ (R = true → Apart F T L)
set_option maxRecDepth 20000 in
set_option maxHeartbeats 4000000 in
theorem apart_any (w : World) (f t v : Value) (F T L : List ByteArray) (hF : See w f F) (hT : See w t T) (hL : See w v L) (hl : F.length = T.length) (hn : F.length ≤ 100) (hm : L.length ≤ 16) : Calls Tryd.prog 11 #[f, t, v] w fun e w' => ApP F T L e ∧ Below w.heap.size w w' := by
  have HA : Hid (∀ W, Below w.heap.size w W → See W f F) := fun W hb => hF.below hb
  have HB : Hid (∀ W, Below w.heap.size w W → See W t T) := fun W hb => hT.below hb
  have HC : Hid (∀ W, Below w.heap.size w W → See W v L) := fun W hb => hL.below hb
  obtain ⟨a1, k1, rfl, -⟩ := hF
  obtain ⟨a2, k2, rfl, -⟩ := hT
  obtain ⟨a3, k3, rfl, -⟩ := hL
  obtain ⟨n, hln⟩ : ∃ n, F.length = n := ⟨_, rfl⟩
  obtain ⟨m, hlm⟩ : ∃ m, L.length = m := ⟨_, rfl⟩
  rw [← hl] at HB ⊢
  rw [hln] at HA HB hn ⊢
  rw [hlm] at HC hm ⊢
  have HL1 : Hid (F.length = n) := hln
  have HL2 : Hid (T.length = n) := hl.symm.trans hln
  have HL3 : Hid (L.length = m) := hlm
  clear hl hln hlm
  go_enter Tryd.func11, Tryd.ntmps11
  go_wp2_with fail
  go_loopg [7] n (fun gk iv wr => ∃ i : Nat, i + gk = n ∧ iv = .int .i64 (i : Int) ∧ Hid (Below w.heap.size w wr) ∧ Hid (∀ i', i' < i → (∀ j, j < n → RowJ F T i' j) ∧ ∀ k, k < m → RowK F T L i' k))
  case atStart => exact ⟨0, by omega, rfl, Below.refl _ _, fun i' h => by omega⟩
  case round =>
    obtain ⟨i, hk, rfl, HW, HZ⟩ := hrel
    have HKG : Hid (i + gk = n) := hk
    have hin : i ≤ n := by omega
    clear hk
    by_cases hlt : i < n
    · have hltI : (i : Int) < (n : Int) := by omega
      obtain ⟨x, hx⟩ : ∃ x, F[i]? = some x := ⟨_, List.getElem?_eq_getElem (by have := HL1.out; omega)⟩
      obtain ⟨y, hy⟩ : ∃ y, T[i]? = some y := ⟨_, List.getElem?_eq_getElem (by have := HL2.out; omega)⟩
      obtain ⟨b1, o1, rfl, _⟩ := (HA.out _ HW.out).cell hx
      obtain ⟨b2, o2, rfl, _⟩ := (HB.out _ HW.out).cell hy
      have HFX : Hid (F[i]? = some x) := hx
      have HTY : Hid (T[i]? = some y) := hy
      have HCF : Hid (∀ W, Below w.heap.size w W → ∀ j z, F[j]? = some z → W.cell? ⟨b1, o1 + j, none⟩ = some (.string z)) := fun W hb j z hz => by
        obtain ⟨b, o, e, h⟩ := (HA.out W hb).cell hz
        injection e with e
        injection e with e1 e2
        subst e1 e2
        exact h
      have HCT : Hid (∀ W, Below w.heap.size w W → ∀ j z, T[j]? = some z → W.cell? ⟨b2, o2 + j, none⟩ = some (.string z)) := fun W hb j z hz => by
        obtain ⟨b, o, e, h⟩ := (HB.out W hb).cell hz
        injection e with e
        injection e with e1 e2
        subst e1 e2
        exact h
      clear hx hy
      go_wp2_with fail
      go_loopg [8] n (fun gk jv wr => ∃ j : Nat, j + gk = n ∧ jv = .int .i64 (j : Int) ∧ Hid (Below w.heap.size w wr) ∧ Hid (∀ j', j' < j → RowJ F T i j'))
      case atStart => exact ⟨0, by omega, rfl, HW, fun j' h => by omega⟩
      case round =>
        obtain ⟨j, hk, rfl, HW2, HJ⟩ := hrel
        have HKJ : Hid (j + gk = n) := hk
        have hjn : j ≤ n := by omega
        clear hk
        have HWN : Hid (∀ q, Below w.heap.size w (wr.drewN q)) := fun q => HW2.out.trans ((bdN wr q).mono HW2.out.size)
        by_cases hltj : j < n
        · have hltJ : (j : Int) < (n : Int) := by omega
          obtain ⟨x2, hx2⟩ : ∃ x, F[j]? = some x := ⟨_, List.getElem?_eq_getElem (by have := HL1.out; omega)⟩
          obtain ⟨y2, hy2⟩ : ∃ y, T[j]? = some y := ⟨_, List.getElem?_eq_getElem (by have := HL2.out; omega)⟩
          have c1 := HCF.out _ HW2.out i x HFX.out
          have c2 := HCF.out _ HW2.out j x2 hx2
          have d1 := HCT.out _ HW2.out i y HTY.out
          have d2 := HCT.out _ HW2.out j y2 hy2
          by_cases hij : i = j
          · have HJ2 : Hid (∀ j', j' < j + 1 → RowJ F T i j') := fun j' hj' => by
              by_cases h : j' = j
              · subst h; exact fun h => absurd hij h
              · exact HJ.out j' (by omega)
            have hijI : (i : Int) = (j : Int) := by omega
            clear hx2 hy2
            go_wp2_with fail
            go_quiet (fail)
            go_wp2_with fail
            go_roundg (gk - 1)
            case measure => have := HKJ.out; omega
            case rel => exact ⟨j + 1, by have := HKJ.out; omega, by go_num, HWN.out _, HJ2⟩
          · have hijI : ¬ (i : Int) = (j : Int) := by omega
            have hb1 : ((i : Int) != (j : Int)) = true := bne_iff_ne.2 hijI
            have hb2 : ((i : Int) == (j : Int)) = false := beq_eq_false_iff_ne.2 hijI
            by_cases e1 : x = x2
            · have e1B : (x.toList == x2.toList) = true := (bytes_beq_iff x x2).2 e1
              clear hx2 hy2 e1
              go_wp2_with fail
              go_quiet (fail)
              go_wp2_with fail
              go_ret
              exact ⟨⟨false, rfl, fun h => by cases h⟩, HWN.out _⟩
            · have e1B := beq_ne e1
              by_cases e2 : y = y2
              · have e2B : (y.toList == y2.toList) = true := (bytes_beq_iff y y2).2 e2
                clear hx2 hy2 e2
                go_wp2_with fail
                go_quiet (fail)
                go_wp2_with fail
                go_ret
                exact ⟨⟨false, rfl, fun h => by cases h⟩, HWN.out _⟩
              · have e2B := beq_ne e2
                have HJ2 : Hid (∀ j', j' < j + 1 → RowJ F T i j') := fun j' hj' => by
                  by_cases h : j' = j
                  · subst h
                    exact fun _ => ⟨by rw [HFX.out, hx2]; exact fun e => e1 (Option.some.inj e), by rw [HTY.out, hy2]; exact fun e => e2 (Option.some.inj e)⟩
                  · exact HJ.out j' (by omega)
                clear hx2 hy2 e1 e2
                go_wp2_with fail
                go_quiet (fail)
                go_wp2_with fail
                go_roundg (gk - 1)
                case measure => have := HKJ.out; omega
                case rel => exact ⟨j + 1, by have := HKJ.out; omega, by go_num, HWN.out _, HJ2⟩
        · obtain rfl : j = n := by omega
          have hltJ : ¬ (j : Int) < (j : Int) := by omega
          clear HKJ HWN
          go_wp2_with fail
          go_loopg [9] m (fun gk kv wr => ∃ k : Nat, k + gk = m ∧ kv = .int .i64 (k : Int) ∧ Hid (Below w.heap.size w wr) ∧ Hid (∀ k', k' < k → RowK F T L i k'))
          case atStart => exact ⟨0, by omega, rfl, HW2, fun k' h => by omega⟩
          case round =>
            obtain ⟨k, hk, rfl, HW3, HK⟩ := hrel
            have HKK : Hid (k + gk = m) := hk
            have hkm : k ≤ m := by omega
            clear hk
            have HWN : Hid (∀ q, Below w.heap.size w (wr.drewN q)) := fun q => HW3.out.trans ((bdN wr q).mono HW3.out.size)
            by_cases hltk : k < m
            · have hltK : (k : Int) < (m : Int) := by omega
              obtain ⟨z, hz⟩ : ∃ z, L[k]? = some z := ⟨_, List.getElem?_eq_getElem (by have := HL3.out; omega)⟩
              obtain ⟨b3, o3, rfl, d3⟩ := (HC.out _ HW3.out).cell hz
              have d1 := HCT.out _ HW3.out i y HTY.out
              have HIN : Hid (∀ q, Calls Tryd.prog 22 #[.slice (some ⟨b1, o1, none⟩) j k1, .string z] (wr.drewN q) fun e w' => e = .returned (.bool (containsS F z)) ∧ w' = wr.drewN q) := fun q => in_any _ _ F z (HA.out _ (HWN.out q)) (by have := HL1.out; omega)
              by_cases e1 : y = z
              · have e1B : (y.toList == z.toList) = true := (bytes_beq_iff y z).2 e1
                cases hb : containsS F z
                · rw [hb] at HIN
                  clear hz e1
                  go_wp2_with fail
                  go_quiet ((go_at_call 22; exact Calls.quiet_of_same (HIN.out _)))
                  go_wp2_with fail
                  go_ret
                  exact ⟨⟨false, rfl, fun h => by cases h⟩, HWN.out _⟩
                · have HK2 : Hid (∀ k', k' < k + 1 → RowK F T L i k') := fun k' hk' => by
                    by_cases h : k' = k
                    · subst h
                      intro u hu _
                      rw [hz] at hu
                      injection hu with hu
                      subst hu
                      exact (containsS_iff _ _).1 hb
                    · exact HK.out k' (by omega)
                  rw [hb] at HIN
                  clear hz e1
                  go_wp2_with fail
                  go_quiet ((go_at_call 22; exact Calls.quiet_of_same (HIN.out _)))
                  go_wp2_with fail
                  go_roundg (gk - 1)
                  case measure => have := HKK.out; omega
                  case rel => exact ⟨k + 1, by have := HKK.out; omega, by go_num, HWN.out _, HK2⟩
              · have e1B := beq_ne e1
                have HK2 : Hid (∀ k', k' < k + 1 → RowK F T L i k') := fun k' hk' => by
                  by_cases h : k' = k
                  · subst h
                    intro u hu hu2
                    rw [hz] at hu
                    rw [HTY.out] at hu2
                    exact absurd ((Option.some.inj hu2).trans (Option.some.inj hu).symm) e1
                  · exact HK.out k' (by omega)
                clear hz e1
                go_wp2_with fail
                go_quiet (fail)
                go_wp2_with fail
                go_roundg (gk - 1)
                case measure => have := HKK.out; omega
                case rel => exact ⟨k + 1, by have := HKK.out; omega, by go_num, HWN.out _, HK2⟩
            · obtain rfl : k = m := by omega
              have hltK : ¬ (k : Int) < (k : Int) := by omega
              have HZ2 : Hid (∀ i', i' < i + 1 → (∀ q, q < j → RowJ F T i' q) ∧ ∀ q, q < k → RowK F T L i' q) := fun i' hi' => by
                by_cases h : i' = i
                · subst h; exact ⟨HJ.out, HK.out⟩
                · exact HZ.out i' (by omega)
              clear HKK HWN
              go_wp2_with fail
              go_roundg (j - i - 1)
              case measure => have := HKG.out; omega
              case rel => exact ⟨i + 1, by have := HKG.out; omega, by go_num, HW3, HZ2⟩
    · obtain rfl : i = n := by omega
      have hltI : ¬ (i : Int) < (i : Int) := by omega
      have HP : Hid (Apart F T L) := apart_of HL1.out HL2.out HL3.out (fun a b ha hb => (HZ.out a ha).1 b hb) (fun a b ha hb => (HZ.out a ha).2 b hb)
      go_wp2
      go_ret
      exact ⟨⟨true, rfl, fun _ => HP.out⟩, HW.out⟩
end Go.Proofs.YtpoipgmphhfgeabDoor.Pa
