import Derived.Test.YtbdgbefjmfcgcaaDoorIxMh
import Derived.Test.YtbdgbefjmfcgcaaDoorIxH0
import Derived.Test.YtbdgbefjmfcgcaaDoorIxZa
namespace Go.Proofs.YtbdgbefjmfcgcaaDoor.Ix
open Go.RowKit Go.Lib Go.Deep
set_option maxRecDepth 20000 in
set_option maxHeartbeats 1000000 in
/-- a name of letters -/
theorem letters_any (n : Int) (w : World) : Calls Tryd.prog 17 #[.int .i64 n] w fun e w' => ∃ t : ByteArray, Pa.nm t = true ∧ e = .returned (.string t) ∧ Below w.heap.size w w' := by
  obtain ⟨m, hm, Km⟩ := modN_any n 32 (by omega) (by omega)
  have e0 : ({ data := #[] } : ByteArray) = str [] := rfl
  have HK : Hid (∀ X, Calls Tryd.prog 16 #[.int .i64 n, .int .i64 32] X fun e w' => e = .returned (.int .i64 (m : Int)) ∧ w' = X) := Km
  clear Km
  go_enter Tryd.func17, Tryd.ntmps17
  go_wp2_with fail
  clear e0
  go_loopg [3, 4] (m + 1) (fun gk sv kv wr => ∃ (k : Nat) (L : List UInt8), k + gk = m + 1 ∧ L.length = k ∧ sv = .string (str L) ∧ kv = .int .i64 (k : Int) ∧ Hid (∀ x ∈ L, 97 ≤ x.toNat ∧ x.toNat ≤ 122) ∧ Hid (Below w.heap.size w wr))
  case atStart => exact ⟨0, [], by omega, rfl, rfl, rfl, fun x hx => by simp at hx, Below.refl _ _⟩
  case round =>
    obtain ⟨k, L, hk, hL, rfl, rfl, hA, hB⟩ := hrel
    by_cases hlt : k ≤ m
    · have hltI : (k : Int) ≤ (m : Int) := by omega
      go_wp2_with fail
      refine (HK.out _).mono ?_
      rintro e w5 ⟨rfl, rfl⟩
      go_wp2_with fail
      refine (modI_any _ _ (by omega) _).mono ?_
      rintro e w6 ⟨rfl, rfl⟩
      generalize hz : (wrap64 (n + (k : Int))) % 26 = z
      have hz1 : 0 ≤ z ∧ z < 26 := by omega
      obtain ⟨r, rfl⟩ : ∃ r : Nat, z = (r : Int) := ⟨z.toNat, by omega⟩
      obtain ⟨b, hb⟩ : ∃ b : UInt8, (b.toNat : Int) = 97 + (r : Int) := ⟨UInt8.ofNat (97 + r), by simp; omega⟩
      have hw1 : IntKind.i64.wrap (97 + (r : Int)) = 97 + (r : Int) := by rw [IntKind.wrap_i64]; omega
      have hw2 : IntKind.u8.wrap (97 + (r : Int)) = 97 + (r : Int) := by rw [IntKind.wrap_u8]; omega
      have hcv : ∀ (X : World) (g : Nat), X.cell? ⟨g, 0, none⟩ = some (.int .u8 (97 + (r : Int))) → (convert 52 9 (.slice (some ⟨g, 0, none⟩) 1 1)).run Tryd.prog X = .ok (.string (str [b])) X := fun X g h => byte_str (by rw [hb]; exact h)
      have hsa : (str L).size = k := by rw [str_size]; exact hL
      have hsb : (str [b]).size = 1 := str_size _
      have hcat : str L ++ str [b] = str (L ++ [b]) := str_app L [b]
      have hk63 : k + 1 ≤ 9223372036854775807 := by omega
      have HB : Hid (97 ≤ b.toNat ∧ b.toNat ≤ 122) := by
        show _ ∧ _
        omega
      have HB6 : Hid _ := fun o => below_alloc hB.out o
      clear hz hb hz1
      go_wp2
      go_roundg (gk - 1)
      case measure => omega
      case rel => exact ⟨k + 1, L ++ [b], by omega, by rw [List.length_append, hL]; rfl, rfl, rfl, fun x hx => by
        rcases List.mem_append.1 hx with h | h
        · exact hA.out x h
        · rw [List.mem_singleton.1 h]
          exact HB.out, HB6.out _⟩
    · obtain rfl : k = m + 1 := by omega
      have hltI : ¬ ((m : Int) + 1) ≤ (m : Int) := by omega
      go_wp2_with fail
      refine (HK.out _).mono ?_
      rintro e w5 ⟨rfl, rfl⟩
      go_wp2
      go_ret
      exact ⟨_, nm_letters L (by omega) (by omega) hA.out, rfl, hB.out⟩
end Go.Proofs.YtbdgbefjmfcgcaaDoor.Ix
