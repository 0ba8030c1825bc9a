import Derived.Test.YtgeadhgomhgmoaaDoorShaV
namespace Go.Proofs.YtgeadhgomhgmoaaDoor
open Go.RowKit Go.Lib Go.Deep

/-- what Beyond says -/
def Byd (w : World) (ss : List ByteArray) (len : Nat) (e : Ending) (w' : World) : Prop := ∃ v, e = .returned (.bool v) ∧ (v = false → (joinL ss).length + len ≤ 2147483647) ∧ w = w'

set_option maxRecDepth 20000 in
set_option maxHeartbeats 1000000 in
theorem beyond_some (w : World) (b off len cap : Nat) (ss : List ByteArray) (hl : ss.length = len) (hlc : len ≤ 9223372036854775807)
    (hc : ∀ i s, ss[i]? = some s → w.cell? ⟨b, off + i, none⟩ = some (.string s)) :
    Calls Tryd.prog 12 #[.slice (some ⟨b, off, none⟩) len cap] w (Byd w ss len) := by
  have HC : Hid (∀ i s, ss[i]? = some s → w.cell? ⟨b, off + i, none⟩ = some (.string s)) := hc
  clear hc
  go_enter Tryd.func12, Tryd.ntmps12
  go_wp2
  go_loopg [3, 4] len (fun gk v i wr => ∃ k : Nat, k + gk = len ∧ i = .int .i64 k ∧ v = .int .i64 (((joinL (ss.take k)).length + k : Nat) : Int) ∧ (joinL (ss.take k)).length + k ≤ 4294967295 ∧ w = wr)
  case atStart => exact ⟨0, by omega, rfl, rfl, by simp [joinL], rfl⟩
  case round =>
    obtain ⟨k, hk, rfl, rfl, hn, rfl⟩ := hrel
    have HK : Hid (k + gk = len) := hk
    have hk' : k ≤ len := by omega
    clear hk
    by_cases hlt : k < len
    · obtain ⟨s, hs⟩ : ∃ s, ss[k]? = some s := ⟨_, List.getElem?_eq_getElem (by omega)⟩
      have hcell := HC.out k s hs
      have HJ : Hid ((joinL (ss.take (k + 1))).length = (joinL (ss.take k)).length + s.size) := by show _ = _; rw [joinL_take ss k s hs, List.length_append, ← size_eq]
      clear hs
      obtain ⟨m, hm⟩ : ∃ m, (joinL (ss.take k)).length + k = m := ⟨_, rfl⟩
      rw [hm] at hn ⊢
      have HM : Hid ((joinL (ss.take k)).length + k = m) := hm
      clear hm
      by_cases h1 : 2147483647 < s.size
      · have h1' : decide ((2147483647 : Int) < (s.size : Int)) = true := by simp; omega
        go_wp2
        go_ret
        exact ⟨true, rfl, (fun h => by cases h), rfl⟩
      · have h1' : decide ((2147483647 : Int) < (s.size : Int)) = false := by simp; omega
        by_cases h2 : 2147483647 < m
        · have h2' : decide ((2147483647 : Int) < (m : Int)) = true := by simp; omega
          go_wp2
          go_ret
          exact ⟨true, rfl, (fun h => by cases h), rfl⟩
        · have h2' : decide ((2147483647 : Int) < (m : Int)) = false := by simp; omega
          have w1 : IntKind.i64.wrap ((m : Int) + (s.size : Int)) = ((m + s.size : Nat) : Int) := by rw [IntKind.wrap_i64]; omega
          go_wp2
          go_roundg (gk - 1)
          case measure => have := HK.out; omega
          case rel => exact ⟨k + 1, by have := HK.out; omega, by go_num, by rw [HJ.out]; have := HM.out; congr 1; omega, by rw [HJ.out]; have := HM.out; omega, rfl⟩
    · obtain rfl : k = len := by omega
      rw [List.take_of_length_le (by omega)] at hn ⊢
      obtain ⟨m, hm⟩ : ∃ m, (joinL ss).length + k = m := ⟨_, rfl⟩
      rw [hm] at hn ⊢
      go_wp2
      go_ret
      exact ⟨_, rfl, (fun h => by simp at h; omega), rfl⟩

end Go.Proofs.YtgeadhgomhgmoaaDoor
