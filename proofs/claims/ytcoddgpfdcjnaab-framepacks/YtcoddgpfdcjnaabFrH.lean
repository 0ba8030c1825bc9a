import Derived.Test.YtcoddgpfdcjnaabFrB
import Derived.Test.YtcoddgpfdcjnaabFrC
import Derived.OwnWalk
import Derived.BigQuiet
namespace Go.Proofs.Ytcoddgpfdcjnaab.Fr
open Go.RowKit Go.Lib Go.Deep

/-- the number that the head tells, byte by byte -/
def vN (l : List UInt8) : Nat → Nat
  | 0 => 0
  | i + 1 => 256 * vN l i + (l.getD (i + 1) 0).toNat
theorem vN_cnt (l : List UInt8) : vN l 4 = cnt l := by
  unfold cnt
  simp only [vN, Nat.zero_add, Nat.reduceAdd]
  omega
theorem vN_lt' (l : List UInt8) : ∀ i, vN l i < 256 ^ i
  | 0 => by simp [vN]
  | i + 1 => by
    have h1 := vN_lt' l i
    have h2 := (l.getD (i + 1) 0).toNat_lt
    rw [vN, Nat.pow_succ]
    omega
theorem vN_lt (l : List UInt8) (i : Nat) (hi : i ≤ 4 := by omega) : vN l i < 4294967296 := Nat.lt_of_lt_of_le (vN_lt' l i) (Nat.pow_le_pow_right (n := 256) (j := 4) (by omega) hi)
theorem rindex_at {P : Program} (w : World) (t : TypeId) (s : ByteArray) (k : IntKind) (z : Int) (i : Nat) (c : UInt8) (h : P.underlying t = some .string) (hz : z = (i : Int)) (hc : s.data.toList[i]? = some c) :
    (Instr.index t (.string s) (.int k z)).run P w = .ok (.int .u8 (c.toNat : Int)) w := by
  subst hz
  exact index_at w t s k i c h hc
set_option maxHeartbeats 1000000 in
theorem runpack_any (k : Int) (t : ByteArray) (w : World) : Calls Try.prog 10 #[.int .i64 k, .string t] w fun e w' => e = .returned (.tuple #[.string (unpY k t), .int .i64 (unpE k t)]) ∧ Below w.heap.size w w' := by
  by_cases h1 : 1048576 < t.size
  · have h1' : (1048576 : Int) < (t.size : Int) := by omega
    have e1 : unpE k t = 3 := if_pos h1
    have e2 : unpY k t = { data := #[] } := if_neg (by rw [e1]; decide)
    rw [e1, e2]
    clear e1 e2
    go_enter Try.func10, Try.ntmps10
    go_wp2
    go_ret2
    exact ⟨rfl, Below.refl _ _⟩
  · have h1' : ¬ (1048576 : Int) < (t.size : Int) := by omega
    by_cases h2 : 1 ≤ k ∧ k ≤ 255 ∧ 5 ≤ t.size
    · have h2' : (5 : Int) ≤ (t.size : Int) := by omega
      have hl : t.data.toList.length = t.size := (size_eq t).symm
      obtain ⟨x0, hx0⟩ : ∃ x, t.data.toList[0]? = some x := ⟨_, List.getElem?_eq_getElem (by omega)⟩
      have i0 := fun W => rindex_at (P := Try.prog) W 9 t .i64 0 0 x0 Try.underlying9 rfl hx0
      have b0 := x0.toNat_lt
      have hg0 : (t.data.toList.getD 0 0).toNat = x0.toNat := by rw [List.getD_eq_getElem?_getD, hx0]; rfl
      obtain ⟨Y, E, n0, c, hY, hE, HU, HUY, hn0, hc32, HV, i0'⟩ : ∃ (Y : ByteArray) (E : Int) (n0 c : Nat), unpY k t = Y ∧ unpE k t = E ∧
          Hid (E = if (n0 : Int) ≠ k then 92 else if t.size - 5 < c then 90 else if (t.data.toList.drop (5 + c)).all (· == 0) = true then 0 else 91) ∧
          Hid (Y = if E = 0 then str ((t.data.toList.drop 5).take c) else { data := #[] }) ∧ n0 < 256 ∧ c < 4294967296 ∧ Hid (vN t.data.toList 4 = c) ∧ (∀ W, (Instr.index 9 (.string t) (.int .i64 0)).run Try.prog W = .ok (.int .u8 (n0 : Int)) W) :=
        ⟨_, _, x0.toNat, cnt t.data.toList, rfl, rfl, by
          show unpE k t = _
          unfold unpE
          rw [if_neg h1, hg0]
          by_cases h0 : (x0.toNat : Int) ≠ k
          · rw [if_pos h0, if_pos (.inr (.inr (.inr h0)))]
          · rw [if_neg h0, if_neg (by rintro (h | h | h | h) <;> first | omega | exact h0 h)], rfl, by omega, by rw [← vN_cnt]; exact vN_lt _ 4, vN_cnt _, i0⟩
      rw [hY, hE]
      have HL : Hid (t.data.toList.length = t.size) := hl
      clear hY hE hx0 i0 b0 hg0 hl
      by_cases q0 : (n0 : Int) = k
      · subst q0
        go_enter Try.func10, Try.ntmps10
        go_wp2
        go_loopg [6, 7] 4 (fun gk nv iv wr => ∃ i m : Nat, i + gk = 4 ∧ iv = .int .i64 ((i : Int) + 1) ∧ nv = .int .i64 (m : Int) ∧ Hid (m = vN t.data.toList i) ∧ m < 4294967296 ∧ wr = w)
        case atStart => exact ⟨0, 0, by omega, rfl, rfl, rfl, by omega, rfl⟩
        case round =>
          obtain ⟨i, m, hi, rfl, rfl, HM, hm, rfl⟩ := hrel
          by_cases hlt : i < 4
          · have hlt' : (i : Int) + 1 < 5 := by omega
            obtain ⟨x, hx⟩ : ∃ x, t.data.toList[i + 1]? = some x := ⟨_, List.getElem?_eq_getElem (by have := HL.out; omega)⟩
            have hix := fun W => rindex_at (P := Try.prog) W 9 t .i64 ((i : Int) + 1) (i + 1) x Try.underlying9 (by omega) hx
            have hx8 := x.toNat_lt
            have HM2 : Hid (256 * m + x.toNat = vN t.data.toList (i + 1)) := by
              show _ = _
              rw [vN, ← HM.out, List.getD_eq_getElem?_getD, hx]
              rfl
            have hm2 : 256 * m + x.toNat < 4294967296 := by rw [HM2.out]; exact Nat.lt_of_lt_of_le (vN_lt' _ _) (Nat.pow_le_pow_right (n := 256) (j := 4) (by omega) (by omega))
            generalize x.toNat = xn at *
            clear hx
            go_wp2
            go_roundg (gk - 1)
            case measure => omega
            case rel => exact ⟨i + 1, 256 * m + xn, by omega, by go_num, by go_num, HM2, hm2, rfl⟩
          · obtain rfl : i = 4 := by omega
            obtain rfl : m = c := HM.out.trans HV.out
            by_cases q1 : t.size - 5 < m
            · have q1' : (t.size : Int) - 5 < (m : Int) := by omega
              obtain rfl : E = 90 := by rw [HU.out, if_neg (fun h => h rfl), if_pos q1]
              obtain rfl : Y = { data := #[] } := HUY.out.trans (if_neg (by decide))
              go_wp2
              go_ret2
              exact ⟨rfl, Below.refl _ _⟩
            · have q1' : ¬ (t.size : Int) - 5 < (m : Int) := by omega
              have hms : m + 5 ≤ t.size := by omega
              go_wp2
              go_loopg [8] (t.size - (5 + m)) (fun gj jv wx => ∃ j : Nat, j + gj = t.size ∧ 5 + m ≤ j ∧ jv = .int .i64 (j : Int) ∧ Hid (∀ i, 5 + m ≤ i → i < j → t.data.toList[i]? = some 0) ∧ wx = wr)
              case atStart => exact ⟨5 + m, by omega, by omega, by go_num, fun i h1 h2 => by omega, rfl⟩
              case round =>
                obtain ⟨j, hj, hj5, rfl, HZ, rfl⟩ := hrel
                by_cases hlt2 : j < t.size
                · have hlt2' : (j : Int) < (t.size : Int) := by omega
                  obtain ⟨x, hx⟩ : ∃ x, t.data.toList[j]? = some x := ⟨_, List.getElem?_eq_getElem (by have := HL.out; omega)⟩
                  have hix := fun W => rindex_at (P := Try.prog) W 9 t .i64 (j : Int) j x Try.underlying9 rfl hx
                  by_cases hx0 : x = 0
                  · subst hx0
                    have HZ2 : Hid (∀ i, 5 + m ≤ i → i < j + 1 → t.data.toList[i]? = some 0) := fun i h1 h2 => by
                      by_cases h : i = j
                      · subst h; exact hx
                      · exact HZ.out i h1 (by omega)
                    change ∀ W, (Instr.index 9 (.string t) (.int .i64 (j : Int))).run Try.prog W = .ok (.int .u8 0) W at hix
                    clear hx
                    go_wp2
                    go_roundg (gk - 1)
                    case measure => omega
                    case rel => exact ⟨j + 1, by omega, by omega, by go_num, HZ2, rfl⟩
                  · obtain rfl : E = 91 := by
                      rw [HU.out, if_neg (fun h => h rfl), if_neg q1, if_neg]
                      intro h
                      have h3 := List.all_eq_true.1 h x (List.mem_iff_getElem?.2 ⟨j - (5 + m), by rw [List.getElem?_drop, show 5 + m + (j - (5 + m)) = j by omega]; exact hx⟩)
                      exact hx0 (eq_of_beq h3)
                    obtain rfl : Y = { data := #[] } := HUY.out.trans (if_neg (by decide))
                    have hxn : x.toNat ≠ 0 := fun h => hx0 (UInt8.toNat_inj.1 h)
                    have hxn' : ¬ (x.toNat : Int) = 0 := by omega
                    generalize x.toNat = xn at *
                    clear hx hx0
                    go_wp2
                    go_ret2
                    exact ⟨rfl, Below.refl _ _⟩
                · obtain rfl : j = t.size := by omega
                  have hlt2' : ¬ ((t.size : Nat) : Int) < (t.size : Int) := by omega
                  obtain rfl : E = 0 := by
                    rw [HU.out, if_neg (fun h => h rfl), if_neg q1, if_pos]
                    rw [List.all_eq_true]
                    intro x hx
                    obtain ⟨i, hi⟩ := List.mem_iff_getElem?.1 hx
                    rw [List.getElem?_drop] at hi
                    have h3 := (List.getElem?_eq_some_iff.1 hi).1
                    have h4 := HZ.out (5 + m + i) (by omega) (by have := HL.out; omega)
                    rw [hi] at h4
                    injection h4 with h4
                    subst h4
                    rfl
                  obtain rfl : Y = t.extract 5 (5 + m) := by
                    rw [HUY.out, if_pos rfl]
                    apply ByteArray.ext
                    apply Array.ext'
                    rw [str_data, ByteArray.data_extract, Array.toList_extract, List.extract_eq_take_drop, Nat.add_sub_cancel_left]
                  have hsl : ∀ W, (Instr.slice 9 (.string t) (some (.int .i64 5)) (some (.int .i64 (5 + (m : Int)))) none).run Try.prog W = .ok (.string (t.extract 5 (5 + m))) W := fun W => by
                    have h := run_slice_string (P := Try.prog) (w := W) 9 t .i64 .i64 5 (5 + (m : Int)) Try.underlying9 (by omega) (by omega) (by omega)
                    rw [h]
                    congr 3
                  go_wp2
                  go_ret2
                  exact ⟨rfl, Below.refl _ _⟩
      · obtain rfl : E = 92 := HU.out.trans (if_pos q0)
        obtain rfl : Y = { data := #[] } := HUY.out.trans (if_neg (by decide))
        have q0' : ((n0 : Int) != k) = true := by simpa using q0
        go_enter Try.func10, Try.ntmps10
        go_wp2
        go_ret2
        exact ⟨rfl, Below.refl _ _⟩
    · have e1 : unpE k t = 92 := by unfold unpE; rw [if_neg h1, if_pos (by omega)]
      have e2 : unpY k t = { data := #[] } := if_neg (by rw [e1]; decide)
      rw [e1, e2]
      clear e1 e2
      by_cases h3 : k < 1
      · go_enter Try.func10, Try.ntmps10
        go_wp2
        go_ret2
        exact ⟨rfl, Below.refl _ _⟩
      · by_cases h4 : 255 < k
        · go_enter Try.func10, Try.ntmps10
          go_wp2
          go_ret2
          exact ⟨rfl, Below.refl _ _⟩
        · have h5 : t.size < 5 := by omega
          have h5' : (t.size : Int) < 5 := by omega
          go_enter Try.func10, Try.ntmps10
          go_wp2
          go_ret2
          exact ⟨rfl, Below.refl _ _⟩
end Go.Proofs.Ytcoddgpfdcjnaab.Fr
