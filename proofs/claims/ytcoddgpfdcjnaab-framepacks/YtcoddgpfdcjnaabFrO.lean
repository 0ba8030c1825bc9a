import Derived.Test.YtcoddgpfdcjnaabFrB
import Derived.Test.YtcoddgpfdcjnaabFrC
import Derived.Test.YtcoddgpfdcjnaabFrH
import Derived.Test.YtcoddgpfdcjnaabBaseM
import Derived.Test.YtcoddgpfdcjnaabFrF
namespace Go.Proofs.Ytcoddgpfdcjnaab.Fr
open Go.RowKit Go.Lib Go.Deep

theorem own_fresh (w : World) (xs : List UInt8) (hx : xs.length ≤ maxLen) : World.ownsRow (w.alloc (.cells (Lib.byteCells xs).toArray 5)) w.heap.size 5 1 (.slice (some ⟨w.heap.size, 0, none⟩) xs.length xs.length) xs.length (Lib.byteCells xs) := by
  have hl : (Lib.byteCells xs).length = xs.length := by simp [Lib.byteCells]
  exact ⟨by omega, .inr ⟨w.heap.size, xs.length, _, rfl, Nat.le_refl _, heap_new w _, Nat.le_refl _, hx, by simp [hl], by rw [List.toList_toArray]; exact List.take_of_length_le (by omega)⟩⟩
theorem own_slice {w : World} {B n : Nat} {v : Value} {xs : List Value} (h : w.ownsRow B 5 1 v n xs) (hn : 0 < n) : ∃ g cap, v = .slice (some ⟨g, 0, none⟩) n cap := by
  rcases h.2 with ⟨h1, h2⟩ | ⟨g, cap, cur, h1, _⟩
  · omega
  · exact ⟨g, cap, h1⟩
set_option maxRecDepth 20000 in
set_option maxHeartbeats 1000000 in
theorem rpack_any (k : Int) (b : ByteArray) (z : Int) (hb : b.size ≤ 140737488351232) (w : World) : Calls Try.prog 7 #[.int .i64 k, .string b, .int .i64 z] w fun e w' => e = .returned (.tuple #[.string (packY k b z), .int .i64 (packE k b z)]) ∧ Below w.heap.size w w' := by
  by_cases h1 : 1 ≤ k ∧ k ≤ 255
  · by_cases h2 : 1048576 < z
    · have e1 : packE k b z = 3 := by unfold packE; rw [if_neg (by omega), if_pos h2]
      have e2 : packY k b z = { data := #[] } := if_neg (by rw [e1]; decide)
      rw [e1, e2]
      clear e1 e2
      obtain ⟨g1, g2⟩ := h1
      go_enter Try.func7, Try.ntmps7
      go_wp2
      go_ret2
      exact ⟨rfl, Below.refl _ _⟩
    · by_cases h3 : z < 5
      · have e1 : packE k b z = 90 := by unfold packE; rw [if_neg (by omega), if_neg h2, if_pos (by omega)]
        have e2 : packY k b z = { data := #[] } := if_neg (by rw [e1]; decide)
        rw [e1, e2]
        clear e1 e2
        obtain ⟨g1, g2⟩ := h1
        go_enter Try.func7, Try.ntmps7
        go_wp2
        go_ret2
        exact ⟨rfl, Below.refl _ _⟩
      · by_cases h4 : z - 5 < (b.size : Int)
        · have e1 : packE k b z = 90 := by unfold packE; rw [if_neg (by omega), if_neg h2, if_pos (by omega)]
          have e2 : packY k b z = { data := #[] } := if_neg (by rw [e1]; decide)
          rw [e1, e2]
          clear e1 e2
          obtain ⟨g1, g2⟩ := h1
          go_enter Try.func7, Try.ntmps7
          go_wp2
          go_ret2
          exact ⟨rfl, Below.refl _ _⟩
        · obtain ⟨K, rfl⟩ : ∃ K : Nat, k = (K : Int) := ⟨k.toNat, by omega⟩
          obtain ⟨Z, rfl⟩ : ∃ Z : Nat, z = (Z : Int) := ⟨z.toNat, by omega⟩
          have hbl : b.data.toList.length = b.size := (size_eq b).symm
          have e1 : packE (K : Int) b (Z : Int) = 0 := packE_of ⟨by omega, by omega, by omega, by omega⟩
          have e2 : packY (K : Int) b (Z : Int) = str (frL K b.data.toList Z) := by unfold packY; rw [if_pos e1, Int.toNat_natCast, Int.toNat_natCast]
          rw [e1, e2]
          clear e1 e2
          obtain ⟨g1, g2⟩ := h1
          have h5 : 5 + b.size ≤ Z := by omega
          have h6 : Z ≤ 1048576 := by omega
          obtain ⟨i0, hi, hz0, hz1, hz2⟩ := info_parts info5
          have hone : ∀ (u : Value), u ∈ [Value.int .u8 0] → u.oneCell' = true := by simp [Value.oneCell']
          have HH : Hid (w.alloc (.cells #[.int .u8 (K : Int), .int .u8 ((b.size : Int) / 16777216), .int .u8 ((b.size : Int) / 65536 % 256), .int .u8 ((b.size : Int) / 256 % 256), .int .u8 ((b.size : Int) % 256)] 5) = w.alloc (.cells (Lib.byteCells (hdL K b.size)).toArray 5)) := by
            show _ = _
            rw [← hd_cells K b.size (by omega) (by omega)]
            rw [show (b.size : Int) / 16777216 = ((b.size / 16777216 : Nat) : Int) by omega, show (b.size : Int) / 65536 % 256 = ((b.size / 65536 : Nat) : Int) by omega, show (b.size : Int) / 256 % 256 = ((b.size / 256 % 256 : Nat) : Int) by omega, show (b.size : Int) % 256 = ((b.size % 256 : Nat) : Int) by omega]
          have HS : Hid (∀ (j : Nat) (c : UInt8), b.data.toList[j]? = some c → Lib.byteCells (hdL K b.size ++ b.data.toList.take (j + 1)) = Lib.byteCells (hdL K b.size ++ b.data.toList.take j) ++ [.int .u8 (c.toNat : Int)]) := fun j c hc => by
            rw [take_succ_of _ j c hc, ← List.append_assoc, byteCells_append]
            rfl
          have HZ : Hid (∀ m, 5 + b.size ≤ m → Lib.byteCells (frL K b.data.toList (m + 1)) = Lib.byteCells (frL K b.data.toList m) ++ [.int .u8 0]) := fun m hm => by
            unfold frL
            rw [show m + 1 - 5 - b.data.toList.length = (m - 5 - b.data.toList.length) + 1 by omega, List.replicate_succ', ← List.append_assoc, byteCells_append]
            rfl
          have HC : Hid (∀ v W, World.ownsRow W w.heap.size 5 1 v Z (Lib.byteCells (frL K b.data.toList Z)) → (convert 40 9 v).run Try.prog W = .ok (.string (str (frL K b.data.toList Z))) W) := fun v W h =>
            convert_own (P := Try.prog) W 40 9 5 w.heap.size _ _ Try.underlying40 Try.underlying5 Try.underlying9 (by rw [frL_length K _ Z (by omega)]; exact h)
          have HF0 : Hid (hdL K b.size ++ b.data.toList.take b.size = frL K b.data.toList (5 + b.size)) := by
            show _ = _
            unfold frL
            rw [List.take_of_length_le (by omega), hbl, show 5 + b.size - 5 - b.size = 0 by omega]
            simp
          have HL : Hid (b.data.toList.length = b.size) := hbl
          have h7 : (5 + (b.size : Int)) ≤ (Z : Int) := by omega
          generalize str (frL K b.data.toList Z) = RS at *
          clear hbl
          go_enter Try.func7, Try.ntmps7
          go_wp2_with fail
          rw [HH.out]
          go_loopg [9, 10] b.size (fun gk v iv wr => ∃ j : Nat, j + gk = b.size ∧ iv = .int .i64 (j : Int) ∧ wr.ownsRow w.heap.size 5 1 v (5 + j) (Lib.byteCells (hdL K b.size ++ b.data.toList.take j)) ∧ Below w.heap.size w wr)
          case atStart => exact ⟨0, by omega, rfl, by rw [List.take_zero, List.append_nil]; exact own_fresh w (hdL K b.size) (by rw [hdL_length]; decide), (Below.refl _ _).alloc (Nat.le_refl _) _⟩
          case round =>
            obtain ⟨j, hj, rfl, hown, hbel⟩ := hrel
            have HJ : Hid (j + gk = b.size) := hj
            have hjb : j ≤ b.size := by omega
            clear hj
            by_cases hlt : j < b.size
            · have hlt' : (j : Int) < (b.size : Int) := by omega
              obtain ⟨c, hc⟩ : ∃ c, b.data.toList[j]? = some c := ⟨_, List.getElem?_eq_getElem (by have := HL.out; omega)⟩
              have hix := fun W => rindex_at (P := Try.prog) W 9 b .i64 (j : Int) j c Try.underlying9 rfl hc
              have hm1 : 5 + j + 1 ≤ maxLen := by unfold maxLen; omega
              have HE := HS.out j c hc
              have hone2 : ∀ (u : Value), u ∈ [Value.int .u8 (c.toNat : Int)] → u.oneCell' = true := by simp [Value.oneCell']
              generalize (c.toNat : Int) = cn at *
              go_wp2_with (at_builtin; refine wpList_append_own _ rfl _ _ 40 rfl w.heap.size 5 i0 (.int .u8 0) 1 1 Try.underlying40 hi hz0 hz1 hz2 rfl (by decide) _ _ _ rfl (hown.alloc _) ⟨wr.heap.size, 0, none⟩ 1 1 [.int .u8 cn] rfl rfl (by intro i u h; exact cells_new wr #[.int .u8 cn] 5 i u (by simpa using h)) hone2 hm1 (by omega) (by have := hbel.size; simp; omega) ?_; intro v' w' hown' hgrow' _)
              have R : w'.ownsRow w.heap.size 5 1 v' (5 + (j + 1)) (Lib.byteCells (hdL K b.size ++ b.data.toList.take (j + 1))) := by rw [HE, show 5 + (j + 1) = 5 + j + 1 by omega]; exact hown'
              have hb' : Below w.heap.size w w' := by
                have h1 := hbel.alloc hbel.size (.cells #[.int .u8 cn] 5)
                exact h1.trans (grown_below hgrow' h1.size (hown.alloc _))
              clear hown' hgrow' hown HE hc
              go_wp2
              go_roundg (gk - 1)
              case measure => have := HJ.out; omega
              case rel => exact ⟨j + 1, by have := HJ.out; omega, by go_num, R, hb'⟩
            · obtain rfl : j = b.size := by omega
              have hlt' : ¬ ((b.size : Nat) : Int) < (b.size : Int) := by omega
              rw [HF0.out] at hown
              obtain ⟨ga, ca, rfl⟩ := own_slice hown (by omega)
              go_wp2
              go_loopg [9] (Z - (5 + b.size)) (fun gj v wx => ∃ m g cap : Nat, m + gj = Z ∧ 5 + b.size ≤ m ∧ v = .slice (some ⟨g, 0, none⟩) m cap ∧ wx.ownsRow w.heap.size 5 1 (.slice (some ⟨g, 0, none⟩) m cap) m (Lib.byteCells (frL K b.data.toList m)) ∧ Below w.heap.size w wx)
              case atStart => exact ⟨5 + b.size, ga, ca, by omega, by omega, rfl, hown, hbel⟩
              case round =>
                clear hown hbel
                obtain ⟨m, g, cap, hm, hm5, rfl, hown, hbel⟩ := hrel
                by_cases hlt2 : m < Z
                · have hlt2' : (m : Int) < (Z : Int) := by omega
                  have hm1 : m + 1 ≤ maxLen := by unfold maxLen; omega
                  have HE := HZ.out m hm5
                  go_wp2_with (at_builtin; refine wpList_append_own _ rfl _ _ 40 rfl w.heap.size 5 i0 (.int .u8 0) 1 1 Try.underlying40 hi hz0 hz1 hz2 rfl (by decide) _ _ _ rfl (hown.alloc _) ⟨wr.heap.size, 0, none⟩ 1 1 [.int .u8 0] rfl rfl (by intro i u h; exact cells_new wr #[.int .u8 0] 5 i u (by simpa using h)) hone hm1 (by omega) (by have := hbel.size; simp; omega) ?_; intro v' w' hown' hgrow' _)
                  have R : w'.ownsRow w.heap.size 5 1 v' (m + 1) (Lib.byteCells (frL K b.data.toList (m + 1))) := by rw [HE]; exact hown'
                  have hb' : Below w.heap.size w w' := by
                    have h1 := hbel.alloc hbel.size (.cells #[.int .u8 0] 5)
                    exact h1.trans (grown_below hgrow' h1.size (hown.alloc _))
                  obtain ⟨gb, cb, rfl⟩ := own_slice R (by omega)
                  clear hown' hgrow' hown HE
                  go_wp2
                  go_roundg (gk - 1)
                  case measure => omega
                  case rel => exact ⟨m + 1, gb, cb, by omega, by omega, rfl, R, hb'⟩
                · obtain rfl : m = Z := by omega
                  have hlt2' : ¬ (m : Int) < (m : Int) := by omega
                  have hcv := HC.out _ _ hown
                  clear hown
                  go_wp2
                  go_ret2
                  exact ⟨rfl, hbel⟩
  · have e1 : packE k b z = 92 := by unfold packE; rw [if_pos (by omega)]
    have e2 : packY k b z = { data := #[] } := if_neg (by rw [e1]; decide)
    rw [e1, e2]
    clear e1 e2
    by_cases g1 : k < 1
    · go_enter Try.func7, Try.ntmps7
      go_wp2
      go_ret2
      exact ⟨rfl, Below.refl _ _⟩
    · have g2 : 255 < k := by omega
      go_enter Try.func7, Try.ntmps7
      go_wp2
      go_ret2
      exact ⟨rfl, Below.refl _ _⟩
end Go.Proofs.Ytcoddgpfdcjnaab.Fr
