import Derived.Test.YtbdgbefjmfcgcaaDoorIxH0
namespace Go.Proofs.YtbdgbefjmfcgcaaDoor.Ix
open Go.RowKit Go.Lib Go.Deep

set_option maxRecDepth 20000 in
set_option maxHeartbeats 1000000 in
/-- a text of sixteen bytes -/
theorem sixteen_any (n : Int) (w : World) : Calls Tryd.prog 18 #[.int .i64 n] w fun e w' => ∃ t : ByteArray, t.size = 16 ∧ e = .returned (.string t) ∧ Below w.heap.size w w' := by
  obtain ⟨i0, hi, hz0, hz1, hz2⟩ := info_parts info5
  have HC : Hid (∀ (W : World) v (L : List UInt8), W.ownsRow w.heap.size 5 1 v L.length (Lib.byteCells L) → (convert 52 9 v).run Tryd.prog W = .ok (.string (str L)) W) := fun W v L h => convert_own (P := Tryd.prog) W 52 9 5 _ _ _ Tryd.underlying52 Tryd.underlying5 Tryd.underlying9 h
  go_enter Tryd.func18, Tryd.ntmps18
  go_wp2_with fail
  go_loopg [0, 3, 4] 16 (fun gk nv lv kv wr => ∃ (k : Nat) (z : Int) (L : List UInt8), k + gk = 16 ∧ L.length = k ∧ nv = .int .i64 z ∧ kv = .int .i64 (k : Int) ∧ Hid (wr.ownsRow w.heap.size 5 1 lv k (Lib.byteCells L)) ∧ Hid (Below w.heap.size w wr))
  case atStart => exact ⟨0, n, [], by omega, rfl, rfl, rfl, World.ownsRow_nil _ _ _ _, Below.refl _ _⟩
  case round =>
    obtain ⟨k, z, L, hk, hL, rfl, rfl, hO, hB⟩ := hrel
    by_cases hlt : k < 16
    · have hltI : (k : Int) < 16 := by omega
      obtain ⟨b, hb⟩ : ∃ b : UInt8, (b.toNat : Int) = z % 256 := ⟨UInt8.ofNat (z % 256).toNat, by simp; omega⟩
      have hone : ∀ u ∈ [Value.int .u8 (z % 256)], u.oneCell' = true := by simp [Value.oneCell']
      have ho := fun o => owns_below hO.out ((Below.refl wr.heap.size wr).alloc (Nat.le_refl _) o)
      have hsz := hB.out.size
      have HE : Hid (∀ w' v', (wr.alloc (.cells #[.int .u8 (z % 256)] 5)).grownBy w' (u3).ownBlock → w'.ownsRow w.heap.size 5 1 v' (k + 1) (Lib.byteCells L ++ [.int .u8 (z % 256)]) → w'.ownsRow w.heap.size 5 1 v' (k + 1) (Lib.byteCells (L ++ [b])) ∧ Below w.heap.size w w') := fun w' v' hg hw' => by
        refine ⟨by rw [← hb] at hw'; simpa [Lib.byteCells] using hw', ?_⟩
        have h1 : Below w.heap.size w (wr.alloc (.cells #[.int .u8 (z % 256)] 5)) := hB.out.alloc hsz _
        exact h1.trans (grown_below hg h1.size (ho _))
      go_wp2_with (first | (go_at_call 16; refine (modI_any _ _ (by omega) _).mono ?_; rintro e w5 ⟨rfl, rfl⟩) | (at_builtin; refine wpList_append_own _ rfl _ _ 52 rfl w.heap.size 5 i0 (.int .u8 0) 1 1 Tryd.underlying52 hi hz0 hz1 hz2 rfl (by decide) _ _ _ rfl (ho _) ⟨_, 0, none⟩ 1 1 [.int .u8 (z % 256)] rfl rfl (by intro i u h; exact cells_new _ #[.int .u8 (z % 256)] 5 i u (by simpa using h)) hone (by unfold maxLen; omega) (by omega) (by simp; omega) ?_; intro v' w' hown' hgrow' _; have HR : Hid _ := HE.out w' v' hgrow' hown'; clear hown' hgrow'))
      go_roundg (gk - 1)
      case measure => omega
      case rel => exact ⟨k + 1, _, L ++ [b], by omega, by rw [List.length_append, hL]; rfl, rfl, rfl, HR.out.1, HR.out.2⟩
    · obtain rfl : k = 16 := by omega
      have hcv := HC.out wr _ L (by rw [hL]; exact hO.out)
      go_wp2
      go_ret
      exact ⟨_, by rw [str_size]; exact hL, rfl, hB.out⟩
end Go.Proofs.YtbdgbefjmfcgcaaDoor.Ix
