import Derived.Test.YtpoipgmphhfgeabDoorPaV
import Derived.Test.YtpoipgmphhfgeabDoorPaT
namespace Go.Proofs.YtpoipgmphhfgeabDoor.Pa
open Go.RowKit Go.Lib

def wL : List ByteArray := [str [97], str [98, 46, 99]]
theorem w_parse : parseE { data := #[47, 97, 47, 98, 46, 99] } = 0 ∧ parseY { data := #[47, 97, 47, 98, 46, 99] } = wL := by
  constructor <;> decide +kernel
theorem w_text : fault wL = 0 ∧ textY wL = { data := #[47, 97, 47, 98, 46, 99] } := by
  constructor <;> decide +kernel

set_option maxRecDepth 20000 in
set_option maxHeartbeats 1000000 in
theorem works_any (w : World) : Calls Tryd.prog 10 #[] w fun e w' => e = .returned (.bool true) ∧ Below w.heap.size w w' := by
  have h1 := parse_any { data := #[47, 97, 47, 98, 46, 99] } w
  rw [w_parse.1, w_parse.2] at h1
  have HT : Hid (∀ W v, See W v wL → Calls Tryd.prog 21 #[v] W fun e w' => e = .returned (.tuple #[.string { data := #[47, 97, 47, 98, 46, 99] }, .int .i64 0]) ∧ Below W.heap.size W w') := fun W v hv => by
    have h := text_any W v wL hv (by decide)
    rw [w_text.1, w_text.2] at h
    exact h
  have HS : Hid (∀ W v u, See W v wL → See W u wL → Calls Tryd.prog 8 #[v, u] W fun e w' => e = .returned (.bool true) ∧ Below W.heap.size W w') := fun W v u hv hu => same_any W v u wL hv hu (by decide)
  have HN : Hid (∀ W : World, See (W.alloc (.cells #[.string { data := #[97] }, .string { data := #[98, 46, 99] }] 9)) (.slice (some ⟨W.heap.size, 0, none⟩) 2 2) wL) := fun W => see_new W _ wL 2 2 rfl rfl (Nat.le_refl _)
  generalize wL = L at *
  go_enter Tryd.func10, Tryd.ntmps10
  go_wp2_with fail
  refine h1.mono ?_
  rintro e w1 ⟨⟨u1, rfl, ho1⟩, hb1⟩
  go_wp2_with fail
  refine (HT.out _ _ (HN.out w1)).mono ?_
  rintro e w2 ⟨rfl, hb2⟩
  have h12 := ((Below.refl _ w1).alloc (Nat.le_refl _) _).trans (hb2.mono (by simp))
  have h01 : Below w.heap.size w w2 := hb1.trans (h12.mono hb1.size)
  go_wp2_with (go_at_call 7; refine (num_any _ _).mono ?_; rintro e w4 ⟨rfl, h4⟩; rw [h4]; clear h4 w4)
  refine (HS.out _ _ _ (((ho1.below h12).below ((Below.refl _ w2).alloc (Nat.le_refl _) _)).see) (HN.out w2)).mono ?_
  rintro e w3 ⟨rfl, hb3⟩
  go_wp2_with fail
  go_ret
  exact ⟨rfl, h01.trans ((((Below.refl _ w2).alloc (Nat.le_refl _) _).trans (hb3.mono (by simp))).mono h01.size)⟩
end Go.Proofs.YtpoipgmphhfgeabDoor.Pa
