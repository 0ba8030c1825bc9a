import Derived.Test.YtggfeppphhigdabDoorMacW
import Derived.Test.YtggfeppphhigdabDoorR5G
namespace Go.Proofs.YtggfeppphhigdabDoor
open Go.RowKit Go.Lib Go.Deep

theorem num_any (n : Int) (w : World) : Calls Tryd.prog 7 #[.int .i64 n] w fun e w' => e = .returned (.int .i64 n) ∧ w = w' := by
  go_enter Tryd.func7, Tryd.ntmps7
  go_wp2
  go_ret
  exact ⟨rfl, rfl⟩

/-- the tag, and the error's number -/
def tagS (key text : ByteArray) : ByteArray := if key.size = 32 then str (tagL key.data.toList text.data.toList) else str []
def tagE (key : ByteArray) : Int := if key.size = 32 then 0 else 40
theorem tag_any (key text : ByteArray) (h63 : text.size ≤ 9223372036854775807) (w : World) (hT : KTab w) (h1 : 0 < w.heap.size) :
    Calls Tryd.prog 5 #[.string key, .string text] w fun e w' => e = .returned (.tuple #[.string (tagS key text), .int .i64 (tagE key)]) ∧ Below w.heap.size w w' := by
  unfold tagS tagE
  by_cases hk : key.size = 32
  · rw [if_pos hk, if_pos hk]
    exact tag_yes key text hk h63 w hT h1
  · rw [if_neg hk, if_neg hk]
    refine (tag_no key text hk w).mono ?_
    rintro e w' ⟨rfl, rfl⟩
    exact ⟨rfl, Below.refl _ _⟩
theorem rtag_any (key text : ByteArray) (h63 : text.size ≤ 9223372036854775000) (w : World) :
    Calls Tryd.prog 6 #[.string key, .string text] w fun e w' => e = .returned (.tuple #[.string (tagS key text), .int .i64 (tagE key)]) ∧ Below w.heap.size w w' := by
  unfold tagS tagE
  by_cases hk : key.size = 32
  · rw [if_pos hk, if_pos hk]
    exact rtag_yes key text hk h63 w
  · rw [if_neg hk, if_neg hk]
    refine (rtag_no key text hk w).mono ?_
    rintro e w' ⟨rfl, rfl⟩
    exact ⟨rfl, Below.refl _ _⟩

theorem polyTags_walk (key text : ByteArray) (h63 : text.size ≤ 9223372036854775000) (w : World) (hT : KTab w) (h1 : 0 < w.heap.size) :
    Calls Tryd.prog 3 #[.string key, .string text] w fun e w' => e = .returned (.bool true) ∧ Below w.heap.size w w' := by
  have ht := tag_any key text (by omega) w hT h1
  have hrt := fun W => rtag_any key text h63 W
  revert ht hrt
  generalize tagS key text = y
  generalize tagE key = z
  intro ht hrt
  go_enter Tryd.func3, Tryd.ntmps3
  go_wp2_with fail
  refine ht.mono ?_
  rintro e w1 ⟨rfl, hb1⟩
  clear ht
  go_wp2_with fail
  refine (hrt w1).mono ?_
  rintro e w2 ⟨rfl, hb2'⟩
  have hb2 := hb1.trans (hb2'.mono hb1.size)
  clear hb1 hb2' hrt
  go_wp2_with (go_at_call 7; refine (num_any _ _).mono ?_; rintro e w3 ⟨rfl, rfl⟩)
  go_ret
  exact ⟨by simp, hb2⟩

end Go.Proofs.YtggfeppphhigdabDoor
