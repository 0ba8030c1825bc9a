import Derived.Test.YtebhmebldemndaaDoorMacM
namespace Go.Proofs.YtebhmebldemndaaDoor.Pol
open Go.RowKit Go.Lib Go.Deep

theorem tag_no (key text : ByteArray) (hk : key.size ≠ 32) (w : World) : Calls Tryd.prog 19 #[.string key, .string text] w fun e w' => e = .returned (.tuple #[.string (str []), .int .i64 40]) ∧ w = w' := by
  have hn := new_no key hk w
  go_enter Tryd.func19, Tryd.ntmps19
  go_wp2_with fail
  refine hn.mono ?_
  rintro e w' ⟨rfl, rfl⟩
  go_wp2
  go_ret2
  exact ⟨rfl, rfl⟩
theorem tag_yes (key text : ByteArray) (hk : key.size = 32) (h63 : text.size ≤ 9223372036854775807) (w : World) (hT : KTab w) (h1 : 0 < w.heap.size) :
    Calls Tryd.prog 19 #[.string key, .string text] w fun e w' => e = .returned (.tuple #[.string (str (tagL key.data.toList text.data.toList)), .int .i64 0]) ∧ Below w.heap.size w w' := by
  have hn := new_yes key hk w hT h1
  have hkl : key.data.toList.length = 32 := by rw [← size_eq]; exact hk
  have hr := rOf_lt key.data.toList (by omega)
  have hs := sOf_lt key.data.toList hkl
  have HL : Hid (tagL key.data.toList text.data.toList = bytL 16 (tagN (rOf key.data.toList) (sOf key.data.toList) ([] ++ text.data.toList))) := rfl
  revert hn hr hs HL
  generalize rOf key.data.toList = r
  generalize sOf key.data.toList = s
  intro hn hr hs HL
  go_enter Tryd.func19, Tryd.ntmps19
  go_wp2_with fail
  refine hn.mono ?_
  rintro e w1 ⟨⟨p, rfl, hp, hM⟩, hb1⟩
  clear hn
  have htk := take_any p r s [] text w1 hM (by omega) h63
  go_wp2_with fail
  refine htk.mono ?_
  rintro e w2 ⟨rfl, hM2, hO2⟩
  clear htk hM
  have hb2 : Below w.heap.size w w2 := hb1.trans (hO2.below hb1.size (by simp; omega))
  have hsm := sum_any hM2 (by omega) hs
  rw [← HL.out] at hsm
  clear hO2 hb1 hM2
  go_wp2_with fail
  refine hsm.mono ?_
  rintro e w3 ⟨rfl, hb3⟩
  have hb := hb2.trans (hb3.mono hb2.size)
  clear hsm hb3 hb2
  go_wp2
  go_ret2
  exact ⟨rfl, hb⟩

end Go.Proofs.YtebhmebldemndaaDoor.Pol
