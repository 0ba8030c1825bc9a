import Derived.Test.YtjjabkimmgcejaaDoorKdfD
namespace Go.Proofs.YtjjabkimmgcejaaDoor
open Go.RowKit Go.Lib Go.Deep

set_option maxRecDepth 20000 in
set_option maxHeartbeats 1000000 in
theorem hmac_any (key : ByteArray) (hk : key.size < 576460752303423488) (w : World) (ht : Tabs w) (h4 : 4 ≤ w.heap.size) (a : Option Addr) (len cap : Nat) (ss : List ByteArray) (hL : Lst w a len ss) (hnil : a = none → cap = 0) (hsm : len ≤ 2147483647) (hJ : (joinL ss).length + 64 < 576460752303423488) :
    Calls Tryd.prog 9 #[.string key, .slice a len cap] w fun e w' => e = .returned (.string (str (hmacL key.data.toList (joinL ss)))) ∧ Below w.heap.size w w' := by
  have hbl := blocksOf_any key hk w ht h4
  have HI : Hid ((str (innerL key.data.toList)).size = 64 ∧ (str (outerL key.data.toList)).size = 64) := ⟨by rw [str_size, innerL_length], by rw [str_size, outerL_length]⟩
  have HH : Hid (hmacL key.data.toList (joinL ss) = shaL ((str (outerL key.data.toList)).data.toList ++ shaL ((str (innerL key.data.toList)).data.toList ++ joinL ss))) := by show _ = _; rw [str_data, str_data]; rfl
  revert hbl HI HH
  generalize str (innerL key.data.toList) = yi
  generalize str (outerL key.data.toList) = yo
  intro hbl HI HH
  have HL : Hid (Lst w a len ss) := hL
  clear hL
  go_enter Tryd.func9, Tryd.ntmps9
  go_wp2_with fail
  refine hbl.mono ?_
  rintro e w1 ⟨rfl, hb1⟩
  have z1 := hb1.size
  have hks := ksum_any yi yo (by have := HI.out.2; omega) w1 (ht.below hb1 (by omega)) (by omega) a len cap ss (HL.out.below hb1) hnil hsm (by have := HI.out.1; omega)
  rw [← HH.out] at hks
  go_wp2_with (go_at_call 31; refine hks.mono ?_; rintro e w2 ⟨rfl, hb2⟩)
  go_ret
  exact ⟨rfl, hb1.trans (hb2.mono z1)⟩



theorem hmac_one (key s : ByteArray) (hk : key.size < 576460752303423488) (hs : s.size + 64 < 576460752303423488) (w : World) (ht : Tabs w) (h4 : 4 ≤ w.heap.size) :
    Calls Tryd.prog 9 #[.string key, .slice (some ⟨w.heap.size, 0, none⟩) 1 1] (w.alloc (.cells #[.string s] 9)) fun e w' => e = .returned (.string (str (hmacL key.data.toList s.data.toList))) ∧ Below w.heap.size w w' := by
  have hb : Below w.heap.size w (w.alloc (.cells #[.string s] 9)) := (Below.refl _ _).alloc (Nat.le_refl _) _
  have h := hmac_any key hk _ (ht.below hb (by omega)) (by simp; omega) (some ⟨w.heap.size, 0, none⟩) 1 1 [s] (lst_one s w) (fun h => by cases h) (by omega) (by rw [joinL_one, ← size_eq]; exact hs)
  rw [joinL_one] at h
  refine h.mono ?_
  rintro e w' ⟨rfl, h2⟩
  exact ⟨rfl, hb.trans (h2.mono (by simp))⟩

end Go.Proofs.YtjjabkimmgcejaaDoor
