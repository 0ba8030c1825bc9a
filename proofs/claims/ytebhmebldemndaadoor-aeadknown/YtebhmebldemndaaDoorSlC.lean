import Derived.Test.YtebhmebldemndaaDoorLkC
import Derived.Test.YtebhmebldemndaaDoorAe6S
namespace Go.Proofs.YtebhmebldemndaaDoor.Ae
open Go.RowKit Go.Lib Go.Deep

set_option maxRecDepth 20000 in
theorem seal_no (key nonce aad plain : ByteArray) (hk : key.size ≤ 9223372036854775807) (hn : nonce.size ≤ 9223372036854775807) (h : ¬ (key.size = 32 ∧ (nonce.size = 12 ∨ nonce.size = 24))) (w : World) :
    Calls Tryd.prog 12 #[.string key, .string nonce, .string aad, .string plain] w fun e w' => e = .returned (.tuple #[.string { data := #[] }, .int .i64 (askN key nonce)]) ∧ Below w.heap.size w w' := by
  have ha := lockOf_no key nonce hk hn h w
  have h0 : ¬ askN key nonce = 0 := by rcases askN_no h with e | e <;> rw [e] <;> decide
  generalize askN key nonce = x at ha h0 ⊢
  go_enter Tryd.func12, Tryd.ntmps12
  go_wp2_with fail
  refine ha.mono ?_
  rintro e w1 ⟨rfl, hb⟩
  go_wp2
  go_ret2
  exact ⟨rfl, by first | exact hb | exact hb.alloc hb.size _⟩

set_option maxRecDepth 20000 in
theorem seal_big (key nonce aad plain : ByteArray) (h1 : key.size = 32) (h2 : nonce.size = 12 ∨ nonce.size = 24) (hb : 1048576 < aad.size ∨ 1048576 < plain.size) (w : World) (hT : ATabs w) :
    Calls Tryd.prog 12 #[.string key, .string nonce, .string aad, .string plain] w fun e w' => e = .returned (.tuple #[.string { data := #[] }, .int .i64 3]) ∧ Below w.heap.size w w' := by
  obtain ⟨yk, yn, hk, hn, ek, en, ha⟩ := lockOf_yes key nonce h1 h2 w hT
  clear ek en
  by_cases hb1 : 1048576 < aad.size
  · have i1 : (1048576 : Int) < (aad.size : Int) := by omega
    go_enter Tryd.func12, Tryd.ntmps12
    go_wp2_with fail
    refine ha.mono ?_
    rintro e w1 ⟨rfl, hb⟩
    go_wp2
    go_ret2
    exact ⟨rfl, by first | exact hb | exact hb.alloc hb.size _⟩
  · have i1 : ¬ (1048576 : Int) < (aad.size : Int) := by omega
    have i2 : (1048576 : Int) < (plain.size : Int) := by omega
    go_enter Tryd.func12, Tryd.ntmps12
    go_wp2_with fail
    refine ha.mono ?_
    rintro e w1 ⟨rfl, hb⟩
    go_wp2
    go_ret2
    exact ⟨rfl, by first | exact hb | exact hb.alloc hb.size _⟩

set_option maxRecDepth 20000 in
set_option maxHeartbeats 1000000 in
theorem seal_yes (key nonce aad plain : ByteArray) (h1 : key.size = 32) (h2 : nonce.size = 12 ∨ nonce.size = 24) (ha : aad.size ≤ 1048576) (hp : plain.size ≤ 1048576) (w : World) (hT : ATabs w) :
    Calls Tryd.prog 12 #[.string key, .string nonce, .string aad, .string plain] w fun e w' => e = .returned (.tuple #[.string (str (sealL key.data.toList nonce.data.toList aad.data.toList plain.data.toList)), .int .i64 0]) ∧ Below w.heap.size w w' := by
  obtain ⟨yk, yn, hk, hn, ek, en, hlo⟩ := lockOf_yes key nonce h1 h2 w hT
  have i1 : ¬ (1048576 : Int) < (aad.size : Int) := by omega
  have i2 : ¬ (1048576 : Int) < (plain.size : Int) := by omega
  rw [sealL, ek, en]
  clear ek en
  have HTT : Hid (∀ W, Below w.heap.size w W → ATabs W) := fun W h => hT.below h
  have hxo := fun W (k1 : ATabs W) => turned_any yk yn plain hk hn (by omega) W k1
  obtain ⟨C, hC⟩ : ∃ C, Cha.overL yk.data.toList 1 yn.data.toList plain.data.toList = C := ⟨_, rfl⟩
  have hCl : C.length = plain.size := by rw [← hC, Cha.overL_length, ← size_eq]
  rw [hC] at hxo
  have htg := fun W (k1 : ATabs W) => atag_any yk yn aad (str C) hk hn (by omega) (by rw [str_size]; omega) W k1
  rw [str_data] at htg
  have hsum : (str C).size + (str (tagA yk.data.toList yn.data.toList aad.data.toList C)).size ≤ 9223372036854775807 := by rw [str_size, str_size, tagA_length]; omega
  have HF : Hid (str C ++ str (tagA yk.data.toList yn.data.toList aad.data.toList C) = str (sealS yk.data.toList yn.data.toList aad.data.toList plain.data.toList)) := by
    show _ = _
    rw [sealS, hC, ← str_of (str C ++ _), ByteArray.data_append, Array.toList_append, str_data, str_data]
  rw [← HF.out]
  clear hC HF hCl
  generalize str (tagA yk.data.toList yn.data.toList aad.data.toList C) = yt at htg hsum ⊢
  generalize str C = yc at hxo htg hsum ⊢
  clear hT
  go_enter Tryd.func12, Tryd.ntmps12
  go_wp2_with fail
  refine hlo.mono ?_
  rintro e w1 ⟨rfl, hb1⟩
  clear hlo
  have hb2 := hb1.alloc hb1.size (.cells #[.string yk, .string yn] 44)
  have hx1 := hxo _ (HTT.out _ hb2)
  go_wp2_with fail
  refine hx1.mono ?_
  rintro e w3 ⟨rfl, hb3'⟩
  have hA : w3.heap[w1.heap.size]? = some (.cells #[.string yk, .string yn] 44 (0, 0)) := (hb3'.block _ (by simp)).trans (heap_new _ _)
  have c0 : w3.cell? ⟨w1.heap.size, 0, none⟩ = some (.string yk) := (cell_of_heap hA).trans rfl
  have c1 : w3.cell? ⟨w1.heap.size, 1, none⟩ = some (.string yn) := (cell_of_heap hA).trans rfl
  have hb3 := hb2.trans (hb3'.mono hb2.size)
  have ht1 := htg w3 (HTT.out _ hb3)
  clear hA hx1 hb3' hb2 hb1
  go_wp2_with (go_at_call 27; refine ht1.mono ?_; rintro e w4 ⟨rfl, hb4⟩)
  go_ret2
  exact ⟨rfl, hb3.trans (hb4.mono hb3.size)⟩

theorem sealC : SealC := by
  intro key nonce aad plain w hk hn _ _ hT
  by_cases h : key.size = 32 ∧ (nonce.size = 12 ∨ nonce.size = 24)
  · by_cases hb : 1048576 < aad.size ∨ 1048576 < plain.size
    · rw [(sealE_big h.1 h.2 hb).1, (sealE_big h.1 h.2 hb).2]
      exact seal_big key nonce aad plain h.1 h.2 hb w hT
    · rw [(sealE_yes h.1 h.2 (by omega) (by omega)).1, (sealE_yes h.1 h.2 (by omega) (by omega)).2]
      exact seal_yes key nonce aad plain h.1 h.2 (by omega) (by omega) w hT
  · rw [(sealE_no h).1, (sealE_no h).2]
    exact seal_no key nonce aad plain (by omega) (by omega) h w

end Go.Proofs.YtebhmebldemndaaDoor.Ae
