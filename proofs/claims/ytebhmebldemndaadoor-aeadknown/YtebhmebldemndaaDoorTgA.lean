import Derived.Test.YtebhmebldemndaaDoorLkB
import Derived.Test.YtebhmebldemndaaDoorHdA
import Derived.Test.YtebhmebldemndaaDoorChaR
import Derived.Test.YtebhmebldemndaaDoorChaO
import Derived.Test.YtebhmebldemndaaDoorMacM
namespace Go.Proofs.YtebhmebldemndaaDoor.Ae
open Go.RowKit Go.Lib Go.Deep
open Cha (CTabs)

set_option maxRecDepth 20000 in
theorem turned_any (yk yn text : ByteArray) (hk : yk.size = 32) (hn : yn.size = 12) (ht : text.size ≤ 4194304) (w : World) (hT : ATabs w) :
    Calls Tryd.prog 26 #[.agg #[.string yk, .string yn], .string text] w fun e w' => e = .returned (.tuple #[.string (str (Cha.overL yk.data.toList 1 yn.data.toList text.data.toList)), .int .i64 0]) ∧ Below w.heap.size w w' := by
  have hb0 : Below w.heap.size w (w.alloc (.cells #[.string yk, .string yn] 44)) := (Below.refl _ _).alloc (Nat.le_refl _) _
  have hT1 := hT.below hb0
  have hx := fun W (k1 : ATabs W) => Cha.xor_yes yk yn text 1 hk hn (by omega) (by omega) (by omega) W k1.c k1.s
  generalize str (Cha.overL yk.data.toList 1 yn.data.toList text.data.toList) = Y at hx ⊢
  go_enter Tryd.func26, Tryd.ntmps26
  go_wp2_with fail
  refine (hx _ hT1).mono ?_
  rintro e w1 ⟨rfl, hb1⟩
  go_wp2
  go_ret2
  exact ⟨rfl, hb0.trans (hb1.mono (by simp))⟩

set_option maxRecDepth 20000 in
set_option maxHeartbeats 1000000 in
theorem atag_any (yk yn aad c : ByteArray) (hk : yk.size = 32) (hn : yn.size = 12) (ha : aad.size ≤ 4194304) (hc : c.size ≤ 4194304) (w : World) (hT : ATabs w) :
    Calls Tryd.prog 27 #[.agg #[.string yk, .string yn], .string aad, .string c] w fun e w' => e = .returned (.tuple #[.string (str (tagA yk.data.toList yn.data.toList aad.data.toList c.data.toList)), .int .i64 0]) ∧ Below w.heap.size w w' := by
  have hla : aad.data.toList.length = aad.size := (size_eq aad).symm
  have hlc : c.data.toList.length = c.size := (size_eq c).symm
  have hb0 : Below w.heap.size w (w.alloc (.cells #[.string yk, .string yn] 44)) := (Below.refl _ _).alloc (Nat.le_refl _) _
  have hT1 := hT.below hb0
  have HTT : Hid (∀ W, Below w.heap.size w W → ATabs W) := fun W h => hT.below h
  have hbl := Cha.block_yes yk yn 0 hk hn (by omega) _ hT1.c hT1.s
  have hsl : ∀ W, (Instr.slice 9 (.string (str (Cha.blockL yk.data.toList 0 yn.data.toList))) none (some (.int .i64 32)) none).run Tryd.prog W = .ok (.string (str ((Cha.blockL yk.data.toList 0 yn.data.toList).take 32))) W := fun W => slice_take W 9 Tryd.underlying9 _ 32 (by rw [Cha.blockL_length]; omega)
  have hsz : (str (Cha.blockL yk.data.toList 0 yn.data.toList)).size = 64 := by rw [str_size, Cha.blockL_length]
  have hkl : ((Cha.blockL yk.data.toList 0 yn.data.toList).take 32).length = 32 := by rw [List.length_take, Cha.blockL_length]; rfl
  have hnw := fun W (k1 : ATabs W) => Pol.new_yes (str ((Cha.blockL yk.data.toList 0 yn.data.toList).take 32)) (by rw [str_size, hkl]) W k1.k (by have := k1.s; omega)
  rw [str_data] at hnw
  have hr := Pol.rOf_lt ((Cha.blockL yk.data.toList 0 yn.data.toList).take 32) (by omega)
  have hs := Pol.sOf_lt ((Cha.blockL yk.data.toList 0 yn.data.toList).take 32) hkl
  have HL : Hid (tagA yk.data.toList yn.data.toList aad.data.toList c.data.toList = Pol.bytL 16 (Pol.tagN (Pol.rOf ((Cha.blockL yk.data.toList 0 yn.data.toList).take 32)) (Pol.sOf ((Cha.blockL yk.data.toList 0 yn.data.toList).take 32)) ([] ++ cat [aad, str (fillZ aad.size), c, str (fillZ c.size), str (le8 aad.size), str (le8 c.size)]))) := by
    show _ = _
    rw [List.nil_append]
    unfold tagA Pol.tagL
    congr 2
    simp [cat, macL, str_data, hla, hlc]
  have hz1 := fun W => filling_any aad (by omega) W
  have hz2 := fun W => filling_any c (by omega) W
  have he1 := fun W => lengthOf_any aad (by omega) W
  have he2 := fun W => lengthOf_any c (by omega) W
  have hs6 : (str (fillZ aad.size)).size ≤ 16 ∧ (str (fillZ c.size)).size ≤ 16 ∧ (str (le8 aad.size)).size ≤ 8 ∧ (str (le8 c.size)).size ≤ 8 := by
    refine ⟨?_, ?_, ?_, ?_⟩
    · rw [str_size, fillZ_length]; have := fillN_lt aad.size; omega
    · rw [str_size, fillZ_length]; have := fillN_lt c.size; omega
    · rw [str_size]; exact Nat.le_of_eq (leN_length _ _)
    · rw [str_size]; exact Nat.le_of_eq (leN_length _ _)
  rw [HL.out]
  clear HL hla hlc hT hT1
  generalize Pol.rOf ((Cha.blockL yk.data.toList 0 yn.data.toList).take 32) = r at hnw hr ⊢
  generalize Pol.sOf ((Cha.blockL yk.data.toList 0 yn.data.toList).take 32) = s at hnw hs ⊢
  generalize str ((Cha.blockL yk.data.toList 0 yn.data.toList).take 32) = yk2 at hsl hnw
  generalize str (Cha.blockL yk.data.toList 0 yn.data.toList) = yb at hbl hsl hsz
  generalize str (fillZ aad.size) = y1 at hz1 hs6 ⊢
  generalize str (fillZ c.size) = y2 at hz2 hs6 ⊢
  generalize str (le8 aad.size) = y3 at he1 hs6 ⊢
  generalize str (le8 c.size) = y4 at he2 hs6 ⊢
  clear hkl
  go_enter Tryd.func27, Tryd.ntmps27
  go_wp2_with fail
  refine hbl.mono ?_
  rintro e w1 ⟨rfl, hb1'⟩
  have hb1 : Below w.heap.size w w1 := hb0.trans (hb1'.mono (by simp))
  clear hb0 hb1' hbl
  have hnw1 := hnw w1 (HTT.out w1 hb1)
  go_wp2_with fail
  refine hnw1.mono ?_
  rintro e w2 ⟨⟨p, rfl, hp, hM⟩, hb2'⟩
  have hb2 := hb1.trans (hb2'.mono hb1.size)
  have hpw : w.heap.size ≤ p := by have := hb1.size; omega
  clear hnw1 hnw hb2'
  go_wp2_with fail
  refine (hz1 w2).mono ?_
  rintro e w2' ⟨rfl, rfl⟩
  go_wp2_with fail
  refine (hz2 w2).mono ?_
  rintro e w2' ⟨rfl, rfl⟩
  go_wp2_with fail
  refine (he1 w2).mono ?_
  rintro e w3 ⟨rfl, hb3'⟩
  have hM3 : Pol.Mac w3 p r s [] := hM.kept (hb3'.block p hM.lt)
  have hb3 := hb2.trans (hb3'.mono hb2.size)
  clear hM hb3' hb2
  go_wp2_with fail
  refine (he2 w3).mono ?_
  rintro e w4 ⟨rfl, hb4'⟩
  have hM4 : Pol.Mac w4 p r s [] := hM3.kept (hb4'.block p hM3.lt)
  have hb4 := hb3.trans (hb4'.mono hb3.size)
  clear hM3 hb4' hb3 hz1 hz2 he1 he2
  have hb5 := hb4.alloc hb4.size (.cells #[.string aad, .string y1, .string c, .string y2, .string y3, .string y4] 9)
  have hM5 : Pol.Mac (w4.alloc (.cells #[.string aad, .string y1, .string c, .string y2, .string y3, .string y4] 9)) p r s [] := hM4.kept (Below.heap_alloc _ _ _ hM4.lt)
  have hpl := hM4.lt
  have hho := handOn_any hM5 (by omega) [aad, y1, c, y2, y3, y4] w4.heap.size 0 6 (by omega) (by simp) (fun i x hx => by
      rw [Nat.zero_add]
      refine (cell_of_heap (heap_new _ _)).trans ?_
      have h6 : i = 0 ∨ i = 1 ∨ i = 2 ∨ i = 3 ∨ i = 4 ∨ i = 5 := by have := (List.getElem?_eq_some_iff.1 hx).1; simp at this; omega
      rcases h6 with rfl | rfl | rfl | rfl | rfl | rfl <;> simp at hx <;> subst hx <;> rfl) (by simp) (fun x hx => by
      simp at hx
      rcases hx with rfl | rfl | rfl | rfl | rfl | rfl <;> omega)
  clear hM4 hM5 hb4 hpl
  change Calls _ _ #[_, .slice _ 6 6] _ _ at hho
  go_wp2_with fail
  refine hho.mono ?_
  rintro e w6 ⟨rfl, hM6, ho6⟩
  have hb6 : Below w.heap.size w w6 := hb5.trans (ho6.below hb5.size (by simp; omega))
  have hsm := Pol.sum_any hM6 (by omega) hs
  clear hho hM6 ho6 hb5
  go_wp2_with fail
  refine hsm.mono ?_
  rintro e w7 ⟨rfl, hb7⟩
  have hb := hb6.trans (hb7.mono hb6.size)
  clear hsm hb7 hb6
  go_wp2
  go_ret2
  exact ⟨rfl, hb⟩

end Go.Proofs.YtebhmebldemndaaDoor.Ae
