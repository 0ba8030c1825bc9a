import Derived.Test.YtengclnahppmhaaGreatDoorRf6A
import Derived.Test.YtengclnahppmhaaGreatDoorAeZ
import Derived.Test.YtengclnahppmhaaGreatDoorRf4N
import Derived.Test.YtengclnahppmhaaGreatDoorR5M
namespace Go.Proofs.YtengclnahppmhaaGreatDoor.Ae
open Go.RowKit Go.Lib Go.Deep
open Cha (PTabs CTabs)

theorem rasked_any (key nonce : ByteArray) (_hk : key.size ≤ 9223372036854775807) (_hn : nonce.size ≤ 9223372036854775807) (w : World) :
    Calls Tryz.prog 49 #[.string key, .string nonce] w fun e w' => e = .returned (.int .i64 (if key.size ≠ 32 then 40 else if nonce.size ≠ 12 ∧ nonce.size ≠ 24 then 41 else 0)) ∧ w = w' := by
  by_cases h1 : key.size = 32
  · have i1 : (key.size : Int) = 32 := by omega
    rw [if_neg (by omega)]
    by_cases h2 : nonce.size = 12
    · have i2 : (nonce.size : Int) = 12 := by omega
      rw [if_neg (by omega)]
      go_enter Tryz.func49, Tryz.ntmps49
      go_wp2
      go_ret
      exact ⟨rfl, rfl⟩
    · have i2 : ¬ (nonce.size : Int) = 12 := by omega
      by_cases h3 : nonce.size = 24
      · have i3 : (nonce.size : Int) = 24 := by omega
        rw [if_neg (by omega)]
        go_enter Tryz.func49, Tryz.ntmps49
        go_wp2
        go_ret
        exact ⟨rfl, rfl⟩
      · have i3 : ((nonce.size : Int) != 24) = true := by simp; omega
        have i2' : ((nonce.size : Int) != 12) = true := by simp; omega
        rw [if_pos (by omega)]
        go_enter Tryz.func49, Tryz.ntmps49
        go_wp2
        go_ret
        exact ⟨rfl, rfl⟩
  · have i1 : ¬ (key.size : Int) = 32 := by omega
    rw [if_pos (by omega)]
    go_enter Tryz.func49, Tryz.ntmps49
    go_wp2
    go_ret
    exact ⟨rfl, rfl⟩

theorem sizePair : (Tryz.prog.info? 101).map (·.size) = some 2 := by kernel_rfl

theorem rshort_12 (key nonce : ByteArray) (hn : nonce.size = 12) (w : World) :
    Calls Tryz.prog 50 #[.string key, .string nonce] w fun e w' => e = .returned (.agg #[.string key, .string nonce]) ∧ Below w.heap.size w w' := by
  have i2 : (nonce.size : Int) = 12 := by omega
  go_enter Tryz.func50, Tryz.ntmps50
  go_wp2
  refine bodyPost_ret (results_cell_row rfl _ _ w.heap.size 101 _ (0, 0) _ rfl (heap_new _ _) Tryz.underlying101 rfl sizePair) rfl ?_
  exact ⟨rfl, (Below.refl _ _).alloc (Nat.le_refl _) _⟩

theorem rshort_24 (key nonce : ByteArray) (hk : key.size = 32) (hn : nonce.size = 24) (w : World) (hP : PTabs w) (h3 : 8 ≤ w.heap.size) :
    Calls Tryz.prog 50 #[.string key, .string nonce] w fun e w' => e = .returned (.agg #[.string (str (Cha.hchL key.data.toList (nonce.data.toList.take 16))), .string (str ([0, 0, 0, 0] ++ nonce.data.toList.drop 16))]) ∧ Below w.heap.size w w' := by
  have i2 : (nonce.size : Int) = 24 := by omega
  have hl : nonce.data.toList.length = 24 := by rw [← size_eq]; exact hn
  have hb0 : Below w.heap.size w (w.alloc (.cells #[.string { data := #[] }, .string { data := #[] }] 101)) := (Below.refl _ _).alloc (Nat.le_refl _) _
  have hh := Cha.rhch_yes key (nonce.extract 0 16) hk (by simp; omega) (w.alloc (.cells #[.string { data := #[] }, .string { data := #[] }] 101)) (hP.below hb0 h3) (by simp; omega)
  rw [show (nonce.extract 0 16).data.toList = nonce.data.toList.take 16 by rw [extract_data, List.drop_zero]] at hh
  have hcat : ({ data := #[0, 0, 0, 0] } : ByteArray) ++ nonce.extract 16 24 = str ([0, 0, 0, 0] ++ nonce.data.toList.drop 16) := by
    rw [← str_of (({ data := #[0, 0, 0, 0] } : ByteArray) ++ _), ByteArray.data_append, Array.toList_append, extract_data, List.take_of_length_le (by rw [List.length_drop]; omega)]
  generalize str (Cha.hchL key.data.toList (nonce.data.toList.take 16)) = yk at hh ⊢
  generalize str ([0, 0, 0, 0] ++ nonce.data.toList.drop 16) = yn at hcat ⊢
  go_enter Tryz.func50, Tryz.ntmps50
  go_wp2_with fail
  refine hh.mono ?_
  rintro e w1 ⟨rfl, hb1⟩
  have hA : w1.heap[w.heap.size]? = some (.cells #[.string { data := #[] }, .string { data := #[] }] 101 (0, 0)) := (hb1.block _ (by simp)).trans (heap_new _ _)
  have c0 : w1.cell? ⟨w.heap.size, 0, none⟩ = some (.string { data := #[] }) := (cell_of_heap hA).trans rfl
  have c1 : w1.cell? ⟨w.heap.size, 1, none⟩ = some (.string { data := #[] }) := (cell_of_heap hA).trans rfl
  have f0 : w1.frozen? ⟨w.heap.size, 0, none⟩ = false := frozen_of_heap hA
  have f1 : w1.frozen? ⟨w.heap.size, 1, none⟩ = false := frozen_of_heap hA
  go_wp2
  have e0 := heap_setCell_same w1 _ 0 _ _ (.string yk) hA
  have e1 : ((w1.setCell ⟨w.heap.size, 0, none⟩ (.string yk)).setCell ⟨w.heap.size, 1, none⟩ (.string yn)).heap[w.heap.size]? = some (.cells #[.string yk, .string yn] 101 (0, 0)) := heap_setCell_same _ _ 1 _ _ (.string yn) e0
  refine bodyPost_ret (results_cell_row rfl _ _ w.heap.size 101 _ (0, 0) _ rfl e1 Tryz.underlying101 rfl sizePair) rfl ?_
  exact ⟨rfl, ((hb0.trans (hb1.mono (by simp))).setCell (Nat.le_refl _) _).setCell (Nat.le_refl _) _⟩

set_option maxRecDepth 20000 in
set_option maxHeartbeats 1000000 in
theorem rtag_any (key nonce aad c : ByteArray) (hk : key.size = 32) (hn : nonce.size = 12) (ha : aad.size ≤ 4194304) (hc : c.size ≤ 4194304) (w : World) (hP : PTabs w) (h3 : 8 ≤ w.heap.size) :
    Calls Tryz.prog 52 #[.agg #[.string key, .string nonce], .string aad, .string c] w fun e w' => e = .returned (.string (str (tagA key.data.toList nonce.data.toList aad.data.toList c.data.toList))) ∧ Below w.heap.size w w' := by
  have hla : aad.data.toList.length = aad.size := (size_eq aad).symm
  have hlc : c.data.toList.length = c.size := (size_eq c).symm
  have hb0 : Below w.heap.size w (w.alloc (.cells #[.string key, .string nonce] 101)) := (Below.refl _ _).alloc (Nat.le_refl _) _
  have hbl := Cha.rBlock_yes key nonce 0 hk hn (by omega) (w.alloc (.cells #[.string key, .string nonce] 101)) (hP.below hb0 h3) (by simp; omega)
  have hz1 := fun W => rzeros_any aad.size (by omega) W
  have hz2 := fun W => rzeros_any c.size (by omega) W
  have he1 := fun W => reight_any aad.size (by omega) W
  have he2 := fun W => reight_any c.size (by omega) W
  have hsz : (str (Cha.blockL key.data.toList 0 nonce.data.toList)).size = 64 := by rw [str_size, Cha.blockL_length]
  have hsl : ∀ W, (Instr.slice 9 (.string (str (Cha.blockL key.data.toList 0 nonce.data.toList))) none (some (.int .i64 32)) none).run Tryz.prog W = .ok (.string (str ((Cha.blockL key.data.toList 0 nonce.data.toList).take 32))) W := fun W => slice_take W 9 Tryz.underlying9 _ 32 (by rw [Cha.blockL_length]; omega)
  have hs6 : (str (fillZ aad.size)).size ≤ 16 ∧ (str (fillZ c.size)).size ≤ 16 ∧ (str (le8 aad.size)).size ≤ 8 ∧ (str (le8 c.size)).size ≤ 8 := by
    refine ⟨?_, ?_, ?_, ?_⟩
    · rw [str_size, fillZ_length]; have := fillN_lt aad.size; omega
    · rw [str_size, fillZ_length]; have := fillN_lt c.size; omega
    · rw [str_size]; exact Nat.le_of_eq (leN_length _ _)
    · rw [str_size]; exact Nat.le_of_eq (leN_length _ _)
  have hmac : (aad ++ str (fillZ aad.size) ++ c ++ str (fillZ c.size) ++ str (le8 aad.size) ++ str (le8 c.size)).data.toList = macL aad.data.toList c.data.toList := by
    simp only [ByteArray.data_append, Array.toList_append, str_data, macL, hla, hlc]
  have htg := fun W => Pol.rtag_yes (str ((Cha.blockL key.data.toList 0 nonce.data.toList).take 32)) (aad ++ str (fillZ aad.size) ++ c ++ str (fillZ c.size) ++ str (le8 aad.size) ++ str (le8 c.size)) (by rw [str_size, List.length_take, Cha.blockL_length]; rfl) (by simp only [ByteArray.size_append]; omega) W
  rw [hmac, str_data] at htg
  change ∀ W, Calls Tryz.prog _ _ W fun e w' => e = .returned (.tuple #[.string (str (tagA key.data.toList nonce.data.toList aad.data.toList c.data.toList)), .int .i64 0]) ∧ Below W.heap.size W w' at htg
  clear hmac hla hlc
  generalize str (tagA key.data.toList nonce.data.toList aad.data.toList c.data.toList) = Y at htg ⊢
  generalize str ((Cha.blockL key.data.toList 0 nonce.data.toList).take 32) = yk at hsl htg
  generalize str (Cha.blockL key.data.toList 0 nonce.data.toList) = yb at hbl hsl hsz
  generalize str (fillZ aad.size) = y1 at hz1 htg hs6
  generalize str (fillZ c.size) = y2 at hz2 htg hs6
  generalize str (le8 aad.size) = y3 at he1 htg hs6
  generalize str (le8 c.size) = y4 at he2 htg hs6
  obtain ⟨u1, u2, u3, u4⟩ := hs6
  have b1 : aad.size + y1.size ≤ 9223372036854775807 := by omega
  have b2 : aad.size + y1.size + c.size ≤ 9223372036854775807 := by omega
  have b3 : aad.size + y1.size + c.size + y2.size ≤ 9223372036854775807 := by omega
  have b4 : aad.size + y1.size + c.size + y2.size + y3.size ≤ 9223372036854775807 := by omega
  have b5 : aad.size + y1.size + c.size + y2.size + y3.size + y4.size ≤ 9223372036854775807 := by omega
  go_enter Tryz.func52, Tryz.ntmps52
  go_wp2_with fail
  refine hbl.mono ?_
  rintro e w1 ⟨rfl, hb1'⟩
  have hb1 : Below w.heap.size w w1 := hb0.trans (hb1'.mono (by simp))
  clear hb0 hb1' hbl
  go_wp2_with fail
  refine (hz1 w1).mono ?_
  rintro e w2 ⟨rfl, hb2'⟩
  have hb2 := hb1.trans (hb2'.mono hb1.size)
  clear hb1 hb2'
  go_wp2_with fail
  refine (hz2 w2).mono ?_
  rintro e w3 ⟨rfl, hb3'⟩
  have hb3 := hb2.trans (hb3'.mono hb2.size)
  clear hb2 hb3'
  go_wp2_with fail
  refine (he1 w3).mono ?_
  rintro e w4 ⟨rfl, hb4'⟩
  have hb4 := hb3.trans (hb4'.mono hb3.size)
  clear hb3 hb4'
  go_wp2_with fail
  refine (he2 w4).mono ?_
  rintro e w5 ⟨rfl, hb5'⟩
  have hb5 := hb4.trans (hb5'.mono hb4.size)
  clear hb4 hb5'
  go_wp2_with fail
  refine (htg _).mono ?_
  rintro e w6 ⟨rfl, hb6'⟩
  go_wp2
  go_ret
  exact ⟨rfl, hb5.trans (hb6'.mono hb5.size)⟩

/-- a nonce of either length -/
theorem rshort_any (key nonce : ByteArray) (hk : key.size = 32) (hn : nonce.size = 12 ∨ nonce.size = 24) (w : World) (hP : PTabs w) (h3 : 8 ≤ w.heap.size) :
    Calls Tryz.prog 50 #[.string key, .string nonce] w fun e w' => e = .returned (.agg #[.string (str (keyL key.data.toList nonce.data.toList)), .string (str (nonL nonce.data.toList))]) ∧ Below w.heap.size w w' := by
  have hl : nonce.data.toList.length = nonce.size := (size_eq nonce).symm
  rcases hn with hn | hn
  · have h := rshort_12 key nonce hn w
    rw [keyL, nonL, if_pos (by omega), if_pos (by omega), str_of, str_of]
    exact h
  · have h := rshort_24 key nonce hk hn w hP h3
    rw [keyL, nonL, if_neg (by omega), if_neg (by omega)]
    exact h

set_option maxRecDepth 20000 in
set_option maxHeartbeats 1000000 in
theorem rseal_no (key nonce aad plain : ByteArray) (hk : key.size ≤ 9223372036854775807) (hn : nonce.size ≤ 9223372036854775807) (h : ¬ (key.size = 32 ∧ (nonce.size = 12 ∨ nonce.size = 24))) (w : World) :
    Calls Tryz.prog 28 #[.string key, .string nonce, .string aad, .string plain] w fun e w' => e = .returned (.tuple #[.string { data := #[] }, .int .i64 (askN key nonce)]) ∧ w = w' := by
  have ha := rasked_any key nonce hk hn w
  change Calls _ _ _ _ fun e w' => e = .returned (.int .i64 (askN key nonce)) ∧ w = w' at ha
  have h0 : ¬ askN key nonce = 0 := by rcases askN_no h with e | e <;> rw [e] <;> decide
  generalize askN key nonce = x at ha h0 ⊢
  go_enter Tryz.func28, Tryz.ntmps28
  go_wp2_with fail
  refine ha.mono ?_
  rintro e w' ⟨rfl, rfl⟩
  go_wp2
  go_ret2
  exact ⟨rfl, rfl⟩
theorem rseal_big (key nonce aad plain : ByteArray) (h1 : key.size = 32) (h2 : nonce.size = 12 ∨ nonce.size = 24) (hb : 1048576 < aad.size ∨ 1048576 < plain.size) (w : World) :
    Calls Tryz.prog 28 #[.string key, .string nonce, .string aad, .string plain] w fun e w' => e = .returned (.tuple #[.string { data := #[] }, .int .i64 3]) ∧ w = w' := by
  have ha := rasked_any key nonce (by omega) (by omega) w
  change Calls _ _ _ _ fun e w' => e = .returned (.int .i64 (askN key nonce)) ∧ w = w' at ha
  rw [askN_ok h1 h2] at ha
  by_cases hb1 : 1048576 < aad.size
  · have i1 : (1048576 : Int) < (aad.size : Int) := by omega
    go_enter Tryz.func28, Tryz.ntmps28
    go_wp2_with fail
    refine ha.mono ?_
    rintro e w' ⟨rfl, rfl⟩
    go_wp2
    go_ret2
    exact ⟨rfl, rfl⟩
  · have i1 : ¬ (1048576 : Int) < (aad.size : Int) := by omega
    have i2 : (1048576 : Int) < (plain.size : Int) := by omega
    go_enter Tryz.func28, Tryz.ntmps28
    go_wp2_with fail
    refine ha.mono ?_
    rintro e w' ⟨rfl, rfl⟩
    go_wp2
    go_ret2
    exact ⟨rfl, rfl⟩

set_option maxRecDepth 20000 in
set_option maxHeartbeats 1000000 in
theorem rseal_yes (key nonce aad plain : ByteArray) (hk : key.size = 32) (hn : nonce.size = 12 ∨ nonce.size = 24) (ha : aad.size ≤ 1048576) (hp : plain.size ≤ 1048576) (w : World) (hP : PTabs w) (h3 : 8 ≤ w.heap.size) :
    Calls Tryz.prog 28 #[.string key, .string nonce, .string aad, .string plain] w fun e w' => e = .returned (.tuple #[.string (str (sealL key.data.toList nonce.data.toList aad.data.toList plain.data.toList)), .int .i64 0]) ∧ Below w.heap.size w w' := by
  have hask := rasked_any key nonce (by omega) (by omega) w
  change Calls _ _ _ _ fun e w' => e = .returned (.int .i64 (askN key nonce)) ∧ w = w' at hask
  rw [askN_ok hk hn] at hask
  have i1 : ¬ (1048576 : Int) < (aad.size : Int) := by omega
  have i2 : ¬ (1048576 : Int) < (plain.size : Int) := by omega
  have hsh := rshort_any key nonce hk hn w hP h3
  have hlk : key.data.toList.length = 32 := by rw [← size_eq]; exact hk
  have hln : nonce.data.toList.length = 12 ∨ nonce.data.toList.length = 24 := by rw [← size_eq]; exact hn
  obtain ⟨yk, hyk⟩ : ∃ y, str (keyL key.data.toList nonce.data.toList) = y := ⟨_, rfl⟩
  obtain ⟨yn, hyn⟩ : ∃ y, str (nonL nonce.data.toList) = y := ⟨_, rfl⟩
  have hsk : yk.size = 32 := by rw [← hyk, str_size, keyL_length _ _ hlk]
  have hsn : yn.size = 12 := by rw [← hyn, str_size, nonL_length _ hln]
  have HL : Hid (sealL key.data.toList nonce.data.toList aad.data.toList plain.data.toList = sealS yk.data.toList yn.data.toList aad.data.toList plain.data.toList) := by
    show _ = _
    rw [← hyk, ← hyn, str_data, str_data]
    rfl
  rw [hyk, hyn] at hsh
  rw [HL.out]
  clear hyk hyn HL hlk hln
  have HTT : Hid (∀ W, Below w.heap.size w W → PTabs W ∧ 8 ≤ W.heap.size) := fun W h => ⟨hP.below h h3, by have := h.size; omega⟩
  have hxo := fun W (k1 : PTabs W) (k2 : 8 ≤ W.heap.size) => Cha.rxor_yes yk yn plain 1 hsk hsn (by omega) (by omega) (by omega) W k1 k2
  obtain ⟨C, hC⟩ : ∃ C, Cha.overL yk.data.toList 1 yn.data.toList plain.data.toList = C := ⟨_, rfl⟩
  have hCl : C.length = plain.size := by rw [← hC, Cha.overL_length, ← size_eq]
  rw [hC] at hxo
  have htg := fun W (k1 : PTabs W) (k2 : 8 ≤ W.heap.size) => rtag_any yk yn aad (str C) hsk hsn (by omega) (by rw [str_size]; omega) W k1 k2
  rw [str_data] at htg
  have hsum : (str C).size + (str (tagA yk.data.toList yn.data.toList aad.data.toList C)).size ≤ 9223372036854775807 := by rw [str_size, str_size, tagA_length]; omega
  have HF : Hid (str C ++ str (tagA yk.data.toList yn.data.toList aad.data.toList C) = str (sealS yk.data.toList yn.data.toList aad.data.toList plain.data.toList)) := by
    show _ = _
    rw [sealS, hC, ← str_of (str C ++ _), ByteArray.data_append, Array.toList_append, str_data, str_data]
  rw [← HF.out]
  clear hC HF hCl
  generalize str (tagA yk.data.toList yn.data.toList aad.data.toList C) = yt at htg hsum ⊢
  generalize str C = yc at hxo htg hsum ⊢
  clear hP
  go_enter Tryz.func28, Tryz.ntmps28
  go_wp2_with fail
  refine hask.mono ?_
  rintro e w' ⟨rfl, rfl⟩
  go_wp2_with fail
  refine hsh.mono ?_
  rintro e w1 ⟨rfl, hb1⟩
  have hb2 := hb1.alloc hb1.size (.cells #[.string yk, .string yn] 101)
  have hx1 := hxo _ (HTT.out _ hb2).1 (HTT.out _ hb2).2
  go_wp2_with fail
  refine hx1.mono ?_
  rintro e w3 ⟨rfl, hb3'⟩
  have hA : w3.heap[w1.heap.size]? = some (.cells #[.string yk, .string yn] 101 (0, 0)) := (hb3'.block _ (by simp)).trans (heap_new _ _)
  have c0 : w3.cell? ⟨w1.heap.size, 0, none⟩ = some (.string yk) := (cell_of_heap hA).trans rfl
  have c1 : w3.cell? ⟨w1.heap.size, 1, none⟩ = some (.string yn) := (cell_of_heap hA).trans rfl
  have hb3 := hb2.trans (hb3'.mono hb2.size)
  have ht1 := htg w3 (HTT.out _ hb3).1 (HTT.out _ hb3).2
  clear hA hx1 hb3' hb2 hb1
  go_wp2_with (go_at_call 52; refine ht1.mono ?_; rintro e w4 ⟨rfl, hb4⟩)
  go_ret2
  exact ⟨rfl, hb3.trans (hb4.mono hb3.size)⟩

theorem rseal_any (key nonce aad plain : ByteArray) (hk : key.size ≤ 9223372036854775807) (hn : nonce.size ≤ 9223372036854775807) (w : World) (hP : PTabs w) (h3 : 8 ≤ w.heap.size) :
    Calls Tryz.prog 28 #[.string key, .string nonce, .string aad, .string plain] w fun e w' => e = .returned (.tuple #[.string (sealY key nonce aad plain), .int .i64 (sealE key nonce aad plain)]) ∧ Below w.heap.size w w' := by
  by_cases h : key.size = 32 ∧ (nonce.size = 12 ∨ nonce.size = 24)
  · by_cases hb : 1048576 < aad.size ∨ 1048576 < plain.size
    · rw [(sealE_big h.1 h.2 hb).1, (sealE_big h.1 h.2 hb).2]
      refine (rseal_big key nonce aad plain h.1 h.2 hb w).mono ?_
      rintro e w' ⟨rfl, rfl⟩
      exact ⟨rfl, Below.refl _ _⟩
    · rw [(sealE_yes h.1 h.2 (by omega) (by omega)).1, (sealE_yes h.1 h.2 (by omega) (by omega)).2]
      exact rseal_yes key nonce aad plain h.1 h.2 (by omega) (by omega) w hP h3
  · rw [(sealE_no h).1, (sealE_no h).2]
    refine (rseal_no key nonce aad plain hk hn h w).mono ?_
    rintro e w' ⟨rfl, rfl⟩
    exact ⟨rfl, Below.refl _ _⟩

end Go.Proofs.YtengclnahppmhaaGreatDoor.Ae

namespace Go.Proofs.YtengclnahppmhaaGreatDoor.Ae
open Go.RowKit Go.Lib Go.Deep
open Cha (PTabs)

theorem ropen_no (key nonce aad box : ByteArray) (hk : key.size ≤ 9223372036854775807) (hn : nonce.size ≤ 9223372036854775807) (h : ¬ (key.size = 32 ∧ (nonce.size = 12 ∨ nonce.size = 24))) (w : World) :
    Calls Tryz.prog 59 #[.string key, .string nonce, .string aad, .string box] w fun e w' => e = .returned (.tuple #[.string { data := #[] }, .int .i64 (askN key nonce)]) ∧ w = w' := by
  have ha := rasked_any key nonce hk hn w
  change Calls _ _ _ _ fun e w' => e = .returned (.int .i64 (askN key nonce)) ∧ w = w' at ha
  have h0 : ¬ askN key nonce = 0 := by rcases askN_no h with e | e <;> rw [e] <;> decide
  generalize askN key nonce = x at ha h0 ⊢
  go_enter Tryz.func59, Tryz.ntmps59
  go_wp2_with fail
  refine ha.mono ?_
  rintro e w' ⟨rfl, rfl⟩
  go_wp2
  go_ret2
  exact ⟨rfl, rfl⟩
theorem ropen_big (key nonce aad box : ByteArray) (h1 : key.size = 32) (h2 : nonce.size = 12 ∨ nonce.size = 24) (hb : 1048576 < aad.size ∨ 1048592 < box.size) (w : World) :
    Calls Tryz.prog 59 #[.string key, .string nonce, .string aad, .string box] w fun e w' => e = .returned (.tuple #[.string { data := #[] }, .int .i64 3]) ∧ w = w' := by
  have ha := rasked_any key nonce (by omega) (by omega) w
  change Calls _ _ _ _ fun e w' => e = .returned (.int .i64 (askN key nonce)) ∧ w = w' at ha
  rw [askN_ok h1 h2] at ha
  by_cases hb1 : 1048576 < aad.size
  · have i1 : (1048576 : Int) < (aad.size : Int) := by omega
    go_enter Tryz.func59, Tryz.ntmps59
    go_wp2_with fail
    refine ha.mono ?_
    rintro e w' ⟨rfl, rfl⟩
    go_wp2
    go_ret2
    exact ⟨rfl, rfl⟩
  · have i1 : ¬ (1048576 : Int) < (aad.size : Int) := by omega
    have i2 : (1048592 : Int) < (box.size : Int) := by omega
    go_enter Tryz.func59, Tryz.ntmps59
    go_wp2_with fail
    refine ha.mono ?_
    rintro e w' ⟨rfl, rfl⟩
    go_wp2
    go_ret2
    exact ⟨rfl, rfl⟩
theorem ropen_short (key nonce aad box : ByteArray) (h1 : key.size = 32) (h2 : nonce.size = 12 ∨ nonce.size = 24) (h3 : aad.size ≤ 1048576) (h4 : box.size < 16) (w : World) :
    Calls Tryz.prog 59 #[.string key, .string nonce, .string aad, .string box] w fun e w' => e = .returned (.tuple #[.string { data := #[] }, .int .i64 60]) ∧ w = w' := by
  have ha := rasked_any key nonce (by omega) (by omega) w
  change Calls _ _ _ _ fun e w' => e = .returned (.int .i64 (askN key nonce)) ∧ w = w' at ha
  rw [askN_ok h1 h2] at ha
  have i1 : ¬ (1048576 : Int) < (aad.size : Int) := by omega
  have i2 : ¬ (1048592 : Int) < (box.size : Int) := by omega
  have i3 : (box.size : Int) < 16 := by omega
  go_enter Tryz.func59, Tryz.ntmps59
  go_wp2_with fail
  refine ha.mono ?_
  rintro e w' ⟨rfl, rfl⟩
  go_wp2
  go_ret2
  exact ⟨rfl, rfl⟩

set_option maxRecDepth 20000 in
set_option maxHeartbeats 2000000 in
theorem ropen_fit (key nonce aad box : ByteArray) (hk : key.size = 32) (hn : nonce.size = 12 ∨ nonce.size = 24) (ha : aad.size ≤ 1048576) (h4 : 16 ≤ box.size) (h5 : box.size ≤ 1048592) (w : World) (hP : PTabs w) (h3 : 8 ≤ w.heap.size) :
    Calls Tryz.prog 59 #[.string key, .string nonce, .string aad, .string box] w fun e w' => e = .returned (.tuple #[.string (openY key nonce aad box), .int .i64 (openE key nonce aad box)]) ∧ Below w.heap.size w w' := by
  have hask := rasked_any key nonce (by omega) (by omega) w
  change Calls _ _ _ _ fun e w' => e = .returned (.int .i64 (askN key nonce)) ∧ w = w' at hask
  rw [askN_ok hk hn] at hask
  have i1 : ¬ (1048576 : Int) < (aad.size : Int) := by omega
  have i2 : ¬ (1048592 : Int) < (box.size : Int) := by omega
  have i3 : ¬ (box.size : Int) < 16 := by omega
  have hsh := rshort_any key nonce hk hn w hP h3
  have hlk : key.data.toList.length = 32 := by rw [← size_eq]; exact hk
  have hln : nonce.data.toList.length = 12 ∨ nonce.data.toList.length = 24 := by rw [← size_eq]; exact hn
  obtain ⟨yk, hyk⟩ : ∃ y, str (keyL key.data.toList nonce.data.toList) = y := ⟨_, rfl⟩
  obtain ⟨yn, hyn⟩ : ∃ y, str (nonL nonce.data.toList) = y := ⟨_, rfl⟩
  have hsk : yk.size = 32 := by rw [← hyk, str_size, keyL_length _ _ hlk]
  have hsn : yn.size = 12 := by rw [← hyn, str_size, nonL_length _ hln]
  have ek : keyL key.data.toList nonce.data.toList = yk.data.toList := by rw [← hyk, str_data]
  have en : nonL nonce.data.toList = yn.data.toList := by rw [← hyn, str_data]
  rw [hyk, hyn] at hsh
  clear hyk hyn hlk hln
  have HTT : Hid (∀ W, Below w.heap.size w W → PTabs W ∧ 8 ≤ W.heap.size) := fun W h => ⟨hP.below h h3, by have := h.size; omega⟩
  obtain ⟨n, hnn⟩ : ∃ n, box.size - 16 = n := ⟨_, rfl⟩
  have hbl : box.data.toList.length - 16 = n := by rw [← size_eq]; exact hnn
  obtain ⟨yc, hyc⟩ : ∃ y, box.extract 0 n = y := ⟨_, rfl⟩
  obtain ⟨yt, hyt⟩ : ∃ y, box.extract n (n + 16) = y := ⟨_, rfl⟩
  have hcd : yc.data.toList = box.data.toList.take n := by rw [← hyc, extract_data, List.drop_zero, Nat.sub_zero]
  have htd : yt.data.toList = box.data.toList.drop n := by rw [← hyt, extract_data, List.take_of_length_le (by rw [List.length_drop, ← size_eq]; omega)]
  have hcs : yc.size ≤ 1048576 := by rw [size_eq, hcd, List.length_take]; omega
  have htg := fun W (k1 : PTabs W) (k2 : 8 ≤ W.heap.size) => rtag_any yk yn aad yc hsk hsn (by omega) (by omega) W k1 k2
  have hxo := fun W (k1 : PTabs W) (k2 : 8 ≤ W.heap.size) => Cha.rxor_yes yk yn yc 1 hsk hsn (by omega) (by omega) (by omega) W k1 k2
  have hri : right key.data.toList nonce.data.toList aad.data.toList box.data.toList = (tagA yk.data.toList yn.data.toList aad.data.toList yc.data.toList == yt.data.toList) := by
    unfold right
    rw [hbl, ek, en, hcd, htd]
  have hol : openL key.data.toList nonce.data.toList box.data.toList = Cha.overL yk.data.toList 1 yn.data.toList yc.data.toList := by
    unfold openL
    rw [hbl, ek, en, hcd]
  have hE : openE key nonce aad box = if (tagA yk.data.toList yn.data.toList aad.data.toList yc.data.toList == yt.data.toList) then 0 else 61 := by
    unfold openE
    rw [askN_ok hk hn, if_neg (by simp), if_neg (by omega), if_neg (by omega), hri]
  have hY : openY key nonce aad box = if openE key nonce aad box = 0 then str (Cha.overL yk.data.toList 1 yn.data.toList yc.data.toList) else { data := #[] } := by
    unfold openY
    rw [hol]
  clear ek en hcd htd hri hol hP hbl
  have hnI : (box.size : Int) - 16 = (n : Int) := by omega
  have hwn : IntKind.i64.wrap (n : Int) = (n : Int) := by rw [IntKind.wrap_i64]; omega
  have hbs : box.size = n + 16 := by omega
  obtain ⟨yg, hyg⟩ : ∃ y, str (tagA yk.data.toList yn.data.toList aad.data.toList yc.data.toList) = y := ⟨_, rfl⟩
  have hgd : tagA yk.data.toList yn.data.toList aad.data.toList yc.data.toList = yg.data.toList := by rw [← hyg, str_data]
  rw [hyg] at htg
  rw [hgd] at hE
  generalize str (Cha.overL yk.data.toList 1 yn.data.toList yc.data.toList) = yp at hxo hY
  clear hyg hgd
  generalize openE key nonce aad box = E at hE hY ⊢
  generalize openY key nonce aad box = Y at hY ⊢
  have hi6 : (n : Int) ≤ (n : Int) + 16 := by omega
  have hi7 : ¬ (n : Int) + 16 < (n : Int) := by omega
  have hi8 : n ≤ n + 16 := by omega
  -- WALK
  by_cases hq : yg = yt
  · rw [hq, beq_self_eq_true, if_pos rfl] at hE
    subst hE
    rw [if_pos rfl] at hY
    subst hY
    subst hq
    go_enter Tryz.func59, Tryz.ntmps59
    go_wp2_with fail
    refine hask.mono ?_
    rintro e w' ⟨rfl, rfl⟩
    go_wp2_with fail
    refine hsh.mono ?_
    rintro e w1 ⟨rfl, hb1⟩
    have hb2 := hb1.alloc hb1.size (.cells #[.string yk, .string yn] 101)
    have hA : (w1.alloc (.cells #[.string yk, .string yn] 101)).heap[w1.heap.size]? = some (.cells #[.string yk, .string yn] 101 (0, 0)) := heap_new _ _
    go_wp2_with fail
    have HKS : Hid (∀ V W : World, (V.rangeAt w1.heap.size 0 [.string yk, .string yn] ∧ Below w.heap.size w V) → Below V.heap.size V W → (W.rangeAt w1.heap.size 0 [.string yk, .string yn] ∧ Below w.heap.size w W)) := fun V W k hb => by
      have hp : w1.heap.size < V.heap.size := by have := block_lt_of_cell (k.1 0 _ rfl); simpa using this
      exact ⟨fun d v hv => (hb.cell (p := ⟨w1.heap.size, 0 + d, none⟩) hp).trans (k.1 d v hv), k.2.trans (hb.mono k.2.size)⟩
    have hS0 : (w1.alloc (.cells #[.string yk, .string yn] 101)).drew.rangeAt w1.heap.size 0 [.string yk, .string yn] ∧ Below w.heap.size w (w1.alloc (.cells #[.string yk, .string yn] 101)).drew := ⟨range_of_heap (pre := []) (post := []) hA rfl, hb2.drew⟩
    clear hA hb1 hb2
    refine wp_region_held_drew (S := fun W => W.rangeAt w1.heap.size 0 [.string yk, .string yn] ∧ Below w.heap.size w W) (by kernel_rfl) hS0 ?_
    intro hS
    clear hS0
    revert hS HKS
    generalize (w1.alloc (.cells #[.string yk, .string yn] 101)).drew = V
    generalize w1.heap.size = g
    intro HKS hS
    refine wpAnyH_take (i := 0) (oi := { dst := some 38, op := .load 101 (.tmp 11), type := _, pos := _, after := _, guard := none }) (v := .agg ([.string yk, .string yn]).toArray) rfl (by kernel_rfl) (by kernel_rfl) (by kernel_rfl) (fun _ _ _ h => h) (yieldsIf_load_mid (by rfl) 101 (.tmp 11) rfl g 0 (by simp [Act.eval]) ([.string yk, .string yn]) _ (fun x hx => hx.1) Tryz.underlying101 rfl sizePair) hS ?_
    (try simp only [Act.put, List.setIfInBounds_toArray, List.set_cons_zero, List.set_cons_succ])
    refine wpAnyH_take (i := 1) (oi := { dst := some 39, op := .move (.tmp 2), type := _, pos := _, after := _, guard := none }) (v := .string aad) rfl (by kernel_rfl) (by kernel_rfl) (by kernel_rfl) (fun _ _ _ h => h) (Or.inl ⟨by rfl, by intro x _; go_simp⟩) hS ?_
    (try simp only [Act.put, List.setIfInBounds_toArray, List.set_cons_zero, List.set_cons_succ])
    refine wpAnyH_take (i := 2) (oi := { dst := some 40, op := .move (.tmp 3), type := _, pos := _, after := _, guard := none }) (v := .string box) rfl (by kernel_rfl) (by kernel_rfl) (by kernel_rfl) (fun _ _ _ h => h) (Or.inl ⟨by rfl, by intro x _; go_simp⟩) hS ?_
    (try simp only [Act.put, List.setIfInBounds_toArray, List.set_cons_zero, List.set_cons_succ])
    refine wpAnyH_take (i := 3) (oi := { dst := some 41, op := .move (.tmp 12), type := _, pos := _, after := _, guard := none }) (v := .int .i64 (n : Int)) rfl (by kernel_rfl) (by kernel_rfl) (by kernel_rfl) (fun _ _ _ h => h) (Or.inl ⟨by rfl, by intro x _; go_simp⟩) hS ?_
    (try simp only [Act.put, List.setIfInBounds_toArray, List.set_cons_zero, List.set_cons_succ])
    refine wpAnyH_take (i := 4) (oi := { dst := some 42, op := .slice 9 (.tmp 40) none (some (.tmp 41)) none, type := _, pos := _, after := _, guard := none }) (v := .string yc) rfl (by kernel_rfl) (by kernel_rfl) (by kernel_rfl) (fun _ _ _ h => h) (Or.inl ⟨by rfl, by intro x _; go_simp⟩) hS ?_
    (try simp only [Act.put, List.setIfInBounds_toArray, List.set_cons_zero, List.set_cons_succ])
    refine wpAnyH_take (i := 6) (oi := { dst := some 44, op := .move (.tmp 3), type := _, pos := _, after := _, guard := none }) (v := .string box) rfl (by kernel_rfl) (by kernel_rfl) (by kernel_rfl) (fun _ _ _ h => h) (Or.inl ⟨by rfl, by intro x _; go_simp⟩) hS ?_
    (try simp only [Act.put, List.setIfInBounds_toArray, List.set_cons_zero, List.set_cons_succ])
    refine wpAnyH_take (i := 7) (oi := { dst := some 45, op := .move (.tmp 12), type := _, pos := _, after := _, guard := none }) (v := .int .i64 (n : Int)) rfl (by kernel_rfl) (by kernel_rfl) (by kernel_rfl) (fun _ _ _ h => h) (Or.inl ⟨by rfl, by intro x _; go_simp⟩) hS ?_
    (try simp only [Act.put, List.setIfInBounds_toArray, List.set_cons_zero, List.set_cons_succ])
    refine wpAnyH_take (i := 8) (oi := { dst := some 46, op := .slice 9 (.tmp 44) (some (.tmp 45)) none none, type := _, pos := _, after := _, guard := none }) (v := .string yg) rfl (by kernel_rfl) (by kernel_rfl) (by kernel_rfl) (fun _ _ _ h => h) (Or.inl ⟨by rfl, by intro x _; go_simp⟩) hS ?_
    (try simp only [Act.put, List.setIfInBounds_toArray, List.set_cons_zero, List.set_cons_succ])
    refine wpAnyH_ready (rs := [5]) (by kernel_rfl) (by simp) ?_
    refine AllReadyH.cons (o := { dst := some 43, op := .call { callee := .value (.func 52), args := #[.tmp 38, .tmp 39, .tmp 42], argTypes := #[101, 9, 9] }, type := _, pos := _, after := _, guard := none }) rfl (fun K hK => ?_) AllReadyH.nil
    go_simp
    refine (htg V (HTT.out V hS.2).1 (HTT.out V hS.2).2).mono ?_
    rintro e W2 ⟨rfl, hbc⟩
    have hS2 := HKS.out V W2 hS hbc
    refine hK.out _ _ hS2 (fun _ => ?_)
    clear hK K
    (try simp only [Act.put, List.setIfInBounds_toArray, List.set_cons_zero, List.set_cons_succ])
    revert hS2
    clear hS hbc
    generalize W2 = V
    intro hS
    refine wpAnyH_take (i := 9) (oi := { dst := some 47, op := .binOp .neq 9 (.tmp 43) (.tmp 46) 9, type := _, pos := _, after := _, guard := none }) (v := .bool false) rfl (by kernel_rfl) (by kernel_rfl) (by kernel_rfl) (fun _ _ _ h => h) (Or.inl ⟨by rfl, by intro x _; go_simp⟩) hS ?_
    (try simp only [Act.put, List.setIfInBounds_toArray, List.set_cons_zero, List.set_cons_succ])
    refine wpAnyH_done (by kernel_rfl) ?_ _
    go_wp2_with fail
    refine wp_region_held_drew (S := fun W => W.rangeAt g 0 [.string yk, .string yn] ∧ Below w.heap.size w W) (by kernel_rfl) ⟨hS.1, hS.2.drew⟩ ?_
    clear hS
    generalize V.drew = V
    intro hS
    refine wpAnyH_take (i := 0) (oi := { dst := some 49, op := .fieldAddr 101 (.tmp 11) 0, type := _, pos := _, after := _, guard := none }) (v := .pointer (some ⟨g, 0, none⟩)) rfl (by kernel_rfl) (by kernel_rfl) (by kernel_rfl) (fun _ _ _ h => h) (Or.inl ⟨by rfl, by intro x _; go_simp⟩) hS ?_
    (try simp only [Act.put, List.setIfInBounds_toArray, List.set_cons_zero, List.set_cons_succ])
    refine wpAnyH_take (i := 1) (oi := { dst := some 50, op := .load 9 (.tmp 49), type := _, pos := _, after := _, guard := none }) (v := .string yk) rfl (by kernel_rfl) (by kernel_rfl) (by kernel_rfl) (fun _ _ _ h => h) (Or.inl ⟨by rfl, by intro x hx; have h1 : x.cell? ⟨g, 0, none⟩ = some (.string yk) := hx.1 0 _ rfl; go_simp⟩) hS ?_
    (try simp only [Act.put, List.setIfInBounds_toArray, List.set_cons_zero, List.set_cons_succ])
    refine wpAnyH_take (i := 2) (oi := { dst := some 51, op := .fieldAddr 101 (.tmp 11) 1, type := _, pos := _, after := _, guard := none }) (v := .pointer (some ⟨g, 1, none⟩)) rfl (by kernel_rfl) (by kernel_rfl) (by kernel_rfl) (fun _ _ _ h => h) (Or.inl ⟨by rfl, by intro x _; go_simp⟩) hS ?_
    (try simp only [Act.put, List.setIfInBounds_toArray, List.set_cons_zero, List.set_cons_succ])
    refine wpAnyH_take (i := 3) (oi := { dst := some 52, op := .load 9 (.tmp 51), type := _, pos := _, after := _, guard := none }) (v := .string yn) rfl (by kernel_rfl) (by kernel_rfl) (by kernel_rfl) (fun _ _ _ h => h) (Or.inl ⟨by rfl, by intro x hx; have h1 : x.cell? ⟨g, 1, none⟩ = some (.string yn) := hx.1 1 _ rfl; go_simp⟩) hS ?_
    (try simp only [Act.put, List.setIfInBounds_toArray, List.set_cons_zero, List.set_cons_succ])
    refine wpAnyH_take (i := 4) (oi := { dst := some 53, op := .move (.tmp 3), type := _, pos := _, after := _, guard := none }) (v := .string box) rfl (by kernel_rfl) (by kernel_rfl) (by kernel_rfl) (fun _ _ _ h => h) (Or.inl ⟨by rfl, by intro x _; go_simp⟩) hS ?_
    (try simp only [Act.put, List.setIfInBounds_toArray, List.set_cons_zero, List.set_cons_succ])
    refine wpAnyH_take (i := 5) (oi := { dst := some 54, op := .move (.tmp 12), type := _, pos := _, after := _, guard := none }) (v := .int .i64 (n : Int)) rfl (by kernel_rfl) (by kernel_rfl) (by kernel_rfl) (fun _ _ _ h => h) (Or.inl ⟨by rfl, by intro x _; go_simp⟩) hS ?_
    (try simp only [Act.put, List.setIfInBounds_toArray, List.set_cons_zero, List.set_cons_succ])
    refine wpAnyH_take (i := 6) (oi := { dst := some 55, op := .slice 9 (.tmp 53) none (some (.tmp 54)) none, type := _, pos := _, after := _, guard := none }) (v := .string yc) rfl (by kernel_rfl) (by kernel_rfl) (by kernel_rfl) (fun _ _ _ h => h) (Or.inl ⟨by rfl, by intro x _; go_simp⟩) hS ?_
    (try simp only [Act.put, List.setIfInBounds_toArray, List.set_cons_zero, List.set_cons_succ])
    refine wpAnyH_ready (rs := [7]) (by kernel_rfl) (by simp) ?_
    refine AllReadyH.cons (o := { dst := some 56, op := .call { callee := .value (.func 51), args := #[.tmp 50, .const (.int .i64 1), .tmp 52, .tmp 55], argTypes := #[9, 3, 9, 9] }, type := _, pos := _, after := _, guard := none }) rfl (fun K hK => ?_) AllReadyH.nil
    go_simp
    refine (hxo V (HTT.out V hS.2).1 (HTT.out V hS.2).2).mono ?_
    rintro e W2 ⟨rfl, hbc⟩
    have hS2 := HKS.out V W2 hS hbc
    refine hK.out _ _ hS2 (fun _ => ?_)
    clear hK K
    (try simp only [Act.put, List.setIfInBounds_toArray, List.set_cons_zero, List.set_cons_succ])
    revert hS2
    clear hS hbc
    generalize W2 = V
    intro hS
    refine wpAnyH_take (i := 8) (oi := { dst := some 48, op := .move (.tmp 56), type := _, pos := _, after := _, guard := none }) (v := .tuple #[.string Y, .int .i64 0]) rfl (by kernel_rfl) (by kernel_rfl) (by kernel_rfl) (fun _ _ _ h => h) (Or.inl ⟨by rfl, by intro x _; go_simp⟩) hS ?_
    (try simp only [Act.put, List.setIfInBounds_toArray, List.set_cons_zero, List.set_cons_succ])
    refine wpAnyH_take (i := 9) (oi := { dst := some 57, op := .extract (.tmp 48) 0, type := _, pos := _, after := _, guard := none }) (v := .string Y) rfl (by kernel_rfl) (by kernel_rfl) (by kernel_rfl) (fun _ _ _ h => h) (Or.inl ⟨by rfl, by intro x _; go_simp⟩) hS ?_
    (try simp only [Act.put, List.setIfInBounds_toArray, List.set_cons_zero, List.set_cons_succ])
    refine wpAnyH_take (i := 10) (oi := { dst := some 58, op := .extract (.tmp 48) 1, type := _, pos := _, after := _, guard := none }) (v := .int .i64 0) rfl (by kernel_rfl) (by kernel_rfl) (by kernel_rfl) (fun _ _ _ h => h) (Or.inl ⟨by rfl, by intro x _; go_simp⟩) hS ?_
    (try simp only [Act.put, List.setIfInBounds_toArray, List.set_cons_zero, List.set_cons_succ])
    refine wpAnyH_take (i := 11) (oi := { dst := some 13, op := .assign (.tmp 57), type := _, pos := _, after := _, guard := none }) (v := .string Y) rfl (by kernel_rfl) (by kernel_rfl) (by kernel_rfl) (fun _ _ _ h => h) (Or.inl ⟨by rfl, by intro x _; go_simp⟩) hS ?_
    (try simp only [Act.put, List.setIfInBounds_toArray, List.set_cons_zero, List.set_cons_succ])
    refine wpAnyH_take (i := 12) (oi := { dst := some 14, op := .assign (.tmp 58), type := _, pos := _, after := _, guard := none }) (v := .int .i64 0) rfl (by kernel_rfl) (by kernel_rfl) (by kernel_rfl) (fun _ _ _ h => h) (Or.inl ⟨by rfl, by intro x _; go_simp⟩) hS ?_
    (try simp only [Act.put, List.setIfInBounds_toArray, List.set_cons_zero, List.set_cons_succ])
    refine wpAnyH_done (by kernel_rfl) ?_ _
    go_wp2
    go_ret2
    exact ⟨rfl, hS.2⟩
  · have hnb : (yg.toList == yt.toList) = false := by
      apply beq_eq_false_iff_ne.2
      intro e
      apply hq
      rw [toList_data, toList_data] at e
      rw [← str_of yg, ← str_of yt, e]
    have hnd : (yg.data.toList == yt.data.toList) = false := by rw [← toList_data, ← toList_data]; exact hnb
    rw [hnd, if_neg (by simp)] at hE
    subst hE
    rw [if_neg (by decide)] at hY
    subst hY
    go_enter Tryz.func59, Tryz.ntmps59
    go_wp2_with fail
    refine hask.mono ?_
    rintro e w' ⟨rfl, rfl⟩
    go_wp2_with fail
    refine hsh.mono ?_
    rintro e w1 ⟨rfl, hb1⟩
    have hb2 := hb1.alloc hb1.size (.cells #[.string yk, .string yn] 101)
    have hA : (w1.alloc (.cells #[.string yk, .string yn] 101)).heap[w1.heap.size]? = some (.cells #[.string yk, .string yn] 101 (0, 0)) := heap_new _ _
    go_wp2_with fail
    have HKS : Hid (∀ V W : World, (V.rangeAt w1.heap.size 0 [.string yk, .string yn] ∧ Below w.heap.size w V) → Below V.heap.size V W → (W.rangeAt w1.heap.size 0 [.string yk, .string yn] ∧ Below w.heap.size w W)) := fun V W k hb => by
      have hp : w1.heap.size < V.heap.size := by have := block_lt_of_cell (k.1 0 _ rfl); simpa using this
      exact ⟨fun d v hv => (hb.cell (p := ⟨w1.heap.size, 0 + d, none⟩) hp).trans (k.1 d v hv), k.2.trans (hb.mono k.2.size)⟩
    have hS0 : (w1.alloc (.cells #[.string yk, .string yn] 101)).drew.rangeAt w1.heap.size 0 [.string yk, .string yn] ∧ Below w.heap.size w (w1.alloc (.cells #[.string yk, .string yn] 101)).drew := ⟨range_of_heap (pre := []) (post := []) hA rfl, hb2.drew⟩
    clear hA hb1 hb2
    refine wp_region_held_drew (S := fun W => W.rangeAt w1.heap.size 0 [.string yk, .string yn] ∧ Below w.heap.size w W) (by kernel_rfl) hS0 ?_
    intro hS
    clear hS0
    revert hS HKS
    generalize (w1.alloc (.cells #[.string yk, .string yn] 101)).drew = V
    generalize w1.heap.size = g
    intro HKS hS
    refine wpAnyH_take (i := 0) (oi := { dst := some 38, op := .load 101 (.tmp 11), type := _, pos := _, after := _, guard := none }) (v := .agg ([.string yk, .string yn]).toArray) rfl (by kernel_rfl) (by kernel_rfl) (by kernel_rfl) (fun _ _ _ h => h) (yieldsIf_load_mid (by rfl) 101 (.tmp 11) rfl g 0 (by simp [Act.eval]) ([.string yk, .string yn]) _ (fun x hx => hx.1) Tryz.underlying101 rfl sizePair) hS ?_
    (try simp only [Act.put, List.setIfInBounds_toArray, List.set_cons_zero, List.set_cons_succ])
    refine wpAnyH_take (i := 1) (oi := { dst := some 39, op := .move (.tmp 2), type := _, pos := _, after := _, guard := none }) (v := .string aad) rfl (by kernel_rfl) (by kernel_rfl) (by kernel_rfl) (fun _ _ _ h => h) (Or.inl ⟨by rfl, by intro x _; go_simp⟩) hS ?_
    (try simp only [Act.put, List.setIfInBounds_toArray, List.set_cons_zero, List.set_cons_succ])
    refine wpAnyH_take (i := 2) (oi := { dst := some 40, op := .move (.tmp 3), type := _, pos := _, after := _, guard := none }) (v := .string box) rfl (by kernel_rfl) (by kernel_rfl) (by kernel_rfl) (fun _ _ _ h => h) (Or.inl ⟨by rfl, by intro x _; go_simp⟩) hS ?_
    (try simp only [Act.put, List.setIfInBounds_toArray, List.set_cons_zero, List.set_cons_succ])
    refine wpAnyH_take (i := 3) (oi := { dst := some 41, op := .move (.tmp 12), type := _, pos := _, after := _, guard := none }) (v := .int .i64 (n : Int)) rfl (by kernel_rfl) (by kernel_rfl) (by kernel_rfl) (fun _ _ _ h => h) (Or.inl ⟨by rfl, by intro x _; go_simp⟩) hS ?_
    (try simp only [Act.put, List.setIfInBounds_toArray, List.set_cons_zero, List.set_cons_succ])
    refine wpAnyH_take (i := 4) (oi := { dst := some 42, op := .slice 9 (.tmp 40) none (some (.tmp 41)) none, type := _, pos := _, after := _, guard := none }) (v := .string yc) rfl (by kernel_rfl) (by kernel_rfl) (by kernel_rfl) (fun _ _ _ h => h) (Or.inl ⟨by rfl, by intro x _; go_simp⟩) hS ?_
    (try simp only [Act.put, List.setIfInBounds_toArray, List.set_cons_zero, List.set_cons_succ])
    refine wpAnyH_take (i := 6) (oi := { dst := some 44, op := .move (.tmp 3), type := _, pos := _, after := _, guard := none }) (v := .string box) rfl (by kernel_rfl) (by kernel_rfl) (by kernel_rfl) (fun _ _ _ h => h) (Or.inl ⟨by rfl, by intro x _; go_simp⟩) hS ?_
    (try simp only [Act.put, List.setIfInBounds_toArray, List.set_cons_zero, List.set_cons_succ])
    refine wpAnyH_take (i := 7) (oi := { dst := some 45, op := .move (.tmp 12), type := _, pos := _, after := _, guard := none }) (v := .int .i64 (n : Int)) rfl (by kernel_rfl) (by kernel_rfl) (by kernel_rfl) (fun _ _ _ h => h) (Or.inl ⟨by rfl, by intro x _; go_simp⟩) hS ?_
    (try simp only [Act.put, List.setIfInBounds_toArray, List.set_cons_zero, List.set_cons_succ])
    refine wpAnyH_take (i := 8) (oi := { dst := some 46, op := .slice 9 (.tmp 44) (some (.tmp 45)) none none, type := _, pos := _, after := _, guard := none }) (v := .string yt) rfl (by kernel_rfl) (by kernel_rfl) (by kernel_rfl) (fun _ _ _ h => h) (Or.inl ⟨by rfl, by intro x _; go_simp⟩) hS ?_
    (try simp only [Act.put, List.setIfInBounds_toArray, List.set_cons_zero, List.set_cons_succ])
    refine wpAnyH_ready (rs := [5]) (by kernel_rfl) (by simp) ?_
    refine AllReadyH.cons (o := { dst := some 43, op := .call { callee := .value (.func 52), args := #[.tmp 38, .tmp 39, .tmp 42], argTypes := #[101, 9, 9] }, type := _, pos := _, after := _, guard := none }) rfl (fun K hK => ?_) AllReadyH.nil
    go_simp
    refine (htg V (HTT.out V hS.2).1 (HTT.out V hS.2).2).mono ?_
    rintro e W2 ⟨rfl, hbc⟩
    have hS2 := HKS.out V W2 hS hbc
    refine hK.out _ _ hS2 (fun _ => ?_)
    clear hK K
    (try simp only [Act.put, List.setIfInBounds_toArray, List.set_cons_zero, List.set_cons_succ])
    revert hS2
    clear hS hbc
    generalize W2 = V
    intro hS
    refine wpAnyH_take (i := 9) (oi := { dst := some 47, op := .binOp .neq 9 (.tmp 43) (.tmp 46) 9, type := _, pos := _, after := _, guard := none }) (v := .bool true) rfl (by kernel_rfl) (by kernel_rfl) (by kernel_rfl) (fun _ _ _ h => h) (Or.inl ⟨by rfl, by intro x _; go_simp⟩) hS ?_
    (try simp only [Act.put, List.setIfInBounds_toArray, List.set_cons_zero, List.set_cons_succ])
    refine wpAnyH_done (by kernel_rfl) ?_ _
    go_wp2
    go_ret2
    exact ⟨rfl, hS.2⟩

end Go.Proofs.YtengclnahppmhaaGreatDoor.Ae

namespace Go.Proofs.YtengclnahppmhaaGreatDoor.Ae
open Go.RowKit Go.Lib Go.Deep
open Cha (PTabs)

/-- the reference's Open, of anything -/
theorem ropen_any (key nonce aad box : ByteArray) (hk : key.size ≤ 9223372036854775807) (hn : nonce.size ≤ 9223372036854775807) (w : World) (hP : PTabs w) (h3 : 8 ≤ w.heap.size) :
    Calls Tryz.prog 59 #[.string key, .string nonce, .string aad, .string box] w fun e w' => e = .returned (.tuple #[.string (openY key nonce aad box), .int .i64 (openE key nonce aad box)]) ∧ Below w.heap.size w w' := by
  by_cases h : key.size = 32 ∧ (nonce.size = 12 ∨ nonce.size = 24)
  · by_cases hb : 1048576 < aad.size ∨ 1048592 < box.size
    · have e : openE key nonce aad box = 3 := by unfold openE; rw [askN_ok h.1 h.2, if_neg (by simp), if_pos hb]
      have y : openY key nonce aad box = { data := #[] } := by unfold openY; rw [e, if_neg (by decide)]
      rw [e, y]
      refine (ropen_big key nonce aad box h.1 h.2 hb w).mono ?_
      rintro e w' ⟨rfl, rfl⟩
      exact ⟨rfl, Below.refl _ _⟩
    · by_cases hs : box.size < 16
      · have e : openE key nonce aad box = 60 := by unfold openE; rw [askN_ok h.1 h.2, if_neg (by simp), if_neg hb, if_pos hs]
        have y : openY key nonce aad box = { data := #[] } := by unfold openY; rw [e, if_neg (by decide)]
        rw [e, y]
        refine (ropen_short key nonce aad box h.1 h.2 (by omega) hs w).mono ?_
        rintro e w' ⟨rfl, rfl⟩
        exact ⟨rfl, Below.refl _ _⟩
      · exact ropen_fit key nonce aad box h.1 h.2 (by omega) (by omega) (by omega) w hP h3
  · have h0 : askN key nonce ≠ 0 := fun e => h ((askN_iff _ _).1 e)
    have e : openE key nonce aad box = askN key nonce := by unfold openE; rw [if_pos h0]
    have y : openY key nonce aad box = { data := #[] } := by unfold openY; rw [e, if_neg h0]
    rw [e, y]
    refine (ropen_no key nonce aad box hk hn h w).mono ?_
    rintro e w' ⟨rfl, rfl⟩
    exact ⟨rfl, Below.refl _ _⟩

end Go.Proofs.YtengclnahppmhaaGreatDoor.Ae
