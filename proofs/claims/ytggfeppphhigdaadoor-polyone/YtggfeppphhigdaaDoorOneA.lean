import Derived.Test.YtggfeppphhigdaaDoorPlC
namespace Go.Proofs.YtggfeppphhigdaaDoor
open Go.RowKit Go.Lib Go.Deep

set_option maxRecDepth 20000 in
set_option maxHeartbeats 1000000 in
theorem polyOne_walk (key text : ByteArray) (h63 : text.size ≤ 9223372036854775807) (w : World) (hT : KTab w) (h1 : 0 < w.heap.size) :
    Calls Tryd.prog 7 #[.string key, .string text] w fun e w' => e = .returned (.bool true) ∧ Below w.heap.size w w' := by
  have hky := keyed_any key w
  have hkl := keyL_length key.data.toList
  have hs2 : ∀ W : World, (Instr.slice 9 (.string (str (keyL key.data.toList))) (some (.int .i64 16)) none none).run Tryd.prog W = .ok (.string (str ((keyL key.data.toList).drop 16))) W := fun W => slice_tail (P := Tryd.prog) W 9 Tryd.underlying9 (keyL key.data.toList) _ 16 (by omega) rfl
  have hsl : ((keyL key.data.toList).drop 16).length = 16 := by rw [List.length_drop, hkl]
  revert hky hs2 hsl
  generalize (keyL key.data.toList).drop 16 = s
  generalize str (keyL key.data.toList) = yk
  intro hky hs2 hsl
  clear hkl
  have HTT : Hid (∀ W, Below w.heap.size w W → KTab W ∧ 0 < W.heap.size) := fun W h => ⟨hT.below h h1, by have := h.size; omega⟩
  have HT : Hid (∀ W t n, Below w.heap.size w W → t.length ≤ 16 → (n = if t = [] then List.replicate 16 0 else (t ++ 1 :: List.replicate 16 0).take 16) →
      Calls Tryd.prog 14 #[.string (str (1 :: List.replicate 15 0 ++ s)), .string (str t), .string (str (bytL 16 (numL n + numL s)))] W fun e w' => e = .returned (.bool true) ∧ Below W.heap.size W w') := fun W t n hb ht hn =>
    tagged_any _ _ _ (by rw [str_size]; simp [hsl]) (by rw [str_size]; omega) W (HTT.out W hb).1 (HTT.out W hb).2 (by rw [str_data, str_data, one_tag s t n hsl ht hn])
  have HP : Hid (∀ W n, n.length = 16 → Calls Tryd.prog 17 #[.string (str n), .string (str s)] W fun e w' => e = .returned (.string (str (bytL 16 (numL n + numL s)))) ∧ Below W.heap.size W w') := fun W n hn => by
    have h := plusL_any (str n) (str s) (by rw [str_size, hn]) (by rw [str_size, hsl]) W
    rw [str_data, str_data] at h
    exact h
  have hz16 : ∀ W, Calls Tryd.prog 16 #[.int .i64 16] W fun e w' => e = .returned (.string (str (List.replicate 16 0))) ∧ Below W.heap.size W w' := fun W => zeros_any 16 (by omega) W
  have hz15 : ∀ W, Calls Tryd.prog 16 #[.int .i64 15] W fun e w' => e = .returned (.string (str (List.replicate 15 0))) ∧ Below W.heap.size W w' := fun W => zeros_any 15 (by omega) W
  have hc1 : ({ data := #[1] } : ByteArray) ++ str (List.replicate 15 0) = str (1 :: List.replicate 15 0) := cat_strs [1] _
  have hc2 : str (1 :: List.replicate 15 0) ++ str s = str (1 :: List.replicate 15 0 ++ s) := cat_strs _ _
  have hn15 : (str (List.replicate 15 0)).size = 15 := by rw [str_size]; rfl
  have hn16 : (str (List.replicate 16 0)).size = 16 := by rw [str_size]; rfl
  have hn1 : (str (1 :: List.replicate 15 0)).size = 16 := by rw [str_size]; rfl
  have hns : (str s).size = 16 := by rw [str_size, hsl]
  have HC3 : Hid (∀ l : List UInt8, l.length ≤ 16 → str l ++ ({ data := #[1] } : ByteArray) = str (l ++ [1]) ∧ (str l).size = l.length ∧ str (l ++ [1]) ++ str (List.replicate 16 0) = str (l ++ 1 :: List.replicate 16 0) ∧ (str (l ++ [1])).size = l.length + 1
      ∧ (∀ W : World, (Instr.slice 9 (.string (str (l ++ 1 :: List.replicate 16 0))) none (some (.int .i64 16)) none).run Tryd.prog W = .ok (.string (str ((l ++ 1 :: List.replicate 16 0).take 16))) W) ∧ ((l ++ 1 :: List.replicate 16 0).take 16).length = 16) := fun l hl =>
    ⟨cat_strs l [1], str_size l, by rw [cat_strs]; simp, by rw [str_size]; simp, fun W => slice_head (P := Tryd.prog) W 9 Tryd.underlying9 _ _ 16 (by simp) rfl, by rw [List.length_take]; simp⟩
  clear hT
  have hZl : (List.replicate 16 (0 : UInt8)).length = 16 := rfl
  revert hz16 hz15 hc1 hc2 hn15 hn16 hn1 hns HT HC3 hZl
  generalize List.replicate 16 (0 : UInt8) = Z16
  generalize hy1 : str (1 :: List.replicate 15 0 ++ s) = yks
  generalize str (1 :: List.replicate 15 0) = y1
  generalize str (List.replicate 15 0) = y15
  intro HT hz16 hz15 hc1 hc2 hn15 hn16 hn1 hns HC3 hZl
  clear hy1
  by_cases h0 : text.size = 0
  · obtain rfl : text = str [] := by
      rw [← str_of text]
      congr 1
      exact List.eq_nil_of_length_eq_zero (by rw [← size_eq]; exact h0)
    have h0I : ¬ (16 : Int) < ((str []).size : Int) := by rw [h0]; decide
    have he : (str []).toList.isEmpty = true := by rw [str_toList]; rfl
    have htl : ([] : List UInt8).length ≤ 16 := by simp
    go_enter Tryd.func7, Tryd.ntmps7
    go_wp2_with fail
    refine hky.mono ?_
    rintro e w1 ⟨rfl, hb1⟩
    clear hky
    go_wp2_with fail
    refine (hz16 w1).mono ?_
    rintro e w2 ⟨rfl, hb2'⟩
    have hb2 := hb1.trans (hb2'.mono hb1.size)
    clear hb1 hb2'
    go_wp2_with fail
    refine (hz15 w2).mono ?_
    rintro e w3 ⟨rfl, hb3'⟩
    have hb3 := hb2.trans (hb3'.mono hb2.size)
    clear hb2 hb3'
    have hp := HP.out w3 Z16 hZl
    go_wp2_with fail
    refine hp.mono ?_
    rintro e w4 ⟨rfl, hb4'⟩
    have hb4 := hb3.trans (hb4'.mono hb3.size)
    clear hb3 hb4' hp
    have ht := HT.out w4 [] Z16 hb4 htl rfl
    clear HT HP HTT
    go_wp2_with fail
    refine ht.mono ?_
    rintro e w9 ⟨rfl, hb9⟩
    have hb := hb4.trans (hb9.mono hb4.size)
    clear ht
    go_wp2
    go_ret
    exact ⟨rfl, hb⟩
  · by_cases h16 : 16 < text.size
    · have h16I : (16 : Int) < (text.size : Int) := by omega
      have hs3 : ∀ W : World, (Instr.slice 9 (.string text) none (some (.int .i64 16)) none).run Tryd.prog W = .ok (.string (str (text.data.toList.take 16))) W := fun W => by
        have h := slice_head (P := Tryd.prog) W 9 Tryd.underlying9 text.data.toList _ 16 (by rw [← size_eq]; omega) rfl
        rw [str_of] at h
        exact h
      have htl : (text.data.toList.take 16).length ≤ 16 := by rw [List.length_take]; omega
      have hne : ¬ text.data.toList.take 16 = [] := by
        intro h
        have := congrArg List.length h
        rw [List.length_take, ← size_eq, List.length_nil] at this
        omega
      revert hs3 htl hne
      generalize text.data.toList.take 16 = t
      intro hs3 htl hne
      obtain ⟨q1, q2, q3, q4, q5, hl6⟩ := HC3.out t htl
      have he : (str t).toList.isEmpty = false := by rw [str_toList, List.isEmpty_eq_false_iff]; exact hne
      clear HC3
      go_enter Tryd.func7, Tryd.ntmps7
      go_wp2_with fail
      refine hky.mono ?_
      rintro e w1 ⟨rfl, hb1⟩
      clear hky
      go_wp2_with fail
      refine (hz16 w1).mono ?_
      rintro e w2 ⟨rfl, hb2'⟩
      have hb2 := hb1.trans (hb2'.mono hb1.size)
      clear hb1 hb2'
      go_wp2_with fail
      refine (hz16 w2).mono ?_
      rintro e w3 ⟨rfl, hb3'⟩
      have hb3 := hb2.trans (hb3'.mono hb2.size)
      clear hb2 hb3'
      go_wp2_with fail
      refine (hz15 w3).mono ?_
      rintro e w4 ⟨rfl, hb4'⟩
      have hb4 := hb3.trans (hb4'.mono hb3.size)
      clear hb3 hb4'
      have hp := HP.out w4 ((t ++ 1 :: Z16).take 16) hl6
      go_wp2_with fail
      refine hp.mono ?_
      rintro e w5 ⟨rfl, hb5'⟩
      have hb5 := hb4.trans (hb5'.mono hb4.size)
      clear hb4 hb5' hp
      have ht := HT.out w5 t ((t ++ 1 :: Z16).take 16) hb5 htl (by rw [if_neg hne])
      clear HT HP HTT
      go_wp2_with fail
      refine ht.mono ?_
      rintro e w9 ⟨rfl, hb9⟩
      have hb := hb5.trans (hb9.mono hb5.size)
      clear ht
      go_wp2
      go_ret
      exact ⟨rfl, hb⟩
    · have h16I : ¬ (16 : Int) < (text.size : Int) := by omega
      obtain ⟨t, rfl⟩ : ∃ t, text = str t := ⟨text.data.toList, (str_of text).symm⟩
      rw [str_size] at h0 h16
      have htl : t.length ≤ 16 := by omega
      have h17I : ¬ (16 : Int) < (t.length : Int) := by omega
      have hne : ¬ t = [] := by
        intro h
        rw [h] at h0
        exact h0 rfl
      obtain ⟨q1, q2, q3, q4, q5, hl6⟩ := HC3.out t htl
      have he : (str t).toList.isEmpty = false := by rw [str_toList, List.isEmpty_eq_false_iff]; exact hne
      clear HC3
      go_enter Tryd.func7, Tryd.ntmps7
      go_wp2_with fail
      refine hky.mono ?_
      rintro e w1 ⟨rfl, hb1⟩
      clear hky
      go_wp2_with fail
      refine (hz16 w1).mono ?_
      rintro e w2 ⟨rfl, hb2'⟩
      have hb2 := hb1.trans (hb2'.mono hb1.size)
      clear hb1 hb2'
      go_wp2_with fail
      refine (hz16 w2).mono ?_
      rintro e w3 ⟨rfl, hb3'⟩
      have hb3 := hb2.trans (hb3'.mono hb2.size)
      clear hb2 hb3'
      go_wp2_with fail
      refine (hz15 w3).mono ?_
      rintro e w4 ⟨rfl, hb4'⟩
      have hb4 := hb3.trans (hb4'.mono hb3.size)
      clear hb3 hb4'
      have hp := HP.out w4 ((t ++ 1 :: Z16).take 16) hl6
      go_wp2_with fail
      refine hp.mono ?_
      rintro e w5 ⟨rfl, hb5'⟩
      have hb5 := hb4.trans (hb5'.mono hb4.size)
      clear hb4 hb5' hp
      have ht := HT.out w5 t ((t ++ 1 :: Z16).take 16) hb5 htl (by rw [if_neg hne])
      clear HT HP HTT
      go_wp2_with fail
      refine ht.mono ?_
      rintro e w9 ⟨rfl, hb9⟩
      have hb := hb5.trans (hb9.mono hb5.size)
      clear ht
      go_wp2
      go_ret
      exact ⟨rfl, hb⟩
end Go.Proofs.YtggfeppphhigdaaDoor
