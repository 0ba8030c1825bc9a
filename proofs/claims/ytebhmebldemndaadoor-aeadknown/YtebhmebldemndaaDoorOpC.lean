import Derived.Test.YtebhmebldemndaaDoorLkC
import Derived.Test.YtebhmebldemndaaDoorAe6O
import Derived.Test.YtebhmebldemndaaDoorEqA
namespace Go.Proofs.YtebhmebldemndaaDoor.Ae
open Go.RowKit Go.Lib Go.Deep

set_option maxRecDepth 20000 in
theorem open_no (key nonce aad box : ByteArray) (hk : key.size ≤ 9223372036854775807) (hn : nonce.size ≤ 9223372036854775807) (h : ¬ (key.size = 32 ∧ (nonce.size = 12 ∨ nonce.size = 24))) (w : World) :
    Calls Tryd.prog 13 #[.string key, .string nonce, .string aad, .string box] w fun e w' => e = .returned (.tuple #[.string { data := #[] }, .int .i64 (askN key nonce)]) ∧ Below w.heap.size w w' := by
  have ha := lockOf_no key nonce hk hn h w
  have h0 : ¬ askN key nonce = 0 := by rcases askN_no h with e | e <;> rw [e] <;> decide
  generalize askN key nonce = x at ha h0 ⊢
  go_enter Tryd.func13, Tryd.ntmps13
  go_wp2_with fail
  refine ha.mono ?_
  rintro e w1 ⟨rfl, hb⟩
  go_wp2
  go_ret2
  exact ⟨rfl, by first | exact hb | exact hb.alloc hb.size _⟩

set_option maxRecDepth 20000 in
theorem open_big (key nonce aad box : ByteArray) (h1 : key.size = 32) (h2 : nonce.size = 12 ∨ nonce.size = 24) (hb : 1048576 < aad.size ∨ 1048592 < box.size) (w : World) (hT : ATabs w) :
    Calls Tryd.prog 13 #[.string key, .string nonce, .string aad, .string box] w fun e w' => e = .returned (.tuple #[.string { data := #[] }, .int .i64 3]) ∧ Below w.heap.size w w' := by
  obtain ⟨yk, yn, hk, hn, ek, en, ha⟩ := lockOf_yes key nonce h1 h2 w hT
  clear ek en
  by_cases hb1 : 1048576 < aad.size
  · have i1 : (1048576 : Int) < (aad.size : Int) := by omega
    go_enter Tryd.func13, Tryd.ntmps13
    go_wp2_with fail
    refine ha.mono ?_
    rintro e w1 ⟨rfl, hb⟩
    go_wp2
    go_ret2
    exact ⟨rfl, by first | exact hb | exact hb.alloc hb.size _⟩
  · have i1 : ¬ (1048576 : Int) < (aad.size : Int) := by omega
    have i2 : (1048592 : Int) < (box.size : Int) := by omega
    go_enter Tryd.func13, Tryd.ntmps13
    go_wp2_with fail
    refine ha.mono ?_
    rintro e w1 ⟨rfl, hb⟩
    go_wp2
    go_ret2
    exact ⟨rfl, by first | exact hb | exact hb.alloc hb.size _⟩

set_option maxRecDepth 20000 in
theorem open_short (key nonce aad box : ByteArray) (h1 : key.size = 32) (h2 : nonce.size = 12 ∨ nonce.size = 24) (h3 : aad.size ≤ 1048576) (h4 : box.size < 16) (w : World) (hT : ATabs w) :
    Calls Tryd.prog 13 #[.string key, .string nonce, .string aad, .string box] w fun e w' => e = .returned (.tuple #[.string { data := #[] }, .int .i64 60]) ∧ Below w.heap.size w w' := by
  obtain ⟨yk, yn, hk, hn, ek, en, ha⟩ := lockOf_yes key nonce h1 h2 w hT
  clear ek en
  have i1 : ¬ (1048576 : Int) < (aad.size : Int) := by omega
  have i2 : ¬ (1048592 : Int) < (box.size : Int) := by omega
  have i3 : (box.size : Int) < 16 := by omega
  go_enter Tryd.func13, Tryd.ntmps13
  go_wp2_with fail
  refine ha.mono ?_
  rintro e w1 ⟨rfl, hb⟩
  go_wp2
  go_ret2
  exact ⟨rfl, by first | exact hb | exact hb.alloc hb.size _⟩

set_option maxRecDepth 20000 in
set_option maxHeartbeats 2000000 in
theorem open_fit (key nonce aad box : ByteArray) (hk : key.size = 32) (hn : nonce.size = 12 ∨ nonce.size = 24) (ha : aad.size ≤ 1048576) (h4 : 16 ≤ box.size) (h5 : box.size ≤ 1048592) (w : World) (hT : ATabs w) :
    Calls Tryd.prog 13 #[.string key, .string nonce, .string aad, .string box] w fun e w' => e = .returned (.tuple #[.string (openY key nonce aad box), .int .i64 (openE key nonce aad box)]) ∧ Below w.heap.size w w' := by
  obtain ⟨yk, yn, hsk, hsn, ek, en, hlo⟩ := lockOf_yes key nonce hk hn w hT
  have i1 : ¬ (1048576 : Int) < (aad.size : Int) := by omega
  have i2 : ¬ (1048592 : Int) < (box.size : Int) := by omega
  have i3 : ¬ (box.size : Int) < 16 := by omega
  have HTT : Hid (∀ W, Below w.heap.size w W → ATabs W) := fun W h => hT.below h
  obtain ⟨n, hnn⟩ : ∃ n, box.size - 16 = n := ⟨_, rfl⟩
  have hbl : box.data.toList.length - 16 = n := by rw [← size_eq]; exact hnn
  obtain ⟨yc, hyc⟩ : ∃ y, box.extract 0 n = y := ⟨_, rfl⟩
  obtain ⟨yt, hyt⟩ : ∃ y, box.extract n (n + 16) = y := ⟨_, rfl⟩
  have hcd : yc.data.toList = box.data.toList.take n := by rw [← hyc, extract_data, List.drop_zero, Nat.sub_zero]
  have htd : yt.data.toList = box.data.toList.drop n := by rw [← hyt, extract_data, List.take_of_length_le (by rw [List.length_drop, ← size_eq]; omega)]
  have hcs : yc.size ≤ 1048576 := by rw [size_eq, hcd, List.length_take]; omega
  have hts : yt.size ≤ 1048576 := by rw [size_eq, htd, List.length_drop]; omega
  have htg := fun W (k1 : ATabs W) => atag_any yk yn aad yc hsk hsn (by omega) (by omega) W k1
  have hxo := fun W (k1 : ATabs W) => turned_any yk yn yc hsk hsn (by omega) W k1
  have hri : right key.data.toList nonce.data.toList aad.data.toList box.data.toList = (tagA yk.data.toList yn.data.toList aad.data.toList yc.data.toList == yt.data.toList) := by
    unfold right
    rw [hbl, ek, en, hcd, htd]
  have hol : openL key.data.toList nonce.data.toList box.data.toList = Cha.overL yk.data.toList 1 yn.data.toList yc.data.toList := by
    unfold openL
    rw [hbl, ek, en, hcd]
  have hE : openE key nonce aad box = if (tagA yk.data.toList yn.data.toList aad.data.toList yc.data.toList == yt.data.toList) then 0 else 61 := by
    unfold openE
    rw [askN_ok hk hn, if_neg (by simp), if_neg (by omega), if_neg (by omega), hri]
  have hY : openY key nonce aad box = if openE key nonce aad box = 0 then str (Cha.overL yk.data.toList 1 yn.data.toList yc.data.toList) else { data := #[] } := by
    unfold openY
    rw [hol]
  clear ek en hcd htd hri hol hbl hT
  have hnI : (box.size : Int) - 16 = (n : Int) := by omega
  have hwn : IntKind.i64.wrap (n : Int) = (n : Int) := by rw [IntKind.wrap_i64]; omega
  have hbs : box.size = n + 16 := by omega
  obtain ⟨yg, hyg⟩ : ∃ y, str (tagA yk.data.toList yn.data.toList aad.data.toList yc.data.toList) = y := ⟨_, rfl⟩
  have hgd : tagA yk.data.toList yn.data.toList aad.data.toList yc.data.toList = yg.data.toList := by rw [← hyg, str_data]
  have hgs : yg.size ≤ 1048576 := by rw [size_eq, ← hgd, tagA_length]; omega
  rw [hyg] at htg
  rw [hgd] at hE
  generalize str (Cha.overL yk.data.toList 1 yn.data.toList yc.data.toList) = yp at hxo hY
  clear hyg hgd
  have heq := fun W => equal_any yg yt (by omega) (by omega) W
  rw [toList_data, toList_data] at heq
  generalize (yg.data.toList == yt.data.toList) = t at hE heq
  have hsl1 : ∀ W, (Instr.slice 9 (.string box) none (some (.int .i64 (n : Int))) none).run Tryd.prog W = .ok (.string yc) W := fun W => by
    have h := run_slice_string_h (P := Tryd.prog) W 9 box Tryd.underlying9 .i64 (n : Int) (by omega) (by omega)
    rw [Int.toNat_natCast, hyc] at h
    exact h
  have hsl2 : ∀ W, (Instr.slice 9 (.string box) (some (.int .i64 (n : Int))) none none).run Tryd.prog W = .ok (.string yt) W := fun W => by
    have h := run_slice_string_l (P := Tryd.prog) W 9 box Tryd.underlying9 .i64 (n : Int) (by omega) (by omega)
    rw [Int.toNat_natCast, hbs, hyt] at h
    exact h
  clear hyc hyt
  cases t with
  | true =>
    rw [if_pos rfl] at hE
    rw [hE, if_pos rfl] at hY
    rw [hE, hY]
    clear hE hY
    go_enter Tryd.func13, Tryd.ntmps13
    go_wp2_with fail
    refine hlo.mono ?_
    rintro e w1 ⟨rfl, hb1⟩
    clear hlo
    have hb2 := hb1.alloc hb1.size (.cells #[.string yk, .string yn] 44)
    have hA : (w1.alloc (.cells #[.string yk, .string yn] 44)).heap[w1.heap.size]? = some (.cells #[.string yk, .string yn] 44 (0, 0)) := heap_new _ _
    go_wp2_with fail
    go_quiet (fail)
    refine with_world (R := fun W => Exit.then _ _ _ _ W) (Q := fun W => W.heap[w1.heap.size]? = some (.cells #[.string yk, .string yn] 44 (0, 0)) ∧ Below w.heap.size w W) _ ⟨hA, hb2.trans ((below_drewN _ nq).mono hb2.size)⟩ ?_
    clear hA hb2 hb1 hsl1 hsl2
    rintro w3 ⟨hA, hb3⟩
    generalize w1.heap.size = g at hA ⊢
    have c0 : w3.cell? ⟨g, 0, none⟩ = some (.string yk) := (cell_of_heap hA).trans rfl
    have c1 : w3.cell? ⟨g, 1, none⟩ = some (.string yn) := (cell_of_heap hA).trans rfl
    have ht1 := htg w3 (HTT.out _ hb3)
    go_wp2_with fail
    refine ht1.mono ?_
    rintro e w4 ⟨rfl, hb4'⟩
    have hA4 := (hb4'.block _ (heap_lt hA)).trans hA
    have hb4 := hb3.trans (hb4'.mono hb3.size)
    clear c0 c1 ht1 htg hA hb3 hb4'
    go_wp2_with fail
    refine (heq w4).mono ?_
    rintro e w5 ⟨rfl, hb5'⟩
    have hA5 := (hb5'.block _ (heap_lt hA4)).trans hA4
    have hb5 := hb4.trans (hb5'.mono hb4.size)
    clear hA4 hb4 hb5' heq
    have c0 : w5.cell? ⟨g, 0, none⟩ = some (.string yk) := (cell_of_heap hA5).trans rfl
    have c1 : w5.cell? ⟨g, 1, none⟩ = some (.string yn) := (cell_of_heap hA5).trans rfl
    have hx1 := hxo w5 (HTT.out _ hb5)
    clear hA5 hxo
    go_wp2_with fail
    refine hx1.mono ?_
    rintro e w6 ⟨rfl, hb6⟩
    have hb := hb5.trans (hb6.mono hb5.size)
    clear hx1 hb6 hb5 c0 c1
    go_wp2
    go_ret2
    exact ⟨rfl, hb⟩
  | false =>
    rw [if_neg (by simp)] at hE
    rw [hE, if_neg (by decide)] at hY
    rw [hE, hY]
    clear hE hY
    go_enter Tryd.func13, Tryd.ntmps13
    go_wp2_with fail
    refine hlo.mono ?_
    rintro e w1 ⟨rfl, hb1⟩
    clear hlo
    have hb2 := hb1.alloc hb1.size (.cells #[.string yk, .string yn] 44)
    have hA : (w1.alloc (.cells #[.string yk, .string yn] 44)).heap[w1.heap.size]? = some (.cells #[.string yk, .string yn] 44 (0, 0)) := heap_new _ _
    go_wp2_with fail
    go_quiet (fail)
    refine with_world (R := fun W => Exit.then _ _ _ _ W) (Q := fun W => W.heap[w1.heap.size]? = some (.cells #[.string yk, .string yn] 44 (0, 0)) ∧ Below w.heap.size w W) _ ⟨hA, hb2.trans ((below_drewN _ nq).mono hb2.size)⟩ ?_
    clear hA hb2 hb1 hsl1 hsl2
    rintro w3 ⟨hA, hb3⟩
    generalize w1.heap.size = g at hA ⊢
    have c0 : w3.cell? ⟨g, 0, none⟩ = some (.string yk) := (cell_of_heap hA).trans rfl
    have c1 : w3.cell? ⟨g, 1, none⟩ = some (.string yn) := (cell_of_heap hA).trans rfl
    have ht1 := htg w3 (HTT.out _ hb3)
    go_wp2_with fail
    refine ht1.mono ?_
    rintro e w4 ⟨rfl, hb4'⟩
    have hA4 := (hb4'.block _ (heap_lt hA)).trans hA
    have hb4 := hb3.trans (hb4'.mono hb3.size)
    clear c0 c1 ht1 htg hA hb3 hb4'
    go_wp2_with fail
    refine (heq w4).mono ?_
    rintro e w5 ⟨rfl, hb5'⟩
    have hA5 := (hb5'.block _ (heap_lt hA4)).trans hA4
    have hb5 := hb4.trans (hb5'.mono hb4.size)
    clear hA4 hb4 hb5' heq
    go_wp2
    go_ret2
    exact ⟨rfl, hb5⟩

theorem openC : OpenC := by
  intro key nonce aad box w hk hn _ _ hT
  by_cases h : key.size = 32 ∧ (nonce.size = 12 ∨ nonce.size = 24)
  · by_cases hb : 1048576 < aad.size ∨ 1048592 < box.size
    · have e : openE key nonce aad box = 3 := by unfold openE; rw [askN_ok h.1 h.2, if_neg (by simp), if_pos hb]
      have y : openY key nonce aad box = { data := #[] } := by unfold openY; rw [e, if_neg (by decide)]
      rw [e, y]
      exact open_big key nonce aad box h.1 h.2 hb w hT
    · by_cases hs : box.size < 16
      · have e : openE key nonce aad box = 60 := by unfold openE; rw [askN_ok h.1 h.2, if_neg (by simp), if_neg hb, if_pos hs]
        have y : openY key nonce aad box = { data := #[] } := by unfold openY; rw [e, if_neg (by decide)]
        rw [e, y]
        exact open_short key nonce aad box h.1 h.2 (by omega) hs w hT
      · exact open_fit key nonce aad box h.1 h.2 (by omega) (by omega) (by omega) w hT
  · have h0 : askN key nonce ≠ 0 := fun e => h ((askN_iff _ _).1 e)
    have e : openE key nonce aad box = askN key nonce := by unfold openE; rw [if_pos h0]
    have y : openY key nonce aad box = { data := #[] } := by unfold openY; rw [e, if_neg h0]
    rw [e, y]
    exact open_no key nonce aad box (by omega) (by omega) h w

end Go.Proofs.YtebhmebldemndaaDoor.Ae
