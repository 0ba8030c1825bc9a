import Derived.Test.YtebhmebldemndaaDoorRf4E
import Derived.Test.YtebhmebldemndaaDoorChaN
namespace Go.Proofs.YtebhmebldemndaaDoor.Cha
open Go.RowKit Go.Lib Go.Deep

theorem stateL_eq (key last : List UInt8) : con4 ++ wordsL key 8 ++ wordsL last 4 = stateL key last := rfl

set_option maxRecDepth 20000 in
set_option maxHeartbeats 2000000 in
theorem rhch_yes (key nonce : ByteArray) (hk : key.size = 32) (hn : nonce.size = 16) (w : World) (hP : PTabs w) (h3 : 4 ≤ w.heap.size) :
    Calls Tryd.prog 55 #[.string key, .string nonce] w fun e w' => e = .returned (.tuple #[.string (str (hchL key.data.toList nonce.data.toList)), .int .i64 0]) ∧ Below w.heap.size w w' := by
  obtain ⟨i0, hi, hz0, hz1, hz2⟩ := info_parts info3
  have hwr := wrong_any key nonce 0 16 (by unfold maxLen; omega) (by unfold maxLen; omega) w
  rw [wrong_ok hk hn (by omega) (by omega)] at hwr
  have hwo := wordsOf_any nonce 4 hn (by omega) w
  have hlf : (wordsL nonce.data.toList 4).length = 4 := wordsL_length _ _
  have hS := stateL_st key.data.toList nonce.data.toList
  have HL : Hid (hchL key.data.toList nonce.data.toList = textL (pick (mixedL (stateL key.data.toList nonce.data.toList)))) := rfl
  have hm16 := hS.mixed.len
  have hM := hS.mixed
  go_enter Tryd.func55, Tryd.ntmps55
  go_wp2_with fail
  refine hwr.mono ?_
  rintro e w1 ⟨rfl, rfl⟩
  go_wp2_with fail
  refine hwo.mono ?_
  rintro e w2 ⟨v2, rfl, hown2, hb2⟩
  obtain ⟨g2, cap2, rfl, hg2, hc2, hcm2, hl2, hr2⟩ := owns_range hown2 (by omega)
  have hst := start_any key hk (wordsL nonce.data.toList 4) hlf g2 cap2 w2 hl2 hr2
  rw [stateL_eq] at hst
  clear hwo hown2 hwr
  go_wp2_with fail
  refine hst.mono ?_
  rintro e w3 ⟨v3, rfl, hown3, hb3'⟩
  have hb3 := hb2.trans (hb3'.mono hb2.size)
  obtain ⟨g3, cap3, rfl, hg3, hc3, hcm3, hl3, hr3⟩ := owns_range hown3 (by omega)
  clear hst hb3' hr2 hown3
  have hro := rounds_any (stateL key.data.toList nonce.data.toList) hS g3 cap3 w3 hl3 hr3 (hP.below hb3 h3) (by have := hb3.size; omega)
  revert hro HL hm16 hM
  generalize mixedL (stateL key.data.toList nonce.data.toList) = m
  intro HL hm16 hM hro
  go_wp2_with fail
  refine hro.mono ?_
  rintro e w4 ⟨g, cap, rfl, hc16, hcm, hgw, hI, hb4'⟩
  have hb4 := hb3.trans (hb4'.mono hb3.size)
  clear hro hb4' hr3 hb3
  have hsl1 := fun W => slice_to W g 16 cap 4 (by omega)
  have hsl2 := fun W => slice_from W g 16 cap 12 (by omega) hc16 (by omega)
  have z4 := hb4.size
  have hnil := World.ownsRow_nil w4 w4.heap.size 3 1
  have hml1 : 0 + 4 ≤ maxLen := by unfold maxLen; omega
  have hml2 : 0 + 4 + 4 ≤ maxLen := by unfold maxLen; omega
  have hlt4 : (i64L (m.take 4)).length = 4 := by rw [i64L_length, List.length_take]; omega
  have hld : (i64L (m.drop 12)).length = 4 := by rw [i64L_length, List.length_drop]; omega
  have hcc1 : ∀ j u, (i64L (m.take 4))[j]? = some u → w4.cell? ((⟨g, 0, none⟩ : Addr).add j) = some u := by
    intro j u hu
    have hj := (List.getElem?_eq_some_iff.1 hu).1
    rw [i64L_length, List.length_take] at hj
    rw [Addr.add_lit, Nat.zero_add]
    have h1 := hI.range j u (by rw [i64L, List.getElem?_map] at hu ⊢; rwa [List.getElem?_take, if_pos (by omega)] at hu)
    rwa [Nat.zero_add] at h1
  go_upto_region 7 with (at_builtin; refine wpList_append_own _ rfl _ _ 98 rfl w4.heap.size 3 i0 (.int .i64 0) 1 8 Tryd.underlying98 hi hz0 hz1 hz2 rfl (by decide) _ _ _ rfl hnil ⟨g, 0, none⟩ 4 cap (i64L (m.take 4)) rfl hlt4 hcc1 (i64L_one _) hml1 (by omega) (Nat.le_refl _) ?_; intro v5 w5 hown5 hgrow5 _)
  have hb5' : Below w4.heap.size w4 w5 := grown_below hgrow5 (Nat.le_refl _) hnil
  have hI5 := hI.kept (hb5'.block g hI.lt)
  have hcc2 : ∀ j u, (i64L (m.drop 12))[j]? = some u → w5.cell? ((⟨g, 12, none⟩ : Addr).add j) = some u := by
    intro j u hu
    rw [Addr.add_lit]
    have h1 := hI5.range (12 + j) u (by rw [i64L, List.getElem?_map] at hu ⊢; rwa [List.getElem?_drop] at hu)
    rwa [Nat.zero_add] at h1
  clear hgrow5 hcc1 hnil hsl1
  go_upto_region 8 with (at_builtin; refine wpList_append_own _ rfl _ _ 98 rfl w4.heap.size 3 i0 (.int .i64 0) 1 8 Tryd.underlying98 hi hz0 hz1 hz2 rfl (by decide) _ _ _ rfl hown5 ⟨g, 12, none⟩ 4 (cap - 12) (i64L (m.drop 12)) rfl hld hcc2 (i64L_one _) hml2 (by omega) hb5'.size ?_; intro v6 w6 hown6 hgrow6 _)
  have hb6' : Below w4.heap.size w4 w6 := hb5'.trans (grown_below hgrow6 hb5'.size hown5)
  have hb6 := hb4.trans (hb6'.mono z4)
  have hown7 : w6.ownsRow w4.heap.size 3 1 v6 8 (i64L (pick m)) := by
    have h : w6.ownsRow w4.heap.size 3 1 v6 8 ([] ++ i64L (m.take 4) ++ i64L (m.drop 12)) := hown6
    rwa [List.nil_append, ← i64L_append, pick_parts m hm16] at h
  obtain ⟨g7, cap7, rfl, hg7, hc7, hcm7, hl7, hr7⟩ := owns_range hown7 (by omega)
  have hpick : ∀ x ∈ pick m, x < 4294967296 := by
    intro x hx
    simp only [pick, List.mem_cons, List.not_mem_nil, or_false] at hx
    rcases hx with rfl | rfl | rfl | rfl | rfl | rfl | rfl | rfl <;> exact hM.at_lt _
  have hby := bytesOf_any (pick m) hpick (by simp [pick]) g7 cap7 w6 hl7 hr7
  have hpl : (pick m).length = 8 := rfl
  rw [hpl] at hby
  clear hown6 hown7 hgrow6 hown5 hcc2 hsl2 hI hI5 hr7 hb5' hb6' hb4
  go_wp2_with (go_at_call 68; refine hby.mono ?_; rintro e w8 ⟨rfl, hb8⟩)
  go_ret2
  rw [HL.out]
  exact ⟨rfl, hb6.trans (hb8.mono hb6.size)⟩

theorem rhch_no (key nonce : ByteArray) (hk : key.size ≤ maxLen) (hn : nonce.size ≤ maxLen) (h : ¬ (key.size = 32 ∧ nonce.size = 16)) (w : World) :
    Calls Tryd.prog 55 #[.string key, .string nonce] w fun e w' => e = .returned (.tuple #[.string { data := #[] }, .int .i64 (faultN key nonce 16)]) ∧ w = w' := by
  have hwr := wrong_any key nonce 0 16 hk hn w
  rw [wrong_fault h] at hwr
  rcases fault_no h with h40 | h40
  · rw [h40] at hwr ⊢
    go_enter Tryd.func55, Tryd.ntmps55
    go_wp2_with fail
    refine hwr.mono ?_
    rintro e w1 ⟨rfl, rfl⟩
    go_wp2
    go_ret2
    exact ⟨rfl, rfl⟩
  · rw [h40] at hwr ⊢
    go_enter Tryd.func55, Tryd.ntmps55
    go_wp2_with fail
    refine hwr.mono ?_
    rintro e w1 ⟨rfl, rfl⟩
    go_wp2
    go_ret2
    exact ⟨rfl, rfl⟩

end Go.Proofs.YtebhmebldemndaaDoor.Cha
