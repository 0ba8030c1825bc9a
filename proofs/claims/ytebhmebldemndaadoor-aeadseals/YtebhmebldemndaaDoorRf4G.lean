import Derived.Test.YtebhmebldemndaaDoorRf4F
import Derived.Test.YtebhmebldemndaaDoorChaK
import Derived.Test.YtebhmebldemndaaDoorChaO
namespace Go.Proofs.YtebhmebldemndaaDoor.Cha
open Go.RowKit Go.Lib Go.Deep

set_option maxRecDepth 20000 in
set_option maxHeartbeats 4000000 in
theorem rblock_any (key nonce : ByteArray) (c : Nat) (hk : key.size = 32) (hn : nonce.size = 12) (hc : c < 4294967296) (w : World) (hP : PTabs w) (h3 : 4 ≤ w.heap.size) :
    Calls Tryd.prog 57 #[.string key, .int .i64 (c : Int), .string nonce] w fun e w' => e = .returned (.string (str (blockL key.data.toList c nonce.data.toList))) ∧ Below w.heap.size w w' := by
  obtain ⟨i0, hi, hz0, hz1, hz2⟩ := info_parts info3
  have HB : Hid (blockL key.data.toList c nonce.data.toList = blockOf (streamL key.data.toList c nonce.data.toList)) := rfl
  have hSt : St (streamL key.data.toList c nonce.data.toList) := stateL_st _ _
  have HSE : Hid (con4 ++ wordsL key.data.toList 8 ++ ([c] ++ wordsL nonce.data.toList 3) = streamL key.data.toList c nonce.data.toList) := (streamL_eq key.data.toList c nonce.data.toList hc).symm
  have hlw : (i64L (wordsL nonce.data.toList 3)).length = 3 := by rw [i64L_length, wordsL_length]
  have hlf : ([c] ++ wordsL nonce.data.toList 3).length = 4 := by rw [List.length_append, wordsL_length]; rfl
  have hnil := World.ownsRow_nil w w.heap.size 3 1
  have hone1 : ∀ u ∈ [Value.int .i64 (c : Int)], u.oneCell' = true := i64L_one [c]
  have hml1 : 0 + 1 ≤ maxLen := by unfold maxLen; omega
  have hml2 : 0 + 1 + 3 ≤ maxLen := by unfold maxLen; omega
  have hbA : Below w.heap.size w (w.alloc (.cells #[.int .i64 (c : Int)] 3)) := (Below.refl _ _).alloc (Nat.le_refl _) _
  go_enter Tryd.func57, Tryd.ntmps57
  go_upto_region 3 with (at_builtin; refine wpList_append_own _ rfl _ _ 98 rfl w.heap.size 3 i0 (.int .i64 0) 1 8 Tryd.underlying98 hi hz0 hz1 hz2 rfl (by decide) _ _ _ rfl (hnil.alloc _) ⟨w.heap.size, 0, none⟩ 1 1 [.int .i64 (c : Int)] rfl rfl (by intro j u h; exact cells_new w #[.int .i64 (c : Int)] 3 j u (by simpa using h)) hone1 hml1 (by omega) hbA.size ?_; intro v1 w1 hown1 hgrow1 _)
  have hb1 : Below w.heap.size w w1 := hbA.trans (grown_below hgrow1 hbA.size (hnil.alloc _))
  have hwo := wordsOf_any nonce 3 hn (by omega) w1
  clear hgrow1 hbA hnil
  go_wp2_with fail
  refine hwo.mono ?_
  rintro e w2 ⟨v2, rfl, hown2, hb2'⟩
  have hb2 := hb1.trans (hb2'.mono hb1.size)
  have hown1' := owns_kept hown1 (fun k hk => hb2'.block k hk)
  obtain ⟨g2, cap2, rfl, hg2, hc2, hcm2, hl2, hr2⟩ := owns_range hown2 (by omega)
  clear hwo hown1 hown2 hb2' hb1
  go_upto_region 4 with (at_builtin; refine wpList_append_own _ rfl _ _ 98 rfl w.heap.size 3 i0 (.int .i64 0) 1 8 Tryd.underlying98 hi hz0 hz1 hz2 rfl (by decide) _ _ _ rfl hown1' ⟨g2, 0, none⟩ 3 cap2 (i64L (wordsL nonce.data.toList 3)) rfl hlw (cells_range hr2) (i64L_one _) hml2 (by omega) hb2.size ?_; intro v3 w3 hown3 hgrow3 _)
  have hb3 : Below w.heap.size w w3 := hb2.trans (grown_below hgrow3 hb2.size hown1')
  have hown3' : w3.ownsRow w.heap.size 3 1 v3 4 (i64L ([c] ++ wordsL nonce.data.toList 3)) := by
    have h : w3.ownsRow w.heap.size 3 1 v3 4 ([] ++ [.int .i64 (c : Int)] ++ i64L (wordsL nonce.data.toList 3)) := hown3
    rw [i64L_append]
    exact h
  obtain ⟨g4, cap4, rfl, hg4, hc4, hcm4, hl4, hr4⟩ := owns_range hown3' (by omega)
  have hst := start_any key hk ([c] ++ wordsL nonce.data.toList 3) hlf g4 cap4 w3 hl4 hr4
  rw [HSE.out] at hst
  clear hown1' hown3 hgrow3 hr2 hb2 hown3' hr4
  go_wp2_with fail
  refine hst.mono ?_
  rintro e w5 ⟨v5, rfl, hown5, hb5'⟩
  have hb5 := hb3.trans (hb5'.mono hb3.size)
  obtain ⟨ga, capa, rfl, hga, hca, hcma, hla, hra⟩ := owns_range hown5 (by omega)
  have hgw : w.heap.size ≤ ga := Nat.le_trans hb3.size hga
  clear hst hb5' hown5 hb3 hga
  have hro := rounds_any (streamL key.data.toList c nonce.data.toList) hSt ga capa w5 hla hra (hP.below hb5 h3) (by have := hb5.size; omega)
  have HBO : Hid (blockOf (streamL key.data.toList c nonce.data.toList) = textL (addL (mixedL (streamL key.data.toList c nonce.data.toList)) (streamL key.data.toList c nonce.data.toList))) := rfl
  have hmS := hSt.mixed
  revert hro HBO HB hSt hra hmS
  generalize mixedL (streamL key.data.toList c nonce.data.toList) = m
  generalize streamL key.data.toList c nonce.data.toList = s
  intro HB hSt hra hro HBO hmS
  have hm16 := hmS.len
  have hs16 := hSt.len
  go_wp2_with fail
  refine hro.mono ?_
  rintro e w6 ⟨g, cap, rfl, hc16, hcm, hgw6, hI, hb6'⟩
  have hb6 := hb5.trans (hb6'.mono hb5.size)
  have hra6 := range_kept hra (hb6'.block ga hla)
  have HNE : Hid (ga < g) := by show _ < _; omega
  have HGW : Hid (w.heap.size ≤ g) := by show _ ≤ _; have := hb5.size; omega
  clear hro hb6' hra hb5
  go_wp2
  go_loopg [10] 16 (fun gk i wr => ∃ k : Nat, k + gk = 16 ∧ i = .int .i64 k ∧ IBuf wr g (addMix m s k) ∧ wr.rangeAt ga 0 (i64L s) ∧ Below w.heap.size w wr)
  case atStart => exact ⟨0, by omega, rfl, by rw [addMix_zero]; exact hI, hra6, hb6⟩
  case round =>
    clear hI hra6 hb6
    obtain ⟨k, hkk, rfl, hI, hra, hB⟩ := hrel
    have HK : Hid (k + gk = 16) := hkk
    have hk' : k ≤ 16 := by omega
    clear hkk
    by_cases hlt : k < 16
    · have hltI : (k : Int) < 16 := by omega
      have hal := addMix_length m s k hm16 hk'
      have c1 : wr.cell? ⟨g, k, none⟩ = some (.int .i64 ((m.getD k 0 : Nat) : Int)) := by rw [hI.cell k (by omega), addMix_at]
      have c2 : wr.cell? ⟨ga, k, none⟩ = some (.int .i64 ((s.getD k 0 : Nat) : Int)) := by
        have := hra k _ (i64L_at s k (by omega))
        rwa [Nat.zero_add] at this
      have f1 := hI.frozen k
      have c1d : wr.drew.cell? ⟨g, k, none⟩ = some (.int .i64 ((m.getD k 0 : Nat) : Int)) := c1
      have c2d : wr.drew.cell? ⟨ga, k, none⟩ = some (.int .i64 ((s.getD k 0 : Nat) : Int)) := c2
      have f1d : wr.drew.frozen? ⟨g, k, none⟩ = false := f1
      have HP := hI.put k ((m.getD k 0 + s.getD k 0) % 4294967296)
      rw [addMix_set m s k (by omega)] at HP
      have lx := hmS.at_lt k
      have ly := hSt.at_lt k
      clear hI hal
      revert c1 c2 c1d c2d HP lx ly
      generalize m.getD k 0 = x
      generalize s.getD k 0 = y
      intro c1 c2 c1d c2d HP lx ly
      obtain ⟨z, hz⟩ : ∃ z, (x + y) % 4294967296 = z := ⟨_, rfl⟩
      rw [hz] at HP
      have hw1 : IntKind.i64.wrap ((x : Int) + (y : Int)) = (x : Int) + (y : Int) := by rw [IntKind.wrap_i64]; omega
      have hw2 : ((x : Int) + (y : Int)) % 4294967296 = (z : Int) := by omega
      have hw3 : ((x : Int) + (y : Int)).tmod 4294967296 = (z : Int) := by rw [Int.tmod_eq_emod_of_nonneg (by omega)]; omega
      clear hz
      have HPd : IBuf (wr.setCell ⟨g, k, none⟩ (.int .i64 (z : Int))).drew g (addMix m s (k + 1)) := HP.kept rfl
      have hra2 : (wr.setCell ⟨g, k, none⟩ (.int .i64 (z : Int))).drew.rangeAt ga 0 (i64L s) := range_kept hra (Below.heap_setCell _ _ _ _ (by show ga ≠ g; have := HNE.out; omega))
      have hB2 : Below w.heap.size w (wr.setCell ⟨g, k, none⟩ (.int .i64 (z : Int))).drew := (hB.setCell HGW.out _).drew
      go_wp2_with fail
      go_region
      refine with_world (R := fun W => Exit.inBlock _ _ _ _ W) (Q := fun W => IBuf W g (addMix m s (k + 1)) ∧ W.rangeAt ga 0 (i64L s) ∧ Below w.heap.size w W) _ ⟨HPd, hra2, hB2⟩ ?_
      clear HP HPd hra2 hB2 hra hB c1 c2 c1d c2d f1 f1d hw1 hw2 hw3
      rintro w9 ⟨HP, hra, hB⟩
      go_wp2
      go_roundg (gk - 1)
      case measure => have := HK.out; omega
      case rel => exact ⟨k + 1, by have := HK.out; omega, by go_num, HP, hra, hB⟩
    · obtain rfl : k = 16 := by omega
      rw [addMix_all m s hm16] at hI
      have hL := addL_st m s
      have hby := bytesOf_any (addL m s) hL.lt (by rw [hL.len]; omega) g cap wr hI.lt hI.range
      rw [hL.len] at hby
      clear hI hra
      go_wp2_with (go_at_call 68; refine hby.mono ?_; rintro e w10 ⟨rfl, hb10⟩)
      go_ret
      rw [HB.out, HBO.out]
      exact ⟨rfl, hB.trans (hb10.mono hB.size)⟩

theorem rBlock_yes (key nonce : ByteArray) (c : Nat) (hk : key.size = 32) (hn : nonce.size = 12) (hc : c < 4294967296) (w : World) (hP : PTabs w) (h3 : 4 ≤ w.heap.size) :
    Calls Tryd.prog 58 #[.string key, .int .i64 (c : Int), .string nonce] w fun e w' => e = .returned (.tuple #[.string (str (blockL key.data.toList c nonce.data.toList)), .int .i64 0]) ∧ Below w.heap.size w w' := by
  have hwr := wrong_any key nonce (c : Int) 12 (by unfold maxLen; omega) (by unfold maxLen; omega) w
  rw [wrong_ok hk hn (by omega) (by omega)] at hwr
  have hbl := rblock_any key nonce c hk hn hc w hP h3
  revert hbl
  generalize str (blockL key.data.toList c nonce.data.toList) = y
  intro hbl
  go_enter Tryd.func58, Tryd.ntmps58
  go_wp2_with fail
  refine hwr.mono ?_
  rintro e w1 ⟨rfl, rfl⟩
  go_wp2_with (go_at_call 57; refine hbl.mono ?_; rintro e w2 ⟨rfl, hb2⟩)
  go_ret2
  exact ⟨rfl, hb2⟩
theorem wrong_not {key nonce : ByteArray} {c : Int} {size : Nat} (h : ¬ (key.size = 32 ∧ nonce.size = size ∧ 0 ≤ c ∧ c < 4294967296)) : wrongN key c nonce size = 40 ∨ wrongN key c nonce size = 41 ∨ wrongN key c nonce size = 42 := by
  by_cases h1 : key.size = 32 ∧ nonce.size = size
  · exact .inr (.inr (wrong_far h1.1 h1.2 fun h2 => h ⟨h1.1, h1.2, h2⟩))
  · rw [wrong_fault h1]
    rcases fault_no h1 with h2 | h2
    · exact .inl h2
    · exact .inr (.inl h2)
theorem rBlock_no (key nonce : ByteArray) (c : Int) (hk : key.size ≤ maxLen) (hn : nonce.size ≤ maxLen) (h : ¬ (key.size = 32 ∧ nonce.size = 12 ∧ 0 ≤ c ∧ c < 4294967296)) (w : World) :
    Calls Tryd.prog 58 #[.string key, .int .i64 c, .string nonce] w fun e w' => e = .returned (.tuple #[.string { data := #[] }, .int .i64 (wrongN key c nonce 12)]) ∧ w = w' := by
  have hwr := wrong_any key nonce c 12 hk hn w
  rcases wrong_not h with h40 | h40 | h40 <;>
  · rw [h40] at hwr ⊢
    clear h h40
    go_enter Tryd.func58, Tryd.ntmps58
    go_wp2_with fail
    refine hwr.mono ?_
    rintro e w1 ⟨rfl, rfl⟩
    go_wp2
    go_ret2
    exact ⟨rfl, rfl⟩

end Go.Proofs.YtebhmebldemndaaDoor.Cha
