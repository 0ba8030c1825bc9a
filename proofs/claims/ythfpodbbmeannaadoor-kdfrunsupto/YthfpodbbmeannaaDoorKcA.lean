import Derived.Test.YthfpodbbmeannaaDoorMaA
import Derived.Test.YthfpodbbmeannaaDoorTxtA
namespace Go.Proofs.YthfpodbbmeannaaDoor
open Go.RowKit Go.Lib

theorem cnum_any (n : Int) (w : World) : Calls Tryd.prog 7 #[.int .i64 n] w fun e w' => e = .returned (.int .i64 n) ∧ w = w' := by
  go_enter Tryd.func7, Tryd.ntmps7
  go_wp2
  go_ret
  exact ⟨rfl, rfl⟩

/-- what KdfCuts holds: the sum that is asked, the quiet one -/
structure Cm (w wr : World) (p q : Nat) (key J : List UInt8) : Prop where
  hs : Mc wr p key J
  qs : Mc wr q key J
  ne : p ≠ q
  pb : w.heap.size ≤ p
  qb : w.heap.size ≤ q
  bel : Below w.heap.size w wr

set_option maxRecDepth 20000 in
set_option maxHeartbeats 4000000 in
theorem kdfCuts_walk (key : ByteArray) (hk : key.size ≤ 1048576) (w : World) (ht : Tabs w) (h4 : 4 ≤ w.heap.size) (a : Option Addr) (len cap : Nat) (ss : List ByteArray) (hL : Lst w a len ss) (hsm : (joinL ss).length + ss.length ≤ 1048576) :
    Calls Tryd.prog 3 #[.string key, .slice a len cap] w fun e w' => e = .returned (.bool true) ∧ Below w.heap.size w w' := by
  have HL : Hid (Lst w a len ss) := hL
  have hl := hL.sz
  clear hL
  have HTT : Hid (∀ W, Below w.heap.size w W → Tabs W ∧ 4 ≤ W.heap.size) := fun W h => ⟨ht.below h (by omega), by have := h.size; omega⟩
  have HI : Hid ((innerL key.data.toList).length = 64) := innerL_length _
  have hn1 := newmac_any key hk w ht h4
  clear ht
  go_enter Tryd.func3, Tryd.ntmps3
  go_wp2_with fail
  refine hn1.mono ?_
  rintro e w1 ⟨⟨p, rfl, hp, hM1⟩, hb1⟩
  clear hn1
  have hn2 := newmac_any key hk w1 (HTT.out w1 hb1).1 (HTT.out w1 hb1).2
  have hp1 := hM1.lt
  have z1 := hb1.size
  go_wp2_with fail
  refine hn2.mono ?_
  rintro e w2 ⟨⟨q, rfl, hq, hM2⟩, hb2'⟩
  clear hn2
  have HC : Hid (Cm w w2 p q key.data.toList []) := ⟨hM1.below hb2' hp1, hM2, by omega, hp, by omega, hb1.trans (hb2'.mono z1)⟩
  clear hM1 hM2 hb2' hb1 hp hq hp1 z1
  go_wp2
  go_loopg [7, 8] len (fun gk sz i wr => ∃ k : Nat, k + gk = len ∧ i = .int .i64 k ∧ sz = .int .i64 ((joinL (ss.take k)).length : Int) ∧ wr = w2)
  case atStart => exact ⟨0, by omega, rfl, rfl, rfl⟩
  case round =>
    obtain ⟨k, hkk, rfl, rfl, rfl⟩ := hrel
    have HK : Hid (k + gk = len) := hkk
    have hk' : k ≤ len := by omega
    clear hkk
    by_cases hlt : k < len
    · obtain ⟨s, hs⟩ : ∃ s, ss[k]? = some s := ⟨_, List.getElem?_eq_getElem (by omega)⟩
      obtain ⟨b, off, rfl, hbl, hc0⟩ := HL.out.cell k s hs
      have hcell := (HC.out.bel.cell (p := ⟨b, off + k, none⟩) hbl).trans hc0
      have hjt := joinL_take ss k s hs
      have hJ' := joinL_le ss (k + 1)
      have hlen' : ((joinL (ss.take k)).length : Int) + (s.size : Int) = ((joinL (ss.take (k + 1))).length : Int) := by rw [hjt, List.length_append, size_eq s]; omega
      have hcap : ¬ (1099511627712 : Int) < ((joinL (ss.take (k + 1))).length : Int) := by omega
      have hwr : IntKind.i64.wrap ((joinL (ss.take (k + 1))).length : Int) = ((joinL (ss.take (k + 1))).length : Int) := by rw [IntKind.wrap_i64]; omega
      clear hs hbl hjt hJ' hc0
      obtain ⟨y', hy'⟩ : ∃ y, ((joinL (ss.take (k + 1))).length : Int) = y := ⟨_, rfl⟩
      have HY : Hid (((joinL (ss.take (k + 1))).length : Int) = y') := hy'
      rw [hy'] at hlen' hcap hwr
      clear hy'
      revert hlen'
      generalize ((joinL (ss.take k)).length : Int) = y
      intro hlen'
      go_wp2
      go_roundg (gk - 1)
      case measure => have := HK.out; omega
      case rel => exact ⟨k + 1, by have := HK.out; omega, by go_num, by rw [HY.out], rfl⟩
    · obtain rfl : k = len := by omega
      clear HK hk' hlt
      generalize ((joinL (ss.take k)).length : Int) = ysz
      go_wp2
      go_loopg [9, 10] k (fun gk so i wr => ∃ j : Nat, j + gk = k ∧ i = .int .i64 j ∧ so = .string (str (joinL (ss.take j))) ∧ Cm w wr p q key.data.toList (joinL (ss.take j)))
      case atStart => exact ⟨0, by omega, rfl, rfl, HC.out⟩
      case round =>
        clear HC
        obtain ⟨j, hjj, rfl, rfl, HC⟩ := hrel
        have HK : Hid (j + gk = k) := hjj
        have hk' : j ≤ k := by omega
        clear hjj
        have hJ := joinL_le ss j
        by_cases hlt : j < k
        · obtain ⟨s, hs⟩ : ∃ s, ss[j]? = some s := ⟨_, List.getElem?_eq_getElem (by omega)⟩
          have hjt := joinL_take ss j s hs
          have hJ' := joinL_le ss (j + 1)
          obtain ⟨b, off, rfl, hbl, hc0⟩ := HL.out.cell j s hs
          have HCS : Hid (∀ W : World, Below w.heap.size w W → W.cell? ⟨b, off + j, none⟩ = some (.string s)) := fun W hb => (hb.cell (p := ⟨b, off + j, none⟩) hbl).trans hc0
          clear hs hc0 hbl
          obtain ⟨J, hJe⟩ : ∃ J, joinL (ss.take j) = J := ⟨_, rfl⟩
          obtain ⟨J', hJe'⟩ : ∃ J', joinL (ss.take (j + 1)) = J' := ⟨_, rfl⟩
          have HE : Hid (joinL (ss.take (j + 1)) = J') := hJe'
          rw [hJe, hJe'] at hjt
          rw [hJe'] at hJ'
          rw [hJe] at HC hJ ⊢
          clear hJe hJe'
          have hlen' : J.length + s.size = J'.length := by rw [hjt, List.length_append, ← size_eq]
          have hcat := cat_str J s
          rw [← hjt] at hcat
          have hadd : (str J).size + s.size ≤ 9223372036854775807 := by rw [str_size]; omega
          have HJT : Hid (J' = J ++ s.data.toList) := hjt
          clear hjt
          have hsz' : (str J').size = J'.length := str_size _
          have hbel := HC.bel
          have c1 := HCS.out _ hbel
          have hb40 : (innerL key.data.toList ++ J).length + s.size ≤ 1099511627776 := by rw [List.length_append, HI.out]; omega
          have hwr1 := mwrite_any HC.hs (HTT.out _ hbel).1 s hb40
          have HQ : Hid (p ≠ q ∧ w.heap.size ≤ p ∧ w.heap.size ≤ q) := ⟨HC.ne, HC.pb, HC.qb⟩
          have HQS := HC.qs
          clear HC
          rw [← HJT.out] at hwr1
          obtain ⟨yJ, hyJ⟩ : ∃ y, str J' = y := ⟨_, rfl⟩
          have HYJ : Hid (str J' = yJ) := hyJ
          rw [hyJ] at hcat hsz'
          clear hyJ
          go_wp2_with fail
          refine hwr1.mono ?_
          clear hwr1
          rintro e w4 ⟨rfl, hs4, ho4, _⟩
          have hq4 : Mc w4 q key.data.toList J := Mc.only HQS ho4 (by have := HQ.out.1; simp; omega)
          have hb4 : Below w.heap.size w w4 := hbel.trans (ho4.below hbel.size (by have := HQ.out.2.1; simp; omega))
          clear ho4 hbel c1 HQS
          have c1 := HCS.out _ hb4
          have hwr2 := mwrite_any hq4 (HTT.out _ hb4).1 s hb40
          rw [← HJT.out] at hwr2
          go_wp2_with fail
          refine hwr2.mono ?_
          clear hwr2
          rintro e w5 ⟨rfl, hq5, ho5, _⟩
          have hs5 : Mc w5 p key.data.toList J' := Mc.only hs4 ho5 (by have := HQ.out.1; simp; omega)
          have hb5 : Below w.heap.size w w5 := hb4.trans (ho5.below hb4.size (by have := HQ.out.2.2; simp; omega))
          clear ho5 hb4 c1 hs4 hq4
          have c1 := HCS.out _ hb5
          have hsm5 := msum_any hs5 (HTT.out _ hb5).1 (by rw [List.length_append, HI.out]; omega)
          have hhm := fun W hT h4 => hmac_one key yJ (by omega) (by omega) W hT h4
          rw [← HYJ.out, str_data] at hhm
          rw [HYJ.out] at hhm
          revert hsm5 hhm
          generalize str (hmacL key.data.toList J') = yz
          intro hsm5 hhm
          go_wp2_with (go_at_call 7; refine (cnum_any _ _).mono ?_; rintro e w' ⟨rfl, rfl⟩)
          refine hsm5.mono ?_
          clear hsm5
          rintro e w6 ⟨rfl, hb6'⟩
          have hb6 : Below w.heap.size w w6 := hb5.trans (hb6'.mono hb5.size)
          have hs6 := hs5.below hb6' hs5.lt
          have hq6 := hq5.below hb6' hq5.lt
          clear hb6' hs5 hq5 hb5 c1
          have hh6 := hhm w6 (HTT.out _ hb6).1 (HTT.out _ hb6).2
          clear hhm
          go_wp2_with fail
          refine hh6.mono ?_
          clear hh6
          rintro e w7 ⟨rfl, hb7'⟩
          have hb7 : Below w.heap.size w w7 := hb6.trans (hb7'.mono hb6.size)
          have hs7 := hs6.below hb7' hs6.lt
          have hq7 := hq6.below hb7' hq6.lt
          clear hb7' hs6 hq6 hb6
          go_wp2
          go_roundg (gk - 1)
          case measure => have := HK.out; omega
          case rel => exact ⟨j + 1, by have := HK.out; omega, by go_num, by rw [HE.out, HYJ.out], by rw [HE.out]; exact ⟨hs7, hq7, HQ.out.1, HQ.out.2.1, HQ.out.2.2, hb7⟩⟩
        · obtain rfl : j = k := by omega
          rw [List.take_of_length_le (by omega)] at HC ⊢
          have hbel := HC.bel
          have HLr := HL.out.below hbel
          have htx := texts_any wr a j cap ss HLr (by omega)
          have hJ1 : (joinL ss).length + 64 < 1099511627776 := by omega
          have hs32 : (str (hmacL key.data.toList (joinL ss))).size = 32 := by rw [str_size, hmacL_length]
          have hsJ : (str (joinL ss)).size = (joinL ss).length := str_size _
          have HWA : Hid (∀ W, Below w.heap.size w W → Calls Tryd.prog 11 #[.slice a j cap] W fun e w' => e = .returned (.string (str (joinL ss))) ∧ W = w') := fun W h => whole_any W a j cap ss (HL.out.below h) (by omega)
          have HHM : Hid (∀ W a' cap', Below w.heap.size w W → Lst W a' j ss → (a' = none → cap' = 0) → Calls Tryd.prog 9 #[.string key, .slice a' j cap'] W fun e w' => e = .returned (.string (str (hmacL key.data.toList (joinL ss)))) ∧ Below W.heap.size W w') := fun W a' cap' h hL hn => hmac_any key (by omega) W (HTT.out W h).1 (HTT.out W h).2 a' j cap' ss hL hn (by omega) hJ1
          have HH1 : Hid (∀ W, Below w.heap.size w W → Calls Tryd.prog 9 #[.string key, .slice (some ⟨W.heap.size, 0, none⟩) 1 1] (W.alloc (.cells #[.string (str (joinL ss))] 9)) fun e w' => e = .returned (.string (str (hmacL key.data.toList (joinL ss)))) ∧ Below W.heap.size W w') := fun W h => by
            have hh := hmac_one key (str (joinL ss)) (by omega) (by omega) W (HTT.out W h).1 (HTT.out W h).2
            rw [str_data] at hh
            exact hh
          have HMS : Hid (∀ W m, Below w.heap.size w W → Mc W m key.data.toList (joinL ss) → Calls Tryd.prog 8 #[.pointer (some ⟨m, 0, none⟩)] W fun e w' => e = .returned (.string (str (hmacL key.data.toList (joinL ss)))) ∧ Below W.heap.size W w') := fun W m h hM => msum_any hM (HTT.out W h).1 (by rw [List.length_append, HI.out]; omega)
          revert HWA HHM HH1 HMS hs32 hsJ
          generalize str (hmacL key.data.toList (joinL ss)) = yz
          generalize str (joinL ss) = yJ
          intro hs32 hsJ HWA HHM HH1 HMS
          have hs3 := HC.hs
          have hq3 := HC.qs
          clear HC hJ HLr
          go_wp2_with fail
          refine htx.mono ?_
          clear htx
          rintro e w4 ⟨v, rfl, hown, hb4'⟩
          have hb4 : Below w.heap.size w w4 := hbel.trans (hb4'.mono hbel.size)
          have hs4 := hs3.below hb4' hs3.lt
          have hq4 := hq3.below hb4' hq3.lt
          obtain ⟨a1, cap1, rfl, hL1, hnil⟩ := lst_ownsN hown
          have hh4 := HHM.out w4 a1 cap1 hb4 hL1 hnil
          clear hb4' hs3 hq3 hbel hown hL1 hnil HHM
          go_wp2_with fail
          refine hh4.mono ?_
          clear hh4
          rintro e w5 ⟨rfl, hb5'⟩
          have hb5 : Below w.heap.size w w5 := hb4.trans (hb5'.mono hb4.size)
          have hs5 := hs4.below hb5' hs4.lt
          have hq5 := hq4.below hb5' hq4.lt
          clear hb5' hs4 hq4 hb4
          have hw5 := HWA.out w5 hb5
          have hh5 := HH1.out w5 hb5
          clear HWA HH1
          go_wp2_with fail
          refine hw5.mono ?_
          rintro e w' ⟨rfl, rfl⟩
          go_wp2_with fail
          refine hh5.mono ?_
          clear hh5 hw5
          rintro e w6 ⟨rfl, hb6'⟩
          have hb6 : Below w.heap.size w w6 := hb5.trans (hb6'.mono hb5.size)
          have hs6 := hs5.below hb6' hs5.lt
          have hq6 := hq5.below hb6' hq5.lt
          clear hb6' hs5 hq5 hb5
          have hm6 := HMS.out w6 p hb6 hs6
          go_wp2_with fail
          refine hm6.mono ?_
          clear hm6
          rintro e w7 ⟨rfl, hb7'⟩
          have hb7 : Below w.heap.size w w7 := hb6.trans (hb7'.mono hb6.size)
          have hq7 := hq6.below hb7' hq6.lt
          clear hb7' hs6 hq6 hb6
          have hm7 := HMS.out w7 q hb7 hq7
          go_wp2_with fail
          refine hm7.mono ?_
          clear hm7
          rintro e w8 ⟨rfl, hb8'⟩
          have hb8 : Below w.heap.size w w8 := hb7.trans (hb8'.mono hb7.size)
          clear hb8' hq7 hb7
          go_wp2
          go_ret
          exact ⟨rfl, hb8⟩

end Go.Proofs.YthfpodbbmeannaaDoor
