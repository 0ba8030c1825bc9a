import Derived.Test.YtggfeppphhigdaaDoorPlC
import Derived.Test.YtggfeppphhigdaaDoorLsiA
namespace Go.Proofs.YtggfeppphhigdaaDoor
open Go.RowKit Go.Lib Go.Deep

/-- what PolyPieces holds -/
structure Pc (w wr : World) (p r s : Nat) (T : List UInt8) (len i at0 : Nat) : Prop where
  mac : Mac wr p r s (T.take at0)
  le : at0 ≤ T.length
  bel : Below w.heap.size w wr
  gt : w.heap.size ≤ p
  done : i = len + 1 → at0 = T.length

set_option maxRecDepth 20000 in
set_option maxHeartbeats 4000000 in
theorem polyPieces_walk (key text : ByteArray) (h63 : text.size ≤ 9223372036854775000) (w : World) (hT : KTab w) (h1 : 0 < w.heap.size) (a : Option Addr) (len cap : Nat) (zs : List Int) (hL : Lsi w a len zs) (hltop : len ≤ 140737488351232) :
    Calls Tryd.prog 3 #[.string key, .string text, .slice a len cap] w fun e w' => e = .returned (.bool true) ∧ Below w.heap.size w w' := by
  have HL : Hid (Lsi w a len zs) := hL
  have hl := hL.sz
  clear hL
  have htl : text.data.toList.length = text.size := (size_eq text).symm
  have hky := keyed_any key w
  have hkl := keyL_length key.data.toList
  revert hky hkl
  generalize keyL key.data.toList = K
  intro hky hkl
  have HTT : Hid (∀ W, Below w.heap.size w W → KTab W ∧ 0 < W.heap.size) := fun W h => ⟨hT.below h h1, by have := h.size; omega⟩
  have HNW : Hid (∀ W, Below w.heap.size w W → Calls Tryd.prog 9 #[.string (str K)] W fun e w' => (∃ p, e = .returned (.tuple #[.pointer (some ⟨p, 0, none⟩), .int .i64 0]) ∧ W.heap.size ≤ p ∧ Mac w' p (rOf K) (sOf K) []) ∧ Below W.heap.size W w') := fun W hb => by
    have h := new_yes (str K) (by rw [str_size, hkl]) W (HTT.out W hb).1 (HTT.out W hb).2
    rw [str_data] at h
    exact h
  have HTG : Hid (∀ n, n ≤ text.size → ∀ W, Below w.heap.size w W → Calls Tryd.prog 12 #[.string (str K), .string (str (text.data.toList.take n))] W fun e w' => e = .returned (.tuple #[.string (str (tagL K (text.data.toList.take n))), .int .i64 0]) ∧ Below W.heap.size W w') := fun n hn W hb => by
    have h := tag_yes (str K) (str (text.data.toList.take n)) (by rw [str_size, hkl]) (by rw [str_size, List.length_take]; omega) W (HTT.out W hb).1 (HTT.out W hb).2
    rw [str_data, str_data] at h
    exact h
  have hr := rOf_lt K (by omega)
  have hs := sOf_lt K hkl
  have HSM : Hid (∀ n, ∀ W p, Mac W p (rOf K) (sOf K) (text.data.toList.take n) → Calls Tryd.prog 13 #[.pointer (some ⟨p, 0, none⟩)] W fun e w' => e = .returned (.string (str (tagL K (text.data.toList.take n)))) ∧ Below W.heap.size W w') := fun n W p hM => sum_any hM (by omega) hs
  have HWR : Hid (∀ W p at0 n, Mac W p (rOf K) (sOf K) (text.data.toList.take at0) → at0 + n ≤ text.size → Calls Tryd.prog 11 #[.pointer (some ⟨p, 0, none⟩), .string (str ((text.data.toList.drop at0).take n))] W fun e w' => e = .returned (.int .i64 0) ∧ Mac w' p (rOf K) (sOf K) (text.data.toList.take (at0 + n)) ∧ Only [p] W w') := fun W p at0 n hM hn => by
    have h := write_any hM (by omega) (str ((text.data.toList.drop at0).take n)) (by rw [str_size, List.length_take]; omega)
    rw [str_data, ← List.take_add] at h
    exact h
  have HSL : Hid (∀ (W : World) at0 n, at0 + n ≤ text.size → (Instr.slice 9 (.string text) (some (.int .i64 (at0 : Int))) (some (.int .i64 ((at0 : Int) + (n : Int)))) none).run Tryd.prog W = .ok (.string (str ((text.data.toList.drop at0).take n))) W) := fun W at0 n hn => by
    rw [run_slice_string (P := Tryd.prog) W 9 text .i64 .i64 (at0 : Int) ((at0 : Int) + (n : Int)) Tryd.underlying9 (by omega) (by omega) (by omega)]
    congr 2
    rw [← str_of (text.extract _ _)]
    congr 1
    rw [show ((at0 : Int)).toNat = at0 by omega, show ((at0 : Int) + (n : Int)).toNat = at0 + n by omega]
    have h0 : (text.extract at0 (at0 + n)).data = text.data.extract at0 (at0 + n) := by simp
    rw [h0, Array.toList_extract]
    simp only [List.extract]
    congr 1
    omega
  have HSH : Hid (∀ (W : World) at0 n, at0 + n ≤ text.size → (Instr.slice 9 (.string text) none (some (.int .i64 ((at0 : Int) + (n : Int)))) none).run Tryd.prog W = .ok (.string (str (text.data.toList.take (at0 + n)))) W) := fun W at0 n hn => by
    have h := slice_head (P := Tryd.prog) W 9 Tryd.underlying9 text.data.toList _ (at0 + n) (by omega) rfl
    rw [str_of, Int.natCast_add] at h
    exact h
  clear hT HTT
  generalize rOf K = r at *
  generalize sOf K = s at *
  go_enter Tryd.func3, Tryd.ntmps3
  go_wp2_with fail
  refine hky.mono ?_
  rintro e w1 ⟨rfl, hb1⟩
  clear hky
  have hnw := HNW.out w1 hb1
  clear HNW
  go_wp2_with fail
  refine hnw.mono ?_
  rintro e w2 ⟨⟨p, rfl, hp, hM2⟩, hb2'⟩
  have hb2 := hb1.trans (hb2'.mono hb1.size)
  have hpw : w.heap.size ≤ p := by have := hb1.size; omega
  have HS0 : Hid (Pc w w2 p r s text.data.toList len 0 0) := ⟨hM2, by omega, hb2, hpw, by intro h; omega⟩
  clear hnw hb1 hb2' hb2 hM2 hp
  go_wp2_with (go_at_call 10; refine (num_any _ _).mono ?_; rintro e w3 ⟨rfl, rfl⟩)
  go_loopg [10, 11] (len + 1) (fun gk av iv wr => ∃ i at0 : Nat, i + gk = len + 1 ∧ iv = .int .i64 i ∧ av = .int .i64 at0 ∧ Pc w wr p r s text.data.toList len i at0)
  case atStart => exact ⟨0, 0, by omega, rfl, rfl, HS0.out⟩
  case round =>
    clear HS0
    obtain ⟨i, at0, hkk, rfl, rfl, HS⟩ := hrel
    have HK : Hid (i + gk = len + 1) := hkk
    have hi' : i ≤ len + 1 := by omega
    clear hkk
    have hle := HS.le
    rw [htl] at hle
    by_cases hle' : i ≤ len
    · have hleI : (i : Int) ≤ (len : Int) := by omega
      obtain ⟨n0, hn0⟩ : ∃ n0, text.size - at0 = n0 := ⟨_, rfl⟩
      have hn0I : (text.size : Int) - (at0 : Int) = (n0 : Int) := by omega
      by_cases hil : i < len
      · have hilI : (i : Int) < (len : Int) := by omega
        obtain ⟨z, hz⟩ : ∃ z, zs[i]? = some z := ⟨_, List.getElem?_eq_getElem (by omega)⟩
        obtain ⟨b, off, rfl, hbl, hc0⟩ := HL.out.cell i z hz
        have hcell := (HS.bel.cell (p := ⟨b, off + i, none⟩) hbl).trans hc0
        have hq1 : z.tmod 40 < 40 := Int.tmod_lt_of_pos z (by omega)
        have hq2 : -40 < z.tmod 40 := by
          have h := Int.tmod_lt_of_pos (-z) (show (0 : Int) < 40 by omega)
          rw [Int.neg_tmod] at h
          omega
        clear hz hc0 hbl
        generalize hq : z.tmod 40 = q at *
        obtain ⟨c, hc⟩ : ∃ c : Nat, (q + 40) % 40 = (c : Int) := ⟨((q + 40) % 40).toNat, by omega⟩
        have hct : (q + 40).tmod 40 = (c : Int) := by rw [Int.tmod_eq_emod_of_nonneg (by omega)]; exact hc
        by_cases hcn : c < n0
        · have hcnI : (c : Int) < (n0 : Int) := by omega
          have hnl : at0 + c ≤ text.size := by omega
          have hsl1 : ∀ W : World, (Instr.slice 9 (.string text) (some (.int .i64 (at0 : Int))) (some (.int .i64 ((at0 : Int) + (c : Int)))) none).run Tryd.prog W = .ok (.string (str ((text.data.toList.drop at0).take c))) W := fun W => HSL.out W at0 c hnl
          have hsl2 : ∀ W : World, (Instr.slice 9 (.string text) none (some (.int .i64 ((at0 : Int) + (c : Int)))) none).run Tryd.prog W = .ok (.string (str (text.data.toList.take (at0 + c)))) W := fun W => HSH.out W at0 c hnl
          have hwt := HWR.out wr p at0 c HS.mac hnl
          have HTG1 : Hid _ := HTG.out (at0 + c) hnl
          have HSM1 : Hid _ := fun W => HSM.out (at0 + c) W p
          have hzt : (str (tagL K (text.data.toList.take (at0 + c)))).size = 16 := by rw [str_size, tagL_length]
          have hbel := HS.bel
          have hpg := HS.gt
          clear HS
          generalize hyt : str (tagL K (text.data.toList.take (at0 + c))) = yt at *
          generalize str ((text.data.toList.drop at0).take c) = yp at *
          generalize hyx : str (text.data.toList.take (at0 + c)) = yx at *
          clear hyt hyx
          go_wp2_with fail
          refine hwt.mono ?_
          rintro e w4 ⟨rfl, hM4, hO4⟩
          have hb4 : Below w.heap.size w w4 := hbel.trans (hO4.below hbel.size (by simp; omega))
          clear hwt hO4 hbel hsl1
          have htg := HTG1.out w4 hb4
          go_wp2_with (go_at_call 10; refine (num_any _ _).mono ?_; rintro e w5 ⟨rfl, rfl⟩)
          refine htg.mono ?_
          rintro e w5 ⟨rfl, hb5'⟩
          have hb5 := hb4.trans (hb5'.mono hb4.size)
          have hM5 := hM4.below hb5' hM4.lt
          clear hb4 hM4 hb5' htg HTG1
          have hs5 := HSM1.out w5 hM5
          go_wp2_with (go_at_call 10; refine (num_any _ _).mono ?_; rintro e w6 ⟨rfl, rfl⟩)
          refine hs5.mono ?_
          rintro e w6 ⟨rfl, hb6'⟩
          have hb6 := hb5.trans (hb6'.mono hb5.size)
          have hM6 := hM5.below hb6' hM5.lt
          clear hb5 hM5 hb6' hs5
          have hs6 := HSM1.out w6 hM6
          go_wp2_with fail
          refine hs6.mono ?_
          rintro e w7 ⟨rfl, hb7'⟩
          have hb7 := hb6.trans (hb7'.mono hb6.size)
          have hM7 := hM6.below hb7' hM6.lt
          clear hb6 hM6 hb7' hs6 HSM1
          go_wp2
          go_roundg (gk - 1)
          case measure => have := HK.out; omega
          case rel => exact ⟨i + 1, at0 + c, by have := HK.out; omega, by go_num, by go_num, ⟨hM7, by omega, hb7, hpg, by intro h; omega⟩⟩
        · have hcnI : ¬ (c : Int) < (n0 : Int) := by omega
          have hnl : at0 + n0 ≤ text.size := by omega
          have hsl1 : ∀ W : World, (Instr.slice 9 (.string text) (some (.int .i64 (at0 : Int))) (some (.int .i64 ((at0 : Int) + (n0 : Int)))) none).run Tryd.prog W = .ok (.string (str ((text.data.toList.drop at0).take n0))) W := fun W => HSL.out W at0 n0 hnl
          have hsl2 : ∀ W : World, (Instr.slice 9 (.string text) none (some (.int .i64 ((at0 : Int) + (n0 : Int)))) none).run Tryd.prog W = .ok (.string (str (text.data.toList.take (at0 + n0)))) W := fun W => HSH.out W at0 n0 hnl
          have hwt := HWR.out wr p at0 n0 HS.mac hnl
          have HTG1 : Hid _ := HTG.out (at0 + n0) hnl
          have HSM1 : Hid _ := fun W => HSM.out (at0 + n0) W p
          have hzt : (str (tagL K (text.data.toList.take (at0 + n0)))).size = 16 := by rw [str_size, tagL_length]
          have hbel := HS.bel
          have hpg := HS.gt
          clear HS
          generalize hyt : str (tagL K (text.data.toList.take (at0 + n0))) = yt at *
          generalize str ((text.data.toList.drop at0).take n0) = yp at *
          generalize hyx : str (text.data.toList.take (at0 + n0)) = yx at *
          clear hyt hyx
          go_wp2_with fail
          refine hwt.mono ?_
          rintro e w4 ⟨rfl, hM4, hO4⟩
          have hb4 : Below w.heap.size w w4 := hbel.trans (hO4.below hbel.size (by simp; omega))
          clear hwt hO4 hbel hsl1
          have htg := HTG1.out w4 hb4
          go_wp2_with (go_at_call 10; refine (num_any _ _).mono ?_; rintro e w5 ⟨rfl, rfl⟩)
          refine htg.mono ?_
          rintro e w5 ⟨rfl, hb5'⟩
          have hb5 := hb4.trans (hb5'.mono hb4.size)
          have hM5 := hM4.below hb5' hM4.lt
          clear hb4 hM4 hb5' htg HTG1
          have hs5 := HSM1.out w5 hM5
          go_wp2_with (go_at_call 10; refine (num_any _ _).mono ?_; rintro e w6 ⟨rfl, rfl⟩)
          refine hs5.mono ?_
          rintro e w6 ⟨rfl, hb6'⟩
          have hb6 := hb5.trans (hb6'.mono hb5.size)
          have hM6 := hM5.below hb6' hM5.lt
          clear hb5 hM5 hb6' hs5
          have hs6 := HSM1.out w6 hM6
          go_wp2_with fail
          refine hs6.mono ?_
          rintro e w7 ⟨rfl, hb7'⟩
          have hb7 := hb6.trans (hb7'.mono hb6.size)
          have hM7 := hM6.below hb7' hM6.lt
          clear hb6 hM6 hb7' hs6 HSM1
          go_wp2
          go_roundg (gk - 1)
          case measure => have := HK.out; omega
          case rel => exact ⟨i + 1, at0 + n0, by have := HK.out; omega, by go_num, by go_num, ⟨hM7, by omega, hb7, hpg, by intro h; omega⟩⟩
      · have hilI : ¬ (i : Int) < (len : Int) := by omega
        have hnl : at0 + n0 ≤ text.size := by omega
        have hsl1 : ∀ W : World, (Instr.slice 9 (.string text) (some (.int .i64 (at0 : Int))) (some (.int .i64 ((at0 : Int) + (n0 : Int)))) none).run Tryd.prog W = .ok (.string (str ((text.data.toList.drop at0).take n0))) W := fun W => HSL.out W at0 n0 hnl
        have hsl2 : ∀ W : World, (Instr.slice 9 (.string text) none (some (.int .i64 ((at0 : Int) + (n0 : Int)))) none).run Tryd.prog W = .ok (.string (str (text.data.toList.take (at0 + n0)))) W := fun W => HSH.out W at0 n0 hnl
        have hwt := HWR.out wr p at0 n0 HS.mac hnl
        have HTG1 : Hid _ := HTG.out (at0 + n0) hnl
        have HSM1 : Hid _ := fun W => HSM.out (at0 + n0) W p
        have hzt : (str (tagL K (text.data.toList.take (at0 + n0)))).size = 16 := by rw [str_size, tagL_length]
        have hbel := HS.bel
        have hpg := HS.gt
        clear HS
        generalize hyt : str (tagL K (text.data.toList.take (at0 + n0))) = yt at *
        generalize str ((text.data.toList.drop at0).take n0) = yp at *
        generalize hyx : str (text.data.toList.take (at0 + n0)) = yx at *
        clear hyt hyx
        go_wp2_with fail
        refine hwt.mono ?_
        rintro e w4 ⟨rfl, hM4, hO4⟩
        have hb4 : Below w.heap.size w w4 := hbel.trans (hO4.below hbel.size (by simp; omega))
        clear hwt hO4 hbel hsl1
        have htg := HTG1.out w4 hb4
        go_wp2_with (go_at_call 10; refine (num_any _ _).mono ?_; rintro e w5 ⟨rfl, rfl⟩)
        refine htg.mono ?_
        rintro e w5 ⟨rfl, hb5'⟩
        have hb5 := hb4.trans (hb5'.mono hb4.size)
        have hM5 := hM4.below hb5' hM4.lt
        clear hb4 hM4 hb5' htg HTG1
        have hs5 := HSM1.out w5 hM5
        go_wp2_with (go_at_call 10; refine (num_any _ _).mono ?_; rintro e w6 ⟨rfl, rfl⟩)
        refine hs5.mono ?_
        rintro e w6 ⟨rfl, hb6'⟩
        have hb6 := hb5.trans (hb6'.mono hb5.size)
        have hM6 := hM5.below hb6' hM5.lt
        clear hb5 hM5 hb6' hs5
        have hs6 := HSM1.out w6 hM6
        go_wp2_with fail
        refine hs6.mono ?_
        rintro e w7 ⟨rfl, hb7'⟩
        have hb7 := hb6.trans (hb7'.mono hb6.size)
        have hM7 := hM6.below hb7' hM6.lt
        clear hb6 hM6 hb7' hs6 HSM1
        go_wp2
        go_roundg (gk - 1)
        case measure => have := HK.out; omega
        case rel => exact ⟨i + 1, at0 + n0, by have := HK.out; omega, by go_num, by go_num, ⟨hM7, by omega, hb7, hpg, by intro h; omega⟩⟩
    · have hleI : ¬ (i : Int) ≤ (len : Int) := by omega
      obtain rfl : at0 = text.size := by have := HS.done (by omega); omega
      have hbel := HS.bel
      clear HS
      go_wp2
      go_ret
      exact ⟨by simp, hbel⟩

end Go.Proofs.YtggfeppphhigdaaDoor
