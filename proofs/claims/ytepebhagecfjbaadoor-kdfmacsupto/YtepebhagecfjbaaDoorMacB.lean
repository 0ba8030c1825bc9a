import Derived.Test.YtepebhagecfjbaaDoorMacA
import Derived.BigRegion
import Derived.Deep.RegionHeldLaw
namespace Go.Proofs.YtepebhagecfjbaaDoor
open Go.RowKit Go.Lib Go.Deep

def hsh (k : Nat) : List ByteArray := List.replicate k { data := #[35] }
theorem hsh_length (k : Nat) : (hsh k).length = k := by simp [hsh]
theorem hsh_succ (ss : List ByteArray) (k : Nat) : strCells (ss ++ hsh (k + 1)) = strCells (ss ++ hsh k) ++ [.string { data := #[35] }] := by
  rw [hsh, List.replicate_succ', ← List.append_assoc]
  simp [strCells, hsh]
def addX (s : ByteArray) : ByteArray := s ++ { data := #[120] }
theorem addX_size (s : ByteArray) : (addX s).size = s.size + 1 := by rw [addX, ByteArray.size_append]; rfl
theorem addX_join : ∀ ss : List ByteArray, (joinL (ss.map addX)).length = (joinL ss).length + ss.length
  | [] => rfl
  | s :: r => by
    have h := addX_join r
    have e : ∀ (x : ByteArray) (l : List ByteArray), (joinL (x :: l)).length = x.size + (joinL l).length := fun x l => by simp [joinL]
    rw [List.map_cons, e, e, h, addX_size, List.length_cons]
    omega
theorem Mk.lst {w : World} {g len : Nat} {ss r : List ByteArray} (h : Mk w g (ss ++ r)) (hl : ss.length = len) (ht : len ≤ 9223372036854775807) : Lst w (some ⟨g, 0, none⟩) len ss :=
  ⟨hl, ht, fun i s hs => ⟨g, 0, rfl, h.lt, by rw [Nat.zero_add]; exact h.cell i s (by rw [List.getElem?_append_left (List.getElem?_eq_some_iff.1 hs).1]; exact hs)⟩⟩

set_option maxRecDepth 20000 in
set_option maxHeartbeats 4000000 in
theorem kdfMacs_walk (key : ByteArray) (hk : key.size ≤ 1048576) (w : World) (ht : Tabs w) (hr : RTabs w) (h4 : 4 ≤ w.heap.size) (a : Option Addr) (len cap : Nat) (ss : List ByteArray) (hL : Lst w a len ss) (hsm : (joinL ss).length + ss.length ≤ 1048576) :
    Calls Tryd.prog 5 #[.string key, .slice a len cap] w fun e w' => e = .returned (.bool true) ∧ Below w.heap.size w w' := by
  obtain ⟨i0, hi, hz0, hz1, hz2⟩ := info_parts info9
  have hl := hL.sz
  have HL : Hid (Lst w a len ss) := hL
  have HT : Hid (Tabs w) := ht
  have HR : Hid (RTabs w) := hr
  have HX := addX_join ss
  clear ht hr
  go_enter Tryd.func5, Tryd.ntmps5
  go_wp2_with fail
  refine (texts_any w a len cap ss hL (by omega)).mono ?_
  clear hL
  rintro e w1 ⟨v, rfl, hown, hb1⟩
  have hownl := hown.1
  obtain ⟨a1, cap1, rfl, _⟩ := lst_owns hown
  have hown0 : w1.ownsRow w.heap.size 9 1 (.slice a1 len cap1) (len + 0) (strCells (ss ++ hsh 0)) := by simpa [hsh] using hown
  clear hown hownl
  go_wp2
  go_loopg [5, 7] 8 (fun gk v i wr => ∃ k : Nat, k + gk = 8 ∧ i = .int .i64 k ∧ wr.ownsRow w.heap.size 9 1 v (len + k) (strCells (ss ++ hsh k)) ∧ Below w.heap.size w wr)
  case atStart => exact ⟨0, by omega, rfl, hown0, hb1⟩
  case round =>
    clear hown0 hb1
    obtain ⟨k, hkk, rfl, hown, hbel⟩ := hrel
    have HK : Hid (k + gk = 8) := hkk
    have hk' : k ≤ 8 := by omega
    clear hkk
    by_cases hlt : k < 8
    · have HS : Hid (strCells (ss ++ hsh (k + 1)) = strCells (ss ++ hsh k) ++ [.string { data := #[35] }]) := hsh_succ ss k
      have hone : ∀ u ∈ [Value.string { data := #[35] }], u.oneCell' = true := strCells_one [{ data := #[35] }]
      have hml : len + k + 1 ≤ maxLen := by unfold maxLen; omega
      go_wp2_with (at_builtin; refine wpList_append_own _ rfl _ _ 33 rfl w.heap.size 9 i0 (.string { data := #[] }) 1 16 Tryd.underlying33 hi hz0 hz1 hz2 rfl (by decide) _ _ _ rfl (hown.alloc _) ⟨wr.heap.size, 0, none⟩ 1 1 [.string { data := #[35] }] rfl rfl (by intro j u h; exact cells_new wr #[.string { data := #[35] }] 9 j u (by simpa using h)) hone hml (by omega) (by have := hbel.size; simp; omega) ?_; intro v' w' hown' hgrow' _)
      have R : w'.ownsRow w.heap.size 9 1 v' (len + (k + 1)) (strCells (ss ++ hsh (k + 1))) := by rw [HS.out]; exact hown'
      have hb' : Below w.heap.size w w' := by
        have h1 := hbel.alloc hbel.size (.cells #[.string { data := #[35] }] 9)
        exact h1.trans (grown_below hgrow' h1.size (hown.alloc _))
      clear hown' hgrow' hown
      go_wp2
      go_roundg (gk - 1)
      case measure => have := HK.out; omega
      case rel => exact ⟨k + 1, by have := HK.out; omega, by go_num, R, hb'⟩
    · obtain rfl : k = 8 := by omega
      clear HK hlt hk'
      rcases hown.2 with ⟨_, h0⟩ | ⟨g, cp, cur, rfl, hg1, hg2, hg3, hg4, hg5, hg6⟩
      · omega
      have hl8 : (ss ++ hsh 8).length = len + 8 := by rw [List.length_append, hsh_length, hl]
      have HM1 : Mk wr g (ss ++ hsh 8) := ⟨cur, hg2, by rw [hl8, hg5]; simp; omega, by rw [hl8]; simpa using hg6⟩
      have HG : Hid (w.heap.size ≤ g) := hg1
      clear hown hg1 hg2 hg4 hg5 hg6
      have hcp : (len : Int) ≤ (cp : Int) := by omega
      have z1 := hbel.size
      have hL8 : Lst wr (some ⟨g, 0, none⟩) (len + 8) (ss ++ hsh 8) := Mk.lst (r := []) (by rw [List.append_nil]; exact HM1) hl8 (by omega)
      have htx := texts_any wr (some ⟨g, 0, none⟩) (len + 8) cp (ss ++ hsh 8) hL8 (by omega)
      have HL8 : Hid (Lst wr (some ⟨g, 0, none⟩) (len + 8) (ss ++ hsh 8)) := hL8
      clear hL8
      go_wp2_with fail
      refine htx.mono ?_
      clear htx
      rintro e w2 ⟨v2, rfl, hown2, hb2'⟩
      obtain ⟨a2, cap2, rfl, hL2⟩ := lst_owns hown2
      have HL2 : Hid (Lst w2 a2 (len + 8) (ss ++ hsh 8)) := hL2
      have HL8' : Hid (Lst w2 (some ⟨g, 0, none⟩) (len + 8) (ss ++ hsh 8)) := HL8.out.below hb2'
      have hb2 := hbel.trans (hb2'.mono z1)
      have HM2 := HM1.below hb2' HM1.lt
      clear hbel hb2' HM1 hown2 hL2 HL8
      have z2 := hb2.size
      have hm := hmac_any key (by omega) w2 (HT.out.below hb2 (by omega)) (by omega) (some ⟨g, 0, none⟩) len cp ss (HM2.lst hl (by omega)) (by intro h; cases h) (by omega) (by omega)
      go_wp2_with fail
      refine hm.mono ?_
      clear hm
      rintro e w3 ⟨rfl, hb3'⟩
      have hb3 := hb2.trans (hb3'.mono z2)
      have HM3 := HM2.below hb3' HM2.lt
      have HL2' : Hid (Lst w3 a2 (len + 8) (ss ++ hsh 8)) := HL2.out.below hb3'
      have HL8 : Hid (Lst w3 (some ⟨g, 0, none⟩) (len + 8) (ss ++ hsh 8)) := HL8'.out.below hb3'
      clear hb2 hb3' HM2 HL2 HL8'
      have z3 := hb3.size
      have hrm := rhmac_any key hk w3 (HR.out.below hb3 h4) (by omega) a len cap ss (HL.out.below hb3) (by omega)
      obtain ⟨y0, hy0⟩ : ∃ y0, str (hmacL key.data.toList (joinL ss)) = y0 := ⟨_, rfl⟩
      rw [hy0] at hrm
      rw [hy0]
      clear hy0
      go_wp2_with fail
      refine hrm.mono ?_
      clear hrm
      rintro e w4 ⟨rfl, hb4'⟩
      have hb4 := hb3.trans (hb4'.mono z3)
      have HM4 := HM3.below hb4' HM3.lt
      have hsa := same_any w4 (some ⟨g, 0, none⟩) a2 (len + 8) cp cap2 (ss ++ hsh 8) (HL8.out.below hb4') (HL2'.out.below hb4')
      clear hb3 hb4' HM3 HL2' HL8
      have z4 := hb4.size
      go_wp2_with fail
      refine hsa.mono ?_
      clear hsa
      rintro e w5 ⟨rfl, hb5'⟩
      have hb5 := hb4.trans (hb5'.mono z4)
      have HM5 := HM4.below hb5' HM4.lt
      clear hb4 hb5' HM4
      have z5 := hb5.size
      rw [← mixedF_zero addX ss] at HM5
      go_wp2
      go_loopg [11] len (fun gk i wr => ∃ k : Nat, k + gk = len ∧ i = .int .i64 k ∧ Mk wr g (mixedF addX ss k ++ hsh 8) ∧ Below w.heap.size w wr)
      case atStart => exact ⟨0, by omega, rfl, HM5, hb5⟩
      case round =>
        clear HM5 hb5
        rename_i wr'
        obtain ⟨k, hkk, rfl, HM, hbel⟩ := hrel
        have HK : Hid (k + gk = len) := hkk
        have hk' : k ≤ len := by omega
        clear hkk
        by_cases hlt : k < len
        · obtain ⟨s, hs⟩ : ∃ s, ss[k]? = some s := ⟨_, List.getElem?_eq_getElem (by omega)⟩
          have c0 := HM.cell k s (mixedF_at addX ss k s hs _)
          have f0 := HM.frozen k
          have hkc : (k : Int) < (len : Int) + 8 := by omega
          have hle : s.size ≤ (joinL ss).length := by
            have h1 := joinL_le ss (k + 1)
            rw [joinL_take ss k s hs, List.length_append, ← size_eq] at h1
            omega
          have hadd : s.size + (ByteArray.mk #[120]).size ≤ 9223372036854775807 := by
            have : (ByteArray.mk #[120]).size = 1 := rfl
            omega
          have hadd1 : s.size + 1 ≤ 9223372036854775807 := by omega
          have HM2 := HM.put k (addX s)
          rw [mixedF_set addX ss k s hs] at HM2
          have HMH : Hid (Mk (wr.setCell ⟨g, k, none⟩ (.string (addX s))) g (mixedF addX ss (k + 1) ++ hsh 8)) := HM2
          have HB : Hid (Below w.heap.size w (wr.setCell ⟨g, k, none⟩ (.string (addX s)))) := hbel.setCell HG.out _
          clear hs HM hbel HM2 hle
          go_wp2
          go_roundg (gk - 1)
          case measure => have := HK.out; omega
          case rel => exact ⟨k + 1, by have := HK.out; omega, by go_num, HMH.out, HB.out⟩
        · obtain rfl : k = len := by omega
          have HMx : Mk wr g (ss.map addX ++ hsh 8) := by
            rw [← mixedF_all addX ss, hl]
            exact HM
          have hlm : (ss.map addX).length = k := by rw [List.length_map]; exact hl
          have hLx := HMx.lst hlm (by omega)
          have zr := hbel.size
          have K1 : Hid (∀ W, Below wr.heap.size wr W → Calls Tryd.prog 14 #[.string key, .slice (some ⟨g, 0, none⟩) k cp] W fun e w' => e = .returned (.string (str (hmacL key.data.toList (joinL (ss.map addX))))) ∧ Below W.heap.size W w') := fun W hW =>
            hmac_any key (by omega) W ((HT.out.below hbel (by omega)).below hW (by omega)) (by have := hW.size; omega) (some ⟨g, 0, none⟩) k cp (ss.map addX) (hLx.below hW) (by intro h; cases h) (by omega) (by omega)
          have K2 : Hid (∀ W, Below wr.heap.size wr W → Calls Tryd.prog 17 #[.slice (some ⟨g, 0, none⟩) k cp] W fun e w' => ∃ v, e = .returned v ∧ w'.ownsRow W.heap.size 9 1 v k (strCells (ss.map addX)) ∧ Below W.heap.size W w') := fun W hW =>
            texts_any W (some ⟨g, 0, none⟩) k cp (ss.map addX) (hLx.below hW) (by omega)
          have K3 : Hid (∀ W, Below wr.heap.size wr W → ∀ a' c', Lst W a' k (ss.map addX) → Calls Tryd.prog 18 #[.string key, .slice a' k c'] W fun e w' => e = .returned (.string (str (hmacL key.data.toList (joinL (ss.map addX))))) ∧ Below W.heap.size W w') := fun W hW a' c' hL' =>
            rhmac_any key hk W ((HR.out.below hbel h4).below hW (by omega)) (by have := hW.size; omega) a' k c' (ss.map addX) hL' (by omega)
          have KT : Hid (∀ W W', Below wr.heap.size wr W → Below W.heap.size W W' → Below wr.heap.size wr W') := fun W W' h1 h2 => h1.trans (h2.mono h1.size)
          revert K1 K3
          generalize str (hmacL key.data.toList (joinL (ss.map addX))) = y
          intro K1 K3
          clear HM HMx hLx
          go_wp2_with fail
          go_region_held_law (fun _ => True) (trivial) (first | (go_at_call 14; refine (K1.out _ (below_drewN _ _)).mono ?_; rintro e w6 ⟨rfl, hb6⟩; have hb06 := KT.out _ _ (below_drewN _ _) hb6) | (go_at_call 17; refine (K2.out _ hb06).mono ?_; rintro e w7 ⟨v7, rfl, hown7, hb7⟩; obtain ⟨a7, cap7, rfl, hL7⟩ := lst_owns hown7; have hb07 := KT.out _ _ hb06 hb7; have HL7 := K3.out _ hb07 a7 cap7 hL7) | (go_at_call 18; refine HL7.mono ?_; rintro e w8 ⟨rfl, hb8⟩; have hb08 := KT.out _ _ hb07 hb8))
          all_goals
            go_wp2
            go_ret
            exact ⟨rfl, hbel.trans (hb08.mono zr)⟩

end Go.Proofs.YtepebhagecfjbaaDoor
