import Derived.Test.YtengclnahppmhaaGreatDoorLkZ
import Derived.Test.YtengclnahppmhaaGreatDoorAeZ
import Derived.Test.YtengclnahppmhaaGreatDoorBaseM
import Derived.Test.YtengclnahppmhaaGreatDoorRows
import Derived.OwnWalk
import Derived.KernelRfl
import Derived.BigQuiet
import Derived.BigRegion
import Derived.Laws.BitsAll
namespace Go.Proofs.YtengclnahppmhaaGreatDoor.Ae
open Go.RowKit Go.Lib Go.Deep

set_option maxRecDepth 20000 in
theorem seal_no (key nonce aad plain : ByteArray) (hk : key.size ≤ 9223372036854775807) (hn : nonce.size ≤ 9223372036854775807) (h : ¬ (key.size = 32 ∧ (nonce.size = 12 ∨ nonce.size = 24))) (w : World) :
    Calls Tryz.prog 78 #[.string key, .string nonce, .string aad, .string plain] w fun e w' => e = .returned (.tuple #[.string { data := #[] }, .int .i64 (askN key nonce)]) ∧ Below w.heap.size w w' := by
  have ha := lockOf_no key nonce hk hn h w
  have h0 : ¬ askN key nonce = 0 := by rcases askN_no h with e | e <;> rw [e] <;> decide
  generalize askN key nonce = x at ha h0 ⊢
  go_enter Tryz.func78, Tryz.ntmps78
  go_wp2_with fail
  refine ha.mono ?_
  rintro e w1 ⟨rfl, hb⟩
  go_wp2
  go_ret2
  exact ⟨rfl, by first | exact hb | exact hb.alloc hb.size _⟩

set_option maxRecDepth 20000 in
theorem seal_big (key nonce aad plain : ByteArray) (h1 : key.size = 32) (h2 : nonce.size = 12 ∨ nonce.size = 24) (hb : 1048576 < aad.size ∨ 1048576 < plain.size) (w : World) (hT : ATabs w) :
    Calls Tryz.prog 78 #[.string key, .string nonce, .string aad, .string plain] w fun e w' => e = .returned (.tuple #[.string { data := #[] }, .int .i64 3]) ∧ Below w.heap.size w w' := by
  obtain ⟨yk, yn, hk, hn, ek, en, ha⟩ := lockOf_yes key nonce h1 h2 w hT
  clear ek en
  by_cases hb1 : 1048576 < aad.size
  · have i1 : (1048576 : Int) < (aad.size : Int) := by omega
    go_enter Tryz.func78, Tryz.ntmps78
    go_wp2_with fail
    refine ha.mono ?_
    rintro e w1 ⟨rfl, hb⟩
    go_wp2
    go_ret2
    exact ⟨rfl, by first | exact hb | exact hb.alloc hb.size _⟩
  · have i1 : ¬ (1048576 : Int) < (aad.size : Int) := by omega
    have i2 : (1048576 : Int) < (plain.size : Int) := by omega
    go_enter Tryz.func78, Tryz.ntmps78
    go_wp2_with fail
    refine ha.mono ?_
    rintro e w1 ⟨rfl, hb⟩
    go_wp2
    go_ret2
    exact ⟨rfl, by first | exact hb | exact hb.alloc hb.size _⟩

set_option maxRecDepth 20000 in
set_option maxHeartbeats 1000000 in
theorem seal_yes (key nonce aad plain : ByteArray) (h1 : key.size = 32) (h2 : nonce.size = 12 ∨ nonce.size = 24) (ha : aad.size ≤ 1048576) (hp : plain.size ≤ 1048576) (w : World) (hT : ATabs w) :
    Calls Tryz.prog 78 #[.string key, .string nonce, .string aad, .string plain] w fun e w' => e = .returned (.tuple #[.string (str (sealL key.data.toList nonce.data.toList aad.data.toList plain.data.toList)), .int .i64 0]) ∧ Below w.heap.size w w' := by
  obtain ⟨yk, yn, hk, hn, ek, en, hlo⟩ := lockOf_yes key nonce h1 h2 w hT
  have i1 : ¬ (1048576 : Int) < (aad.size : Int) := by omega
  have i2 : ¬ (1048576 : Int) < (plain.size : Int) := by omega
  rw [sealL, ek, en]
  clear ek en
  have HTT : Hid (∀ W, Below w.heap.size w W → ATabs W) := fun W h => hT.below h
  have hxo := fun W (k1 : ATabs W) => turned_any yk yn plain hk hn (by omega) W k1
  obtain ⟨C, hC⟩ : ∃ C, Cha.overL yk.data.toList 1 yn.data.toList plain.data.toList = C := ⟨_, rfl⟩
  have hCl : C.length = plain.size := by rw [← hC, Cha.overL_length, ← size_eq]
  rw [hC] at hxo
  have htg := fun W (k1 : ATabs W) => atag_any yk yn aad (str C) hk hn (by omega) (by rw [str_size]; omega) W k1
  rw [str_data] at htg
  have hsum : (str C).size + (str (tagA yk.data.toList yn.data.toList aad.data.toList C)).size ≤ 9223372036854775807 := by rw [str_size, str_size, tagA_length]; omega
  have HF : Hid (str C ++ str (tagA yk.data.toList yn.data.toList aad.data.toList C) = str (sealS yk.data.toList yn.data.toList aad.data.toList plain.data.toList)) := by
    show _ = _
    rw [sealS, hC, ← str_of (str C ++ _), ByteArray.data_append, Array.toList_append, str_data, str_data]
  rw [← HF.out]
  clear hC HF hCl
  generalize str (tagA yk.data.toList yn.data.toList aad.data.toList C) = yt at htg hsum ⊢
  generalize str C = yc at hxo htg hsum ⊢
  clear hT
  go_enter Tryz.func78, Tryz.ntmps78
  go_wp2_with fail
  refine hlo.mono ?_
  rintro e w1 ⟨rfl, hb1⟩
  clear hlo
  have hb2 := hb1.alloc hb1.size (.cells #[.string yk, .string yn] 134)
  have hx1 := hxo _ (HTT.out _ hb2)
  go_wp2_with fail
  refine hx1.mono ?_
  rintro e w3 ⟨rfl, hb3'⟩
  have hA : w3.heap[w1.heap.size]? = some (.cells #[.string yk, .string yn] 134 (0, 0)) := (hb3'.block _ (by simp)).trans (heap_new _ _)
  have c0 : w3.cell? ⟨w1.heap.size, 0, none⟩ = some (.string yk) := (cell_of_heap hA).trans rfl
  have c1 : w3.cell? ⟨w1.heap.size, 1, none⟩ = some (.string yn) := (cell_of_heap hA).trans rfl
  have hb3 := hb2.trans (hb3'.mono hb2.size)
  have ht1 := htg w3 (HTT.out _ hb3)
  clear hA hx1 hb3' hb2 hb1
  go_wp2_with (go_at_call 102; refine ht1.mono ?_; rintro e w4 ⟨rfl, hb4⟩)
  go_ret2
  exact ⟨rfl, hb3.trans (hb4.mono hb3.size)⟩

theorem sealC : SealC := by
  intro key nonce aad plain w hk hn _ _ hT
  by_cases h : key.size = 32 ∧ (nonce.size = 12 ∨ nonce.size = 24)
  · by_cases hb : 1048576 < aad.size ∨ 1048576 < plain.size
    · rw [(sealE_big h.1 h.2 hb).1, (sealE_big h.1 h.2 hb).2]
      exact seal_big key nonce aad plain h.1 h.2 hb w hT
    · rw [(sealE_yes h.1 h.2 (by omega) (by omega)).1, (sealE_yes h.1 h.2 (by omega) (by omega)).2]
      exact seal_yes key nonce aad plain h.1 h.2 (by omega) (by omega) w hT
  · rw [(sealE_no h).1, (sealE_no h).2]
    exact seal_no key nonce aad plain (by omega) (by omega) h w

end Go.Proofs.YtengclnahppmhaaGreatDoor.Ae

namespace Go.Proofs.YtengclnahppmhaaGreatDoor
open Go.RowKit Go.Lib Go.Deep

theorem rindex_at {P : Program} (w : World) (t : TypeId) (s : ByteArray) (k : IntKind) (z : Int) (i : Nat) (c : UInt8) (h : P.underlying t = some .string) (hz : z = (i : Int)) (hc : s.data.toList[i]? = some c) :
    (Instr.index t (.string s) (.int k z)).run P w = .ok (.int .u8 (c.toNat : Int)) w := by
  subst hz
  exact index_at w t s k i c h hc
theorem below_drewN (w : World) (n : Nat) : Below w.heap.size w (w.drewN n) := ⟨rfl, rfl, rfl, Nat.le_refl _, fun _ _ => rfl⟩
theorem take_snoc (l : List UInt8) (k : Nat) (c : UInt8) (h : l[k]? = some c) : l.take (k + 1) = l.take k ++ [c] := by
  rw [List.take_add_one, h]
  rfl

theorem xor_zero_iff (x y : Nat) : x ^^^ y = 0 ↔ x = y := by
  constructor
  · intro h
    have h1 : (x ^^^ y) ^^^ y = x := by rw [Nat.xor_assoc, Nat.xor_self, Nat.xor_zero]
    rw [h, Nat.zero_xor] at h1
    exact h1.symm
  · rintro rfl
    exact Nat.xor_self _

set_option maxRecDepth 20000 in
set_option maxHeartbeats 1000000 in
theorem equal_any (a b : ByteArray) (_ha : a.size ≤ 9223372036854775807) (hb : b.size ≤ 9223372036854775807) (w : World) :
    Calls Tryz.prog 103 #[.string a, .string b] w fun e w' => e = .returned (.bool (a.toList == b.toList)) ∧ Below w.heap.size w w' := by
  have hal : a.data.toList.length = a.size := (size_eq a).symm
  have hbl : b.data.toList.length = b.size := (size_eq b).symm
  by_cases hs : a.size = b.size
  · have hsI : (a.size : Int) = (b.size : Int) := by omega
    have HE : Hid ((a.toList == b.toList) = decide (a.data.toList = b.data.toList)) := by
      show _ = _
      rw [toList_data, toList_data]
      by_cases h : a.data.toList = b.data.toList
      · rw [decide_eq_true h, h]
        exact beq_self_eq_true _
      · rw [decide_eq_false h]
        exact beq_eq_false_iff_ne.2 h
    go_enter Tryz.func103, Tryz.ntmps103
    go_wp2
    go_loopg [5, 14] a.size (fun gk dv i wr => ∃ k d : Nat, k + gk = a.size ∧ i = .int .i64 k ∧ dv = .int .u8 (d : Int) ∧ d < 256 ∧ (d = 0 ↔ a.data.toList.take k = b.data.toList.take k) ∧ Below w.heap.size w wr)
    case atStart => exact ⟨0, 0, by omega, rfl, rfl, by omega, by simp, Below.refl _ _⟩
    case round =>
      obtain ⟨k, d, hkk, rfl, rfl, hd, hiff, hbel⟩ := hrel
      have HK : Hid (k + gk = a.size) := hkk
      have HI : Hid (d = 0 ↔ a.data.toList.take k = b.data.toList.take k) := hiff
      have hk' : k ≤ a.size := by omega
      clear hkk hiff
      by_cases hlt : k < a.size
      · have hltI : (k : Int) < (a.size : Int) := by omega
        have hltI2 : (k : Int) < (b.size : Int) := by omega
        obtain ⟨x, hx⟩ : ∃ x, a.data.toList[k]? = some x := ⟨_, List.getElem?_eq_getElem (by omega)⟩
        obtain ⟨y, hy⟩ : ∃ y, b.data.toList[k]? = some y := ⟨_, List.getElem?_eq_getElem (by omega)⟩
        have hix := fun W => rindex_at (P := Tryz.prog) W 9 a .i64 (k : Int) k x Tryz.underlying9 rfl hx
        have hiy := fun W => rindex_at (P := Tryz.prog) W 9 b .i64 (k : Int) k y Tryz.underlying9 rfl hy
        have hx8 := x.toNat_lt
        have hy8 := y.toNat_lt
        have hxor := u8_xor_nat x.toNat y.toNat hx8 hy8
        have hxl : x.toNat ^^^ y.toNat < 256 := Nat.xor_lt_two_pow (n := 8) hx8 hy8
        have hor := u8_or_nat d (x.toNat ^^^ y.toNat) hd hxl
        have hol : d ||| (x.toNat ^^^ y.toNat) < 256 := Nat.or_lt_two_pow (n := 8) hd hxl
        have HN : Hid (d ||| (x.toNat ^^^ y.toNat) = 0 ↔ a.data.toList.take (k + 1) = b.data.toList.take (k + 1)) := by
          show _ ↔ _
          rw [take_snoc _ k x hx, take_snoc _ k y hy, Nat.or_eq_zero_iff, xor_zero_iff, HI.out]
          constructor
          · rintro ⟨h1, h2⟩
            rw [h1, UInt8.toNat_inj.1 h2]
          · intro h
            have hl1 : (a.data.toList.take k).length = (b.data.toList.take k).length := by rw [List.length_take, List.length_take]; omega
            obtain ⟨h1, h2⟩ := List.append_inj h hl1
            exact ⟨h1, by rw [List.singleton_inj.1 h2]⟩
        clear hx hy HI hxl
        revert hix hiy hxor hor hol HN hx8 hy8
        generalize d ||| (x.toNat ^^^ y.toNat) = o
        generalize x.toNat ^^^ y.toNat = xx
        generalize x.toNat = xn
        generalize y.toNat = yn
        intro hix hiy hx8 hy8 hxor hor hol HN
        go_wp2_with fail
        go_quiet (fail)
        refine with_world (R := fun W => Exit.inBlock _ _ _ _ W) (Q := fun W => Below w.heap.size w W) _ (hbel.trans ((below_drewN wr nq).mono hbel.size)) ?_
        clear hbel hix hiy
        intro w1 hbel
        go_wp2
        go_roundg (gk - 1)
        case measure => have := HK.out; omega
        case rel => exact ⟨k + 1, o, by have := HK.out; omega, by go_num, rfl, hol, HN.out, hbel⟩
      · obtain rfl : k = a.size := by omega
        have hltI : ¬ ((a.size : Nat) : Int) < (a.size : Int) := by omega
        have HD : Hid (d = 0 ↔ a.data.toList = b.data.toList) := by
          have h := HI.out
          rw [List.take_of_length_le (by omega), List.take_of_length_le (by omega)] at h
          exact h
        clear HI
        have HR : Hid (decide (a.data.toList = b.data.toList) = decide (d = 0)) := by
          show _ = _
          by_cases h : d = 0
          · rw [decide_eq_true h, decide_eq_true (HD.out.1 h)]
          · rw [decide_eq_false h, decide_eq_false (fun h2 => h (HD.out.2 h2))]
        go_wp2
        go_ret
        rw [HE.out, HR.out]
        refine ⟨?_, hbel⟩
        congr 2
        by_cases h : d = 0
        · subst h; rfl
        · have h' : ¬ (d : Int) = 0 := by omega
          simp [h]
  · have hsI : ¬ (a.size : Int) = (b.size : Int) := by omega
    have HE : Hid ((a.toList == b.toList) = false) := by
      show _ = _
      rw [toList_data, toList_data, beq_eq_false_iff_ne]
      intro h
      apply hs
      rw [← hal, ← hbl, h]
    go_enter Tryz.func103, Tryz.ntmps103
    go_wp2
    go_ret
    rw [HE.out]
    exact ⟨rfl, Below.refl _ _⟩

end Go.Proofs.YtengclnahppmhaaGreatDoor

namespace Go.Proofs.YtengclnahppmhaaGreatDoor.Ae
open Go.RowKit Go.Lib Go.Deep

set_option maxRecDepth 20000 in
theorem open_no (key nonce aad box : ByteArray) (hk : key.size ≤ 9223372036854775807) (hn : nonce.size ≤ 9223372036854775807) (h : ¬ (key.size = 32 ∧ (nonce.size = 12 ∨ nonce.size = 24))) (w : World) :
    Calls Tryz.prog 82 #[.string key, .string nonce, .string aad, .string box] w fun e w' => e = .returned (.tuple #[.string { data := #[] }, .int .i64 (askN key nonce)]) ∧ Below w.heap.size w w' := by
  have ha := lockOf_no key nonce hk hn h w
  have h0 : ¬ askN key nonce = 0 := by rcases askN_no h with e | e <;> rw [e] <;> decide
  generalize askN key nonce = x at ha h0 ⊢
  go_enter Tryz.func82, Tryz.ntmps82
  go_wp2_with fail
  refine ha.mono ?_
  rintro e w1 ⟨rfl, hb⟩
  go_wp2
  go_ret2
  exact ⟨rfl, by first | exact hb | exact hb.alloc hb.size _⟩

set_option maxRecDepth 20000 in
theorem open_big (key nonce aad box : ByteArray) (h1 : key.size = 32) (h2 : nonce.size = 12 ∨ nonce.size = 24) (hb : 1048576 < aad.size ∨ 1048592 < box.size) (w : World) (hT : ATabs w) :
    Calls Tryz.prog 82 #[.string key, .string nonce, .string aad, .string box] w fun e w' => e = .returned (.tuple #[.string { data := #[] }, .int .i64 3]) ∧ Below w.heap.size w w' := by
  obtain ⟨yk, yn, hk, hn, ek, en, ha⟩ := lockOf_yes key nonce h1 h2 w hT
  clear ek en
  by_cases hb1 : 1048576 < aad.size
  · have i1 : (1048576 : Int) < (aad.size : Int) := by omega
    go_enter Tryz.func82, Tryz.ntmps82
    go_wp2_with fail
    refine ha.mono ?_
    rintro e w1 ⟨rfl, hb⟩
    go_wp2
    go_ret2
    exact ⟨rfl, by first | exact hb | exact hb.alloc hb.size _⟩
  · have i1 : ¬ (1048576 : Int) < (aad.size : Int) := by omega
    have i2 : (1048592 : Int) < (box.size : Int) := by omega
    go_enter Tryz.func82, Tryz.ntmps82
    go_wp2_with fail
    refine ha.mono ?_
    rintro e w1 ⟨rfl, hb⟩
    go_wp2
    go_ret2
    exact ⟨rfl, by first | exact hb | exact hb.alloc hb.size _⟩

set_option maxRecDepth 20000 in
theorem open_short (key nonce aad box : ByteArray) (h1 : key.size = 32) (h2 : nonce.size = 12 ∨ nonce.size = 24) (h3 : aad.size ≤ 1048576) (h4 : box.size < 16) (w : World) (hT : ATabs w) :
    Calls Tryz.prog 82 #[.string key, .string nonce, .string aad, .string box] w fun e w' => e = .returned (.tuple #[.string { data := #[] }, .int .i64 60]) ∧ Below w.heap.size w w' := by
  obtain ⟨yk, yn, hk, hn, ek, en, ha⟩ := lockOf_yes key nonce h1 h2 w hT
  clear ek en
  have i1 : ¬ (1048576 : Int) < (aad.size : Int) := by omega
  have i2 : ¬ (1048592 : Int) < (box.size : Int) := by omega
  have i3 : (box.size : Int) < 16 := by omega
  go_enter Tryz.func82, Tryz.ntmps82
  go_wp2_with fail
  refine ha.mono ?_
  rintro e w1 ⟨rfl, hb⟩
  go_wp2
  go_ret2
  exact ⟨rfl, by first | exact hb | exact hb.alloc hb.size _⟩

set_option maxRecDepth 20000 in
set_option maxHeartbeats 2000000 in
theorem open_fit (key nonce aad box : ByteArray) (hk : key.size = 32) (hn : nonce.size = 12 ∨ nonce.size = 24) (ha : aad.size ≤ 1048576) (h4 : 16 ≤ box.size) (h5 : box.size ≤ 1048592) (w : World) (hT : ATabs w) :
    Calls Tryz.prog 82 #[.string key, .string nonce, .string aad, .string box] w fun e w' => e = .returned (.tuple #[.string (openY key nonce aad box), .int .i64 (openE key nonce aad box)]) ∧ Below w.heap.size w w' := by
  obtain ⟨yk, yn, hsk, hsn, ek, en, hlo⟩ := lockOf_yes key nonce hk hn w hT
  have i1 : ¬ (1048576 : Int) < (aad.size : Int) := by omega
  have i2 : ¬ (1048592 : Int) < (box.size : Int) := by omega
  have i3 : ¬ (box.size : Int) < 16 := by omega
  have HTT : Hid (∀ W, Below w.heap.size w W → ATabs W) := fun W h => hT.below h
  obtain ⟨n, hnn⟩ : ∃ n, box.size - 16 = n := ⟨_, rfl⟩
  have hbl : box.data.toList.length - 16 = n := by rw [← size_eq]; exact hnn
  obtain ⟨yc, hyc⟩ : ∃ y, box.extract 0 n = y := ⟨_, rfl⟩
  obtain ⟨yt, hyt⟩ : ∃ y, box.extract n (n + 16) = y := ⟨_, rfl⟩
  have hcd : yc.data.toList = box.data.toList.take n := by rw [← hyc, extract_data, List.drop_zero, Nat.sub_zero]
  have htd : yt.data.toList = box.data.toList.drop n := by rw [← hyt, extract_data, List.take_of_length_le (by rw [List.length_drop, ← size_eq]; omega)]
  have hcs : yc.size ≤ 1048576 := by rw [size_eq, hcd, List.length_take]; omega
  have hts : yt.size ≤ 1048576 := by rw [size_eq, htd, List.length_drop]; omega
  have htg := fun W (k1 : ATabs W) => atag_any yk yn aad yc hsk hsn (by omega) (by omega) W k1
  have hxo := fun W (k1 : ATabs W) => turned_any yk yn yc hsk hsn (by omega) W k1
  have hri : right key.data.toList nonce.data.toList aad.data.toList box.data.toList = (tagA yk.data.toList yn.data.toList aad.data.toList yc.data.toList == yt.data.toList) := by
    unfold right
    rw [hbl, ek, en, hcd, htd]
  have hol : openL key.data.toList nonce.data.toList box.data.toList = Cha.overL yk.data.toList 1 yn.data.toList yc.data.toList := by
    unfold openL
    rw [hbl, ek, en, hcd]
  have hE : openE key nonce aad box = if (tagA yk.data.toList yn.data.toList aad.data.toList yc.data.toList == yt.data.toList) then 0 else 61 := by
    unfold openE
    rw [askN_ok hk hn, if_neg (by simp), if_neg (by omega), if_neg (by omega), hri]
  have hY : openY key nonce aad box = if openE key nonce aad box = 0 then str (Cha.overL yk.data.toList 1 yn.data.toList yc.data.toList) else { data := #[] } := by
    unfold openY
    rw [hol]
  clear ek en hcd htd hri hol hbl hT
  have hnI : (box.size : Int) - 16 = (n : Int) := by omega
  have hwn : IntKind.i64.wrap (n : Int) = (n : Int) := by rw [IntKind.wrap_i64]; omega
  have hbs : box.size = n + 16 := by omega
  obtain ⟨yg, hyg⟩ : ∃ y, str (tagA yk.data.toList yn.data.toList aad.data.toList yc.data.toList) = y := ⟨_, rfl⟩
  have hgd : tagA yk.data.toList yn.data.toList aad.data.toList yc.data.toList = yg.data.toList := by rw [← hyg, str_data]
  have hgs : yg.size ≤ 1048576 := by rw [size_eq, ← hgd, tagA_length]; omega
  rw [hyg] at htg
  rw [hgd] at hE
  generalize str (Cha.overL yk.data.toList 1 yn.data.toList yc.data.toList) = yp at hxo hY
  clear hyg hgd
  have heq := fun W => equal_any yg yt (by omega) (by omega) W
  rw [toList_data, toList_data] at heq
  generalize (yg.data.toList == yt.data.toList) = t at hE heq
  have hsl1 : ∀ W, (Instr.slice 9 (.string box) none (some (.int .i64 (n : Int))) none).run Tryz.prog W = .ok (.string yc) W := fun W => by
    have h := run_slice_string_h (P := Tryz.prog) W 9 box Tryz.underlying9 .i64 (n : Int) (by omega) (by omega)
    rw [Int.toNat_natCast, hyc] at h
    exact h
  have hsl2 : ∀ W, (Instr.slice 9 (.string box) (some (.int .i64 (n : Int))) none none).run Tryz.prog W = .ok (.string yt) W := fun W => by
    have h := run_slice_string_l (P := Tryz.prog) W 9 box Tryz.underlying9 .i64 (n : Int) (by omega) (by omega)
    rw [Int.toNat_natCast, hbs, hyt] at h
    exact h
  clear hyc hyt
  cases t with
  | true =>
    rw [if_pos rfl] at hE
    rw [hE, if_pos rfl] at hY
    rw [hE, hY]
    clear hE hY
    go_enter Tryz.func82, Tryz.ntmps82
    go_wp2_with fail
    refine hlo.mono ?_
    rintro e w1 ⟨rfl, hb1⟩
    clear hlo
    have hb2 := hb1.alloc hb1.size (.cells #[.string yk, .string yn] 134)
    have hA : (w1.alloc (.cells #[.string yk, .string yn] 134)).heap[w1.heap.size]? = some (.cells #[.string yk, .string yn] 134 (0, 0)) := heap_new _ _
    go_wp2_with fail
    go_quiet (fail)
    refine with_world (R := fun W => Exit.then _ _ _ _ W) (Q := fun W => W.heap[w1.heap.size]? = some (.cells #[.string yk, .string yn] 134 (0, 0)) ∧ Below w.heap.size w W) _ ⟨hA, hb2.trans ((below_drewN _ nq).mono hb2.size)⟩ ?_
    clear hA hb2 hb1 hsl1 hsl2
    rintro w3 ⟨hA, hb3⟩
    generalize w1.heap.size = g at hA ⊢
    have c0 : w3.cell? ⟨g, 0, none⟩ = some (.string yk) := (cell_of_heap hA).trans rfl
    have c1 : w3.cell? ⟨g, 1, none⟩ = some (.string yn) := (cell_of_heap hA).trans rfl
    have ht1 := htg w3 (HTT.out _ hb3)
    go_wp2_with fail
    refine ht1.mono ?_
    rintro e w4 ⟨rfl, hb4'⟩
    have hA4 := (hb4'.block _ (heap_lt hA)).trans hA
    have hb4 := hb3.trans (hb4'.mono hb3.size)
    clear c0 c1 ht1 htg hA hb3 hb4'
    go_wp2_with fail
    refine (heq w4).mono ?_
    rintro e w5 ⟨rfl, hb5'⟩
    have hA5 := (hb5'.block _ (heap_lt hA4)).trans hA4
    have hb5 := hb4.trans (hb5'.mono hb4.size)
    clear hA4 hb4 hb5' heq
    have c0 : w5.cell? ⟨g, 0, none⟩ = some (.string yk) := (cell_of_heap hA5).trans rfl
    have c1 : w5.cell? ⟨g, 1, none⟩ = some (.string yn) := (cell_of_heap hA5).trans rfl
    have hx1 := hxo w5 (HTT.out _ hb5)
    clear hA5 hxo
    go_wp2_with fail
    refine hx1.mono ?_
    rintro e w6 ⟨rfl, hb6⟩
    have hb := hb5.trans (hb6.mono hb5.size)
    clear hx1 hb6 hb5 c0 c1
    go_wp2
    go_ret2
    exact ⟨rfl, hb⟩
  | false =>
    rw [if_neg (by simp)] at hE
    rw [hE, if_neg (by decide)] at hY
    rw [hE, hY]
    clear hE hY
    go_enter Tryz.func82, Tryz.ntmps82
    go_wp2_with fail
    refine hlo.mono ?_
    rintro e w1 ⟨rfl, hb1⟩
    clear hlo
    have hb2 := hb1.alloc hb1.size (.cells #[.string yk, .string yn] 134)
    have hA : (w1.alloc (.cells #[.string yk, .string yn] 134)).heap[w1.heap.size]? = some (.cells #[.string yk, .string yn] 134 (0, 0)) := heap_new _ _
    go_wp2_with fail
    go_quiet (fail)
    refine with_world (R := fun W => Exit.then _ _ _ _ W) (Q := fun W => W.heap[w1.heap.size]? = some (.cells #[.string yk, .string yn] 134 (0, 0)) ∧ Below w.heap.size w W) _ ⟨hA, hb2.trans ((below_drewN _ nq).mono hb2.size)⟩ ?_
    clear hA hb2 hb1 hsl1 hsl2
    rintro w3 ⟨hA, hb3⟩
    generalize w1.heap.size = g at hA ⊢
    have c0 : w3.cell? ⟨g, 0, none⟩ = some (.string yk) := (cell_of_heap hA).trans rfl
    have c1 : w3.cell? ⟨g, 1, none⟩ = some (.string yn) := (cell_of_heap hA).trans rfl
    have ht1 := htg w3 (HTT.out _ hb3)
    go_wp2_with fail
    refine ht1.mono ?_
    rintro e w4 ⟨rfl, hb4'⟩
    have hA4 := (hb4'.block _ (heap_lt hA)).trans hA
    have hb4 := hb3.trans (hb4'.mono hb3.size)
    clear c0 c1 ht1 htg hA hb3 hb4'
    go_wp2_with fail
    refine (heq w4).mono ?_
    rintro e w5 ⟨rfl, hb5'⟩
    have hA5 := (hb5'.block _ (heap_lt hA4)).trans hA4
    have hb5 := hb4.trans (hb5'.mono hb4.size)
    clear hA4 hb4 hb5' heq
    go_wp2
    go_ret2
    exact ⟨rfl, hb5⟩

theorem openC : OpenC := by
  intro key nonce aad box w hk hn _ _ hT
  by_cases h : key.size = 32 ∧ (nonce.size = 12 ∨ nonce.size = 24)
  · by_cases hb : 1048576 < aad.size ∨ 1048592 < box.size
    · have e : openE key nonce aad box = 3 := by unfold openE; rw [askN_ok h.1 h.2, if_neg (by simp), if_pos hb]
      have y : openY key nonce aad box = { data := #[] } := by unfold openY; rw [e, if_neg (by decide)]
      rw [e, y]
      exact open_big key nonce aad box h.1 h.2 hb w hT
    · by_cases hs : box.size < 16
      · have e : openE key nonce aad box = 60 := by unfold openE; rw [askN_ok h.1 h.2, if_neg (by simp), if_neg hb, if_pos hs]
        have y : openY key nonce aad box = { data := #[] } := by unfold openY; rw [e, if_neg (by decide)]
        rw [e, y]
        exact open_short key nonce aad box h.1 h.2 (by omega) hs w hT
      · exact open_fit key nonce aad box h.1 h.2 (by omega) (by omega) (by omega) w hT
  · have h0 : askN key nonce ≠ 0 := fun e => h ((askN_iff _ _).1 e)
    have e : openE key nonce aad box = askN key nonce := by unfold openE; rw [if_pos h0]
    have y : openY key nonce aad box = { data := #[] } := by unfold openY; rw [e, if_neg h0]
    rw [e, y]
    exact open_no key nonce aad box (by omega) (by omega) h w

end Go.Proofs.YtengclnahppmhaaGreatDoor.Ae
