import Derived.Test.YtpoipgmphhfgeabDoorPaNw
import Derived.Test.YtpoipgmphhfgeabDoorPaLo
import Derived.Test.YtpoipgmphhfgeabDoorPaZ
namespace Go.Proofs.YtpoipgmphhfgeabDoor.Pa
open Go.RowKit Go.Lib

def oL : List ByteArray := [str [120], str [121, 46, 122]]
theorem o_parse : parseE { data := #[47, 120, 47, 121, 46, 122] } = 0 ∧ parseY { data := #[47, 120, 47, 121, 46, 122] } = oL := by
  constructor <;> decide +kernel

set_option maxRecDepth 20000 in
set_option maxHeartbeats 4000000 in
theorem own_walk (s : ByteArray) (w : World) : Calls Tryd.prog 3 #[.string s] w fun e w' => e = .returned (.bool true) ∧ Below w.heap.size w w' := by
  have hp := parse_any s
  have hn := (parse_len s).1
  generalize parseE s = E at *
  generalize parseY s = L at *
  have HP : Hid (∀ W, Calls Tryd.prog 6 #[.string s] W fun e w' => (∃ u, e = .returned (.tuple #[u, .int .i64 E]) ∧ Own w' W.heap.size u L) ∧ Below W.heap.size W w') := hp
  have HQ : Hid (∀ W, Calls Tryd.prog 6 #[.string { data := #[47, 120, 47, 121, 46, 122] }] W fun e w' => (∃ u, e = .returned (.tuple #[u, .int .i64 0]) ∧ Own w' W.heap.size u oL) ∧ Below W.heap.size W w') := fun W => by
    have h := parse_any { data := #[47, 120, 47, 121, 46, 122] } W
    rw [o_parse.1, o_parse.2] at h
    exact h
  have HBY : Hid ((([] : List ByteArray).length + L.length) * 16 ≤ 140737488355328) := by show _ ≤ _; simp; omega
  have HN : Hid (L.length ≤ 9223372036854775000) := by show _ ≤ _; omega
  have HN16 : Hid (L.length ≤ 16) := hn
  clear hp
  have HNO : Hid (∀ W : World, See (W.alloc (.cells #[.string { data := #[120] }, .string { data := #[121, 46, 122] }] 9)) (.slice (some ⟨W.heap.size, 0, none⟩) 2 2) oL) := fun W => see_new W _ oL 2 2 rfl rfl (Nat.le_refl _)
  have HOL : Hid (oL.length ≤ 9223372036854775000) := by show _ ≤ _; decide
  generalize oL = O at *
  go_enter Tryd.func3, Tryd.ntmps3
  go_wp2_with (first
    | (go_at_call 6; refine (HQ.out w4).mono ?_; rintro e w5 ⟨⟨u5, rfl, ho5⟩, hb5⟩)
    | (at_builtin; refine wpList_app rfl _ _ rfl w3.heap.size _ _ [] L rfl (Own.nil _ _) rfl ((ho2.below hb3).see) HBY.out (Nat.le_refl _) ?_; intro v4 w4 ho4 hb4)
    | (go_at_call 8; refine (same_any w2 u1 u2 L ((ho1.below hb2).see) ho2.see HN.out).mono ?_; rintro e w3 ⟨rfl, hb3⟩)
    | (go_at_call 6; refine (HP.out w1).mono ?_; rintro e w2 ⟨⟨u2, rfl, ho2⟩, hb2⟩)
    | (go_at_call 6; refine (HP.out w).mono ?_; rintro e w1 ⟨⟨u1, rfl, ho1⟩, hb1⟩)
    | (go_at_call 7; refine (num_any _ _).mono ?_; rintro e w4 ⟨rfl, h4⟩; rw [h4]; clear h4 w4))
  have h12 := hb1.trans (hb2.mono hb1.size)
  have h13 := h12.trans (hb3.mono h12.size)
  have h14 := h13.trans (hb4.mono h13.size)
  have h15 := h14.trans (hb5.mono h14.size)
  have s13 : w1.heap.size ≤ w3.heap.size := Nat.le_trans hb2.size hb3.size
  have A21 := own_apart ho1 ho2 (Nat.le_refl _)
  have A41 := own_apart ho1 ho4 s13
  have A51 := own_apart ho1 ho5 (Nat.le_trans s13 hb4.size)
  have K2 : Hid (∀ W, w5.grownBy W u1.ownBlock → See W u2 L) := fun W hg => (Own.kept (((ho2.below hb3).below hb4).below hb5) hg A21).see
  have K4 : Hid (∀ W, w5.grownBy W u1.ownBlock → See W v4 L) := fun W hg => (Own.kept (ho4.below hb5) hg A41).see
  have K5 : Hid (∀ W, w5.grownBy W u1.ownBlock → See W u5 O) := fun W hg => (Own.kept ho5 hg A51).see
  have HO1 : Hid (Own w5 w.heap.size u1 L) := (((ho1.below hb2).below hb3).below hb4).below hb5
  have H15 : Hid (Below w.heap.size w w5) := h15
  clear A21 A41 A51 ho1 ho2 ho4 ho5 h12 h13 h14 h15 s13 hb1 hb2 hb3 hb4 hb5
  obtain ⟨a1, c1, e1⟩ := HO1.out.len
  obtain ⟨n, hln⟩ : ∃ n, L.length = n := ⟨_, rfl⟩
  rw [hln] at e1 hn
  have HL : Hid (L.length = n) := hln
  subst e1
  clear hln
  go_loopg [10] n (fun gk iv wr => ∃ k : Nat, k + gk = n ∧ iv = .int .i64 (k : Int) ∧ Hid (w5.grownBy wr (Value.slice a1 n c1).ownBlock) ∧ Hid (Own wr w.heap.size (.slice a1 n c1) (ovr { data := #[109, 97, 114, 107] } k L)))
  case atStart => exact ⟨0, by omega, rfl, ⟨rfl, rfl, rfl, Nat.le_refl _, fun _ _ _ => rfl⟩, HO1⟩
  case round =>
    obtain ⟨k, hk, rfl, HW, H1⟩ := hrel
    have HKG : Hid (k + gk = n) := hk
    have hkn : k ≤ n := by omega
    clear hk
    by_cases hlt : k < n
    · have hltI : (k : Int) < (n : Int) := by omega
      have hkL : k < L.length := by rw [HL.out]; exact hlt
      obtain ⟨g1, x1, e1, hB1, hl1, hc1, hf1, ho1, hg1⟩ := H1.out.set (wr_at _ k L hkL) { data := #[109, 97, 114, 107] }
      rw [wr_set _ k L hkL] at ho1
      injection e1 with e1 q1 e1'
      clear q1
      subst e1 e1'
      have R1 : Hid _ := ho1
      have RW : Hid (w5.grownBy _ (Value.slice (some ⟨g1, 0, none⟩) n c1).ownBlock) := grown_trans HW.out hg1 (fun q hq => .inl hq)
      clear ho1 hg1 H1
      go_wp2
      go_roundg (gk - 1)
      case measure => have := HKG.out; omega
      case rel => exact ⟨k + 1, by have := HKG.out; omega, by go_num, RW, R1⟩
    · obtain rfl : k = n := by omega
      have hltI : ¬ (k : Int) < (k : Int) := by omega
      have hall := wr_all { data := #[109, 97, 114, 107] } L HL.out
      rw [hall] at H1
      clear hall HKG
      obtain ⟨W0, hW0⟩ : ∃ W0, W0 = wr := ⟨_, rfl⟩
      rw [← hW0] at HW H1 ⊢
      clear hW0
      have HB0 : Hid (w.heap.size ≤ W0.heap.size) := Nat.le_trans H15.out.size HW.out.size
      obtain ⟨M0, hM0⟩ : ∃ M0, List.replicate k ({ data := #[109, 97, 114, 107] } : ByteArray) = M0 := ⟨_, rfl⟩
      rw [hM0] at H1
      have HMk : Hid (∀ (j : Nat) x, M0[j]? = some x → x = { data := #[109, 97, 114, 107] }) := fun j x hx => by
        rw [← hM0] at hx
        exact (List.mem_replicate.1 (List.mem_of_getElem? hx)).2
      have hM0l : M0.length = k := by rw [← hM0]; simp
      have HML : Hid (M0.length = k) := hM0l
      have HS0 : Hid (Lng W0 w.heap.size (.slice a1 k c1) M0 W0 (.slice a1 k c1) M0) := Lng.start H1.out
      have hz0 : (M0.length + 1) * 16 ≤ 140737488355328 := by rw [hM0l]; omega
      clear hM0 hM0l H1 HL
      go_wp2_with (at_builtin; refine wpList_lng rfl _ _ rfl W0 W0 w.heap.size (.slice a1 k c1) _ M0 M0 _ HS0.out rfl rfl (List.prefix_refl _) HB0.out hz0 ?_; intro v6 w6 hl6)
      have HL6 : Hid (Lng W0 w.heap.size (.slice a1 k c1) M0 w6 v6 (M0 ++ List.replicate 1 { data := #[109, 111, 114, 101] })) := hl6
      clear hl6 HS0 hz0
      go_wp2_with fail
      go_loopg [11, 12] 64 (fun gk gv iv wr => ∃ i : Nat, i + gk = 64 ∧ iv = .int .i64 (i : Int) ∧ Hid (Lng W0 w.heap.size (.slice a1 k c1) M0 wr gv (M0 ++ List.replicate (1 + i) { data := #[109, 111, 114, 101] })))
      case atStart => exact ⟨0, by omega, rfl, HL6⟩
      case round =>
        clear HL6
        obtain ⟨i, hi, rfl, HLi⟩ := hrel
        have HKI : Hid (i + gk = 64) := hi
        have hi64 : i ≤ 64 := by omega
        clear hi
        by_cases hlt : i < 64
        · have hltI : (i : Int) < 64 := by omega
          have hz : ((M0 ++ List.replicate (1 + i) ({ data := #[109, 111, 114, 101] } : ByteArray)).length + 1) * 16 ≤ 140737488355328 := by rw [List.length_append, List.length_replicate, HML.out]; omega
          have HX : Hid (M0 ++ List.replicate (1 + i) ({ data := #[109, 111, 114, 101] } : ByteArray) ++ [{ data := #[109, 111, 114, 101] }] = M0 ++ List.replicate (1 + (i + 1)) { data := #[109, 111, 114, 101] }) := by
            show _ = _
            rw [List.append_assoc, ← List.replicate_succ', Nat.add_assoc]
          obtain ⟨X, hX⟩ : ∃ X, M0 ++ List.replicate (1 + i) ({ data := #[109, 111, 114, 101] } : ByteArray) = X := ⟨_, rfl⟩
          have HPX : Hid (M0 <+: X) := by rw [← hX]; exact List.prefix_append _ _
          rw [hX] at HLi hz HX
          clear hX
          go_wp2_with (at_builtin; refine wpList_lng rfl _ _ rfl W0 wr w.heap.size (.slice a1 k c1) _ M0 X _ HLi.out rfl rfl HPX.out HB0.out hz ?_; intro v7 w7 hl7)
          rw [HX.out] at hl7
          have HL7 : Hid _ := hl7
          clear hl7
          go_roundg (gk - 1)
          case measure => have := HKI.out; omega
          case rel => exact ⟨i + 1, by have := HKI.out; omega, by go_num, HL7⟩
        · obtain rfl : i = 64 := by omega
          have hltI : ¬ ((64 : Nat) : Int) < 64 := by decide
          obtain ⟨X, hX⟩ : ∃ X, M0 ++ List.replicate (1 + 64) ({ data := #[109, 111, 114, 101] } : ByteArray) = X := ⟨_, rfl⟩
          have hXl : X.length = k + 65 := by rw [← hX, List.length_append, List.length_replicate, HML.out]
          have HXM : Hid (∀ (j : Nat), j < k → X[j]? = M0[j]?) := fun j hj => by rw [← hX]; exact List.getElem?_append_left (by rw [HML.out]; exact hj)
          rw [hX] at HLi
          obtain ⟨a7, c7, e7⟩ := HLi.out.new.len
          rw [hXl] at e7
          have HXL : Hid (X.length = k + 65) := hXl
          subst e7
          have HG : Hid (w5.grownBy wr (Value.slice a1 k c1).ownBlock) := grown_trans HW.out HLi.out.frame (fun q hq => .inl hq)
          have HWr : Hid (Below w.heap.size w wr) := H15.out.trans (grown_below HG.out H15.out.size HO1.out)
          have HAo : Hid (Own wr w.heap.size (.slice a1 k c1) M0) := HLi.out.old
          have HGo : Hid (Own wr w.heap.size (.slice a7 (k + 65) c7) X) := HLi.out.new
          clear hX hXl HKI hltI hi64 HW
          go_wp2_with (first
            | (go_at_call 8; refine (same_any w9 u8 v4 L ((ho8.below hb9).see) (K4.out w9 hg9) HN.out).mono ?_; rintro e w10 ⟨rfl, hb10⟩)
            | (go_at_call 8; refine (same_any w8 u2 v4 L (K2.out w8 hg8) (K4.out w8 hg8) HN.out).mono ?_; rintro e w9 ⟨rfl, hb9⟩; have hg9 := grown_trans hg8 (below_grown hb9 none) (fun q hq => by cases hq))
            | (go_at_call 6; refine (HP.out wr).mono ?_; rintro e w8 ⟨⟨u8, rfl, ho8⟩, hb8⟩; have hg8 := grown_trans HG.out (below_grown hb8 none) (fun q hq => by cases hq))
            | (go_at_call 7; refine (num_any _ _).mono ?_; rintro e w4 ⟨rfl, h4⟩; rw [h4]; clear h4 w4))
          have hg10 := grown_trans hg9 (below_grown hb10 none) (fun q hq => by cases hq)
          have b8 := HWr.out.trans (hb8.mono HWr.out.size)
          have b9 := b8.trans (hb9.mono b8.size)
          have b10 := b9.trans (hb10.mono b9.size)
          have HSa : Hid (See w10 (.slice a1 k c1) M0) := (((HAo.out.below hb8).below hb9).below hb10).see
          have HSg : Hid (See w10 (.slice a7 (k + 65) c7) X) := (((HGo.out.below hb8).below hb9).below hb10).see
          have HK4 : Hid (∀ W, Below w10.heap.size w10 W → See W v4 L) := fun W hb => (K4.out w10 hg10).below hb
          have HK5 : Hid (∀ W, Below w10.heap.size w10 W → See W u5 O) := fun W hb => (K5.out w10 hg10).below hb
          have HB10 : Hid (Below w.heap.size w w10) := b10
          clear hg8 hg9 hg10 b8 b9 b10 HG HAo HGo HLi HWr K2 K4 K5 HP HQ hb8 hb9 hb10 ho8 HO1 H15
          go_loopg [15] k (fun gk iv wr => ∃ j : Nat, j + gk = k ∧ iv = .int .i64 (j : Int) ∧ wr = w10)
          case atStart => exact ⟨0, by omega, rfl, rfl⟩
          case round =>
            obtain ⟨j, hj, rfl, rfl⟩ := hrel
            have HKJ : Hid (j + gk = k) := hj
            have hjk : j ≤ k := by omega
            clear hj
            by_cases hlt3 : j < k
            · have hltI : (j : Int) < (k : Int) := by omega
              have hltG : (j : Int) < ((k + 65 : Nat) : Int) := by omega
              obtain ⟨x, hx⟩ : ∃ x, M0[j]? = some x := ⟨_, List.getElem?_eq_getElem (by rw [HML.out]; exact hlt3)⟩
              obtain rfl := HMk.out j x hx
              have hx2 : X[j]? = some { data := #[109, 97, 114, 107] } := (HXM.out j hlt3).trans hx
              obtain ⟨b1, o1, rfl, d1⟩ := HSa.out.cell hx
              obtain ⟨b2, o2, rfl, d2⟩ := HSg.out.cell hx2
              clear hx hx2
              go_wp2
              go_roundg (gk - 1)
              case measure => have := HKJ.out; omega
              case rel => exact ⟨j + 1, by have := HKJ.out; omega, by go_num, rfl⟩
            · obtain rfl : j = k := by omega
              have hltI : ¬ (j : Int) < (j : Int) := by omega
              clear HKJ HSa HSg HXM HML HMk HXL
              have hAl := (Below.refl wr.heap.size wr).alloc (Nat.le_refl _) (.cells #[.string { data := #[120] }, .string { data := #[121, 46, 122] }] 9)
              have HAl : Hid _ := hAl
              clear hAl
              go_wp2_with (first
                | (go_at_call 10; refine (works_any w12).mono ?_; rintro e w13 ⟨rfl, hb13⟩)
                | (go_at_call 9; refine (anew_any w11 v4 L (HK4.out w11 g11) HN16.out).mono ?_; rintro e w12 ⟨rfl, hb12⟩)
                | (go_at_call 8; refine (same_any _ u5 _ O (HK5.out _ HAl.out) (HNO.out wr) HOL.out).mono ?_; rintro e w11 ⟨rfl, hb11⟩; have g11 := HAl.out.trans (hb11.mono HAl.out.size)))
              go_ret
              have q11 := HB10.out.trans (g11.mono HB10.out.size)
              exact ⟨rfl, q11.trans ((hb12.trans (hb13.mono hb12.size)).mono q11.size)⟩
end Go.Proofs.YtpoipgmphhfgeabDoor.Pa
