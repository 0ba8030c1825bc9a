import Derived.Test.YtpoipgmphhfgeabDoorPaOs
import Derived.Test.YtpoipgmphhfgeabDoorPaH
import Derived.Test.YtpoipgmphhfgeabDoorPaI
import Derived.Test.YtpoipgmphhfgeabDoorPaE
namespace Go.Proofs.YtpoipgmphhfgeabDoor.Pa
open Go.RowKit Go.Lib

set_option maxRecDepth 20000 in
set_option maxHeartbeats 2000000 in
theorem anew_any (w : World) (v : Value) (L : List ByteArray) (h1 : See w v L) (hn : L.length ≤ 16) : Calls Tryd.prog 9 #[v] w fun e w' => e = .returned (.bool true) ∧ Below w.heap.size w w' := by
  have HL : Hid (See w v L) := h1
  obtain ⟨a1, k1, rfl, -⟩ := h1
  have hn1 : (([] : List ByteArray).length + L.length) * 16 ≤ 140737488355328 := by simp; omega
  have hn2 : (([] ++ L).length + [str [122]].length) * 16 ≤ 140737488355328 := by simp; omega
  have hn3 : (([] : List ByteArray).length + ([] ++ L ++ [str [122]]).length) * 16 ≤ 140737488355328 := by simp; omega
  have hn4 : ([] ++ L ++ [str [122]]).length ≤ 9223372036854775000 := by simp; omega
  go_enter Tryd.func9, Tryd.ntmps9
  go_wp2_with (first
    | (go_at_call 12; refine (map_any w6 _ v3 v4 _ _ ((((ho3.below hb4).below hb5).below hb6).see) (((ho4.below hb5).below hb6).see) hn4).mono ?_; rintro e w7 ⟨rfl, hb7⟩)
    | (go_at_call 13; refine (inside_any w5 v2 v3 _ _ ((((ho2.below hb3).below hb4).below hb5).see) (((ho3.below hb4).below hb5).see) hn4).mono ?_; rintro e w6 ⟨rfl, hb6⟩)
    | (go_at_call 21; refine (text_any w4 v2 _ (((ho2.below hb3).below hb4).see) hn4).mono ?_; rintro e w5 ⟨rfl, hb5⟩)
    | (at_builtin; refine wpList_app rfl _ _ rfl w3.heap.size _ _ [] ([] ++ L ++ [str [122]]) rfl (Own.nil _ _) rfl ((ho2.below hb3).see) hn3 (Nat.le_refl _) ?_; intro v4 w4 ho4 hb4)
    | (at_builtin; refine wpList_app rfl _ _ rfl w2.heap.size _ _ [] ([] ++ L ++ [str [122]]) rfl (Own.nil _ _) rfl (ho2.see) hn3 (Nat.le_refl _) ?_; intro v3 w3 ho3 hb3)
    | (at_builtin; refine wpList_app rfl _ _ rfl w.heap.size _ _ ([] ++ L) [str [122]] rfl (World.ownsRow.alloc ho1 _) rfl (see_new w1 _ [str [122]] 1 1 rfl rfl (Nat.le_refl _)) hn2 (by have := hb1.size; simp; omega) ?_; intro v2 w2 ho2 hb2)
    | (at_builtin; refine wpList_app rfl _ _ rfl w.heap.size _ _ [] L rfl (Own.nil _ _) rfl HL.out hn1 (Nat.le_refl _) ?_; intro v1 w1 ho1 hb1))
  have hbw2 : Below w.heap.size w w2 := (hb1.alloc hb1.size _).trans hb2
  have h23 := hbw2.trans (hb3.mono hbw2.size)
  have h24 := h23.trans (hb4.mono h23.size)
  have h25 := h24.trans (hb5.mono h24.size)
  have h26 := h25.trans (hb6.mono h25.size)
  have h27 := h26.trans (hb7.mono h26.size)
  have A32 := own_apart ho2 ho3 (Nat.le_refl _)
  have A42 := own_apart (ho2.below hb3) ho4 (Nat.le_refl _)
  have A24 := own_apart' (ho2.below hb3) ho4 (Nat.le_refl _)
  have A34 := own_apart' ho3 ho4 (Nat.le_refl _)
  have HO2 : Hid _ := ((((ho2.below hb3).below hb4).below hb5).below hb6).below hb7
  have HO3 : Hid _ := (((ho3.below hb4).below hb5).below hb6).below hb7
  have HO4 : Hid _ := ((ho4.below hb5).below hb6).below hb7
  obtain ⟨M, hM⟩ : ∃ M, [] ++ L ++ [str [122]] = M := ⟨_, rfl⟩
  have HO2' : Hid (Own w7 w.heap.size v2 M) := by show Own _ _ _ _; rw [← hM]; exact HO2.out
  have HO3' : Hid (Own w7 w2.heap.size v3 M) := by show Own _ _ _ _; rw [← hM]; exact HO3.out
  have HO4' : Hid (Own w7 w3.heap.size v4 M) := by show Own _ _ _ _; rw [← hM]; exact HO4.out
  have hlM : M.length ≤ 17 := by rw [← hM]; simp; omega
  clear HO2 HO3 HO4 ho1 ho2 ho3 ho4 hb1 hb2 hb3 hb4 hb5 hb6 hb7 hn1 hn2 hn3 hn4 HL hM
  have HA32 : Hid _ := A32
  have HA42 : Hid _ := A42
  have HA24 : Hid _ := A24
  have HA34 : Hid _ := A34
  clear A32 A42 A24 A34
  obtain ⟨a2, c2, e2⟩ := HO2'.out.len
  obtain ⟨a4, c4, e4⟩ := HO4'.out.len
  obtain ⟨m, hm⟩ : ∃ m, M.length = m := ⟨_, rfl⟩
  rw [hm] at e2 e4 hlM
  have HM : Hid (M.length = m) := hm
  subst e2 e4
  have H27 : Hid (Below w.heap.size w w7) := h27
  have HB3 : Hid (w.heap.size ≤ w3.heap.size) := h23.size
  clear hm h23 h24 h25 h26 h27 hbw2
  go_loopg [6] m (fun gk iv wr => ∃ k : Nat, k + gk = m ∧ iv = .int .i64 (k : Int) ∧ Hid (Below w.heap.size w wr) ∧ Hid (Own wr w.heap.size (.slice a2 m c2) (ovr { data := #[110] } k M)) ∧ Hid (Own wr w2.heap.size v3 M) ∧ Hid (Own wr w3.heap.size (.slice a4 m c4) (ovr { data := #[109] } k M)))
  case atStart => exact ⟨0, by omega, rfl, H27, HO2', HO3', HO4'⟩
  case round =>
    clear HO2' HO3' HO4' H27
    obtain ⟨k, hk, rfl, HW, H2, H3, H4⟩ := hrel
    have HKG : Hid (k + gk = m) := hk
    have hkn : k ≤ m := by omega
    clear hk
    by_cases hlt : k < m
    · have hltI : (k : Int) < (m : Int) := by omega
      have hkM : k < M.length := by rw [HM.out]; exact hlt
      obtain ⟨g2, x2, e2, hB2, hl2, hc2, hf2, ho2, hg2⟩ := H2.out.set (wr_at _ k M hkM) { data := #[110] }
      rw [wr_set _ k M hkM] at ho2
      injection e2 with e2 q2 e2'
      clear q2
      subst e2 e2'
      have h4a := H4.out.kept hg2 HA42.out
      have h3a := H3.out.kept hg2 HA32.out
      obtain ⟨g4, x4, e4, hB4, hl4, hc4, hf4, ho4, hg4⟩ := h4a.set (wr_at _ k M hkM) { data := #[109] }
      rw [wr_set _ k M hkM] at ho4
      rw [World.frozen?_setCell] at hf4
      injection e4 with e4 q4 e4'
      clear q4
      subst e4 e4'
      have h2b := ho2.kept hg4 HA24.out
      have h3b := h3a.kept hg4 HA34.out
      have hB : w.heap.size ≤ g4 := Nat.le_trans HB3.out hB4
      have HW2 := Below.of_grown hg2 HW.out.size hB2
      have HW3 := HW2.trans (Below.of_grown hg4 (Nat.le_trans HW.out.size HW2.size) hB)
      have R2 : Hid _ := h2b
      have R3 : Hid _ := h3b
      have R4 : Hid _ := ho4
      have RW : Hid (Below w.heap.size w _) := HW.out.trans HW3
      clear h2b h3b ho4 ho2 h4a h3a hg2 hg4 HW2 HW3 H2 H3 H4
      go_wp2
      go_roundg (gk - 1)
      case measure => have := HKG.out; omega
      case rel => exact ⟨k + 1, by have := HKG.out; omega, by go_num, RW, R2, R3, R4⟩
    · obtain rfl : k = m := by omega
      have hltI : ¬ (k : Int) < (k : Int) := by omega
      have S2 : Hid (∀ W, Below wr.heap.size wr W → See W (.slice a2 k c2) (ovr { data := #[110] } k M)) := fun W hb => (H2.out.below hb).see
      have S3 : Hid (∀ W, Below wr.heap.size wr W → See W v3 M) := fun W hb => (H3.out.below hb).see
      have S4 : Hid (∀ W, Below wr.heap.size wr W → See W (.slice a4 k c4) (ovr { data := #[109] } k M)) := fun W hb => (H4.out.below hb).see
      have l2 := wr_len { data := #[110] } k M (by rw [HM.out]; exact Nat.le_refl _)
      have l4 := wr_len { data := #[109] } k M (by rw [HM.out]; exact Nat.le_refl _)
      rw [HM.out] at l2 l4
      have hlMM := HM.out
      generalize ovr { data := #[110] } k M = P2 at S2 l2
      generalize ovr { data := #[109] } k M = P4 at S4 l4
      have HTx : Hid (∀ W v, See W v P2 → Calls Tryd.prog 21 #[v] W fun e w' => e = .returned (.tuple #[.string (textY P2), .int .i64 (fault P2)]) ∧ Below W.heap.size W w') := fun W v hv => text_any W v P2 hv (by omega)
      have HIn : Hid (∀ W v u, See W v P2 → See W u M → Calls Tryd.prog 13 #[v, u] W fun e w' => e = .returned (.bool (decide (P2 <+: M))) ∧ Below W.heap.size W w') := fun W v u hv hu => inside_any W v u P2 M hv hu (by omega)
      have HMp : Hid (∀ W v u, See W v M → See W u P4 → Calls Tryd.prog 12 #[.string { data := #[47, 97, 47, 122] }, v, u] W fun e w' => e = .returned (.tuple #[.string (mapY { data := #[47, 97, 47, 122] } M P4), .int .i64 (mapE { data := #[47, 97, 47, 122] } M P4)]) ∧ Below W.heap.size W w') := fun W v u hv hu => map_any W _ v u M P4 hv hu (by omega)
      have HN2 : Hid ((([] : List ByteArray).length + P2.length) * 16 ≤ 140737488355328) := by show _ ≤ _; rw [l2]; simp; omega
      have HN4 : Hid ((([] : List ByteArray).length + P4.length) * 16 ≤ 140737488355328) := by show _ ≤ _; rw [l4]; simp; omega
      have HNM : Hid ((([] : List ByteArray).length + M.length) * 16 ≤ 140737488355328) := by show _ ≤ _; rw [hlMM]; simp; omega
      generalize textY P2 = Y at HTx
      generalize fault P2 = E at HTx
      generalize decide (P2 <+: M) = D at HIn
      generalize mapY { data := #[47, 97, 47, 122] } M P4 = Z at HMp
      generalize mapE { data := #[47, 97, 47, 122] } M P4 = E2 at HMp
      clear H2 H3 H4 l2 l4 hlMM HA32 HA42 HA24 HA34
      go_wp2_with (first
        | (go_at_call 12; refine (HMp.out w17 x16 x17 ((hox16.below hbw17).see) hox17.see).mono ?_; rintro e w18 ⟨rfl, hbw18⟩; have g18 := g17.trans (hbw18.mono g17.size))
        | (at_builtin; refine wpList_app rfl _ _ rfl w16.heap.size _ _ [] P4 rfl (Own.nil _ _) rfl (S4.out _ g16) HN4.out (Nat.le_refl _) ?_; intro x17 w17 hox17 hbw17; have g17 := g16.trans (hbw17.mono g16.size))
        | (at_builtin; refine wpList_app rfl _ _ rfl w15.heap.size _ _ [] M rfl (Own.nil _ _) rfl (S3.out _ g15) HNM.out (Nat.le_refl _) ?_; intro x16 w16 hox16 hbw16; have g16 := g15.trans (hbw16.mono g15.size))
        | (go_at_call 12; refine (HMp.out w14 _ _ (S3.out _ g14) (S4.out _ g14)).mono ?_; rintro e w15 ⟨rfl, hbw15⟩; have g15 := g14.trans (hbw15.mono g14.size))
        | (go_at_call 13; refine (HIn.out w13 x12 x13 ((hox12.below hbw13).see) hox13.see).mono ?_; rintro e w14 ⟨rfl, hbw14⟩; have g14 := g13.trans (hbw14.mono g13.size))
        | (at_builtin; refine wpList_app rfl _ _ rfl w12.heap.size _ _ [] M rfl (Own.nil _ _) rfl (S3.out _ g12) HNM.out (Nat.le_refl _) ?_; intro x13 w13 hox13 hbw13; have g13 := g12.trans (hbw13.mono g12.size))
        | (at_builtin; refine wpList_app rfl _ _ rfl w11.heap.size _ _ [] P2 rfl (Own.nil _ _) rfl (S2.out _ g11) HN2.out (Nat.le_refl _) ?_; intro x12 w12 hox12 hbw12; have g12 := g11.trans (hbw12.mono g11.size))
        | (go_at_call 13; refine (HIn.out w10 _ _ (S2.out _ g10) (S3.out _ g10)).mono ?_; rintro e w11 ⟨rfl, hbw11⟩; have g11 := g10.trans (hbw11.mono g10.size))
        | (go_at_call 21; refine (HTx.out w9 x9 hox9.see).mono ?_; rintro e w10 ⟨rfl, hbw10⟩; have g10 := g9.trans (hbw10.mono g9.size))
        | (at_builtin; refine wpList_app rfl _ _ rfl w8.heap.size _ _ [] P2 rfl (Own.nil _ _) rfl (S2.out _ g8) HN2.out (Nat.le_refl _) ?_; intro x9 w9 hox9 hbw9; have g9 := g8.trans (hbw9.mono g8.size))
        | (go_at_call 21; refine (HTx.out _ _ (S2.out wr (Below.refl _ _))).mono ?_; rintro e w8 ⟨rfl, g8⟩)
        | (go_at_call 7; refine (num_any _ _).mono ?_; rintro e w4 ⟨rfl, h4⟩; rw [h4]; clear h4 w4))
      go_ret
      exact ⟨rfl, HW.out.trans (g18.mono HW.out.size)⟩
end Go.Proofs.YtpoipgmphhfgeabDoor.Pa
