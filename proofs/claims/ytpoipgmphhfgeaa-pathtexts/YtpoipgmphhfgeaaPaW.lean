import Derived.Test.YtpoipgmphhfgeaaPaU
import Derived.Test.YtpoipgmphhfgeaaPaI
import Derived.Test.YtpoipgmphhfgeaaPaJ
import Derived.Test.YtpoipgmphhfgeaaPaM
import Derived.Test.YtpoipgmphhfgeaaPaE
namespace Go.Proofs.Ytpoipgmphhfgeaa.Pa
open Go.RowKit Go.Lib

theorem room_take (L : List ByteArray) : (L ++ marks).take L.length = L := by simp
/-- a list with marks behind it, as it is handed on -/
theorem Own.head {w : World} {B : Nat} {v : Value} {L : List ByteArray} (h : Own w B v (L ++ marks)) : ∃ g c n, v = .slice (some g) n c ∧ n = L.length + 3 ∧ n ≤ c ∧ See w (.slice (some g) L.length c) L := by
  have hs := h.see
  obtain ⟨a, c, rfl, hc, h3, h4⟩ := hs
  obtain ⟨b, off, rfl, _⟩ := h4 (by simp [marks])
  have h5 := (h.see).take (n := L.length) (by simp)
  rw [room_take] at h5
  exact ⟨_, c, _, rfl, by simp [marks], hc, h5⟩

theorem Own.head' {w : World} {B : Nat} {v : Value} {L M : List ByteArray} (h : Own w B v M) (hM : L ++ marks = M) : ∃ g c n, v = .slice (some g) n c ∧ n = L.length + 3 ∧ n ≤ c ∧ See w (.slice (some g) L.length c) L := by
  subst hM
  exact h.head
/-- what roomy answers, at any world behind -/
def RoomC (w : World) (v : Value) (M : List ByteArray) : Prop := ∀ W, Below w.heap.size w W → Calls Try.prog 9 #[v] W fun e w' => (∃ u, e = .returned u ∧ Own w' W.heap.size u M) ∧ Below W.heap.size W w'
theorem roomC {w : World} {v : Value} {L M : List ByteArray} (h : See w v L) (hn : L.length ≤ 8796093022000) (hM : L ++ marks = M) : RoomC w v M := fun W hb => by
  subst hM
  exact roomy_any W v L (h.below hb) hn
def SameC (w : World) (u : Value) (M : List ByteArray) : Prop := ∀ W v, Below w.heap.size w W → See W v M → Calls Try.prog 12 #[u, v] W fun e w' => e = .returned (.bool true) ∧ Below W.heap.size W w'
theorem sameC {w : World} {u : Value} {L M : List ByteArray} (h : See w u M) (hn : L.length ≤ 8796093022000) (hM : L ++ marks = M) : SameC w u M := fun W v hb hv => by
  subst hM
  exact same_any W u v _ (h.below hb) hv (by simp [marks]; omega)

set_option maxRecDepth 20000 in
set_option maxHeartbeats 1000000 in
theorem texts_walk (w : World) (v : Value) (L : List ByteArray) (h1 : See w v L) (hn : L.length ≤ 8796093022000) : Calls Try.prog 5 #[v] w fun e w' => e = .returned (.bool true) ∧ Below w.heap.size w w' := by
  obtain ⟨M, hM⟩ : ∃ M, L ++ marks = M := ⟨_, rfl⟩
  have HR : Hid (RoomC w v M) := roomC h1 hn hM
  have HT : Hid (∀ W, Below w.heap.size w W → Calls Try.prog 14 #[v] W fun e w' => e = .returned (.tuple #[.string (textY L), .int .i64 (fault L)]) ∧ Below W.heap.size W w') := fun W hb => rtext_any W _ L (h1.below hb) (by omega)
  obtain ⟨a1, k1, rfl, -⟩ := h1
  have HM : Hid (L ++ marks = M) := hM
  have HN : Hid (L.length ≤ 8796093022000) := hn
  obtain ⟨n, hln⟩ : ∃ n, L.length = n := ⟨_, rfl⟩
  rw [hln] at HR HT hn ⊢
  have HL : Hid (L.length = n) := hln
  clear hM hln
  go_enter Try.func5, Try.ntmps5
  go_wp2_with fail
  refine (HR.out _ (Below.refl _ _)).mono ?_
  rintro e w1 ⟨⟨u, rfl, ho⟩, hb1⟩
  have HO : Hid (Own w1 w.heap.size u M) := ho
  have HS : Hid (SameC w1 u M) := sameC ho.see HN.out HM.out
  obtain ⟨g, c, m, rfl, hm, hmc, hs⟩ := HO.out.head' HM.out
  have ht := text_any w1 _ L hs (by have := HN.out; omega)
  rw [HL.out] at ht hm
  subst hm
  have hnc : (n : Int) ≤ (c : Int) := by omega
  clear hs ho
  generalize textY L = Y at HT ht
  generalize fault L = E at HT ht
  go_wp2_with fail
  refine ht.mono ?_
  rintro e w2 ⟨rfl, hb2⟩
  have hb12 := hb1.trans (hb2.mono hb1.size)
  go_wp2_with fail
  refine (HT.out _ hb12).mono ?_
  rintro e w3 ⟨rfl, hb3⟩
  have hb13 := hb12.trans (hb3.mono hb12.size)
  have h23 := hb2.trans (hb3.mono hb2.size)
  clear HT ht
  go_wp2_with fail
  refine (num_any _ _).mono ?_
  rintro e w4 ⟨rfl, rfl⟩
  go_wp2_with fail
  refine (HR.out _ hb13).mono ?_
  rintro e w5 ⟨⟨u2, rfl, ho2⟩, hb5⟩
  have h35 := h23.trans (hb5.mono h23.size)
  go_wp2_with fail
  refine (HS.out _ _ h35 ho2.see).mono ?_
  rintro e w6 ⟨rfl, hb6⟩
  have h16 := hb13.trans ((hb5.trans (hb6.mono hb5.size)).mono hb13.size)
  go_wp2_with fail
  go_ret
  exact ⟨rfl, h16⟩

set_option maxRecDepth 20000 in
set_option maxHeartbeats 1000000 in
theorem inside_walk (w : World) (v u : Value) (P Q : List ByteArray) (h1 : See w v P) (h2 : See w u Q) (hn : P.length ≤ 8796093022000) (hn2 : Q.length ≤ 8796093022000) : Calls Try.prog 4 #[v, u] w fun e w' => e = .returned (.bool true) ∧ Below w.heap.size w w' := by
  obtain ⟨M, hM⟩ : ∃ M, P ++ marks = M := ⟨_, rfl⟩
  obtain ⟨N, hN⟩ : ∃ N, Q ++ marks = N := ⟨_, rfl⟩
  have HRA : Hid (RoomC w v M) := roomC h1 hn hM
  have HRB : Hid (RoomC w u N) := roomC h2 hn2 hN
  have HI : Hid (∀ W, Below w.heap.size w W → Calls Try.prog 11 #[v, u] W fun e w' => e = .returned (.bool (decide (P <+: Q))) ∧ Below W.heap.size W w') := fun W hb => rinside_any W v u P Q (h1.below hb) (h2.below hb) (by omega)
  have HM : Hid (P ++ marks = M) := hM
  have HN : Hid (Q ++ marks = N) := hN
  have HP : Hid (P.length ≤ 8796093022000) := hn
  have HQ : Hid (Q.length ≤ 8796093022000) := hn2
  obtain ⟨a1, k1, rfl, -⟩ := h1
  obtain ⟨a2, k2, rfl, -⟩ := h2
  obtain ⟨n, hln⟩ : ∃ n, P.length = n := ⟨_, rfl⟩
  obtain ⟨m, hlm⟩ : ∃ m, Q.length = m := ⟨_, rfl⟩
  rw [hln] at HRA HI hn ⊢
  rw [hlm] at HRB HI hn2 ⊢
  have HLN : Hid (P.length = n) := hln
  have HLM : Hid (Q.length = m) := hlm
  clear hM hN hln hlm
  go_enter Try.func4, Try.ntmps4
  go_wp2_with fail
  refine (HRA.out _ (Below.refl _ _)).mono ?_
  rintro e w1 ⟨⟨v1, rfl, ho1⟩, hb1⟩
  go_wp2_with fail
  refine (HRB.out _ hb1).mono ?_
  rintro e w2 ⟨⟨v2, rfl, ho2⟩, hb2⟩
  have hb12 := hb1.trans (hb2.mono hb1.size)
  have HO1 : Hid (Own w2 w.heap.size v1 M) := ho1.below hb2
  have HO2 : Hid (Own w2 w1.heap.size v2 N) := ho2
  have HS1 : Hid (SameC w2 v1 M) := sameC HO1.out.see HP.out HM.out
  have HS2 : Hid (SameC w2 v2 N) := sameC HO2.out.see HQ.out HN.out
  obtain ⟨g1, c1, m1, rfl, hm1, hc1, hs1⟩ := HO1.out.head' HM.out
  obtain ⟨g2, c2, m2, rfl, hm2, hc2, hs2⟩ := HO2.out.head' HN.out
  have HIN : Hid (∀ W, Below w2.heap.size w2 W → Calls Try.prog 10 #[.slice (some g1) P.length c1, .slice (some g2) Q.length c2] W fun e w' => e = .returned (.bool (decide (P <+: Q))) ∧ Below W.heap.size W w') := fun W hb => inside_any W _ _ P Q (hs1.below hb) (hs2.below hb) (by have := HP.out; omega)
  rw [HLN.out] at HIN hm1
  rw [HLM.out] at HIN hm2
  subst hm1 hm2
  have hnc1 : (n : Int) ≤ (c1 : Int) := by omega
  have hnc2 : (m : Int) ≤ (c2 : Int) := by omega
  clear hs1 hs2 ho1 ho2
  generalize decide (P <+: Q) = R at HI HIN
  go_wp2_with fail
  go_region_held_law (fun _ => True) (first | exact trivial | go_keep) (first | (go_at_call 10; refine (HIN.out _ (bdN _ _)).mono ?_; rintro e w3 ⟨rfl, hb3⟩))
  refine with_world w3 (Q := fun W => Below w2.heap.size w2 W) (Below.trans (bdN w2 1) (hb3.mono (bdN w2 1).size)) ?_
  intro w4 hb4
  have hb14 := hb12.trans (hb4.mono hb12.size)
  go_wp2_with fail
  refine (HI.out _ hb14).mono ?_
  rintro e w5 ⟨rfl, hb5⟩
  have h25 := hb4.trans (hb5.mono hb4.size)
  have h15 := hb14.trans (hb5.mono hb14.size)
  clear HI HIN
  go_wp2_with fail
  refine (HRA.out _ h15).mono ?_
  rintro e w6 ⟨⟨u6, rfl, ho6⟩, hb6⟩
  have h26 := h25.trans (hb6.mono h25.size)
  have h16 := h15.trans (hb6.mono h15.size)
  go_wp2_with fail
  refine (HS1.out _ _ h26 ho6.see).mono ?_
  rintro e w7 ⟨rfl, hb7⟩
  have h27 := h26.trans (hb7.mono h26.size)
  have h17 := h16.trans (hb7.mono h16.size)
  go_wp2_with fail
  refine (HRB.out _ h17).mono ?_
  rintro e w8 ⟨⟨u8, rfl, ho8⟩, hb8⟩
  have h28 := h27.trans (hb8.mono h27.size)
  have h18 := h17.trans (hb8.mono h17.size)
  go_wp2_with fail
  refine (HS2.out _ _ h28 ho8.see).mono ?_
  rintro e w9 ⟨rfl, hb9⟩
  have h19 := h18.trans (hb9.mono h18.size)
  go_wp2_with fail
  go_ret
  exact ⟨rfl, h19⟩
end Go.Proofs.Ytpoipgmphhfgeaa.Pa
