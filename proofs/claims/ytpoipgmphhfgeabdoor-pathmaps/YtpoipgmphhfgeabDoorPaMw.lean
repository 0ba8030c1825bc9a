import Derived.Test.YtpoipgmphhfgeabDoorPaO
import Derived.Test.YtpoipgmphhfgeabDoorPaM
import Derived.Test.YtpoipgmphhfgeabDoorPaRm
import Derived.Test.YtpoipgmphhfgeabDoorPaE
import Derived.Deep.RegionHeldLaw
namespace Go.Proofs.YtpoipgmphhfgeabDoor.Pa
open Go.RowKit Go.Lib

set_option maxRecDepth 20000 in
set_option maxHeartbeats 1000000 in
theorem maps_walk (w : World) (s : ByteArray) (v u : Value) (P Q : List ByteArray) (h1 : See w v P) (h2 : See w u Q) (hn : P.length ≤ 8796093022000) (hn2 : Q.length ≤ 8796093022000) : Calls Tryd.prog 5 #[.string s, v, u] w fun e w' => e = .returned (.bool true) ∧ Below w.heap.size w w' := by
  obtain ⟨M, hM⟩ : ∃ M, P ++ marks = M := ⟨_, rfl⟩
  obtain ⟨N, hN⟩ : ∃ N, Q ++ marks = N := ⟨_, rfl⟩
  have HRA : Hid (RoomC w v M) := roomC h1 hn hM
  have HRB : Hid (RoomC w u N) := roomC h2 hn2 hN
  have HI : Hid (∀ W, Below w.heap.size w W → Calls Tryd.prog 15 #[.string s, v, u] W fun e w' => e = .returned (.tuple #[.string (mapY s P Q), .int .i64 (mapE s P Q)]) ∧ Below W.heap.size W w') := fun W hb => rmap_any W s v u P Q (h1.below hb) (h2.below hb) (by omega)
  have HM : Hid (P ++ marks = M) := hM
  have HN : Hid (Q ++ marks = N) := hN
  have HP : Hid (P.length ≤ 8796093022000) := hn
  have HQ : Hid (Q.length ≤ 8796093022000) := hn2
  obtain ⟨a1, k1, rfl, -⟩ := h1
  obtain ⟨a2, k2, rfl, -⟩ := h2
  obtain ⟨n, hln⟩ : ∃ n, P.length = n := ⟨_, rfl⟩
  obtain ⟨m, hlm⟩ : ∃ m, Q.length = m := ⟨_, rfl⟩
  rw [hln] at HRA HI hn ⊢
  rw [hlm] at HRB HI hn2 ⊢
  have HLN : Hid (P.length = n) := hln
  have HLM : Hid (Q.length = m) := hlm
  clear hM hN hln hlm
  go_enter Tryd.func5, Tryd.ntmps5
  go_wp2_with fail
  refine (HRA.out _ (Below.refl _ _)).mono ?_
  rintro e w1 ⟨⟨v1, rfl, ho1⟩, hb1⟩
  go_wp2_with fail
  refine (HRB.out _ hb1).mono ?_
  rintro e w2 ⟨⟨v2, rfl, ho2⟩, hb2⟩
  have hb12 := hb1.trans (hb2.mono hb1.size)
  have HO1 : Hid (Own w2 w.heap.size v1 M) := ho1.below hb2
  have HO2 : Hid (Own w2 w1.heap.size v2 N) := ho2
  have HS1 : Hid (SameC w2 v1 M) := sameC HO1.out.see HP.out HM.out
  have HS2 : Hid (SameC w2 v2 N) := sameC HO2.out.see HQ.out HN.out
  obtain ⟨g1, c1, m1, rfl, hm1, hc1, hs1⟩ := HO1.out.head' HM.out
  obtain ⟨g2, c2, m2, rfl, hm2, hc2, hs2⟩ := HO2.out.head' HN.out
  have HIN : Hid (∀ W, Below w2.heap.size w2 W → Calls Tryd.prog 12 #[.string s, .slice (some g1) P.length c1, .slice (some g2) Q.length c2] W fun e w' => e = .returned (.tuple #[.string (mapY s P Q), .int .i64 (mapE s P Q)]) ∧ Below W.heap.size W w') := fun W hb => map_any W s _ _ P Q (hs1.below hb) (hs2.below hb) (by have := HP.out; omega)
  rw [HLN.out] at HIN hm1
  rw [HLM.out] at HIN hm2
  subst hm1 hm2
  have hnc1 : (n : Int) ≤ (c1 : Int) := by omega
  have hnc2 : (m : Int) ≤ (c2 : Int) := by omega
  clear hs1 hs2 ho1 ho2
  generalize mapY s P Q = Y at HI HIN
  generalize mapE s P Q = E at HI HIN
  go_wp2_with fail
  go_region_held_law (fun _ => True) (first | exact trivial | go_keep) (first | (go_at_call 12; refine (HIN.out _ (bdN _ _)).mono ?_; rintro e w3 ⟨rfl, hb3⟩))
  refine with_world w3 (Q := fun W => Below w2.heap.size w2 W) (Below.trans (bdN w2 1) (hb3.mono (bdN w2 1).size)) ?_
  intro w4 hb4
  have hb14 := hb12.trans (hb4.mono hb12.size)
  go_wp2_with fail
  refine (HI.out _ hb14).mono ?_
  rintro e w5 ⟨rfl, hb5⟩
  have h25 := hb4.trans (hb5.mono hb4.size)
  have h15 := hb14.trans (hb5.mono hb14.size)
  clear HI HIN
  go_wp2_with (go_at_call 7; refine (num_any _ _).mono ?_; rintro e w4 ⟨rfl, h4⟩; rw [h4]; clear h4 w4)
  refine (HRA.out _ h15).mono ?_
  rintro e w6 ⟨⟨u6, rfl, ho6⟩, hb6⟩
  have h26 := h25.trans (hb6.mono h25.size)
  have h16 := h15.trans (hb6.mono h15.size)
  go_wp2_with fail
  refine (HS1.out _ _ h26 ho6.see).mono ?_
  rintro e w7 ⟨rfl, hb7⟩
  have h27 := h26.trans (hb7.mono h26.size)
  have h17 := h16.trans (hb7.mono h16.size)
  go_wp2_with fail
  refine (HRB.out _ h17).mono ?_
  rintro e w8 ⟨⟨u8, rfl, ho8⟩, hb8⟩
  have h28 := h27.trans (hb8.mono h27.size)
  have h18 := h17.trans (hb8.mono h17.size)
  go_wp2_with fail
  refine (HS2.out _ _ h28 ho8.see).mono ?_
  rintro e w9 ⟨rfl, hb9⟩
  have h19 := h18.trans (hb9.mono h18.size)
  go_wp2_with fail
  go_ret
  exact ⟨rfl, h19⟩
end Go.Proofs.YtpoipgmphhfgeabDoor.Pa
