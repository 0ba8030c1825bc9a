import Derived.Test.YtnfddiabhpandaaGreatDoorTrKf
import Derived.Test.YtnfddiabhpandaaGreatDoorSnM
namespace Go.Proofs.YtnfddiabhpandaaGreatDoor.Tr
open Go.RowKit Go.Lib Go.Deep

/-- the tree of a told state -/
def ldT (f d m : Nat) (T : Ts) : Ts := { entL (newT f d m) (told T) with M := T.M }
theorem fill_any (w : World) (q : Nat) (S : List Nat) (f d m : Nat) (hL : Lay w q S 0 (newT f d m)) (T : Ts) (dp : Nat → Nat) (hv : Inv T dp) (hfr : T.fr = f) (hdr : T.dr = d + 1) (hms : ∀ x ∈ told T, x.size ≤ m) (B : Nat) (a : Option Addr) (len c : Nat) (hlen : len = (told T).length) (hrow : w.ownsRow B 50 5 (.slice a len c) len (ndsc (told T))) (hlb : len ≤ 1000000) :
    Calls Tryz.prog 45 #[.pointer (some ⟨q, 0, none⟩), .slice a len c] w fun e w' => e = .returned (.bool true) ∧ Turn S w w' q 200000 (ldT f d m T) :=
  callsIn_wide.1 (fill_in Fence.wide 3 trivial trivial trivial trivial trivial trivial trivial trivial rfl rfl (Nat.le_refl _) w q S f d m hL T dp hv hfr hdr hms B a len c hlen hrow hlb)
set_option maxRecDepth 20000 in
set_option maxHeartbeats 2000000 in
theorem load_tre (w : World) (f d m : Nat) (hf1 : 1 ≤ f) (hf : f ≤ 65536) (hd : d ≤ 4096) (hm : m ≤ 65536) (T : Ts) (dp : Nat → Nat) (hv : Inv T dp) (hfr : T.fr = f) (hdr : T.dr = d + 1) (hms : ∀ x ∈ told T, x.size ≤ m) (B : Nat) (a : Option Addr) (len c : Nat) (hlen : len = (told T).length) (hrow : w.ownsRow B 50 5 (.slice a len c) len (ndsc (told T))) (hlb : len ≤ 1000000) :
    Calls Tryz.prog 24 #[.agg #[.int .i64 (f : Int), .int .i64 (d : Int), .slice a len c], .int .i64 (m : Int)] w fun e w' => ∃ b q, e = .returned (.tuple #[.pointer (some ⟨b, 0, none⟩), .int .i64 0]) ∧ Hid (Tre w' w.heap.size b q 200000 (ldT f d m T)) ∧ Below w.heap.size w w' := by
  obtain ⟨W, hW, hb, k0⟩ := one_new w #[.int .i64 (f : Int), .int .i64 (d : Int), .slice a len c] 28
  have h1 := isMost_any W m hm
  have h2 := isRoom_any W f d hf1 hf hd
  have h3 := newState_any W f d m hf hd hm
  have HFL : Hid (∀ V q S, Below W.heap.size W V → Lay V q S 0 (newT f d m) → Calls Tryz.prog 45 #[.pointer (some ⟨q, 0, none⟩), .slice a len c] V fun e w' => e = .returned (.bool true) ∧ Turn S V w' q 200000 (ldT f d m T)) := fun V q S hV hl => fill_any V q S f d m hl T dp hv hfr hdr hms B a len c hlen (owns_keep (owns_keep hrow fun g hg => hb.block _ (hrow.lt g hg).2) fun g hg => hV.block _ (Nat.lt_of_lt_of_le (hrow.lt g hg).2 hb.size)) hlb
  have x0 : W.cell? ⟨w.heap.size, 0, none⟩ = some (.int .i64 (f : Int)) := (cell_of_heap k0).trans rfl
  have x1 : W.cell? ⟨w.heap.size, 1, none⟩ = some (.int .i64 (d : Int)) := (cell_of_heap k0).trans rfl
  have HB : Hid (Below w.heap.size w W) := hb
  have HK : Hid (∀ V, Below W.heap.size W V → V.cell? ⟨w.heap.size, 2, none⟩ = some (.slice a len c)) := fun V hV => (cell_of_heap ((hV.block _ (heap_lt k0)).trans k0)).trans rfl
  obtain ⟨Z, hZ⟩ : ∃ Z, ldT f d m T = Z := ⟨_, rfl⟩
  rw [hZ] at HFL ⊢
  clear hv hfr hdr hms hlen hrow hlb hb k0 hZ
  go_enter Tryz.func24, Tryz.ntmps24
  go_wp2_with fail
  refine h1.mono ?_
  rintro e w1 ⟨rfl, hw1⟩
  subst w1
  go_wp2_with fail
  refine h2.mono ?_
  rintro e w1 ⟨rfl, hw1⟩
  subst w1
  go_wp2_with fail
  refine h3.mono ?_
  rintro e w1 ⟨q, rfl, hq, HL, hb1⟩
  obtain ⟨S, hlS, hSk⟩ := HL.out
  have hfl := HFL.out w1 q S hb1 hlS
  have HSK : Hid (∀ k, k ∈ S → W.heap.size ≤ k) := hSk
  have HB1 : Hid _ := hb1
  have x2 := HK.out w1 hb1
  clear hlS hSk HL hb1 h1 h2 h3 x0 x1
  go_wp2_with fail
  refine hfl.mono ?_
  rintro e w2 ⟨rfl, ht2⟩
  have HT2 : Hid _ := ht2
  clear ht2 hfl x2
  go_wp2
  go_ret2
  obtain ⟨ho, F2, hl2, hk2⟩ := HT2.out
  have hbA : Below w2.heap.size w2 (w2.alloc (.cells #[.pointer (some ⟨q, 0, none⟩)] 78)) := (Below.refl _ _).alloc (Nat.le_refl _) _
  have hbw1 : Below w.heap.size w w1 := below_on HB1.out HB.out
  have hb2 : Below w.heap.size w w2 := hbw1.trans ⟨ho.os, ho.tape, ho.output, ho.size, fun k hk => ho.block k (Nat.lt_of_lt_of_le hk hbw1.size) (fun hm => by have := HSK.out k hm; have := HB.out.size; omega)⟩
  refine ⟨w2.heap.size, q, rfl, ⟨heap_new w2 _, hb2.size, F2, hl2.below hbA, fun k hk => ?_⟩, below_on hbA hb2⟩
  rcases hk2 k hk with h9 | h9
  · exact Nat.le_trans HB.out.size (HSK.out k h9)
  · exact Nat.le_trans hbw1.size h9
/-- what is loaded says the same -/
theorem ld_told {T : Ts} {dp : Nat → Nat} (hv : Inv T dp) (f d m : Nat) : told (ldT f d m T) = told T := told_eq (T := T) (U := ldT f d m T) (load_D hv f d m) (load_F f d m)
theorem ld_stay (f d m : Nat) (T : Ts) : (ldT f d m T).fr = f ∧ (ldT f d m T).dr = d + 1 ∧ (ldT f d m T).most = m := by
  obtain ⟨h1, h2, h3, _⟩ := entL_stay (newT f d m) (told T)
  exact ⟨h1, h2, h3⟩

end Go.Proofs.YtnfddiabhpandaaGreatDoor.Tr
