import Derived.Test.YtengclnahppmhaaGreatDoorSrE
namespace Go.Proofs.YtengclnahppmhaaGreatDoor.Sr
open Go.RowKit Go.Lib Go.Deep

/-- a script that can be read -/
structure SeeO (w : World) (a : Option Addr) (os : List Stp) : Prop where
  ex : ∀ (k : Nat) (o : Stp), os[k]? = some o → ∃ bb off, a = some ⟨bb, off, none⟩ ∧ bb < w.heap.size ∧ ∀ j, j < 8 → w.cell? ⟨bb, off + (k * 8 + j), none⟩ = (stpA o)[j]?
theorem SeeO.below {w w' : World} {a : Option Addr} {os : List Stp} (h : SeeO w a os) (hb : Below w.heap.size w w') : SeeO w' a os := ⟨fun k o ho => by
  obtain ⟨bb, off, h1, h2, h3⟩ := h.ex k o ho
  exact ⟨bb, off, h1, Nat.lt_of_lt_of_le h2 hb.size, fun j hj => (hb.cell (p := ⟨bb, off + (k * 8 + j), none⟩) h2).trans (h3 j hj)⟩⟩
def okO (o : Stp) : Prop := w64 o.use ∧ w64 o.at_ ∧ w64 o.by_ ∧ o.name.size ≤ 1048576 ∧ o.text.size ≤ 1048576 ∧ o.coins.size ≤ 1048576

theorem newReal_no (M : ByteArray) (hM : M.size ≠ 32) (w : World) : Calls Tryz.prog 10 #[.string M] w fun e w' => e = .returned (.tuple #[.pointer none, .int .i64 40]) ∧ w' = w := by
  have hM' : ¬ (M.size : Int) = 32 := by omega
  go_enter Tryz.func10, Tryz.ntmps10
  go_wp2
  go_ret2
  exact ⟨rfl, rfl⟩

theorem Iv.wl {w1 w : World} {pb : Nat} {sp rp : Option Addr} {n : Nat} (h : Iv w1 w pb sp rp n) : ∃ bv, Wl w pb sp rp bv := by
  obtain ⟨a, cap, xs, h1, _⟩ := h.ex
  exact ⟨_, h1⟩
theorem Iv.bel {w1 w : World} {pb : Nat} {sp rp : Option Addr} {n : Nat} (h : Iv w1 w pb sp rp n) : Below w1.heap.size w1 w := by
  obtain ⟨a, cap, xs, _, _, _, _, h5, _⟩ := h.ex
  exact h5

set_option maxRecDepth 50000 in
set_option maxHeartbeats 4000000 in
theorem play_any (pb : Nat) (sp rp : Option Addr) (A : Ans) (w1 w : World) (a : Option Addr) (len cap : Nat) (os : List Stp) (hI : Iv w1 w pb sp rp 0) (h2 : Two w1 sp rp A) (hl : os.length = len) (hlen : len ≤ 1048576) (hS : SeeO w1 a os) (hok : ∀ o ∈ os, okO o) :
    Calls Tryz.prog 9 #[.pointer (some ⟨pb, 0, none⟩), .slice a len cap] w fun e w' => e = .returned (.bool true) ∧ Below w1.heap.size w1 w' := by
  have HL : Hid (os.length = len) := hl
  have HS : Hid (SeeO w1 a os) := hS
  have HOK : Hid (∀ o ∈ os, okO o) := hok
  have H2 : Hid (Two w1 sp rp A) := h2
  have HI0 : Hid (Iv w1 w pb sp rp 0) := hI
  have HR : Hid (∀ (W : World) (m : Nat), Iv w1 W pb sp rp m → Calls Tryz.prog 16 #[.pointer (some ⟨pb, 5, none⟩)] W fun e w' => e = .returned (.bool true) ∧ w' = W) := fun W m h => by
    obtain ⟨bv, h1⟩ := h.wl
    exact right_any pb sp rp bv W h1
  have HLA : Hid (∀ (W : World) (m : Nat), Iv w1 W pb sp rp m → Calls Tryz.prog 17 #[.pointer (some ⟨pb, 5, none⟩)] W fun e w' => e = .returned (.bool true) ∧ w' = W) := fun W m h => by
    obtain ⟨bv, h1⟩ := h.wl
    exact last_any pb sp rp bv W h1
  clear hl hS hok h2 hI
  go_enter Tryz.func9, Tryz.ntmps9
  go_wp2_with fail
  go_loopg [5] len (fun gk iv wr => ∃ k m : Nat, k + gk = len ∧ iv = .int .i64 (k : Int) ∧ m ≤ k ∧ Hid (Iv w1 wr pb sp rp m))
  case atStart => exact ⟨0, 0, by omega, rfl, Nat.le_refl _, HI0⟩
  case round =>
    obtain ⟨k, m, hk, rfl, hmk, HI⟩ := hrel
    have HK : Hid (k + gk = len) := hk
    have hkn : k ≤ len := by omega
    clear hk HI0
    by_cases hlt : k < len
    · have hltI : (k : Int) < (len : Int) := by omega
      obtain ⟨o, ho⟩ : ∃ o, os[k]? = some o := ⟨_, List.getElem?_eq_getElem (by have := HL.out; omega)⟩
      obtain ⟨bb, off, rfl, hbb, hcl⟩ := (HS.out.below HI.out.bel).ex k o ho
      obtain ⟨q1, q2, q3, q4, q5, q6⟩ := HOK.out o (List.mem_of_getElem? ho)
      have hst := step_any o pb sp rp m A w1 wr HI.out H2.out (by omega) q1 q2 q3 q4 q5 q6
      obtain ⟨oc, on, onm, ot, oco, ou, oa, ob⟩ := o
      unfold stpA at hst hcl
      dsimp only at hst hcl
      have c0 : wr.cell? ⟨bb, off + k * 8, none⟩ = some (.int .i64 oc) := hcl 0 (by omega)
      have c1 : wr.cell? ⟨bb, off + k * 8 + 1, none⟩ = some (.int .i64 on) := by rw [Nat.add_assoc]; exact hcl 1 (by omega)
      have c2 : wr.cell? ⟨bb, off + k * 8 + 2, none⟩ = some (.string onm) := by rw [Nat.add_assoc]; exact hcl 2 (by omega)
      have c3 : wr.cell? ⟨bb, off + k * 8 + 3, none⟩ = some (.string ot) := by rw [Nat.add_assoc]; exact hcl 3 (by omega)
      have c4 : wr.cell? ⟨bb, off + k * 8 + 4, none⟩ = some (.string oco) := by rw [Nat.add_assoc]; exact hcl 4 (by omega)
      have c5 : wr.cell? ⟨bb, off + k * 8 + 5, none⟩ = some (.int .i64 ou) := by rw [Nat.add_assoc]; exact hcl 5 (by omega)
      have c6 : wr.cell? ⟨bb, off + k * 8 + 6, none⟩ = some (.int .i64 oa) := by rw [Nat.add_assoc]; exact hcl 6 (by omega)
      have c7 : wr.cell? ⟨bb, off + k * 8 + 7, none⟩ = some (.int .i64 ob) := by rw [Nat.add_assoc]; exact hcl 7 (by omega)
      clear ho hcl q1 q2 q3 q4 q5 q6 hbb
      go_wp2_with fail
      refine hst.mono ?_
      rintro e w5 ⟨rfl, h5⟩
      obtain ⟨m', hm', HI5⟩ : ∃ m' : Nat, m' ≤ k + 1 ∧ Hid (Iv w1 w5 pb sp rp m') := by
        rcases h5 with h5 | h5
        · exact ⟨m, by omega, h5⟩
        · exact ⟨m + 1, by omega, h5⟩
      clear h5 hst c0 c1 c2 c3 c4 c5 c6 c7
      go_wp2_with fail
      refine (HR.out _ m' HI5.out).mono ?_
      rintro e w6 ⟨rfl, hw6⟩
      obtain rfl := hw6.symm
      go_wp2
      go_roundg (gk - 1)
      case measure => have := HK.out; omega
      case rel => exact ⟨k + 1, m', by have := HK.out; omega, by go_num, hm', HI5⟩
    · obtain rfl : k = len := by omega
      have hltI : ¬ (k : Int) < (k : Int) := by omega
      go_wp2_with fail
      refine (HLA.out _ m HI.out).mono ?_
      rintro e w6 ⟨rfl, hw6⟩
      obtain rfl := hw6.symm
      go_wp2
      go_ret
      exact ⟨rfl, HI.out.bel⟩

set_option maxRecDepth 50000 in
set_option maxHeartbeats 4000000 in
theorem reals_walk (M : ByteArray) (a : Option Addr) (len cap : Nat) (os : List Stp) (w : World) (hl : os.length = len) (hlen : len ≤ 1048576) (hS : SeeO w a os) (hok : ∀ o ∈ os, okO o) (hT : Tabs w) (hA : Ae.ATabs w) (hR : RTabs w) (hP : Cha.PTabs w) (h4 : 8 ≤ w.heap.size) :
    Calls Tryz.prog 4 #[.string M, .slice a len cap] w fun e w' => e = .returned (.bool true) ∧ Below w.heap.size w w' := by
  have hnum := fun W x => num_any x W
  by_cases hM : M.size = 32
  · have hn1 := Rs.newReal_any M hM w hT hA h4
    have HN2 : Hid (∀ W, Below w.heap.size w W → Calls Tryz.prog 11 #[.string M] W fun e w' => ∃ rb, e = .returned (.tuple #[.pointer (some ⟨rb, 0, none⟩), .int .i64 0]) ∧ W.heap.size ≤ rb ∧ Rr.Rq w' rb M ∧ Below W.heap.size W w') := fun W hb => Rr.rnew_any M hM W (hR.below hb (by omega)) (hP.below hb (by omega)) (by have := hb.size; omega)
    have HS : Hid (SeeO w a os) := hS
    have HOK : Hid (∀ o ∈ os, okO o) := hok
    clear hT hA hR hP hS hok
    go_enter Tryz.func4, Tryz.ntmps4
    go_wp2_with fail
    refine hn1.mono ?_
    rintro e w2 ⟨pr, rfl, hpr, hRl, hb2⟩
    have HB2 : Hid (Below w.heap.size w w2) := hb2
    go_wp2_with fail
    refine (HN2.out _ hb2).mono ?_
    rintro e w3 ⟨rb, rfl, hrb, hQ, hb3⟩
    have HTW : Hid _ := two_some w3 pr rb M (hRl.below hb3) hQ
    have HB3 : Hid (Below w.heap.size w w3) := HB2.out.trans (hb3.mono HB2.out.size)
    clear hRl hQ hb2 hb3 hn1 hpr hrb
    go_wp2_with fail
    refine (hnum _ _).mono ?_
    rintro e w4 ⟨rfl, hw4⟩
    obtain rfl := hw4.symm
    obtain ⟨W5, hW5⟩ : ∃ W, w3.alloc (.cells #[.bool false, .pointer (some ⟨pr, 0, none⟩), .pointer none, .pointer (some ⟨rb, 0, none⟩), .slice none 0 0, .slice none 0 0, .slice none 0 0, .slice none 0 0, .slice none 0 0, .slice none 0 0] 43) = W := ⟨_, rfl⟩
    have hI : Iv w3 W5 w3.heap.size (some ⟨pr, 0, none⟩) (some ⟨rb, 0, none⟩) 0 := ⟨none, 0, [], ⟨by rw [← hW5]; exact heap_new _ _⟩, rfl, World.ownsRow_nil _ _ _ _, (by intro s hs; cases hs), by rw [← hW5]; exact (Below.refl _ _).alloc (Nat.le_refl _) _, Nat.le_refl _⟩
    have hpl := play_any w3.heap.size _ _ _ w3 W5 a len cap os hI HTW.out hl hlen (HS.out.below HB3.out) HOK.out
    clear hI
    go_wp2_with fail
    refine hpl.mono ?_
    rintro e w6 ⟨rfl, hb6⟩
    go_wp2
    go_ret
    exact ⟨rfl, HB3.out.trans (hb6.mono HB3.out.size)⟩
  · have hn1 := newReal_no M hM
    have hn2 := Rr.rnew_no M hM
    obtain ⟨W5, hW5⟩ : ∃ W, w.alloc (.cells #[.bool false, .pointer none, .pointer none, .pointer none, .slice none 0 0, .slice none 0 0, .slice none 0 0, .slice none 0 0, .slice none 0 0, .slice none 0 0] 43) = W := ⟨_, rfl⟩
    have hI : Iv w W5 w.heap.size none none 0 := ⟨none, 0, [], ⟨by rw [← hW5]; exact heap_new _ _⟩, rfl, World.ownsRow_nil _ _ _ _, (by intro s hs; cases hs), by rw [← hW5]; exact (Below.refl _ _).alloc (Nat.le_refl _) _, Nat.le_refl _⟩
    have hpl := play_any w.heap.size _ _ _ w W5 a len cap os hI (two_nil w) hl hlen hS hok
    clear hI hS hok hT hA hR hP
    go_enter Tryz.func4, Tryz.ntmps4
    go_wp2_with fail
    refine (hn1 _).mono ?_
    rintro e w2 ⟨rfl, hw2⟩
    obtain rfl := hw2.symm
    go_wp2_with fail
    refine (hn2 _).mono ?_
    rintro e w3 ⟨rfl, hw3⟩
    obtain rfl := hw3.symm
    go_wp2_with fail
    refine (hnum _ _).mono ?_
    rintro e w4 ⟨rfl, hw4⟩
    obtain rfl := hw4.symm
    go_wp2_with fail
    refine hpl.mono ?_
    rintro e w6 ⟨rfl, hb6⟩
    go_wp2
    go_ret
    exact ⟨rfl, hb6⟩
end Go.Proofs.YtengclnahppmhaaGreatDoor.Sr
