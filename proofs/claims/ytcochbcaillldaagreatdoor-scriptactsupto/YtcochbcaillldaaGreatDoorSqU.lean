import Derived.Deep.Cut
import Derived.BigQuiet
import Derived.Test.YtcochbcaillldaaGreatDoorSqT
namespace Go.Proofs.YtcochbcaillldaaGreatDoor.Sc
open Go.RowKit Go.Lib Go.Deep

theorem bdN0 (w : World) (n : Nat) : Below w.heap.size w (w.drewN n) := ⟨rfl, rfl, rfl, Nat.le_refl _, fun _ _ => rfl⟩
set_option maxRecDepth 20000 in
set_option maxHeartbeats 1000000 in
theorem sameOps_any (a a' : Option Addr) (c c' : Nat) (L : List OpR) (w : World) (h : SeeO w a L) (h' : SeeO w a' L) (hll : L.length ≤ 1152921504606846976) : Calls Tryz.prog 30 #[.slice a L.length c, .slice a' L.length c'] w fun e w' => e = .returned (.bool true) ∧ Below w.heap.size w w' := by
  have HA : Hid (SeeO w a L) := h
  have HB : Hid (SeeO w a' L) := h'
  obtain ⟨n, hn⟩ : ∃ n, L.length = n := ⟨_, rfl⟩
  have HN : Hid (L.length = n) := hn
  rw [hn] at hll ⊢
  clear hn h h'
  go_enter Tryz.func30, Tryz.ntmps30
  go_wp2_with fail
  go_loopg [5] n (fun gk i wr => ∃ j : Nat, j + gk = n ∧ i = .int .i64 (j : Int) ∧ Hid (Below w.heap.size w wr))
  case atStart => exact ⟨0, by omega, rfl, Below.refl _ _⟩
  case round =>
    obtain ⟨j, hj, rfl, HW⟩ := hrel
    by_cases hlt : j < n
    · have hltI : (j : Int) < (n : Int) := by omega
      obtain ⟨o, ho⟩ : ∃ o, L[j]? = some o := ⟨_, List.getElem?_eq_getElem (by rw [HN.out]; omega)⟩
      obtain ⟨b, off, rfl, hbl, hcells⟩ := HA.out (by intro e; rw [e] at ho; cases ho)
      obtain ⟨b', off', rfl, hbl', hcells'⟩ := HB.out (by intro e; rw [e] at ho; cases ho)
      obtain ⟨c0, c1, c2, c3, c4, c5⟩ := (hcells j o ho).below HW.out hbl
      obtain ⟨d0, d1, d2, d3, d4, d5⟩ := (hcells' j o ho).below HW.out hbl'
      clear hcells hcells' ho hbl hbl'
      go_wp2_with fail
      go_quiet (fail)
      go_wp2
      go_roundg (gk - 1)
      case measure => omega
      case rel => exact ⟨j + 1, by omega, by go_num, HW.out.trans ((bdN0 _ _).mono HW.out.size)⟩
    · obtain rfl : j = n := by omega
      have hltI : ¬ (j : Int) < (j : Int) := by omega
      go_wp2
      go_ret
      exact ⟨rfl, HW.out⟩
set_option maxRecDepth 20000 in
set_option maxHeartbeats 1000000 in
theorem sameAct_any (o : ActR) (a : Option Addr) (c : Nat) (L : List OpR) (hn : L.length = o.nops) (hll : L.length ≤ 1048576) (w : World) (h : SeeO w a L) (h' : SeeO w o.ops L) :
    Calls Tryz.prog 38 #[ActR.val { o with ops := a, cops := c }, o.val] w fun e w' => e = .returned (.bool true) ∧ Below w.heap.size w w' := by
  obtain ⟨W, hW⟩ : ∃ W, (w.alloc (.cells (ActR.cells { o with ops := a, cops := c }) 36)).alloc (.cells o.cells 36) = W := ⟨_, rfl⟩
  have hbW : Below w.heap.size w W := by rw [← hW]; exact ((Below.refl _ _).alloc (Nat.le_refl _) _).alloc (by simp) _
  have h1 : ActAt W w.heap.size { o with ops := a, cops := c } := by
    rw [← hW]
    exact (Lib.alloc_old _ _ _ (by simp)).trans (heap_alloc_new _ _)
  have h2 : ActAt W (w.heap.size + 1) o := by
    have h := heap_alloc_new (w.alloc (.cells (ActR.cells { o with ops := a, cops := c }) 36)) (.cells o.cells 36)
    rw [hW, show (w.alloc (.cells (ActR.cells { o with ops := a, cops := c }) 36)).heap.size = w.heap.size + 1 by simp] at h
    exact h
  have hs := sameOps_any a o.ops c o.cops L W (h.below hbW) (h'.below hbW) (by omega)
  rw [hn] at hs
  obtain ⟨c0, c1, c2, c3, c4, c5, c6, c7, c8⟩ := h1.nine
  obtain ⟨d0, d1, d2, d3, d4, d5, d6, d7, d8⟩ := h2.nine
  unfold ActR.val ActR.cells at *
  have HW : Hid (Unit → _ = W) := fun _ => hW
  have HB : Hid (Below w.heap.size w W) := hbW
  clear hW h1 h2 hbW h h' hn
  dsimp only at *
  go_enter Tryz.func38, Tryz.ntmps38
  go_upto_region 1 with fail
  rw [HW.out ()]
  clear HW
  go_wp2_with (go_at_call 30; refine hs.mono ?_; rintro e w2 ⟨rfl, hb2⟩; clear hs)
  go_ret
  exact ⟨rfl, HB.out.trans (hb2.mono HB.out.size)⟩
end Go.Proofs.YtcochbcaillldaaGreatDoor.Sc
