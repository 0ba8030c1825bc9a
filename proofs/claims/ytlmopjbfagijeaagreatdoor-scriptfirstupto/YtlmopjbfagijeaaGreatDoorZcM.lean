import Derived.Test.YtlmopjbfagijeaaGreatDoorZbM
import Derived.Test.YtlmopjbfagijeaaGreatDoorYeM
import Derived.Test.YtlmopjbfagijeaaGreatDoorYdM
import Derived.Test.YtlmopjbfagijeaaGreatDoorSpG
namespace Go.Proofs.YtlmopjbfagijeaaGreatDoor.Sc
open Go.RowKit Go.Lib Go.Deep

structure RdA (g ob : Nat) (L : List ByteArray) (bad : Bool) (o : ActR) (w w' : World) : Prop where
  wd : Wd g L bad w'
  op : ActAt w' ob o
  only : Only [g, ob] w w'
theorem ActAt.only {w w' : World} {g ob : Nat} {o : ActR} (h : ActAt w ob o) (ho : Only [g] w w') (hne : ob ≠ g) : ActAt w' ob o := (ho.block ob h.lt (by simp; exact hne)).trans h
theorem Wd.setAct {g ob i : Nat} {L : List ByteArray} {bad : Bool} {w : World} {o : ActR} {v : Value} (h : Wd g L bad w) (ho : ActAt w ob o) (hne : ob ≠ g) : Wd g L bad (w.setCell ⟨ob, i, none⟩ v) :=
  h.keep (Below.heap_setCell _ _ _ _ (Ne.symm hne)) fun k cs hk => Below.heap_setCell _ _ _ _ (fun e => by
    subst e
    have h0 : w.heap[_]? = _ := ho
    rw [h0] at hk
    injection hk with hk
    injection hk with _ q _
    revert q
    decide)
theorem ActAt.putI {w : World} {g : Nat} {o : ActR} (h : ActAt w g o) (x : Int) : ActAt (w.setCell ⟨g, 2, none⟩ (.int .i64 x)) g { o with i := x } := by
  unfold ActAt at h ⊢
  simp [World.setCell, Array.getElem?_modify, h, ActR.cells]
theorem ActAt.put3 {w : World} {g : Nat} {o : ActR} (h : ActAt w g o) (x : Int) : ActAt (w.setCell ⟨g, 3, none⟩ (.int .i64 x)) g { o with before := x } := by
  unfold ActAt at h ⊢
  simp [World.setCell, Array.getElem?_modify, h, ActR.cells]
theorem ActAt.put4 {w : World} {g : Nat} {o : ActR} (h : ActAt w g o) (x : Int) : ActAt (w.setCell ⟨g, 4, none⟩ (.int .i64 x)) g { o with ek := x } := by
  unfold ActAt at h ⊢
  simp [World.setCell, Array.getElem?_modify, h, ActR.cells]
theorem ActAt.put5 {w : World} {g : Nat} {o : ActR} (h : ActAt w g o) (x : Int) : ActAt (w.setCell ⟨g, 5, none⟩ (.int .i64 x)) g { o with put := x } := by
  unfold ActAt at h ⊢
  simp [World.setCell, Array.getElem?_modify, h, ActR.cells]
theorem ActAt.put6 {w : World} {g : Nat} {o : ActR} (h : ActAt w g o) (x : Int) : ActAt (w.setCell ⟨g, 6, none⟩ (.int .i64 x)) g { o with frm := x } := by
  unfold ActAt at h ⊢
  simp [World.setCell, Array.getElem?_modify, h, ActR.cells]
theorem ActAt.put7 {w : World} {g : Nat} {o : ActR} (h : ActAt w g o) (x : ByteArray) : ActAt (w.setCell ⟨g, 7, none⟩ (.string x)) g { o with name := x } := by
  unfold ActAt at h ⊢
  simp [World.setCell, Array.getElem?_modify, h, ActR.cells]
theorem ActAt.put8 {w : World} {g : Nat} {o : ActR} (h : ActAt w g o) (x : ByteArray) : ActAt (w.setCell ⟨g, 8, none⟩ (.string x)) g { o with blob := x } := by
  unfold ActAt at h ⊢
  simp [World.setCell, Array.getElem?_modify, h, ActR.cells]
set_option maxRecDepth 20000 in
theorem readAlone_any (g ob : Nat) (r : List ByteArray) (bad : Bool) (o : ActR) (w : World) (h : Wd g r bad w) (ho : ActAt w ob o) :
    Calls Tryz.prog 55 #[.pointer (some ⟨g, 0, none⟩), .pointer (some ⟨ob, 0, none⟩)] w fun e w' => e = .returned (.tuple #[]) ∧ RdA g ob r bad o w w' := by
  go_enter Tryz.func55, Tryz.ntmps55
  try go_wp2
  go_end0
  exact ⟨rfl, h, ho, Only.refl _ _⟩
set_option maxRecDepth 20000 in
set_option maxHeartbeats 1000000 in
theorem readFuse_any (B g ob : Nat) (x1 : ByteArray) (r : List ByteArray) (bad : Bool) (o : ActR) (hx1 : x1.size ≤ 8388608) (hne : ob ≠ g) (hgB : B ≤ g) (w : World) (h : Wd g (x1 :: r) bad w) (ho : ActAt w ob o) (hG : GlB B w) :
    Calls Tryz.prog 58 #[.pointer (some ⟨g, 0, none⟩), .pointer (some ⟨ob, 0, none⟩)] w fun e w' => e = .returned (.tuple #[]) ∧ RdA g ob r (bad || bN x1) { o with i := rN x1 } w w' := by
  have HO : Hid (ob ≠ g ∧ B ≤ g ∧ GlB B w ∧ ActAt w ob o) := ⟨hne, hgB, hG, ho⟩
  have HW0 : Hid (Wd g (x1 :: r) bad w ∧ Only [g] w w) := ⟨h, Only.refl _ _⟩
  clear hne hgB hG ho h
  obtain ⟨v1, ev1⟩ : ∃ v, rN x1 = v := ⟨_, rfl⟩
  obtain ⟨b1, eb1⟩ : ∃ b, (bad || bN x1) = b := ⟨_, rfl⟩
  have EV1 : Hid (rN x1 = v1 ∧ (bad || bN x1) = b1) := ⟨ev1, eb1⟩
  rw [ev1, eb1]
  clear ev1 eb1
  go_enter Tryz.func58, Tryz.ntmps58
  have hn1 := wN_any g x1 (r) bad hx1 w HW0.out.1 (HO.out.2.2.1.only HW0.out.2 (by simp; exact HO.out.2.1)).it (HO.out.2.2.1.only HW0.out.2 (by simp; exact HO.out.2.1)).et
  change Calls _ _ _ _ fun e w' => e = .returned (.int .i64 (rN x1)) ∧ Wd g (r) (bad || bN x1) w' ∧ Only [g] w w' at hn1
  rw [EV1.out.1, EV1.out.2] at hn1
  go_wp2_with fail
  refine hn1.mono ?_
  rintro e w1 ⟨rfl, hw1, ho1⟩
  have HW1 : Hid (Wd g (r) b1 w1 ∧ Only [g] w w1) := ⟨hw1, HW0.out.2.trans ho1⟩
  clear hn1 hw1 ho1
  have ho2 : ActAt w1 ob o := HO.out.2.2.2.only HW1.out.2 HO.out.1
  obtain ⟨k0, k1, k2, k3, k4, k5, k6, k7, k8⟩ := ho2.nine
  have fz := ho2.frozen
  have HJ : Hid (RdA g ob r b1 { o with i := v1 } w (w1.setCell ⟨ob, 2, none⟩ (.int .i64 v1))) := ⟨(HW1.out.1.setAct (i := 2) (v := .int .i64 v1) ho2 HO.out.1), (ho2.putI v1), ((HW1.out.2.mono (T := [g, ob]) (by simp)).setCell (p := ⟨ob, 2, none⟩) (by simp) (.int .i64 v1))⟩
  clear ho2
  go_wp2
  go_end0
  exact ⟨rfl, HJ.out⟩
set_option maxRecDepth 20000 in
set_option maxHeartbeats 1000000 in
theorem readEdit_any (B g ob : Nat) (x1 x2 x3 x4 x5 x6 : ByteArray) (r : List ByteArray) (bad : Bool) (o : ActR) (hx1 : x1.size ≤ 8388608) (hx2 : x2.size ≤ 8388608) (hx3 : x3.size ≤ 8388608) (hx4 : x4.size ≤ 8388608) (hx5 : x5.size ≤ 8388608) (hx6 : x6.size ≤ 8388608) (hne : ob ≠ g) (hgB : B ≤ g) (w : World) (h : Wd g (x1 :: x2 :: x3 :: x4 :: x5 :: x6 :: r) bad w) (ho : ActAt w ob o) (hG : GlB B w) :
    Calls Tryz.prog 60 #[.pointer (some ⟨g, 0, none⟩), .pointer (some ⟨ob, 0, none⟩)] w fun e w' => e = .returned (.tuple #[]) ∧ RdA g ob r ((((((bad || bN x1) || bN x2) || bN x3) || bN x4) || bB x5) || bB x6) { o with before := rN x1, ek := rN x2, put := rN x3, frm := rN x4, name := rB x5, blob := rB x6 } w w' := by
  have HO : Hid (ob ≠ g ∧ B ≤ g ∧ GlB B w ∧ ActAt w ob o) := ⟨hne, hgB, hG, ho⟩
  have HW0 : Hid (Wd g (x1 :: x2 :: x3 :: x4 :: x5 :: x6 :: r) bad w ∧ Only [g] w w) := ⟨h, Only.refl _ _⟩
  clear hne hgB hG ho h
  obtain ⟨v1, ev1⟩ : ∃ v, rN x1 = v := ⟨_, rfl⟩
  obtain ⟨b1, eb1⟩ : ∃ b, (bad || bN x1) = b := ⟨_, rfl⟩
  have EV1 : Hid (rN x1 = v1 ∧ (bad || bN x1) = b1) := ⟨ev1, eb1⟩
  rw [ev1, eb1]
  clear ev1 eb1
  obtain ⟨v2, ev2⟩ : ∃ v, rN x2 = v := ⟨_, rfl⟩
  obtain ⟨b2, eb2⟩ : ∃ b, (b1 || bN x2) = b := ⟨_, rfl⟩
  have EV2 : Hid (rN x2 = v2 ∧ (b1 || bN x2) = b2) := ⟨ev2, eb2⟩
  rw [ev2, eb2]
  clear ev2 eb2
  obtain ⟨v3, ev3⟩ : ∃ v, rN x3 = v := ⟨_, rfl⟩
  obtain ⟨b3, eb3⟩ : ∃ b, (b2 || bN x3) = b := ⟨_, rfl⟩
  have EV3 : Hid (rN x3 = v3 ∧ (b2 || bN x3) = b3) := ⟨ev3, eb3⟩
  rw [ev3, eb3]
  clear ev3 eb3
  obtain ⟨v4, ev4⟩ : ∃ v, rN x4 = v := ⟨_, rfl⟩
  obtain ⟨b4, eb4⟩ : ∃ b, (b3 || bN x4) = b := ⟨_, rfl⟩
  have EV4 : Hid (rN x4 = v4 ∧ (b3 || bN x4) = b4) := ⟨ev4, eb4⟩
  rw [ev4, eb4]
  clear ev4 eb4
  obtain ⟨v5, ev5⟩ : ∃ v, rB x5 = v := ⟨_, rfl⟩
  obtain ⟨b5, eb5⟩ : ∃ b, (b4 || bB x5) = b := ⟨_, rfl⟩
  have EV5 : Hid (rB x5 = v5 ∧ (b4 || bB x5) = b5) := ⟨ev5, eb5⟩
  rw [ev5, eb5]
  clear ev5 eb5
  obtain ⟨v6, ev6⟩ : ∃ v, rB x6 = v := ⟨_, rfl⟩
  obtain ⟨b6, eb6⟩ : ∃ b, (b5 || bB x6) = b := ⟨_, rfl⟩
  have EV6 : Hid (rB x6 = v6 ∧ (b5 || bB x6) = b6) := ⟨ev6, eb6⟩
  rw [ev6, eb6]
  clear ev6 eb6
  go_enter Tryz.func60, Tryz.ntmps60
  have hn1 := wN_any g x1 (x2 :: x3 :: x4 :: x5 :: x6 :: r) bad hx1 w HW0.out.1 (HO.out.2.2.1.only HW0.out.2 (by simp; exact HO.out.2.1)).it (HO.out.2.2.1.only HW0.out.2 (by simp; exact HO.out.2.1)).et
  change Calls _ _ _ _ fun e w' => e = .returned (.int .i64 (rN x1)) ∧ Wd g (x2 :: x3 :: x4 :: x5 :: x6 :: r) (bad || bN x1) w' ∧ Only [g] w w' at hn1
  rw [EV1.out.1, EV1.out.2] at hn1
  go_wp2_with fail
  refine hn1.mono ?_
  rintro e w1 ⟨rfl, hw1, ho1⟩
  have HW1 : Hid (Wd g (x2 :: x3 :: x4 :: x5 :: x6 :: r) b1 w1 ∧ Only [g] w w1) := ⟨hw1, HW0.out.2.trans ho1⟩
  clear hn1 hw1 ho1
  have hn2 := wN_any g x2 (x3 :: x4 :: x5 :: x6 :: r) b1 hx2 w1 HW1.out.1 (HO.out.2.2.1.only HW1.out.2 (by simp; exact HO.out.2.1)).it (HO.out.2.2.1.only HW1.out.2 (by simp; exact HO.out.2.1)).et
  change Calls _ _ _ _ fun e w' => e = .returned (.int .i64 (rN x2)) ∧ Wd g (x3 :: x4 :: x5 :: x6 :: r) (b1 || bN x2) w' ∧ Only [g] w1 w' at hn2
  rw [EV2.out.1, EV2.out.2] at hn2
  go_wp2_with fail
  refine hn2.mono ?_
  rintro e w2 ⟨rfl, hw2, ho2⟩
  have HW2 : Hid (Wd g (x3 :: x4 :: x5 :: x6 :: r) b2 w2 ∧ Only [g] w w2) := ⟨hw2, HW1.out.2.trans ho2⟩
  clear hn2 hw2 ho2
  have hn3 := wN_any g x3 (x4 :: x5 :: x6 :: r) b2 hx3 w2 HW2.out.1 (HO.out.2.2.1.only HW2.out.2 (by simp; exact HO.out.2.1)).it (HO.out.2.2.1.only HW2.out.2 (by simp; exact HO.out.2.1)).et
  change Calls _ _ _ _ fun e w' => e = .returned (.int .i64 (rN x3)) ∧ Wd g (x4 :: x5 :: x6 :: r) (b2 || bN x3) w' ∧ Only [g] w2 w' at hn3
  rw [EV3.out.1, EV3.out.2] at hn3
  go_wp2_with fail
  refine hn3.mono ?_
  rintro e w3 ⟨rfl, hw3, ho3⟩
  have HW3 : Hid (Wd g (x4 :: x5 :: x6 :: r) b3 w3 ∧ Only [g] w w3) := ⟨hw3, HW2.out.2.trans ho3⟩
  clear hn3 hw3 ho3
  have hn4 := wN_any g x4 (x5 :: x6 :: r) b3 hx4 w3 HW3.out.1 (HO.out.2.2.1.only HW3.out.2 (by simp; exact HO.out.2.1)).it (HO.out.2.2.1.only HW3.out.2 (by simp; exact HO.out.2.1)).et
  change Calls _ _ _ _ fun e w' => e = .returned (.int .i64 (rN x4)) ∧ Wd g (x5 :: x6 :: r) (b3 || bN x4) w' ∧ Only [g] w3 w' at hn4
  rw [EV4.out.1, EV4.out.2] at hn4
  go_wp2_with fail
  refine hn4.mono ?_
  rintro e w4 ⟨rfl, hw4, ho4⟩
  have HW4 : Hid (Wd g (x5 :: x6 :: r) b4 w4 ∧ Only [g] w w4) := ⟨hw4, HW3.out.2.trans ho4⟩
  clear hn4 hw4 ho4
  have hn5 := wB_any g x5 (x6 :: r) b4 hx5 w4 HW4.out.1
  change Calls _ _ _ _ fun e w' => e = .returned (.string (rB x5)) ∧ Wd g (x6 :: r) (b4 || bB x5) w' ∧ Only [g] w4 w' at hn5
  rw [EV5.out.1, EV5.out.2] at hn5
  go_wp2_with fail
  refine hn5.mono ?_
  rintro e w5 ⟨rfl, hw5, ho5⟩
  have HW5 : Hid (Wd g (x6 :: r) b5 w5 ∧ Only [g] w w5) := ⟨hw5, HW4.out.2.trans ho5⟩
  clear hn5 hw5 ho5
  have hn6 := wB_any g x6 (r) b5 hx6 w5 HW5.out.1
  change Calls _ _ _ _ fun e w' => e = .returned (.string (rB x6)) ∧ Wd g (r) (b5 || bB x6) w' ∧ Only [g] w5 w' at hn6
  rw [EV6.out.1, EV6.out.2] at hn6
  go_wp2_with fail
  refine hn6.mono ?_
  rintro e w6 ⟨rfl, hw6, ho6⟩
  have HW6 : Hid (Wd g (r) b6 w6 ∧ Only [g] w w6) := ⟨hw6, HW5.out.2.trans ho6⟩
  clear hn6 hw6 ho6
  have ho2 : ActAt w6 ob o := HO.out.2.2.2.only HW6.out.2 HO.out.1
  obtain ⟨k0, k1, k2, k3, k4, k5, k6, k7, k8⟩ := ho2.nine
  have fz := ho2.frozen
  have HJ : Hid (RdA g ob r b6 { o with before := v1, ek := v2, put := v3, frm := v4, name := v5, blob := v6 } w ((((((w6.setCell ⟨ob, 3, none⟩ (.int .i64 v1)).setCell ⟨ob, 4, none⟩ (.int .i64 v2)).setCell ⟨ob, 5, none⟩ (.int .i64 v3)).setCell ⟨ob, 6, none⟩ (.int .i64 v4)).setCell ⟨ob, 7, none⟩ (.string v5)).setCell ⟨ob, 8, none⟩ (.string v6))) := ⟨((((((HW6.out.1.setAct (i := 3) (v := .int .i64 v1) ho2 HO.out.1).setAct (i := 4) (v := .int .i64 v2) (ho2.put3 v1) HO.out.1).setAct (i := 5) (v := .int .i64 v3) ((ho2.put3 v1).put4 v2) HO.out.1).setAct (i := 6) (v := .int .i64 v4) (((ho2.put3 v1).put4 v2).put5 v3) HO.out.1).setAct (i := 7) (v := .string v5) ((((ho2.put3 v1).put4 v2).put5 v3).put6 v4) HO.out.1).setAct (i := 8) (v := .string v6) (((((ho2.put3 v1).put4 v2).put5 v3).put6 v4).put7 v5) HO.out.1), ((((((ho2.put3 v1).put4 v2).put5 v3).put6 v4).put7 v5).put8 v6), (((((((HW6.out.2.mono (T := [g, ob]) (by simp)).setCell (p := ⟨ob, 3, none⟩) (by simp) (.int .i64 v1)).setCell (p := ⟨ob, 4, none⟩) (by simp) (.int .i64 v2)).setCell (p := ⟨ob, 5, none⟩) (by simp) (.int .i64 v3)).setCell (p := ⟨ob, 6, none⟩) (by simp) (.int .i64 v4)).setCell (p := ⟨ob, 7, none⟩) (by simp) (.string v5)).setCell (p := ⟨ob, 8, none⟩) (by simp) (.string v6))⟩
  clear ho2
  go_wp2
  go_end0
  exact ⟨rfl, HJ.out⟩
end Go.Proofs.YtlmopjbfagijeaaGreatDoor.Sc

namespace Go.Proofs.YtlmopjbfagijeaaGreatDoor.Sc
open Go.RowKit Go.Lib Go.Deep

/-- where the first form of a word stands -/
def IdxW (L : List Fm) (x : ByteArray) (e : Ending) : Prop := (∃ (i : Nat) (f : Fm), L[i]? = some f ∧ f.word = x ∧ (∀ (j : Nat) (f' : Fm), j < i → L[j]? = some f' → f'.word ≠ x) ∧ e = .returned (.int .i64 i)) ∨ ((∀ f ∈ L, f.word ≠ x) ∧ e = .returned (.int .i64 (-1)))
def fmOf : List Fm → ByteArray → Option Fm
  | [], _ => none
  | f :: r, x => if f.word = x then some f else fmOf r x
theorem fmOf_hit : ∀ (L : List Fm) (x : ByteArray) (i : Nat) (f : Fm), L[i]? = some f → f.word = x → (∀ (j : Nat) (f' : Fm), j < i → L[j]? = some f' → f'.word ≠ x) → fmOf L x = some f
  | [], x, i, f, h, _, _ => by cases h
  | a :: L, x, 0, f, h, hw, _ => by
    obtain rfl := Option.some.inj h
    rw [fmOf, if_pos hw]
  | a :: L, x, i + 1, f, h, hw, hj => by
    rw [fmOf, if_neg (hj 0 a (by omega) rfl)]
    exact fmOf_hit L x i f h hw fun j f' hlt hf' => hj (j + 1) f' (by omega) hf'
theorem fmOf_none : ∀ (L : List Fm) (x : ByteArray), (∀ f ∈ L, f.word ≠ x) → fmOf L x = none
  | [], _, _ => rfl
  | a :: L, x, h => by
    rw [fmOf, if_neg (h a (List.mem_cons_self ..))]
    exact fmOf_none L x fun f hf => h f (List.mem_cons_of_mem _ hf)
set_option maxRecDepth 20000 in
set_option maxHeartbeats 1000000 in
theorem isWord_any (f : Fm) (x : ByteArray) (lb b off n c : Nat) (hn : 0 < n) (w : World) (hk : w.cell? ⟨lb, 0, none⟩ = some (.slice (some ⟨b, off, none⟩) n c)) (hx : w.cell? ⟨b, off, none⟩ = some (.string x)) :
    Calls Tryz.prog 160 #[f.val, .pointer (some ⟨lb, 0, none⟩)] w fun e w' => e = .returned (.bool (f.word.toList == x.toList)) ∧ Below w.heap.size w w' := by
  obtain ⟨k, wd, ct, p, q⟩ := f
  unfold Fm.val
  have hnI : (0 : Int) < (n : Int) := by omega
  obtain ⟨W, hW⟩ : ∃ W, w.alloc (.cells #[.int .i64 k, .string wd, .int .i64 ct, .func (.func p) #[] #[], .func (.func q) #[] #[]] 137) = W := ⟨_, rfl⟩
  have hbW : Below w.heap.size w W := by rw [← hW]; exact (Below.refl _ _).alloc (Nat.le_refl _) _
  have h1 : W.heap[w.heap.size]? = some (.cells #[.int .i64 k, .string wd, .int .i64 ct, .func (.func p) #[] #[], .func (.func q) #[] #[]] 137 (0, 0)) := by rw [← hW]; exact heap_alloc_new _ _
  have hk2 : W.cell? ⟨lb, 0, none⟩ = some (.slice (some ⟨b, off, none⟩) n c) := (hbW.cell (p := ⟨lb, 0, none⟩) (block_lt_of_cell hk)).trans hk
  have hx2 : W.cell? ⟨b, off, none⟩ = some (.string x) := (hbW.cell (p := ⟨b, off, none⟩) (block_lt_of_cell hx)).trans hx
  have hw2 : W.cell? ⟨w.heap.size, 1, none⟩ = some (.string wd) := by rw [Lib.cell_of_heap h1]; rfl
  have HB : Hid (Below w.heap.size w W) := hbW
  have HW : Hid (Unit → _ = W) := fun _ => hW
  clear hW h1 hbW hk hx
  go_enter Tryz.func160, Tryz.ntmps160
  go_wp2
  rw [HW.out ()]
  go_quiet (fail)
  go_wp2
  go_ret
  exact ⟨rfl, ⟨HB.out.os, HB.out.tape, HB.out.output, HB.out.size, HB.out.block⟩⟩
set_option maxRecDepth 20000 in
set_option maxHeartbeats 1000000 in
theorem indexWord_any (L : List Fm) (n : Nat) (hn : L.length = n) (hn1 : n ≤ 1000) (x : ByteArray) (lb b off nl cl g : Nat) (hnl : 0 < nl) (w : World) (hk : w.cell? ⟨lb, 0, none⟩ = some (.slice (some ⟨b, off, none⟩) nl cl)) (hx : w.cell? ⟨b, off, none⟩ = some (.string x)) (hg : w.heap[g]? = some (.cells (tabC L) 137 (0, 0))) :
    Calls Tryz.prog 75 #[.slice (some ⟨g, 0, none⟩) n n, .func (.func 160) #[] #[.pointer (some ⟨lb, 0, none⟩)]] w fun e w' => IdxW L x e ∧ Below w.heap.size w w' := by
  go_enter Tryz.func75, Tryz.ntmps75
  go_wp2
  go_loopg [8] n (fun gk i wr => ∃ k : Nat, k + gk = n ∧ i = .int .i64 (k : Int) ∧ Hid ((∀ (j : Nat) (f : Fm), j < k → L[j]? = some f → f.word ≠ x) ∧ Below w.heap.size w wr))
  case atStart => exact ⟨0, by omega, rfl, fun j f h => by omega, Below.refl _ _⟩
  case round =>
    obtain ⟨k, hk0, rfl, HI⟩ := hrel
    by_cases hlt : k < n
    · have hltI : (k : Int) < (n : Int) := by omega
      obtain ⟨f, hf⟩ : ∃ f, L[k]? = some f := ⟨_, List.getElem?_eq_getElem (by omega)⟩
      obtain ⟨c0, c1, c2, c3, c4⟩ := tab_cell ((HI.out.2.block _ (Array.getElem?_eq_some_iff.1 hg).1).trans hg) hf
      have h1 := isWord_any f x lb b off nl cl hnl wr ((HI.out.2.cell (p := ⟨lb, 0, none⟩) (block_lt_of_cell hk)).trans hk) ((HI.out.2.cell (p := ⟨b, off, none⟩) (block_lt_of_cell hx)).trans hx)
      unfold Fm.val at h1
      by_cases he : f.word = x
      · have heb : (f.word.toList == x.toList) = true := by rw [he]; exact beq_self_eq_true _
        rw [heb] at h1
        have HE : Hid (L[k]? = some f ∧ f.word = x) := ⟨hf, he⟩
        clear heb he hf
        go_wp2_with (go_at_call 160; refine h1.mono ?_; rintro e w1 ⟨rfl, hb1⟩; clear h1)
        go_ret
        exact ⟨.inl ⟨k, f, HE.out.1, HE.out.2, HI.out.1, rfl⟩, HI.out.2.trans (hb1.mono HI.out.2.size)⟩
      · have heb : (f.word.toList == x.toList) = false := beq_eq_false_iff_ne.2 fun e => he (by
          rw [ByteArray.toList_eq, ByteArray.toList_eq] at e
          exact ByteArray.ext (Array.toList_inj.1 e))
        rw [heb] at h1
        have HF : Hid (L[k]? = some f ∧ f.word ≠ x) := ⟨hf, he⟩
        clear hf he heb
        go_wp2_with (go_at_call 160; refine h1.mono ?_; rintro e w1 ⟨rfl, hb1⟩; clear h1)
        go_roundg (gk - 1)
        case measure => omega
        case rel =>
          refine ⟨k + 1, by omega, by go_num, fun j f' hj hf' => ?_, HI.out.2.trans (hb1.mono HI.out.2.size)⟩
          by_cases hjk : j = k
          · subst hjk
            rw [HF.out.1] at hf'
            rw [← Option.some.inj hf']
            exact HF.out.2
          · exact HI.out.1 j f' (by omega) hf'
    · obtain rfl : k = n := by omega
      have hltI : ¬ (k : Int) < (k : Int) := by omega
      go_wp2
      go_ret
      refine ⟨.inr ⟨fun f hf => ?_, rfl⟩, HI.out.2⟩
      obtain ⟨i, hi⟩ := List.mem_iff_getElem?.1 hf
      exact HI.out.1 i f (by have := (List.getElem?_eq_some_iff.1 hi).1; omega) hi
set_option maxRecDepth 20000 in
set_option maxHeartbeats 1000000 in
theorem isWordA_any (f : Fm) (x : ByteArray) (lb b off n c : Nat) (hn : 0 < n) (w : World) (hk : w.cell? ⟨lb, 0, none⟩ = some (.slice (some ⟨b, off, none⟩) n c)) (hx : w.cell? ⟨b, off, none⟩ = some (.string x)) :
    Calls Tryz.prog 158 #[f.val, .pointer (some ⟨lb, 0, none⟩)] w fun e w' => e = .returned (.bool (f.word.toList == x.toList)) ∧ Below w.heap.size w w' := by
  obtain ⟨k, wd, ct, p, q⟩ := f
  unfold Fm.val
  have hnI : (0 : Int) < (n : Int) := by omega
  obtain ⟨W, hW⟩ : ∃ W, w.alloc (.cells #[.int .i64 k, .string wd, .int .i64 ct, .func (.func p) #[] #[], .func (.func q) #[] #[]] 110) = W := ⟨_, rfl⟩
  have hbW : Below w.heap.size w W := by rw [← hW]; exact (Below.refl _ _).alloc (Nat.le_refl _) _
  have h1 : W.heap[w.heap.size]? = some (.cells #[.int .i64 k, .string wd, .int .i64 ct, .func (.func p) #[] #[], .func (.func q) #[] #[]] 110 (0, 0)) := by rw [← hW]; exact heap_alloc_new _ _
  have hk2 : W.cell? ⟨lb, 0, none⟩ = some (.slice (some ⟨b, off, none⟩) n c) := (hbW.cell (p := ⟨lb, 0, none⟩) (block_lt_of_cell hk)).trans hk
  have hx2 : W.cell? ⟨b, off, none⟩ = some (.string x) := (hbW.cell (p := ⟨b, off, none⟩) (block_lt_of_cell hx)).trans hx
  have hw2 : W.cell? ⟨w.heap.size, 1, none⟩ = some (.string wd) := by rw [Lib.cell_of_heap h1]; rfl
  have HB : Hid (Below w.heap.size w W) := hbW
  have HW : Hid (Unit → _ = W) := fun _ => hW
  clear hW h1 hbW hk hx
  go_enter Tryz.func158, Tryz.ntmps158
  go_wp2
  rw [HW.out ()]
  go_quiet (fail)
  go_wp2
  go_ret
  exact ⟨rfl, ⟨HB.out.os, HB.out.tape, HB.out.output, HB.out.size, HB.out.block⟩⟩
set_option maxRecDepth 20000 in
set_option maxHeartbeats 1000000 in
theorem indexWordA_any (L : List Fm) (n : Nat) (hn : L.length = n) (hn1 : n ≤ 1000) (x : ByteArray) (lb b off nl cl g : Nat) (hnl : 0 < nl) (w : World) (hk : w.cell? ⟨lb, 0, none⟩ = some (.slice (some ⟨b, off, none⟩) nl cl)) (hx : w.cell? ⟨b, off, none⟩ = some (.string x)) (hg : w.heap[g]? = some (.cells (tabC L) 110 (0, 0))) :
    Calls Tryz.prog 50 #[.slice (some ⟨g, 0, none⟩) n n, .func (.func 158) #[] #[.pointer (some ⟨lb, 0, none⟩)]] w fun e w' => IdxW L x e ∧ Below w.heap.size w w' := by
  go_enter Tryz.func50, Tryz.ntmps50
  go_wp2
  go_loopg [8] n (fun gk i wr => ∃ k : Nat, k + gk = n ∧ i = .int .i64 (k : Int) ∧ Hid ((∀ (j : Nat) (f : Fm), j < k → L[j]? = some f → f.word ≠ x) ∧ Below w.heap.size w wr))
  case atStart => exact ⟨0, by omega, rfl, fun j f h => by omega, Below.refl _ _⟩
  case round =>
    obtain ⟨k, hk0, rfl, HI⟩ := hrel
    by_cases hlt : k < n
    · have hltI : (k : Int) < (n : Int) := by omega
      obtain ⟨f, hf⟩ : ∃ f, L[k]? = some f := ⟨_, List.getElem?_eq_getElem (by omega)⟩
      obtain ⟨c0, c1, c2, c3, c4⟩ := tab_cell ((HI.out.2.block _ (Array.getElem?_eq_some_iff.1 hg).1).trans hg) hf
      have h1 := isWordA_any f x lb b off nl cl hnl wr ((HI.out.2.cell (p := ⟨lb, 0, none⟩) (block_lt_of_cell hk)).trans hk) ((HI.out.2.cell (p := ⟨b, off, none⟩) (block_lt_of_cell hx)).trans hx)
      unfold Fm.val at h1
      by_cases he : f.word = x
      · have heb : (f.word.toList == x.toList) = true := by rw [he]; exact beq_self_eq_true _
        rw [heb] at h1
        have HE : Hid (L[k]? = some f ∧ f.word = x) := ⟨hf, he⟩
        clear heb he hf
        go_wp2_with (go_at_call 158; refine h1.mono ?_; rintro e w1 ⟨rfl, hb1⟩; clear h1)
        go_ret
        exact ⟨.inl ⟨k, f, HE.out.1, HE.out.2, HI.out.1, rfl⟩, HI.out.2.trans (hb1.mono HI.out.2.size)⟩
      · have heb : (f.word.toList == x.toList) = false := beq_eq_false_iff_ne.2 fun e => he (by
          rw [ByteArray.toList_eq, ByteArray.toList_eq] at e
          exact ByteArray.ext (Array.toList_inj.1 e))
        rw [heb] at h1
        have HF : Hid (L[k]? = some f ∧ f.word ≠ x) := ⟨hf, he⟩
        clear hf he heb
        go_wp2_with (go_at_call 158; refine h1.mono ?_; rintro e w1 ⟨rfl, hb1⟩; clear h1)
        go_roundg (gk - 1)
        case measure => omega
        case rel =>
          refine ⟨k + 1, by omega, by go_num, fun j f' hj hf' => ?_, HI.out.2.trans (hb1.mono HI.out.2.size)⟩
          by_cases hjk : j = k
          · subst hjk
            rw [HF.out.1] at hf'
            rw [← Option.some.inj hf']
            exact HF.out.2
          · exact HI.out.1 j f' (by omega) hf'
    · obtain rfl : k = n := by omega
      have hltI : ¬ (k : Int) < (k : Int) := by omega
      go_wp2
      go_ret
      refine ⟨.inr ⟨fun f hf => ?_, rfl⟩, HI.out.2⟩
      obtain ⟨i, hi⟩ := List.mem_iff_getElem?.1 hf
      exact HI.out.1 i f (by have := (List.getElem?_eq_some_iff.1 hi).1; omega) hi
end Go.Proofs.YtlmopjbfagijeaaGreatDoor.Sc

namespace Go.Proofs.YtlmopjbfagijeaaGreatDoor.Sc
open Go.RowKit Go.Lib Go.Deep

theorem len1 {α : Type} {T : List α} (h : T.length = 1) : ∃ x, T = [x] := List.length_eq_one_iff.1 h
theorem len2 {α : Type} {T : List α} (h : T.length = 2) : ∃ x y, T = [x, y] := by
  match T, h with
  | [x, y], _ => exact ⟨x, y, rfl⟩
theorem len3 {α : Type} {T : List α} (h : T.length = 3) : ∃ x y z, T = [x, y, z] := by
  match T, h with
  | [x, y, z], _ => exact ⟨x, y, z, rfl⟩
/-- what the function that reads a form's words leaves of an operation -/
noncomputable def rdO (f : FuncId) (o : OpR) (T : List ByteArray) : OpR × Bool :=
  if f = 78 then (match T with | [x] => ({ o with path := rB x }, false || bB x) | _ => (o, true))
  else if f = 80 then (match T with | [x, y, z] => ({ o with path := rB x, at_ := rN y, n := rN z }, ((false || bB x) || bN y) || bN z) | _ => (o, true))
  else if f = 82 then (match T with | [x, y, z] => ({ o with path := rB x, at_ := rN y, data := rB z }, ((false || bB x) || bN y) || bB z) | _ => (o, true))
  else if f = 84 then (match T with | [x, y] => ({ o with path := rB x, n := rN y }, (false || bB x) || bN y) | _ => (o, true))
  else (match T with | [x, y] => ({ o with path := rB x, to := rB y }, (false || bB x) || bB y) | _ => (o, true))
theorem rd_any (f : Fm) (hf : f ∈ opTab) (T : List ByteArray) (hT : (T.length : Int) + 1 = f.count) (hs : ∀ x ∈ T, x.size ≤ 8388608) (o : OpR) (B g ob : Nat) (hne : ob ≠ g) (hgB : B ≤ g) (hoB : B ≤ ob) (w : World) (h : Wd g T false w) (ho : OpAt w ob o) (hG : GlB B w) :
    Calls Tryz.prog f.rd #[.pointer (some ⟨g, 0, none⟩), .pointer (some ⟨ob, 0, none⟩)] w fun e w' => e = .returned (.tuple #[]) ∧ Rd g ob [] (rdO f.rd o T).2 (rdO f.rd o T).1 w w' := by
  unfold opTab at hf
  simp only [List.mem_cons, List.not_mem_nil, or_false] at hf
  rcases hf with rfl | rfl | rfl | rfl | rfl | rfl | rfl | rfl | rfl | rfl
  all_goals dsimp only at hT ⊢
  all_goals first
    | (obtain ⟨x, rfl⟩ := len1 (T := T) (by omega)
       exact readPath_any g ob x [] false o (hs x (by simp)) hne w h ho)
    | (obtain ⟨x, y, z, rfl⟩ := len3 (T := T) (by omega)
       first
         | exact readRead_any B g ob x y z [] false o (hs x (by simp)) (hs y (by simp)) (hs z (by simp)) hne hgB hoB w h ho hG
         | exact readWrite_any B g ob x y z [] false o (hs x (by simp)) (hs y (by simp)) (hs z (by simp)) hne hgB hoB w h ho hG)
    | (obtain ⟨x, y, rfl⟩ := len2 (T := T) (by omega)
       first
         | exact readCut_any B g ob x y [] false o (hs x (by simp)) (hs y (by simp)) hne hgB hoB w h ho hG
         | exact readRename_any B g ob x y [] false o (hs x (by simp)) (hs y (by simp)) hne hgB hoB w h ho hG)
theorem op_count (f : Fm) (hf : f ∈ opTab) : 2 ≤ f.count := by
  unfold opTab at hf
  simp only [List.mem_cons, List.not_mem_nil, or_false] at hf
  rcases hf with rfl | rfl | rfl | rfl | rfl | rfl | rfl | rfl | rfl | rfl
  all_goals decide
theorem cf_rd (f : Fm) (hf : f ∈ opTab) (args : Array Value) (w : World) : (callFunc f.rd args).run Tryz.prog w = .ok (.enter f.rd args) w := by
  unfold opTab at hf
  simp only [List.mem_cons, List.not_mem_nil, or_false] at hf
  rcases hf with rfl | rfl | rfl | rfl | rfl | rfl | rfl | rfl | rfl | rfl
  all_goals kernel_rfl
theorem results_tct {P : Program} {fn : Func} {p u v : Tmp} {ty : TypeId} (h : fn.results = #[.tmp u, .cell p ty, .tmp v]) (tmps : Array Value) (w : World) (g : Nat) (t : TypeId) (cs : Array Value) (fr : Nat × Nat) (d : TypeDesc)
    (hp : tmps.getD p undef = .pointer (some ⟨g, 0, none⟩)) (hg : w.heap[g]? = some (.cells cs t fr)) (hu : P.underlying ty = some d) (hd : (match d with | .struct _ | .array _ _ => true | _ => false) = true) (hi : (P.info? ty).map (·.size) = some cs.size) :
    (results fn tmps).run P w = .ok (.tuple #[tmps.getD u undef, .agg cs, tmps.getD v undef]) w := by
  have hp' : tmps[p]?.getD undef = .pointer (some ⟨g, 0, none⟩) := by simpa using hp
  simp [results, h, hp', asAddr, run_loadVar_row w g t ty cs fr d hg hu hd hi]
theorem sizeOp6 : (Tryz.prog.info? 54).map (·.size) = some 6 := by kernel_rfl
theorem op_one (o : OpR) : o.cells.all (·.oneCell') = true := by simp [OpR.cells, Value.oneCell']
def zeroP : OpR := ⟨0, nil_, nil_, 0, 0, nil_⟩
noncomputable def toldOF (r : List ByteArray) : Option Fm → Value
  | none => .tuple #[.int .i64 0, zeroP.val, .int .i64 222]
  | some f => if (r.length : Int) + 1 ≠ f.count then .tuple #[.int .i64 0, zeroP.val, .int .i64 223]
      else if (rdO f.rd zeroP r).2 = true then .tuple #[.int .i64 0, zeroP.val, .int .i64 224]
      else .tuple #[.int .i64 f.kind, (rdO f.rd zeroP r).1.val, .int .i64 0]
/-- what told answers -/
noncomputable def toldOV : List ByteArray → Value
  | [] => undef
  | x :: r => toldOF r (fmOf opTab x)
theorem toldOV_some {x : ByteArray} {r : List ByteArray} {f : Fm} (h : fmOf opTab x = some f) : toldOV (x :: r) = if (r.length : Int) + 1 ≠ f.count then .tuple #[.int .i64 0, zeroP.val, .int .i64 223]
      else if (rdO f.rd zeroP r).2 = true then .tuple #[.int .i64 0, zeroP.val, .int .i64 224]
      else .tuple #[.int .i64 f.kind, (rdO f.rd zeroP r).1.val, .int .i64 0] := by
  show toldOF r (fmOf opTab x) = _
  rw [h]
  rfl
theorem toldOV_none {x : ByteArray} {r : List ByteArray} (h : fmOf opTab x = none) : toldOV (x :: r) = .tuple #[.int .i64 0, zeroP.val, .int .i64 222] := by
  show toldOF r (fmOf opTab x) = _
  rw [h]
  rfl
def sixS (w : World) (g : Nat) (x : OpR) : World := (((((w.setCell ⟨g, 0, none⟩ (.int .i64 x.kind)).setCell ⟨g, 1, none⟩ (.string x.path)).setCell ⟨g, 2, none⟩ (.string x.to)).setCell ⟨g, 3, none⟩ (.int .i64 x.at_)).setCell ⟨g, 4, none⟩ (.int .i64 x.n)).setCell ⟨g, 5, none⟩ (.string x.data)
theorem OpAt.putAll {w : World} {g : Nat} {y : OpR} (h : OpAt w g y) (x : OpR) : OpAt (sixS w g x) g x := by
  unfold OpAt sixS at *
  simp [World.setCell, Array.getElem?_modify, h, OpR.cells]
theorem OpAt.drew {w : World} {g : Nat} {o : OpR} (h : OpAt w g o) : OpAt w.drew g o := h
theorem below_sixO {B g : Nat} {a w : World} {x : OpR} (h : Below B a w) (hg : B ≤ g) : Below B a (sixS w g x) :=
  (((((h.setCell (p := ⟨g, 0, none⟩) hg _).setCell (p := ⟨g, 1, none⟩) hg _).setCell (p := ⟨g, 2, none⟩) hg _).setCell (p := ⟨g, 3, none⟩) hg _).setCell (p := ⟨g, 4, none⟩) hg _).setCell (p := ⟨g, 5, none⟩) hg _
theorem GlB.up {B : Nat} {w : World} (h : GlB B w) : GlB w.heap.size w := ⟨h.it, h.et, Nat.lt_of_lt_of_le h.b0 h.le, Nat.lt_of_lt_of_le h.b1 h.le, Nat.lt_of_lt_of_le h.b2 h.le, Nat.le_refl _⟩
theorem below_row {w w1 : World} {B g : Nat} (h : Below B w w1) (hg : B ≤ g) (cs : Array Value) : Below B w (w1.setRow g cs) := h.trans ⟨rfl, rfl, rfl, by simp, fun i hi => setRow_other _ _ _ _ (by omega)⟩
set_option maxRecDepth 20000 in
set_option maxHeartbeats 1000000 in
theorem toldO_any (B : Nat) (x : ByteArray) (r : List ByteArray) (hs : ∀ y ∈ x :: r, y.size ≤ 8388608) (b off c fg : Nat) (hc : (x :: r).length ≤ c) (hlen : (x :: r).length ≤ 8388608) (w : World) (hcs : ∀ (i : Nat) s, (x :: r)[i]? = some s → w.cell? ⟨b, off + i, none⟩ = some (.string s)) (hbt : ∃ cs, w.heap[b]? = some (.cells cs 9 (0, 0)))
    (hg : w.heap[fg]? = some (.cells (tabC opTab) 137 (0, 0))) (hG : GlB B w) :
    Calls Tryz.prog 142 #[.slice (some ⟨fg, 0, none⟩) 10 10, .slice (some ⟨b, off, none⟩) (x :: r).length c] w fun e w' => e = .returned (toldOV (x :: r)) ∧ Below w.heap.size w w' := by
  obtain ⟨m, hm⟩ : ∃ m, (x :: r).length = m := ⟨_, rfl⟩
  rw [hm] at hc hlen ⊢
  obtain ⟨W, hW⟩ : ∃ W, (((w.alloc (.cells #[.slice (some ⟨b, off, none⟩) m c] 96)).alloc (.cells #[.int .i64 0, .string { data := #[] }, .string { data := #[] }, .int .i64 0, .int .i64 0, .string { data := #[] }] 54)).alloc (.cells #[.int .i64 0, .string { data := #[] }, .string { data := #[] }, .int .i64 0, .int .i64 0, .string { data := #[] }] 54)).alloc (.cells #[.int .i64 0, .string { data := #[] }, .string { data := #[] }, .int .i64 0, .int .i64 0, .string { data := #[] }] 54) = W := ⟨_, rfl⟩
  have hbW : Below w.heap.size w W := by
    rw [← hW]
    exact ((((Below.refl w.heap.size w).alloc (Nat.le_refl _) _).alloc (by simp) _).alloc (by simp <;> omega) _).alloc (by simp <;> omega) _
  have hq0 : W.heap[w.heap.size]? = some (.cells #[.slice (some ⟨b, off, none⟩) m c] 96 (0, 0)) := by
    rw [← hW]
    exact (Lib.alloc_old _ _ _ (by simp <;> omega)).trans ((Lib.alloc_old _ _ _ (by simp <;> omega)).trans ((Lib.alloc_old _ _ _ (by simp)).trans (heap_alloc_new _ _)))
  have hq1 : OpAt W (w.heap.size + 1) zeroP := by
    show W.heap[_]? = _
    rw [← hW]
    refine (Lib.alloc_old _ _ _ (by simp <;> omega)).trans ((Lib.alloc_old _ _ _ (by simp)).trans ?_)
    have h := heap_alloc_new (w.alloc (.cells #[.slice (some ⟨b, off, none⟩) m c] 96)) (.cells zeroP.cells 54)
    rw [show (w.alloc (.cells #[.slice (some ⟨b, off, none⟩) m c] 96)).heap.size = w.heap.size + 1 by simp] at h
    exact h
  have hq2 : OpAt W (w.heap.size + 1 + 1) zeroP := by
    show W.heap[_]? = _
    rw [← hW]
    refine (Lib.alloc_old _ _ _ (by simp)).trans ?_
    have h := heap_alloc_new ((w.alloc (.cells #[.slice (some ⟨b, off, none⟩) m c] 96)).alloc (.cells zeroP.cells 54)) (.cells zeroP.cells 54)
    rw [show ((w.alloc (.cells #[.slice (some ⟨b, off, none⟩) m c] 96)).alloc (.cells zeroP.cells 54)).heap.size = w.heap.size + 1 + 1 by simp] at h
    exact h
  have hq3 : OpAt W (w.heap.size + 1 + 1 + 1) zeroP := by
    show W.heap[_]? = _
    rw [← hW]
    have h := heap_alloc_new (((w.alloc (.cells #[.slice (some ⟨b, off, none⟩) m c] 96)).alloc (.cells zeroP.cells 54)).alloc (.cells zeroP.cells 54)) (.cells zeroP.cells 54)
    rw [show (((w.alloc (.cells #[.slice (some ⟨b, off, none⟩) m c] 96)).alloc (.cells zeroP.cells 54)).alloc (.cells zeroP.cells 54)).heap.size = w.heap.size + 1 + 1 + 1 by simp] at h
    exact h
  have hm1 : 0 < m := by rw [← hm]; simp
  have HB : Hid (Below w.heap.size w W ∧ W.heap.size = w.heap.size + 1 + 1 + 1 + 1) := ⟨hbW, by rw [← hW]; simp⟩
  have HQ : Hid (OpAt W (w.heap.size + 1) zeroP ∧ OpAt W (w.heap.size + 1 + 1) zeroP ∧ OpAt W (w.heap.size + 1 + 1 + 1) zeroP) := ⟨hq1, hq2, hq3⟩
  have HL : Hid (W.heap[w.heap.size]? = some (.cells #[.slice (some ⟨b, off, none⟩) m c] 96 (0, 0))) := hq0
  have hgW := (hbW.block _ (heap_lt hg)).trans hg
  have hx0 : W.cell? ⟨b, off, none⟩ = some (.string x) := by
    have h := hcs 0 x rfl
    exact (hbW.cell (p := ⟨b, off, none⟩) (block_lt_of_cell h)).trans h
  have hix := indexWord_any opTab 10 rfl (by decide) x w.heap.size b off m c fg hm1 W (by rw [Lib.cell_of_heap hq0]; rfl) hx0 hgW
  have HG : Hid (GlB B w) := hG
  have HSZ : Hid (∀ y ∈ r, y.size ≤ 8388608) := fun y hy => hs y (List.mem_cons_of_mem _ hy)
  have HCS : Hid (∀ (i : Nat) s, (x :: r)[i]? = some s → w.cell? ⟨b, off + i, none⟩ = some (.string s)) := hcs
  have HBT : Hid (∃ cs, w.heap[b]? = some (.cells cs 9 (0, 0))) := hbt
  have HFG : Hid (W.heap[fg]? = some (.cells (tabC opTab) 137 (0, 0))) := hgW
  have HM : Hid ((x :: r).length = m ∧ r.length = m - 1) := ⟨hm, by rw [← hm]; simp⟩
  clear hq0 hq1 hq2 hq3 hbW hcs hbt hg hG hs hm hx0 hgW
  go_enter Tryz.func142, Tryz.ntmps142
  go_wp2_with fail
  clear hW
  refine hix.mono ?_
  rintro e w1 ⟨hidx, hb1⟩
  clear hix
  rcases hidx with ⟨i, f, hf, hfk, hfirst, rfl⟩ | ⟨hno, rfl⟩
  · have hmem : f ∈ opTab := List.mem_of_getElem? hf
    have HFM : Hid (f ∈ opTab ∧ fmOf opTab x = some f) := ⟨hmem, fmOf_hit opTab x i f hf hfk hfirst⟩
    have hi10 : i < 10 := (List.getElem?_eq_some_iff.1 hf).1
    have hiI : (i : Int) < 10 := by omega
    have hiN : ¬ (i : Int) < 0 := by omega
    have hfg1 := (hb1.block _ (heap_lt HFG.out)).trans HFG.out
    obtain ⟨c0, c1, c2, c3, c4⟩ := tab_cell hfg1 hf
    have l0 : w1.cell? ⟨w.heap.size, 0, none⟩ = some (.slice (some ⟨b, off, none⟩) m c) := by rw [Lib.cell_of_heap ((hb1.block _ (heap_lt HL.out)).trans HL.out)]; rfl
    have HB1 : Hid (Below w.heap.size w w1 ∧ Below W.heap.size W w1) := ⟨HB.out.1.trans (hb1.mono HB.out.1.size), hb1⟩
    have HIF : Hid (opTab[i]? = some f) := hf
    clear hf hfk hfirst hb1 hmem
    by_cases hct : (m : Int) = f.count
    · have hctI : ((m : Int) != f.count) = false := by simp [hct]
      have hmI1 : (1 : Int) ≤ (m : Int) := by omega
      have hmc : (m : Int) ≤ (c : Int) := by omega
      go_wp2_with fail
      go_quiet (fail)
      have m0 : (w1.drewN nq).cell? ⟨w.heap.size, 0, none⟩ = some (.slice (some ⟨b, off, none⟩) m c) := l0
      have HWD : Hid (∀ (nq : Nat) (a : Option Addr) (c' : Nat), (r ≠ [] → a = some ⟨b, off + 1, none⟩) → m - 1 ≤ c' → Wd w1.heap.size r false ((w1.drewN nq).alloc (.cells #[.slice a (m - 1) c', .bool false] 206))) := fun nq a c' ha hc' => by
        have hnew := heap_alloc_new (w1.drewN nq) (.cells #[.slice a (m - 1) c', .bool false] 206)
        refine ⟨a, c', by rw [HM.out.2]; exact hnew, by rw [HM.out.2]; exact hc', fun hne => ?_⟩
        obtain ⟨cs, hty⟩ := HBT.out
        have hbl := heap_lt hty
        have hbW : Below w.heap.size w ((w1.drewN nq).alloc (.cells #[.slice a (m - 1) c', .bool false] 206)) := Below.alloc (w := w1.drewN nq) ⟨HB1.out.1.os, HB1.out.1.tape, HB1.out.1.output, HB1.out.1.size, HB1.out.1.block⟩ HB1.out.1.size _
        refine ⟨b, off + 1, ha hne, by have := HB1.out.1.size; omega, Nat.lt_of_lt_of_le hbl hbW.size, ⟨cs, (hbW.block _ hbl).trans hty⟩, fun i s hs => ?_⟩
        have h := HCS.out (i + 1) s hs
        rw [show off + 1 + i = off + (i + 1) by omega]
        exact (hbW.cell (p := ⟨b, off + (i + 1), none⟩) hbl).trans h
      by_cases hc1 : c = 1
      · exfalso
        have := op_count f HFM.out.1
        omega
      · have hw2 : Wd w1.heap.size r false ((w1.drewN nq).alloc (.cells #[.slice (some ⟨b, off + 1, none⟩) (m - 1) (c - 1), .bool false] 206)) := HWD.out nq (some ⟨b, off + 1, none⟩) (c - 1) (fun _ => rfl) (by omega)
        obtain ⟨W2, hW2⟩ : ∃ W2, (w1.drewN nq).alloc (.cells #[.slice (some ⟨b, off + 1, none⟩) (m - 1) (c - 1), .bool false] 206) = W2 := ⟨_, rfl⟩
        have hbW2 : Below w1.heap.size w1 W2 := by
          rw [← hW2]
          have h0 : Below w1.heap.size w1 (w1.drewN nq) := ⟨rfl, rfl, rfl, Nat.le_refl _, fun _ _ => rfl⟩
          exact h0.alloc (Nat.le_refl _) _
        rw [hW2] at hw2
        have HW2 : Hid (Unit → _ = W2) := fun _ => hW2
        clear hW2
        go_upto_region 8 with fail
        rw [HW2.out ()]
        clear HW2
        have HBW2 : Hid (Below w1.heap.size w1 W2) := hbW2
        obtain ⟨c0, c1, c2, c3, c4⟩ := tab_cell ((hbW2.block _ (heap_lt hfg1)).trans hfg1) HIF.out
        have hob : w.heap.size + 1 + 1 ≠ w1.heap.size := by have := HB.out.2; have := HB1.out.2.size; omega
        have hrd := rd_any f HFM.out.1 r (by rw [HM.out.2]; omega) HSZ.out zeroP w.heap.size w1.heap.size (w.heap.size + 1 + 1) hob HB1.out.1.size (by omega) W2 hw2 ((HQ.out.2.1.below HB1.out.2 HQ.out.2.1.lt).below hbW2 (by have := HB.out.2; have := HB1.out.2.size; omega)) (HG.out.up.to (HB1.out.1.trans (hbW2.mono HB1.out.1.size)))
        have hcf := cf_rd f HFM.out.1
        obtain ⟨o', ho'⟩ : ∃ o', (rdO f.rd zeroP r).1 = o' := ⟨_, rfl⟩
        obtain ⟨bd, hbd⟩ : ∃ bd, (rdO f.rd zeroP r).2 = bd := ⟨_, rfl⟩
        rw [ho', hbd] at hrd
        have HRD : Hid ((rdO f.rd zeroP r).1 = o' ∧ (rdO f.rd zeroP r).2 = bd) := ⟨ho', hbd⟩
        have HNE : Hid (¬ ((r.length : Int) + 1 ≠ f.count)) := fun h => h (by rw [HM.out.2]; omega)
        obtain ⟨fr, hfr⟩ : ∃ fr, f.rd = fr := ⟨_, rfl⟩
        rw [hfr] at hrd hcf c4
        clear ho' hbd hw2 hbW2 hfr
        go_wp2_with fail
        refine hrd.mono ?_
        rintro e w3 ⟨rfl, hR⟩
        clear hrd hcf c0 c1 c2 c3 c4
        have HK : Hid (∀ k, k < w1.heap.size → k ≠ w.heap.size + 1 + 1 → w3.heap[k]? = w1.heap[k]?) := fun k hk hne => (hR.only.block k (Nat.lt_of_lt_of_le hk HBW2.out.size) (by simp; omega)).trans (HBW2.out.block k hk)
        have HB3 : Hid (Below w.heap.size w w3) := HB1.out.1.trans ((HBW2.out.mono HB1.out.1.size).trans (hR.only.below (Nat.le_trans HB1.out.1.size HBW2.out.size) (by simp; exact ⟨HB1.out.1.size, by omega⟩)))
        have hv3 : OpAt w3 (w.heap.size + 1 + 1) o' := hR.op
        have hwc := wcode_any w1.heap.size [] bd w3 hR.wd
        have hr3 : w3.heap[w.heap.size + 1]? = some (.cells zeroP.cells 54 (0, 0)) := (HK.out _ (Nat.lt_of_lt_of_le HQ.out.1.lt HB1.out.2.size) (by omega)).trans (HQ.out.1.below HB1.out.2 HQ.out.1.lt)
        have hn3 : w3.heap[w.heap.size + 1 + 1 + 1]? = some (.cells zeroP.cells 54 (0, 0)) := (HK.out _ (Nat.lt_of_lt_of_le HQ.out.2.2.lt HB1.out.2.size) (by omega)).trans (HQ.out.2.2.below HB1.out.2 HQ.out.2.2.lt)
        have hfg3 : w3.heap[fg]? = some (.cells (tabC opTab) 137 (0, 0)) := (HK.out _ (heap_lt hfg1) (by
          intro e
          subst e
          have h0 : W.heap[_]? = _ := HQ.out.2.1
          rw [HFG.out] at h0
          injection h0 with h0
          injection h0 with _ q _
          revert q
          decide)).trans hfg1
        have HV : Hid (w3.heap[w.heap.size + 1 + 1]? = some (.cells o'.cells 54 (0, 0))) := hv3
        have HR : Hid (w3.heap[w.heap.size + 1]? = some (.cells zeroP.cells 54 (0, 0))) := hr3
        have HN : Hid (w3.heap[w.heap.size + 1 + 1 + 1]? = some (.cells zeroP.cells 54 (0, 0))) := hn3
        clear hv3 hr3 hn3 hR
        cases bd with
        | true =>
          have HF : Hid (toldOV (x :: r) = .tuple #[.int .i64 0, zeroP.val, .int .i64 224]) := by
            show _ = _
            rw [toldOV_some HFM.out.2, if_neg HNE.out, HRD.out.2, if_pos rfl]
          clear hfg3 hfg1 l0 m0
          go_wp2_with fail
          refine hwc.mono ?_
          rintro e w4 ⟨rfl, rfl⟩
          clear hwc
          have HBU : Hid (Below w.heap.size w w4) := HB3.out
          have hsrc : OpAt w4 (w.heap.size + 1 + 1 + 1) zeroP := HN.out
          have hres : OpAt w4 (w.heap.size + 1) zeroP := HR.out
          clear HV HR HN
          obtain ⟨x0, x1, x2, x3, x4, x5⟩ := hsrc.drew.six
          obtain ⟨y0, y1, y2, y3, y4, y5⟩ := hsrc.six
          obtain ⟨r0, r1, r2, r3, r4, r5⟩ := hres.drew.six
          have rf := hres.drew.frozen
          obtain ⟨s0, s1, s2, s3, s4, s5⟩ := hres.six
          have sf := hres.frozen
          have hF : OpAt (sixS w4 (w.heap.size + 1) zeroP).drew (w.heap.size + 1) zeroP := (hres.putAll zeroP).drew
          have hBF : Below w.heap.size w (sixS w4 (w.heap.size + 1) zeroP).drew := Below.drew (below_sixO HBU.out (by omega))
          obtain ⟨V9, hV9⟩ : ∃ V9, (sixS w4 (w.heap.size + 1) zeroP).drew = V9 := ⟨_, rfl⟩
          rw [hV9] at hF hBF
          have HFO : Hid (V9.heap[w.heap.size + 1]? = some (.cells (OpR.cells zeroP) 54 (0, 0))) := hF
          have HBF : Hid (Below w.heap.size w V9) := hBF
          have HV9 : Hid (Unit → (sixS w4 (w.heap.size + 1) zeroP).drew = V9) := fun _ => hV9
          clear hsrc hres hF hBF hV9
          unfold sixS at HV9
          go_wp2_with fail
          go_region
          all_goals
            rw [HV9.out ()]
            clear HV9 x0 x1 x2 x3 x4 x5 y0 y1 y2 y3 y4 y5 r0 r1 r2 r3 r4 r5 rf s0 s1 s2 s3 s4 s5 sf
            go_wp2
            refine bodyPost_ret (results_tct rfl _ _ (w.heap.size + 1) 54 _ (0, 0) _ rfl HFO.out Tryz.underlying54 rfl sizeOp6) rfl ?_
            rw [HF.out]
            exact ⟨rfl, HBF.out⟩
        | false =>
          have HF : Hid (toldOV (x :: r) = .tuple #[.int .i64 f.kind, o'.val, .int .i64 0]) := by
            show _ = _
            rw [toldOV_some HFM.out.2, if_neg HNE.out, HRD.out.2, if_neg (by decide), HRD.out.1]
          obtain ⟨c0, c1, c2, c3, c4⟩ := tab_cell hfg3 HIF.out
          clear hfg3 hfg1 l0 m0
          go_wp2_with fail
          refine hwc.mono ?_
          rintro e w4 ⟨rfl, rfl⟩
          clear hwc
          have HBU : Hid (Below w.heap.size w w4) := HB3.out
          have hsrc : OpAt w4 (w.heap.size + 1 + 1) o' := HV.out
          have hres : OpAt w4 (w.heap.size + 1) zeroP := HR.out
          have d0 : w4.drew.cell? ⟨fg, i * 5, none⟩ = some (.int .i64 f.kind) := c0
          clear HV HR HN c1 c2 c3 c4
          obtain ⟨x0, x1, x2, x3, x4, x5⟩ := hsrc.drew.six
          obtain ⟨y0, y1, y2, y3, y4, y5⟩ := hsrc.six
          obtain ⟨r0, r1, r2, r3, r4, r5⟩ := hres.drew.six
          have rf := hres.drew.frozen
          obtain ⟨s0, s1, s2, s3, s4, s5⟩ := hres.six
          have sf := hres.frozen
          have hF : OpAt (sixS w4 (w.heap.size + 1) o').drew (w.heap.size + 1) o' := (hres.putAll o').drew
          have hBF : Below w.heap.size w (sixS w4 (w.heap.size + 1) o').drew := Below.drew (below_sixO HBU.out (by omega))
          obtain ⟨V9, hV9⟩ : ∃ V9, (sixS w4 (w.heap.size + 1) o').drew = V9 := ⟨_, rfl⟩
          rw [hV9] at hF hBF
          have HFO : Hid (V9.heap[w.heap.size + 1]? = some (.cells (OpR.cells o') 54 (0, 0))) := hF
          have HBF : Hid (Below w.heap.size w V9) := hBF
          have HV9 : Hid (Unit → (sixS w4 (w.heap.size + 1) o').drew = V9) := fun _ => hV9
          clear hsrc hres hF hBF hV9
          unfold sixS at HV9
          go_wp2_with fail
          go_region
          all_goals
            rw [HV9.out ()]
            clear HV9 x0 x1 x2 x3 x4 x5 y0 y1 y2 y3 y4 y5 r0 r1 r2 r3 r4 r5 rf s0 s1 s2 s3 s4 s5 sf
            go_wp2
            refine bodyPost_ret (results_tct rfl _ _ (w.heap.size + 1) 54 _ (0, 0) _ rfl HFO.out Tryz.underlying54 rfl sizeOp6) rfl ?_
            rw [HF.out]
            exact ⟨rfl, HBF.out⟩
    · have HF : Hid (toldOV (x :: r) = .tuple #[.int .i64 0, zeroP.val, .int .i64 223]) := by
        show _ = _
        rw [toldOV_some HFM.out.2, if_pos (by rw [HM.out.2]; omega)]
      have hctI : ((m : Int) != f.count) = true := by simp [hct]
      go_wp2_with fail
      go_quiet (fail)
      have hn3 : OpAt (w1.drewN nq) (w.heap.size + 1 + 1 + 1) zeroP := HQ.out.2.2.below (w' := w1) HB1.out.2 HQ.out.2.2.lt
      have hr1 : OpAt (w1.drewN nq) (w.heap.size + 1) zeroP := HQ.out.1.below (w' := w1) HB1.out.2 HQ.out.1.lt
      have HBU : Hid (Below w.heap.size w (w1.drewN nq)) := ⟨HB1.out.1.os, HB1.out.1.tape, HB1.out.1.output, HB1.out.1.size, HB1.out.1.block⟩
      clear hfg1 c0 c1 c2 c3 c4 l0
      obtain ⟨U, hU⟩ : ∃ U, w1.drewN nq = U := ⟨_, rfl⟩
      rw [hU] at hn3 hr1 HBU ⊢
      clear hU
      have hsrc := hn3
      have hres := hr1
      clear hn3 hr1
      obtain ⟨x0, x1, x2, x3, x4, x5⟩ := hsrc.drew.six
      obtain ⟨y0, y1, y2, y3, y4, y5⟩ := hsrc.six
      obtain ⟨r0, r1, r2, r3, r4, r5⟩ := hres.drew.six
      have rf := hres.drew.frozen
      obtain ⟨s0, s1, s2, s3, s4, s5⟩ := hres.six
      have sf := hres.frozen
      have hF : OpAt (sixS U (w.heap.size + 1) zeroP).drew (w.heap.size + 1) zeroP := (hres.putAll zeroP).drew
      have hBF : Below w.heap.size w (sixS U (w.heap.size + 1) zeroP).drew := Below.drew (below_sixO HBU.out (by omega))
      obtain ⟨V9, hV9⟩ : ∃ V9, (sixS U (w.heap.size + 1) zeroP).drew = V9 := ⟨_, rfl⟩
      rw [hV9] at hF hBF
      have HFO : Hid (V9.heap[w.heap.size + 1]? = some (.cells (OpR.cells zeroP) 54 (0, 0))) := hF
      have HBF : Hid (Below w.heap.size w V9) := hBF
      have HV9 : Hid (Unit → (sixS U (w.heap.size + 1) zeroP).drew = V9) := fun _ => hV9
      clear hsrc hres hF hBF hV9
      unfold sixS at HV9
      go_wp2_with fail
      go_region
      all_goals
        rw [HV9.out ()]
        clear HV9 x0 x1 x2 x3 x4 x5 y0 y1 y2 y3 y4 y5 r0 r1 r2 r3 r4 r5 rf s0 s1 s2 s3 s4 s5 sf
        go_wp2
        refine bodyPost_ret (results_tct rfl _ _ (w.heap.size + 1) 54 _ (0, 0) _ rfl HFO.out Tryz.underlying54 rfl sizeOp6) rfl ?_
        rw [HF.out]
        exact ⟨rfl, HBF.out⟩
  · have HF : Hid (toldOV (x :: r) = .tuple #[.int .i64 0, zeroP.val, .int .i64 222]) := toldOV_none (fmOf_none opTab x hno)
    have hsrc : OpAt w1 (w.heap.size + 1 + 1 + 1) zeroP := HQ.out.2.2.below hb1 HQ.out.2.2.lt
    have hres : OpAt w1 (w.heap.size + 1) zeroP := HQ.out.1.below hb1 HQ.out.1.lt
    have HBU : Hid (Below w.heap.size w w1) := HB.out.1.trans (hb1.mono HB.out.1.size)
    clear hno hb1
    obtain ⟨x0, x1, x2, x3, x4, x5⟩ := hsrc.drew.six
    obtain ⟨y0, y1, y2, y3, y4, y5⟩ := hsrc.six
    obtain ⟨r0, r1, r2, r3, r4, r5⟩ := hres.drew.six
    have rf := hres.drew.frozen
    obtain ⟨s0, s1, s2, s3, s4, s5⟩ := hres.six
    have sf := hres.frozen
    have hF : OpAt (sixS w1 (w.heap.size + 1) zeroP).drew (w.heap.size + 1) zeroP := (hres.putAll zeroP).drew
    have hBF : Below w.heap.size w (sixS w1 (w.heap.size + 1) zeroP).drew := Below.drew (below_sixO HBU.out (by omega))
    obtain ⟨V9, hV9⟩ : ∃ V9, (sixS w1 (w.heap.size + 1) zeroP).drew = V9 := ⟨_, rfl⟩
    rw [hV9] at hF hBF
    have HFO : Hid (V9.heap[w.heap.size + 1]? = some (.cells (OpR.cells zeroP) 54 (0, 0))) := hF
    have HBF : Hid (Below w.heap.size w V9) := hBF
    have HV9 : Hid (Unit → (sixS w1 (w.heap.size + 1) zeroP).drew = V9) := fun _ => hV9
    clear hsrc hres hF hBF hV9
    unfold sixS at HV9
    go_wp2_with fail
    go_region
    all_goals
      rw [HV9.out ()]
      clear HV9 x0 x1 x2 x3 x4 x5 y0 y1 y2 y3 y4 y5 r0 r1 r2 r3 r4 r5 rf s0 s1 s2 s3 s4 s5 sf
      go_wp2
      refine bodyPost_ret (results_tct rfl _ _ (w.heap.size + 1) 54 _ (0, 0) _ rfl HFO.out Tryz.underlying54 rfl sizeOp6) rfl ?_
      rw [HF.out]
      exact ⟨rfl, HBF.out⟩
end Go.Proofs.YtlmopjbfagijeaaGreatDoor.Sc
