import Derived.BigRegion
import Derived.Deep.RegionLaw
import Derived.Deep.Cut
import Derived.Test.YtlmopjbfagijeaaGreatDoorYeM
import Derived.Test.YtlmopjbfagijeaaGreatDoorYgM
import Derived.Test.YtlmopjbfagijeaaGreatDoorYhM
namespace Go.Proofs.YtlmopjbfagijeaaGreatDoor.Sc
open Go.RowKit Go.Lib Go.Deep

def actsL : List ByteArray := [{ data := #[] }, { data := #[102, 111, 114, 109, 97, 116] }, { data := #[114, 101, 99, 111, 118, 101, 114] }, { data := #[98, 97, 116, 99, 104] }, { data := #[102, 117, 115, 101] }, { data := #[112, 111, 119, 101, 114] }, { data := #[101, 100, 105, 116] }]
theorem sizeAct : (Tryz.prog.info? 36).map (·.size) = some 9 := by kernel_rfl
set_option maxRecDepth 20000 in
set_option maxHeartbeats 1000000 in
theorem rActs_any (w : World) :
    Calls Tryz.prog 63 #[] w fun e w' => e = .returned (.slice (some ⟨w.heap.size, 0, none⟩) 7 7) ∧ w' = w.alloc (.cells (actsL.map Value.string).toArray 9) := by
  go_enter Tryz.func63, Tryz.ntmps63
  go_wp2_with fail
  go_ret
  exact ⟨rfl, rfl⟩
def zeroA (k : Int) : ActR := ⟨k, none, 0, 0, 0, 0, 0, 0, 0, nil_, nil_⟩
def nmdA (a : ActR) : ActR := if a.kind = 4 then { zeroA a.kind with i := a.i } else if a.kind = 6 then { zeroA a.kind with before := a.before, ek := a.ek, put := a.put, frm := a.frm, name := a.name, blob := a.blob } else zeroA a.kind
def refL (a : ActR) (nm : List UInt8) : List UInt8 := if a.kind = 4 then nm ++ 32 :: itoa a.i else if a.kind = 6 then nm ++ 32 :: itoa a.before ++ 32 :: itoa a.ek ++ 32 :: itoa a.put ++ 32 :: itoa a.frm ++ 32 :: byL a.name ++ 32 :: byL a.blob else nm
/-- nine cells set -/
def nineS (w : World) (g : Nat) (x : ActR) : World := ((((((((w.setCell ⟨g, 0, none⟩ (.int .i64 x.kind)).setCell ⟨g, 1, none⟩ (.slice x.ops x.nops x.cops)).setCell ⟨g, 2, none⟩ (.int .i64 x.i)).setCell ⟨g, 3, none⟩ (.int .i64 x.before)).setCell ⟨g, 4, none⟩ (.int .i64 x.ek)).setCell ⟨g, 5, none⟩ (.int .i64 x.put)).setCell ⟨g, 6, none⟩ (.int .i64 x.frm)).setCell ⟨g, 7, none⟩ (.string x.name)).setCell ⟨g, 8, none⟩ (.string x.blob)
theorem ActAt.putAll {w : World} {g : Nat} {y : ActR} (h : ActAt w g y) (x : ActR) : ActAt (nineS w g x) g x := by
  unfold ActAt at h ⊢
  simp [nineS, World.setCell, Array.getElem?_modify, h, ActR.cells]
theorem ActAt.drew {w : World} {g : Nat} {y : ActR} (h : ActAt w g y) : ActAt w.drew g y := h
theorem ActAt.putI {w : World} {g : Nat} {y : ActR} (h : ActAt w g y) (u : Int) : ActAt (w.setCell ⟨g, 2, none⟩ (.int .i64 u)) g { y with i := u } := by
  unfold ActAt at h ⊢
  simp [World.setCell, Array.getElem?_modify, h, ActR.cells]
theorem ActAt.putE {w : World} {g : Nat} {y : ActR} (h : ActAt w g y) (o : ActR) : ActAt (six w g 3 (.int .i64 o.before) (.int .i64 o.ek) (.int .i64 o.put) (.int .i64 o.frm) (.string o.name) (.string o.blob)) g { y with before := o.before, ek := o.ek, put := o.put, frm := o.frm, name := o.name, blob := o.blob } := by
  unfold ActAt at h ⊢
  simp [six, World.setCell, Array.getElem?_modify, h, ActR.cells]
theorem below_nine {B g : Nat} {a w : World} {x : ActR} (h : Below B a w) (hg : B ≤ g) : Below B a (nineS w g x) :=
  ((((((((h.setCell (p := ⟨g, 0, none⟩) hg _).setCell (p := ⟨g, 1, none⟩) hg _).setCell (p := ⟨g, 2, none⟩) hg _).setCell (p := ⟨g, 3, none⟩) hg _).setCell (p := ⟨g, 4, none⟩) hg _).setCell (p := ⟨g, 5, none⟩) hg _).setCell (p := ⟨g, 6, none⟩) hg _).setCell (p := ⟨g, 7, none⟩) hg _).setCell (p := ⟨g, 8, none⟩) hg _
theorem str_of (s : ByteArray) : str s.data.toList = s := by
  apply ByteArray.ext
  simp [str]
theorem six_sums (T U1 U2 U3 U4 U5 U6 : List UInt8) (hT : T.length ≤ 10) (h1 : U1.length ≤ 3500000) (h2 : U2.length ≤ 3500000) (h3 : U3.length ≤ 3500000) (h4 : U4.length ≤ 3500000) (h5 : U5.length ≤ 3500000) (h6 : U6.length ≤ 3500000) :
    ∃ y37 y41 y42 y46 y47 y51 y52 y56 y57 y61 y62 y66 : ByteArray, (str T ++ ({ data := #[32] } : ByteArray) = y37 ∧ ¬ 9223372036854775807 < (str T).size + 1) ∧ (y37 ++ str U1 = y41 ∧ ¬ 9223372036854775807 < y37.size + (str U1).size)
      ∧ (y41 ++ ({ data := #[32] } : ByteArray) = y42 ∧ ¬ 9223372036854775807 < y41.size + 1) ∧ (y42 ++ str U2 = y46 ∧ ¬ 9223372036854775807 < y42.size + (str U2).size)
      ∧ (y46 ++ ({ data := #[32] } : ByteArray) = y47 ∧ ¬ 9223372036854775807 < y46.size + 1) ∧ (y47 ++ str U3 = y51 ∧ ¬ 9223372036854775807 < y47.size + (str U3).size)
      ∧ (y51 ++ ({ data := #[32] } : ByteArray) = y52 ∧ ¬ 9223372036854775807 < y51.size + 1) ∧ (y52 ++ str U4 = y56 ∧ ¬ 9223372036854775807 < y52.size + (str U4).size)
      ∧ (y56 ++ ({ data := #[32] } : ByteArray) = y57 ∧ ¬ 9223372036854775807 < y56.size + 1) ∧ (y57 ++ str U5 = y61 ∧ ¬ 9223372036854775807 < y57.size + (str U5).size)
      ∧ (y61 ++ ({ data := #[32] } : ByteArray) = y62 ∧ ¬ 9223372036854775807 < y61.size + 1) ∧ (y62 ++ str U6 = y66 ∧ ¬ 9223372036854775807 < y62.size + (str U6).size)
      ∧ y66 = str (T ++ 32 :: U1 ++ 32 :: U2 ++ 32 :: U3 ++ 32 :: U4 ++ 32 :: U5 ++ 32 :: U6) := by
  obtain ⟨a1, b1, p1, q1, r1⟩ := two_sums T U1 (by omega) (by omega)
  obtain ⟨a2, b2, p2, q2, r2⟩ := two_sums (T ++ 32 :: U1) U2 (by simp only [List.length_append, List.length_cons]; omega) (by omega)
  obtain ⟨a3, b3, p3, q3, r3⟩ := two_sums (T ++ 32 :: U1 ++ 32 :: U2) U3 (by simp only [List.length_append, List.length_cons]; omega) (by omega)
  obtain ⟨a4, b4, p4, q4, r4⟩ := two_sums (T ++ 32 :: U1 ++ 32 :: U2 ++ 32 :: U3) U4 (by simp only [List.length_append, List.length_cons]; omega) (by omega)
  obtain ⟨a5, b5, p5, q5, r5⟩ := two_sums (T ++ 32 :: U1 ++ 32 :: U2 ++ 32 :: U3 ++ 32 :: U4) U5 (by simp only [List.length_append, List.length_cons]; omega) (by omega)
  obtain ⟨a6, b6, p6, q6, r6⟩ := two_sums (T ++ 32 :: U1 ++ 32 :: U2 ++ 32 :: U3 ++ 32 :: U4 ++ 32 :: U5) U6 (by simp only [List.length_append, List.length_cons]; omega) (by omega)
  rw [← r1] at p2
  rw [← r2] at p3
  rw [← r3] at p4
  rw [← r4] at p5
  rw [← r5] at p6
  exact ⟨a1, b1, a2, b2, a3, b3, a4, b4, a5, b5, a6, b6, p1, q1, p2, q2, p3, q3, p4, q4, p5, q5, p6, q6, r6⟩
def zeroAV : Array Value := #[.int .i64 0, .slice none 0 0, .int .i64 0, .int .i64 0, .int .i64 0, .int .i64 0, .int .i64 0, .string { data := #[] }, .string { data := #[] }]
def kindAV (k : Int) : Array Value := #[.int .i64 k, .slice none 0 0, .int .i64 0, .int .i64 0, .int .i64 0, .int .i64 0, .int .i64 0, .string { data := #[] }, .string { data := #[] }]
set_option maxRecDepth 20000 in
set_option maxHeartbeats 4000000 in
theorem actLine_any (o : ActR) (hok : o.Ok) (k : Nat) (h1 : 1 ≤ k) (hk : o.kind = k) (nm : ByteArray) (hnm : actsL[k]? = some nm) (w : World) (ht : ITab w) :
    Calls Tryz.prog 28 #[.agg o.cells] w fun e w' => e = .returned (.tuple #[.string (str (refL o nm.data.toList)), .agg (nmdA o).cells]) ∧ Below w.heap.size w w' := by
  obtain ⟨W, hW⟩ : ∃ W, ((w.alloc (.cells o.cells 36)).alloc (.cells zeroAV 36)).alloc (.cells (kindAV o.kind) 36) = W := ⟨_, rfl⟩
  have hbW : Below w.heap.size w W := by rw [← hW]; exact (((Below.refl _ _).alloc (Nat.le_refl _) _).alloc (by simp) _).alloc (by simp; omega) _
  have hWs : W.heap.size = w.heap.size + 1 + 1 + 1 := by rw [← hW]; simp
  have hoW : ActAt W w.heap.size o := by
    rw [← hW]
    exact (Lib.alloc_old _ _ _ (by simp; omega)).trans ((Lib.alloc_old _ _ _ (by simp)).trans (heap_alloc_new _ _))
  have hrW : ActAt W (w.heap.size + 1) (zeroA 0) := by
    rw [← hW]
    exact (Lib.alloc_old _ _ _ (by simp)).trans (by have h := heap_alloc_new (w.alloc (.cells o.cells 36)) (.cells zeroAV 36); rw [show (w.alloc (.cells o.cells 36)).heap.size = w.heap.size + 1 by simp] at h; exact h)
  have hxW : ActAt W (w.heap.size + 1 + 1) (zeroA o.kind) := by
    have h := heap_alloc_new ((w.alloc (.cells o.cells 36)).alloc (.cells zeroAV 36)) (.cells (kindAV o.kind) 36)
    rw [hW] at h
    rw [show ((w.alloc (.cells o.cells 36)).alloc (.cells zeroAV 36)).heap.size = w.heap.size + 1 + 1 by simp] at h
    exact h
  have hos := rActs_any W
  rw [hWs] at hos
  have hbS := (Below.refl W.heap.size W).alloc (Nat.le_refl _) (.cells (actsL.map Value.string).toArray 9)
  have hsS := heap_alloc_new W (.cells (actsL.map Value.string).toArray 9)
  rw [hWs] at hsS
  obtain ⟨V, hV⟩ : ∃ V, W.alloc (.cells (actsL.map Value.string).toArray 9) = V := ⟨_, rfl⟩
  rw [hV] at hos hbS hsS
  have hsV : V.heap[w.heap.size + 1 + 1 + 1]? = some (.cells (actsL.map Value.string).toArray 9 (0, 0)) := hsS
  have cs : V.cell? ⟨w.heap.size + 1 + 1 + 1, k, none⟩ = some (.string nm) := by
    rw [Lib.cell_of_heap hsV]
    simp [hnm]
  have hk7 : (k : Int) < 7 := by
    have := (List.getElem?_eq_some_iff.1 hnm).1
    have e : actsL.length = 7 := rfl
    omega
  have hVs : V.heap.size = w.heap.size + 1 + 1 + 1 + 1 := by rw [← hV]; simp [hWs]
  have HO : Hid (ActAt V w.heap.size o) := hoW.below hbS hoW.lt
  have HX : Hid (ActAt V (w.heap.size + 1 + 1) (zeroA o.kind)) := hxW.below hbS hxW.lt
  have HR : Hid (ActAt V (w.heap.size + 1) (zeroA 0)) := hrW.below hbS hrW.lt
  have HB : Hid (Below w.heap.size w V) := hbW.trans (hbS.mono hbW.size)
  have q0 := HO.out.nine.1
  rw [hk] at q0
  have HK : Hid (o.kind = k) := hk
  have HT : Hid (ITab w) := ht
  clear hsS hsV hbS hV hoW hxW hrW hWs hbW ht hVs
  unfold ActR.cells zeroAV kindAV at hW
  unfold ActR.cells
  rw [hk] at hW ⊢
  have HW : Hid (Unit → _ = W) := fun _ => hW
  clear hk hW
  go_enter Tryz.func28, Tryz.ntmps28
  go_wp2_with fail
  rw [HW.out ()]
  refine hos.mono ?_
  rintro e w1 ⟨rfl, rfl⟩
  clear hos HW
  have hkk : (k : Int) < 8 := by omega
  by_cases h4 : k = 4
  · subst h4
    have hi4 : ((4 : Nat) : Int) = 4 := rfl
    obtain ⟨x, hx⟩ : ∃ x : ActR, { zeroA o.kind with i := o.i } = x := ⟨_, rfl⟩
    have HND : Hid (nmdA o = x) := by
      show _ = _
      unfold nmdA
      rw [if_pos (by rw [HK.out]; exact hi4), ← hx]
    have hX4 := HX.out.putI o.i
    rw [hx] at hX4
    have hR4 : ActAt (w1.setCell ⟨w.heap.size + 1 + 1, 2, none⟩ (.int .i64 o.i)) (w.heap.size + 1) (zeroA 0) := (Below.heap_setCell _ _ _ _ (by show w.heap.size + 1 ≠ w.heap.size + 1 + 1; omega)).trans HR.out
    have hO4 : ActAt (w1.setCell ⟨w.heap.size + 1 + 1, 2, none⟩ (.int .i64 o.i)) w.heap.size o := (Below.heap_setCell _ _ _ _ (by show w.heap.size ≠ w.heap.size + 1 + 1; omega)).trans HO.out
    have hB4 : Below w.heap.size w (w1.setCell ⟨w.heap.size + 1 + 1, 2, none⟩ (.int .i64 o.i)) := HB.out.setCell (p := ⟨w.heap.size + 1 + 1, 2, none⟩) (by show w.heap.size ≤ w.heap.size + 1 + 1; omega) _
    obtain ⟨c0, c1, c2, c3, c4, c5, c6, c7, c8⟩ := HO.out.nine
    obtain ⟨d0, d1, d2, d3, d4, d5, d6, d7, d8⟩ := HX.out.nine
    have df := HX.out.frozen
    obtain ⟨U, hU⟩ : ∃ U, w1.setCell ⟨w.heap.size + 1 + 1, 2, none⟩ (.int .i64 o.i) = U := ⟨_, rfl⟩
    rw [hU] at hX4 hR4 hO4 hB4
    have HU : Hid (Unit → _ = U) := fun _ => hU
    clear hU hx h1
    rw [HK.out] at c0
    have hnml : nm.data.toList.length ≤ 10 := by
      have h : ∀ x ∈ actsL, x.data.toList.length ≤ 10 := by decide
      exact h nm (List.mem_of_getElem? hnm)
    have hIL := itoa_len o.i hok.i.1 hok.i.2
    obtain ⟨y, z, ⟨e1, z1⟩, ⟨e2, z2⟩, hz⟩ := two_sums nm.data.toList (itoa o.i) (by omega) (by omega)
    rw [str_of nm] at e1 z1
    have HZ : Hid (str (refL o nm.data.toList) = z) := by
      show _ = _
      unfold refL
      rw [if_pos (by rw [HK.out]; exact hi4), hz]
    have hct := rNumber_any o.i hok.i U (HT.out.below hB4 HT.out.lt)
    obtain ⟨u, hu⟩ : ∃ u, str (itoa o.i) = u := ⟨_, rfl⟩
    rw [hu] at hct e2 z2
    clear hz hIL hnml hu
    have HBU : Hid (Below w.heap.size w U) := hB4
    have HXU : Hid (ActAt U (w.heap.size + 1 + 1) x) := hX4
    have HRU : Hid (ActAt U (w.heap.size + 1) (zeroA 0)) := hR4
    have HOU : Hid (ActAt U w.heap.size o) := hO4
    clear hX4 hR4 hO4 hB4
    go_wp2_with fail
    rw [HU.out ()]
    refine hct.mono ?_
    rintro e w5 ⟨rfl, hb5⟩
    clear hct HU c0 c1 c2 c3 c4 c5 c6 c7 c8 d0 d1 d2 d3 d4 d5 d6 d7 d8 df cs q0
    have HX5 : Hid (ActAt w5 (w.heap.size + 1 + 1) x) := HXU.out.below hb5 HXU.out.lt
    have HR5 : Hid (ActAt w5 (w.heap.size + 1) (zeroA 0)) := HRU.out.below hb5 HRU.out.lt
    have HB5 : Hid (Below w.heap.size w w5) := HBU.out.trans (hb5.mono HBU.out.size)
    obtain ⟨z0, hz0⟩ : ∃ z0, zeroA 0 = z0 := ⟨_, rfl⟩
    rw [hz0] at HR5
    clear hz0 hb5
    go_upto_region 12 with fail
    have hx : ActAt w5.drew (w.heap.size + 1 + 1) x := (HX5.out).drew
    have hr : ActAt w5.drew (w.heap.size + 1) z0 := (HR5.out).drew
    obtain ⟨x0, x1, x2, x3, x4, x5, x6, x7, x8⟩ := hx.nine
    obtain ⟨r0, r1, r2, r3, r4, r5, r6, r7, r8⟩ := hr.nine
    have rf := hr.frozen
    have hr2 : ActAt w5 (w.heap.size + 1) z0 := HR5.out
    obtain ⟨s0, s1, s2, s3, s4, s5, s6, s7, s8⟩ := hr2.nine
    have sf := hr2.frozen
    have hF : ActAt (nineS w5 (w.heap.size + 1) x).drew (w.heap.size + 1) x := (hr2.putAll x).drew
    have hBF : Below w.heap.size w (nineS w5 (w.heap.size + 1) x).drew := Below.drew (below_nine HB5.out (Nat.le_succ _))
    obtain ⟨V9, hV9⟩ : ∃ V9, (nineS w5 (w.heap.size + 1) x).drew = V9 := ⟨_, rfl⟩
    rw [hV9] at hF hBF
    have HF : Hid (ActAt V9 (w.heap.size + 1) x) := hF
    have HBF : Hid (Below w.heap.size w V9) := hBF
    have HV9 : Hid (Unit → (nineS w5 (w.heap.size + 1) x).drew = V9) := fun _ => hV9
    have HND2 : Hid (nmdA o = x) := HND.out
    have HLN : Hid (str (refL o nm.data.toList) = z) := HZ.out
    clear hx hr hr2 hF hBF hV9
    unfold nineS at HV9
    go_region
    --FIN
    all_goals
      rw [HV9.out ()]
      clear HV9 x0 x1 x2 x3 x4 x5 x6 x7 x8 r0 r1 r2 r3 r4 r5 r6 r7 r8 rf s0 s1 s2 s3 s4 s5 s6 s7 s8 sf
      go_wp2
      refine bodyPost_ret (results_tcell rfl _ _ (w.heap.size + 1) 36 _ (0, 0) _ rfl HF.out Tryz.underlying36 rfl sizeAct) rfl ?_
      refine ⟨?_, HBF.out⟩
      rw [HND2.out, HLN.out]
      rfl
  by_cases h6 : k = 6
  · subst h6
    have hi4 : ((6 : Nat) : Int) = 6 := rfl
    obtain ⟨c0, c1, c2, c3, c4, c5, c6, c7, c8⟩ := HO.out.nine
    obtain ⟨W1, hW1⟩ : ∃ W1, w1.alloc (.cells o.ed 34) = W1 := ⟨_, rfl⟩
    have hbA : Below w1.heap.size w1 W1 := by rw [← hW1]; exact (Below.refl _ _).alloc (Nat.le_refl _) _
    have hE1 : W1.heap[w1.heap.size]? = some (.cells o.ed 34 (0, 0)) := by rw [← hW1]; exact heap_alloc_new _ _
    have hX1 := HX.out.below hbA HX.out.lt
    have hR1 := HR.out.below hbA HR.out.lt
    have hB1 : Below w.heap.size w W1 := HB.out.trans (hbA.mono HB.out.size)
    obtain ⟨x, hx⟩ : ∃ x : ActR, { zeroA o.kind with before := o.before, ek := o.ek, put := o.put, frm := o.frm, name := o.name, blob := o.blob } = x := ⟨_, rfl⟩
    have HND : Hid (nmdA o = x) := by
      show _ = _
      unfold nmdA
      rw [if_neg (by rw [HK.out]; decide), if_pos (by rw [HK.out]; exact hi4), ← hx]
    have hX6 := hX1.putE o
    rw [hx] at hX6
    have hne : w1.heap.size ≠ w.heap.size + 1 + 1 := Nat.ne_of_gt HX.out.lt
    have hR6 := (six_other W1 (w.heap.size + 1 + 1) 3 (w.heap.size + 1) (.int .i64 o.before) (.int .i64 o.ek) (.int .i64 o.put) (.int .i64 o.frm) (.string o.name) (.string o.blob) (by omega)).trans hR1
    have hE6 := (six_other W1 (w.heap.size + 1 + 1) 3 w1.heap.size (.int .i64 o.before) (.int .i64 o.ek) (.int .i64 o.put) (.int .i64 o.frm) (.string o.name) (.string o.blob) hne).trans hE1
    have hB6 : Below w.heap.size w (six W1 (w.heap.size + 1 + 1) 3 (.int .i64 o.before) (.int .i64 o.ek) (.int .i64 o.put) (.int .i64 o.frm) (.string o.name) (.string o.blob)) := below_six hB1 (by omega)
    obtain ⟨U, hU⟩ : ∃ U, six W1 (w.heap.size + 1 + 1) 3 (.int .i64 o.before) (.int .i64 o.ek) (.int .i64 o.put) (.int .i64 o.frm) (.string o.name) (.string o.blob) = U := ⟨_, rfl⟩
    rw [hU] at hX6 hR6 hE6 hB6
    obtain ⟨y0, y1, y2, y3, y4, y5, y6, y7, y8⟩ := hX1.nine
    have yf := hX1.frozen
    have e0 : W1.cell? ⟨w1.heap.size, 0, none⟩ = some (.int .i64 o.before) := by rw [Lib.cell_of_heap hE1]; rfl
    have e1 : W1.cell? ⟨w1.heap.size, 1, none⟩ = some (.int .i64 o.ek) := by rw [Lib.cell_of_heap hE1]; rfl
    have e2 : W1.cell? ⟨w1.heap.size, 2, none⟩ = some (.int .i64 o.put) := by rw [Lib.cell_of_heap hE1]; rfl
    have e3 : W1.cell? ⟨w1.heap.size, 3, none⟩ = some (.int .i64 o.frm) := by rw [Lib.cell_of_heap hE1]; rfl
    have e4 : W1.cell? ⟨w1.heap.size, 4, none⟩ = some (.string o.name) := by rw [Lib.cell_of_heap hE1]; rfl
    have e5 : W1.cell? ⟨w1.heap.size, 5, none⟩ = some (.string o.blob) := by rw [Lib.cell_of_heap hE1]; rfl
    have HU : Hid (Unit → _ = U) := fun _ => hU
    have HW1 : Hid (Unit → _ = W1) := fun _ => hW1
    have HXU : Hid (ActAt U (w.heap.size + 1 + 1) x) := hX6
    have HRU : Hid (ActAt U (w.heap.size + 1) (zeroA 0)) := hR6
    have HBU : Hid (Below w.heap.size w U) := hB6
    have HEU : Hid (U.heap[w1.heap.size]? = some (.cells o.ed 34 (0, 0))) := hE6
    rw [HK.out] at c0
    have hlU1 : w1.heap.size < U.heap.size := heap_lt hE6
    clear hU hW1 hx h1 hX6 hR6 hB6 hE6 hX1 hR1 hB1 hE1 hbA hne
    unfold ActR.ed at HW1
    unfold six at HU
    go_upto_region 10 with fail
    rw [HW1.out ()]
    clear HW1 c0 c1 c2 c3 c4 c5 c6 c7 c8
    go_upto_region 11 with fail
    rw [HU.out ()]
    clear HU y0 y1 y2 y3 y4 y5 y6 y7 y8 yf e0 e1 e2 e3 e4 e5 cs q0
    have hnml : nm.data.toList.length ≤ 10 := by
      have h : ∀ x ∈ actsL, x.data.toList.length ≤ 10 := by decide
      exact h nm (List.mem_of_getElem? hnm)
    have l1 := itoa_len o.before hok.before.1 hok.before.2
    have l2 := itoa_len o.ek hok.ek.1 hok.ek.2
    have l3 := itoa_len o.put hok.put.1 hok.put.2
    have l4 := itoa_len o.frm hok.frm.1 hok.frm.2
    have l5 := byL_len o.name
    have l6 := byL_len o.blob
    have l7 := hok.name
    have l8 := hok.blob
    obtain ⟨y37, y41, y42, y46, y47, y51, y52, y56, y57, y61, y62, y66, ⟨e37, z37⟩, ⟨e41, z41⟩, ⟨e42, z42⟩, ⟨e46, z46⟩, ⟨e47, z47⟩, ⟨e51, z51⟩, ⟨e52, z52⟩, ⟨e56, z56⟩, ⟨e57, z57⟩, ⟨e61, z61⟩, ⟨e62, z62⟩, ⟨e66, z66⟩, hz⟩ := six_sums nm.data.toList (itoa o.before) (itoa o.ek) (itoa o.put) (itoa o.frm) (byL o.name) (byL o.blob) hnml (by omega) (by omega) (by omega) (by omega) (by omega) (by omega)
    rw [str_of nm] at e37 z37
    have HZ : Hid (str (refL o nm.data.toList) = y66) := by
      show _ = _
      unfold refL
      rw [if_neg (by rw [HK.out]; decide), if_pos (by rw [HK.out]; exact hi4), hz]
    have HS : Hid (∀ W, Below U.heap.size U W → W.cell? ⟨w1.heap.size, 0, none⟩ = some (.int .i64 o.before) ∧ W.cell? ⟨w1.heap.size, 1, none⟩ = some (.int .i64 o.ek) ∧ W.cell? ⟨w1.heap.size, 2, none⟩ = some (.int .i64 o.put) ∧ W.cell? ⟨w1.heap.size, 3, none⟩ = some (.int .i64 o.frm) ∧ W.cell? ⟨w1.heap.size, 4, none⟩ = some (.string o.name) ∧ W.cell? ⟨w1.heap.size, 5, none⟩ = some (.string o.blob)) := fun W hb => by
      have h := (hb.block _ hlU1).trans HEU.out
      refine ⟨?_, ?_, ?_, ?_, ?_, ?_⟩ <;> (rw [Lib.cell_of_heap h]; rfl)
    have HI : Hid (∀ W, Below U.heap.size U W → ITab W) := fun W hb => HT.out.below (HBU.out.trans (hb.mono HBU.out.size)) HT.out.lt
    have hbel : Below U.heap.size U U.drew := Below.drew (Below.refl _ _)
    have hS0 := HS.out _ hbel
    clear hz l1 l2 l3 l4 l5 l6 l7 l8 hnml hnm
    refine wp_region_held_drew (S := fun X => X.cell? ⟨w1.heap.size, 0, none⟩ = some (.int .i64 o.before) ∧ X.cell? ⟨w1.heap.size, 1, none⟩ = some (.int .i64 o.ek) ∧ X.cell? ⟨w1.heap.size, 2, none⟩ = some (.int .i64 o.put) ∧ X.cell? ⟨w1.heap.size, 3, none⟩ = some (.int .i64 o.frm) ∧ X.cell? ⟨w1.heap.size, 4, none⟩ = some (.string o.name) ∧ X.cell? ⟨w1.heap.size, 5, none⟩ = some (.string o.blob)) (by kernel_rfl) hS0 ?_
    intro hS
    clear hS0
    refine wpAnyH_take (i := 0) (oi := { dst := some 36, op := .move (.tmp 6), type := _, pos := _, after := _, guard := none }) (v := .string nm) rfl (by kernel_rfl) (by kernel_rfl) (by kernel_rfl) (fun _ _ _ h => h) (Or.inl ⟨by rfl, by intro x _; go_simp⟩) hS ?_
    (try simp only [Act.put, List.setIfInBounds_toArray, List.set_cons_zero, List.set_cons_succ])
    refine wpAnyH_take (i := 1) (oi := { dst := some 37, op := .binOp .add 9 (.tmp 36) (.const (.string { data := #[32] })) 9, type := _, pos := _, after := _, guard := none }) (v := .string y37) rfl (by kernel_rfl) (by kernel_rfl) (by kernel_rfl) (fun _ _ _ h => h) (Or.inl ⟨by rfl, by intro x _; have h1 := e37; have h2 := z37; go_simp⟩) hS ?_
    (try simp only [Act.put, List.setIfInBounds_toArray, List.set_cons_zero, List.set_cons_succ])
    refine wpAnyH_take (i := 2) (oi := { dst := some 38, op := .fieldAddr 34 (.tmp 7) 0, type := _, pos := _, after := _, guard := none }) (v := .pointer (some ⟨w1.heap.size, 0, none⟩)) rfl (by kernel_rfl) (by kernel_rfl) (by kernel_rfl) (fun _ _ _ h => h) (Or.inl ⟨by rfl, by intro x _; go_simp⟩) hS ?_
    (try simp only [Act.put, List.setIfInBounds_toArray, List.set_cons_zero, List.set_cons_succ])
    refine wpAnyH_take (i := 3) (oi := { dst := some 39, op := .load 3 (.tmp 38), type := _, pos := _, after := _, guard := none }) (v := .int .i64 o.before) rfl (by kernel_rfl) (by kernel_rfl) (by kernel_rfl) (fun _ _ _ h => h) (Or.inl ⟨by rfl, by intro x hx; have h1 := hx.1; go_simp⟩) hS ?_
    (try simp only [Act.put, List.setIfInBounds_toArray, List.set_cons_zero, List.set_cons_succ])
    refine wpAnyH_take (i := 7) (oi := { dst := some 43, op := .fieldAddr 34 (.tmp 7) 1, type := _, pos := _, after := _, guard := none }) (v := .pointer (some ⟨w1.heap.size, 1, none⟩)) rfl (by kernel_rfl) (by kernel_rfl) (by kernel_rfl) (fun _ _ _ h => h) (Or.inl ⟨by rfl, by intro x _; go_simp⟩) hS ?_
    (try simp only [Act.put, List.setIfInBounds_toArray, List.set_cons_zero, List.set_cons_succ])
    refine wpAnyH_take (i := 8) (oi := { dst := some 44, op := .load 3 (.tmp 43), type := _, pos := _, after := _, guard := none }) (v := .int .i64 o.ek) rfl (by kernel_rfl) (by kernel_rfl) (by kernel_rfl) (fun _ _ _ h => h) (Or.inl ⟨by rfl, by intro x hx; have h1 := hx.2.1; go_simp⟩) hS ?_
    (try simp only [Act.put, List.setIfInBounds_toArray, List.set_cons_zero, List.set_cons_succ])
    refine wpAnyH_take (i := 12) (oi := { dst := some 48, op := .fieldAddr 34 (.tmp 7) 2, type := _, pos := _, after := _, guard := none }) (v := .pointer (some ⟨w1.heap.size, 2, none⟩)) rfl (by kernel_rfl) (by kernel_rfl) (by kernel_rfl) (fun _ _ _ h => h) (Or.inl ⟨by rfl, by intro x _; go_simp⟩) hS ?_
    (try simp only [Act.put, List.setIfInBounds_toArray, List.set_cons_zero, List.set_cons_succ])
    refine wpAnyH_take (i := 13) (oi := { dst := some 49, op := .load 3 (.tmp 48), type := _, pos := _, after := _, guard := none }) (v := .int .i64 o.put) rfl (by kernel_rfl) (by kernel_rfl) (by kernel_rfl) (fun _ _ _ h => h) (Or.inl ⟨by rfl, by intro x hx; have h1 := hx.2.2.1; go_simp⟩) hS ?_
    (try simp only [Act.put, List.setIfInBounds_toArray, List.set_cons_zero, List.set_cons_succ])
    refine wpAnyH_take (i := 17) (oi := { dst := some 53, op := .fieldAddr 34 (.tmp 7) 3, type := _, pos := _, after := _, guard := none }) (v := .pointer (some ⟨w1.heap.size, 3, none⟩)) rfl (by kernel_rfl) (by kernel_rfl) (by kernel_rfl) (fun _ _ _ h => h) (Or.inl ⟨by rfl, by intro x _; go_simp⟩) hS ?_
    (try simp only [Act.put, List.setIfInBounds_toArray, List.set_cons_zero, List.set_cons_succ])
    refine wpAnyH_take (i := 18) (oi := { dst := some 54, op := .load 3 (.tmp 53), type := _, pos := _, after := _, guard := none }) (v := .int .i64 o.frm) rfl (by kernel_rfl) (by kernel_rfl) (by kernel_rfl) (fun _ _ _ h => h) (Or.inl ⟨by rfl, by intro x hx; have h1 := hx.2.2.2.1; go_simp⟩) hS ?_
    (try simp only [Act.put, List.setIfInBounds_toArray, List.set_cons_zero, List.set_cons_succ])
    refine wpAnyH_take (i := 22) (oi := { dst := some 58, op := .fieldAddr 34 (.tmp 7) 4, type := _, pos := _, after := _, guard := none }) (v := .pointer (some ⟨w1.heap.size, 4, none⟩)) rfl (by kernel_rfl) (by kernel_rfl) (by kernel_rfl) (fun _ _ _ h => h) (Or.inl ⟨by rfl, by intro x _; go_simp⟩) hS ?_
    (try simp only [Act.put, List.setIfInBounds_toArray, List.set_cons_zero, List.set_cons_succ])
    refine wpAnyH_take (i := 23) (oi := { dst := some 59, op := .load 9 (.tmp 58), type := _, pos := _, after := _, guard := none }) (v := .string o.name) rfl (by kernel_rfl) (by kernel_rfl) (by kernel_rfl) (fun _ _ _ h => h) (Or.inl ⟨by rfl, by intro x hx; have h1 := hx.2.2.2.2.1; go_simp⟩) hS ?_
    (try simp only [Act.put, List.setIfInBounds_toArray, List.set_cons_zero, List.set_cons_succ])
    refine wpAnyH_take (i := 27) (oi := { dst := some 63, op := .fieldAddr 34 (.tmp 7) 5, type := _, pos := _, after := _, guard := none }) (v := .pointer (some ⟨w1.heap.size, 5, none⟩)) rfl (by kernel_rfl) (by kernel_rfl) (by kernel_rfl) (fun _ _ _ h => h) (Or.inl ⟨by rfl, by intro x _; go_simp⟩) hS ?_
    (try simp only [Act.put, List.setIfInBounds_toArray, List.set_cons_zero, List.set_cons_succ])
    refine wpAnyH_take (i := 28) (oi := { dst := some 64, op := .load 9 (.tmp 63), type := _, pos := _, after := _, guard := none }) (v := .string o.blob) rfl (by kernel_rfl) (by kernel_rfl) (by kernel_rfl) (fun _ _ _ h => h) (Or.inl ⟨by rfl, by intro x hx; have h1 := hx.2.2.2.2.2; go_simp⟩) hS ?_
    (try simp only [Act.put, List.setIfInBounds_toArray, List.set_cons_zero, List.set_cons_succ])
    refine wpAnyH_ready (rs := [4]) (by kernel_rfl) (by simp) ?_
    refine AllReadyH.cons (o := { dst := some 40, op := .call { callee := .value (.func 42), args := #[.tmp 39], argTypes := #[3] }, type := _, pos := _, after := _, guard := none }) rfl (fun K hK => ?_) AllReadyH.nil
    go_simp
    refine (rNumber_any o.before hok.before _ (HI.out _ hbel)).mono ?_
    rintro e W2 ⟨rfl, hb2⟩
    have hbel2 := hbel.trans (hb2.mono hbel.size)
    have hS2 := HS.out _ hbel2
    refine hK.out _ _ hS2 (fun _ => ?_)
    clear hK K hS hbel
    (try simp only [Act.put, List.setIfInBounds_toArray, List.set_cons_zero, List.set_cons_succ])
    have hS := hS2
    have hbel := hbel2
    clear hS2 hb2 hbel2
    refine wpAnyH_take (i := 5) (oi := { dst := some 41, op := .binOp .add 9 (.tmp 37) (.tmp 40) 9, type := _, pos := _, after := _, guard := none }) (v := .string y41) rfl (by kernel_rfl) (by kernel_rfl) (by kernel_rfl) (fun _ _ _ h => h) (Or.inl ⟨by rfl, by intro x _; have h1 := e41; have h2 := z41; go_simp⟩) hS ?_
    (try simp only [Act.put, List.setIfInBounds_toArray, List.set_cons_zero, List.set_cons_succ])
    refine wpAnyH_take (i := 6) (oi := { dst := some 42, op := .binOp .add 9 (.tmp 41) (.const (.string { data := #[32] })) 9, type := _, pos := _, after := _, guard := none }) (v := .string y42) rfl (by kernel_rfl) (by kernel_rfl) (by kernel_rfl) (fun _ _ _ h => h) (Or.inl ⟨by rfl, by intro x _; have h1 := e42; have h2 := z42; go_simp⟩) hS ?_
    (try simp only [Act.put, List.setIfInBounds_toArray, List.set_cons_zero, List.set_cons_succ])
    refine wpAnyH_ready (rs := [9]) (by kernel_rfl) (by simp) ?_
    refine AllReadyH.cons (o := { dst := some 45, op := .call { callee := .value (.func 42), args := #[.tmp 44], argTypes := #[3] }, type := _, pos := _, after := _, guard := none }) rfl (fun K hK => ?_) AllReadyH.nil
    go_simp
    refine (rNumber_any o.ek hok.ek _ (HI.out _ hbel)).mono ?_
    rintro e W2 ⟨rfl, hb2⟩
    have hbel2 := hbel.trans (hb2.mono hbel.size)
    have hS2 := HS.out _ hbel2
    refine hK.out _ _ hS2 (fun _ => ?_)
    clear hK K hS hbel
    (try simp only [Act.put, List.setIfInBounds_toArray, List.set_cons_zero, List.set_cons_succ])
    have hS := hS2
    have hbel := hbel2
    clear hS2 hb2 hbel2
    refine wpAnyH_take (i := 10) (oi := { dst := some 46, op := .binOp .add 9 (.tmp 42) (.tmp 45) 9, type := _, pos := _, after := _, guard := none }) (v := .string y46) rfl (by kernel_rfl) (by kernel_rfl) (by kernel_rfl) (fun _ _ _ h => h) (Or.inl ⟨by rfl, by intro x _; have h1 := e46; have h2 := z46; go_simp⟩) hS ?_
    (try simp only [Act.put, List.setIfInBounds_toArray, List.set_cons_zero, List.set_cons_succ])
    refine wpAnyH_take (i := 11) (oi := { dst := some 47, op := .binOp .add 9 (.tmp 46) (.const (.string { data := #[32] })) 9, type := _, pos := _, after := _, guard := none }) (v := .string y47) rfl (by kernel_rfl) (by kernel_rfl) (by kernel_rfl) (fun _ _ _ h => h) (Or.inl ⟨by rfl, by intro x _; have h1 := e47; have h2 := z47; go_simp⟩) hS ?_
    (try simp only [Act.put, List.setIfInBounds_toArray, List.set_cons_zero, List.set_cons_succ])
    refine wpAnyH_ready (rs := [14]) (by kernel_rfl) (by simp) ?_
    refine AllReadyH.cons (o := { dst := some 50, op := .call { callee := .value (.func 42), args := #[.tmp 49], argTypes := #[3] }, type := _, pos := _, after := _, guard := none }) rfl (fun K hK => ?_) AllReadyH.nil
    go_simp
    refine (rNumber_any o.put hok.put _ (HI.out _ hbel)).mono ?_
    rintro e W2 ⟨rfl, hb2⟩
    have hbel2 := hbel.trans (hb2.mono hbel.size)
    have hS2 := HS.out _ hbel2
    refine hK.out _ _ hS2 (fun _ => ?_)
    clear hK K hS hbel
    (try simp only [Act.put, List.setIfInBounds_toArray, List.set_cons_zero, List.set_cons_succ])
    have hS := hS2
    have hbel := hbel2
    clear hS2 hb2 hbel2
    refine wpAnyH_take (i := 15) (oi := { dst := some 51, op := .binOp .add 9 (.tmp 47) (.tmp 50) 9, type := _, pos := _, after := _, guard := none }) (v := .string y51) rfl (by kernel_rfl) (by kernel_rfl) (by kernel_rfl) (fun _ _ _ h => h) (Or.inl ⟨by rfl, by intro x _; have h1 := e51; have h2 := z51; go_simp⟩) hS ?_
    (try simp only [Act.put, List.setIfInBounds_toArray, List.set_cons_zero, List.set_cons_succ])
    refine wpAnyH_take (i := 16) (oi := { dst := some 52, op := .binOp .add 9 (.tmp 51) (.const (.string { data := #[32] })) 9, type := _, pos := _, after := _, guard := none }) (v := .string y52) rfl (by kernel_rfl) (by kernel_rfl) (by kernel_rfl) (fun _ _ _ h => h) (Or.inl ⟨by rfl, by intro x _; have h1 := e52; have h2 := z52; go_simp⟩) hS ?_
    (try simp only [Act.put, List.setIfInBounds_toArray, List.set_cons_zero, List.set_cons_succ])
    refine wpAnyH_ready (rs := [19]) (by kernel_rfl) (by simp) ?_
    refine AllReadyH.cons (o := { dst := some 55, op := .call { callee := .value (.func 42), args := #[.tmp 54], argTypes := #[3] }, type := _, pos := _, after := _, guard := none }) rfl (fun K hK => ?_) AllReadyH.nil
    go_simp
    refine (rNumber_any o.frm hok.frm _ (HI.out _ hbel)).mono ?_
    rintro e W2 ⟨rfl, hb2⟩
    have hbel2 := hbel.trans (hb2.mono hbel.size)
    have hS2 := HS.out _ hbel2
    refine hK.out _ _ hS2 (fun _ => ?_)
    clear hK K hS hbel
    (try simp only [Act.put, List.setIfInBounds_toArray, List.set_cons_zero, List.set_cons_succ])
    have hS := hS2
    have hbel := hbel2
    clear hS2 hb2 hbel2
    refine wpAnyH_take (i := 20) (oi := { dst := some 56, op := .binOp .add 9 (.tmp 52) (.tmp 55) 9, type := _, pos := _, after := _, guard := none }) (v := .string y56) rfl (by kernel_rfl) (by kernel_rfl) (by kernel_rfl) (fun _ _ _ h => h) (Or.inl ⟨by rfl, by intro x _; have h1 := e56; have h2 := z56; go_simp⟩) hS ?_
    (try simp only [Act.put, List.setIfInBounds_toArray, List.set_cons_zero, List.set_cons_succ])
    refine wpAnyH_take (i := 21) (oi := { dst := some 57, op := .binOp .add 9 (.tmp 56) (.const (.string { data := #[32] })) 9, type := _, pos := _, after := _, guard := none }) (v := .string y57) rfl (by kernel_rfl) (by kernel_rfl) (by kernel_rfl) (fun _ _ _ h => h) (Or.inl ⟨by rfl, by intro x _; have h1 := e57; have h2 := z57; go_simp⟩) hS ?_
    (try simp only [Act.put, List.setIfInBounds_toArray, List.set_cons_zero, List.set_cons_succ])
    refine wpAnyH_ready (rs := [24]) (by kernel_rfl) (by simp) ?_
    refine AllReadyH.cons (o := { dst := some 60, op := .call { callee := .value (.func 64), args := #[.tmp 59], argTypes := #[9] }, type := _, pos := _, after := _, guard := none }) rfl (fun K hK => ?_) AllReadyH.nil
    go_simp
    refine (written_any o.name (by have := hok.name; omega) _).mono ?_
    rintro e W2 ⟨rfl, hb2⟩
    have hbel2 := hbel.trans (hb2.mono hbel.size)
    have hS2 := HS.out _ hbel2
    refine hK.out _ _ hS2 (fun _ => ?_)
    clear hK K hS hbel
    (try simp only [Act.put, List.setIfInBounds_toArray, List.set_cons_zero, List.set_cons_succ])
    have hS := hS2
    have hbel := hbel2
    clear hS2 hb2 hbel2
    refine wpAnyH_take (i := 25) (oi := { dst := some 61, op := .binOp .add 9 (.tmp 57) (.tmp 60) 9, type := _, pos := _, after := _, guard := none }) (v := .string y61) rfl (by kernel_rfl) (by kernel_rfl) (by kernel_rfl) (fun _ _ _ h => h) (Or.inl ⟨by rfl, by intro x _; have h1 := e61; have h2 := z61; go_simp⟩) hS ?_
    (try simp only [Act.put, List.setIfInBounds_toArray, List.set_cons_zero, List.set_cons_succ])
    refine wpAnyH_take (i := 26) (oi := { dst := some 62, op := .binOp .add 9 (.tmp 61) (.const (.string { data := #[32] })) 9, type := _, pos := _, after := _, guard := none }) (v := .string y62) rfl (by kernel_rfl) (by kernel_rfl) (by kernel_rfl) (fun _ _ _ h => h) (Or.inl ⟨by rfl, by intro x _; have h1 := e62; have h2 := z62; go_simp⟩) hS ?_
    (try simp only [Act.put, List.setIfInBounds_toArray, List.set_cons_zero, List.set_cons_succ])
    refine wpAnyH_ready (rs := [29]) (by kernel_rfl) (by simp) ?_
    refine AllReadyH.cons (o := { dst := some 65, op := .call { callee := .value (.func 64), args := #[.tmp 64], argTypes := #[9] }, type := _, pos := _, after := _, guard := none }) rfl (fun K hK => ?_) AllReadyH.nil
    go_simp
    refine (written_any o.blob (by have := hok.blob; omega) _).mono ?_
    rintro e W2 ⟨rfl, hb2⟩
    have hbel2 := hbel.trans (hb2.mono hbel.size)
    have hS2 := HS.out _ hbel2
    refine hK.out _ _ hS2 (fun _ => ?_)
    clear hK K hS hbel
    (try simp only [Act.put, List.setIfInBounds_toArray, List.set_cons_zero, List.set_cons_succ])
    have hS := hS2
    have hbel := hbel2
    clear hS2 hb2 hbel2
    refine wpAnyH_take (i := 30) (oi := { dst := some 66, op := .binOp .add 9 (.tmp 62) (.tmp 65) 9, type := _, pos := _, after := _, guard := none }) (v := .string y66) rfl (by kernel_rfl) (by kernel_rfl) (by kernel_rfl) (fun _ _ _ h => h) (Or.inl ⟨by rfl, by intro x _; have h1 := e66; have h2 := z66; go_simp⟩) hS ?_
    (try simp only [Act.put, List.setIfInBounds_toArray, List.set_cons_zero, List.set_cons_succ])
    refine wpAnyH_take (i := 31) (oi := { dst := some 6, op := .assign (.tmp 66), type := _, pos := _, after := _, guard := none }) (v := .string y66) rfl (by kernel_rfl) (by kernel_rfl) (by kernel_rfl) (fun _ _ _ h => h) (Or.inl ⟨by rfl, by intro x _; go_simp⟩) hS ?_
    (try simp only [Act.put, List.setIfInBounds_toArray, List.set_cons_zero, List.set_cons_succ])
    refine wpAnyH_done (by kernel_rfl) ?_ _
    try clear hS
    have hB6 : Hid (Below w.heap.size w _) := HBU.out.trans (hbel.mono HBU.out.size)
    have HX5 : Hid (ActAt _ (w.heap.size + 1 + 1) x) := HXU.out.below hbel HXU.out.lt
    have HR5 : Hid (ActAt _ (w.heap.size + 1) (zeroA 0)) := HRU.out.below hbel HRU.out.lt
    clear HS HI HEU e37 z37 e41 z41 e42 z42 e46 z46 e47 z47 e51 z51 e52 z52 e56 z56 e57 z57 e61 z61 e62 z62 e66 z66
    obtain ⟨z0, hz0⟩ : ∃ z0, zeroA 0 = z0 := ⟨_, rfl⟩
    rw [hz0] at HR5
    clear hz0 hbel
    rename_i Wl _
    --STATE
    go_upto_region 12 with fail
    have hx : ActAt W2.drew (w.heap.size + 1 + 1) x := (HX5.out).drew
    have hr : ActAt W2.drew (w.heap.size + 1) z0 := (HR5.out).drew
    obtain ⟨x0, x1, x2, x3, x4, x5, x6, x7, x8⟩ := hx.nine
    obtain ⟨r0, r1, r2, r3, r4, r5, r6, r7, r8⟩ := hr.nine
    have rf := hr.frozen
    have hr2 : ActAt W2 (w.heap.size + 1) z0 := HR5.out
    obtain ⟨s0, s1, s2, s3, s4, s5, s6, s7, s8⟩ := hr2.nine
    have sf := hr2.frozen
    have hF : ActAt (nineS W2 (w.heap.size + 1) x).drew (w.heap.size + 1) x := (hr2.putAll x).drew
    have hBF : Below w.heap.size w (nineS W2 (w.heap.size + 1) x).drew := Below.drew (below_nine hB6.out (Nat.le_succ _))
    obtain ⟨V9, hV9⟩ : ∃ V9, (nineS W2 (w.heap.size + 1) x).drew = V9 := ⟨_, rfl⟩
    rw [hV9] at hF hBF
    have HF : Hid (ActAt V9 (w.heap.size + 1) x) := hF
    have HBF : Hid (Below w.heap.size w V9) := hBF
    have HV9 : Hid (Unit → (nineS W2 (w.heap.size + 1) x).drew = V9) := fun _ => hV9
    have HND2 : Hid (nmdA o = x) := HND.out
    have HLN : Hid (str (refL o nm.data.toList) = y66) := HZ.out
    clear hx hr hr2 hF hBF hV9
    unfold nineS at HV9
    go_region
    --FIN
    all_goals
      rw [HV9.out ()]
      clear HV9 x0 x1 x2 x3 x4 x5 x6 x7 x8 r0 r1 r2 r3 r4 r5 r6 r7 r8 rf s0 s1 s2 s3 s4 s5 s6 s7 s8 sf
      go_wp2
      refine bodyPost_ret (results_tcell rfl _ _ (w.heap.size + 1) 36 _ (0, 0) _ rfl HF.out Tryz.underlying36 rfl sizeAct) rfl ?_
      refine ⟨?_, HBF.out⟩
      rw [HND2.out, HLN.out]
      rfl
  have hi4 : ¬ (k : Int) = 4 := by omega
  have hi6 : ¬ (k : Int) = 6 := by omega
  obtain ⟨x, hx⟩ : ∃ x, zeroA o.kind = x := ⟨_, rfl⟩
  obtain ⟨z0, hz0⟩ : ∃ z0, zeroA 0 = z0 := ⟨_, rfl⟩
  rw [hx] at HX
  rw [hz0] at HR
  have HX0 : Hid (zeroA o.kind = x) := hx
  clear hx hz0
  go_upto_region 12 with fail
  have hx : ActAt w1.drew (w.heap.size + 1 + 1) x := (HX.out).drew
  have hr : ActAt w1.drew (w.heap.size + 1) z0 := (HR.out).drew
  obtain ⟨x0, x1, x2, x3, x4, x5, x6, x7, x8⟩ := hx.nine
  obtain ⟨r0, r1, r2, r3, r4, r5, r6, r7, r8⟩ := hr.nine
  have rf := hr.frozen
  have hr2 : ActAt w1 (w.heap.size + 1) z0 := HR.out
  obtain ⟨s0, s1, s2, s3, s4, s5, s6, s7, s8⟩ := hr2.nine
  have sf := hr2.frozen
  have hF : ActAt (nineS w1 (w.heap.size + 1) x).drew (w.heap.size + 1) x := (hr2.putAll x).drew
  have hBF : Below w.heap.size w (nineS w1 (w.heap.size + 1) x).drew := Below.drew (below_nine HB.out (Nat.le_succ _))
  obtain ⟨V9, hV9⟩ : ∃ V9, (nineS w1 (w.heap.size + 1) x).drew = V9 := ⟨_, rfl⟩
  rw [hV9] at hF hBF
  have HF : Hid (ActAt V9 (w.heap.size + 1) x) := hF
  have HBF : Hid (Below w.heap.size w V9) := hBF
  have HV9 : Hid (Unit → (nineS w1 (w.heap.size + 1) x).drew = V9) := fun _ => hV9
  have HND2 : Hid (nmdA o = x) := by
      show _ = _
      unfold nmdA
      rw [if_neg (by rw [HK.out]; exact hi4), if_neg (by rw [HK.out]; exact hi6), HX0.out]
  have HLN : Hid (str (refL o nm.data.toList) = nm) := by
      show _ = _
      unfold refL
      rw [if_neg (by rw [HK.out]; exact hi4), if_neg (by rw [HK.out]; exact hi6)]
      rfl
  clear hx hr hr2 hF hBF hV9
  unfold nineS at HV9
  go_region
  --FIN
  all_goals
    rw [HV9.out ()]
    clear HV9 x0 x1 x2 x3 x4 x5 x6 x7 x8 r0 r1 r2 r3 r4 r5 r6 r7 r8 rf s0 s1 s2 s3 s4 s5 s6 s7 s8 sf
    go_wp2
    refine bodyPost_ret (results_tcell rfl _ _ (w.heap.size + 1) 36 _ (0, 0) _ rfl HF.out Tryz.underlying36 rfl sizeAct) rfl ?_
    refine ⟨?_, HBF.out⟩
    rw [HND2.out, HLN.out]
    rfl
end Go.Proofs.YtlmopjbfagijeaaGreatDoor.Sc
