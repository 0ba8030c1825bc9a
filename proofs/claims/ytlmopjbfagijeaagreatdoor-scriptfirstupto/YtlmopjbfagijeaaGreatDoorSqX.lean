import Derived.Deep.Cut
import Derived.BigRegion
import Derived.Test.YtlmopjbfagijeaaGreatDoorYfM
namespace Go.Proofs.YtlmopjbfagijeaaGreatDoor.Sc
open Go.RowKit Go.Lib Go.Deep
open Go.Proofs.YtlmopjbfagijeaaGreatDoor.Sq (See wpList_app see_own see_one owns_form owns_form2 one_new grown_base owns_keep owns_below owns_base owns_block own_cap)

theorem HandAt.cells {w : World} {g : Nat} {p : PlR} {x y z : Value} (h : HandAt w g p x y z) : w.cell? ⟨g, 9, none⟩ = some x ∧ w.cell? ⟨g, 10, none⟩ = some y ∧ w.cell? ⟨g, 11, none⟩ = some z ∧ ∀ j, w.frozen? ⟨g, j, none⟩ = false := by
  refine ⟨?_, ?_, ?_, fun j => Lib.frozen_of_heap h j⟩ <;> (rw [Lib.cell_of_heap h]; rfl)
theorem actAt_grown {w w' : World} {g : Nat} {o : ActR} {B e sz n : Nat} {v : Value} {xs : List Value} (h : ActAt w g o) (hg : w.grownBy w' v.ownBlock) (ho : w.ownsRow B e sz v n xs) (hne : e ≠ 36) : ActAt w' g o :=
  (hg.block g (heap_lt h) (fun e1 => by
    obtain ⟨c2, q2⟩ := owns_block ho e1.symm
    have h0 : w.heap[g]? = _ := h
    rw [q2] at h0
    injection h0 with h0
    injection h0 with _ q3 _
    exact hne q3)).trans h
set_option maxRecDepth 20000 in
set_option maxHeartbeats 4000000 in
theorem hand_any (p : PlR) (V : List ActV) (hok : VOk V) (hn : V.length = p.nacts) (w : World) (h : SeeV w p.acts V) :
    Calls Tryz.prog 9 #[.agg p.cells] w fun e w' => ∃ (G : List (Nat × Nat)) (fg fc : Nat) (oa : Option Addr) (oc : Nat), e = .returned (.pointer (some ⟨w.heap.size + 1, 0, none⟩)) ∧ G.length = p.nacts ∧
      Made w' (w.heap.size + 1 + 1) (w.heap.size + 1) p V G (.slice (some ⟨fg, 0, none⟩) p.nacts fc) (.slice (some ⟨fg, 0, none⟩) (p.nacts + 8) fc) (.slice oa p.nacts oc) 8 ∧ Below w.heap.size w w' := by
  obtain ⟨W, hW⟩ : ∃ W, (w.alloc (.cells p.cells 26)).alloc (.cells (handC p (.slice p.acts p.nacts p.cacts) (.slice none 0 0) (.slice none 0 0)) 39) = W := ⟨_, rfl⟩
  have hbW : Below w.heap.size w W := by rw [← hW]; exact ((Below.refl _ _).alloc (Nat.le_refl _) _).alloc (by simp) _
  have h1 : PlAt W w.heap.size p := by
    apply plAt_of
    rw [← hW]
    exact (Lib.alloc_old _ _ _ (by simp)).trans (heap_alloc_new _ _)
  have h2 : HandAt W (w.heap.size + 1) p (.slice p.acts p.nacts p.cacts) (.slice none 0 0) (.slice none 0 0) := by
    have h := heap_alloc_new (w.alloc (.cells p.cells 26)) (.cells (handC p (.slice p.acts p.nacts p.cacts) (.slice none 0 0) (.slice none 0 0)) 39)
    rw [hW, show (w.alloc (.cells p.cells 26)).heap.size = w.heap.size + 1 by simp] at h
    exact h
  have hWs : W.heap.size = w.heap.size + 1 + 1 := by rw [← hW]; simp
  obtain ⟨n, hnn⟩ : ∃ n, p.nacts = n := ⟨_, rfl⟩
  rw [hnn] at h2
  obtain ⟨pc, hpc⟩ : ∃ pc, p.cacts = pc := ⟨_, rfl⟩
  rw [hpc] at h2
  have HM0 : Hid (Made W (w.heap.size + 1 + 1) (w.heap.size + 1) p V [] (.slice p.acts n pc) (.slice none 0 0) (.slice none 0 0) 0) :=
    ⟨h2, Nat.lt_succ_self _, by rw [show actsC (List.zipWith hd V [] ++ List.replicate 0 markA) = [] by simp [actsC]]; exact World.ownsRow_nil _ _ _ _, by rw [show slC V [] = [] by simp [slC]]; exact World.ownsRow_nil _ _ _ _, fun i x gc hx hg => by simp at hg⟩
  have HN : Hid (V.length = n) := hn.trans hnn
  have HNP : Hid (p.nacts = n) := hnn
  have HPC : Hid (p.cacts = pc) := hpc
  have HP0 : Hid (Below w.heap.size w W ∧ PlAt W w.heap.size p ∧ w.heap.size + 1 + 1 ≤ W.heap.size) := ⟨hbW, h1, by omega⟩
  have HV : Hid (SeeV w p.acts V) := h
  have HOK : Hid (VOk V) := hok
  have hnb : n ≤ 1048576 := by rw [← HN.out]; exact hok.len
  have c9 : W.cell? ⟨w.heap.size, 9, none⟩ = some (.slice p.acts n pc) := by
    have h : W.cell? ⟨w.heap.size, 9, none⟩ = some (.slice p.acts p.nacts p.cacts) := h1 9 _ rfl
    rw [hnn, hpc] at h
    exact h
  rw [hnn]
  unfold PlR.cells handC at hW
  unfold PlR.cells
  rw [hnn, hpc] at hW ⊢
  have HW : Hid (Unit → _ = W) := fun _ => hW
  clear hW h1 h2 hbW h hn hnn hok hWs hpc
  go_enter Tryz.func9, Tryz.ntmps9
  go_upto_region 2 with fail
  rw [HW.out ()]
  clear HW
  go_wp2_with fail
  go_loopg [4] n (fun gk i wr => ∃ (j : Nat) (G : List (Nat × Nat)) (fa oa : Option Addr) (fc oc : Nat), j + gk = n ∧ i = .int .i64 (j : Int) ∧ Hid (G.length = j) ∧ Hid (Made wr (w.heap.size + 1 + 1) (w.heap.size + 1) p V G (.slice p.acts n pc) (.slice fa j fc) (.slice oa j oc) 0) ∧ Hid (Below w.heap.size w wr ∧ PlAt wr w.heap.size p ∧ w.heap.size + 1 + 1 ≤ wr.heap.size))
  case atStart => exact ⟨0, [], none, none, 0, 0, by omega, rfl, rfl, HM0, HP0⟩
  case round =>
    clear c9 HM0 HP0
    obtain ⟨j, G, fa, oa, fc, oc, hj, rfl, HG, HM, HP⟩ := hrel
    have HJ : Hid (j + gk = n) := hj
    have hjn : j ≤ n := by omega
    clear hj
    have c9 : wr.cell? ⟨w.heap.size, 9, none⟩ = some (.slice p.acts n pc) := by
      have h : wr.cell? ⟨w.heap.size, 9, none⟩ = some (.slice p.acts p.nacts p.cacts) := HP.out.2.1 9 _ rfl
      rw [HNP.out, HPC.out] at h
      exact h
    by_cases hlt : j < n
    · have hltI : (j : Int) < (n : Int) := by omega
      obtain ⟨x, hx⟩ : ∃ x, V[j]? = some x := ⟨_, List.getElem?_eq_getElem (by rw [HN.out]; omega)⟩
      have HX : Hid (V[j]? = some x) := hx
      obtain ⟨b, off, hpa, hbl, hnine, hops⟩ := HV.out.at hx
      obtain ⟨-, -, hxn, hxl⟩ := HOK.out.each x (List.mem_of_getElem? hx)
      have HXN : Hid (x.2.length = x.1.nops) := hxn
      have HWR : Hid (w.heap.size + 1 + 1 ≤ wr.heap.size) := HP.out.2.2
      rw [hpa] at c9
      obtain ⟨k0, k1, k2, k3, k4, k5, k6, k7, k8⟩ := hnine.below HP.out.1 hbl
      obtain ⟨W1, hW1⟩ : ∃ W1, wr.alloc (.cells x.1.cells 36) = W1 := ⟨_, rfl⟩
      have hb1 : Below wr.heap.size wr W1 := by rw [← hW1]; exact (Below.refl _ _).alloc (Nat.le_refl _) _
      have ha1 : ActAt W1 wr.heap.size x.1 := by rw [← hW1]; exact heap_alloc_new _ _
      have ht := twinOps_any x.1.ops x.1.cops x.2 hxl W1 ((hops.below HP.out.1).below hb1)
      have c1 : W1.cell? ⟨wr.heap.size, 1, none⟩ = some (.slice x.1.ops x.2.length x.1.cops) := by rw [hxn]; exact ha1.nine.2.1
      have HA1 : Hid (ActAt W1 wr.heap.size x.1) := ha1
      have HB1 : Hid (Below wr.heap.size wr W1) := hb1
      have HPA : Hid (p.acts = some ⟨b, off, none⟩) := hpa
      unfold ActR.cells at hW1
      have HW1 : Hid (Unit → _ = W1) := fun _ => hW1
      clear hW1 ha1 hb1 hnine hops hx hpa hbl hxn
      go_upto_region 6 with fail
      rw [HW1.out ()]
      clear HW1 k0 k1 k2 k3 k4 k5 k6 k7 k8 c9
      go_wp2_with (go_at_call 23; refine ht.mono ?_)
      rintro e w2 ⟨g, c', rfl, hrow, hb2⟩
      clear ht c1
      have hM2 := (HM.out.below HB1.out).below hb2
      have ha2 : ActAt w2 wr.heap.size x.1 := HA1.out.below hb2 HA1.out.lt
      have hle : w.heap.size + 1 + 1 ≤ W1.heap.size := Nat.le_trans HP.out.2.2 HB1.out.size
      have hrow2 := owns_base hrow hle
      have hcap := own_cap hrow
      have HP2 : Hid (Below w.heap.size w w2 ∧ PlAt w2 w.heap.size p ∧ w.heap.size + 1 + 1 ≤ w2.heap.size) := ⟨(HP.out.1.trans (HB1.out.mono HP.out.1.size)).trans (hb2.mono (Nat.le_trans HP.out.1.size HB1.out.size)), (HP.out.2.1.below HB1.out (by have := HP.out.2.2; omega)).below hb2 (by omega), Nat.le_trans hle hb2.size⟩
      have hfl : ∀ g1, (Value.slice fa j fc).ownBlock = some g1 → g1 ≠ wr.heap.size := fun g1 hg1 => Nat.ne_of_lt (HM.out.full.lt g1 hg1).2
      obtain ⟨h9, h10, h11, hf⟩ := hM2.hand.cells
      obtain ⟨W3, hW3, hb3, -⟩ := one_new w2 #[.slice (some ⟨g, 0, none⟩) (x.2.length + 8) c'] 32
      have hS3 : See (w2.alloc (.cells #[.slice (some ⟨g, 0, none⟩) (x.2.length + 8) c'] 32)) 1 (.slice (some ⟨w2.heap.size, 0, none⟩) 1 1) 1 [.slice (some ⟨g, 0, none⟩) (x.2.length + 8) c'] := see_one (A := #[.slice (some ⟨g, 0, none⟩) (x.2.length + 8) c']) rfl (by simp [Value.oneCell'])
      rw [hW3] at hS3
      have HM3 : Hid (Made W3 (w.heap.size + 1 + 1) (w.heap.size + 1) p V G (.slice p.acts n pc) (.slice fa j fc) (.slice oa j oc) 0) := hM2.below hb3
      have HS3 : Hid (See W3 1 (.slice (some ⟨w2.heap.size, 0, none⟩) 1 1) 1 [.slice (some ⟨g, 0, none⟩) (x.2.length + 8) c']) := hS3
      have HO3 : Hid (W3.ownsRow (w.heap.size + 1 + 1) 32 1 (.slice oa j oc) j (slC V G)) := by
        have h := HM3.out.ops
        rw [HG.out] at h
        exact h
      have HR3 : Hid (W3.ownsRow (w.heap.size + 1 + 1) 54 6 (.slice (some ⟨g, 0, none⟩) (x.2.length + 8) c') (x.2.length + 8) (opsC (twinL x.2))) := owns_below hrow2 hb3
      have HA3 : Hid (ActAt W3 wr.heap.size x.1) := ha2.below hb3 ha2.lt
      have HP3 : Hid (Below w.heap.size w W3 ∧ PlAt W3 w.heap.size p ∧ w.heap.size + 1 + 1 ≤ W3.heap.size) := ⟨HP2.out.1.trans (hb3.mono HP2.out.1.size), HP2.out.2.1.below hb3 (by have := HP2.out.2.2; omega), Nat.le_trans HP2.out.2.2 hb3.size⟩
      have hz : j + 1 ≤ maxLen ∧ (j + 1) * 24 ≤ 140737488355328 ∧ w.heap.size + 1 + 1 ≤ W3.heap.size := ⟨by unfold maxLen; omega, by omega, HP3.out.2.2⟩
      have HFL : Hid (∀ g1, (Value.slice fa j fc).ownBlock = some g1 → g1 ≠ wr.heap.size) := hfl
      clear hM2 ha2 hle hrow hrow2 hb2 hS3 hb3 h9 h10 HP2 hfl HM HA1 HB1 HP
      go_upto_region 8 with (at_builtin; (try rw [hW3]); refine wpList_app rfl _ _ 37 32 rfl _ 1 24 Tryz.underlying37 infoSl rfl (by decide) (w.heap.size + 1 + 1) _ _ j 1 _ _ rfl HO3.out rfl HS3.out hz.1 hz.2.1 hz.2.2 ?_; intro v' w4 hown4 hgrow4; obtain ⟨a4, c4, rfl⟩ := owns_form hown4; have HO4 : Hid _ := hown4; have HG4 : Hid _ := hgrow4; obtain ⟨h9, h10, h11, hf⟩ := (hand_grown HM3.out.hand hgrow4 HO3.out (by decide)).cells; clear hown4 hgrow4)
      have hH5 := HM3.out.step1 x (by rw [HG.out]; exact HX.out) g c' HR3.out (.slice a4 (j + 1) c4) (by rw [HG.out]; exact HO4.out) HG4.out
      have ha4 := actAt_grown HA3.out HG4.out HO3.out (by decide)
      have hh4 := hand_grown HM3.out.hand HG4.out HO3.out (by decide)
      have hb4 : Below (w.heap.size + 1 + 1) W3 w4 := grown_base HG4.out hz.2.2 HO3.out
      have ha5 : ActAt (w4.setCell ⟨w.heap.size + 1, 11, none⟩ (.slice a4 (j + 1) c4)) wr.heap.size x.1 := (Below.heap_setCell _ _ _ _ (by show wr.heap.size ≠ w.heap.size + 1; have := HWR.out; omega)).trans ha4
      have hP5 : Below w.heap.size w (w4.setCell ⟨w.heap.size + 1, 11, none⟩ (.slice a4 (j + 1) c4)) ∧ PlAt (w4.setCell ⟨w.heap.size + 1, 11, none⟩ (.slice a4 (j + 1) c4)) w.heap.size p ∧ w.heap.size + 1 + 1 ≤ (w4.setCell ⟨w.heap.size + 1, 11, none⟩ (.slice a4 (j + 1) c4)).heap.size := by
        have hq : Below (w.heap.size + 1) W3 (w4.setCell ⟨w.heap.size + 1, 11, none⟩ (.slice a4 (j + 1) c4)) := (hb4.mono (Nat.le_succ _)).setCell (p := ⟨w.heap.size + 1, 11, none⟩) (Nat.le_refl _) _
        exact ⟨HP3.out.1.trans (hq.mono (Nat.le_succ _)), HP3.out.2.1.below hq (Nat.lt_succ_self _), Nat.le_trans HP3.out.2.2 hq.size⟩
      obtain ⟨W5, hW5⟩ : ∃ W5, w4.setCell ⟨w.heap.size + 1, 11, none⟩ (.slice a4 (j + 1) c4) = W5 := ⟨_, rfl⟩
      rw [hW5]
      rw [hW5] at hH5 ha5 hP5
      clear hW5 ha4 hh4 hb4 h9 h10 h11 hf HM3 HO3 HS3 HR3 HA3 HP3 HO4 HG4 hz hW3
      obtain ⟨-, c1, -⟩ := ha5.nine
      rw [← HXN.out] at c1
      have f1 := ha5.frozen 1
      have hle : x.2.length ≤ c' := by omega
      have hleI : (x.2.length : Int) ≤ (c' : Int) := by omega
      have hH6 := hH5.seta ha5 HFL.out 1 (.slice (some ⟨g, 0, none⟩) x.2.length c')
      have ha6 : ActAt (W5.setCell ⟨wr.heap.size, 1, none⟩ (.slice (some ⟨g, 0, none⟩) x.2.length c')) wr.heap.size (hd x (g, c')) := by
        unfold ActAt at ha5 ⊢
        simp [World.setCell, Array.getElem?_modify, ha5, ActR.cells, hd, HXN.out]
      have hP6 : Below w.heap.size w (W5.setCell ⟨wr.heap.size, 1, none⟩ (.slice (some ⟨g, 0, none⟩) x.2.length c')) ∧ PlAt (W5.setCell ⟨wr.heap.size, 1, none⟩ (.slice (some ⟨g, 0, none⟩) x.2.length c')) w.heap.size p ∧ w.heap.size + 1 + 1 ≤ (W5.setCell ⟨wr.heap.size, 1, none⟩ (.slice (some ⟨g, 0, none⟩) x.2.length c')).heap.size := by
        have hwr : w.heap.size + 1 + 1 ≤ wr.heap.size := HWR.out
        have hq : Below (w.heap.size + 1) W5 (W5.setCell ⟨wr.heap.size, 1, none⟩ (.slice (some ⟨g, 0, none⟩) x.2.length c')) := (Below.refl _ _).setCell (p := ⟨wr.heap.size, 1, none⟩) (by show w.heap.size + 1 ≤ wr.heap.size; omega) _
        exact ⟨hP5.1.trans (hq.mono (Nat.le_succ _)), hP5.2.1.below hq (Nat.lt_succ_self _), Nat.le_trans hP5.2.2 hq.size⟩
      obtain ⟨W6, hW6⟩ : ∃ W6, W5.setCell ⟨wr.heap.size, 1, none⟩ (.slice (some ⟨g, 0, none⟩) x.2.length c') = W6 := ⟨_, rfl⟩
      rw [hW6] at hH6 ha6 hP6
      have HW6 : Hid (Unit → _ = W6) := fun _ => hW6
      have HH6 : Hid (Half W6 (w.heap.size + 1 + 1) (w.heap.size + 1) p V G (g, c') (.slice p.acts n pc) (.slice fa j fc) (.slice a4 (j + 1) c4)) := hH6
      have HP6 : Hid (Below w.heap.size w W6 ∧ PlAt W6 w.heap.size p ∧ w.heap.size + 1 + 1 ≤ W6.heap.size) := hP6
      clear hW6 hH5 ha5 hP5 hH6 hP6 hcap HFL HWR
      go_upto_region 9 with fail
      rw [HW6.out ()]
      clear HW6 c1 f1 hle hleI
      obtain ⟨h9, h10, h11, hf⟩ := HH6.out.hand.cells
      obtain ⟨a0, a1, a2, a3, a5, a6, a7, a8, a9⟩ := ha6.nine
      have hx0 : (hd x (g, c')).cells.toList = [.int .i64 x.1.kind, .slice (some ⟨g, 0, none⟩) x.2.length c', .int .i64 x.1.i, .int .i64 x.1.before, .int .i64 x.1.ek, .int .i64 x.1.put, .int .i64 x.1.frm, .string x.1.name, .string x.1.blob] := by simp [hd, ActR.cells, HXN.out]
      have a1 : W6.cell? ⟨wr.heap.size, 1, none⟩ = some (.slice (some ⟨g, 0, none⟩) x.2.length c') := by rw [HXN.out]; exact a1
      unfold hd at a0 a2 a3 a5 a6 a7 a8 a9
      dsimp only at a0 a2 a3 a5 a6 a7 a8 a9
      obtain ⟨W7, hW7, hb7, -⟩ := one_new W6 #[.int .i64 x.1.kind, .slice (some ⟨g, 0, none⟩) x.2.length c', .int .i64 x.1.i, .int .i64 x.1.before, .int .i64 x.1.ek, .int .i64 x.1.put, .int .i64 x.1.frm, .string x.1.name, .string x.1.blob] 36
      have hS7 : See (W6.alloc (.cells #[.int .i64 x.1.kind, .slice (some ⟨g, 0, none⟩) x.2.length c', .int .i64 x.1.i, .int .i64 x.1.before, .int .i64 x.1.ek, .int .i64 x.1.put, .int .i64 x.1.frm, .string x.1.name, .string x.1.blob] 36)) 9 (.slice (some ⟨W6.heap.size, 0, none⟩) 1 1) 1 (hd x (g, c')).cells.toList := by
        rw [hx0]
        exact see_one (A := #[.int .i64 x.1.kind, .slice (some ⟨g, 0, none⟩) x.2.length c', .int .i64 x.1.i, .int .i64 x.1.before, .int .i64 x.1.ek, .int .i64 x.1.put, .int .i64 x.1.frm, .string x.1.name, .string x.1.blob]) rfl (by simp [Value.oneCell'])
      rw [hW7] at hS7
      have HS7 : Hid (See W7 9 (.slice (some ⟨W6.heap.size, 0, none⟩) 1 1) 1 (hd x (g, c')).cells.toList) := hS7
      have HH7 : Hid (Half W7 (w.heap.size + 1 + 1) (w.heap.size + 1) p V G (g, c') (.slice p.acts n pc) (.slice fa j fc) (.slice a4 (j + 1) c4)) := HH6.out.below hb7
      have HO7 : Hid (W7.ownsRow (w.heap.size + 1 + 1) 36 9 (.slice fa j fc) j (actsC (List.zipWith hd V G))) := by
        have h := HH7.out.full
        rw [HG.out] at h
        exact h
      have HP7 : Hid (Below w.heap.size w W7 ∧ PlAt W7 w.heap.size p ∧ w.heap.size + 1 + 1 ≤ W7.heap.size) := ⟨HP6.out.1.trans (hb7.mono HP6.out.1.size), HP6.out.2.1.below hb7 (by have := HP6.out.2.2; omega), Nat.le_trans HP6.out.2.2 hb7.size⟩
      have hz7 : j + 1 ≤ maxLen ∧ (j + 1) * 104 ≤ 140737488355328 ∧ w.heap.size + 1 + 1 ≤ W7.heap.size := ⟨by unfold maxLen; omega, by omega, HP7.out.2.2⟩
      clear hS7 hb7 h9 h11 ha6 HH6 HP6
      obtain ⟨i0, hi0, hz0, hz1, hz2⟩ := info_parts infoAct
      have HO7d : Hid (W7.drew.ownsRow (w.heap.size + 1 + 1) 36 9 (.slice fa j fc) j (actsC (List.zipWith hd V G))) := by
        have h := HO7.out
        exact h
      have HNd : Hid (∀ (i : Nat) u, (hd x (g, c')).cells.toList[i]? = some u → W7.drew.cell? ((⟨W6.heap.size, 0, none⟩ : Addr).add i) = some u) := by
        show ∀ i u, _
        intro i u hu
        rw [hx0] at hu
        rw [← hW7]
        exact cells_new W6 #[.int .i64 x.1.kind, .slice (some ⟨g, 0, none⟩) x.2.length c', .int .i64 x.1.i, .int .i64 x.1.before, .int .i64 x.1.ek, .int .i64 x.1.put, .int .i64 x.1.frm, .string x.1.name, .string x.1.blob] 36 i u (by simpa using hu)
      have HLd : Hid ((hd x (g, c')).cells.toList.length = 1 * 9) := by show _ = _; rw [hx0]; rfl
      have HHd : Hid (HandAt W7.drew (w.heap.size + 1) p (.slice p.acts n pc) (.slice fa j fc) (.slice a4 (j + 1) c4)) := by
        have h := HH7.out.hand
        exact h
      have HBd : Hid (Below w.heap.size w W7.drew) := by
        have h := HP7.out.1
        exact Below.drew h
      have HSd : Hid (w.heap.size + 1 + 1 ≤ W7.drew.heap.size) := by
        have h := HP7.out.2.2
        exact h
      have h10b : W7.cell? ⟨w.heap.size + 1, 10, none⟩ = some (.slice fa j fc) := HHd.out.cells.2.1
      have h10c : W7.drew.cell? ⟨w.heap.size + 1, 10, none⟩ = some (.slice fa j fc) := HHd.out.cells.2.1
      have h10d : W6.drew.cell? ⟨w.heap.size + 1, 10, none⟩ = some (.slice fa j fc) := h10
      have b0 : W6.drew.cell? ⟨wr.heap.size, 0, none⟩ = _ := a0
      have b1 : W6.drew.cell? ⟨wr.heap.size, 1, none⟩ = _ := a1
      have b2 : W6.drew.cell? ⟨wr.heap.size, 2, none⟩ = _ := a2
      have b3 : W6.drew.cell? ⟨wr.heap.size, 3, none⟩ = _ := a3
      have b5 : W6.drew.cell? ⟨wr.heap.size, 4, none⟩ = _ := a5
      have b6 : W6.drew.cell? ⟨wr.heap.size, 5, none⟩ = _ := a6
      have b7 : W6.drew.cell? ⟨wr.heap.size, 6, none⟩ = _ := a7
      have b8 : W6.drew.cell? ⟨wr.heap.size, 7, none⟩ = _ := a8
      have b9 : W6.drew.cell? ⟨wr.heap.size, 8, none⟩ = _ := a9
      clear hf hx0
      go_wp2_with fail
      go_region_law (refine step_append_own rfl (.tmp 46) (.tmp 48) 22 rfl (w.heap.size + 1 + 1) 36 i0 _ 9 104 Tryz.underlying22 hi0 hz0 hz1 hz2 rfl (by decide) _ _ _ (by simp [Act.eval]) HO7d.out ⟨W6.heap.size, 0, none⟩ 1 1 (hd x (g, c')).cells.toList (by simp [Act.eval]) HLd.out HNd.out (acells_one _) hz7.1 hz7.2.1 HSd.out ?_; intro v' w8 hown8 hgrow8; obtain ⟨a8', c8', rfl⟩ := owns_form hown8; have HO8 : Hid _ := hown8; have HG8 : Hid _ := hgrow8; obtain ⟨h9', h10', h11', hf'⟩ := (hand_grown HHd.out hgrow8 HO7d.out (by decide)).cells; clear hown8 hgrow8)
      all_goals
        have HG8w : Hid (W7.grownBy w8 (Value.slice fa j fc).ownBlock) := ⟨HG8.out.os, HG8.out.tape, HG8.out.output, HG8.out.size, HG8.out.block⟩
        have HM9 : Hid (Made (w8.setCell ⟨w.heap.size + 1, 10, none⟩ (.slice a8' (j + 1) c8')) (w.heap.size + 1 + 1) (w.heap.size + 1) p V (G ++ [(g, c')]) (.slice p.acts n pc) (.slice a8' (j + 1) c8') (.slice a4 (j + 1) c4) 0) :=
          HH7.out.step2 x (by rw [HG.out]; exact HX.out) (.slice a8' (j + 1) c8') (by rw [HG.out]; exact HO8.out) HG8w.out
        have HP9 : Hid (Below w.heap.size w (w8.setCell ⟨w.heap.size + 1, 10, none⟩ (.slice a8' (j + 1) c8')) ∧ PlAt (w8.setCell ⟨w.heap.size + 1, 10, none⟩ (.slice a8' (j + 1) c8')) w.heap.size p ∧ w.heap.size + 1 + 1 ≤ (w8.setCell ⟨w.heap.size + 1, 10, none⟩ (.slice a8' (j + 1) c8')).heap.size) := by
          have hb8 : Below (w.heap.size + 1 + 1) W7 w8 := grown_base HG8w.out hz7.2.2 HO7.out
          have hq : Below (w.heap.size + 1) W7 (w8.setCell ⟨w.heap.size + 1, 10, none⟩ (.slice a8' (j + 1) c8')) := (hb8.mono (Nat.le_succ _)).setCell (p := ⟨w.heap.size + 1, 10, none⟩) (Nat.le_refl _) _
          exact ⟨HP7.out.1.trans (hq.mono (Nat.le_succ _)), HP7.out.2.1.below hq (Nat.lt_succ_self _), Nat.le_trans HP7.out.2.2 hq.size⟩
        clear HH7 HO7 HS7 HP7 HO8 HG8 HG8w h9' h10' h11' hf' HO7d HNd HLd HHd HBd HSd h10 h10b h10c h10d b0 b1 b2 b3 b5 b6 b7 b8 b9 a0 a1 a2 a3 a5 a6 a7 a8 a9 hz7 hW7
        obtain ⟨W9, hW9⟩ : ∃ W9, w8.setCell ⟨w.heap.size + 1, 10, none⟩ (.slice a8' (j + 1) c8') = W9 := ⟨_, rfl⟩
        rw [hW9] at HM9 HP9 ⊢
        clear hW9
        go_wp2
        go_roundg (gk - 1)
        case measure => have := HJ.out; omega
        case rel => exact ⟨j + 1, G ++ [(g, c')], a8', a4, c8', c4, by have := HJ.out; omega, by go_num, by show (G ++ [(g, c')]).length = _; rw [List.length_append, HG.out]; rfl, HM9, HP9⟩
    · obtain rfl : j = n := by omega
      have hltI : ¬ (j : Int) < (j : Int) := by omega
      go_wp2_with fail
      clear c9
      go_loopg [7] 8 (fun gk2 i wq => ∃ (m : Nat) (fa : Option Addr) (fc : Nat), m + gk2 = 8 ∧ i = .int .i64 (m : Int) ∧ Hid (Made wq (w.heap.size + 1 + 1) (w.heap.size + 1) p V G (.slice p.acts j pc) (.slice fa (j + m) fc) (.slice oa j oc) m) ∧ Hid (Below w.heap.size w wq ∧ PlAt wq w.heap.size p ∧ w.heap.size + 1 + 1 ≤ wq.heap.size))
      case atStart => exact ⟨0, fa, fc, by omega, rfl, HM, HP⟩
      case round =>
        clear HM HP
        obtain ⟨m, fa, fc, hm, rfl, HM, HP⟩ := hrel
        have HMm : Hid (m + gk = 8) := hm
        have hm8 : m ≤ 8 := by omega
        clear hm
        by_cases hlm : m < 8
        · have hlmI : (m : Int) < 8 := by omega
          obtain ⟨h9, h10, h11, hf⟩ := HM.out.hand.cells
          obtain ⟨W7, hW7, hb7, -⟩ := one_new wr #[.int .i64 77, .slice none 0 0, .int .i64 0, .int .i64 0, .int .i64 0, .int .i64 0, .int .i64 0, .string { data := #[] }, .string { data := #[] }] 36
          have hS7 : See (wr.alloc (.cells #[.int .i64 77, .slice none 0 0, .int .i64 0, .int .i64 0, .int .i64 0, .int .i64 0, .int .i64 0, .string { data := #[] }, .string { data := #[] }] 36)) 9 (.slice (some ⟨wr.heap.size, 0, none⟩) 1 1) 1 markA.cells.toList := see_one (A := #[.int .i64 77, .slice none 0 0, .int .i64 0, .int .i64 0, .int .i64 0, .int .i64 0, .int .i64 0, .string { data := #[] }, .string { data := #[] }]) rfl (acells_one markA)
          rw [hW7] at hS7
          have HS7 : Hid (See W7 9 (.slice (some ⟨wr.heap.size, 0, none⟩) 1 1) 1 markA.cells.toList) := hS7
          have HM7 : Hid (Made W7 (w.heap.size + 1 + 1) (w.heap.size + 1) p V G (.slice p.acts j pc) (.slice fa (j + m) fc) (.slice oa j oc) m) := HM.out.below hb7
          have HO7 : Hid (W7.ownsRow (w.heap.size + 1 + 1) 36 9 (.slice fa (j + m) fc) (j + m) (actsC (List.zipWith hd V G ++ List.replicate m markA))) := by
            have h := HM7.out.full
            rw [HG.out] at h
            exact h
          have HP7 : Hid (Below w.heap.size w W7 ∧ PlAt W7 w.heap.size p ∧ w.heap.size + 1 + 1 ≤ W7.heap.size) := ⟨HP.out.1.trans (hb7.mono HP.out.1.size), HP.out.2.1.below hb7 (by have := HP.out.2.2; omega), Nat.le_trans HP.out.2.2 hb7.size⟩
          have hz7 : j + m + 1 ≤ maxLen ∧ (j + m + 1) * 104 ≤ 140737488355328 ∧ w.heap.size + 1 + 1 ≤ W7.heap.size := ⟨by unfold maxLen; omega, by omega, HP7.out.2.2⟩
          clear hS7 hb7 h9 h11 hf HM HP
          go_wp2_with (at_builtin; (try rw [hW7]); refine wpList_app rfl _ _ 22 36 rfl _ 9 104 Tryz.underlying22 infoAct rfl (by decide) (w.heap.size + 1 + 1) _ _ (j + m) 1 _ _ rfl HO7.out rfl HS7.out hz7.1 hz7.2.1 hz7.2.2 ?_; intro v' w8 hown8 hgrow8; obtain ⟨a8', c8', rfl⟩ := owns_form hown8; have HO8 : Hid _ := hown8; have HG8 : Hid _ := hgrow8; obtain ⟨h9', h10', h11', hf'⟩ := (hand_grown HM7.out.hand hgrow8 HO7.out (by decide)).cells; clear hown8 hgrow8)
          have HM9 : Hid (Made (w8.setCell ⟨w.heap.size + 1, 10, none⟩ (.slice a8' (j + m + 1) c8')) (w.heap.size + 1 + 1) (w.heap.size + 1) p V G (.slice p.acts j pc) (.slice a8' (j + (m + 1)) c8') (.slice oa j oc) (m + 1)) :=
            HM7.out.step3 (.slice a8' (j + m + 1) c8') (by rw [HG.out]; exact HO8.out) HG8.out
          have HP9 : Hid (Below w.heap.size w (w8.setCell ⟨w.heap.size + 1, 10, none⟩ (.slice a8' (j + m + 1) c8')) ∧ PlAt (w8.setCell ⟨w.heap.size + 1, 10, none⟩ (.slice a8' (j + m + 1) c8')) w.heap.size p ∧ w.heap.size + 1 + 1 ≤ (w8.setCell ⟨w.heap.size + 1, 10, none⟩ (.slice a8' (j + m + 1) c8')).heap.size) := by
            have hb8 : Below (w.heap.size + 1 + 1) W7 w8 := grown_base HG8.out hz7.2.2 HO7.out
            have hq : Below (w.heap.size + 1) W7 (w8.setCell ⟨w.heap.size + 1, 10, none⟩ (.slice a8' (j + m + 1) c8')) := (hb8.mono (Nat.le_succ _)).setCell (p := ⟨w.heap.size + 1, 10, none⟩) (Nat.le_refl _) _
            exact ⟨HP7.out.1.trans (hq.mono (Nat.le_succ _)), HP7.out.2.1.below hq (Nat.lt_succ_self _), Nat.le_trans HP7.out.2.2 hq.size⟩
          clear HM7 HO7 HS7 HP7 HO8 HG8 h9' h10' h11' hf' h10 hz7 hW7
          go_roundg (gk - 1)
          case measure => have := HMm.out; omega
          case rel => exact ⟨m + 1, a8', c8', by have := HMm.out; omega, by go_num, HM9, HP9⟩
        · obtain rfl : m = 8 := by omega
          have hlmI : ¬ ((8 : Nat) : Int) < 8 := by decide
          have hfull := HM.out.full
          obtain ⟨fg, fc', hfg⟩ := owns_form2 hfull (by rw [HG.out]; omega)
          injection hfg with e1 _ e3
          subst e1 e3
          rw [HG.out] at hfull
          have hcap := own_cap hfull
          have hcapI : (j : Int) ≤ (fc : Int) := by omega
          have hcapN : j ≤ fc := by omega
          obtain ⟨h9, h10, h11, hf⟩ := HM.out.hand.cells
          have c9 : wr.cell? ⟨w.heap.size, 9, none⟩ = some (.slice p.acts j pc) := by
            have h : wr.cell? ⟨w.heap.size, 9, none⟩ = some (.slice p.acts p.nacts p.cacts) := HP.out.2.1 9 _ rfl
            rw [HNP.out, HPC.out] at h
            exact h
          have c9d : wr.drew.cell? ⟨w.heap.size, 9, none⟩ = some (.slice p.acts j pc) := c9
          have h9d : wr.drew.cell? ⟨w.heap.size + 1, 9, none⟩ = _ := h9
          have h10d : wr.drew.cell? ⟨w.heap.size + 1, 10, none⟩ = _ := h10
          have hfd : ∀ j, wr.drew.frozen? ⟨w.heap.size + 1, j, none⟩ = false := hf
          have HMF : Hid (Made (wr.setCell ⟨w.heap.size + 1, 9, none⟩ (.slice (some ⟨fg, 0, none⟩) j fc)) (w.heap.size + 1 + 1) (w.heap.size + 1) p V G (.slice (some ⟨fg, 0, none⟩) j fc) (.slice (some ⟨fg, 0, none⟩) (j + 8) fc) (.slice oa j oc) 8) := HM.out.acts _
          have HBF : Hid (Below w.heap.size w (wr.setCell ⟨w.heap.size + 1, 9, none⟩ (.slice (some ⟨fg, 0, none⟩) j fc))) := HP.out.1.setCell (p := ⟨w.heap.size + 1, 9, none⟩) (Nat.le_succ _) _
          have HMFd : Hid (Made (wr.setCell ⟨w.heap.size + 1, 9, none⟩ (.slice (some ⟨fg, 0, none⟩) j fc)).drew (w.heap.size + 1 + 1) (w.heap.size + 1) p V G (.slice (some ⟨fg, 0, none⟩) j fc) (.slice (some ⟨fg, 0, none⟩) (j + 8) fc) (.slice oa j oc) 8) := HMF.out.below (bd1 _)
          have HBFd : Hid (Below w.heap.size w (wr.setCell ⟨w.heap.size + 1, 9, none⟩ (.slice (some ⟨fg, 0, none⟩) j fc)).drew) := Below.drew HBF.out
          obtain ⟨WF, hWF⟩ : ∃ WF, (wr.setCell ⟨w.heap.size + 1, 9, none⟩ (.slice (some ⟨fg, 0, none⟩) j fc)).drew = WF := ⟨_, rfl⟩
          rw [hWF] at HMFd HBFd
          have HWF : Hid (Unit → _ = WF) := fun _ => hWF
          clear hfull hcap HM HP HMF HBF hWF
          go_wp2_with fail
          go_region
          all_goals
            rw [HWF.out ()]
            clear c9 c9d h9 h9d h10 h10d h11 hf hfd HWF
            go_wp2
            go_ret
            exact ⟨G, fg, fc, oa, oc, rfl, HG.out, HMFd.out, HBFd.out⟩
end Go.Proofs.YtlmopjbfagijeaaGreatDoor.Sc
