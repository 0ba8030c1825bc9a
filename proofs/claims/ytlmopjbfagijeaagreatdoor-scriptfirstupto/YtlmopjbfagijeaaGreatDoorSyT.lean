import Derived.Deep.Cut
import Derived.BigRegion
import Derived.Test.YtlmopjbfagijeaaGreatDoorSqY
import Derived.Test.YtlmopjbfagijeaaGreatDoorYlM
namespace Go.Proofs.YtlmopjbfagijeaaGreatDoor.Sc
open Go.RowKit Go.Lib Go.Deep
theorem plr_set {w : World} {g : Nat} {p : PlR} (h : w.heap[g]? = some (.cells p.cells 26 (0, 0))) (a : Option Addr) (c : Nat) : (w.setCell ⟨g, 9, none⟩ (.slice a p.nacts c)).heap[g]? = some (.cells (PlR.cells { p with acts := a, cacts := c }) 26 (0, 0)) := by
  simp [World.setCell, Array.getElem?_modify, h, PlR.cells]
theorem sizePl : (Tryz.prog.info? 26).map (·.size) = some 10 := by kernel_rfl
theorem plr_one (p : PlR) : p.cells.all (·.oneCell') = true := by simp [PlR.cells, Value.oneCell']
open Go.Proofs.YtlmopjbfagijeaaGreatDoor.Sq (See wpList_app see_own see_one owns_form owns_form2 one_new grown_base owns_keep owns_below owns_base owns_block own_cap)

theorem seeA_own {w : World} {B n c : Nat} {a : Option Addr} {L : List ActR} (h : w.ownsRow B 36 9 (.slice a n c) n (actsC L)) (hl : L.length = n) : SeeA w a L := by
  intro hne
  have hpos : 0 < n := by
    cases L with
    | nil => exact absurd rfl hne
    | cons _ _ => simp at hl; omega
  obtain ⟨g, c', hg⟩ := owns_form2 h hpos
  injection hg with e1 _ e3
  subst e1 e3
  refine ⟨g, 0, rfl, ?_, fun i o ho => (nine_own h ho).1⟩
  cases L with
  | nil => exact absurd rfl hne
  | cons o t => exact (nine_own (i := 0) (o := o) h rfl).2
set_option maxRecDepth 20000 in
set_option maxHeartbeats 2000000 in
theorem turned_any (p : PlR) (V : List ActV) (hok : VOk V) (hn : V.length = p.nacts) (w : World) (h : SeeV w p.acts V) :
    Calls Tryz.prog 19 #[.agg p.cells] w fun e w' => ∃ (a : Option Addr) (c : Nat), e = .returned (.agg (PlR.cells { p with acts := a, cacts := c })) ∧ SeeV w' a V.reverse ∧ (∀ g o, a = some ⟨g, o, none⟩ → w.heap.size ≤ g) ∧ Below w.heap.size w w' := by
  obtain ⟨W, hW⟩ : ∃ W, (w.alloc (.cells p.cells 26)).alloc (.cells #[.int .i64 0, .int .i64 0, .int .i64 0, .int .i64 0, .int .i64 0, .int .i64 0, .bool false, .string { data := #[] }, .string { data := #[] }, .slice none 0 0] 26) = W := ⟨_, rfl⟩
  have hbW : Below w.heap.size w W := by rw [← hW]; exact ((Below.refl _ _).alloc (Nat.le_refl _) _).alloc (by simp) _
  have h1 : W.heap[w.heap.size]? = some (.cells p.cells 26 (0, 0)) := by
    rw [← hW]
    exact (Lib.alloc_old _ _ _ (by simp)).trans (heap_alloc_new _ _)
  have h1r : W.heap[w.heap.size + 1]? = some (.cells #[.int .i64 0, .int .i64 0, .int .i64 0, .int .i64 0, .int .i64 0, .int .i64 0, .bool false, .string { data := #[] }, .string { data := #[] }, .slice none 0 0] 26 (0, 0)) := by
    have h := heap_alloc_new (w.alloc (.cells p.cells 26)) (.cells #[.int .i64 0, .int .i64 0, .int .i64 0, .int .i64 0, .int .i64 0, .int .i64 0, .bool false, .string { data := #[] }, .string { data := #[] }, .slice none 0 0] 26)
    rw [hW, show (w.alloc (.cells p.cells 26)).heap.size = w.heap.size + 1 by simp] at h
    exact h
  have hWs : W.heap.size = w.heap.size + 1 + 1 := by rw [← hW]; simp
  obtain ⟨n, hnn⟩ : ∃ n, p.nacts = n := ⟨_, rfl⟩
  obtain ⟨pc, hpc⟩ : ∃ pc, p.cacts = pc := ⟨_, rfl⟩
  have HN : Hid (V.length = n) := hn.trans hnn
  have HNP : Hid (p.nacts = n ∧ p.cacts = pc) := ⟨hnn, hpc⟩
  have hnb : n ≤ 1048576 := by rw [← HN.out]; exact hok.len
  have HV : Hid (SeeV W p.acts V) := h.below hbW
  have HVw : Hid (SeeV w p.acts V) := h
  have HB0 : Hid (Below w.heap.size w W ∧ Below W.heap.size W W) := ⟨hbW, Below.refl _ _⟩
  have HP1 : Hid (W.heap[w.heap.size]? = some (.cells p.cells 26 (0, 0)) ∧ W.heap[w.heap.size + 1]? = some (.cells #[.int .i64 0, .int .i64 0, .int .i64 0, .int .i64 0, .int .i64 0, .int .i64 0, .bool false, .string { data := #[] }, .string { data := #[] }, .slice none 0 0] 26 (0, 0))) := ⟨h1, h1r⟩
  have HWs : Hid (W.heap.size = w.heap.size + 1 + 1) := hWs
  have c9 : W.cell? ⟨w.heap.size, 9, none⟩ = some (.slice p.acts n pc) := by
    have h : W.cell? ⟨w.heap.size, 9, none⟩ = some (.slice p.acts p.nacts p.cacts) := plAt_of h1 9 _ rfl
    rw [hnn, hpc] at h
    exact h
  have hO0 : W.ownsRow W.heap.size 36 9 (.slice none 0 0) 0 (actsC ((V.reverse.map (·.1)).take 0)) := World.ownsRow_nil _ _ _ _
  unfold PlR.cells at hW ⊢
  rw [hnn, hpc] at hW
  rw [hnn, hpc]
  have HW : Hid (Unit → _ = W) := fun _ => hW
  have hw1 : IntKind.i64.wrap ((n : Int) - 1) = (n : Int) - 1 := by rw [IntKind.wrap_i64]; omega
  clear hW h1 h1r hbW h hn hnn hpc hok hWs
  go_enter Tryz.func19, Tryz.ntmps19
  go_upto_region 1 with fail
  rw [HW.out ()]
  clear HW
  go_wp2_with fail
  go_loopg [3, 4] n (fun gk v i wr => ∃ k : Nat, k + gk = n ∧ i = .int .i64 ((gk : Int) - 1) ∧ wr.ownsRow W.heap.size 36 9 v k (actsC ((V.reverse.map (·.1)).take k)) ∧ Hid (Below w.heap.size w wr ∧ Below W.heap.size W wr))
  case atStart => exact ⟨0, by omega, rfl, hO0, HB0.out⟩
  case round =>
    clear HB0 c9 hO0
    obtain ⟨k, hk, rfl, hown, HI⟩ := hrel
    obtain ⟨a, c, rfl⟩ := owns_form hown
    have c9 : wr.cell? ⟨w.heap.size, 9, none⟩ = some (.slice p.acts n pc) := by
      have h : wr.cell? ⟨w.heap.size, 9, none⟩ = some (.slice p.acts p.nacts p.cacts) := plAt_of ((HI.out.2.block _ (heap_lt HP1.out.1)).trans HP1.out.1) 9 _ rfl
      rw [HNP.out.1, HNP.out.2] at h
      exact h
    have HK : Hid (k + gk = n) := hk
    cases gk with
    | zero =>
      have hi0 : ¬ (0 : Int) ≤ ((0 : Nat) : Int) - 1 := by omega
      obtain rfl : k = n := by omega
      have f9 : wr.frozen? ⟨w.heap.size, 9, none⟩ = false := Lib.frozen_of_heap ((HI.out.2.block _ (heap_lt HP1.out.1)).trans HP1.out.1) 9
      have hp5 := plr_set ((HI.out.2.block _ (heap_lt HP1.out.1)).trans HP1.out.1) a c
      have hr5 : (wr.setCell ⟨w.heap.size, 9, none⟩ (.slice a p.nacts c)).heap[w.heap.size + 1]? = some (.cells #[.int .i64 0, .int .i64 0, .int .i64 0, .int .i64 0, .int .i64 0, .int .i64 0, .bool false, .string { data := #[] }, .string { data := #[] }, .slice none 0 0] 26 (0, 0)) := (Below.heap_setCell _ _ _ _ (Nat.succ_ne_self _)).trans ((HI.out.2.block _ (heap_lt HP1.out.2)).trans HP1.out.2)
      have hb5 : Below w.heap.size w (wr.setCell ⟨w.heap.size, 9, none⟩ (.slice a p.nacts c)) := HI.out.1.setCell (p := ⟨w.heap.size, 9, none⟩) (Nat.le_refl _) _
      have htk : (V.reverse.map (·.1)).take k = V.reverse.map (·.1) := List.take_of_length_le (by rw [List.length_map, List.length_reverse, HN.out]; exact Nat.le_refl _)
      rw [htk] at hown
      have hA5 : (wr.setCell ⟨w.heap.size, 9, none⟩ (.slice a p.nacts c)).ownsRow W.heap.size 36 9 (.slice a k c) k (actsC (V.reverse.map (·.1))) :=
        owns_keep hown fun g hg => Below.heap_setCell _ _ _ _ (by have := (hown.lt g hg).1; have := HWs.out; show g ≠ w.heap.size; omega)
      obtain ⟨W5, hW5⟩ : ∃ W5, wr.setCell ⟨w.heap.size, 9, none⟩ (.slice a p.nacts c) = W5 := ⟨_, rfl⟩
      rw [hW5] at hp5 hr5 hb5 hA5
      have HR5 : Hid (W5.heap[w.heap.size + 1]? = some (.cells #[.int .i64 0, .int .i64 0, .int .i64 0, .int .i64 0, .int .i64 0, .int .i64 0, .bool false, .string { data := #[] }, .string { data := #[] }, .slice none 0 0] 26 (0, 0))) := hr5
      have HA5 : Hid (W5.ownsRow W.heap.size 36 9 (.slice a k c) k (actsC (V.reverse.map (·.1))) ∧ Below w.heap.size w W5) := ⟨hA5, hb5⟩
      have HP5 : Hid (W5.heap[w.heap.size]? = some (.cells (PlR.cells { p with acts := a, cacts := c }) 26 (0, 0))) := hp5
      rw [HNP.out.1] at hW5
      have HW5 : Hid (Unit → _ = W5) := fun _ => hW5
      clear hp5 hr5 hb5 hA5 hW5 htk hown hk
      go_upto_region 7 with fail
      rw [HW5.out ()]
      clear HW5 f9 c9
      go_wp2_with (first | (refine wpList_load_row rfl 26 (.tmp 1) rfl w.heap.size rfl 26 _ (0, 0) _ HP5.out Tryz.underlying26 rfl sizePl ?_) | (refine wpList_store_row rfl 26 (.tmp 2) (.tmp 23) rfl (w.heap.size + 1) (PlR.cells { p with acts := a, cacts := c }) rfl rfl 26 _ HR5.out sizePl rfl (plr_one _) ?_))
      refine bodyPost_ret (results_cell1 rfl _ _ (w.heap.size + 1) 26 _ (0, 0) _ rfl (setRow_heap _ _ _ _ _ _ HR5.out) Tryz.underlying26 rfl sizePl) rfl ?_
      have hb6 : Below w.heap.size W5 (W5.setRow (w.heap.size + 1) (PlR.cells { p with acts := a, cacts := c })) := ⟨rfl, rfl, rfl, by simp, fun i hi => setRow_other _ _ _ _ (by omega)⟩
      have hb7 := HA5.out.2.trans hb6
      have ho7 : (W5.setRow (w.heap.size + 1) (PlR.cells { p with acts := a, cacts := c })).ownsRow W.heap.size 36 9 (.slice a k c) k (actsC (V.reverse.map (·.1))) :=
        owns_keep HA5.out.1 fun g hg => setRow_other _ _ _ _ (by have := (HA5.out.1.lt g hg).1; have := HWs.out; omega)
      refine ⟨a, ⟨c, by rw [show (PlR.cells { p with acts := a, cacts := c }) = #[.int .i64 p.s, .int .i64 p.f, .int .i64 p.d, .int .i64 p.m, .int .i64 p.l, .int .i64 p.p, .bool p.ideal, .string p.master, .string p.tape, .slice a p.nacts c] from rfl, HNP.out.1]⟩, ⟨?_, fun i x hx => ?_⟩, fun g o ha => ?_, hb7⟩
      · exact seeA_own ho7 (by rw [List.length_map, List.length_reverse, HN.out])
      · obtain ⟨j, hj⟩ := List.mem_iff_getElem?.1 (List.mem_reverse.1 (List.mem_of_getElem? hx))
        exact (HVw.out.ops j x hj).below hb7
      · subst ha
        rcases HA5.out.1.2 with ⟨q1, _⟩ | ⟨g1, cap1, cur1, q1, q2, _⟩
        · cases q1
        · injection q1 with q1 _ _
          injection q1 with q1
          injection q1 with q1 _
          subst q1
          have := HWs.out
          omega
    | succ m =>
      rw [show (((m + 1 : Nat) : Int) - 1) = (m : Int) by omega]
      have hi0 : (0 : Int) ≤ (m : Int) := by omega
      have hmn : (m : Int) < (n : Int) := by omega
      obtain ⟨x, hx⟩ : ∃ x, V[m]? = some x := ⟨_, List.getElem?_eq_getElem (by rw [HN.out]; omega)⟩
      obtain ⟨b, off, hpa, hbl, hnine, hops⟩ := HVw.out.at hx
      rw [hpa] at c9
      clear hpa
      obtain ⟨k0, k1, k2, k3, k4, k5, k6, k7, k8⟩ := hnine.below HI.out.1 hbl
      have hkn : k + 1 ≤ n := by omega
      have hr : (V.reverse.map (·.1))[k]? = some x.1 := by
        rw [List.getElem?_map, List.getElem?_reverse (by rw [HN.out]; omega), HN.out, show n - 1 - k = m by omega, hx]
        rfl
      obtain ⟨W7, hW7, hb7, -⟩ := one_new wr #[.int .i64 x.1.kind, .slice x.1.ops x.1.nops x.1.cops, .int .i64 x.1.i, .int .i64 x.1.before, .int .i64 x.1.ek, .int .i64 x.1.put, .int .i64 x.1.frm, .string x.1.name, .string x.1.blob] 36
      have hS7 : See (wr.alloc (.cells #[.int .i64 x.1.kind, .slice x.1.ops x.1.nops x.1.cops, .int .i64 x.1.i, .int .i64 x.1.before, .int .i64 x.1.ek, .int .i64 x.1.put, .int .i64 x.1.frm, .string x.1.name, .string x.1.blob] 36)) 9 (.slice (some ⟨wr.heap.size, 0, none⟩) 1 1) 1 x.1.cells.toList := see_one (A := #[.int .i64 x.1.kind, .slice x.1.ops x.1.nops x.1.cops, .int .i64 x.1.i, .int .i64 x.1.before, .int .i64 x.1.ek, .int .i64 x.1.put, .int .i64 x.1.frm, .string x.1.name, .string x.1.blob]) rfl (acells_one x.1)
      rw [hW7] at hS7
      have hO7 := owns_below hown hb7
      have HI7 : Hid (Below w.heap.size w W7 ∧ Below W.heap.size W W7) := ⟨HI.out.1.trans (hb7.mono HI.out.1.size), HI.out.2.trans (hb7.mono HI.out.2.size)⟩
      have hz7 : k + 1 ≤ maxLen ∧ (k + 1) * 104 ≤ 140737488355328 ∧ W.heap.size ≤ W7.heap.size := ⟨by unfold maxLen; omega, by omega, HI7.out.2.size⟩
      have HS7 : Hid (See W7 9 (.slice (some ⟨wr.heap.size, 0, none⟩) 1 1) 1 x.1.cells.toList) := hS7
      have HO7 : Hid (W7.ownsRow W.heap.size 36 9 (.slice a k c) k (actsC ((V.reverse.map (·.1)).take k))) := hO7
      have HRX : Hid ((V.reverse.map (·.1))[k]? = some x.1) := hr
      clear hk hS7 hO7 hb7 hown HI hr hnine hops hx
      go_wp2_with (at_builtin; (try rw [hW7]); refine wpList_app rfl _ _ 22 36 rfl _ 9 104 Tryz.underlying22 infoAct rfl (by decide) W.heap.size _ _ k 1 _ _ rfl HO7.out rfl HS7.out hz7.1 hz7.2.1 hz7.2.2 ?_; intro v' w8 hown8 hgrow8; have HO8 : Hid _ := hown8; have HG8 : Hid _ := hgrow8; clear hown8 hgrow8)
      have hO8 : w8.ownsRow W.heap.size 36 9 v' (k + 1) (actsC ((V.reverse.map (·.1)).take (k + 1))) := by
        rw [take_snoc _ k x.1 HRX.out, actsC_snoc]
        exact HO8.out
      have hb8 : Below W.heap.size W7 w8 := grown_base HG8.out hz7.2.2 HO7.out
      have HI8 : Hid (Below w.heap.size w w8 ∧ Below W.heap.size W w8) := ⟨HI7.out.1.trans (hb8.mono (by have := HWs.out; omega)), HI7.out.2.trans hb8⟩
      clear HO7 HS7 HO8 HG8 HI7 hb8 hz7 hW7
      go_roundg m
      case measure => omega
      case rel => exact ⟨k + 1, by have := HK.out; omega, by go_num, hO8, HI8⟩
end Go.Proofs.YtlmopjbfagijeaaGreatDoor.Sc
