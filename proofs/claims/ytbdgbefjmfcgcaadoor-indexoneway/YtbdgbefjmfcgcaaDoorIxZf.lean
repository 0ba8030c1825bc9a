import Derived.Test.YtbdgbefjmfcgcaaDoorIxZc
import Derived.Test.YtbdgbefjmfcgcaaDoorIxI
import Derived.Deep.RegionWith
namespace Go.Proofs.YtbdgbefjmfcgcaaDoor.Ix
open Go.RowKit Go.Lib Go.Deep
/-- the table while it is made -/
structure Mp (w : World) (sl fl dr mf ls pg : Nat) (vo vq : Value) (O : List Ob) (Q : List Int) (X : World) : Prop where
  be : Below w.heap.size w X
  hc : X.heap[w.heap.size]? = some (.cells #[.int .i64 (sl : Int), .int .i64 (fl : Int), .int .i64 (dr : Int), .int .i64 (mf : Int), .int .i64 (ls : Int), .int .i64 (pg : Int)] 23 (0, 0))
  hr : X.heap[w.heap.size + 1]? = some (.cells #[.slice none 0 0, .slice none 0 0] 32 (0, 0))
  hp : X.heap[w.heap.size + 2]? = some (.cells #[vo, vq] 32 (0, 0))
  ho : X.ownsRow w.heap.size 46 4 vo O.length (obsC O)
  hq : X.ownsRow w.heap.size 3 1 vq Q.length (zsC Q)
section
variable {w X Y : World} {sl fl dr mf ls pg : Nat} {vo vq v' : Value} {O : List Ob} {Q : List Int}
theorem Mp.next (h : Mp w sl fl dr mf ls pg vo vq O Q X) (hb : Below X.heap.size X Y) : Mp w sl fl dr mf ls pg vo vq O Q Y :=
  ⟨below_on hb h.be, (hb.block _ (heap_lt h.hc)).trans h.hc, (hb.block _ (heap_lt h.hr)).trans h.hr, (hb.block _ (heap_lt h.hp)).trans h.hp, owns_below h.ho hb, owns_below h.hq hb⟩
theorem Mp.cells (h : Mp w sl fl dr mf ls pg vo vq O Q X) : (X.cell? ⟨w.heap.size, 0, none⟩ = some (.int .i64 (sl : Int)) ∧ X.cell? ⟨w.heap.size, 1, none⟩ = some (.int .i64 (fl : Int)) ∧ X.cell? ⟨w.heap.size, 2, none⟩ = some (.int .i64 (dr : Int)) ∧ X.cell? ⟨w.heap.size, 3, none⟩ = some (.int .i64 (mf : Int)) ∧ X.cell? ⟨w.heap.size, 4, none⟩ = some (.int .i64 (ls : Int)) ∧ X.cell? ⟨w.heap.size, 5, none⟩ = some (.int .i64 (pg : Int))) ∧ X.cell? ⟨w.heap.size + 2, 0, none⟩ = some vo ∧ X.cell? ⟨w.heap.size + 2, 1, none⟩ = some vq ∧ (∀ j, X.frozen? ⟨w.heap.size + 2, j, none⟩ = false) ∧ w.heap.size + 2 < X.heap.size :=
  ⟨cells6 h.hc, (cell_of_heap h.hp).trans rfl, (cell_of_heap h.hp).trans rfl, fun _ => frozen_of_heap h.hp, heap_lt h.hp⟩
theorem Mp.appO (h : Mp w sl fl dr mf ls pg vo vq O Q X) (n : Ob) (hg : X.grownBy Y vo.ownBlock) (ho : Y.ownsRow w.heap.size 46 4 v' (O.length + 1) (obsC O ++ obC n)) :
    (Y.cell? ⟨w.heap.size + 2, 0, none⟩ = some vo ∧ Y.frozen? ⟨w.heap.size + 2, 0, none⟩ = false ∧ Y.cell? ⟨w.heap.size, 0, none⟩ = some (.int .i64 (sl : Int)) ∧ Y.cell? ⟨w.heap.size, 1, none⟩ = some (.int .i64 (fl : Int)) ∧ Y.cell? ⟨w.heap.size, 2, none⟩ = some (.int .i64 (dr : Int)) ∧ Y.cell? ⟨w.heap.size, 3, none⟩ = some (.int .i64 (mf : Int)) ∧ Y.cell? ⟨w.heap.size, 4, none⟩ = some (.int .i64 (ls : Int)) ∧ Y.cell? ⟨w.heap.size, 5, none⟩ = some (.int .i64 (pg : Int))) ∧ Mp w sl fl dr mf ls pg v' vq (O ++ [n]) Q (Y.setCell ⟨w.heap.size + 2, 0, none⟩ v') := by
  have hk : ∀ (p : Nat) (A : Array Value) (t : TypeId), t ≠ 46 → X.heap[p]? = some (.cells A t (0, 0)) → Y.heap[p]? = some (.cells A t (0, 0)) := fun p A t ht hp => (hg.block p (heap_lt hp) (fun e => by
    obtain ⟨cur, hcur⟩ := owns_block h.ho e.symm
    exact ty_ne hp hcur ht rfl)).trans hp
  have ht := hk _ _ _ (by decide) h.hp
  have n0 : w.heap.size ≠ w.heap.size + 2 := by omega
  have n1 : w.heap.size + 1 ≠ w.heap.size + 2 := by omega
  have hbY : Below w.heap.size w Y := h.be.trans (grown_below hg h.be.size h.ho)
  have hc := hk _ _ _ (by decide) h.hc
  refine ⟨⟨(cell_of_heap ht).trans rfl, frozen_of_heap ht, cells6 hc⟩, ⟨hbY.setCell (show w.heap.size ≤ w.heap.size + 2 by omega) _, ?_, ?_, ?_, ?_, ?_⟩⟩
  · rw [heap_setCell_other _ _ _ _ n0]
    exact hc
  · rw [heap_setCell_other _ _ _ _ n1]
    exact hk _ _ _ (by decide) h.hr
  · exact heap_setCell_same _ _ 0 _ _ v' ht
  · rw [List.length_append, show obsC (O ++ [n]) = obsC O ++ obC n by simp [obsC]]
    refine owns_keep ho fun g hgo => heap_setCell_other _ _ _ _ (fun e => ?_)
    obtain ⟨cur, hcur⟩ := owns_block ho hgo
    exact ty_ne hcur ht (by decide) e
  · refine owns_keep h.hq fun g hgo => ?_
    obtain ⟨cur, hcur⟩ := owns_block h.hq hgo
    have hY := hk _ _ _ (by decide) hcur
    rw [heap_setCell_other _ _ _ _ (ty_ne hY ht (by decide)), hY, hcur]
theorem Mp.appQ (h : Mp w sl fl dr mf ls pg vo vq O Q X) (n : Int) (hg : X.grownBy Y vq.ownBlock) (ho : Y.ownsRow w.heap.size 3 1 v' (Q.length + 1) (zsC Q ++ [.int .i64 n])) :
    (Y.cell? ⟨w.heap.size + 2, 1, none⟩ = some vq ∧ Y.frozen? ⟨w.heap.size + 2, 1, none⟩ = false ∧ Y.cell? ⟨w.heap.size, 0, none⟩ = some (.int .i64 (sl : Int)) ∧ Y.cell? ⟨w.heap.size, 1, none⟩ = some (.int .i64 (fl : Int)) ∧ Y.cell? ⟨w.heap.size, 2, none⟩ = some (.int .i64 (dr : Int)) ∧ Y.cell? ⟨w.heap.size, 3, none⟩ = some (.int .i64 (mf : Int)) ∧ Y.cell? ⟨w.heap.size, 4, none⟩ = some (.int .i64 (ls : Int)) ∧ Y.cell? ⟨w.heap.size, 5, none⟩ = some (.int .i64 (pg : Int))) ∧ Mp w sl fl dr mf ls pg vo v' O (Q ++ [n]) (Y.setCell ⟨w.heap.size + 2, 1, none⟩ v') := by
  have hk : ∀ (p : Nat) (A : Array Value) (t : TypeId), t ≠ 3 → X.heap[p]? = some (.cells A t (0, 0)) → Y.heap[p]? = some (.cells A t (0, 0)) := fun p A t ht hp => (hg.block p (heap_lt hp) (fun e => by
    obtain ⟨cur, hcur⟩ := owns_block h.hq e.symm
    exact ty_ne hp hcur ht rfl)).trans hp
  have ht := hk _ _ _ (by decide) h.hp
  have n0 : w.heap.size ≠ w.heap.size + 2 := by omega
  have n1 : w.heap.size + 1 ≠ w.heap.size + 2 := by omega
  have hbY : Below w.heap.size w Y := h.be.trans (grown_below hg h.be.size h.hq)
  have hc := hk _ _ _ (by decide) h.hc
  refine ⟨⟨(cell_of_heap ht).trans rfl, frozen_of_heap ht, cells6 hc⟩, ⟨hbY.setCell (show w.heap.size ≤ w.heap.size + 2 by omega) _, ?_, ?_, ?_, ?_, ?_⟩⟩
  · rw [heap_setCell_other _ _ _ _ n0]
    exact hc
  · rw [heap_setCell_other _ _ _ _ n1]
    exact hk _ _ _ (by decide) h.hr
  · exact heap_setCell_same _ _ 1 _ _ v' ht
  · refine owns_keep h.ho fun g hgo => ?_
    obtain ⟨cur, hcur⟩ := owns_block h.ho hgo
    have hY := hk _ _ _ (by decide) hcur
    rw [heap_setCell_other _ _ _ _ (ty_ne hY ht (by decide)), hY, hcur]
  · rw [List.length_append, show zsC (Q ++ [n]) = zsC Q ++ [.int .i64 n] by simp [zsC]]
    refine owns_keep ho fun g hgo => heap_setCell_other _ _ _ _ (fun e => ?_)
    obtain ⟨cur, hcur⟩ := owns_block ho hgo
    exact ty_ne hcur ht (by decide) e
theorem Mp.fin (h : Mp w sl fl dr mf ls pg vo vq O Q X) : (X.cell? ⟨w.heap.size + 1, 0, none⟩ = some (.slice none 0 0) ∧ X.cell? ⟨w.heap.size + 1, 1, none⟩ = some (.slice none 0 0)) ∧ (∀ j, X.frozen? ⟨w.heap.size + 1, j, none⟩ = false) ∧
    Hid (((X.setCell ⟨w.heap.size + 1, 0, none⟩ vo).setCell ⟨w.heap.size + 1, 1, none⟩ vq).heap[w.heap.size + 1]? = some (.cells #[vo, vq] 32 (0, 0)) ∧ ((X.setCell ⟨w.heap.size + 1, 0, none⟩ vo).setCell ⟨w.heap.size + 1, 1, none⟩ vq).ownsRow w.heap.size 46 4 vo O.length (obsC O) ∧ ((X.setCell ⟨w.heap.size + 1, 0, none⟩ vo).setCell ⟨w.heap.size + 1, 1, none⟩ vq).ownsRow w.heap.size 3 1 vq Q.length (zsC Q) ∧ Below w.heap.size w ((X.setCell ⟨w.heap.size + 1, 0, none⟩ vo).setCell ⟨w.heap.size + 1, 1, none⟩ vq)) := by
  have g1 := h.hr
  refine ⟨⟨(cell_of_heap g1).trans rfl, (cell_of_heap g1).trans rfl⟩, fun j => frozen_of_heap g1, Tr.put2A g1, ?_, ?_, (h.be.setCell (show w.heap.size ≤ w.heap.size + 1 by omega) _).setCell (show w.heap.size ≤ w.heap.size + 1 by omega) _⟩
  · refine owns_keep h.ho fun g hgo => ?_
    obtain ⟨cur, hcur⟩ := owns_block h.ho hgo
    have hne : g ≠ w.heap.size + 1 := ty_ne hcur g1 (by decide)
    rw [heap_setCell_other _ _ _ _ hne, heap_setCell_other _ _ _ _ hne]
  · refine owns_keep h.hq fun g hgo => ?_
    obtain ⟨cur, hcur⟩ := owns_block h.hq hgo
    have hne : g ≠ w.heap.size + 1 := ty_ne hcur g1 (by decide)
    rw [heap_setCell_other _ _ _ _ hne, heap_setCell_other _ _ _ _ hne]
end
theorem info3 : (Tryd.prog.info? 3).map (fun i => (i.zero, i.size, i.bytes)) = some (some (.int .i64 0), 1, 8) := by kernel_rfl
theorem info93 : (Tryd.prog.info? 46).map (fun i => (i.zero, i.size, i.bytes)) = some (some (.agg #[.string { data := #[] }, .string { data := #[] }, .int .i64 0, .int .i64 0]), 4, 48) := by kernel_rfl
set_option maxRecDepth 20000 in
set_option maxHeartbeats 4000000 in
/-- a table that fits -/
theorem madePool_any (sl fl dr mf ls pg : Nat) (hd : Mde ⟨sl, fl, dr, mf, ls, pg⟩) (Z : List Int) (w : World) (av : Option Addr) (n k0 : Nat) (hS : See w 1 (.slice av n k0) n (zsC Z)) (hn : Z.length = n) (hn2 : n ≤ 1099511627776000) :
    Calls Tryd.prog 7 #[.agg #[.int .i64 (sl : Int), .int .i64 (fl : Int), .int .i64 (dr : Int), .int .i64 (mf : Int), .int .i64 (ls : Int), .int .i64 (pg : Int)], .slice av n k0] w fun e w' => ∃ O Q a c a' c', poolB ⟨sl, fl, dr, mf, ls, pg⟩ O Q = true ∧ e = .returned (.agg #[.slice a O.length c, .slice a' Q.length c']) ∧ w'.ownsRow w.heap.size 46 4 (.slice a O.length c) O.length (obsC O) ∧ w'.ownsRow w.heap.size 3 1 (.slice a' Q.length c') Q.length (zsC Q) ∧ Below w.heap.size w w' := by
  obtain ⟨i0, hi, hz0, hz1, hz2⟩ := info_parts info93
  obtain ⟨j0, hj, hj0, hj1, hj2⟩ := info_parts info3
  have hlim : sl ≤ 64 ∧ fl ≤ 64 ∧ 1 ≤ sl := ⟨hd.sl, hd.fl, hd.may.1.1⟩
  clear hd
  obtain ⟨V, hV, hbV, g0, g1, g2⟩ := three_new w #[.int .i64 (sl : Int), .int .i64 (fl : Int), .int .i64 (dr : Int), .int .i64 (mf : Int), .int .i64 (ls : Int), .int .i64 (pg : Int)] #[.slice none 0 0, .slice none 0 0] #[.slice none 0 0, .slice none 0 0] 23 32 32
  have hM0 : Mp w sl fl dr mf ls pg (.slice none 0 0) (.slice none 0 0) [] [] V := ⟨hbV, g0, g1, g2, World.ownsRow_nil _ _ _ _, World.ownsRow_nil _ _ _ _⟩
  have HS : Hid (∀ X, Below w.heap.size w X → See X 1 (.slice av n k0) n (zsC Z)) := fun X hX => hS.below hX
  have HM0 : Hid _ := hM0
  clear hM0 g0 g1 g2 hbV hS
  go_enter Tryd.func7, Tryd.ntmps7
  go_wp2_with fail
  clear hV
  go_loopg [6] (fl + sl) (fun gk kv wr => ∃ (k : Nat) (O : List Ob) (Q : List Int) (vo vq : Value), k + gk = fl + sl ∧ O.length = k ∧ Q.length ≤ k ∧ kv = .int .i64 (k : Int) ∧ Hid ((∀ o ∈ O, ObF ⟨sl, fl, dr, mf, ls, pg⟩ o) ∧ ∀ q ∈ Q, 0 ≤ q ∧ q < ((fl + sl : Nat) : Int)) ∧ Hid (Mp w sl fl dr mf ls pg vo vq O Q wr))
  case atStart => exact ⟨0, [], [], .slice none 0 0, .slice none 0 0, by omega, rfl, Nat.le_refl _, rfl, ⟨fun o ho => by simp at ho, fun q hq => by simp at hq⟩, HM0.out⟩
  case round =>
    obtain ⟨k, O, Q, vo, vq, hk, hOl, hQl, rfl, HF, HMp⟩ := hrel
    have HOl : Hid (O.length = k) := hOl
    have hO9 : O.length ≤ 200 := by omega
    have hQ9 : Q.length ≤ 200 := by omega
    clear hOl
    obtain ⟨⟨y0, y1, y2, y3, y4, y5⟩, c0, c1, f2, hlw⟩ := HMp.out.cells
    by_cases hlt : k < fl + sl
    · have hI1 : (k : Int) < (fl : Int) + (sl : Int) := by omega
      by_cases h0 : n = 0
      · have h0I : ¬ (0 : Int) < (n : Int) := by omega
        clear h0
        go_upto_region 8 with fail
        have hm1 := Int.emod_nonneg ((k : Int)) (b := (fl : Int) + 1) (by omega)
        have hm2 := Int.emod_lt_of_pos ((k : Int)) (b := (fl : Int) + 1) (by omega)
        have h1c : ∀ t1 t2 : ByteArray, ∀ u ∈ [Value.string t1, .string t2, .int .i64 (((k : Int)) % 1048577), .int .i64 (((k : Int)) % ((fl : Int) + 1) - 1)], u.oneCell' = true := by simp [Value.oneCell']
        go_cut [7] (fun s wx => ∃ (y : Int) (o : Ob) (v' : Value), s = .int .i64 y ∧ Hid (ObF ⟨sl, fl, dr, mf, ls, pg⟩ o) ∧ Hid (Mp w sl fl dr mf ls pg v' vq (O ++ [o]) Q wx))
        case first =>
          have hS0 : (wr.drew.cell? ⟨w.heap.size, 0, none⟩ = some (.int .i64 (sl : Int)) ∧ wr.drew.cell? ⟨w.heap.size, 1, none⟩ = some (.int .i64 (fl : Int)) ∧ wr.drew.cell? ⟨w.heap.size, 2, none⟩ = some (.int .i64 (dr : Int)) ∧ wr.drew.cell? ⟨w.heap.size, 3, none⟩ = some (.int .i64 (mf : Int)) ∧ wr.drew.cell? ⟨w.heap.size, 4, none⟩ = some (.int .i64 (ls : Int)) ∧ wr.drew.cell? ⟨w.heap.size, 5, none⟩ = some (.int .i64 (pg : Int))) := ⟨y0, y1, y2, y3, y4, y5⟩
          refine wp_region_held_drew (S := fun W => W.cell? ⟨w.heap.size, 0, none⟩ = some (.int .i64 (sl : Int)) ∧ W.cell? ⟨w.heap.size, 1, none⟩ = some (.int .i64 (fl : Int)) ∧ W.cell? ⟨w.heap.size, 2, none⟩ = some (.int .i64 (dr : Int)) ∧ W.cell? ⟨w.heap.size, 3, none⟩ = some (.int .i64 (mf : Int)) ∧ W.cell? ⟨w.heap.size, 4, none⟩ = some (.int .i64 (ls : Int)) ∧ W.cell? ⟨w.heap.size, 5, none⟩ = some (.int .i64 (pg : Int))) (by kernel_rfl) hS0 ?_
          intro hS
          clear hS0
          have HM : Hid _ := HMp.out.next (Below.refl wr.heap.size wr).drew
          clear y0 y1 y2 y3 y4 y5 c0 c1 f2 hlw HMp
          revert hS HM
          generalize wr.drew = V
          intro hS HM
          obtain ⟨qq, hqq⟩ : ∃ qq, IntKind.i64.wrap ((k : Int) / 7) = qq := ⟨_, rfl⟩
          refine wpAnyH_take (i := 0) (oi := { dst := some 28, op := .fieldAddr 32 (.tmp 5) 0, type := _, pos := _, after := _, guard := none }) (v := .pointer (some ⟨(w.heap.size + 2), 0, none⟩)) rfl (by kernel_rfl) (by kernel_rfl) (by kernel_rfl) (fun _ _ _ h => h) (Or.inl ⟨by rfl, by intro x _; go_simp⟩) hS ?_
          (try simp only [Act.put, List.setIfInBounds_toArray, List.set_cons_zero, List.set_cons_succ])
          refine wpAnyH_take (i := 2) (oi := { dst := some 30, op := .move (.tmp 7), type := _, pos := _, after := _, guard := none }) (v := .int .i64 (((k : Int)))) rfl (by kernel_rfl) (by kernel_rfl) (by kernel_rfl) (fun _ _ _ h => h) (Or.inl ⟨by rfl, by intro x _; go_simp⟩) hS ?_
          (try simp only [Act.put, List.setIfInBounds_toArray, List.set_cons_zero, List.set_cons_succ])
          refine wpAnyH_take (i := 4) (oi := { dst := some 32, op := .move (.tmp 7), type := _, pos := _, after := _, guard := none }) (v := .int .i64 (((k : Int)))) rfl (by kernel_rfl) (by kernel_rfl) (by kernel_rfl) (fun _ _ _ h => h) (Or.inl ⟨by rfl, by intro x _; go_simp⟩) hS ?_
          (try simp only [Act.put, List.setIfInBounds_toArray, List.set_cons_zero, List.set_cons_succ])
          refine wpAnyH_take (i := 5) (oi := { dst := some 33, op := .binOp .quo 3 (.tmp 32) (.const (.int .i64 7)) 3, type := _, pos := _, after := _, guard := none }) (v := .int .i64 qq) rfl (by kernel_rfl) (by kernel_rfl) (by kernel_rfl) (fun _ _ _ h => h) (Or.inl ⟨by rfl, by intro x _; go_simp⟩) hS ?_
          (try simp only [Act.put, List.setIfInBounds_toArray, List.set_cons_zero, List.set_cons_succ])
          refine wpAnyH_take (i := 7) (oi := { dst := some 35, op := .move (.tmp 7), type := _, pos := _, after := _, guard := none }) (v := .int .i64 (((k : Int)))) rfl (by kernel_rfl) (by kernel_rfl) (by kernel_rfl) (fun _ _ _ h => h) (Or.inl ⟨by rfl, by intro x _; go_simp⟩) hS ?_
          (try simp only [Act.put, List.setIfInBounds_toArray, List.set_cons_zero, List.set_cons_succ])
          refine wpAnyH_take (i := 9) (oi := { dst := some 37, op := .move (.tmp 7), type := _, pos := _, after := _, guard := none }) (v := .int .i64 (((k : Int)))) rfl (by kernel_rfl) (by kernel_rfl) (by kernel_rfl) (fun _ _ _ h => h) (Or.inl ⟨by rfl, by intro x _; go_simp⟩) hS ?_
          (try simp only [Act.put, List.setIfInBounds_toArray, List.set_cons_zero, List.set_cons_succ])
          refine wpAnyH_take (i := 10) (oi := { dst := some 38, op := .fieldAddr 23 (.tmp 2) 1, type := _, pos := _, after := _, guard := none }) (v := .pointer (some ⟨w.heap.size, 1, none⟩)) rfl (by kernel_rfl) (by kernel_rfl) (by kernel_rfl) (fun _ _ _ h => h) (Or.inl ⟨by rfl, by intro x _; go_simp⟩) hS ?_
          (try simp only [Act.put, List.setIfInBounds_toArray, List.set_cons_zero, List.set_cons_succ])
          refine wpAnyH_take (i := 11) (oi := { dst := some 39, op := .load 3 (.tmp 38), type := _, pos := _, after := _, guard := none }) (v := .int .i64 (fl : Int)) rfl (by kernel_rfl) (by kernel_rfl) (by kernel_rfl) (fun _ _ _ h => h) (Or.inl ⟨by rfl, by intro x hx; have h1 := hx.2.1; go_simp⟩) hS ?_
          (try simp only [Act.put, List.setIfInBounds_toArray, List.set_cons_zero, List.set_cons_succ])
          refine wpAnyH_take (i := 12) (oi := { dst := some 40, op := .binOp .add 3 (.tmp 39) (.const (.int .i64 1)) 3, type := _, pos := _, after := _, guard := none }) (v := .int .i64 ((fl : Int) + 1)) rfl (by kernel_rfl) (by kernel_rfl) (by kernel_rfl) (fun _ _ _ h => h) (Or.inl ⟨by rfl, by intro x _; go_simp; rw [IntKind.wrap_i64]; omega⟩) hS ?_
          (try simp only [Act.put, List.setIfInBounds_toArray, List.set_cons_zero, List.set_cons_succ])
          refine wpAnyH_ready (rs := [1, 3]) (by kernel_rfl) (by simp) ?_
          refine AllReadyH.cons (o := { dst := some 29, op := .load 30 (.tmp 28), type := _, pos := _, after := _, guard := none }) rfl (fun K hK => ?_) (AllReadyH.cons (o := { dst := some 31, op := .call { callee := .value (.func 18), args := #[.tmp 30], argTypes := #[3] }, type := _, pos := _, after := _, guard := none }) rfl (fun K hK => ?_) AllReadyH.nil)
          · have c0 := HM.out.cells.2.1
            go_simp
            refine hK.out _ _ hS (fun _ => ?_)
            clear hK K c0
            (try simp only [Act.put, List.setIfInBounds_toArray, List.set_cons_zero, List.set_cons_succ])
            refine wpAnyH_ready (rs := [3]) (by kernel_rfl) (by simp) ?_
            refine AllReadyH.cons (o := { dst := some 31, op := .call { callee := .value (.func 18), args := #[.tmp 30], argTypes := #[3] }, type := _, pos := _, after := _, guard := none }) rfl (fun K hK => ?_) AllReadyH.nil
            go_simp
            refine (sixteen_any _ _).mono ?_
            rintro e W2 ⟨t1, ht1, rfl, hb2⟩
            have HM2 : Hid _ := HM.out.next hb2
            have hS2 := HM2.out.cells.1
            refine hK.out _ _ hS2 (fun _ => ?_)
            clear hK K hS HM hb2
            (try simp only [Act.put, List.setIfInBounds_toArray, List.set_cons_zero, List.set_cons_succ])
            revert hS2 HM2
            generalize W2 = V
            intro HM hS
            refine wpAnyH_ready (rs := [6]) (by kernel_rfl) (by simp) ?_
            refine AllReadyH.cons (o := { dst := some 34, op := .call { callee := .value (.func 18), args := #[.tmp 33], argTypes := #[3] }, type := _, pos := _, after := _, guard := none }) rfl (fun K hK => ?_) AllReadyH.nil
            go_simp
            refine (sixteen_any _ _).mono ?_
            rintro e W2 ⟨t2, ht2, rfl, hb2⟩
            have HM2 : Hid _ := HM.out.next hb2
            have hS2 := HM2.out.cells.1
            refine hK.out _ _ hS2 (fun _ => ?_)
            clear hK K hS HM hb2
            (try simp only [Act.put, List.setIfInBounds_toArray, List.set_cons_zero, List.set_cons_succ])
            revert hS2 HM2
            generalize W2 = V
            intro HM hS
            refine wpAnyH_ready (rs := [8]) (by kernel_rfl) (by simp) ?_
            refine AllReadyH.cons (o := { dst := some 36, op := .call { callee := .value (.func 16), args := #[.tmp 35, .const (.int .i64 1048577)], argTypes := #[3, 3] }, type := _, pos := _, after := _, guard := none }) rfl (fun K hK => ?_) AllReadyH.nil
            go_simp
            refine (modI_any _ _ (by omega) _).mono ?_
            rintro e W2 ⟨rfl, hw2⟩
            rw [hw2]
            clear hw2 W2
            refine hK.out _ _ hS (fun _ => ?_)
            clear hK K
            (try simp only [Act.put, List.setIfInBounds_toArray, List.set_cons_zero, List.set_cons_succ])
            refine wpAnyH_ready (rs := [13]) (by kernel_rfl) (by simp) ?_
            refine AllReadyH.cons (o := { dst := some 41, op := .call { callee := .value (.func 16), args := #[.tmp 37, .tmp 40], argTypes := #[3, 3] }, type := _, pos := _, after := _, guard := none }) rfl (fun K hK => ?_) AllReadyH.nil
            go_simp
            refine (modI_any _ _ (by omega) _).mono ?_
            rintro e W2 ⟨rfl, hw2⟩
            rw [hw2]
            clear hw2 W2
            refine hK.out _ _ hS (fun _ => ?_)
            clear hK K
            (try simp only [Act.put, List.setIfInBounds_toArray, List.set_cons_zero, List.set_cons_succ])
            refine wpAnyH_take (i := 14) (oi := { dst := some 42, op := .binOp .sub 3 (.tmp 41) (.const (.int .i64 1)) 3, type := _, pos := _, after := _, guard := none }) (v := .int .i64 (((k : Int)) % ((fl : Int) + 1) - 1)) rfl (by kernel_rfl) (by kernel_rfl) (by kernel_rfl) (fun _ _ _ h => h) (Or.inl ⟨by rfl, by intro x _; go_simp; rw [IntKind.wrap_i64]; omega⟩) hS ?_
            (try simp only [Act.put, List.setIfInBounds_toArray, List.set_cons_zero, List.set_cons_succ])
            refine wpAnyH_take (i := 15) (oi := { dst := some 43, op := .build 46 #[(0, .tmp 31), (1, .tmp 34), (2, .tmp 36), (3, .tmp 42)], type := _, pos := _, after := _, guard := none }) (v := .agg #[.string t1, .string t2, .int .i64 (((k : Int)) % 1048577), .int .i64 (((k : Int)) % ((fl : Int) + 1) - 1)]) rfl (by kernel_rfl) (by kernel_rfl) (by kernel_rfl) (fun _ _ _ h => h) (Or.inl ⟨by rfl, by intro x _; go_simp⟩) hS ?_
            (try simp only [Act.put, List.setIfInBounds_toArray, List.set_cons_zero, List.set_cons_succ])
            refine wpAnyH_ready (rs := [16]) (by kernel_rfl) (by simp) ?_
            refine AllReadyH.cons (o := { dst := some 44, op := .buildSlice 30 1 #[(0, .tmp 43)], type := _, pos := _, after := _, guard := none }) rfl (fun K hK => ?_) AllReadyH.nil
            go_simp
            have HM2 : Hid _ := HM.out.next ((Below.refl V.heap.size V).alloc (Nat.le_refl _) (.cells #[.string t1, .string t2, .int .i64 (((k : Int)) % 1048577), .int .i64 (((k : Int)) % ((fl : Int) + 1) - 1)] 46))
            have hS2 := HM2.out.cells.1
            have HXC : Hid (∀ i u, [.string t1, .string t2, .int .i64 (((k : Int)) % 1048577), .int .i64 (((k : Int)) % ((fl : Int) + 1) - 1)][i]? = some u → (V.alloc (.cells #[.string t1, .string t2, .int .i64 (((k : Int)) % 1048577), .int .i64 (((k : Int)) % ((fl : Int) + 1) - 1)] 46)).cell? ((⟨V.heap.size, 0, none⟩ : Addr).add i) = some u) := fun i u h => cells_new V #[.string t1, .string t2, .int .i64 (((k : Int)) % 1048577), .int .i64 (((k : Int)) % ((fl : Int) + 1) - 1)] 46 i u (by simpa using h)
            refine hK.out _ _ hS2 (fun _ => ?_)
            clear hK K hS HM
            (try simp only [Act.put, List.setIfInBounds_toArray, List.set_cons_zero, List.set_cons_succ])
            revert hS2 HM2 HXC
            generalize V.alloc (.cells #[.string t1, .string t2, .int .i64 (((k : Int)) % 1048577), .int .i64 (((k : Int)) % ((fl : Int) + 1) - 1)] 46) = V2
            generalize V.heap.size = h
            intro HM hS HXC
            revert hS HM HXC
            generalize V2 = V
            intro HM hS HXC
            refine wpAnyH_ready (rs := [17]) (by kernel_rfl) (by simp) ?_
            refine AllReadyH.cons (o := { dst := some 45, op := .call { callee := .builtin .append, args := #[.tmp 29, .tmp 44], argTypes := #[30, 30] }, type := _, pos := _, after := _, guard := none }) rfl (fun K hK => ?_) AllReadyH.nil
            refine step_append_own rfl (.tmp 29) (.tmp 44) 30 rfl w.heap.size 46 i0 (.agg #[.string { data := #[] }, .string { data := #[] }, .int .i64 0, .int .i64 0]) 4 48 Tryd.underlying30 hi hz0 hz1 hz2 rfl (by decide) vo O.length (obsC O) (by simp [Act.eval]) HM.out.ho ⟨h, 0, none⟩ 1 1 [.string t1, .string t2, .int .i64 (((k : Int)) % 1048577), .int .i64 (((k : Int)) % ((fl : Int) + 1) - 1)] (by simp [Act.eval]) rfl HXC.out (h1c t1 t2) (by unfold maxLen; omega) (by omega) HM.out.be.size ?_
            intro v' w' hown' hgrow'
            obtain ⟨a9, c9, rfl⟩ := owns_form hown'
            obtain ⟨⟨q0, q1, hS2⟩, HM2'⟩ := HM.out.appO ⟨t1, t2, ((k : Int)) % 1048577, ((k : Int)) % ((fl : Int) + 1) - 1⟩ hgrow' hown'
            have HM2 : Hid _ := HM2'
            refine hK.out _ _ hS2 (fun _ => ?_)
            clear hK K hS HM HXC hown' hgrow' HM2'
            (try simp only [Act.put, List.setIfInBounds_toArray, List.set_cons_zero, List.set_cons_succ])
            have hS := hS2
            clear hS2
            refine wpAnyH_take (i := 18) (oi := { dst := some 46, op := .fieldAddr 32 (.tmp 5) 0, type := _, pos := _, after := _, guard := none }) (v := .pointer (some ⟨(w.heap.size + 2), 0, none⟩)) rfl (by kernel_rfl) (by kernel_rfl) (by kernel_rfl) (fun _ _ _ h => h) (Or.inl ⟨by rfl, by intro x _; go_simp⟩) hS ?_
            (try simp only [Act.put, List.setIfInBounds_toArray, List.set_cons_zero, List.set_cons_succ])
            refine wpAnyH_ready (rs := [19]) (by kernel_rfl) (by simp) ?_
            refine AllReadyH.cons (o := { dst := none, op := .store 30 (.tmp 46) (.tmp 45), type := _, pos := _, after := _, guard := none }) rfl (fun K hK => ?_) AllReadyH.nil
            go_simp
            have hS3 := HM2.out.cells.1
            refine hK.out _ _ hS3 (fun _ => ?_)
            clear hK K hS q0 q1
            (try simp only [Act.put])
            refine wpAnyH_done (by kernel_rfl) ?_ _
            go_wp2_with fail
            go_meet
            exact ⟨_, _, _, rfl, ob_made sl fl dr mf ls pg _ t1 t2 ht1 ht2, HM2.out⟩
          · go_simp
            refine (sixteen_any _ _).mono ?_
            rintro e W2 ⟨t1, ht1, rfl, hb2⟩
            have HM2 : Hid _ := HM.out.next hb2
            have hS2 := HM2.out.cells.1
            refine hK.out _ _ hS2 (fun _ => ?_)
            clear hK K hS HM hb2
            (try simp only [Act.put, List.setIfInBounds_toArray, List.set_cons_zero, List.set_cons_succ])
            revert hS2 HM2
            generalize W2 = V
            intro HM hS
            refine wpAnyH_ready (rs := [1, 6]) (by kernel_rfl) (by simp) ?_
            refine AllReadyH.cons (o := { dst := some 29, op := .load 30 (.tmp 28), type := _, pos := _, after := _, guard := none }) rfl (fun K hK => ?_) (AllReadyH.cons (o := { dst := some 34, op := .call { callee := .value (.func 18), args := #[.tmp 33], argTypes := #[3] }, type := _, pos := _, after := _, guard := none }) rfl (fun K hK => ?_) AllReadyH.nil)
            · have c0 := HM.out.cells.2.1
              go_simp
              refine hK.out _ _ hS (fun _ => ?_)
              clear hK K c0
              (try simp only [Act.put, List.setIfInBounds_toArray, List.set_cons_zero, List.set_cons_succ])
              refine wpAnyH_ready (rs := [6]) (by kernel_rfl) (by simp) ?_
              refine AllReadyH.cons (o := { dst := some 34, op := .call { callee := .value (.func 18), args := #[.tmp 33], argTypes := #[3] }, type := _, pos := _, after := _, guard := none }) rfl (fun K hK => ?_) AllReadyH.nil
              go_simp
              refine (sixteen_any _ _).mono ?_
              rintro e W2 ⟨t2, ht2, rfl, hb2⟩
              have HM2 : Hid _ := HM.out.next hb2
              have hS2 := HM2.out.cells.1
              refine hK.out _ _ hS2 (fun _ => ?_)
              clear hK K hS HM hb2
              (try simp only [Act.put, List.setIfInBounds_toArray, List.set_cons_zero, List.set_cons_succ])
              revert hS2 HM2
              generalize W2 = V
              intro HM hS
              refine wpAnyH_ready (rs := [8]) (by kernel_rfl) (by simp) ?_
              refine AllReadyH.cons (o := { dst := some 36, op := .call { callee := .value (.func 16), args := #[.tmp 35, .const (.int .i64 1048577)], argTypes := #[3, 3] }, type := _, pos := _, after := _, guard := none }) rfl (fun K hK => ?_) AllReadyH.nil
              go_simp
              refine (modI_any _ _ (by omega) _).mono ?_
              rintro e W2 ⟨rfl, hw2⟩
              rw [hw2]
              clear hw2 W2
              refine hK.out _ _ hS (fun _ => ?_)
              clear hK K
              (try simp only [Act.put, List.setIfInBounds_toArray, List.set_cons_zero, List.set_cons_succ])
              refine wpAnyH_ready (rs := [13]) (by kernel_rfl) (by simp) ?_
              refine AllReadyH.cons (o := { dst := some 41, op := .call { callee := .value (.func 16), args := #[.tmp 37, .tmp 40], argTypes := #[3, 3] }, type := _, pos := _, after := _, guard := none }) rfl (fun K hK => ?_) AllReadyH.nil
              go_simp
              refine (modI_any _ _ (by omega) _).mono ?_
              rintro e W2 ⟨rfl, hw2⟩
              rw [hw2]
              clear hw2 W2
              refine hK.out _ _ hS (fun _ => ?_)
              clear hK K
              (try simp only [Act.put, List.setIfInBounds_toArray, List.set_cons_zero, List.set_cons_succ])
              refine wpAnyH_take (i := 14) (oi := { dst := some 42, op := .binOp .sub 3 (.tmp 41) (.const (.int .i64 1)) 3, type := _, pos := _, after := _, guard := none }) (v := .int .i64 (((k : Int)) % ((fl : Int) + 1) - 1)) rfl (by kernel_rfl) (by kernel_rfl) (by kernel_rfl) (fun _ _ _ h => h) (Or.inl ⟨by rfl, by intro x _; go_simp; rw [IntKind.wrap_i64]; omega⟩) hS ?_
              (try simp only [Act.put, List.setIfInBounds_toArray, List.set_cons_zero, List.set_cons_succ])
              refine wpAnyH_take (i := 15) (oi := { dst := some 43, op := .build 46 #[(0, .tmp 31), (1, .tmp 34), (2, .tmp 36), (3, .tmp 42)], type := _, pos := _, after := _, guard := none }) (v := .agg #[.string t1, .string t2, .int .i64 (((k : Int)) % 1048577), .int .i64 (((k : Int)) % ((fl : Int) + 1) - 1)]) rfl (by kernel_rfl) (by kernel_rfl) (by kernel_rfl) (fun _ _ _ h => h) (Or.inl ⟨by rfl, by intro x _; go_simp⟩) hS ?_
              (try simp only [Act.put, List.setIfInBounds_toArray, List.set_cons_zero, List.set_cons_succ])
              refine wpAnyH_ready (rs := [16]) (by kernel_rfl) (by simp) ?_
              refine AllReadyH.cons (o := { dst := some 44, op := .buildSlice 30 1 #[(0, .tmp 43)], type := _, pos := _, after := _, guard := none }) rfl (fun K hK => ?_) AllReadyH.nil
              go_simp
              have HM2 : Hid _ := HM.out.next ((Below.refl V.heap.size V).alloc (Nat.le_refl _) (.cells #[.string t1, .string t2, .int .i64 (((k : Int)) % 1048577), .int .i64 (((k : Int)) % ((fl : Int) + 1) - 1)] 46))
              have hS2 := HM2.out.cells.1
              have HXC : Hid (∀ i u, [.string t1, .string t2, .int .i64 (((k : Int)) % 1048577), .int .i64 (((k : Int)) % ((fl : Int) + 1) - 1)][i]? = some u → (V.alloc (.cells #[.string t1, .string t2, .int .i64 (((k : Int)) % 1048577), .int .i64 (((k : Int)) % ((fl : Int) + 1) - 1)] 46)).cell? ((⟨V.heap.size, 0, none⟩ : Addr).add i) = some u) := fun i u h => cells_new V #[.string t1, .string t2, .int .i64 (((k : Int)) % 1048577), .int .i64 (((k : Int)) % ((fl : Int) + 1) - 1)] 46 i u (by simpa using h)
              refine hK.out _ _ hS2 (fun _ => ?_)
              clear hK K hS HM
              (try simp only [Act.put, List.setIfInBounds_toArray, List.set_cons_zero, List.set_cons_succ])
              revert hS2 HM2 HXC
              generalize V.alloc (.cells #[.string t1, .string t2, .int .i64 (((k : Int)) % 1048577), .int .i64 (((k : Int)) % ((fl : Int) + 1) - 1)] 46) = V2
              generalize V.heap.size = h
              intro HM hS HXC
              revert hS HM HXC
              generalize V2 = V
              intro HM hS HXC
              refine wpAnyH_ready (rs := [17]) (by kernel_rfl) (by simp) ?_
              refine AllReadyH.cons (o := { dst := some 45, op := .call { callee := .builtin .append, args := #[.tmp 29, .tmp 44], argTypes := #[30, 30] }, type := _, pos := _, after := _, guard := none }) rfl (fun K hK => ?_) AllReadyH.nil
              refine step_append_own rfl (.tmp 29) (.tmp 44) 30 rfl w.heap.size 46 i0 (.agg #[.string { data := #[] }, .string { data := #[] }, .int .i64 0, .int .i64 0]) 4 48 Tryd.underlying30 hi hz0 hz1 hz2 rfl (by decide) vo O.length (obsC O) (by simp [Act.eval]) HM.out.ho ⟨h, 0, none⟩ 1 1 [.string t1, .string t2, .int .i64 (((k : Int)) % 1048577), .int .i64 (((k : Int)) % ((fl : Int) + 1) - 1)] (by simp [Act.eval]) rfl HXC.out (h1c t1 t2) (by unfold maxLen; omega) (by omega) HM.out.be.size ?_
              intro v' w' hown' hgrow'
              obtain ⟨a9, c9, rfl⟩ := owns_form hown'
              obtain ⟨⟨q0, q1, hS2⟩, HM2'⟩ := HM.out.appO ⟨t1, t2, ((k : Int)) % 1048577, ((k : Int)) % ((fl : Int) + 1) - 1⟩ hgrow' hown'
              have HM2 : Hid _ := HM2'
              refine hK.out _ _ hS2 (fun _ => ?_)
              clear hK K hS HM HXC hown' hgrow' HM2'
              (try simp only [Act.put, List.setIfInBounds_toArray, List.set_cons_zero, List.set_cons_succ])
              have hS := hS2
              clear hS2
              refine wpAnyH_take (i := 18) (oi := { dst := some 46, op := .fieldAddr 32 (.tmp 5) 0, type := _, pos := _, after := _, guard := none }) (v := .pointer (some ⟨(w.heap.size + 2), 0, none⟩)) rfl (by kernel_rfl) (by kernel_rfl) (by kernel_rfl) (fun _ _ _ h => h) (Or.inl ⟨by rfl, by intro x _; go_simp⟩) hS ?_
              (try simp only [Act.put, List.setIfInBounds_toArray, List.set_cons_zero, List.set_cons_succ])
              refine wpAnyH_ready (rs := [19]) (by kernel_rfl) (by simp) ?_
              refine AllReadyH.cons (o := { dst := none, op := .store 30 (.tmp 46) (.tmp 45), type := _, pos := _, after := _, guard := none }) rfl (fun K hK => ?_) AllReadyH.nil
              go_simp
              have hS3 := HM2.out.cells.1
              refine hK.out _ _ hS3 (fun _ => ?_)
              clear hK K hS q0 q1
              (try simp only [Act.put])
              refine wpAnyH_done (by kernel_rfl) ?_ _
              go_wp2_with fail
              go_meet
              exact ⟨_, _, _, rfl, ob_made sl fl dr mf ls pg _ t1 t2 ht1 ht2, HM2.out⟩
            · go_simp
              refine (sixteen_any _ _).mono ?_
              rintro e W2 ⟨t2, ht2, rfl, hb2⟩
              have HM2 : Hid _ := HM.out.next hb2
              have hS2 := HM2.out.cells.1
              refine hK.out _ _ hS2 (fun _ => ?_)
              clear hK K hS HM hb2
              (try simp only [Act.put, List.setIfInBounds_toArray, List.set_cons_zero, List.set_cons_succ])
              revert hS2 HM2
              generalize W2 = V
              intro HM hS
              refine wpAnyH_ready (rs := [1, 8]) (by kernel_rfl) (by simp) ?_
              refine AllReadyH.cons (o := { dst := some 29, op := .load 30 (.tmp 28), type := _, pos := _, after := _, guard := none }) rfl (fun K hK => ?_) (AllReadyH.cons (o := { dst := some 36, op := .call { callee := .value (.func 16), args := #[.tmp 35, .const (.int .i64 1048577)], argTypes := #[3, 3] }, type := _, pos := _, after := _, guard := none }) rfl (fun K hK => ?_) AllReadyH.nil)
              · have c0 := HM.out.cells.2.1
                go_simp
                refine hK.out _ _ hS (fun _ => ?_)
                clear hK K c0
                (try simp only [Act.put, List.setIfInBounds_toArray, List.set_cons_zero, List.set_cons_succ])
                refine wpAnyH_ready (rs := [8]) (by kernel_rfl) (by simp) ?_
                refine AllReadyH.cons (o := { dst := some 36, op := .call { callee := .value (.func 16), args := #[.tmp 35, .const (.int .i64 1048577)], argTypes := #[3, 3] }, type := _, pos := _, after := _, guard := none }) rfl (fun K hK => ?_) AllReadyH.nil
                go_simp
                refine (modI_any _ _ (by omega) _).mono ?_
                rintro e W2 ⟨rfl, hw2⟩
                rw [hw2]
                clear hw2 W2
                refine hK.out _ _ hS (fun _ => ?_)
                clear hK K
                (try simp only [Act.put, List.setIfInBounds_toArray, List.set_cons_zero, List.set_cons_succ])
                refine wpAnyH_ready (rs := [13]) (by kernel_rfl) (by simp) ?_
                refine AllReadyH.cons (o := { dst := some 41, op := .call { callee := .value (.func 16), args := #[.tmp 37, .tmp 40], argTypes := #[3, 3] }, type := _, pos := _, after := _, guard := none }) rfl (fun K hK => ?_) AllReadyH.nil
                go_simp
                refine (modI_any _ _ (by omega) _).mono ?_
                rintro e W2 ⟨rfl, hw2⟩
                rw [hw2]
                clear hw2 W2
                refine hK.out _ _ hS (fun _ => ?_)
                clear hK K
                (try simp only [Act.put, List.setIfInBounds_toArray, List.set_cons_zero, List.set_cons_succ])
                refine wpAnyH_take (i := 14) (oi := { dst := some 42, op := .binOp .sub 3 (.tmp 41) (.const (.int .i64 1)) 3, type := _, pos := _, after := _, guard := none }) (v := .int .i64 (((k : Int)) % ((fl : Int) + 1) - 1)) rfl (by kernel_rfl) (by kernel_rfl) (by kernel_rfl) (fun _ _ _ h => h) (Or.inl ⟨by rfl, by intro x _; go_simp; rw [IntKind.wrap_i64]; omega⟩) hS ?_
                (try simp only [Act.put, List.setIfInBounds_toArray, List.set_cons_zero, List.set_cons_succ])
                refine wpAnyH_take (i := 15) (oi := { dst := some 43, op := .build 46 #[(0, .tmp 31), (1, .tmp 34), (2, .tmp 36), (3, .tmp 42)], type := _, pos := _, after := _, guard := none }) (v := .agg #[.string t1, .string t2, .int .i64 (((k : Int)) % 1048577), .int .i64 (((k : Int)) % ((fl : Int) + 1) - 1)]) rfl (by kernel_rfl) (by kernel_rfl) (by kernel_rfl) (fun _ _ _ h => h) (Or.inl ⟨by rfl, by intro x _; go_simp⟩) hS ?_
                (try simp only [Act.put, List.setIfInBounds_toArray, List.set_cons_zero, List.set_cons_succ])
                refine wpAnyH_ready (rs := [16]) (by kernel_rfl) (by simp) ?_
                refine AllReadyH.cons (o := { dst := some 44, op := .buildSlice 30 1 #[(0, .tmp 43)], type := _, pos := _, after := _, guard := none }) rfl (fun K hK => ?_) AllReadyH.nil
                go_simp
                have HM2 : Hid _ := HM.out.next ((Below.refl V.heap.size V).alloc (Nat.le_refl _) (.cells #[.string t1, .string t2, .int .i64 (((k : Int)) % 1048577), .int .i64 (((k : Int)) % ((fl : Int) + 1) - 1)] 46))
                have hS2 := HM2.out.cells.1
                have HXC : Hid (∀ i u, [.string t1, .string t2, .int .i64 (((k : Int)) % 1048577), .int .i64 (((k : Int)) % ((fl : Int) + 1) - 1)][i]? = some u → (V.alloc (.cells #[.string t1, .string t2, .int .i64 (((k : Int)) % 1048577), .int .i64 (((k : Int)) % ((fl : Int) + 1) - 1)] 46)).cell? ((⟨V.heap.size, 0, none⟩ : Addr).add i) = some u) := fun i u h => cells_new V #[.string t1, .string t2, .int .i64 (((k : Int)) % 1048577), .int .i64 (((k : Int)) % ((fl : Int) + 1) - 1)] 46 i u (by simpa using h)
                refine hK.out _ _ hS2 (fun _ => ?_)
                clear hK K hS HM
                (try simp only [Act.put, List.setIfInBounds_toArray, List.set_cons_zero, List.set_cons_succ])
                revert hS2 HM2 HXC
                generalize V.alloc (.cells #[.string t1, .string t2, .int .i64 (((k : Int)) % 1048577), .int .i64 (((k : Int)) % ((fl : Int) + 1) - 1)] 46) = V2
                generalize V.heap.size = h
                intro HM hS HXC
                revert hS HM HXC
                generalize V2 = V
                intro HM hS HXC
                refine wpAnyH_ready (rs := [17]) (by kernel_rfl) (by simp) ?_
                refine AllReadyH.cons (o := { dst := some 45, op := .call { callee := .builtin .append, args := #[.tmp 29, .tmp 44], argTypes := #[30, 30] }, type := _, pos := _, after := _, guard := none }) rfl (fun K hK => ?_) AllReadyH.nil
                refine step_append_own rfl (.tmp 29) (.tmp 44) 30 rfl w.heap.size 46 i0 (.agg #[.string { data := #[] }, .string { data := #[] }, .int .i64 0, .int .i64 0]) 4 48 Tryd.underlying30 hi hz0 hz1 hz2 rfl (by decide) vo O.length (obsC O) (by simp [Act.eval]) HM.out.ho ⟨h, 0, none⟩ 1 1 [.string t1, .string t2, .int .i64 (((k : Int)) % 1048577), .int .i64 (((k : Int)) % ((fl : Int) + 1) - 1)] (by simp [Act.eval]) rfl HXC.out (h1c t1 t2) (by unfold maxLen; omega) (by omega) HM.out.be.size ?_
                intro v' w' hown' hgrow'
                obtain ⟨a9, c9, rfl⟩ := owns_form hown'
                obtain ⟨⟨q0, q1, hS2⟩, HM2'⟩ := HM.out.appO ⟨t1, t2, ((k : Int)) % 1048577, ((k : Int)) % ((fl : Int) + 1) - 1⟩ hgrow' hown'
                have HM2 : Hid _ := HM2'
                refine hK.out _ _ hS2 (fun _ => ?_)
                clear hK K hS HM HXC hown' hgrow' HM2'
                (try simp only [Act.put, List.setIfInBounds_toArray, List.set_cons_zero, List.set_cons_succ])
                have hS := hS2
                clear hS2
                refine wpAnyH_take (i := 18) (oi := { dst := some 46, op := .fieldAddr 32 (.tmp 5) 0, type := _, pos := _, after := _, guard := none }) (v := .pointer (some ⟨(w.heap.size + 2), 0, none⟩)) rfl (by kernel_rfl) (by kernel_rfl) (by kernel_rfl) (fun _ _ _ h => h) (Or.inl ⟨by rfl, by intro x _; go_simp⟩) hS ?_
                (try simp only [Act.put, List.setIfInBounds_toArray, List.set_cons_zero, List.set_cons_succ])
                refine wpAnyH_ready (rs := [19]) (by kernel_rfl) (by simp) ?_
                refine AllReadyH.cons (o := { dst := none, op := .store 30 (.tmp 46) (.tmp 45), type := _, pos := _, after := _, guard := none }) rfl (fun K hK => ?_) AllReadyH.nil
                go_simp
                have hS3 := HM2.out.cells.1
                refine hK.out _ _ hS3 (fun _ => ?_)
                clear hK K hS q0 q1
                (try simp only [Act.put])
                refine wpAnyH_done (by kernel_rfl) ?_ _
                go_wp2_with fail
                go_meet
                exact ⟨_, _, _, rfl, ob_made sl fl dr mf ls pg _ t1 t2 ht1 ht2, HM2.out⟩
              · go_simp
                refine (modI_any _ _ (by omega) _).mono ?_
                rintro e W2 ⟨rfl, hw2⟩
                rw [hw2]
                clear hw2 W2
                refine hK.out _ _ hS (fun _ => ?_)
                clear hK K
                (try simp only [Act.put, List.setIfInBounds_toArray, List.set_cons_zero, List.set_cons_succ])
                refine wpAnyH_ready (rs := [1, 13]) (by kernel_rfl) (by simp) ?_
                refine AllReadyH.cons (o := { dst := some 29, op := .load 30 (.tmp 28), type := _, pos := _, after := _, guard := none }) rfl (fun K hK => ?_) (AllReadyH.cons (o := { dst := some 41, op := .call { callee := .value (.func 16), args := #[.tmp 37, .tmp 40], argTypes := #[3, 3] }, type := _, pos := _, after := _, guard := none }) rfl (fun K hK => ?_) AllReadyH.nil)
                · have c0 := HM.out.cells.2.1
                  go_simp
                  refine hK.out _ _ hS (fun _ => ?_)
                  clear hK K c0
                  (try simp only [Act.put, List.setIfInBounds_toArray, List.set_cons_zero, List.set_cons_succ])
                  refine wpAnyH_ready (rs := [13]) (by kernel_rfl) (by simp) ?_
                  refine AllReadyH.cons (o := { dst := some 41, op := .call { callee := .value (.func 16), args := #[.tmp 37, .tmp 40], argTypes := #[3, 3] }, type := _, pos := _, after := _, guard := none }) rfl (fun K hK => ?_) AllReadyH.nil
                  go_simp
                  refine (modI_any _ _ (by omega) _).mono ?_
                  rintro e W2 ⟨rfl, hw2⟩
                  rw [hw2]
                  clear hw2 W2
                  refine hK.out _ _ hS (fun _ => ?_)
                  clear hK K
                  (try simp only [Act.put, List.setIfInBounds_toArray, List.set_cons_zero, List.set_cons_succ])
                  refine wpAnyH_take (i := 14) (oi := { dst := some 42, op := .binOp .sub 3 (.tmp 41) (.const (.int .i64 1)) 3, type := _, pos := _, after := _, guard := none }) (v := .int .i64 (((k : Int)) % ((fl : Int) + 1) - 1)) rfl (by kernel_rfl) (by kernel_rfl) (by kernel_rfl) (fun _ _ _ h => h) (Or.inl ⟨by rfl, by intro x _; go_simp; rw [IntKind.wrap_i64]; omega⟩) hS ?_
                  (try simp only [Act.put, List.setIfInBounds_toArray, List.set_cons_zero, List.set_cons_succ])
                  refine wpAnyH_take (i := 15) (oi := { dst := some 43, op := .build 46 #[(0, .tmp 31), (1, .tmp 34), (2, .tmp 36), (3, .tmp 42)], type := _, pos := _, after := _, guard := none }) (v := .agg #[.string t1, .string t2, .int .i64 (((k : Int)) % 1048577), .int .i64 (((k : Int)) % ((fl : Int) + 1) - 1)]) rfl (by kernel_rfl) (by kernel_rfl) (by kernel_rfl) (fun _ _ _ h => h) (Or.inl ⟨by rfl, by intro x _; go_simp⟩) hS ?_
                  (try simp only [Act.put, List.setIfInBounds_toArray, List.set_cons_zero, List.set_cons_succ])
                  refine wpAnyH_ready (rs := [16]) (by kernel_rfl) (by simp) ?_
                  refine AllReadyH.cons (o := { dst := some 44, op := .buildSlice 30 1 #[(0, .tmp 43)], type := _, pos := _, after := _, guard := none }) rfl (fun K hK => ?_) AllReadyH.nil
                  go_simp
                  have HM2 : Hid _ := HM.out.next ((Below.refl V.heap.size V).alloc (Nat.le_refl _) (.cells #[.string t1, .string t2, .int .i64 (((k : Int)) % 1048577), .int .i64 (((k : Int)) % ((fl : Int) + 1) - 1)] 46))
                  have hS2 := HM2.out.cells.1
                  have HXC : Hid (∀ i u, [.string t1, .string t2, .int .i64 (((k : Int)) % 1048577), .int .i64 (((k : Int)) % ((fl : Int) + 1) - 1)][i]? = some u → (V.alloc (.cells #[.string t1, .string t2, .int .i64 (((k : Int)) % 1048577), .int .i64 (((k : Int)) % ((fl : Int) + 1) - 1)] 46)).cell? ((⟨V.heap.size, 0, none⟩ : Addr).add i) = some u) := fun i u h => cells_new V #[.string t1, .string t2, .int .i64 (((k : Int)) % 1048577), .int .i64 (((k : Int)) % ((fl : Int) + 1) - 1)] 46 i u (by simpa using h)
                  refine hK.out _ _ hS2 (fun _ => ?_)
                  clear hK K hS HM
                  (try simp only [Act.put, List.setIfInBounds_toArray, List.set_cons_zero, List.set_cons_succ])
                  revert hS2 HM2 HXC
                  generalize V.alloc (.cells #[.string t1, .string t2, .int .i64 (((k : Int)) % 1048577), .int .i64 (((k : Int)) % ((fl : Int) + 1) - 1)] 46) = V2
                  generalize V.heap.size = h
                  intro HM hS HXC
                  revert hS HM HXC
                  generalize V2 = V
                  intro HM hS HXC
                  refine wpAnyH_ready (rs := [17]) (by kernel_rfl) (by simp) ?_
                  refine AllReadyH.cons (o := { dst := some 45, op := .call { callee := .builtin .append, args := #[.tmp 29, .tmp 44], argTypes := #[30, 30] }, type := _, pos := _, after := _, guard := none }) rfl (fun K hK => ?_) AllReadyH.nil
                  refine step_append_own rfl (.tmp 29) (.tmp 44) 30 rfl w.heap.size 46 i0 (.agg #[.string { data := #[] }, .string { data := #[] }, .int .i64 0, .int .i64 0]) 4 48 Tryd.underlying30 hi hz0 hz1 hz2 rfl (by decide) vo O.length (obsC O) (by simp [Act.eval]) HM.out.ho ⟨h, 0, none⟩ 1 1 [.string t1, .string t2, .int .i64 (((k : Int)) % 1048577), .int .i64 (((k : Int)) % ((fl : Int) + 1) - 1)] (by simp [Act.eval]) rfl HXC.out (h1c t1 t2) (by unfold maxLen; omega) (by omega) HM.out.be.size ?_
                  intro v' w' hown' hgrow'
                  obtain ⟨a9, c9, rfl⟩ := owns_form hown'
                  obtain ⟨⟨q0, q1, hS2⟩, HM2'⟩ := HM.out.appO ⟨t1, t2, ((k : Int)) % 1048577, ((k : Int)) % ((fl : Int) + 1) - 1⟩ hgrow' hown'
                  have HM2 : Hid _ := HM2'
                  refine hK.out _ _ hS2 (fun _ => ?_)
                  clear hK K hS HM HXC hown' hgrow' HM2'
                  (try simp only [Act.put, List.setIfInBounds_toArray, List.set_cons_zero, List.set_cons_succ])
                  have hS := hS2
                  clear hS2
                  refine wpAnyH_take (i := 18) (oi := { dst := some 46, op := .fieldAddr 32 (.tmp 5) 0, type := _, pos := _, after := _, guard := none }) (v := .pointer (some ⟨(w.heap.size + 2), 0, none⟩)) rfl (by kernel_rfl) (by kernel_rfl) (by kernel_rfl) (fun _ _ _ h => h) (Or.inl ⟨by rfl, by intro x _; go_simp⟩) hS ?_
                  (try simp only [Act.put, List.setIfInBounds_toArray, List.set_cons_zero, List.set_cons_succ])
                  refine wpAnyH_ready (rs := [19]) (by kernel_rfl) (by simp) ?_
                  refine AllReadyH.cons (o := { dst := none, op := .store 30 (.tmp 46) (.tmp 45), type := _, pos := _, after := _, guard := none }) rfl (fun K hK => ?_) AllReadyH.nil
                  go_simp
                  have hS3 := HM2.out.cells.1
                  refine hK.out _ _ hS3 (fun _ => ?_)
                  clear hK K hS q0 q1
                  (try simp only [Act.put])
                  refine wpAnyH_done (by kernel_rfl) ?_ _
                  go_wp2_with fail
                  go_meet
                  exact ⟨_, _, _, rfl, ob_made sl fl dr mf ls pg _ t1 t2 ht1 ht2, HM2.out⟩
                · go_simp
                  refine (modI_any _ _ (by omega) _).mono ?_
                  rintro e W2 ⟨rfl, hw2⟩
                  rw [hw2]
                  clear hw2 W2
                  refine hK.out _ _ hS (fun _ => ?_)
                  clear hK K
                  (try simp only [Act.put, List.setIfInBounds_toArray, List.set_cons_zero, List.set_cons_succ])
                  refine wpAnyH_take (i := 14) (oi := { dst := some 42, op := .binOp .sub 3 (.tmp 41) (.const (.int .i64 1)) 3, type := _, pos := _, after := _, guard := none }) (v := .int .i64 (((k : Int)) % ((fl : Int) + 1) - 1)) rfl (by kernel_rfl) (by kernel_rfl) (by kernel_rfl) (fun _ _ _ h => h) (Or.inl ⟨by rfl, by intro x _; go_simp; rw [IntKind.wrap_i64]; omega⟩) hS ?_
                  (try simp only [Act.put, List.setIfInBounds_toArray, List.set_cons_zero, List.set_cons_succ])
                  refine wpAnyH_take (i := 15) (oi := { dst := some 43, op := .build 46 #[(0, .tmp 31), (1, .tmp 34), (2, .tmp 36), (3, .tmp 42)], type := _, pos := _, after := _, guard := none }) (v := .agg #[.string t1, .string t2, .int .i64 (((k : Int)) % 1048577), .int .i64 (((k : Int)) % ((fl : Int) + 1) - 1)]) rfl (by kernel_rfl) (by kernel_rfl) (by kernel_rfl) (fun _ _ _ h => h) (Or.inl ⟨by rfl, by intro x _; go_simp⟩) hS ?_
                  (try simp only [Act.put, List.setIfInBounds_toArray, List.set_cons_zero, List.set_cons_succ])
                  refine wpAnyH_ready (rs := [1, 16]) (by kernel_rfl) (by simp) ?_
                  refine AllReadyH.cons (o := { dst := some 29, op := .load 30 (.tmp 28), type := _, pos := _, after := _, guard := none }) rfl (fun K hK => ?_) (AllReadyH.cons (o := { dst := some 44, op := .buildSlice 30 1 #[(0, .tmp 43)], type := _, pos := _, after := _, guard := none }) rfl (fun K hK => ?_) AllReadyH.nil)
                  · have c0 := HM.out.cells.2.1
                    go_simp
                    refine hK.out _ _ hS (fun _ => ?_)
                    clear hK K c0
                    (try simp only [Act.put, List.setIfInBounds_toArray, List.set_cons_zero, List.set_cons_succ])
                    refine wpAnyH_ready (rs := [16]) (by kernel_rfl) (by simp) ?_
                    refine AllReadyH.cons (o := { dst := some 44, op := .buildSlice 30 1 #[(0, .tmp 43)], type := _, pos := _, after := _, guard := none }) rfl (fun K hK => ?_) AllReadyH.nil
                    go_simp
                    have HM2 : Hid _ := HM.out.next ((Below.refl V.heap.size V).alloc (Nat.le_refl _) (.cells #[.string t1, .string t2, .int .i64 (((k : Int)) % 1048577), .int .i64 (((k : Int)) % ((fl : Int) + 1) - 1)] 46))
                    have hS2 := HM2.out.cells.1
                    have HXC : Hid (∀ i u, [.string t1, .string t2, .int .i64 (((k : Int)) % 1048577), .int .i64 (((k : Int)) % ((fl : Int) + 1) - 1)][i]? = some u → (V.alloc (.cells #[.string t1, .string t2, .int .i64 (((k : Int)) % 1048577), .int .i64 (((k : Int)) % ((fl : Int) + 1) - 1)] 46)).cell? ((⟨V.heap.size, 0, none⟩ : Addr).add i) = some u) := fun i u h => cells_new V #[.string t1, .string t2, .int .i64 (((k : Int)) % 1048577), .int .i64 (((k : Int)) % ((fl : Int) + 1) - 1)] 46 i u (by simpa using h)
                    refine hK.out _ _ hS2 (fun _ => ?_)
                    clear hK K hS HM
                    (try simp only [Act.put, List.setIfInBounds_toArray, List.set_cons_zero, List.set_cons_succ])
                    revert hS2 HM2 HXC
                    generalize V.alloc (.cells #[.string t1, .string t2, .int .i64 (((k : Int)) % 1048577), .int .i64 (((k : Int)) % ((fl : Int) + 1) - 1)] 46) = V2
                    generalize V.heap.size = h
                    intro HM hS HXC
                    revert hS HM HXC
                    generalize V2 = V
                    intro HM hS HXC
                    refine wpAnyH_ready (rs := [17]) (by kernel_rfl) (by simp) ?_
                    refine AllReadyH.cons (o := { dst := some 45, op := .call { callee := .builtin .append, args := #[.tmp 29, .tmp 44], argTypes := #[30, 30] }, type := _, pos := _, after := _, guard := none }) rfl (fun K hK => ?_) AllReadyH.nil
                    refine step_append_own rfl (.tmp 29) (.tmp 44) 30 rfl w.heap.size 46 i0 (.agg #[.string { data := #[] }, .string { data := #[] }, .int .i64 0, .int .i64 0]) 4 48 Tryd.underlying30 hi hz0 hz1 hz2 rfl (by decide) vo O.length (obsC O) (by simp [Act.eval]) HM.out.ho ⟨h, 0, none⟩ 1 1 [.string t1, .string t2, .int .i64 (((k : Int)) % 1048577), .int .i64 (((k : Int)) % ((fl : Int) + 1) - 1)] (by simp [Act.eval]) rfl HXC.out (h1c t1 t2) (by unfold maxLen; omega) (by omega) HM.out.be.size ?_
                    intro v' w' hown' hgrow'
                    obtain ⟨a9, c9, rfl⟩ := owns_form hown'
                    obtain ⟨⟨q0, q1, hS2⟩, HM2'⟩ := HM.out.appO ⟨t1, t2, ((k : Int)) % 1048577, ((k : Int)) % ((fl : Int) + 1) - 1⟩ hgrow' hown'
                    have HM2 : Hid _ := HM2'
                    refine hK.out _ _ hS2 (fun _ => ?_)
                    clear hK K hS HM HXC hown' hgrow' HM2'
                    (try simp only [Act.put, List.setIfInBounds_toArray, List.set_cons_zero, List.set_cons_succ])
                    have hS := hS2
                    clear hS2
                    refine wpAnyH_take (i := 18) (oi := { dst := some 46, op := .fieldAddr 32 (.tmp 5) 0, type := _, pos := _, after := _, guard := none }) (v := .pointer (some ⟨(w.heap.size + 2), 0, none⟩)) rfl (by kernel_rfl) (by kernel_rfl) (by kernel_rfl) (fun _ _ _ h => h) (Or.inl ⟨by rfl, by intro x _; go_simp⟩) hS ?_
                    (try simp only [Act.put, List.setIfInBounds_toArray, List.set_cons_zero, List.set_cons_succ])
                    refine wpAnyH_ready (rs := [19]) (by kernel_rfl) (by simp) ?_
                    refine AllReadyH.cons (o := { dst := none, op := .store 30 (.tmp 46) (.tmp 45), type := _, pos := _, after := _, guard := none }) rfl (fun K hK => ?_) AllReadyH.nil
                    go_simp
                    have hS3 := HM2.out.cells.1
                    refine hK.out _ _ hS3 (fun _ => ?_)
                    clear hK K hS q0 q1
                    (try simp only [Act.put])
                    refine wpAnyH_done (by kernel_rfl) ?_ _
                    go_wp2_with fail
                    go_meet
                    exact ⟨_, _, _, rfl, ob_made sl fl dr mf ls pg _ t1 t2 ht1 ht2, HM2.out⟩
                  · go_simp
                    have HM2 : Hid _ := HM.out.next ((Below.refl V.heap.size V).alloc (Nat.le_refl _) (.cells #[.string t1, .string t2, .int .i64 (((k : Int)) % 1048577), .int .i64 (((k : Int)) % ((fl : Int) + 1) - 1)] 46))
                    have hS2 := HM2.out.cells.1
                    have HXC : Hid (∀ i u, [.string t1, .string t2, .int .i64 (((k : Int)) % 1048577), .int .i64 (((k : Int)) % ((fl : Int) + 1) - 1)][i]? = some u → (V.alloc (.cells #[.string t1, .string t2, .int .i64 (((k : Int)) % 1048577), .int .i64 (((k : Int)) % ((fl : Int) + 1) - 1)] 46)).cell? ((⟨V.heap.size, 0, none⟩ : Addr).add i) = some u) := fun i u h => cells_new V #[.string t1, .string t2, .int .i64 (((k : Int)) % 1048577), .int .i64 (((k : Int)) % ((fl : Int) + 1) - 1)] 46 i u (by simpa using h)
                    refine hK.out _ _ hS2 (fun _ => ?_)
                    clear hK K hS HM
                    (try simp only [Act.put, List.setIfInBounds_toArray, List.set_cons_zero, List.set_cons_succ])
                    revert hS2 HM2 HXC
                    generalize V.alloc (.cells #[.string t1, .string t2, .int .i64 (((k : Int)) % 1048577), .int .i64 (((k : Int)) % ((fl : Int) + 1) - 1)] 46) = V2
                    generalize V.heap.size = h
                    intro HM hS HXC
                    revert hS HM HXC
                    generalize V2 = V
                    intro HM hS HXC
                    refine wpAnyH_ready (rs := [1]) (by kernel_rfl) (by simp) ?_
                    refine AllReadyH.cons (o := { dst := some 29, op := .load 30 (.tmp 28), type := _, pos := _, after := _, guard := none }) rfl (fun K hK => ?_) AllReadyH.nil
                    have c0 := HM.out.cells.2.1
                    go_simp
                    refine hK.out _ _ hS (fun _ => ?_)
                    clear hK K c0
                    (try simp only [Act.put, List.setIfInBounds_toArray, List.set_cons_zero, List.set_cons_succ])
                    refine wpAnyH_ready (rs := [17]) (by kernel_rfl) (by simp) ?_
                    refine AllReadyH.cons (o := { dst := some 45, op := .call { callee := .builtin .append, args := #[.tmp 29, .tmp 44], argTypes := #[30, 30] }, type := _, pos := _, after := _, guard := none }) rfl (fun K hK => ?_) AllReadyH.nil
                    refine step_append_own rfl (.tmp 29) (.tmp 44) 30 rfl w.heap.size 46 i0 (.agg #[.string { data := #[] }, .string { data := #[] }, .int .i64 0, .int .i64 0]) 4 48 Tryd.underlying30 hi hz0 hz1 hz2 rfl (by decide) vo O.length (obsC O) (by simp [Act.eval]) HM.out.ho ⟨h, 0, none⟩ 1 1 [.string t1, .string t2, .int .i64 (((k : Int)) % 1048577), .int .i64 (((k : Int)) % ((fl : Int) + 1) - 1)] (by simp [Act.eval]) rfl HXC.out (h1c t1 t2) (by unfold maxLen; omega) (by omega) HM.out.be.size ?_
                    intro v' w' hown' hgrow'
                    obtain ⟨a9, c9, rfl⟩ := owns_form hown'
                    obtain ⟨⟨q0, q1, hS2⟩, HM2'⟩ := HM.out.appO ⟨t1, t2, ((k : Int)) % 1048577, ((k : Int)) % ((fl : Int) + 1) - 1⟩ hgrow' hown'
                    have HM2 : Hid _ := HM2'
                    refine hK.out _ _ hS2 (fun _ => ?_)
                    clear hK K hS HM HXC hown' hgrow' HM2'
                    (try simp only [Act.put, List.setIfInBounds_toArray, List.set_cons_zero, List.set_cons_succ])
                    have hS := hS2
                    clear hS2
                    refine wpAnyH_take (i := 18) (oi := { dst := some 46, op := .fieldAddr 32 (.tmp 5) 0, type := _, pos := _, after := _, guard := none }) (v := .pointer (some ⟨(w.heap.size + 2), 0, none⟩)) rfl (by kernel_rfl) (by kernel_rfl) (by kernel_rfl) (fun _ _ _ h => h) (Or.inl ⟨by rfl, by intro x _; go_simp⟩) hS ?_
                    (try simp only [Act.put, List.setIfInBounds_toArray, List.set_cons_zero, List.set_cons_succ])
                    refine wpAnyH_ready (rs := [19]) (by kernel_rfl) (by simp) ?_
                    refine AllReadyH.cons (o := { dst := none, op := .store 30 (.tmp 46) (.tmp 45), type := _, pos := _, after := _, guard := none }) rfl (fun K hK => ?_) AllReadyH.nil
                    go_simp
                    have hS3 := HM2.out.cells.1
                    refine hK.out _ _ hS3 (fun _ => ?_)
                    clear hK K hS q0 q1
                    (try simp only [Act.put])
                    refine wpAnyH_done (by kernel_rfl) ?_ _
                    go_wp2_with fail
                    go_meet
                    exact ⟨_, _, _, rfl, ob_made sl fl dr mf ls pg _ t1 t2 ht1 ht2, HM2.out⟩
        case rest =>
        obtain ⟨y, o, v9, rfl, HO9, HM9⟩ := hcut
        clear y0 y1 y2 y3 y4 y5 c0 c1 f2 hlw hm1 hm2 h1c HMp
        have HFO : Hid (∀ x ∈ O ++ [o], ObF ⟨sl, fl, dr, mf, ls, pg⟩ x) := fun x hx => by
          rcases List.mem_append.1 hx with h | h
          · exact HF.out.1 x h
          · rw [List.mem_singleton.1 h]
            exact HO9.out
        by_cases h2 : y.tmod 2 = 0
        · go_upto_region 10 with fail
          have hy1 := Int.emod_nonneg y (b := (fl : Int) + (sl : Int)) (by omega)
          have hy2 := Int.emod_lt_of_pos y (b := (fl : Int) + (sl : Int)) (by omega)
          have HYQ : Hid (0 ≤ y % ((fl : Int) + (sl : Int)) ∧ y % ((fl : Int) + (sl : Int)) < ((fl + sl : Nat) : Int)) := by
            show _ ∧ _
            omega
          have h1q : ∀ u ∈ [Value.int .i64 (y % ((fl : Int) + (sl : Int)))], u.oneCell' = true := by simp [Value.oneCell']
          clear hy1 hy2
          have hS0 : (wc.drew.cell? ⟨w.heap.size, 0, none⟩ = some (.int .i64 (sl : Int)) ∧ wc.drew.cell? ⟨w.heap.size, 1, none⟩ = some (.int .i64 (fl : Int)) ∧ wc.drew.cell? ⟨w.heap.size, 2, none⟩ = some (.int .i64 (dr : Int)) ∧ wc.drew.cell? ⟨w.heap.size, 3, none⟩ = some (.int .i64 (mf : Int)) ∧ wc.drew.cell? ⟨w.heap.size, 4, none⟩ = some (.int .i64 (ls : Int)) ∧ wc.drew.cell? ⟨w.heap.size, 5, none⟩ = some (.int .i64 (pg : Int))) := HM9.out.cells.1
          refine wp_region_held_drew (S := fun W => W.cell? ⟨w.heap.size, 0, none⟩ = some (.int .i64 (sl : Int)) ∧ W.cell? ⟨w.heap.size, 1, none⟩ = some (.int .i64 (fl : Int)) ∧ W.cell? ⟨w.heap.size, 2, none⟩ = some (.int .i64 (dr : Int)) ∧ W.cell? ⟨w.heap.size, 3, none⟩ = some (.int .i64 (mf : Int)) ∧ W.cell? ⟨w.heap.size, 4, none⟩ = some (.int .i64 (ls : Int)) ∧ W.cell? ⟨w.heap.size, 5, none⟩ = some (.int .i64 (pg : Int))) (by kernel_rfl) hS0 ?_
          intro hS
          clear hS0
          have HM : Hid _ := HM9.out.next (Below.refl wc.heap.size wc).drew
          clear HM9
          revert hS HM
          generalize wc.drew = V
          intro hS HM
          refine wpAnyH_take (i := 0) (oi := { dst := some 50, op := .fieldAddr 32 (.tmp 5) 1, type := _, pos := _, after := _, guard := none }) (v := .pointer (some ⟨(w.heap.size + 2), 1, none⟩)) rfl (by kernel_rfl) (by kernel_rfl) (by kernel_rfl) (fun _ _ _ h => h) (Or.inl ⟨by rfl, by intro x _; go_simp⟩) hS ?_
          (try simp only [Act.put, List.setIfInBounds_toArray, List.set_cons_zero, List.set_cons_succ])
          refine wpAnyH_take (i := 2) (oi := { dst := some 52, op := .move (.tmp 7), type := _, pos := _, after := _, guard := none }) (v := .int .i64 y) rfl (by kernel_rfl) (by kernel_rfl) (by kernel_rfl) (fun _ _ _ h => h) (Or.inl ⟨by rfl, by intro x _; go_simp⟩) hS ?_
          (try simp only [Act.put, List.setIfInBounds_toArray, List.set_cons_zero, List.set_cons_succ])
          refine wpAnyH_take (i := 3) (oi := { dst := some 53, op := .fieldAddr 23 (.tmp 2) 1, type := _, pos := _, after := _, guard := none }) (v := .pointer (some ⟨w.heap.size, 1, none⟩)) rfl (by kernel_rfl) (by kernel_rfl) (by kernel_rfl) (fun _ _ _ h => h) (Or.inl ⟨by rfl, by intro x _; go_simp⟩) hS ?_
          (try simp only [Act.put, List.setIfInBounds_toArray, List.set_cons_zero, List.set_cons_succ])
          refine wpAnyH_take (i := 4) (oi := { dst := some 54, op := .load 3 (.tmp 53), type := _, pos := _, after := _, guard := none }) (v := .int .i64 (fl : Int)) rfl (by kernel_rfl) (by kernel_rfl) (by kernel_rfl) (fun _ _ _ h => h) (Or.inl ⟨by rfl, by intro x hx; have h1 := hx.2.1; go_simp⟩) hS ?_
          (try simp only [Act.put, List.setIfInBounds_toArray, List.set_cons_zero, List.set_cons_succ])
          refine wpAnyH_take (i := 5) (oi := { dst := some 55, op := .fieldAddr 23 (.tmp 2) 0, type := _, pos := _, after := _, guard := none }) (v := .pointer (some ⟨w.heap.size, 0, none⟩)) rfl (by kernel_rfl) (by kernel_rfl) (by kernel_rfl) (fun _ _ _ h => h) (Or.inl ⟨by rfl, by intro x _; go_simp⟩) hS ?_
          (try simp only [Act.put, List.setIfInBounds_toArray, List.set_cons_zero, List.set_cons_succ])
          refine wpAnyH_take (i := 6) (oi := { dst := some 56, op := .load 3 (.tmp 55), type := _, pos := _, after := _, guard := none }) (v := .int .i64 (sl : Int)) rfl (by kernel_rfl) (by kernel_rfl) (by kernel_rfl) (fun _ _ _ h => h) (Or.inl ⟨by rfl, by intro x hx; have h1 := hx.1; go_simp⟩) hS ?_
          (try simp only [Act.put, List.setIfInBounds_toArray, List.set_cons_zero, List.set_cons_succ])
          refine wpAnyH_take (i := 7) (oi := { dst := some 57, op := .binOp .add 3 (.tmp 54) (.tmp 56) 3, type := _, pos := _, after := _, guard := none }) (v := .int .i64 ((fl : Int) + (sl : Int))) rfl (by kernel_rfl) (by kernel_rfl) (by kernel_rfl) (fun _ _ _ h => h) (Or.inl ⟨by rfl, by intro x _; go_simp; rw [IntKind.wrap_i64]; omega⟩) hS ?_
          (try simp only [Act.put, List.setIfInBounds_toArray, List.set_cons_zero, List.set_cons_succ])
          refine wpAnyH_ready (rs := [1, 8]) (by kernel_rfl) (by simp) ?_
          refine AllReadyH.cons (o := { dst := some 51, op := .load 24 (.tmp 50), type := _, pos := _, after := _, guard := none }) rfl (fun K hK => ?_) (AllReadyH.cons (o := { dst := some 58, op := .call { callee := .value (.func 16), args := #[.tmp 52, .tmp 57], argTypes := #[3, 3] }, type := _, pos := _, after := _, guard := none }) rfl (fun K hK => ?_) AllReadyH.nil)
          · have c0 := HM.out.cells.2.2.1
            go_simp
            refine hK.out _ _ hS (fun _ => ?_)
            clear hK K c0
            (try simp only [Act.put, List.setIfInBounds_toArray, List.set_cons_zero, List.set_cons_succ])
            refine wpAnyH_ready (rs := [8]) (by kernel_rfl) (by simp) ?_
            refine AllReadyH.cons (o := { dst := some 58, op := .call { callee := .value (.func 16), args := #[.tmp 52, .tmp 57], argTypes := #[3, 3] }, type := _, pos := _, after := _, guard := none }) rfl (fun K hK => ?_) AllReadyH.nil
            go_simp
            refine (modI_any _ _ (by omega) _).mono ?_
            rintro e W2 ⟨rfl, hw2⟩
            rw [hw2]
            clear hw2 W2
            refine hK.out _ _ hS (fun _ => ?_)
            clear hK K
            (try simp only [Act.put, List.setIfInBounds_toArray, List.set_cons_zero, List.set_cons_succ])
            refine wpAnyH_ready (rs := [9]) (by kernel_rfl) (by simp) ?_
            refine AllReadyH.cons (o := { dst := some 59, op := .buildSlice 24 1 #[(0, .tmp 58)], type := _, pos := _, after := _, guard := none }) rfl (fun K hK => ?_) AllReadyH.nil
            go_simp
            have HM2 : Hid _ := HM.out.next ((Below.refl V.heap.size V).alloc (Nat.le_refl _) (.cells #[.int .i64 (y % ((fl : Int) + (sl : Int)))] 3))
            have hS2 := HM2.out.cells.1
            have HXC : Hid (∀ i u, [.int .i64 (y % ((fl : Int) + (sl : Int)))][i]? = some u → (V.alloc (.cells #[.int .i64 (y % ((fl : Int) + (sl : Int)))] 3)).cell? ((⟨V.heap.size, 0, none⟩ : Addr).add i) = some u) := fun i u h => cells_new V #[.int .i64 (y % ((fl : Int) + (sl : Int)))] 3 i u (by simpa using h)
            refine hK.out _ _ hS2 (fun _ => ?_)
            clear hK K hS HM
            (try simp only [Act.put, List.setIfInBounds_toArray, List.set_cons_zero, List.set_cons_succ])
            revert hS2 HM2 HXC
            generalize V.alloc (.cells #[.int .i64 (y % ((fl : Int) + (sl : Int)))] 3) = V2
            generalize V.heap.size = h
            intro HM hS HXC
            revert hS HM HXC
            generalize V2 = V
            intro HM hS HXC
            refine wpAnyH_ready (rs := [10]) (by kernel_rfl) (by simp) ?_
            refine AllReadyH.cons (o := { dst := some 60, op := .call { callee := .builtin .append, args := #[.tmp 51, .tmp 59], argTypes := #[24, 24] }, type := _, pos := _, after := _, guard := none }) rfl (fun K hK => ?_) AllReadyH.nil
            refine step_append_own rfl (.tmp 51) (.tmp 59) 24 rfl w.heap.size 3 j0 (.int .i64 0) 1 8 Tryd.underlying24 hj hj0 hj1 hj2 rfl (by decide) vq Q.length (zsC Q) (by simp [Act.eval]) HM.out.hq ⟨h, 0, none⟩ 1 1 [.int .i64 (y % ((fl : Int) + (sl : Int)))] (by simp [Act.eval]) rfl HXC.out h1q (by unfold maxLen; omega) (by omega) HM.out.be.size ?_
            intro v' w' hown' hgrow'
            obtain ⟨a9, c9, rfl⟩ := owns_form hown'
            obtain ⟨⟨q0, q1, hS2⟩, HM2'⟩ := HM.out.appQ (y % ((fl : Int) + (sl : Int))) hgrow' hown'
            have HM2 : Hid _ := HM2'
            refine hK.out _ _ hS2 (fun _ => ?_)
            clear hK K hS HM HXC hown' hgrow' HM2'
            (try simp only [Act.put, List.setIfInBounds_toArray, List.set_cons_zero, List.set_cons_succ])
            have hS := hS2
            clear hS2
            refine wpAnyH_take (i := 11) (oi := { dst := some 61, op := .fieldAddr 32 (.tmp 5) 1, type := _, pos := _, after := _, guard := none }) (v := .pointer (some ⟨(w.heap.size + 2), 1, none⟩)) rfl (by kernel_rfl) (by kernel_rfl) (by kernel_rfl) (fun _ _ _ h => h) (Or.inl ⟨by rfl, by intro x _; go_simp⟩) hS ?_
            (try simp only [Act.put, List.setIfInBounds_toArray, List.set_cons_zero, List.set_cons_succ])
            refine wpAnyH_ready (rs := [12]) (by kernel_rfl) (by simp) ?_
            refine AllReadyH.cons (o := { dst := none, op := .store 24 (.tmp 61) (.tmp 60), type := _, pos := _, after := _, guard := none }) rfl (fun K hK => ?_) AllReadyH.nil
            go_simp
            have hS3 := HM2.out.cells.1
            refine hK.out _ _ hS3 (fun _ => ?_)
            clear hK K hS q0 q1
            (try simp only [Act.put])
            refine wpAnyH_done (by kernel_rfl) ?_ _
            go_wp2
            go_roundg (gk - 1)
            case measure => omega
            case rel => exact ⟨k + 1, _, _, _, _, by omega, by show (O ++ [o]).length = _; rw [List.length_append, HOl.out]; rfl, by rw [List.length_append]; exact Nat.succ_le_succ hQl, rfl, ⟨HFO.out, fun x hx => by
                rcases List.mem_append.1 hx with h | h
                · exact HF.out.2 x h
                · rw [List.mem_singleton.1 h]
                  exact HYQ.out⟩, HM2.out⟩
          · go_simp
            refine (modI_any _ _ (by omega) _).mono ?_
            rintro e W2 ⟨rfl, hw2⟩
            rw [hw2]
            clear hw2 W2
            refine hK.out _ _ hS (fun _ => ?_)
            clear hK K
            (try simp only [Act.put, List.setIfInBounds_toArray, List.set_cons_zero, List.set_cons_succ])
            refine wpAnyH_ready (rs := [1, 9]) (by kernel_rfl) (by simp) ?_
            refine AllReadyH.cons (o := { dst := some 51, op := .load 24 (.tmp 50), type := _, pos := _, after := _, guard := none }) rfl (fun K hK => ?_) (AllReadyH.cons (o := { dst := some 59, op := .buildSlice 24 1 #[(0, .tmp 58)], type := _, pos := _, after := _, guard := none }) rfl (fun K hK => ?_) AllReadyH.nil)
            · have c0 := HM.out.cells.2.2.1
              go_simp
              refine hK.out _ _ hS (fun _ => ?_)
              clear hK K c0
              (try simp only [Act.put, List.setIfInBounds_toArray, List.set_cons_zero, List.set_cons_succ])
              refine wpAnyH_ready (rs := [9]) (by kernel_rfl) (by simp) ?_
              refine AllReadyH.cons (o := { dst := some 59, op := .buildSlice 24 1 #[(0, .tmp 58)], type := _, pos := _, after := _, guard := none }) rfl (fun K hK => ?_) AllReadyH.nil
              go_simp
              have HM2 : Hid _ := HM.out.next ((Below.refl V.heap.size V).alloc (Nat.le_refl _) (.cells #[.int .i64 (y % ((fl : Int) + (sl : Int)))] 3))
              have hS2 := HM2.out.cells.1
              have HXC : Hid (∀ i u, [.int .i64 (y % ((fl : Int) + (sl : Int)))][i]? = some u → (V.alloc (.cells #[.int .i64 (y % ((fl : Int) + (sl : Int)))] 3)).cell? ((⟨V.heap.size, 0, none⟩ : Addr).add i) = some u) := fun i u h => cells_new V #[.int .i64 (y % ((fl : Int) + (sl : Int)))] 3 i u (by simpa using h)
              refine hK.out _ _ hS2 (fun _ => ?_)
              clear hK K hS HM
              (try simp only [Act.put, List.setIfInBounds_toArray, List.set_cons_zero, List.set_cons_succ])
              revert hS2 HM2 HXC
              generalize V.alloc (.cells #[.int .i64 (y % ((fl : Int) + (sl : Int)))] 3) = V2
              generalize V.heap.size = h
              intro HM hS HXC
              revert hS HM HXC
              generalize V2 = V
              intro HM hS HXC
              refine wpAnyH_ready (rs := [10]) (by kernel_rfl) (by simp) ?_
              refine AllReadyH.cons (o := { dst := some 60, op := .call { callee := .builtin .append, args := #[.tmp 51, .tmp 59], argTypes := #[24, 24] }, type := _, pos := _, after := _, guard := none }) rfl (fun K hK => ?_) AllReadyH.nil
              refine step_append_own rfl (.tmp 51) (.tmp 59) 24 rfl w.heap.size 3 j0 (.int .i64 0) 1 8 Tryd.underlying24 hj hj0 hj1 hj2 rfl (by decide) vq Q.length (zsC Q) (by simp [Act.eval]) HM.out.hq ⟨h, 0, none⟩ 1 1 [.int .i64 (y % ((fl : Int) + (sl : Int)))] (by simp [Act.eval]) rfl HXC.out h1q (by unfold maxLen; omega) (by omega) HM.out.be.size ?_
              intro v' w' hown' hgrow'
              obtain ⟨a9, c9, rfl⟩ := owns_form hown'
              obtain ⟨⟨q0, q1, hS2⟩, HM2'⟩ := HM.out.appQ (y % ((fl : Int) + (sl : Int))) hgrow' hown'
              have HM2 : Hid _ := HM2'
              refine hK.out _ _ hS2 (fun _ => ?_)
              clear hK K hS HM HXC hown' hgrow' HM2'
              (try simp only [Act.put, List.setIfInBounds_toArray, List.set_cons_zero, List.set_cons_succ])
              have hS := hS2
              clear hS2
              refine wpAnyH_take (i := 11) (oi := { dst := some 61, op := .fieldAddr 32 (.tmp 5) 1, type := _, pos := _, after := _, guard := none }) (v := .pointer (some ⟨(w.heap.size + 2), 1, none⟩)) rfl (by kernel_rfl) (by kernel_rfl) (by kernel_rfl) (fun _ _ _ h => h) (Or.inl ⟨by rfl, by intro x _; go_simp⟩) hS ?_
              (try simp only [Act.put, List.setIfInBounds_toArray, List.set_cons_zero, List.set_cons_succ])
              refine wpAnyH_ready (rs := [12]) (by kernel_rfl) (by simp) ?_
              refine AllReadyH.cons (o := { dst := none, op := .store 24 (.tmp 61) (.tmp 60), type := _, pos := _, after := _, guard := none }) rfl (fun K hK => ?_) AllReadyH.nil
              go_simp
              have hS3 := HM2.out.cells.1
              refine hK.out _ _ hS3 (fun _ => ?_)
              clear hK K hS q0 q1
              (try simp only [Act.put])
              refine wpAnyH_done (by kernel_rfl) ?_ _
              go_wp2
              go_roundg (gk - 1)
              case measure => omega
              case rel => exact ⟨k + 1, _, _, _, _, by omega, by show (O ++ [o]).length = _; rw [List.length_append, HOl.out]; rfl, by rw [List.length_append]; exact Nat.succ_le_succ hQl, rfl, ⟨HFO.out, fun x hx => by
                  rcases List.mem_append.1 hx with h | h
                  · exact HF.out.2 x h
                  · rw [List.mem_singleton.1 h]
                    exact HYQ.out⟩, HM2.out⟩
            · go_simp
              have HM2 : Hid _ := HM.out.next ((Below.refl V.heap.size V).alloc (Nat.le_refl _) (.cells #[.int .i64 (y % ((fl : Int) + (sl : Int)))] 3))
              have hS2 := HM2.out.cells.1
              have HXC : Hid (∀ i u, [.int .i64 (y % ((fl : Int) + (sl : Int)))][i]? = some u → (V.alloc (.cells #[.int .i64 (y % ((fl : Int) + (sl : Int)))] 3)).cell? ((⟨V.heap.size, 0, none⟩ : Addr).add i) = some u) := fun i u h => cells_new V #[.int .i64 (y % ((fl : Int) + (sl : Int)))] 3 i u (by simpa using h)
              refine hK.out _ _ hS2 (fun _ => ?_)
              clear hK K hS HM
              (try simp only [Act.put, List.setIfInBounds_toArray, List.set_cons_zero, List.set_cons_succ])
              revert hS2 HM2 HXC
              generalize V.alloc (.cells #[.int .i64 (y % ((fl : Int) + (sl : Int)))] 3) = V2
              generalize V.heap.size = h
              intro HM hS HXC
              revert hS HM HXC
              generalize V2 = V
              intro HM hS HXC
              refine wpAnyH_ready (rs := [1]) (by kernel_rfl) (by simp) ?_
              refine AllReadyH.cons (o := { dst := some 51, op := .load 24 (.tmp 50), type := _, pos := _, after := _, guard := none }) rfl (fun K hK => ?_) AllReadyH.nil
              have c0 := HM.out.cells.2.2.1
              go_simp
              refine hK.out _ _ hS (fun _ => ?_)
              clear hK K c0
              (try simp only [Act.put, List.setIfInBounds_toArray, List.set_cons_zero, List.set_cons_succ])
              refine wpAnyH_ready (rs := [10]) (by kernel_rfl) (by simp) ?_
              refine AllReadyH.cons (o := { dst := some 60, op := .call { callee := .builtin .append, args := #[.tmp 51, .tmp 59], argTypes := #[24, 24] }, type := _, pos := _, after := _, guard := none }) rfl (fun K hK => ?_) AllReadyH.nil
              refine step_append_own rfl (.tmp 51) (.tmp 59) 24 rfl w.heap.size 3 j0 (.int .i64 0) 1 8 Tryd.underlying24 hj hj0 hj1 hj2 rfl (by decide) vq Q.length (zsC Q) (by simp [Act.eval]) HM.out.hq ⟨h, 0, none⟩ 1 1 [.int .i64 (y % ((fl : Int) + (sl : Int)))] (by simp [Act.eval]) rfl HXC.out h1q (by unfold maxLen; omega) (by omega) HM.out.be.size ?_
              intro v' w' hown' hgrow'
              obtain ⟨a9, c9, rfl⟩ := owns_form hown'
              obtain ⟨⟨q0, q1, hS2⟩, HM2'⟩ := HM.out.appQ (y % ((fl : Int) + (sl : Int))) hgrow' hown'
              have HM2 : Hid _ := HM2'
              refine hK.out _ _ hS2 (fun _ => ?_)
              clear hK K hS HM HXC hown' hgrow' HM2'
              (try simp only [Act.put, List.setIfInBounds_toArray, List.set_cons_zero, List.set_cons_succ])
              have hS := hS2
              clear hS2
              refine wpAnyH_take (i := 11) (oi := { dst := some 61, op := .fieldAddr 32 (.tmp 5) 1, type := _, pos := _, after := _, guard := none }) (v := .pointer (some ⟨(w.heap.size + 2), 1, none⟩)) rfl (by kernel_rfl) (by kernel_rfl) (by kernel_rfl) (fun _ _ _ h => h) (Or.inl ⟨by rfl, by intro x _; go_simp⟩) hS ?_
              (try simp only [Act.put, List.setIfInBounds_toArray, List.set_cons_zero, List.set_cons_succ])
              refine wpAnyH_ready (rs := [12]) (by kernel_rfl) (by simp) ?_
              refine AllReadyH.cons (o := { dst := none, op := .store 24 (.tmp 61) (.tmp 60), type := _, pos := _, after := _, guard := none }) rfl (fun K hK => ?_) AllReadyH.nil
              go_simp
              have hS3 := HM2.out.cells.1
              refine hK.out _ _ hS3 (fun _ => ?_)
              clear hK K hS q0 q1
              (try simp only [Act.put])
              refine wpAnyH_done (by kernel_rfl) ?_ _
              go_wp2
              go_roundg (gk - 1)
              case measure => omega
              case rel => exact ⟨k + 1, _, _, _, _, by omega, by show (O ++ [o]).length = _; rw [List.length_append, HOl.out]; rfl, by rw [List.length_append]; exact Nat.succ_le_succ hQl, rfl, ⟨HFO.out, fun x hx => by
                  rcases List.mem_append.1 hx with h | h
                  · exact HF.out.2 x h
                  · rw [List.mem_singleton.1 h]
                    exact HYQ.out⟩, HM2.out⟩
        · go_wp2
          go_roundg (gk - 1)
          case measure => omega
          case rel => exact ⟨k + 1, _, _, _, _, by omega, by show (O ++ [o]).length = _; rw [List.length_append, HOl.out]; rfl, Nat.le_succ_of_le hQl, rfl, ⟨HFO.out, HF.out.2⟩, HM9.out⟩
      · have h0I : (0 : Int) < (n : Int) := by omega
        have h0J : ¬ (n : Int) = 0 := by omega
        obtain ⟨j, hjm⟩ : ∃ j, k % n = j := ⟨_, rfl⟩
        have hjl : j < n := by rw [← hjm]; exact Nat.mod_lt _ (by omega)
        have hmd : (k : Int) % (n : Int) = (j : Int) := by rw [← hjm]; simp
        have hjI : (j : Int) < (n : Int) := by omega
        obtain ⟨z, hz⟩ : ∃ z, Z[j]? = some z := ⟨_, List.getElem?_eq_getElem (by omega)⟩
        obtain ⟨b, off, rfl, hbl, hcz⟩ := (HS.out wr HMp.out.be).z hz
        clear hjm hz
        go_upto_region 8 with fail
        have hm1 := Int.emod_nonneg (z) (b := (fl : Int) + 1) (by omega)
        have hm2 := Int.emod_lt_of_pos (z) (b := (fl : Int) + 1) (by omega)
        have h1c : ∀ t1 t2 : ByteArray, ∀ u ∈ [Value.string t1, .string t2, .int .i64 ((z) % 1048577), .int .i64 ((z) % ((fl : Int) + 1) - 1)], u.oneCell' = true := by simp [Value.oneCell']
        go_cut [7] (fun s wx => ∃ (y : Int) (o : Ob) (v' : Value), s = .int .i64 y ∧ Hid (ObF ⟨sl, fl, dr, mf, ls, pg⟩ o) ∧ Hid (Mp w sl fl dr mf ls pg v' vq (O ++ [o]) Q wx))
        case first =>
          have hS0 : (wr.drew.cell? ⟨w.heap.size, 0, none⟩ = some (.int .i64 (sl : Int)) ∧ wr.drew.cell? ⟨w.heap.size, 1, none⟩ = some (.int .i64 (fl : Int)) ∧ wr.drew.cell? ⟨w.heap.size, 2, none⟩ = some (.int .i64 (dr : Int)) ∧ wr.drew.cell? ⟨w.heap.size, 3, none⟩ = some (.int .i64 (mf : Int)) ∧ wr.drew.cell? ⟨w.heap.size, 4, none⟩ = some (.int .i64 (ls : Int)) ∧ wr.drew.cell? ⟨w.heap.size, 5, none⟩ = some (.int .i64 (pg : Int))) := ⟨y0, y1, y2, y3, y4, y5⟩
          refine wp_region_held_drew (S := fun W => W.cell? ⟨w.heap.size, 0, none⟩ = some (.int .i64 (sl : Int)) ∧ W.cell? ⟨w.heap.size, 1, none⟩ = some (.int .i64 (fl : Int)) ∧ W.cell? ⟨w.heap.size, 2, none⟩ = some (.int .i64 (dr : Int)) ∧ W.cell? ⟨w.heap.size, 3, none⟩ = some (.int .i64 (mf : Int)) ∧ W.cell? ⟨w.heap.size, 4, none⟩ = some (.int .i64 (ls : Int)) ∧ W.cell? ⟨w.heap.size, 5, none⟩ = some (.int .i64 (pg : Int))) (by kernel_rfl) hS0 ?_
          intro hS
          clear hS0
          have HM : Hid _ := HMp.out.next (Below.refl wr.heap.size wr).drew
          clear y0 y1 y2 y3 y4 y5 c0 c1 f2 hlw HMp
          revert hS HM
          generalize wr.drew = V
          intro hS HM
          obtain ⟨qq, hqq⟩ : ∃ qq, IntKind.i64.wrap (z.tdiv 7) = qq := ⟨_, rfl⟩
          refine wpAnyH_take (i := 0) (oi := { dst := some 28, op := .fieldAddr 32 (.tmp 5) 0, type := _, pos := _, after := _, guard := none }) (v := .pointer (some ⟨(w.heap.size + 2), 0, none⟩)) rfl (by kernel_rfl) (by kernel_rfl) (by kernel_rfl) (fun _ _ _ h => h) (Or.inl ⟨by rfl, by intro x _; go_simp⟩) hS ?_
          (try simp only [Act.put, List.setIfInBounds_toArray, List.set_cons_zero, List.set_cons_succ])
          refine wpAnyH_take (i := 2) (oi := { dst := some 30, op := .move (.tmp 7), type := _, pos := _, after := _, guard := none }) (v := .int .i64 ((z))) rfl (by kernel_rfl) (by kernel_rfl) (by kernel_rfl) (fun _ _ _ h => h) (Or.inl ⟨by rfl, by intro x _; go_simp⟩) hS ?_
          (try simp only [Act.put, List.setIfInBounds_toArray, List.set_cons_zero, List.set_cons_succ])
          refine wpAnyH_take (i := 4) (oi := { dst := some 32, op := .move (.tmp 7), type := _, pos := _, after := _, guard := none }) (v := .int .i64 ((z))) rfl (by kernel_rfl) (by kernel_rfl) (by kernel_rfl) (fun _ _ _ h => h) (Or.inl ⟨by rfl, by intro x _; go_simp⟩) hS ?_
          (try simp only [Act.put, List.setIfInBounds_toArray, List.set_cons_zero, List.set_cons_succ])
          refine wpAnyH_take (i := 5) (oi := { dst := some 33, op := .binOp .quo 3 (.tmp 32) (.const (.int .i64 7)) 3, type := _, pos := _, after := _, guard := none }) (v := .int .i64 qq) rfl (by kernel_rfl) (by kernel_rfl) (by kernel_rfl) (fun _ _ _ h => h) (Or.inl ⟨by rfl, by intro x _; go_simp⟩) hS ?_
          (try simp only [Act.put, List.setIfInBounds_toArray, List.set_cons_zero, List.set_cons_succ])
          refine wpAnyH_take (i := 7) (oi := { dst := some 35, op := .move (.tmp 7), type := _, pos := _, after := _, guard := none }) (v := .int .i64 ((z))) rfl (by kernel_rfl) (by kernel_rfl) (by kernel_rfl) (fun _ _ _ h => h) (Or.inl ⟨by rfl, by intro x _; go_simp⟩) hS ?_
          (try simp only [Act.put, List.setIfInBounds_toArray, List.set_cons_zero, List.set_cons_succ])
          refine wpAnyH_take (i := 9) (oi := { dst := some 37, op := .move (.tmp 7), type := _, pos := _, after := _, guard := none }) (v := .int .i64 ((z))) rfl (by kernel_rfl) (by kernel_rfl) (by kernel_rfl) (fun _ _ _ h => h) (Or.inl ⟨by rfl, by intro x _; go_simp⟩) hS ?_
          (try simp only [Act.put, List.setIfInBounds_toArray, List.set_cons_zero, List.set_cons_succ])
          refine wpAnyH_take (i := 10) (oi := { dst := some 38, op := .fieldAddr 23 (.tmp 2) 1, type := _, pos := _, after := _, guard := none }) (v := .pointer (some ⟨w.heap.size, 1, none⟩)) rfl (by kernel_rfl) (by kernel_rfl) (by kernel_rfl) (fun _ _ _ h => h) (Or.inl ⟨by rfl, by intro x _; go_simp⟩) hS ?_
          (try simp only [Act.put, List.setIfInBounds_toArray, List.set_cons_zero, List.set_cons_succ])
          refine wpAnyH_take (i := 11) (oi := { dst := some 39, op := .load 3 (.tmp 38), type := _, pos := _, after := _, guard := none }) (v := .int .i64 (fl : Int)) rfl (by kernel_rfl) (by kernel_rfl) (by kernel_rfl) (fun _ _ _ h => h) (Or.inl ⟨by rfl, by intro x hx; have h1 := hx.2.1; go_simp⟩) hS ?_
          (try simp only [Act.put, List.setIfInBounds_toArray, List.set_cons_zero, List.set_cons_succ])
          refine wpAnyH_take (i := 12) (oi := { dst := some 40, op := .binOp .add 3 (.tmp 39) (.const (.int .i64 1)) 3, type := _, pos := _, after := _, guard := none }) (v := .int .i64 ((fl : Int) + 1)) rfl (by kernel_rfl) (by kernel_rfl) (by kernel_rfl) (fun _ _ _ h => h) (Or.inl ⟨by rfl, by intro x _; go_simp; rw [IntKind.wrap_i64]; omega⟩) hS ?_
          (try simp only [Act.put, List.setIfInBounds_toArray, List.set_cons_zero, List.set_cons_succ])
          refine wpAnyH_ready (rs := [1, 3]) (by kernel_rfl) (by simp) ?_
          refine AllReadyH.cons (o := { dst := some 29, op := .load 30 (.tmp 28), type := _, pos := _, after := _, guard := none }) rfl (fun K hK => ?_) (AllReadyH.cons (o := { dst := some 31, op := .call { callee := .value (.func 18), args := #[.tmp 30], argTypes := #[3] }, type := _, pos := _, after := _, guard := none }) rfl (fun K hK => ?_) AllReadyH.nil)
          · have c0 := HM.out.cells.2.1
            go_simp
            refine hK.out _ _ hS (fun _ => ?_)
            clear hK K c0
            (try simp only [Act.put, List.setIfInBounds_toArray, List.set_cons_zero, List.set_cons_succ])
            refine wpAnyH_ready (rs := [3]) (by kernel_rfl) (by simp) ?_
            refine AllReadyH.cons (o := { dst := some 31, op := .call { callee := .value (.func 18), args := #[.tmp 30], argTypes := #[3] }, type := _, pos := _, after := _, guard := none }) rfl (fun K hK => ?_) AllReadyH.nil
            go_simp
            refine (sixteen_any _ _).mono ?_
            rintro e W2 ⟨t1, ht1, rfl, hb2⟩
            have HM2 : Hid _ := HM.out.next hb2
            have hS2 := HM2.out.cells.1
            refine hK.out _ _ hS2 (fun _ => ?_)
            clear hK K hS HM hb2
            (try simp only [Act.put, List.setIfInBounds_toArray, List.set_cons_zero, List.set_cons_succ])
            revert hS2 HM2
            generalize W2 = V
            intro HM hS
            refine wpAnyH_ready (rs := [6]) (by kernel_rfl) (by simp) ?_
            refine AllReadyH.cons (o := { dst := some 34, op := .call { callee := .value (.func 18), args := #[.tmp 33], argTypes := #[3] }, type := _, pos := _, after := _, guard := none }) rfl (fun K hK => ?_) AllReadyH.nil
            go_simp
            refine (sixteen_any _ _).mono ?_
            rintro e W2 ⟨t2, ht2, rfl, hb2⟩
            have HM2 : Hid _ := HM.out.next hb2
            have hS2 := HM2.out.cells.1
            refine hK.out _ _ hS2 (fun _ => ?_)
            clear hK K hS HM hb2
            (try simp only [Act.put, List.setIfInBounds_toArray, List.set_cons_zero, List.set_cons_succ])
            revert hS2 HM2
            generalize W2 = V
            intro HM hS
            refine wpAnyH_ready (rs := [8]) (by kernel_rfl) (by simp) ?_
            refine AllReadyH.cons (o := { dst := some 36, op := .call { callee := .value (.func 16), args := #[.tmp 35, .const (.int .i64 1048577)], argTypes := #[3, 3] }, type := _, pos := _, after := _, guard := none }) rfl (fun K hK => ?_) AllReadyH.nil
            go_simp
            refine (modI_any _ _ (by omega) _).mono ?_
            rintro e W2 ⟨rfl, hw2⟩
            rw [hw2]
            clear hw2 W2
            refine hK.out _ _ hS (fun _ => ?_)
            clear hK K
            (try simp only [Act.put, List.setIfInBounds_toArray, List.set_cons_zero, List.set_cons_succ])
            refine wpAnyH_ready (rs := [13]) (by kernel_rfl) (by simp) ?_
            refine AllReadyH.cons (o := { dst := some 41, op := .call { callee := .value (.func 16), args := #[.tmp 37, .tmp 40], argTypes := #[3, 3] }, type := _, pos := _, after := _, guard := none }) rfl (fun K hK => ?_) AllReadyH.nil
            go_simp
            refine (modI_any _ _ (by omega) _).mono ?_
            rintro e W2 ⟨rfl, hw2⟩
            rw [hw2]
            clear hw2 W2
            refine hK.out _ _ hS (fun _ => ?_)
            clear hK K
            (try simp only [Act.put, List.setIfInBounds_toArray, List.set_cons_zero, List.set_cons_succ])
            refine wpAnyH_take (i := 14) (oi := { dst := some 42, op := .binOp .sub 3 (.tmp 41) (.const (.int .i64 1)) 3, type := _, pos := _, after := _, guard := none }) (v := .int .i64 ((z) % ((fl : Int) + 1) - 1)) rfl (by kernel_rfl) (by kernel_rfl) (by kernel_rfl) (fun _ _ _ h => h) (Or.inl ⟨by rfl, by intro x _; go_simp; rw [IntKind.wrap_i64]; omega⟩) hS ?_
            (try simp only [Act.put, List.setIfInBounds_toArray, List.set_cons_zero, List.set_cons_succ])
            refine wpAnyH_take (i := 15) (oi := { dst := some 43, op := .build 46 #[(0, .tmp 31), (1, .tmp 34), (2, .tmp 36), (3, .tmp 42)], type := _, pos := _, after := _, guard := none }) (v := .agg #[.string t1, .string t2, .int .i64 ((z) % 1048577), .int .i64 ((z) % ((fl : Int) + 1) - 1)]) rfl (by kernel_rfl) (by kernel_rfl) (by kernel_rfl) (fun _ _ _ h => h) (Or.inl ⟨by rfl, by intro x _; go_simp⟩) hS ?_
            (try simp only [Act.put, List.setIfInBounds_toArray, List.set_cons_zero, List.set_cons_succ])
            refine wpAnyH_ready (rs := [16]) (by kernel_rfl) (by simp) ?_
            refine AllReadyH.cons (o := { dst := some 44, op := .buildSlice 30 1 #[(0, .tmp 43)], type := _, pos := _, after := _, guard := none }) rfl (fun K hK => ?_) AllReadyH.nil
            go_simp
            have HM2 : Hid _ := HM.out.next ((Below.refl V.heap.size V).alloc (Nat.le_refl _) (.cells #[.string t1, .string t2, .int .i64 ((z) % 1048577), .int .i64 ((z) % ((fl : Int) + 1) - 1)] 46))
            have hS2 := HM2.out.cells.1
            have HXC : Hid (∀ i u, [.string t1, .string t2, .int .i64 ((z) % 1048577), .int .i64 ((z) % ((fl : Int) + 1) - 1)][i]? = some u → (V.alloc (.cells #[.string t1, .string t2, .int .i64 ((z) % 1048577), .int .i64 ((z) % ((fl : Int) + 1) - 1)] 46)).cell? ((⟨V.heap.size, 0, none⟩ : Addr).add i) = some u) := fun i u h => cells_new V #[.string t1, .string t2, .int .i64 ((z) % 1048577), .int .i64 ((z) % ((fl : Int) + 1) - 1)] 46 i u (by simpa using h)
            refine hK.out _ _ hS2 (fun _ => ?_)
            clear hK K hS HM
            (try simp only [Act.put, List.setIfInBounds_toArray, List.set_cons_zero, List.set_cons_succ])
            revert hS2 HM2 HXC
            generalize V.alloc (.cells #[.string t1, .string t2, .int .i64 ((z) % 1048577), .int .i64 ((z) % ((fl : Int) + 1) - 1)] 46) = V2
            generalize V.heap.size = h
            intro HM hS HXC
            revert hS HM HXC
            generalize V2 = V
            intro HM hS HXC
            refine wpAnyH_ready (rs := [17]) (by kernel_rfl) (by simp) ?_
            refine AllReadyH.cons (o := { dst := some 45, op := .call { callee := .builtin .append, args := #[.tmp 29, .tmp 44], argTypes := #[30, 30] }, type := _, pos := _, after := _, guard := none }) rfl (fun K hK => ?_) AllReadyH.nil
            refine step_append_own rfl (.tmp 29) (.tmp 44) 30 rfl w.heap.size 46 i0 (.agg #[.string { data := #[] }, .string { data := #[] }, .int .i64 0, .int .i64 0]) 4 48 Tryd.underlying30 hi hz0 hz1 hz2 rfl (by decide) vo O.length (obsC O) (by simp [Act.eval]) HM.out.ho ⟨h, 0, none⟩ 1 1 [.string t1, .string t2, .int .i64 ((z) % 1048577), .int .i64 ((z) % ((fl : Int) + 1) - 1)] (by simp [Act.eval]) rfl HXC.out (h1c t1 t2) (by unfold maxLen; omega) (by omega) HM.out.be.size ?_
            intro v' w' hown' hgrow'
            obtain ⟨a9, c9, rfl⟩ := owns_form hown'
            obtain ⟨⟨q0, q1, hS2⟩, HM2'⟩ := HM.out.appO ⟨t1, t2, (z) % 1048577, (z) % ((fl : Int) + 1) - 1⟩ hgrow' hown'
            have HM2 : Hid _ := HM2'
            refine hK.out _ _ hS2 (fun _ => ?_)
            clear hK K hS HM HXC hown' hgrow' HM2'
            (try simp only [Act.put, List.setIfInBounds_toArray, List.set_cons_zero, List.set_cons_succ])
            have hS := hS2
            clear hS2
            refine wpAnyH_take (i := 18) (oi := { dst := some 46, op := .fieldAddr 32 (.tmp 5) 0, type := _, pos := _, after := _, guard := none }) (v := .pointer (some ⟨(w.heap.size + 2), 0, none⟩)) rfl (by kernel_rfl) (by kernel_rfl) (by kernel_rfl) (fun _ _ _ h => h) (Or.inl ⟨by rfl, by intro x _; go_simp⟩) hS ?_
            (try simp only [Act.put, List.setIfInBounds_toArray, List.set_cons_zero, List.set_cons_succ])
            refine wpAnyH_ready (rs := [19]) (by kernel_rfl) (by simp) ?_
            refine AllReadyH.cons (o := { dst := none, op := .store 30 (.tmp 46) (.tmp 45), type := _, pos := _, after := _, guard := none }) rfl (fun K hK => ?_) AllReadyH.nil
            go_simp
            have hS3 := HM2.out.cells.1
            refine hK.out _ _ hS3 (fun _ => ?_)
            clear hK K hS q0 q1
            (try simp only [Act.put])
            refine wpAnyH_done (by kernel_rfl) ?_ _
            go_wp2_with fail
            go_meet
            exact ⟨_, _, _, rfl, ob_made sl fl dr mf ls pg _ t1 t2 ht1 ht2, HM2.out⟩
          · go_simp
            refine (sixteen_any _ _).mono ?_
            rintro e W2 ⟨t1, ht1, rfl, hb2⟩
            have HM2 : Hid _ := HM.out.next hb2
            have hS2 := HM2.out.cells.1
            refine hK.out _ _ hS2 (fun _ => ?_)
            clear hK K hS HM hb2
            (try simp only [Act.put, List.setIfInBounds_toArray, List.set_cons_zero, List.set_cons_succ])
            revert hS2 HM2
            generalize W2 = V
            intro HM hS
            refine wpAnyH_ready (rs := [1, 6]) (by kernel_rfl) (by simp) ?_
            refine AllReadyH.cons (o := { dst := some 29, op := .load 30 (.tmp 28), type := _, pos := _, after := _, guard := none }) rfl (fun K hK => ?_) (AllReadyH.cons (o := { dst := some 34, op := .call { callee := .value (.func 18), args := #[.tmp 33], argTypes := #[3] }, type := _, pos := _, after := _, guard := none }) rfl (fun K hK => ?_) AllReadyH.nil)
            · have c0 := HM.out.cells.2.1
              go_simp
              refine hK.out _ _ hS (fun _ => ?_)
              clear hK K c0
              (try simp only [Act.put, List.setIfInBounds_toArray, List.set_cons_zero, List.set_cons_succ])
              refine wpAnyH_ready (rs := [6]) (by kernel_rfl) (by simp) ?_
              refine AllReadyH.cons (o := { dst := some 34, op := .call { callee := .value (.func 18), args := #[.tmp 33], argTypes := #[3] }, type := _, pos := _, after := _, guard := none }) rfl (fun K hK => ?_) AllReadyH.nil
              go_simp
              refine (sixteen_any _ _).mono ?_
              rintro e W2 ⟨t2, ht2, rfl, hb2⟩
              have HM2 : Hid _ := HM.out.next hb2
              have hS2 := HM2.out.cells.1
              refine hK.out _ _ hS2 (fun _ => ?_)
              clear hK K hS HM hb2
              (try simp only [Act.put, List.setIfInBounds_toArray, List.set_cons_zero, List.set_cons_succ])
              revert hS2 HM2
              generalize W2 = V
              intro HM hS
              refine wpAnyH_ready (rs := [8]) (by kernel_rfl) (by simp) ?_
              refine AllReadyH.cons (o := { dst := some 36, op := .call { callee := .value (.func 16), args := #[.tmp 35, .const (.int .i64 1048577)], argTypes := #[3, 3] }, type := _, pos := _, after := _, guard := none }) rfl (fun K hK => ?_) AllReadyH.nil
              go_simp
              refine (modI_any _ _ (by omega) _).mono ?_
              rintro e W2 ⟨rfl, hw2⟩
              rw [hw2]
              clear hw2 W2
              refine hK.out _ _ hS (fun _ => ?_)
              clear hK K
              (try simp only [Act.put, List.setIfInBounds_toArray, List.set_cons_zero, List.set_cons_succ])
              refine wpAnyH_ready (rs := [13]) (by kernel_rfl) (by simp) ?_
              refine AllReadyH.cons (o := { dst := some 41, op := .call { callee := .value (.func 16), args := #[.tmp 37, .tmp 40], argTypes := #[3, 3] }, type := _, pos := _, after := _, guard := none }) rfl (fun K hK => ?_) AllReadyH.nil
              go_simp
              refine (modI_any _ _ (by omega) _).mono ?_
              rintro e W2 ⟨rfl, hw2⟩
              rw [hw2]
              clear hw2 W2
              refine hK.out _ _ hS (fun _ => ?_)
              clear hK K
              (try simp only [Act.put, List.setIfInBounds_toArray, List.set_cons_zero, List.set_cons_succ])
              refine wpAnyH_take (i := 14) (oi := { dst := some 42, op := .binOp .sub 3 (.tmp 41) (.const (.int .i64 1)) 3, type := _, pos := _, after := _, guard := none }) (v := .int .i64 ((z) % ((fl : Int) + 1) - 1)) rfl (by kernel_rfl) (by kernel_rfl) (by kernel_rfl) (fun _ _ _ h => h) (Or.inl ⟨by rfl, by intro x _; go_simp; rw [IntKind.wrap_i64]; omega⟩) hS ?_
              (try simp only [Act.put, List.setIfInBounds_toArray, List.set_cons_zero, List.set_cons_succ])
              refine wpAnyH_take (i := 15) (oi := { dst := some 43, op := .build 46 #[(0, .tmp 31), (1, .tmp 34), (2, .tmp 36), (3, .tmp 42)], type := _, pos := _, after := _, guard := none }) (v := .agg #[.string t1, .string t2, .int .i64 ((z) % 1048577), .int .i64 ((z) % ((fl : Int) + 1) - 1)]) rfl (by kernel_rfl) (by kernel_rfl) (by kernel_rfl) (fun _ _ _ h => h) (Or.inl ⟨by rfl, by intro x _; go_simp⟩) hS ?_
              (try simp only [Act.put, List.setIfInBounds_toArray, List.set_cons_zero, List.set_cons_succ])
              refine wpAnyH_ready (rs := [16]) (by kernel_rfl) (by simp) ?_
              refine AllReadyH.cons (o := { dst := some 44, op := .buildSlice 30 1 #[(0, .tmp 43)], type := _, pos := _, after := _, guard := none }) rfl (fun K hK => ?_) AllReadyH.nil
              go_simp
              have HM2 : Hid _ := HM.out.next ((Below.refl V.heap.size V).alloc (Nat.le_refl _) (.cells #[.string t1, .string t2, .int .i64 ((z) % 1048577), .int .i64 ((z) % ((fl : Int) + 1) - 1)] 46))
              have hS2 := HM2.out.cells.1
              have HXC : Hid (∀ i u, [.string t1, .string t2, .int .i64 ((z) % 1048577), .int .i64 ((z) % ((fl : Int) + 1) - 1)][i]? = some u → (V.alloc (.cells #[.string t1, .string t2, .int .i64 ((z) % 1048577), .int .i64 ((z) % ((fl : Int) + 1) - 1)] 46)).cell? ((⟨V.heap.size, 0, none⟩ : Addr).add i) = some u) := fun i u h => cells_new V #[.string t1, .string t2, .int .i64 ((z) % 1048577), .int .i64 ((z) % ((fl : Int) + 1) - 1)] 46 i u (by simpa using h)
              refine hK.out _ _ hS2 (fun _ => ?_)
              clear hK K hS HM
              (try simp only [Act.put, List.setIfInBounds_toArray, List.set_cons_zero, List.set_cons_succ])
              revert hS2 HM2 HXC
              generalize V.alloc (.cells #[.string t1, .string t2, .int .i64 ((z) % 1048577), .int .i64 ((z) % ((fl : Int) + 1) - 1)] 46) = V2
              generalize V.heap.size = h
              intro HM hS HXC
              revert hS HM HXC
              generalize V2 = V
              intro HM hS HXC
              refine wpAnyH_ready (rs := [17]) (by kernel_rfl) (by simp) ?_
              refine AllReadyH.cons (o := { dst := some 45, op := .call { callee := .builtin .append, args := #[.tmp 29, .tmp 44], argTypes := #[30, 30] }, type := _, pos := _, after := _, guard := none }) rfl (fun K hK => ?_) AllReadyH.nil
              refine step_append_own rfl (.tmp 29) (.tmp 44) 30 rfl w.heap.size 46 i0 (.agg #[.string { data := #[] }, .string { data := #[] }, .int .i64 0, .int .i64 0]) 4 48 Tryd.underlying30 hi hz0 hz1 hz2 rfl (by decide) vo O.length (obsC O) (by simp [Act.eval]) HM.out.ho ⟨h, 0, none⟩ 1 1 [.string t1, .string t2, .int .i64 ((z) % 1048577), .int .i64 ((z) % ((fl : Int) + 1) - 1)] (by simp [Act.eval]) rfl HXC.out (h1c t1 t2) (by unfold maxLen; omega) (by omega) HM.out.be.size ?_
              intro v' w' hown' hgrow'
              obtain ⟨a9, c9, rfl⟩ := owns_form hown'
              obtain ⟨⟨q0, q1, hS2⟩, HM2'⟩ := HM.out.appO ⟨t1, t2, (z) % 1048577, (z) % ((fl : Int) + 1) - 1⟩ hgrow' hown'
              have HM2 : Hid _ := HM2'
              refine hK.out _ _ hS2 (fun _ => ?_)
              clear hK K hS HM HXC hown' hgrow' HM2'
              (try simp only [Act.put, List.setIfInBounds_toArray, List.set_cons_zero, List.set_cons_succ])
              have hS := hS2
              clear hS2
              refine wpAnyH_take (i := 18) (oi := { dst := some 46, op := .fieldAddr 32 (.tmp 5) 0, type := _, pos := _, after := _, guard := none }) (v := .pointer (some ⟨(w.heap.size + 2), 0, none⟩)) rfl (by kernel_rfl) (by kernel_rfl) (by kernel_rfl) (fun _ _ _ h => h) (Or.inl ⟨by rfl, by intro x _; go_simp⟩) hS ?_
              (try simp only [Act.put, List.setIfInBounds_toArray, List.set_cons_zero, List.set_cons_succ])
              refine wpAnyH_ready (rs := [19]) (by kernel_rfl) (by simp) ?_
              refine AllReadyH.cons (o := { dst := none, op := .store 30 (.tmp 46) (.tmp 45), type := _, pos := _, after := _, guard := none }) rfl (fun K hK => ?_) AllReadyH.nil
              go_simp
              have hS3 := HM2.out.cells.1
              refine hK.out _ _ hS3 (fun _ => ?_)
              clear hK K hS q0 q1
              (try simp only [Act.put])
              refine wpAnyH_done (by kernel_rfl) ?_ _
              go_wp2_with fail
              go_meet
              exact ⟨_, _, _, rfl, ob_made sl fl dr mf ls pg _ t1 t2 ht1 ht2, HM2.out⟩
            · go_simp
              refine (sixteen_any _ _).mono ?_
              rintro e W2 ⟨t2, ht2, rfl, hb2⟩
              have HM2 : Hid _ := HM.out.next hb2
              have hS2 := HM2.out.cells.1
              refine hK.out _ _ hS2 (fun _ => ?_)
              clear hK K hS HM hb2
              (try simp only [Act.put, List.setIfInBounds_toArray, List.set_cons_zero, List.set_cons_succ])
              revert hS2 HM2
              generalize W2 = V
              intro HM hS
              refine wpAnyH_ready (rs := [1, 8]) (by kernel_rfl) (by simp) ?_
              refine AllReadyH.cons (o := { dst := some 29, op := .load 30 (.tmp 28), type := _, pos := _, after := _, guard := none }) rfl (fun K hK => ?_) (AllReadyH.cons (o := { dst := some 36, op := .call { callee := .value (.func 16), args := #[.tmp 35, .const (.int .i64 1048577)], argTypes := #[3, 3] }, type := _, pos := _, after := _, guard := none }) rfl (fun K hK => ?_) AllReadyH.nil)
              · have c0 := HM.out.cells.2.1
                go_simp
                refine hK.out _ _ hS (fun _ => ?_)
                clear hK K c0
                (try simp only [Act.put, List.setIfInBounds_toArray, List.set_cons_zero, List.set_cons_succ])
                refine wpAnyH_ready (rs := [8]) (by kernel_rfl) (by simp) ?_
                refine AllReadyH.cons (o := { dst := some 36, op := .call { callee := .value (.func 16), args := #[.tmp 35, .const (.int .i64 1048577)], argTypes := #[3, 3] }, type := _, pos := _, after := _, guard := none }) rfl (fun K hK => ?_) AllReadyH.nil
                go_simp
                refine (modI_any _ _ (by omega) _).mono ?_
                rintro e W2 ⟨rfl, hw2⟩
                rw [hw2]
                clear hw2 W2
                refine hK.out _ _ hS (fun _ => ?_)
                clear hK K
                (try simp only [Act.put, List.setIfInBounds_toArray, List.set_cons_zero, List.set_cons_succ])
                refine wpAnyH_ready (rs := [13]) (by kernel_rfl) (by simp) ?_
                refine AllReadyH.cons (o := { dst := some 41, op := .call { callee := .value (.func 16), args := #[.tmp 37, .tmp 40], argTypes := #[3, 3] }, type := _, pos := _, after := _, guard := none }) rfl (fun K hK => ?_) AllReadyH.nil
                go_simp
                refine (modI_any _ _ (by omega) _).mono ?_
                rintro e W2 ⟨rfl, hw2⟩
                rw [hw2]
                clear hw2 W2
                refine hK.out _ _ hS (fun _ => ?_)
                clear hK K
                (try simp only [Act.put, List.setIfInBounds_toArray, List.set_cons_zero, List.set_cons_succ])
                refine wpAnyH_take (i := 14) (oi := { dst := some 42, op := .binOp .sub 3 (.tmp 41) (.const (.int .i64 1)) 3, type := _, pos := _, after := _, guard := none }) (v := .int .i64 ((z) % ((fl : Int) + 1) - 1)) rfl (by kernel_rfl) (by kernel_rfl) (by kernel_rfl) (fun _ _ _ h => h) (Or.inl ⟨by rfl, by intro x _; go_simp; rw [IntKind.wrap_i64]; omega⟩) hS ?_
                (try simp only [Act.put, List.setIfInBounds_toArray, List.set_cons_zero, List.set_cons_succ])
                refine wpAnyH_take (i := 15) (oi := { dst := some 43, op := .build 46 #[(0, .tmp 31), (1, .tmp 34), (2, .tmp 36), (3, .tmp 42)], type := _, pos := _, after := _, guard := none }) (v := .agg #[.string t1, .string t2, .int .i64 ((z) % 1048577), .int .i64 ((z) % ((fl : Int) + 1) - 1)]) rfl (by kernel_rfl) (by kernel_rfl) (by kernel_rfl) (fun _ _ _ h => h) (Or.inl ⟨by rfl, by intro x _; go_simp⟩) hS ?_
                (try simp only [Act.put, List.setIfInBounds_toArray, List.set_cons_zero, List.set_cons_succ])
                refine wpAnyH_ready (rs := [16]) (by kernel_rfl) (by simp) ?_
                refine AllReadyH.cons (o := { dst := some 44, op := .buildSlice 30 1 #[(0, .tmp 43)], type := _, pos := _, after := _, guard := none }) rfl (fun K hK => ?_) AllReadyH.nil
                go_simp
                have HM2 : Hid _ := HM.out.next ((Below.refl V.heap.size V).alloc (Nat.le_refl _) (.cells #[.string t1, .string t2, .int .i64 ((z) % 1048577), .int .i64 ((z) % ((fl : Int) + 1) - 1)] 46))
                have hS2 := HM2.out.cells.1
                have HXC : Hid (∀ i u, [.string t1, .string t2, .int .i64 ((z) % 1048577), .int .i64 ((z) % ((fl : Int) + 1) - 1)][i]? = some u → (V.alloc (.cells #[.string t1, .string t2, .int .i64 ((z) % 1048577), .int .i64 ((z) % ((fl : Int) + 1) - 1)] 46)).cell? ((⟨V.heap.size, 0, none⟩ : Addr).add i) = some u) := fun i u h => cells_new V #[.string t1, .string t2, .int .i64 ((z) % 1048577), .int .i64 ((z) % ((fl : Int) + 1) - 1)] 46 i u (by simpa using h)
                refine hK.out _ _ hS2 (fun _ => ?_)
                clear hK K hS HM
                (try simp only [Act.put, List.setIfInBounds_toArray, List.set_cons_zero, List.set_cons_succ])
                revert hS2 HM2 HXC
                generalize V.alloc (.cells #[.string t1, .string t2, .int .i64 ((z) % 1048577), .int .i64 ((z) % ((fl : Int) + 1) - 1)] 46) = V2
                generalize V.heap.size = h
                intro HM hS HXC
                revert hS HM HXC
                generalize V2 = V
                intro HM hS HXC
                refine wpAnyH_ready (rs := [17]) (by kernel_rfl) (by simp) ?_
                refine AllReadyH.cons (o := { dst := some 45, op := .call { callee := .builtin .append, args := #[.tmp 29, .tmp 44], argTypes := #[30, 30] }, type := _, pos := _, after := _, guard := none }) rfl (fun K hK => ?_) AllReadyH.nil
                refine step_append_own rfl (.tmp 29) (.tmp 44) 30 rfl w.heap.size 46 i0 (.agg #[.string { data := #[] }, .string { data := #[] }, .int .i64 0, .int .i64 0]) 4 48 Tryd.underlying30 hi hz0 hz1 hz2 rfl (by decide) vo O.length (obsC O) (by simp [Act.eval]) HM.out.ho ⟨h, 0, none⟩ 1 1 [.string t1, .string t2, .int .i64 ((z) % 1048577), .int .i64 ((z) % ((fl : Int) + 1) - 1)] (by simp [Act.eval]) rfl HXC.out (h1c t1 t2) (by unfold maxLen; omega) (by omega) HM.out.be.size ?_
                intro v' w' hown' hgrow'
                obtain ⟨a9, c9, rfl⟩ := owns_form hown'
                obtain ⟨⟨q0, q1, hS2⟩, HM2'⟩ := HM.out.appO ⟨t1, t2, (z) % 1048577, (z) % ((fl : Int) + 1) - 1⟩ hgrow' hown'
                have HM2 : Hid _ := HM2'
                refine hK.out _ _ hS2 (fun _ => ?_)
                clear hK K hS HM HXC hown' hgrow' HM2'
                (try simp only [Act.put, List.setIfInBounds_toArray, List.set_cons_zero, List.set_cons_succ])
                have hS := hS2
                clear hS2
                refine wpAnyH_take (i := 18) (oi := { dst := some 46, op := .fieldAddr 32 (.tmp 5) 0, type := _, pos := _, after := _, guard := none }) (v := .pointer (some ⟨(w.heap.size + 2), 0, none⟩)) rfl (by kernel_rfl) (by kernel_rfl) (by kernel_rfl) (fun _ _ _ h => h) (Or.inl ⟨by rfl, by intro x _; go_simp⟩) hS ?_
                (try simp only [Act.put, List.setIfInBounds_toArray, List.set_cons_zero, List.set_cons_succ])
                refine wpAnyH_ready (rs := [19]) (by kernel_rfl) (by simp) ?_
                refine AllReadyH.cons (o := { dst := none, op := .store 30 (.tmp 46) (.tmp 45), type := _, pos := _, after := _, guard := none }) rfl (fun K hK => ?_) AllReadyH.nil
                go_simp
                have hS3 := HM2.out.cells.1
                refine hK.out _ _ hS3 (fun _ => ?_)
                clear hK K hS q0 q1
                (try simp only [Act.put])
                refine wpAnyH_done (by kernel_rfl) ?_ _
                go_wp2_with fail
                go_meet
                exact ⟨_, _, _, rfl, ob_made sl fl dr mf ls pg _ t1 t2 ht1 ht2, HM2.out⟩
              · go_simp
                refine (modI_any _ _ (by omega) _).mono ?_
                rintro e W2 ⟨rfl, hw2⟩
                rw [hw2]
                clear hw2 W2
                refine hK.out _ _ hS (fun _ => ?_)
                clear hK K
                (try simp only [Act.put, List.setIfInBounds_toArray, List.set_cons_zero, List.set_cons_succ])
                refine wpAnyH_ready (rs := [1, 13]) (by kernel_rfl) (by simp) ?_
                refine AllReadyH.cons (o := { dst := some 29, op := .load 30 (.tmp 28), type := _, pos := _, after := _, guard := none }) rfl (fun K hK => ?_) (AllReadyH.cons (o := { dst := some 41, op := .call { callee := .value (.func 16), args := #[.tmp 37, .tmp 40], argTypes := #[3, 3] }, type := _, pos := _, after := _, guard := none }) rfl (fun K hK => ?_) AllReadyH.nil)
                · have c0 := HM.out.cells.2.1
                  go_simp
                  refine hK.out _ _ hS (fun _ => ?_)
                  clear hK K c0
                  (try simp only [Act.put, List.setIfInBounds_toArray, List.set_cons_zero, List.set_cons_succ])
                  refine wpAnyH_ready (rs := [13]) (by kernel_rfl) (by simp) ?_
                  refine AllReadyH.cons (o := { dst := some 41, op := .call { callee := .value (.func 16), args := #[.tmp 37, .tmp 40], argTypes := #[3, 3] }, type := _, pos := _, after := _, guard := none }) rfl (fun K hK => ?_) AllReadyH.nil
                  go_simp
                  refine (modI_any _ _ (by omega) _).mono ?_
                  rintro e W2 ⟨rfl, hw2⟩
                  rw [hw2]
                  clear hw2 W2
                  refine hK.out _ _ hS (fun _ => ?_)
                  clear hK K
                  (try simp only [Act.put, List.setIfInBounds_toArray, List.set_cons_zero, List.set_cons_succ])
                  refine wpAnyH_take (i := 14) (oi := { dst := some 42, op := .binOp .sub 3 (.tmp 41) (.const (.int .i64 1)) 3, type := _, pos := _, after := _, guard := none }) (v := .int .i64 ((z) % ((fl : Int) + 1) - 1)) rfl (by kernel_rfl) (by kernel_rfl) (by kernel_rfl) (fun _ _ _ h => h) (Or.inl ⟨by rfl, by intro x _; go_simp; rw [IntKind.wrap_i64]; omega⟩) hS ?_
                  (try simp only [Act.put, List.setIfInBounds_toArray, List.set_cons_zero, List.set_cons_succ])
                  refine wpAnyH_take (i := 15) (oi := { dst := some 43, op := .build 46 #[(0, .tmp 31), (1, .tmp 34), (2, .tmp 36), (3, .tmp 42)], type := _, pos := _, after := _, guard := none }) (v := .agg #[.string t1, .string t2, .int .i64 ((z) % 1048577), .int .i64 ((z) % ((fl : Int) + 1) - 1)]) rfl (by kernel_rfl) (by kernel_rfl) (by kernel_rfl) (fun _ _ _ h => h) (Or.inl ⟨by rfl, by intro x _; go_simp⟩) hS ?_
                  (try simp only [Act.put, List.setIfInBounds_toArray, List.set_cons_zero, List.set_cons_succ])
                  refine wpAnyH_ready (rs := [16]) (by kernel_rfl) (by simp) ?_
                  refine AllReadyH.cons (o := { dst := some 44, op := .buildSlice 30 1 #[(0, .tmp 43)], type := _, pos := _, after := _, guard := none }) rfl (fun K hK => ?_) AllReadyH.nil
                  go_simp
                  have HM2 : Hid _ := HM.out.next ((Below.refl V.heap.size V).alloc (Nat.le_refl _) (.cells #[.string t1, .string t2, .int .i64 ((z) % 1048577), .int .i64 ((z) % ((fl : Int) + 1) - 1)] 46))
                  have hS2 := HM2.out.cells.1
                  have HXC : Hid (∀ i u, [.string t1, .string t2, .int .i64 ((z) % 1048577), .int .i64 ((z) % ((fl : Int) + 1) - 1)][i]? = some u → (V.alloc (.cells #[.string t1, .string t2, .int .i64 ((z) % 1048577), .int .i64 ((z) % ((fl : Int) + 1) - 1)] 46)).cell? ((⟨V.heap.size, 0, none⟩ : Addr).add i) = some u) := fun i u h => cells_new V #[.string t1, .string t2, .int .i64 ((z) % 1048577), .int .i64 ((z) % ((fl : Int) + 1) - 1)] 46 i u (by simpa using h)
                  refine hK.out _ _ hS2 (fun _ => ?_)
                  clear hK K hS HM
                  (try simp only [Act.put, List.setIfInBounds_toArray, List.set_cons_zero, List.set_cons_succ])
                  revert hS2 HM2 HXC
                  generalize V.alloc (.cells #[.string t1, .string t2, .int .i64 ((z) % 1048577), .int .i64 ((z) % ((fl : Int) + 1) - 1)] 46) = V2
                  generalize V.heap.size = h
                  intro HM hS HXC
                  revert hS HM HXC
                  generalize V2 = V
                  intro HM hS HXC
                  refine wpAnyH_ready (rs := [17]) (by kernel_rfl) (by simp) ?_
                  refine AllReadyH.cons (o := { dst := some 45, op := .call { callee := .builtin .append, args := #[.tmp 29, .tmp 44], argTypes := #[30, 30] }, type := _, pos := _, after := _, guard := none }) rfl (fun K hK => ?_) AllReadyH.nil
                  refine step_append_own rfl (.tmp 29) (.tmp 44) 30 rfl w.heap.size 46 i0 (.agg #[.string { data := #[] }, .string { data := #[] }, .int .i64 0, .int .i64 0]) 4 48 Tryd.underlying30 hi hz0 hz1 hz2 rfl (by decide) vo O.length (obsC O) (by simp [Act.eval]) HM.out.ho ⟨h, 0, none⟩ 1 1 [.string t1, .string t2, .int .i64 ((z) % 1048577), .int .i64 ((z) % ((fl : Int) + 1) - 1)] (by simp [Act.eval]) rfl HXC.out (h1c t1 t2) (by unfold maxLen; omega) (by omega) HM.out.be.size ?_
                  intro v' w' hown' hgrow'
                  obtain ⟨a9, c9, rfl⟩ := owns_form hown'
                  obtain ⟨⟨q0, q1, hS2⟩, HM2'⟩ := HM.out.appO ⟨t1, t2, (z) % 1048577, (z) % ((fl : Int) + 1) - 1⟩ hgrow' hown'
                  have HM2 : Hid _ := HM2'
                  refine hK.out _ _ hS2 (fun _ => ?_)
                  clear hK K hS HM HXC hown' hgrow' HM2'
                  (try simp only [Act.put, List.setIfInBounds_toArray, List.set_cons_zero, List.set_cons_succ])
                  have hS := hS2
                  clear hS2
                  refine wpAnyH_take (i := 18) (oi := { dst := some 46, op := .fieldAddr 32 (.tmp 5) 0, type := _, pos := _, after := _, guard := none }) (v := .pointer (some ⟨(w.heap.size + 2), 0, none⟩)) rfl (by kernel_rfl) (by kernel_rfl) (by kernel_rfl) (fun _ _ _ h => h) (Or.inl ⟨by rfl, by intro x _; go_simp⟩) hS ?_
                  (try simp only [Act.put, List.setIfInBounds_toArray, List.set_cons_zero, List.set_cons_succ])
                  refine wpAnyH_ready (rs := [19]) (by kernel_rfl) (by simp) ?_
                  refine AllReadyH.cons (o := { dst := none, op := .store 30 (.tmp 46) (.tmp 45), type := _, pos := _, after := _, guard := none }) rfl (fun K hK => ?_) AllReadyH.nil
                  go_simp
                  have hS3 := HM2.out.cells.1
                  refine hK.out _ _ hS3 (fun _ => ?_)
                  clear hK K hS q0 q1
                  (try simp only [Act.put])
                  refine wpAnyH_done (by kernel_rfl) ?_ _
                  go_wp2_with fail
                  go_meet
                  exact ⟨_, _, _, rfl, ob_made sl fl dr mf ls pg _ t1 t2 ht1 ht2, HM2.out⟩
                · go_simp
                  refine (modI_any _ _ (by omega) _).mono ?_
                  rintro e W2 ⟨rfl, hw2⟩
                  rw [hw2]
                  clear hw2 W2
                  refine hK.out _ _ hS (fun _ => ?_)
                  clear hK K
                  (try simp only [Act.put, List.setIfInBounds_toArray, List.set_cons_zero, List.set_cons_succ])
                  refine wpAnyH_take (i := 14) (oi := { dst := some 42, op := .binOp .sub 3 (.tmp 41) (.const (.int .i64 1)) 3, type := _, pos := _, after := _, guard := none }) (v := .int .i64 ((z) % ((fl : Int) + 1) - 1)) rfl (by kernel_rfl) (by kernel_rfl) (by kernel_rfl) (fun _ _ _ h => h) (Or.inl ⟨by rfl, by intro x _; go_simp; rw [IntKind.wrap_i64]; omega⟩) hS ?_
                  (try simp only [Act.put, List.setIfInBounds_toArray, List.set_cons_zero, List.set_cons_succ])
                  refine wpAnyH_take (i := 15) (oi := { dst := some 43, op := .build 46 #[(0, .tmp 31), (1, .tmp 34), (2, .tmp 36), (3, .tmp 42)], type := _, pos := _, after := _, guard := none }) (v := .agg #[.string t1, .string t2, .int .i64 ((z) % 1048577), .int .i64 ((z) % ((fl : Int) + 1) - 1)]) rfl (by kernel_rfl) (by kernel_rfl) (by kernel_rfl) (fun _ _ _ h => h) (Or.inl ⟨by rfl, by intro x _; go_simp⟩) hS ?_
                  (try simp only [Act.put, List.setIfInBounds_toArray, List.set_cons_zero, List.set_cons_succ])
                  refine wpAnyH_ready (rs := [1, 16]) (by kernel_rfl) (by simp) ?_
                  refine AllReadyH.cons (o := { dst := some 29, op := .load 30 (.tmp 28), type := _, pos := _, after := _, guard := none }) rfl (fun K hK => ?_) (AllReadyH.cons (o := { dst := some 44, op := .buildSlice 30 1 #[(0, .tmp 43)], type := _, pos := _, after := _, guard := none }) rfl (fun K hK => ?_) AllReadyH.nil)
                  · have c0 := HM.out.cells.2.1
                    go_simp
                    refine hK.out _ _ hS (fun _ => ?_)
                    clear hK K c0
                    (try simp only [Act.put, List.setIfInBounds_toArray, List.set_cons_zero, List.set_cons_succ])
                    refine wpAnyH_ready (rs := [16]) (by kernel_rfl) (by simp) ?_
                    refine AllReadyH.cons (o := { dst := some 44, op := .buildSlice 30 1 #[(0, .tmp 43)], type := _, pos := _, after := _, guard := none }) rfl (fun K hK => ?_) AllReadyH.nil
                    go_simp
                    have HM2 : Hid _ := HM.out.next ((Below.refl V.heap.size V).alloc (Nat.le_refl _) (.cells #[.string t1, .string t2, .int .i64 ((z) % 1048577), .int .i64 ((z) % ((fl : Int) + 1) - 1)] 46))
                    have hS2 := HM2.out.cells.1
                    have HXC : Hid (∀ i u, [.string t1, .string t2, .int .i64 ((z) % 1048577), .int .i64 ((z) % ((fl : Int) + 1) - 1)][i]? = some u → (V.alloc (.cells #[.string t1, .string t2, .int .i64 ((z) % 1048577), .int .i64 ((z) % ((fl : Int) + 1) - 1)] 46)).cell? ((⟨V.heap.size, 0, none⟩ : Addr).add i) = some u) := fun i u h => cells_new V #[.string t1, .string t2, .int .i64 ((z) % 1048577), .int .i64 ((z) % ((fl : Int) + 1) - 1)] 46 i u (by simpa using h)
                    refine hK.out _ _ hS2 (fun _ => ?_)
                    clear hK K hS HM
                    (try simp only [Act.put, List.setIfInBounds_toArray, List.set_cons_zero, List.set_cons_succ])
                    revert hS2 HM2 HXC
                    generalize V.alloc (.cells #[.string t1, .string t2, .int .i64 ((z) % 1048577), .int .i64 ((z) % ((fl : Int) + 1) - 1)] 46) = V2
                    generalize V.heap.size = h
                    intro HM hS HXC
                    revert hS HM HXC
                    generalize V2 = V
                    intro HM hS HXC
                    refine wpAnyH_ready (rs := [17]) (by kernel_rfl) (by simp) ?_
                    refine AllReadyH.cons (o := { dst := some 45, op := .call { callee := .builtin .append, args := #[.tmp 29, .tmp 44], argTypes := #[30, 30] }, type := _, pos := _, after := _, guard := none }) rfl (fun K hK => ?_) AllReadyH.nil
                    refine step_append_own rfl (.tmp 29) (.tmp 44) 30 rfl w.heap.size 46 i0 (.agg #[.string { data := #[] }, .string { data := #[] }, .int .i64 0, .int .i64 0]) 4 48 Tryd.underlying30 hi hz0 hz1 hz2 rfl (by decide) vo O.length (obsC O) (by simp [Act.eval]) HM.out.ho ⟨h, 0, none⟩ 1 1 [.string t1, .string t2, .int .i64 ((z) % 1048577), .int .i64 ((z) % ((fl : Int) + 1) - 1)] (by simp [Act.eval]) rfl HXC.out (h1c t1 t2) (by unfold maxLen; omega) (by omega) HM.out.be.size ?_
                    intro v' w' hown' hgrow'
                    obtain ⟨a9, c9, rfl⟩ := owns_form hown'
                    obtain ⟨⟨q0, q1, hS2⟩, HM2'⟩ := HM.out.appO ⟨t1, t2, (z) % 1048577, (z) % ((fl : Int) + 1) - 1⟩ hgrow' hown'
                    have HM2 : Hid _ := HM2'
                    refine hK.out _ _ hS2 (fun _ => ?_)
                    clear hK K hS HM HXC hown' hgrow' HM2'
                    (try simp only [Act.put, List.setIfInBounds_toArray, List.set_cons_zero, List.set_cons_succ])
                    have hS := hS2
                    clear hS2
                    refine wpAnyH_take (i := 18) (oi := { dst := some 46, op := .fieldAddr 32 (.tmp 5) 0, type := _, pos := _, after := _, guard := none }) (v := .pointer (some ⟨(w.heap.size + 2), 0, none⟩)) rfl (by kernel_rfl) (by kernel_rfl) (by kernel_rfl) (fun _ _ _ h => h) (Or.inl ⟨by rfl, by intro x _; go_simp⟩) hS ?_
                    (try simp only [Act.put, List.setIfInBounds_toArray, List.set_cons_zero, List.set_cons_succ])
                    refine wpAnyH_ready (rs := [19]) (by kernel_rfl) (by simp) ?_
                    refine AllReadyH.cons (o := { dst := none, op := .store 30 (.tmp 46) (.tmp 45), type := _, pos := _, after := _, guard := none }) rfl (fun K hK => ?_) AllReadyH.nil
                    go_simp
                    have hS3 := HM2.out.cells.1
                    refine hK.out _ _ hS3 (fun _ => ?_)
                    clear hK K hS q0 q1
                    (try simp only [Act.put])
                    refine wpAnyH_done (by kernel_rfl) ?_ _
                    go_wp2_with fail
                    go_meet
                    exact ⟨_, _, _, rfl, ob_made sl fl dr mf ls pg _ t1 t2 ht1 ht2, HM2.out⟩
                  · go_simp
                    have HM2 : Hid _ := HM.out.next ((Below.refl V.heap.size V).alloc (Nat.le_refl _) (.cells #[.string t1, .string t2, .int .i64 ((z) % 1048577), .int .i64 ((z) % ((fl : Int) + 1) - 1)] 46))
                    have hS2 := HM2.out.cells.1
                    have HXC : Hid (∀ i u, [.string t1, .string t2, .int .i64 ((z) % 1048577), .int .i64 ((z) % ((fl : Int) + 1) - 1)][i]? = some u → (V.alloc (.cells #[.string t1, .string t2, .int .i64 ((z) % 1048577), .int .i64 ((z) % ((fl : Int) + 1) - 1)] 46)).cell? ((⟨V.heap.size, 0, none⟩ : Addr).add i) = some u) := fun i u h => cells_new V #[.string t1, .string t2, .int .i64 ((z) % 1048577), .int .i64 ((z) % ((fl : Int) + 1) - 1)] 46 i u (by simpa using h)
                    refine hK.out _ _ hS2 (fun _ => ?_)
                    clear hK K hS HM
                    (try simp only [Act.put, List.setIfInBounds_toArray, List.set_cons_zero, List.set_cons_succ])
                    revert hS2 HM2 HXC
                    generalize V.alloc (.cells #[.string t1, .string t2, .int .i64 ((z) % 1048577), .int .i64 ((z) % ((fl : Int) + 1) - 1)] 46) = V2
                    generalize V.heap.size = h
                    intro HM hS HXC
                    revert hS HM HXC
                    generalize V2 = V
                    intro HM hS HXC
                    refine wpAnyH_ready (rs := [1]) (by kernel_rfl) (by simp) ?_
                    refine AllReadyH.cons (o := { dst := some 29, op := .load 30 (.tmp 28), type := _, pos := _, after := _, guard := none }) rfl (fun K hK => ?_) AllReadyH.nil
                    have c0 := HM.out.cells.2.1
                    go_simp
                    refine hK.out _ _ hS (fun _ => ?_)
                    clear hK K c0
                    (try simp only [Act.put, List.setIfInBounds_toArray, List.set_cons_zero, List.set_cons_succ])
                    refine wpAnyH_ready (rs := [17]) (by kernel_rfl) (by simp) ?_
                    refine AllReadyH.cons (o := { dst := some 45, op := .call { callee := .builtin .append, args := #[.tmp 29, .tmp 44], argTypes := #[30, 30] }, type := _, pos := _, after := _, guard := none }) rfl (fun K hK => ?_) AllReadyH.nil
                    refine step_append_own rfl (.tmp 29) (.tmp 44) 30 rfl w.heap.size 46 i0 (.agg #[.string { data := #[] }, .string { data := #[] }, .int .i64 0, .int .i64 0]) 4 48 Tryd.underlying30 hi hz0 hz1 hz2 rfl (by decide) vo O.length (obsC O) (by simp [Act.eval]) HM.out.ho ⟨h, 0, none⟩ 1 1 [.string t1, .string t2, .int .i64 ((z) % 1048577), .int .i64 ((z) % ((fl : Int) + 1) - 1)] (by simp [Act.eval]) rfl HXC.out (h1c t1 t2) (by unfold maxLen; omega) (by omega) HM.out.be.size ?_
                    intro v' w' hown' hgrow'
                    obtain ⟨a9, c9, rfl⟩ := owns_form hown'
                    obtain ⟨⟨q0, q1, hS2⟩, HM2'⟩ := HM.out.appO ⟨t1, t2, (z) % 1048577, (z) % ((fl : Int) + 1) - 1⟩ hgrow' hown'
                    have HM2 : Hid _ := HM2'
                    refine hK.out _ _ hS2 (fun _ => ?_)
                    clear hK K hS HM HXC hown' hgrow' HM2'
                    (try simp only [Act.put, List.setIfInBounds_toArray, List.set_cons_zero, List.set_cons_succ])
                    have hS := hS2
                    clear hS2
                    refine wpAnyH_take (i := 18) (oi := { dst := some 46, op := .fieldAddr 32 (.tmp 5) 0, type := _, pos := _, after := _, guard := none }) (v := .pointer (some ⟨(w.heap.size + 2), 0, none⟩)) rfl (by kernel_rfl) (by kernel_rfl) (by kernel_rfl) (fun _ _ _ h => h) (Or.inl ⟨by rfl, by intro x _; go_simp⟩) hS ?_
                    (try simp only [Act.put, List.setIfInBounds_toArray, List.set_cons_zero, List.set_cons_succ])
                    refine wpAnyH_ready (rs := [19]) (by kernel_rfl) (by simp) ?_
                    refine AllReadyH.cons (o := { dst := none, op := .store 30 (.tmp 46) (.tmp 45), type := _, pos := _, after := _, guard := none }) rfl (fun K hK => ?_) AllReadyH.nil
                    go_simp
                    have hS3 := HM2.out.cells.1
                    refine hK.out _ _ hS3 (fun _ => ?_)
                    clear hK K hS q0 q1
                    (try simp only [Act.put])
                    refine wpAnyH_done (by kernel_rfl) ?_ _
                    go_wp2_with fail
                    go_meet
                    exact ⟨_, _, _, rfl, ob_made sl fl dr mf ls pg _ t1 t2 ht1 ht2, HM2.out⟩
        case rest =>
        obtain ⟨y, o, v9, rfl, HO9, HM9⟩ := hcut
        clear y0 y1 y2 y3 y4 y5 c0 c1 f2 hlw hm1 hm2 h1c HMp
        have HFO : Hid (∀ x ∈ O ++ [o], ObF ⟨sl, fl, dr, mf, ls, pg⟩ x) := fun x hx => by
          rcases List.mem_append.1 hx with h | h
          · exact HF.out.1 x h
          · rw [List.mem_singleton.1 h]
            exact HO9.out
        by_cases h2 : y.tmod 2 = 0
        · go_upto_region 10 with fail
          have hy1 := Int.emod_nonneg y (b := (fl : Int) + (sl : Int)) (by omega)
          have hy2 := Int.emod_lt_of_pos y (b := (fl : Int) + (sl : Int)) (by omega)
          have HYQ : Hid (0 ≤ y % ((fl : Int) + (sl : Int)) ∧ y % ((fl : Int) + (sl : Int)) < ((fl + sl : Nat) : Int)) := by
            show _ ∧ _
            omega
          have h1q : ∀ u ∈ [Value.int .i64 (y % ((fl : Int) + (sl : Int)))], u.oneCell' = true := by simp [Value.oneCell']
          clear hy1 hy2
          have hS0 : (wc.drew.cell? ⟨w.heap.size, 0, none⟩ = some (.int .i64 (sl : Int)) ∧ wc.drew.cell? ⟨w.heap.size, 1, none⟩ = some (.int .i64 (fl : Int)) ∧ wc.drew.cell? ⟨w.heap.size, 2, none⟩ = some (.int .i64 (dr : Int)) ∧ wc.drew.cell? ⟨w.heap.size, 3, none⟩ = some (.int .i64 (mf : Int)) ∧ wc.drew.cell? ⟨w.heap.size, 4, none⟩ = some (.int .i64 (ls : Int)) ∧ wc.drew.cell? ⟨w.heap.size, 5, none⟩ = some (.int .i64 (pg : Int))) := HM9.out.cells.1
          refine wp_region_held_drew (S := fun W => W.cell? ⟨w.heap.size, 0, none⟩ = some (.int .i64 (sl : Int)) ∧ W.cell? ⟨w.heap.size, 1, none⟩ = some (.int .i64 (fl : Int)) ∧ W.cell? ⟨w.heap.size, 2, none⟩ = some (.int .i64 (dr : Int)) ∧ W.cell? ⟨w.heap.size, 3, none⟩ = some (.int .i64 (mf : Int)) ∧ W.cell? ⟨w.heap.size, 4, none⟩ = some (.int .i64 (ls : Int)) ∧ W.cell? ⟨w.heap.size, 5, none⟩ = some (.int .i64 (pg : Int))) (by kernel_rfl) hS0 ?_
          intro hS
          clear hS0
          have HM : Hid _ := HM9.out.next (Below.refl wc.heap.size wc).drew
          clear HM9
          revert hS HM
          generalize wc.drew = V
          intro hS HM
          refine wpAnyH_take (i := 0) (oi := { dst := some 50, op := .fieldAddr 32 (.tmp 5) 1, type := _, pos := _, after := _, guard := none }) (v := .pointer (some ⟨(w.heap.size + 2), 1, none⟩)) rfl (by kernel_rfl) (by kernel_rfl) (by kernel_rfl) (fun _ _ _ h => h) (Or.inl ⟨by rfl, by intro x _; go_simp⟩) hS ?_
          (try simp only [Act.put, List.setIfInBounds_toArray, List.set_cons_zero, List.set_cons_succ])
          refine wpAnyH_take (i := 2) (oi := { dst := some 52, op := .move (.tmp 7), type := _, pos := _, after := _, guard := none }) (v := .int .i64 y) rfl (by kernel_rfl) (by kernel_rfl) (by kernel_rfl) (fun _ _ _ h => h) (Or.inl ⟨by rfl, by intro x _; go_simp⟩) hS ?_
          (try simp only [Act.put, List.setIfInBounds_toArray, List.set_cons_zero, List.set_cons_succ])
          refine wpAnyH_take (i := 3) (oi := { dst := some 53, op := .fieldAddr 23 (.tmp 2) 1, type := _, pos := _, after := _, guard := none }) (v := .pointer (some ⟨w.heap.size, 1, none⟩)) rfl (by kernel_rfl) (by kernel_rfl) (by kernel_rfl) (fun _ _ _ h => h) (Or.inl ⟨by rfl, by intro x _; go_simp⟩) hS ?_
          (try simp only [Act.put, List.setIfInBounds_toArray, List.set_cons_zero, List.set_cons_succ])
          refine wpAnyH_take (i := 4) (oi := { dst := some 54, op := .load 3 (.tmp 53), type := _, pos := _, after := _, guard := none }) (v := .int .i64 (fl : Int)) rfl (by kernel_rfl) (by kernel_rfl) (by kernel_rfl) (fun _ _ _ h => h) (Or.inl ⟨by rfl, by intro x hx; have h1 := hx.2.1; go_simp⟩) hS ?_
          (try simp only [Act.put, List.setIfInBounds_toArray, List.set_cons_zero, List.set_cons_succ])
          refine wpAnyH_take (i := 5) (oi := { dst := some 55, op := .fieldAddr 23 (.tmp 2) 0, type := _, pos := _, after := _, guard := none }) (v := .pointer (some ⟨w.heap.size, 0, none⟩)) rfl (by kernel_rfl) (by kernel_rfl) (by kernel_rfl) (fun _ _ _ h => h) (Or.inl ⟨by rfl, by intro x _; go_simp⟩) hS ?_
          (try simp only [Act.put, List.setIfInBounds_toArray, List.set_cons_zero, List.set_cons_succ])
          refine wpAnyH_take (i := 6) (oi := { dst := some 56, op := .load 3 (.tmp 55), type := _, pos := _, after := _, guard := none }) (v := .int .i64 (sl : Int)) rfl (by kernel_rfl) (by kernel_rfl) (by kernel_rfl) (fun _ _ _ h => h) (Or.inl ⟨by rfl, by intro x hx; have h1 := hx.1; go_simp⟩) hS ?_
          (try simp only [Act.put, List.setIfInBounds_toArray, List.set_cons_zero, List.set_cons_succ])
          refine wpAnyH_take (i := 7) (oi := { dst := some 57, op := .binOp .add 3 (.tmp 54) (.tmp 56) 3, type := _, pos := _, after := _, guard := none }) (v := .int .i64 ((fl : Int) + (sl : Int))) rfl (by kernel_rfl) (by kernel_rfl) (by kernel_rfl) (fun _ _ _ h => h) (Or.inl ⟨by rfl, by intro x _; go_simp; rw [IntKind.wrap_i64]; omega⟩) hS ?_
          (try simp only [Act.put, List.setIfInBounds_toArray, List.set_cons_zero, List.set_cons_succ])
          refine wpAnyH_ready (rs := [1, 8]) (by kernel_rfl) (by simp) ?_
          refine AllReadyH.cons (o := { dst := some 51, op := .load 24 (.tmp 50), type := _, pos := _, after := _, guard := none }) rfl (fun K hK => ?_) (AllReadyH.cons (o := { dst := some 58, op := .call { callee := .value (.func 16), args := #[.tmp 52, .tmp 57], argTypes := #[3, 3] }, type := _, pos := _, after := _, guard := none }) rfl (fun K hK => ?_) AllReadyH.nil)
          · have c0 := HM.out.cells.2.2.1
            go_simp
            refine hK.out _ _ hS (fun _ => ?_)
            clear hK K c0
            (try simp only [Act.put, List.setIfInBounds_toArray, List.set_cons_zero, List.set_cons_succ])
            refine wpAnyH_ready (rs := [8]) (by kernel_rfl) (by simp) ?_
            refine AllReadyH.cons (o := { dst := some 58, op := .call { callee := .value (.func 16), args := #[.tmp 52, .tmp 57], argTypes := #[3, 3] }, type := _, pos := _, after := _, guard := none }) rfl (fun K hK => ?_) AllReadyH.nil
            go_simp
            refine (modI_any _ _ (by omega) _).mono ?_
            rintro e W2 ⟨rfl, hw2⟩
            rw [hw2]
            clear hw2 W2
            refine hK.out _ _ hS (fun _ => ?_)
            clear hK K
            (try simp only [Act.put, List.setIfInBounds_toArray, List.set_cons_zero, List.set_cons_succ])
            refine wpAnyH_ready (rs := [9]) (by kernel_rfl) (by simp) ?_
            refine AllReadyH.cons (o := { dst := some 59, op := .buildSlice 24 1 #[(0, .tmp 58)], type := _, pos := _, after := _, guard := none }) rfl (fun K hK => ?_) AllReadyH.nil
            go_simp
            have HM2 : Hid _ := HM.out.next ((Below.refl V.heap.size V).alloc (Nat.le_refl _) (.cells #[.int .i64 (y % ((fl : Int) + (sl : Int)))] 3))
            have hS2 := HM2.out.cells.1
            have HXC : Hid (∀ i u, [.int .i64 (y % ((fl : Int) + (sl : Int)))][i]? = some u → (V.alloc (.cells #[.int .i64 (y % ((fl : Int) + (sl : Int)))] 3)).cell? ((⟨V.heap.size, 0, none⟩ : Addr).add i) = some u) := fun i u h => cells_new V #[.int .i64 (y % ((fl : Int) + (sl : Int)))] 3 i u (by simpa using h)
            refine hK.out _ _ hS2 (fun _ => ?_)
            clear hK K hS HM
            (try simp only [Act.put, List.setIfInBounds_toArray, List.set_cons_zero, List.set_cons_succ])
            revert hS2 HM2 HXC
            generalize V.alloc (.cells #[.int .i64 (y % ((fl : Int) + (sl : Int)))] 3) = V2
            generalize V.heap.size = h
            intro HM hS HXC
            revert hS HM HXC
            generalize V2 = V
            intro HM hS HXC
            refine wpAnyH_ready (rs := [10]) (by kernel_rfl) (by simp) ?_
            refine AllReadyH.cons (o := { dst := some 60, op := .call { callee := .builtin .append, args := #[.tmp 51, .tmp 59], argTypes := #[24, 24] }, type := _, pos := _, after := _, guard := none }) rfl (fun K hK => ?_) AllReadyH.nil
            refine step_append_own rfl (.tmp 51) (.tmp 59) 24 rfl w.heap.size 3 j0 (.int .i64 0) 1 8 Tryd.underlying24 hj hj0 hj1 hj2 rfl (by decide) vq Q.length (zsC Q) (by simp [Act.eval]) HM.out.hq ⟨h, 0, none⟩ 1 1 [.int .i64 (y % ((fl : Int) + (sl : Int)))] (by simp [Act.eval]) rfl HXC.out h1q (by unfold maxLen; omega) (by omega) HM.out.be.size ?_
            intro v' w' hown' hgrow'
            obtain ⟨a9, c9, rfl⟩ := owns_form hown'
            obtain ⟨⟨q0, q1, hS2⟩, HM2'⟩ := HM.out.appQ (y % ((fl : Int) + (sl : Int))) hgrow' hown'
            have HM2 : Hid _ := HM2'
            refine hK.out _ _ hS2 (fun _ => ?_)
            clear hK K hS HM HXC hown' hgrow' HM2'
            (try simp only [Act.put, List.setIfInBounds_toArray, List.set_cons_zero, List.set_cons_succ])
            have hS := hS2
            clear hS2
            refine wpAnyH_take (i := 11) (oi := { dst := some 61, op := .fieldAddr 32 (.tmp 5) 1, type := _, pos := _, after := _, guard := none }) (v := .pointer (some ⟨(w.heap.size + 2), 1, none⟩)) rfl (by kernel_rfl) (by kernel_rfl) (by kernel_rfl) (fun _ _ _ h => h) (Or.inl ⟨by rfl, by intro x _; go_simp⟩) hS ?_
            (try simp only [Act.put, List.setIfInBounds_toArray, List.set_cons_zero, List.set_cons_succ])
            refine wpAnyH_ready (rs := [12]) (by kernel_rfl) (by simp) ?_
            refine AllReadyH.cons (o := { dst := none, op := .store 24 (.tmp 61) (.tmp 60), type := _, pos := _, after := _, guard := none }) rfl (fun K hK => ?_) AllReadyH.nil
            go_simp
            have hS3 := HM2.out.cells.1
            refine hK.out _ _ hS3 (fun _ => ?_)
            clear hK K hS q0 q1
            (try simp only [Act.put])
            refine wpAnyH_done (by kernel_rfl) ?_ _
            go_wp2
            go_roundg (gk - 1)
            case measure => omega
            case rel => exact ⟨k + 1, _, _, _, _, by omega, by show (O ++ [o]).length = _; rw [List.length_append, HOl.out]; rfl, by rw [List.length_append]; exact Nat.succ_le_succ hQl, rfl, ⟨HFO.out, fun x hx => by
                rcases List.mem_append.1 hx with h | h
                · exact HF.out.2 x h
                · rw [List.mem_singleton.1 h]
                  exact HYQ.out⟩, HM2.out⟩
          · go_simp
            refine (modI_any _ _ (by omega) _).mono ?_
            rintro e W2 ⟨rfl, hw2⟩
            rw [hw2]
            clear hw2 W2
            refine hK.out _ _ hS (fun _ => ?_)
            clear hK K
            (try simp only [Act.put, List.setIfInBounds_toArray, List.set_cons_zero, List.set_cons_succ])
            refine wpAnyH_ready (rs := [1, 9]) (by kernel_rfl) (by simp) ?_
            refine AllReadyH.cons (o := { dst := some 51, op := .load 24 (.tmp 50), type := _, pos := _, after := _, guard := none }) rfl (fun K hK => ?_) (AllReadyH.cons (o := { dst := some 59, op := .buildSlice 24 1 #[(0, .tmp 58)], type := _, pos := _, after := _, guard := none }) rfl (fun K hK => ?_) AllReadyH.nil)
            · have c0 := HM.out.cells.2.2.1
              go_simp
              refine hK.out _ _ hS (fun _ => ?_)
              clear hK K c0
              (try simp only [Act.put, List.setIfInBounds_toArray, List.set_cons_zero, List.set_cons_succ])
              refine wpAnyH_ready (rs := [9]) (by kernel_rfl) (by simp) ?_
              refine AllReadyH.cons (o := { dst := some 59, op := .buildSlice 24 1 #[(0, .tmp 58)], type := _, pos := _, after := _, guard := none }) rfl (fun K hK => ?_) AllReadyH.nil
              go_simp
              have HM2 : Hid _ := HM.out.next ((Below.refl V.heap.size V).alloc (Nat.le_refl _) (.cells #[.int .i64 (y % ((fl : Int) + (sl : Int)))] 3))
              have hS2 := HM2.out.cells.1
              have HXC : Hid (∀ i u, [.int .i64 (y % ((fl : Int) + (sl : Int)))][i]? = some u → (V.alloc (.cells #[.int .i64 (y % ((fl : Int) + (sl : Int)))] 3)).cell? ((⟨V.heap.size, 0, none⟩ : Addr).add i) = some u) := fun i u h => cells_new V #[.int .i64 (y % ((fl : Int) + (sl : Int)))] 3 i u (by simpa using h)
              refine hK.out _ _ hS2 (fun _ => ?_)
              clear hK K hS HM
              (try simp only [Act.put, List.setIfInBounds_toArray, List.set_cons_zero, List.set_cons_succ])
              revert hS2 HM2 HXC
              generalize V.alloc (.cells #[.int .i64 (y % ((fl : Int) + (sl : Int)))] 3) = V2
              generalize V.heap.size = h
              intro HM hS HXC
              revert hS HM HXC
              generalize V2 = V
              intro HM hS HXC
              refine wpAnyH_ready (rs := [10]) (by kernel_rfl) (by simp) ?_
              refine AllReadyH.cons (o := { dst := some 60, op := .call { callee := .builtin .append, args := #[.tmp 51, .tmp 59], argTypes := #[24, 24] }, type := _, pos := _, after := _, guard := none }) rfl (fun K hK => ?_) AllReadyH.nil
              refine step_append_own rfl (.tmp 51) (.tmp 59) 24 rfl w.heap.size 3 j0 (.int .i64 0) 1 8 Tryd.underlying24 hj hj0 hj1 hj2 rfl (by decide) vq Q.length (zsC Q) (by simp [Act.eval]) HM.out.hq ⟨h, 0, none⟩ 1 1 [.int .i64 (y % ((fl : Int) + (sl : Int)))] (by simp [Act.eval]) rfl HXC.out h1q (by unfold maxLen; omega) (by omega) HM.out.be.size ?_
              intro v' w' hown' hgrow'
              obtain ⟨a9, c9, rfl⟩ := owns_form hown'
              obtain ⟨⟨q0, q1, hS2⟩, HM2'⟩ := HM.out.appQ (y % ((fl : Int) + (sl : Int))) hgrow' hown'
              have HM2 : Hid _ := HM2'
              refine hK.out _ _ hS2 (fun _ => ?_)
              clear hK K hS HM HXC hown' hgrow' HM2'
              (try simp only [Act.put, List.setIfInBounds_toArray, List.set_cons_zero, List.set_cons_succ])
              have hS := hS2
              clear hS2
              refine wpAnyH_take (i := 11) (oi := { dst := some 61, op := .fieldAddr 32 (.tmp 5) 1, type := _, pos := _, after := _, guard := none }) (v := .pointer (some ⟨(w.heap.size + 2), 1, none⟩)) rfl (by kernel_rfl) (by kernel_rfl) (by kernel_rfl) (fun _ _ _ h => h) (Or.inl ⟨by rfl, by intro x _; go_simp⟩) hS ?_
              (try simp only [Act.put, List.setIfInBounds_toArray, List.set_cons_zero, List.set_cons_succ])
              refine wpAnyH_ready (rs := [12]) (by kernel_rfl) (by simp) ?_
              refine AllReadyH.cons (o := { dst := none, op := .store 24 (.tmp 61) (.tmp 60), type := _, pos := _, after := _, guard := none }) rfl (fun K hK => ?_) AllReadyH.nil
              go_simp
              have hS3 := HM2.out.cells.1
              refine hK.out _ _ hS3 (fun _ => ?_)
              clear hK K hS q0 q1
              (try simp only [Act.put])
              refine wpAnyH_done (by kernel_rfl) ?_ _
              go_wp2
              go_roundg (gk - 1)
              case measure => omega
              case rel => exact ⟨k + 1, _, _, _, _, by omega, by show (O ++ [o]).length = _; rw [List.length_append, HOl.out]; rfl, by rw [List.length_append]; exact Nat.succ_le_succ hQl, rfl, ⟨HFO.out, fun x hx => by
                  rcases List.mem_append.1 hx with h | h
                  · exact HF.out.2 x h
                  · rw [List.mem_singleton.1 h]
                    exact HYQ.out⟩, HM2.out⟩
            · go_simp
              have HM2 : Hid _ := HM.out.next ((Below.refl V.heap.size V).alloc (Nat.le_refl _) (.cells #[.int .i64 (y % ((fl : Int) + (sl : Int)))] 3))
              have hS2 := HM2.out.cells.1
              have HXC : Hid (∀ i u, [.int .i64 (y % ((fl : Int) + (sl : Int)))][i]? = some u → (V.alloc (.cells #[.int .i64 (y % ((fl : Int) + (sl : Int)))] 3)).cell? ((⟨V.heap.size, 0, none⟩ : Addr).add i) = some u) := fun i u h => cells_new V #[.int .i64 (y % ((fl : Int) + (sl : Int)))] 3 i u (by simpa using h)
              refine hK.out _ _ hS2 (fun _ => ?_)
              clear hK K hS HM
              (try simp only [Act.put, List.setIfInBounds_toArray, List.set_cons_zero, List.set_cons_succ])
              revert hS2 HM2 HXC
              generalize V.alloc (.cells #[.int .i64 (y % ((fl : Int) + (sl : Int)))] 3) = V2
              generalize V.heap.size = h
              intro HM hS HXC
              revert hS HM HXC
              generalize V2 = V
              intro HM hS HXC
              refine wpAnyH_ready (rs := [1]) (by kernel_rfl) (by simp) ?_
              refine AllReadyH.cons (o := { dst := some 51, op := .load 24 (.tmp 50), type := _, pos := _, after := _, guard := none }) rfl (fun K hK => ?_) AllReadyH.nil
              have c0 := HM.out.cells.2.2.1
              go_simp
              refine hK.out _ _ hS (fun _ => ?_)
              clear hK K c0
              (try simp only [Act.put, List.setIfInBounds_toArray, List.set_cons_zero, List.set_cons_succ])
              refine wpAnyH_ready (rs := [10]) (by kernel_rfl) (by simp) ?_
              refine AllReadyH.cons (o := { dst := some 60, op := .call { callee := .builtin .append, args := #[.tmp 51, .tmp 59], argTypes := #[24, 24] }, type := _, pos := _, after := _, guard := none }) rfl (fun K hK => ?_) AllReadyH.nil
              refine step_append_own rfl (.tmp 51) (.tmp 59) 24 rfl w.heap.size 3 j0 (.int .i64 0) 1 8 Tryd.underlying24 hj hj0 hj1 hj2 rfl (by decide) vq Q.length (zsC Q) (by simp [Act.eval]) HM.out.hq ⟨h, 0, none⟩ 1 1 [.int .i64 (y % ((fl : Int) + (sl : Int)))] (by simp [Act.eval]) rfl HXC.out h1q (by unfold maxLen; omega) (by omega) HM.out.be.size ?_
              intro v' w' hown' hgrow'
              obtain ⟨a9, c9, rfl⟩ := owns_form hown'
              obtain ⟨⟨q0, q1, hS2⟩, HM2'⟩ := HM.out.appQ (y % ((fl : Int) + (sl : Int))) hgrow' hown'
              have HM2 : Hid _ := HM2'
              refine hK.out _ _ hS2 (fun _ => ?_)
              clear hK K hS HM HXC hown' hgrow' HM2'
              (try simp only [Act.put, List.setIfInBounds_toArray, List.set_cons_zero, List.set_cons_succ])
              have hS := hS2
              clear hS2
              refine wpAnyH_take (i := 11) (oi := { dst := some 61, op := .fieldAddr 32 (.tmp 5) 1, type := _, pos := _, after := _, guard := none }) (v := .pointer (some ⟨(w.heap.size + 2), 1, none⟩)) rfl (by kernel_rfl) (by kernel_rfl) (by kernel_rfl) (fun _ _ _ h => h) (Or.inl ⟨by rfl, by intro x _; go_simp⟩) hS ?_
              (try simp only [Act.put, List.setIfInBounds_toArray, List.set_cons_zero, List.set_cons_succ])
              refine wpAnyH_ready (rs := [12]) (by kernel_rfl) (by simp) ?_
              refine AllReadyH.cons (o := { dst := none, op := .store 24 (.tmp 61) (.tmp 60), type := _, pos := _, after := _, guard := none }) rfl (fun K hK => ?_) AllReadyH.nil
              go_simp
              have hS3 := HM2.out.cells.1
              refine hK.out _ _ hS3 (fun _ => ?_)
              clear hK K hS q0 q1
              (try simp only [Act.put])
              refine wpAnyH_done (by kernel_rfl) ?_ _
              go_wp2
              go_roundg (gk - 1)
              case measure => omega
              case rel => exact ⟨k + 1, _, _, _, _, by omega, by show (O ++ [o]).length = _; rw [List.length_append, HOl.out]; rfl, by rw [List.length_append]; exact Nat.succ_le_succ hQl, rfl, ⟨HFO.out, fun x hx => by
                  rcases List.mem_append.1 hx with h | h
                  · exact HF.out.2 x h
                  · rw [List.mem_singleton.1 h]
                    exact HYQ.out⟩, HM2.out⟩
        · go_wp2
          go_roundg (gk - 1)
          case measure => omega
          case rel => exact ⟨k + 1, _, _, _, _, by omega, by show (O ++ [o]).length = _; rw [List.length_append, HOl.out]; rfl, Nat.le_succ_of_le hQl, rfl, ⟨HFO.out, HF.out.2⟩, HM9.out⟩
    · have hI1 : ¬ (k : Int) < (fl : Int) + (sl : Int) := by omega
      obtain ⟨⟨r0, r1⟩, fz, HE⟩ := HMp.out.fin
      obtain ⟨a, c, hv⟩ := owns_form HMp.out.ho
      subst hv
      obtain ⟨a', c', hv'⟩ := owns_form HMp.out.hq
      subst hv'
      go_wp2
      refine bodyPost_ret (Tr.results_cell1 rfl _ _ (w.heap.size + 1) 32 _ (0, 0) _ rfl HE.out.1 Tryd.underlying32 rfl size59) rfl ?_
      have hkk : k = fl + sl := by omega
      exact ⟨O, Q, pool_iff.2 ⟨⟨by rw [HOl.out, hkk]; rfl, by rw [hkk] at hQl; exact hQl⟩, HF.out.1, HF.out.2⟩, a, c, a', c', rfl, HE.out.2.1, HE.out.2.2.1, HE.out.2.2.2⟩
end Go.Proofs.YtbdgbefjmfcgcaaDoor.Ix
