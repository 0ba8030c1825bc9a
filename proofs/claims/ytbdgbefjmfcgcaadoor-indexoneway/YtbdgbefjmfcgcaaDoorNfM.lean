import Derived.Test.YtbdgbefjmfcgcaaDoorIxN3
import Derived.Laws.CopyRow
import Derived.Laws.IdiomCopy
import Derived.Test.YtbdgbefjmfcgcaaDoorIxQ
import Derived.Test.YtbdgbefjmfcgcaaDoorIxO
import Derived.Deep.DeepCutAuto
import Derived.Test.YtbdgbefjmfcgcaaDoorIxMh
namespace Go.Proofs.YtbdgbefjmfcgcaaDoor.Ix
open Go.RowKit Go.Lib Go.Deep
theorem info3 : (Tryd.prog.info? 3).map (fun i => (i.zero, i.size, i.bytes)) = some (some (.int .i64 0), 1, 8) := by kernel_rfl
theorem size3 : (Tryd.prog.info? 3).map (·.size) = some 1 := by kernel_rfl
theorem below_row {B : Nat} (w : World) (g : Nat) (cs : Array Value) (h : B ≤ g) : Below B w (w.setRow g cs) :=
  ⟨rfl, rfl, rfl, by simp [World.setRow], fun k hk => by
    simp only [World.setRow, Array.getElem?_modify]
    rw [if_neg (by omega)]⟩
theorem make_ints (n : Nat) (hn : n ≤ 1000000) (w : World) : (Instr.makeSlice 24 (.int .i64 (n : Int)) (.int .i64 (n : Int))).run Tryd.prog w = .ok (.slice (some ⟨w.heap.size, 0, none⟩) n n) (w.alloc (.cells (madeCells #[.int .i64 0] n) 3)) := by
  obtain ⟨i0, hi, hz0, hz1, hz2⟩ := info_parts info3
  have h := run_make (P := Tryd.prog) w 24 3 i0 (.int .i64 0) Tryd.underlying24 hi hz0 .i64 .i64 n n (by omega) (by omega) (by rw [hz2]; omega) (by omega)
  simpa [hz1, Value.cells] using h
theorem made_ints (n : Nat) : (madeCells #[.int .i64 0] n).toList = zsC (List.replicate n 0) := by
  apply List.ext_getElem
  · rw [Array.length_toList, size_madeCells]
    simp [zsC]
  · intro i h1 h2
    simp [madeCells, zsC, Nat.mod_one]
set_option maxRecDepth 20000 in
theorem ints_from (W : World) (g L lo : Nat) (hlo : lo < L) : (Instr.slice 24 (.slice (some ⟨g, 0, none⟩) L L) (some (.int .i64 (lo : Int))) none none).run Tryd.prog W = .ok (.slice (some ⟨g, lo, none⟩) (L - lo) (L - lo)) W := by
  obtain ⟨i0, hi0, hs0⟩ : ∃ i0, Tryd.prog.info? 3 = some i0 ∧ i0.size = 1 := by
    have h := size3
    cases hq : Tryd.prog.info? 3 with
    | none => simp [hq] at h
    | some i => exact ⟨i, rfl, by simpa [hq] using h⟩
  have he : Tryd.prog.elem 24 = 3 := by kernel_rfl
  rw [run_slice_l (P := Tryd.prog) (ht := Tryd.underlying24) (kl := .i64) (l := (lo : Int)) (h0 := by omega) (h1 := by omega)]
  have h1 : ¬ L = lo := by omega
  simp [sizeOf, typeInfo, he, hi0, hs0, sliced, Result.andThen, Addr.add_lit, h1]
/-- a list copied into a row, one behind its head -/
theorem copy_ints {W : World} {g r n k : Nat} {av : Option Addr} {cur : Array Value} {Q : List Int} (hg : W.heap[g]? = some (.cells cur 3 (0, 0))) (hS : See W 1 (.slice av n k) n (zsC Q)) (hn : Q.length = n) (hr : n ≤ r) (hc : cur.size = 1 + r) :
    ∃ W', (∀ ty, (Builtin.copy_ #[24, 24] ty #[.slice (some ⟨g, 1, none⟩) r r, .slice av n k]).run Tryd.prog W = .ok (goInt n) W') ∧ W'.heap[g]? = some (.cells (cur.toList.take 1 ++ zsC Q ++ cur.toList.drop (1 + n)).toArray 3 (0, 0)) ∧ ∀ B, B ≤ g → Below B W W' := by
  have hzl : (zsC Q).length = n := by simp [zsC, hn]
  rcases Nat.eq_zero_or_pos n with h0 | hp
  · subst h0
    refine ⟨W, fun ty => run_copy_none (P := Tryd.prog) W 24 24 ty 3 _ _ _ _ _ _ Tryd.underlying24 size3 (by simp), ?_, fun B _ => Below.refl _ _⟩
    have e : zsC Q = [] := List.length_eq_zero_iff.1 hzl
    rw [hg, e, List.append_nil, Nat.add_zero, List.take_append_drop, Array.toArray_toList]
  · obtain ⟨h0, h5, a', c', h1, h2, h3, h4⟩ := hS
    injection h1 with e1 _ e2
    subst e1 e2
    obtain ⟨b, off, e, hlt, hcell⟩ := h4 hp
    subst e
    refine ⟨_, fun ty => ?_, setRow_heap W g cur _ 3 (0, 0) hg, fun B hB => below_row W g _ hB⟩
    have h := run_copy_row (P := Tryd.prog) W 24 24 ty 3 g 1 r r ⟨b, off, none⟩ n k cur 3 (zsC Q) Tryd.underlying24 size3 hg (by rw [hzl]; exact (Nat.min_eq_left hr).symm) (fun j v hv => by rw [Addr.add_lit]; exact hcell j v hv) (by omega) h5
    rw [hzl] at h
    exact h
end Go.Proofs.YtbdgbefjmfcgcaaDoor.Ix

namespace Go.Proofs.YtbdgbefjmfcgcaaDoor.Ix
open Go.RowKit Go.Lib Go.Deep
set_option maxRecDepth 20000 in
set_option maxHeartbeats 1000000 in
theorem counted_any (sl fl dr mf ls pg : Nat) (hc : Cn.In ⟨sl, fl, dr, mf, ls, pg⟩) (Q : List Int) (w : World) (av : Option Addr) (n k : Nat) (hS : See w 1 (.slice av n k) n (zsC Q)) (hn : Q.length = n) (hnr : n ≤ fl + sl) :
    Calls Tryd.prog 44 #[.agg #[.int .i64 (sl : Int), .int .i64 (fl : Int), .int .i64 (dr : Int), .int .i64 (mf : Int), .int .i64 (ls : Int), .int .i64 (pg : Int)], .slice av n k] w fun e w' => ∃ a k', e = .returned (.slice a (1 + (fl + sl)) k') ∧ w'.ownsRow w.heap.size 3 1 (.slice a (1 + (fl + sl)) k') (1 + (fl + sl)) (zsC (cntL ⟨sl, fl, dr, mf, ls, pg⟩ Q)) ∧ Below w.heap.size w w' := by
  have h3 : 1 ≤ sl := hc.1
  have h1 : sl ≤ 64 := hc.2.1
  have h2 : fl ≤ 65536 := hc.2.2.2.1
  obtain ⟨V, hV, hbV, g0⟩ := one_new w #[.int .i64 (sl : Int), .int .i64 (fl : Int), .int .i64 (dr : Int), .int .i64 (mf : Int), .int .i64 (ls : Int), .int .i64 (pg : Int)] 23
  have KR := rowsOf_any sl fl dr mf ls pg hc V
  obtain ⟨y0, y1, y2, y3, y4, y5⟩ := cells6 g0
  have HBV : Hid (Below w.heap.size w V) := hbV
  have HSw : Hid (See w 1 (.slice av n k) n (zsC Q)) := hS
  have HN : Hid (Q.length = n) := hn
  have HCN : Hid (cntL ⟨sl, fl, dr, mf, ls, pg⟩ Q = (n : Int) :: (Q ++ List.replicate (fl + sl - n) 0)) := by
    show _ = _
    unfold cntL Cn.rows
    rw [hn]
  obtain ⟨r, hr⟩ : ∃ r, fl + sl = r := ⟨_, rfl⟩
  rw [hr] at KR hnr HCN ⊢
  obtain ⟨t, ht⟩ : ∃ t, 1 + r = t := ⟨_, rfl⟩
  have hr1 : r ≤ 70000 := by omega
  have hmk := make_ints t (by omega)
  have hcl : (madeCells #[.int .i64 0] t).toList = zsC (List.replicate t 0) := made_ints t
  have hcs : (madeCells #[.int .i64 0] t).size = t := by rw [← Array.length_toList, hcl]; simp [zsC]
  generalize madeCells #[.int .i64 0] t = cs at *
  have hw1 : (1 : Int) + (r : Int) = (t : Int) := by omega
  have hw2 : IntKind.i64.wrap (t : Int) = (t : Int) := by rw [IntKind.wrap_i64]; omega
  have HT : Hid (1 + r = t) := ht
  have ht0 : 0 < t := by omega
  have ht1 : 1 < t := by omega
  have HCS : Hid (cs.toList = zsC (List.replicate t 0) ∧ cs.size = t) := ⟨hcl, hcs⟩
  rw [ht]
  clear hc hS hn hbV g0 hcl hcs h1 h2 h3 hr ht
  go_enter Tryd.func44, Tryd.ntmps44
  go_wp2_with fail
  refine KR.mono ?_
  rintro e w1 ⟨rfl, hb1⟩
  have HB1 : Hid (Below w.heap.size w w1) := HBV.out.trans (hb1.mono HBV.out.size)
  clear KR hb1 HBV y0 y1 y2 y3 y4 y5 hV
  obtain ⟨W2, hW2, hb2, g2⟩ := one_new w1 cs 3
  have HB2 : Hid (Below w.heap.size w W2) := HB1.out.trans (hb2.mono HB1.out.size)
  have c0 : W2.cell? ⟨w1.heap.size, 0, none⟩ = some (.int .i64 0) := by
    rw [cell_of_heap g2]
    have e : cs.toList[0]? = some (.int .i64 0) := by rw [HCS.out.1]; unfold zsC; rw [List.getElem?_map, List.getElem?_replicate, if_pos ht0]; rfl
    simpa using e
  have f0 : W2.frozen? ⟨w1.heap.size, 0, none⟩ = false := frozen_of_heap g2
  obtain ⟨W3, hW3⟩ : ∃ W3, W2.setCell ⟨w1.heap.size, 0, none⟩ (.int .i64 (n : Int)) = W3 := ⟨_, rfl⟩
  have g3 : W3.heap[w1.heap.size]? = some (.cells (cs.setIfInBounds 0 (.int .i64 (n : Int))) 3 (0, 0)) := by rw [← hW3]; exact heap_setCell_same _ _ 0 _ _ _ g2
  have HB3 : Hid (Below w.heap.size w W3) := by
    show Below _ _ _
    rw [← hW3]
    exact HB2.out.setCell HB1.out.size _
  obtain ⟨W4, hcp, g4, hb4⟩ := copy_ints (r := r) g3 (HSw.out.below HB3.out) HN.out hnr (by simp; rw [HCS.out.2]; exact HT.out.symm)
  have HB4 : Hid (Below w.heap.size w W4) := HB3.out.trans (hb4 _ HB1.out.size)
  have HO4 : Hid (W4.ownsRow w.heap.size 3 1 (.slice (some ⟨w1.heap.size, 0, none⟩) t t) t (zsC (cntL ⟨sl, fl, dr, mf, ls, pg⟩ Q))) := by
    have e : (cs.setIfInBounds 0 (.int .i64 (n : Int))).toList.take 1 ++ zsC Q ++ (cs.setIfInBounds 0 (.int .i64 (n : Int))).toList.drop (1 + n) = zsC (cntL ⟨sl, fl, dr, mf, ls, pg⟩ Q) := by
      have ht : t = r + 1 := by have := HT.out; omega
      rw [Array.toList_setIfInBounds, HCS.out.1, HCN.out, ht, List.replicate_succ]
      simp [zsC, Nat.add_comm 1 n]
    have hl : (zsC (cntL ⟨sl, fl, dr, mf, ls, pg⟩ Q)).length = t := by
      rw [HCN.out]
      have := HT.out
      simp [zsC, HN.out]
      omega
    rw [e] at g4
    refine ⟨by rw [hl, Nat.mul_one], .inr ⟨w1.heap.size, t, _, rfl, HB1.out.size, g4, Nat.le_refl _, by unfold maxLen; omega, by simpa using hl, ?_⟩⟩
    rw [List.toList_toArray]
    exact List.take_of_length_le (by omega)
  have htr : t - 1 = r := by have := HT.out; omega
  clear g2 g3 g4 hb2 hb4 HB2 HB3 HCS HCN
  go_wp2
  go_ret
  exact ⟨_, _, rfl, HO4.out, HB4.out⟩
end Go.Proofs.YtbdgbefjmfcgcaaDoor.Ix

namespace Go.Proofs.YtbdgbefjmfcgcaaDoor.Ix
open Go.RowKit Go.Lib Go.Deep
/-- both tables of nodes, so many of them laid -/
structure Bn (w : World) (c : Cn) (gd gf : Nat) (A : List Nd) (X : World) : Prop where
  be : Below w.heap.size w X
  hd : X.ownsRow w.heap.size 44 5 (.slice (some ⟨gd, 0, none⟩) c.dr c.dr) c.dr (ndsC (dirsL c A))
  hf : X.ownsRow w.heap.size 44 5 (.slice (some ⟨gf, 0, none⟩) c.fl c.fl) c.fl (ndsC (filsL c A))
  ne : gd ≠ gf
  ld : w.heap.size ≤ gd
  lf : w.heap.size ≤ gf
theorem Bn.next {w : World} {c : Cn} {gd gf : Nat} {A : List Nd} {X Y : World} (h : Bn w c gd gf A X) (hb : Below X.heap.size X Y) : Bn w c gd gf A Y :=
  ⟨h.be.trans (hb.mono h.be.size), owns_below h.hd hb, owns_below h.hf hb, h.ne, h.ld, h.lf⟩
theorem put5_be {w X : World} (h : Below w.heap.size w X) {g : Nat} (hg : w.heap.size ≤ g) (o : Nat) (x : Nd) : Below w.heap.size w (put5 X g o x) :=
  ((((h.setCell hg _).setCell hg _).setCell hg _).setCell hg _).setCell hg _
theorem put5_other (X : World) {g h : Nat} (hne : h ≠ g) (o : Nat) (x : Nd) : (put5 X g o x).heap[h]? = X.heap[h]? := by
  unfold put5
  rw [heap_setCell_other _ _ _ _ hne, heap_setCell_other _ _ _ _ hne, heap_setCell_other _ _ _ _ hne, heap_setCell_other _ _ _ _ hne, heap_setCell_other _ _ _ _ hne]
theorem Bn.dir {w : World} {c : Cn} {gd gf : Nat} {A : List Nd} {X : World} (h : Bn w c gd gf A X) {x : Nd} (hl : ∀ m ∈ A, plc c m < plc c x) (q : Nat) (hq : (q : Int) + 1 = plc c x) (hqd : q < c.dr) : Bn w c gd gf (A ++ [x]) (put5 X gd (q * 5) x) := by
  have hg : (dirsL c A)[q]? = some (slot c A ((q : Int) + 1)) := by
    unfold dirsL
    rw [List.getElem?_map, List.getElem?_range hqd]
    rfl
  refine ⟨put5_be h.be h.ld _ _, ?_, ?_, h.ne, h.ld, h.lf⟩
  · rw [dirs_snoc hl q hq]
    exact (nds_put h.hd hg x).1
  · rw [fils_same hl (by omega)]
    exact owns_keep h.hf fun g hg => put5_other X (by
      injection hg with hg
      subst hg
      exact fun e => h.ne e.symm) _ _
theorem Bn.fil {w : World} {c : Cn} {gd gf : Nat} {A : List Nd} {X : World} (h : Bn w c gd gf A X) {x : Nd} (hl : ∀ m ∈ A, plc c m < plc c x) (q : Nat) (hq : (c.dr : Int) + 1 + (q : Int) = plc c x) (hqd : q < c.fl) : Bn w c gd gf (A ++ [x]) (put5 X gf (q * 5) x) := by
  have hg : (filsL c A)[q]? = some (slot c A (c.dr + 1 + (q : Int))) := by
    unfold filsL
    rw [List.getElem?_map, List.getElem?_range hqd]
    rfl
  refine ⟨put5_be h.be h.lf _ _, ?_, ?_, h.ne, h.ld, h.lf⟩
  · rw [dirs_same hl (by omega)]
    exact owns_keep h.hd fun g hg => put5_other X (by
      injection hg with hg
      subst hg
      exact h.ne) _ _
  · rw [fils_snoc hl q hq]
    exact (nds_put h.hf hg x).1
/-- the cells of a place -/
theorem nd_at {X : World} {B g N q : Nat} {l : List Nd} (h : X.ownsRow B 44 5 (.slice (some ⟨g, 0, none⟩) N N) N (ndsC l)) {x : Nd} (hq : l[q]? = some x) :
    (X.cell? ⟨g, q * 5, none⟩ = some (.int .i64 x.kd) ∧ X.cell? ⟨g, q * 5 + 1, none⟩ = some (.int .i64 x.nu) ∧ X.cell? ⟨g, q * 5 + 2, none⟩ = some (.int .i64 x.pa) ∧ X.cell? ⟨g, q * 5 + 3, none⟩ = some (.string x.nm) ∧ X.cell? ⟨g, q * 5 + 4, none⟩ = some (.int .i64 x.sz)) ∧ ∀ j, X.frozen? ⟨g, j, none⟩ = false := by
  obtain ⟨b, off, e, -, hcc⟩ := (see_own h (nds_one _)).row ndC_len (by decide) hq
  injection e with e
  injection e with e1 e2 _
  subst e1 e2
  have z : ∀ j, 0 + q * 5 + j = q * 5 + j := fun j => by omega
  refine ⟨⟨?_, ?_, ?_, ?_, ?_⟩, fun j => ?_⟩
  · have := hcc 0 _ rfl
    rw [z] at this
    exact this
  · have := hcc 1 _ rfl
    rw [z] at this
    exact this
  · have := hcc 2 _ rfl
    rw [z] at this
    exact this
  · have := hcc 3 _ rfl
    rw [z] at this
    exact this
  · have := hcc 4 _ rfl
    rw [z] at this
    exact this
  · rcases h.2 with ⟨h1, h2⟩ | ⟨g1, cap, cur, h1, h2, h3, h4, h5, h6, h7⟩
    · cases h1
    · injection h1 with e1 _ e2
      injection e1 with e1
      injection e1 with e1 _ _
      subst e1
      exact frozen_of_heap h3
end Go.Proofs.YtbdgbefjmfcgcaaDoor.Ix

namespace Go.Proofs.YtbdgbefjmfcgcaaDoor.Ix
open Go.RowKit Go.Lib Go.Deep
theorem two_rows (a b : Nat) (ha : a ≤ 100000) (hb : b ≤ 100000) {w V : World} (hw : w.heap.size ≤ V.heap.size) :
    (((V.alloc (.cells (madeCells #[.int .i64 0, .int .i64 0, .int .i64 0, .string { data := #[] }, .int .i64 0] (a * 5)) 44)).alloc (.cells (madeCells #[.int .i64 0, .int .i64 0, .int .i64 0, .string { data := #[] }, .int .i64 0] (b * 5)) 44)).drew).ownsRow w.heap.size 44 5 (.slice (some ⟨V.heap.size, 0, none⟩) a a) a (ndsC (List.replicate a zN)) ∧ (((V.alloc (.cells (madeCells #[.int .i64 0, .int .i64 0, .int .i64 0, .string { data := #[] }, .int .i64 0] (a * 5)) 44)).alloc (.cells (madeCells #[.int .i64 0, .int .i64 0, .int .i64 0, .string { data := #[] }, .int .i64 0] (b * 5)) 44)).drew).ownsRow w.heap.size 44 5 (.slice (some ⟨V.heap.size + 1, 0, none⟩) b b) b (ndsC (List.replicate b zN)) := by
  constructor
  · exact owns_base (owns_below (made_nodes a ha V) ((Below.refl _ _).alloc (Nat.le_refl _) _).drew) hw
  · have h := made_nodes b hb (V.alloc (.cells (madeCells #[.int .i64 0, .int .i64 0, .int .i64 0, .string { data := #[] }, .int .i64 0] (a * 5)) 44))
    have e : (V.alloc (.cells (madeCells #[.int .i64 0, .int .i64 0, .int .i64 0, .string { data := #[] }, .int .i64 0] (a * 5)) 44)).heap.size = V.heap.size + 1 := by simp
    rw [e] at h
    exact owns_base (owns_below h (Below.refl _ _).drew) (by omega)
set_option maxRecDepth 20000 in
set_option maxHeartbeats 1500000 in
theorem byNumber_any (sl fl dr mf ls pg : Nat) (hc : Cn.In ⟨sl, fl, dr, mf, ls, pg⟩) (T : List Nd) (hF : ∀ i x, T[i]? = some x → NdF ⟨sl, fl, dr, mf, ls, pg⟩ x ∧ ∀ m ∈ T.take i, plc ⟨sl, fl, dr, mf, ls, pg⟩ m < plc ⟨sl, fl, dr, mf, ls, pg⟩ x) (w : World) (av : Option Addr) (n k : Nat) (hS : See w 5 (.slice av n k) n (ndsC T)) (hn : T.length = n) (hnb : n ≤ 1099511000000) :
    Calls Tryd.prog 37 #[.agg #[.int .i64 (sl : Int), .int .i64 (fl : Int), .int .i64 (dr : Int), .int .i64 (mf : Int), .int .i64 (ls : Int), .int .i64 (pg : Int)], .slice av n k] w fun e w' => ∃ gd gf, e = .returned (.tuple #[.slice (some ⟨gd, 0, none⟩) dr dr, .slice (some ⟨gf, 0, none⟩) fl fl]) ∧ Bn w ⟨sl, fl, dr, mf, ls, pg⟩ gd gf T w' := by
  have hfl : fl ≤ 65536 := hc.2.2.2.1
  have hdr : dr ≤ 4096 := hc.2.2.2.2.1
  obtain ⟨V, hV, hbV, g0⟩ := one_new w #[.int .i64 (sl : Int), .int .i64 (fl : Int), .int .i64 (dr : Int), .int .i64 (mf : Int), .int .i64 (ls : Int), .int .i64 (pg : Int)] 23
  have HCD : Hid (∀ X, Below V.heap.size V X → X.cell? ⟨w.heap.size, 0, none⟩ = some (.int .i64 (sl : Int)) ∧ X.cell? ⟨w.heap.size, 1, none⟩ = some (.int .i64 (fl : Int)) ∧ X.cell? ⟨w.heap.size, 2, none⟩ = some (.int .i64 (dr : Int)) ∧ X.cell? ⟨w.heap.size, 3, none⟩ = some (.int .i64 (mf : Int)) ∧ X.cell? ⟨w.heap.size, 4, none⟩ = some (.int .i64 (ls : Int)) ∧ X.cell? ⟨w.heap.size, 5, none⟩ = some (.int .i64 (pg : Int))) := fun X hX => cells6 ((hX.block _ (heap_lt g0)).trans g0)
  obtain ⟨y0, y1, y2, y3, y4, y5⟩ := cells6 g0
  have hmd := make_nodes dr (by omega)
  have hmf := make_nodes fl (by omega)
  have HBV : Hid (Below w.heap.size w V) := hbV
  have HSw : Hid (See w 5 (.slice av n k) n (ndsC T)) := hS
  have HF : Hid _ := hF
  have HR1 : Hid (Bn w ⟨sl, fl, dr, mf, ls, pg⟩ V.heap.size (V.heap.size + 1) [] (((V.alloc (.cells (madeCells #[.int .i64 0, .int .i64 0, .int .i64 0, .string { data := #[] }, .int .i64 0] (dr * 5)) 44)).alloc (.cells (madeCells #[.int .i64 0, .int .i64 0, .int .i64 0, .string { data := #[] }, .int .i64 0] (fl * 5)) 44)).drew)) := by
    obtain ⟨r1, r2⟩ := two_rows dr fl (by omega) (by omega) (w := w) (V := V) hbV.size
    exact ⟨(below_alloc (below_alloc hbV _) _).drew, by rw [dirs_nil]; exact r1, by rw [fils_nil]; exact r2, by omega, hbV.size, Nat.le_succ_of_le hbV.size⟩
  have HR2 : Hid (Bn w ⟨sl, fl, dr, mf, ls, pg⟩ (V.heap.size + 1) V.heap.size [] (((V.alloc (.cells (madeCells #[.int .i64 0, .int .i64 0, .int .i64 0, .string { data := #[] }, .int .i64 0] (fl * 5)) 44)).alloc (.cells (madeCells #[.int .i64 0, .int .i64 0, .int .i64 0, .string { data := #[] }, .int .i64 0] (dr * 5)) 44)).drew)) := by
    obtain ⟨r1, r2⟩ := two_rows fl dr (by omega) (by omega) (w := w) (V := V) hbV.size
    exact ⟨(below_alloc (below_alloc hbV _) _).drew, by rw [dirs_nil]; exact r2, by rw [fils_nil]; exact r1, by omega, Nat.le_succ_of_le hbV.size, hbV.size⟩
  clear hc hF hS hbV g0
  go_enter Tryd.func37, Tryd.ntmps37
  go_upto_region 1 with fail
  go_cut [4, 5] (fun s t wx => ∃ gd gf, s = .slice (some ⟨gd, 0, none⟩) dr dr ∧ t = .slice (some ⟨gf, 0, none⟩) fl fl ∧ Hid (Bn w ⟨sl, fl, dr, mf, ls, pg⟩ gd gf [] wx))
  case first =>
    go_region_held_law (fun X => X.cell? ⟨w.heap.size, 0, none⟩ = some (.int .i64 (sl : Int)) ∧ X.cell? ⟨w.heap.size, 1, none⟩ = some (.int .i64 (fl : Int)) ∧ X.cell? ⟨w.heap.size, 2, none⟩ = some (.int .i64 (dr : Int)) ∧ X.cell? ⟨w.heap.size, 3, none⟩ = some (.int .i64 (mf : Int)) ∧ X.cell? ⟨w.heap.size, 4, none⟩ = some (.int .i64 (ls : Int)) ∧ X.cell? ⟨w.heap.size, 5, none⟩ = some (.int .i64 (pg : Int))) (first | with_reducible exact HCD.out _ (by (repeat (first | with_reducible exact Below.refl _ _ | with_reducible refine Below.drew ?_ | with_reducible refine below_alloc ?_ _)); (first | done | fail)) | go_keep) (fail)
    all_goals
      go_wp2_with fail
      go_meet
      first | exact ⟨_, _, rfl, rfl, HR1.out⟩ | exact ⟨_, _, rfl, rfl, HR2.out⟩
  case rest =>
  obtain ⟨gd, gf, rfl, rfl, HB0⟩ := hcut
  clear HR1 HR2 hmd hmf HCD y0 y1 y2 y3 y4 y5 hV
  go_wp2_with fail
  go_loopg [7, 16] n (fun gk bv iv wr => ∃ i : Nat, i + gk = n ∧ iv = .int .i64 (i : Int) ∧ Hid (Bn w ⟨sl, fl, dr, mf, ls, pg⟩ gd gf (T.take i) wr))
  case atStart => exact ⟨0, by omega, rfl, HB0.out⟩
  case round =>
    obtain ⟨i, hik, rfl, HBn⟩ := hrel
    by_cases hlt : i < n
    · have hltI : (i : Int) < (n : Int) := by omega
      obtain ⟨x, hx⟩ : ∃ x, T[i]? = some x := ⟨_, List.getElem?_eq_getElem (by omega)⟩
      obtain ⟨b, off, rfl, hbl, hcc⟩ := (HSw.out.below HBn.out.be).row ndC_len (by decide) hx
      obtain ⟨hfit, hless⟩ := HF.out i x hx
      have HTK : Hid (T.take (i + 1) = T.take i ++ [x]) := by show _ = _; rw [List.take_add_one, hx]; rfl
      obtain ⟨kd, nu, pa, nm, sz⟩ := x
      have c0 : wr.cell? ⟨b, off + i * 5, none⟩ = some (.int .i64 kd) := hcc 0 _ rfl
      have c1 : wr.cell? ⟨b, off + i * 5 + 1, none⟩ = some (.int .i64 nu) := hcc 1 _ rfl
      have c2 : wr.cell? ⟨b, off + i * 5 + 2, none⟩ = some (.int .i64 pa) := hcc 2 _ rfl
      have c3 : wr.cell? ⟨b, off + i * 5 + 3, none⟩ = some (.string nm) := hcc 3 _ rfl
      have c4 : wr.cell? ⟨b, off + i * 5 + 4, none⟩ = some (.int .i64 sz) := hcc 4 _ rfl
      obtain ⟨W, hW, hbW, gn⟩ := one_new wr #[.int .i64 kd, .int .i64 nu, .int .i64 pa, .string nm, .int .i64 sz] 44
      obtain ⟨m0, m1, m2, m3, m4⟩ := cells5 gn
      have HBW : Hid (Bn w ⟨sl, fl, dr, mf, ls, pg⟩ gd gf (T.take i) W) := HBn.out.next hbW
      have HLE : Hid _ := hless
      clear hcc hx gn hbW hless
      rcases hfit.1 with ⟨h1, h2, h3, h4⟩ | ⟨h1, h2, h3, h4⟩
      · simp only at h1 h2 h3 h4
        obtain ⟨q, rfl⟩ : ∃ q : Nat, nu = (q : Int) + 1 := ⟨(nu - 1).toNat, by omega⟩
        have hqd : q < dr := by omega
        subst h1
        have hdq : (dirsL ⟨sl, fl, dr, mf, ls, pg⟩ (T.take i))[q]? = some (slot ⟨sl, fl, dr, mf, ls, pg⟩ (T.take i) ((q : Int) + 1)) := by
          unfold dirsL
          rw [List.getElem?_map, List.getElem?_range hqd]
          rfl
        obtain ⟨⟨s0, s1, s2, s3, s4⟩, fz⟩ := nd_at HBW.out.hd hdq
        have HP : Hid _ := HBW.out.dir HLE.out q (by simp [plc]) hqd
        have hwq : IntKind.i64.wrap (q : Int) = (q : Int) := by rw [IntKind.wrap_i64]; omega
        have hqI : (q : Int) < (dr : Int) := by omega
        rw [← HTK.out] at HP
        unfold put5 at HP
        simp only at HP
        clear hdq h2 h3 h4 hfit
        go_wp2
        go_roundg (gk - 1)
        case measure => omega
        case rel => exact ⟨i + 1, by omega, rfl, HP.out⟩
      · simp only at h1 h2 h3 h4
        obtain ⟨q, rfl⟩ : ∃ q : Nat, nu = (q : Int) := ⟨nu.toNat, by omega⟩
        have hqd : q < fl := by omega
        subst h1
        have hdq : (filsL ⟨sl, fl, dr, mf, ls, pg⟩ (T.take i))[q]? = some (slot ⟨sl, fl, dr, mf, ls, pg⟩ (T.take i) ((dr : Int) + 1 + (q : Int))) := by
          unfold filsL
          rw [List.getElem?_map, List.getElem?_range hqd]
          rfl
        obtain ⟨⟨s0, s1, s2, s3, s4⟩, fz⟩ := nd_at HBW.out.hf hdq
        have HP : Hid _ := HBW.out.fil HLE.out q (by simp [plc]) hqd
        have hqI : (q : Int) < (fl : Int) := by omega
        rw [← HTK.out] at HP
        unfold put5 at HP
        simp only at HP
        clear hdq h2 h3 h4 hfit
        go_wp2
        go_roundg (gk - 1)
        case measure => omega
        case rel => exact ⟨i + 1, by omega, rfl, HP.out⟩
    · obtain rfl : i = n := by omega
      have hltI : ¬ (i : Int) < (i : Int) := by omega
      have e : T.take i = T := List.take_of_length_le (by omega)
      rw [e] at HBn
      go_wp2
      go_ret2
      exact ⟨_, _, rfl, HBn.out⟩
end Go.Proofs.YtbdgbefjmfcgcaaDoor.Ix

namespace Go.Proofs.YtbdgbefjmfcgcaaDoor.Ix
open Go.RowKit Go.Lib Go.Deep
theorem slot_ok {c : Cn} {T : List Nd} {p : Int} (hc : c.In) (h : ∀ m ∈ T, NdF c m) : (slot c T p).nm.size ≤ 32 ∧ (0 ≤ (slot c T p).pa ∧ (slot c T p).pa ≤ 4294967296) ∧ (0 ≤ (slot c T p).sz ∧ (slot c T p).sz ≤ 4294967296) := by
  refine ⟨slot_size h, ?_⟩
  have h1 : c.dr ≤ 4096 := hc.2.2.2.2.1
  have h2 : c.mf ≤ 65536 := hc.2.2.2.2.2.1
  rcases slot_or (p := p) h with e | ⟨_, e, _⟩
  · rw [e]
    exact ⟨⟨by decide, by decide⟩, by decide, by decide⟩
  · have e1 := e.1
    have e2 := e.2.1
    have e3 := e.2.2.1
    omega
theorem dirs_ok {c : Cn} {T : List Nd} (hc : c.In) (h : ∀ m ∈ T, NdF c m) : ∀ x ∈ dirsL c T, x.nm.size ≤ 32 ∧ (0 ≤ x.pa ∧ x.pa ≤ 4294967296) := fun x hx => by
  obtain ⟨k, _, rfl⟩ := List.mem_map.1 hx
  have := slot_ok (p := (k : Int) + 1) hc h
  exact ⟨this.1, this.2.1⟩
theorem fils_ok {c : Cn} {T : List Nd} (hc : c.In) (h : ∀ m ∈ T, NdF c m) : ∀ x ∈ filsL c T, x.nm.size ≤ 32 ∧ (0 ≤ x.pa ∧ x.pa ≤ 4294967296) ∧ (0 ≤ x.sz ∧ x.sz ≤ 4294967296) := fun x hx => by
  obtain ⟨k, _, rfl⟩ := List.mem_map.1 hx
  exact slot_ok hc h
theorem obs_ok {c : Cn} {O : List Ob} (hc : c.In) (h : ∀ o ∈ O, ObF c o) : ∀ x ∈ O, x.nm.size ≤ 1000 ∧ x.tg.size ≤ 1000 ∧ (0 ≤ x.bk ∧ x.bk ≤ 4294967296) ∧ (-1 ≤ x.ow ∧ x.ow ≤ 4294960000) := fun x hx => by
  have h1 : c.fl ≤ 65536 := hc.2.2.2.1
  obtain ⟨e1, e2, e3, e4, e5, e6⟩ := h x hx
  omega
theorem cnt_ok {c : Cn} {Q : List Int} (hc : c.In) (hl : Q.length ≤ c.rows) (h : ∀ q ∈ Q, 0 ≤ q ∧ q < c.rows) : ∀ x ∈ cntL c Q, 0 ≤ x ∧ x ≤ 4294960000 := fun x hx => by
  have h1 : c.fl ≤ 65536 := hc.2.2.2.1
  have h2 : c.sl ≤ 64 := hc.2.1
  have h3 : c.rows = c.fl + c.sl := rfl
  unfold cntL at hx
  rcases List.mem_cons.1 hx with e | hx
  · omega
  · rcases List.mem_append.1 hx with hx | hx
    · have := h x hx
      omega
    · have := (List.mem_replicate.1 hx).2
      omega
theorem ris_at {c : Cn} {T : List Nd} (h : risB c 0 T = true) : (∀ m ∈ T, NdF c m) ∧ ∀ i x, T[i]? = some x → NdF c x ∧ ∀ m ∈ T.take i, plc c m < plc c x := by
  obtain ⟨h1, h2⟩ := (ris_iff c T 0).1 h
  refine ⟨fun m hm => (h1 m hm).1, fun i x hx => ⟨(h1 x (List.mem_of_getElem? hx)).1, fun m hm => ?_⟩⟩
  obtain ⟨j, hj, rfl⟩ := List.mem_iff_getElem.1 hm
  rw [List.length_take] at hj
  rw [List.getElem_take]
  obtain ⟨hi, rfl⟩ := List.getElem?_eq_some_iff.1 hx
  exact List.pairwise_iff_getElem.1 h2 j i (by omega) hi (by omega)
end Go.Proofs.YtbdgbefjmfcgcaaDoor.Ix
