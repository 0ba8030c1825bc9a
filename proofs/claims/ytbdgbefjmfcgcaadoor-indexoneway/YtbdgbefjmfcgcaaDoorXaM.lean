import Derived.Test.YtbdgbefjmfcgcaaDoorIxZd
import Derived.Test.YtbdgbefjmfcgcaaDoorIxQ
import Derived.Deep.DeepCutAuto
import Derived.Test.YtbdgbefjmfcgcaaDoorIxZc
namespace Go.Proofs.YtbdgbefjmfcgcaaDoor.Ix
open Go.RowKit Go.Lib Go.Deep
theorem sl_lh {P : Program} (w : World) (t : TypeId) (s : ByteArray) (x z : Int) (L H : Nat) (h : P.underlying t = some .string) (hx : x = (L : Int)) (hz : z = (H : Int)) (hL : L ≤ H) (hH : H ≤ s.size) : (Instr.slice t (.string s) (some (.int .i64 x)) (some (.int .i64 z)) none).run P w = .ok (.string (s.extract L H)) w := by
  subst hx hz
  have h1 : 0 ≤ (L : Int) ∧ (L : Int) ≤ (H : Int) := ⟨by omega, by omega⟩
  have h2 : 0 ≤ (H : Int) ∧ (H : Int) ≤ (s.size : Int) := ⟨by omega, by omega⟩
  simp [Instr.slice, Instr.sliceBounds, Instr.sliceBound, asIntOf, run_underlying h, h1, h2]
  rw [if_pos hH, if_pos hL]
theorem put_node {w W : World} {g : Nat} {x0 x1 x2 x3 x4 : Value} (h : W.heap[g]? = some (.cells #[x0, x1, x2, x3, x4] 44 (0, 0))) (hb : Below w.heap.size w W) (hg : w.heap.size ≤ g) (y0 y1 y2 y3 y4 : Value) :
    (((((W.setCell ⟨g, 0, none⟩ y0).setCell ⟨g, 1, none⟩ y1).setCell ⟨g, 2, none⟩ y2).setCell ⟨g, 3, none⟩ y3).setCell ⟨g, 4, none⟩ y4).heap[g]? = some (.cells #[y0, y1, y2, y3, y4] 44 (0, 0)) ∧ Below w.heap.size w (((((W.setCell ⟨g, 0, none⟩ y0).setCell ⟨g, 1, none⟩ y1).setCell ⟨g, 2, none⟩ y2).setCell ⟨g, 3, none⟩ y3).setCell ⟨g, 4, none⟩ y4) := by
  have h0 := heap_setCell_same _ _ 0 _ _ y0 h
  have h1 := heap_setCell_same _ _ 1 _ _ y1 h0
  have h2 := heap_setCell_same _ _ 2 _ _ y2 h1
  have h3 := heap_setCell_same _ _ 3 _ _ y3 h2
  exact ⟨heap_setCell_same _ _ 4 _ _ y4 h3, ((((hb.setCell hg _).setCell hg _).setCell hg _).setCell hg _).setCell hg _⟩
theorem size91 : (Tryd.prog.info? 44).map (·.size) = some 5 := by kernel_rfl
set_option maxRecDepth 20000 in
set_option maxHeartbeats 1000000 in
/-- a node's row, read -/
theorem readNode_any (s : ByteArray) (hs : 36 ≤ s.size) (hs2 : s.size ≤ 40) (kd : Int) (w : World) : Calls Tryd.prog 68 #[.string s, .int .i64 kd] w fun e w' => e = .returned (ndV (rdN s.data.toList kd)) ∧ Below w.heap.size w w' := by
  have hl : s.data.toList.length = s.size := (size_eq s).symm
  obtain ⟨x, hx⟩ : ∃ x, s.data.toList[0]? = some x := ⟨_, List.getElem?_eq_getElem (by omega)⟩
  obtain ⟨y, hy⟩ : ∃ y, s.data.toList[3]? = some y := ⟨_, List.getElem?_eq_getElem (by omega)⟩
  have hix : ∀ W, (Instr.index 9 (.string s) (.int .i64 0)).run Tryd.prog W = .ok (.int .u8 (x.toNat : Int)) W := fun W => rindex_at W 9 s .i64 0 0 x Tryd.underlying9 rfl hx
  have hiy : ∀ W, (Instr.index 9 (.string s) (.int .i64 3)).run Tryd.prog W = .ok (.int .u8 (y.toNat : Int)) W := fun W => rindex_at W 9 s .i64 3 3 y Tryd.underlying9 rfl hy
  obtain ⟨V, hV, hbV, gz⟩ := one_new w #[.int .i64 0, .int .i64 0, .int .i64 0, .string { data := #[] }, .int .i64 0] 44
  have HX : Hid (∀ X, Below V.heap.size V X → X.heap[w.heap.size]? = some (.cells #[.int .i64 0, .int .i64 0, .int .i64 0, .string { data := #[] }, .int .i64 0] 44 (0, 0)) ∧ Below w.heap.size w X) := fun X hX => ⟨(hX.block _ (heap_lt gz)).trans gz, below_on hX hbV⟩
  clear gz hbV
  by_cases h0 : x = 0
  · have hq : rdN s.data.toList kd = zN := by
      unfold rdN
      rw [List.getD_eq_getElem?_getD, hx, Option.getD_some, if_pos h0]
    rw [hq]
    have hx0 : x.toNat = 0 := by rw [h0]; rfl
    obtain ⟨g1, b1⟩ := HX.out V (Below.refl _ _)
    obtain ⟨c0, c1, c2, c3, c4⟩ := cells5 g1
    have f1 : ∀ j, V.frozen? ⟨w.heap.size, j, none⟩ = false := fun j => frozen_of_heap g1
    have HE : Hid _ := put_node g1 b1 (Nat.le_refl _) (.int .i64 0) (.int .i64 0) (.int .i64 0) (.string { data := #[] }) (.int .i64 0)
    rw [hx0] at hix
    clear hx hy hiy h0 hq hx0 g1 b1 HX hl
    go_enter Tryd.func68, Tryd.ntmps68
    go_wp2
    exact bodyPost_ret (Tr.results_cell1 rfl _ _ w.heap.size 44 _ (0, 0) _ rfl HE.out.1 Tryd.underlying44 rfl size91) rfl ⟨rfl, HE.out.2⟩
  · have hx0 : ¬ (x.toNat : Int) = 0 := fun e => h0 (by
      have : x.toNat = 0 := by omega
      exact UInt8.toNat_inj.1 (by rw [this]; rfl))
    obtain ⟨m, hm⟩ : ∃ m, min y.toNat 32 = m := ⟨_, rfl⟩
    have hm2 : m ≤ 32 := by omega
    have hmI : min (y.toNat : Int) 32 = (m : Int) := by omega
    obtain ⟨t1, ht1⟩ : ∃ t1, s.extract 1 3 = t1 := ⟨_, rfl⟩
    obtain ⟨t2, ht2⟩ : ∃ t2, s.extract 4 (4 + m) = t2 := ⟨_, rfl⟩
    have hq : rdN s.data.toList kd = ⟨kd, 0, (nuL t1.data.toList : Int), t2, 0⟩ := by
      unfold rdN
      rw [List.getD_eq_getElem?_getD, hx, Option.getD_some, if_neg h0, List.getD_eq_getElem?_getD, hy, Option.getD_some, hm, ← ht1, ← ht2, ext_seg s 1 3 (by omega) (by omega), ext_seg s 4 (4 + m) (by omega) (by omega), str_data]
      simp
    rw [hq]
    have hsl1 : ∀ W, (Instr.slice 9 (.string s) (some (.int .i64 1)) (some (.int .i64 3)) none).run Tryd.prog W = .ok (.string t1) W := fun W => by rw [← ht1]; exact sl_lh W 9 s 1 3 1 3 Tryd.underlying9 rfl rfl (by omega) (by omega)
    have hsl2 : ∀ W, (Instr.slice 9 (.string s) (some (.int .i64 4)) (some (.int .i64 (4 + (m : Int)))) none).run Tryd.prog W = .ok (.string t2) W := fun W => by rw [← ht2]; exact sl_lh W 9 s 4 _ 4 (4 + m) Tryd.underlying9 rfl (by omega) (by omega) (by omega)
    have h1s : t1.size ≤ 6 := by rw [← ht1, ByteArray.size_extract]; omega
    have h2s : t2.size ≤ 281474976710656 := by rw [← ht2, ByteArray.size_extract]; omega
    have HE : Hid (∀ X, Below V.heap.size V X → _) := fun X hX => put_node (HX.out X hX).1 (HX.out X hX).2 (Nat.le_refl _) (.int .i64 kd) (.int .i64 0) (.int .i64 (nuL t1.data.toList : Int)) (.string t2) (.int .i64 0)
    have K1 := readNumber_any t1 h1s
    have K2 := clone_any t2 h2s
    generalize (nuL t1.data.toList : Int) = q at *
    have hyl := y.toNat_lt
    generalize hyn : y.toNat = yn at *
    clear hx hy h0 hq hl ht1 ht2 hm hyn
    go_enter Tryd.func68, Tryd.ntmps68
    go_wp2_with fail
    refine (K1 _).mono ?_
    rintro e w2 ⟨rfl, hw2⟩
    subst hw2
    go_wp2_with fail
    refine (K2 _).mono ?_
    rintro e w3 ⟨rfl, hb3⟩
    obtain ⟨g1, b1⟩ := HX.out w3 hb3
    obtain ⟨c0, c1, c2, c3, c4⟩ := cells5 g1
    have f1 : ∀ j, w3.frozen? ⟨w.heap.size, j, none⟩ = false := fun j => frozen_of_heap g1
    have HE3 : Hid _ := HE.out w3 hb3
    clear HE HX g1 b1 hb3 K1 K2
    go_wp2
    exact bodyPost_ret (Tr.results_cell1 rfl _ _ w.heap.size 44 _ (0, 0) _ rfl HE3.out.1 Tryd.underlying44 rfl size91) rfl ⟨rfl, HE3.out.2⟩
end Go.Proofs.YtbdgbefjmfcgcaaDoor.Ix

namespace Go.Proofs.YtbdgbefjmfcgcaaDoor.Ix
open Go.RowKit Go.Lib Go.Deep
set_option maxRecDepth 20000 in
set_option maxHeartbeats 1000000 in
theorem readRef_ge (s : ByteArray) (hs : 32 ≤ s.size) (w : World) : Calls Tryd.prog 70 #[.string s] w fun e w' => e = .returned (rfV (rdR s.data.toList)) ∧ Below w.heap.size w w' := by
  obtain ⟨V, hV, hbV, hV1⟩ := one_new w #[.string { data := #[] }, .string { data := #[] }] 113
  have l1 := heap_lt hV1
  have KC : Hid (∀ t : ByteArray, t.size ≤ 32 → ∀ X, Below V.heap.size V X → Calls Tryd.prog 74 #[.string t] X fun e w' => e = .returned (.string t) ∧ Below V.heap.size V w') := fun t ht X hX => by
    refine (clone_any t (by omega) X).mono ?_
    rintro e w' ⟨rfl, hb⟩
    exact ⟨rfl, hX.trans (hb.mono hX.size)⟩
  have HZ : Hid (∀ X, Below V.heap.size V X → X.cell? ⟨w.heap.size, 0, none⟩ = some (.string { data := #[] }) ∧ X.cell? ⟨w.heap.size, 1, none⟩ = some (.string { data := #[] }) ∧ X.frozen? ⟨w.heap.size, 0, none⟩ = false ∧ X.frozen? ⟨w.heap.size, 1, none⟩ = false) := fun X hX => by
    have g2 := (hX.block _ l1).trans hV1
    exact ⟨(cell_of_heap g2).trans rfl, (cell_of_heap g2).trans rfl, frozen_of_heap g2, frozen_of_heap g2⟩
  have hq : rfV (rdR s.data.toList) = .agg #[.string (s.extract 0 16), .string (s.extract 16 32)] := by
    unfold rfV rdR
    rw [ext_seg s 0 16 (by omega) (by omega), ext_seg s 16 32 (by omega) (by omega)]
  rw [hq]
  obtain ⟨x, hx⟩ : ∃ x, s.extract 0 16 = x := ⟨_, rfl⟩
  obtain ⟨y, hy⟩ : ∃ y, s.extract 16 32 = y := ⟨_, rfl⟩
  have hx1 : x.size ≤ 32 := by rw [← hx, ByteArray.size_extract]; omega
  have hy1 : y.size ≤ 32 := by rw [← hy, ByteArray.size_extract]; omega
  rw [hx, hy]
  have HE : Hid (∀ X, Below V.heap.size V X → ((X.setCell ⟨w.heap.size, 0, none⟩ (.string x)).setCell ⟨w.heap.size, 1, none⟩ (.string y)).heap[w.heap.size]? = some (.cells #[.string x, .string y] 113 (0, 0)) ∧ Below w.heap.size w ((X.setCell ⟨w.heap.size, 0, none⟩ (.string x)).setCell ⟨w.heap.size, 1, none⟩ (.string y))) := fun X hX => by
    refine ⟨Tr.put2A ((hX.block _ l1).trans hV1), ?_⟩
    have h0 := hbV.trans (hX.mono hbV.size)
    exact (h0.setCell (by simp) _).setCell (by simp) _
  have hsA : ∀ W, (Instr.slice 9 (.string s) none (some (.int .i64 16)) none).run Tryd.prog W = .ok (.string x) W := fun W => by rw [← hx]; exact sl_to W 9 s 16 16 Tryd.underlying9 rfl (by omega)
  have hsB : ∀ W, (Instr.slice 9 (.string s) (some (.int .i64 16)) (some (.int .i64 32)) none).run Tryd.prog W = .ok (.string y) W := fun W => by rw [← hy]; exact sl_lh W 9 s 16 32 16 32 Tryd.underlying9 rfl rfl (by omega) (by omega)
  clear hx hy
  have k1 := KC.out x hx1
  have k2 := KC.out y hy1
  have XD : Below V.heap.size V V.drew := (Below.refl _ _).drew
  have K1 : Hid _ := k1
  have K2 : Hid _ := k2
  clear hbV hV1 KC hq k1 k2 hx1 hy1
  go_enter Tryd.func70, Tryd.ntmps70
  go_wp2_with fail
  go_region_held_law (fun _ => True) (first | exact trivial | go_keep) (first | (go_at_call 74; refine (K1.out _ (by assumption)).mono ?_; rintro e w5 ⟨rfl, hb5⟩; obtain ⟨z0, z1, y0, y1⟩ := HZ.out w5 hb5) | (go_at_call 74; refine (K2.out _ (by assumption)).mono ?_; rintro e w5 ⟨rfl, hb5⟩; obtain ⟨z0, z1, y0, y1⟩ := HZ.out w5 hb5))
  all_goals
    obtain ⟨E1, E2⟩ := HE.out w5 hb5
    clear HE HZ K1 K2
    go_wp2
    exact bodyPost_ret (Tr.results_cell1 rfl _ _ w.heap.size 113 _ (0, 0) _ rfl E1 Tryd.underlying113 rfl size48) rfl ⟨rfl, E2⟩
set_option maxRecDepth 20000 in
set_option maxHeartbeats 1000000 in
theorem readDir_any (s : ByteArray) (hs : s.size = 36) (w : World) : Calls Tryd.prog 51 #[.string s] w fun e w' => e = .returned (ndV (rdD s.data.toList)) ∧ Below w.heap.size w w' := by
  have K := fun X => readNode_any s (by omega) (by omega) 1 X
  have hq : rdD s.data.toList = rdN s.data.toList 1 := rfl
  rw [hq]
  generalize rdN s.data.toList 1 = nd at *
  clear hq
  obtain ⟨k0, k1, k2, k3, k4⟩ := nd
  unfold ndV at *
  simp only at *
  obtain ⟨V, hV, hbV, gz⟩ := one_new w #[.int .i64 0, .int .i64 0, .int .i64 0, .string { data := #[] }, .int .i64 0] 44
  have HX : Hid (∀ X, Below V.heap.size V X → X.heap[w.heap.size]? = some (.cells #[.int .i64 0, .int .i64 0, .int .i64 0, .string { data := #[] }, .int .i64 0] 44 (0, 0)) ∧ Below w.heap.size w X) := fun X hX => ⟨(hX.block _ (heap_lt gz)).trans gz, below_on hX hbV⟩
  clear gz hbV
  go_enter Tryd.func51, Tryd.ntmps51
  go_wp2_with fail
  refine (K _).mono ?_
  rintro e w3 ⟨rfl, hb3⟩
  obtain ⟨g1, b1⟩ := HX.out w3 hb3
  obtain ⟨c0, c1, c2, c3, c4⟩ := cells5 g1
  have f1 : ∀ j, w3.frozen? ⟨w.heap.size, j, none⟩ = false := fun j => frozen_of_heap g1
  have HE3 : Hid _ := put_node g1 b1 (Nat.le_refl _) (.int .i64 k0) (.int .i64 k1) (.int .i64 k2) (.string k3) (.int .i64 k4)
  clear HX g1 b1 hb3 K
  go_wp2
  exact bodyPost_ret (Tr.results_cell1 rfl _ _ w.heap.size 44 _ (0, 0) _ rfl HE3.out.1 Tryd.underlying44 rfl size91) rfl ⟨rfl, HE3.out.2⟩
set_option maxRecDepth 20000 in
set_option maxHeartbeats 1000000 in
theorem readFile_any (s : ByteArray) (hs : s.size = 40) (w : World) : Calls Tryd.prog 52 #[.string s] w fun e w' => e = .returned (ndV (rdF s.data.toList)) ∧ Below w.heap.size w w' := by
  have K := fun X => readNode_any s (by omega) (by omega) 2 X
  obtain ⟨t1, ht1⟩ : ∃ t1, s.extract 36 s.size = t1 := ⟨_, rfl⟩
  have h1s : t1.size ≤ 6 := by rw [← ht1, ByteArray.size_extract]; omega
  have hq : rdF s.data.toList = { rdN s.data.toList 2 with sz := (nuL t1.data.toList : Int) } := by
    unfold rdF
    rw [← ht1, ext_seg s 36 s.size (by omega) (by omega), str_data, hs]
  rw [hq]
  have hsl1 : ∀ W, (Instr.slice 9 (.string s) (some (.int .i64 36)) none none).run Tryd.prog W = .ok (.string t1) W := fun W => by rw [← ht1]; exact sl_of W 9 s 36 36 Tryd.underlying9 rfl (by omega)
  have K1 := readNumber_any t1 h1s
  generalize (nuL t1.data.toList : Int) = q at *
  generalize rdN s.data.toList 2 = nd at *
  obtain ⟨k0, k1, k2, k3, k4⟩ := nd
  unfold ndV at *
  simp only at *
  obtain ⟨V, hV, hbV, gz⟩ := one_new w #[.int .i64 0, .int .i64 0, .int .i64 0, .string { data := #[] }, .int .i64 0] 44
  have HX : Hid (∀ X, Below V.heap.size V X → X.heap[w.heap.size]? = some (.cells #[.int .i64 0, .int .i64 0, .int .i64 0, .string { data := #[] }, .int .i64 0] 44 (0, 0)) ∧ Below w.heap.size w X) := fun X hX => ⟨(hX.block _ (heap_lt gz)).trans gz, below_on hX hbV⟩
  have hlV := heap_lt gz
  clear gz hbV hq ht1 h1s
  go_enter Tryd.func52, Tryd.ntmps52
  go_wp2_with fail
  refine (K _).mono ?_
  rintro e w3 ⟨rfl, hb3⟩
  have hls := hb3.size
  go_upto_region 2 with fail
  obtain ⟨W4, hW4, hb4, g4⟩ := one_new w3 #[.int .i64 k0, .int .i64 k1, .int .i64 k2, .string k3, .int .i64 k4] 44
  simp only [hW4]
  obtain ⟨c0, c1, c2, c3, c4⟩ := cells5 g4
  have f1 : ∀ j, W4.frozen? ⟨w3.heap.size, j, none⟩ = false := fun j => frozen_of_heap g4
  obtain ⟨W5, hW5⟩ : ∃ W5, W4.setCell ⟨w3.heap.size, 4, none⟩ (.int .i64 q) = W5 := ⟨_, rfl⟩
  have g5 : W5.heap[w3.heap.size]? = some (.cells #[.int .i64 k0, .int .i64 k1, .int .i64 k2, .string k3, .int .i64 q] 44 (0, 0)) := by rw [← hW5]; exact heap_setCell_same _ _ 4 _ _ _ g4
  have hb5 : Below V.heap.size V W5 := by
    rw [← hW5]
    exact (hb3.trans (hb4.mono hls)).setCell hls _
  obtain ⟨d0, d1, d2, d3, d4⟩ := cells5 g5
  obtain ⟨g1, b1⟩ := HX.out W5 hb5
  obtain ⟨r0, r1, r2, r3, r4⟩ := cells5 g1
  have f2 : ∀ j, W5.frozen? ⟨w.heap.size, j, none⟩ = false := fun j => frozen_of_heap g1
  have HE3 : Hid _ := put_node g1 b1 (Nat.le_refl _) (.int .i64 k0) (.int .i64 k1) (.int .i64 k2) (.string k3) (.int .i64 q)
  clear HX g1 b1 hb3 K hW4 g4 g5 hb4 hb5
  go_wp2_with fail
  refine (K1 _).mono ?_
  rintro e w6 ⟨rfl, hw6⟩
  subst hw6
  go_wp2
  exact bodyPost_ret (Tr.results_cell1 rfl _ _ w.heap.size 44 _ (0, 0) _ rfl HE3.out.1 Tryd.underlying44 rfl size91) rfl ⟨rfl, HE3.out.2⟩
end Go.Proofs.YtbdgbefjmfcgcaaDoor.Ix

namespace Go.Proofs.YtbdgbefjmfcgcaaDoor.Ix
open Go.RowKit Go.Lib Go.Deep
theorem size93 : (Tryd.prog.info? 46).map (·.size) = some 4 := by kernel_rfl
theorem put_obj {w W : World} {g : Nat} {x0 x1 x2 x3 : Value} (h : W.heap[g]? = some (.cells #[x0, x1, x2, x3] 46 (0, 0))) (hb : Below w.heap.size w W) (hg : w.heap.size ≤ g) (y0 y1 y2 y3 : Value) :
    ((((W.setCell ⟨g, 0, none⟩ y0).setCell ⟨g, 1, none⟩ y1).setCell ⟨g, 2, none⟩ y2).setCell ⟨g, 3, none⟩ y3).heap[g]? = some (.cells #[y0, y1, y2, y3] 46 (0, 0)) ∧ Below w.heap.size w ((((W.setCell ⟨g, 0, none⟩ y0).setCell ⟨g, 1, none⟩ y1).setCell ⟨g, 2, none⟩ y2).setCell ⟨g, 3, none⟩ y3) := by
  have h0 := heap_setCell_same _ _ 0 _ _ y0 h
  have h1 := heap_setCell_same _ _ 1 _ _ y1 h0
  have h2 := heap_setCell_same _ _ 2 _ _ y2 h1
  exact ⟨heap_setCell_same _ _ 3 _ _ y3 h2, (((hb.setCell hg _).setCell hg _).setCell hg _).setCell hg _⟩
set_option maxRecDepth 20000 in
set_option maxHeartbeats 1000000 in
theorem readObject_any (s : ByteArray) (hs : s.size = 40) (w : World) : Calls Tryd.prog 56 #[.string s] w fun e w' => e = .returned (obV (rdO s.data.toList)) ∧ Below w.heap.size w w' := by
  have KR := fun X => readRef_ge s (by omega) X
  obtain ⟨x, hx⟩ : ∃ x, str (seg s.data.toList 0 16) = x := ⟨_, rfl⟩
  obtain ⟨y, hy⟩ : ∃ y, str (seg s.data.toList 16 16) = y := ⟨_, rfl⟩
  obtain ⟨t, ht⟩ : ∃ t, s.extract 32 s.size = t := ⟨_, rfl⟩
  have htz : t.size = 8 := by rw [← ht, ByteArray.size_extract]; omega
  have htl : t.data.toList = seg s.data.toList 32 8 := by rw [← ht, ext_seg s 32 s.size (by omega) (by omega), str_data, hs]
  obtain ⟨t1, ht1⟩ : ∃ t1, t.extract 0 4 = t1 := ⟨_, rfl⟩
  obtain ⟨t2, ht2⟩ : ∃ t2, t.extract 4 t.size = t2 := ⟨_, rfl⟩
  have h1l : t1.data.toList = seg s.data.toList 32 4 := by
    rw [← ht1, ext_seg t 0 4 (by omega) (by omega), str_data, htl]
    unfold seg
    simp [List.take_take]
  have h2l : t2.data.toList = seg s.data.toList 36 4 := by
    rw [← ht2, ext_seg t 4 t.size (by omega) (by omega), str_data, htl, htz]
    unfold seg
    simp [List.drop_take, List.drop_drop, List.take_take]
  have h1s : t1.size ≤ 6 := by rw [← ht1, ByteArray.size_extract]; omega
  have h2s : t2.size ≤ 6 := by rw [← ht2, ByteArray.size_extract]; omega
  have h2z : t2.data.toList.length = 4 := by rw [← size_eq, ← ht2, ByteArray.size_extract]; omega
  have hq : obV (rdO s.data.toList) = .agg #[.string x, .string y, .int .i64 (nuL t1.data.toList : Int), .int .i64 ((nuL t2.data.toList : Int) - 1)] := by
    unfold obV rdO
    rw [h1l, h2l, hx, hy]
  rw [hq]
  have hr : rfV (rdR s.data.toList) = .agg #[.string x, .string y] := by
    unfold rfV rdR
    rw [hx, hy]
  rw [hr] at KR
  have KRH : Hid (∀ X, _) := KR
  have hn2 : nuL t2.data.toList < 4294967296 := by have := nuL_lt t2.data.toList; rw [h2z] at this; exact this
  have K1 := readNumber_any t1 h1s
  have K2 := readNumber_any t2 h2s
  have hsA : ∀ W, (Instr.slice 9 (.string s) (some (.int .i64 32)) none none).run Tryd.prog W = .ok (.string t) W := fun W => by rw [← ht]; exact sl_of W 9 s 32 32 Tryd.underlying9 rfl (by omega)
  have hsB : ∀ W, (Instr.slice 9 (.string t) none (some (.int .i64 4)) none).run Tryd.prog W = .ok (.string t1) W := fun W => by rw [← ht1]; exact sl_to W 9 t 4 4 Tryd.underlying9 rfl (by omega)
  have hsC : ∀ W, (Instr.slice 9 (.string t) (some (.int .i64 4)) none none).run Tryd.prog W = .ok (.string t2) W := fun W => by rw [← ht2]; exact sl_of W 9 t 4 4 Tryd.underlying9 rfl (by omega)
  generalize nuL t1.data.toList = q1 at *
  generalize nuL t2.data.toList = q2 at *
  have HK1 : Hid (∀ X, _) := K1
  have HK2 : Hid (∀ X, _) := K2
  obtain ⟨V, hV, hbV, gz⟩ := one_new w #[.string { data := #[] }, .string { data := #[] }, .int .i64 0, .int .i64 0] 46
  have HX : Hid (∀ X, Below V.heap.size V X → X.heap[w.heap.size]? = some (.cells #[.string { data := #[] }, .string { data := #[] }, .int .i64 0, .int .i64 0] 46 (0, 0)) ∧ Below w.heap.size w X) := fun X hX => ⟨(hX.block _ (heap_lt gz)).trans gz, below_on hX hbV⟩
  have hlV : w.heap.size < V.heap.size := heap_lt gz
  clear gz hbV hq hr hx hy ht ht1 ht2 htl h1l h2l K1 K2 KR h1s h2s h2z
  go_enter Tryd.func56, Tryd.ntmps56
  go_upto_region 1 with fail
  go_cut [3, 4] (fun u v wx => ∃ g : Nat, u = .pointer (some ⟨g, 0, none⟩) ∧ v = .string t ∧ Hid (wx.heap[g]? = some (.cells #[.string x, .string y] 113 (0, 0))) ∧ Hid (Below V.heap.size V wx))
  case first =>
    have HN : Hid (∀ w5, Below V.drew.heap.size V.drew w5 → (w5.alloc (.cells #[.string x, .string y] 113)).heap[w5.heap.size]? = some (.cells #[.string x, .string y] 113 (0, 0)) ∧ Below V.heap.size V (w5.alloc (.cells #[.string x, .string y] 113))) := fun w5 h5 => ⟨heap_new _ _, below_alloc (below_on h5 (Below.refl _ _).drew) _⟩
    have HP : Hid (∀ w5, Below (V.drew.alloc (.cells #[.string { data := #[] }, .string { data := #[] }] 113)).heap.size (V.drew.alloc (.cells #[.string { data := #[] }, .string { data := #[] }] 113)) w5 → (w5.cell? ⟨V.heap.size, 0, none⟩ = some (.string { data := #[] }) ∧ w5.cell? ⟨V.heap.size, 1, none⟩ = some (.string { data := #[] }) ∧ w5.frozen? ⟨V.heap.size, 0, none⟩ = false ∧ w5.frozen? ⟨V.heap.size, 1, none⟩ = false) ∧ Hid (((w5.setCell ⟨V.heap.size, 0, none⟩ (.string x)).setCell ⟨V.heap.size, 1, none⟩ (.string y)).heap[V.heap.size]? = some (.cells #[.string x, .string y] 113 (0, 0)) ∧ Below V.heap.size V ((w5.setCell ⟨V.heap.size, 0, none⟩ (.string x)).setCell ⟨V.heap.size, 1, none⟩ (.string y)))) := fun w5 h5 => by
      have ha : Below V.heap.size V (V.drew.alloc (.cells #[.string { data := #[] }, .string { data := #[] }] 113)) := ((Below.refl V.heap.size V).drew).alloc (Nat.le_refl _) _
      have g5 : w5.heap[V.heap.size]? = some (.cells #[.string { data := #[] }, .string { data := #[] }] 113 (0, 0)) := (h5.block _ (show V.heap.size < (V.drew.alloc (.cells #[.string { data := #[] }, .string { data := #[] }] 113)).heap.size by simp)).trans (heap_new V.drew _)
      have hb5 := below_on h5 ha
      exact ⟨⟨(cell_of_heap g5).trans rfl, (cell_of_heap g5).trans rfl, frozen_of_heap g5, frozen_of_heap g5⟩, Tr.put2A g5, (hb5.setCell (Nat.le_refl _) _).setCell (Nat.le_refl _) _⟩
    go_region_held_law (fun _ => True) (first | exact trivial | go_keep) (first | (go_at_call 70; refine (KRH.out _).mono ?_; rintro e w5 ⟨rfl, hb5⟩; (first | (have HE5 := HN.out w5 hb5) | (obtain ⟨⟨z0, z1, y0, y1⟩, HE5⟩ := HP.out w5 hb5))))
    all_goals
      have HE6 : Hid _ := HE5
      clear HE5 hb5
      go_wp2_with fail
      go_meet
      first | exact ⟨_, rfl, rfl, HE6.out.1, HE6.out.2⟩ | exact ⟨_, rfl, rfl, HE6.out.out.1, HE6.out.out.2⟩
  case rest =>
  obtain ⟨g, rfl, rfl, HG, HB⟩ := hcut
  have hgne : w.heap.size ≠ g := ty_ne (HX.out wc HB.out).1 HG.out (by decide)
  obtain ⟨r0, r1⟩ := cells2 HG.out
  obtain ⟨g1, b1⟩ := HX.out wc HB.out
  obtain ⟨c0, c1, c2, c3⟩ := cells4 g1
  have f1 : ∀ j, wc.frozen? ⟨w.heap.size, j, none⟩ = false := fun j => frozen_of_heap g1
  have hgd : wc.drew.heap[w.heap.size]? = some (.cells #[.string { data := #[] }, .string { data := #[] }, .int .i64 0, .int .i64 0] 46 (0, 0)) := g1
  have HE : Hid _ := put_obj hgd b1.drew (Nat.le_refl _) (.string x) (.string y) (.int .i64 (q1 : Int)) (.int .i64 ((q2 : Int) - 1))
  have HK : Hid (∀ X, X = wc.drew → ((((X.setCell ⟨w.heap.size, 0, none⟩ (.string x)).setCell ⟨w.heap.size, 1, none⟩ (.string y)).setCell ⟨w.heap.size, 2, none⟩ (.int .i64 (q1 : Int))).setCell ⟨w.heap.size, 3, none⟩ (.int .i64 ((q2 : Int) - 1))).cell? ⟨g, 0, none⟩ = some (.string x) ∧ ((((X.setCell ⟨w.heap.size, 0, none⟩ (.string x)).setCell ⟨w.heap.size, 1, none⟩ (.string y)).setCell ⟨w.heap.size, 2, none⟩ (.int .i64 (q1 : Int))).setCell ⟨w.heap.size, 3, none⟩ (.int .i64 ((q2 : Int) - 1))).cell? ⟨g, 1, none⟩ = some (.string y)) := fun X hX => by
    subst hX
    have hn : g ≠ w.heap.size := fun e => hgne e.symm
    refine cells2 (t := 113) ?_
    rw [heap_setCell_other _ _ _ _ hn, heap_setCell_other _ _ _ _ hn, heap_setCell_other _ _ _ _ hn, heap_setCell_other _ _ _ _ hn]
    exact HG.out
  have hw2 : IntKind.i64.wrap ((q2 : Int) - 1) = (q2 : Int) - 1 := by rw [IntKind.wrap_i64]; omega
  clear hV HX g1 b1 hgd
  go_wp2_with fail
  go_region_held_law (fun X => X.cell? ⟨g, 0, none⟩ = some (.string x) ∧ X.cell? ⟨g, 1, none⟩ = some (.string y)) (first | with_reducible exact HK.out _ rfl | go_keep) (first | (go_at_call 59; with_reducible refine (HK1.out _).mono ?_; rintro e w6 ⟨rfl, hw6⟩; subst hw6) | (go_at_call 59; with_reducible refine (HK2.out _).mono ?_; rintro e w6 ⟨rfl, hw6⟩; subst hw6))
  all_goals
    go_wp2
    exact bodyPost_ret (Tr.results_cell1 rfl _ _ w.heap.size 46 _ (0, 0) _ rfl HE.out.1 Tryd.underlying46 rfl size93) rfl ⟨rfl, HE.out.2⟩
end Go.Proofs.YtbdgbefjmfcgcaaDoor.Ix
