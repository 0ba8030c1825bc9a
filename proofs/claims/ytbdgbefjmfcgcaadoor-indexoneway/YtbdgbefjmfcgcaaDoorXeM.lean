import Derived.Test.YtbdgbefjmfcgcaaDoorXaM
import Derived.Test.YtbdgbefjmfcgcaaDoorIxZc
import Derived.Deep.DeepCutAuto
import Derived.Test.YtbdgbefjmfcgcaaDoorNfM
import Derived.Lib.AppendZerosOnto
namespace Go.Proofs.YtbdgbefjmfcgcaaDoor.Ix
open Go.RowKit Go.Lib Go.Deep
theorem numd_app (f : Int) : ∀ (A B : List Nd), numd f (A ++ B) = numd f A ++ numd (f + (A.length : Int)) B
  | [], B => by simp [numd]
  | n :: A, B => by
    rw [List.cons_append, numd, numd, numd_app (f + 1) A B, List.length_cons, show f + 1 + (A.length : Int) = f + ((A.length + 1 : Nat) : Int) by omega]
    split <;> simp
theorem numd_len (f : Int) : ∀ (A : List Nd), (numd f A).length ≤ A.length
  | [] => by simp [numd]
  | n :: A => by
    rw [numd, List.length_cons]
    have := numd_len (f + 1) A
    split
    · omega
    · rw [List.length_cons]; omega
set_option maxRecDepth 20000 in
set_option maxHeartbeats 1000000 in
/-- nodes that are there, each with its number -/
theorem numbered_any (A : List Nd) (f : Int) (hf : 0 ≤ f ∧ f ≤ 1) (w : World) (a : Option Addr) (n k : Nat) (hS : See w 5 (.slice a n k) n (ndsC A)) (hn : A.length = n) (hnb : n ≤ 100000) :
    Calls Tryd.prog 54 #[.slice a n k, .int .i64 f] w fun e w' => ∃ v, e = .returned v ∧ w'.ownsRow w.heap.size 44 5 v (numd f A).length (ndsC (numd f A)) ∧ Below w.heap.size w w' := by
  obtain ⟨i0, hi, hz0, hz1, hz2⟩ := info_parts info91
  have HS : Hid (∀ X, Below w.heap.size w X → See X 5 (.slice a n k) n (ndsC A)) := fun X hX => hS.below hX
  clear hS
  go_enter Tryd.func54, Tryd.ntmps54
  go_wp2_with fail
  go_loopg [5, 10] n (fun gk v iv wr => ∃ i : Nat, i + gk = n ∧ iv = .int .i64 (i : Int) ∧ Hid (wr.ownsRow w.heap.size 44 5 v (numd f (A.take i)).length (ndsC (numd f (A.take i)))) ∧ Hid (Below w.heap.size w wr))
  case atStart => exact ⟨0, by omega, rfl, World.ownsRow_nil _ _ _ _, Below.refl _ _⟩
  case round =>
    obtain ⟨i, hi', rfl, HO, HB⟩ := hrel
    by_cases hlt : i < n
    · have hltI : (i : Int) < (n : Int) := by omega
      obtain ⟨x, hx⟩ : ∃ x, A[i]? = some x := ⟨_, List.getElem?_eq_getElem (by omega)⟩
      obtain ⟨b, off, rfl, hbl, hc⟩ := (HS.out wr HB.out).row ndC_len (by decide) hx
      have hnx : numd f (A.take (i + 1)) = numd f (A.take i) ++ numd (f + (i : Int)) [x] := by
        rw [List.take_add_one, hx, numd_app, List.length_take, hn, show min i n = i by omega]
        rfl
      obtain ⟨kd, nu, pa, nm, sz⟩ := x
      have c0 : wr.cell? ⟨b, off + i * 5, none⟩ = some (.int .i64 kd) := hc 0 _ rfl
      have c1 : wr.cell? ⟨b, off + i * 5 + 1, none⟩ = some (.int .i64 nu) := hc 1 _ rfl
      have c2 : wr.cell? ⟨b, off + i * 5 + 2, none⟩ = some (.int .i64 pa) := hc 2 _ rfl
      have c3 : wr.cell? ⟨b, off + i * 5 + 3, none⟩ = some (.string nm) := hc 3 _ rfl
      have c4 : wr.cell? ⟨b, off + i * 5 + 4, none⟩ = some (.int .i64 sz) := hc 4 _ rfl
      clear hc hx
      go_upto_region 5 with fail
      obtain ⟨W7, hW7, hb7, g7⟩ := one_new wr #[.int .i64 kd, .int .i64 nu, .int .i64 pa, .string nm, .int .i64 sz] 44
      simp only [hW7]
      obtain ⟨x0c, x1c, x2c, x3c, x4c⟩ := cells5 g7
      have f7 : ∀ j, W7.frozen? ⟨wr.heap.size, j, none⟩ = false := fun j => frozen_of_heap g7
      have HB7 : Hid (Below w.heap.size w W7) := below_on hb7 HB.out
      clear hW7 c0 c1 c2 c3 c4
      by_cases hk : kd = 0
      · have hnum : numd f (A.take (i + 1)) = numd f (A.take i) := by rw [hnx, numd, if_pos hk]; simp [numd]
        have HO2 : Hid (W7.ownsRow w.heap.size 44 5 u5 (numd f (A.take (i + 1))).length (ndsC (numd f (A.take (i + 1))))) := by
          show World.ownsRow _ _ _ _ _ _ _
          rw [hnum]
          exact owns_below HO.out hb7
        clear hnx hnum g7 hb7
        go_wp2
        go_roundg (gk - 1)
        case measure => omega
        case rel => exact ⟨i + 1, by omega, rfl, HO2.out, HB7.out⟩
      · have hnum : numd f (A.take (i + 1)) = numd f (A.take i) ++ [⟨kd, f + (i : Int), pa, nm, sz⟩] := by rw [hnx, numd, if_neg hk]; simp [numd]
        obtain ⟨L, hL⟩ : ∃ L, numd f (A.take i) = L := ⟨_, rfl⟩
        have hLl : L.length ≤ 100000 := by
          have := numd_len f (A.take i)
          rw [List.length_take] at this
          rw [← hL]
          omega
        obtain ⟨W8, hW8⟩ : ∃ W8, W7.setCell ⟨wr.heap.size, 1, none⟩ (.int .i64 (f + (i : Int))) = W8 := ⟨_, rfl⟩
        have g8 : W8.heap[wr.heap.size]? = some (.cells #[.int .i64 kd, .int .i64 (f + (i : Int)), .int .i64 pa, .string nm, .int .i64 sz] 44 (0, 0)) := by rw [← hW8]; exact heap_setCell_same _ _ 1 _ _ _ g7
        have hb8 : Below wr.heap.size wr W8 := by rw [← hW8]; exact hb7.setCell (Nat.le_refl _) _
        obtain ⟨d0, d1, d2, d3, d4⟩ := cells5 g8
        have HB8 : Hid (Below w.heap.size w W8) := below_on hb8 HB.out
        rw [hL] at hnum HO
        have HO8 : Hid (W8.ownsRow w.heap.size 44 5 u5 L.length (ndsC L)) := owns_below HO.out hb8
        have ho := fun o => owns_below HO8.out ((Below.refl W8.heap.size W8).alloc (Nat.le_refl _) o)
        have h1c : ∀ u ∈ [.int .i64 kd, .int .i64 (f + (i : Int)), .int .i64 pa, .string nm, .int .i64 sz], Value.oneCell' u = true := by simp [Value.oneCell']
        have hlw : w.heap.size ≤ W8.heap.size := HB8.out.size
        have HE : Hid (∀ w' v' o, (W8.alloc o).grownBy w' (u5).ownBlock → w'.ownsRow w.heap.size 44 5 v' (L.length + 1) (ndsC L ++ [.int .i64 kd, .int .i64 (f + (i : Int)), .int .i64 pa, .string nm, .int .i64 sz]) → w'.ownsRow w.heap.size 44 5 v' (numd f (A.take (i + 1))).length (ndsC (numd f (A.take (i + 1)))) ∧ Below w.heap.size w w') := fun w' v' o hg ho' => by
          have hbo : Below w.heap.size w (W8.alloc o) := HB8.out.alloc hlw o
          refine ⟨?_, hbo.trans (grown_below hg hbo.size (ho o))⟩
          rw [hnum, List.length_append, show ndsC (L ++ [⟨kd, f + (i : Int), pa, nm, sz⟩]) = ndsC L ++ [.int .i64 kd, .int .i64 (f + (i : Int)), .int .i64 pa, .string nm, .int .i64 sz] by simp [ndsC, ndC]]
          exact ho'
        clear hnx hnum g7 hb7 g8 hb8 hL HO
        go_wp2_with (first | (at_builtin; refine wpList_append_own _ rfl _ _ 26 rfl w.heap.size 44 i0 (.agg #[.int .i64 0, .int .i64 0, .int .i64 0, .string { data := #[] }, .int .i64 0]) 5 48 Tryd.underlying26 hi hz0 hz1 hz2 rfl (by decide) _ _ _ rfl (ho _) ⟨_, 0, none⟩ 1 1 [.int .i64 kd, .int .i64 (f + (i : Int)), .int .i64 pa, .string nm, .int .i64 sz] rfl rfl (by intro j u h; exact cells_new _ #[.int .i64 kd, .int .i64 (f + (i : Int)), .int .i64 pa, .string nm, .int .i64 sz] 44 j u (by simpa using h)) h1c (by unfold maxLen; omega) (by omega) (by simp; omega) ?_; intro v' w' hown' hgrow' _; have HR : Hid _ := HE.out w' _ _ hgrow' hown'; clear hown' hgrow'))
        go_roundg (gk - 1)
        case measure => omega
        case rel => exact ⟨i + 1, by omega, rfl, HR.out.1, HR.out.2⟩
    · obtain rfl : i = n := by omega
      have hltI : ¬ (i : Int) < (i : Int) := by omega
      have HO2 : Hid (wr.ownsRow w.heap.size 44 5 u5 (numd f A).length (ndsC (numd f A))) := by
        have := HO.out
        rw [List.take_of_length_le (by omega)] at this
        exact this
      go_wp2
      go_ret
      exact ⟨_, rfl, HO2.out, HB.out⟩
end Go.Proofs.YtbdgbefjmfcgcaaDoor.Ix

namespace Go.Proofs.YtbdgbefjmfcgcaaDoor.Ix
open Go.RowKit Go.Lib Go.Deep
theorem idx_arr {P : Program} (w : World) (t e : TypeId) (n : Nat) (cs : Array Value) (k kd : IntKind) (i : Nat) (v : Value) (h : P.underlying t = some (.array n e)) (he : P.underlying e = some (.int kd)) (hs : (P.info? e).map (·.size) = some 1)
    (hi : i < n) (hv : cs[i]? = some v) : (Instr.index t (.agg cs) (.int k (i : Int))).run P w = .ok v w := by
  have hagg : (isAgg e).run P w = .ok false w := by
    unfold isAgg
    rw [Sem.run_bind, run_underlying he w]
    rfl
  cases hq : P.info? e with
  | none => simp [hq] at hs
  | some q =>
    have hz : q.size = 1 := by simpa [hq] using hs
    simp [Instr.index, asIntOf, run_underlying h, hi, sizeOf, typeInfo, hq, hz, part, hagg, hv]
/-- rows, so many of them read -/
def prtG {α : Type} (z : α) (f : Nat → α) (m i : Nat) : List α := (List.range m).map fun j => if j < i then f j else z
theorem prtG_zero {α : Type} (z : α) (f : Nat → α) (m : Nat) : prtG z f m 0 = List.replicate m z := by
  unfold prtG
  rw [List.eq_replicate_iff]
  exact ⟨by simp, fun b hb => by
    obtain ⟨j, -, e⟩ := List.mem_map.1 hb
    rw [if_neg (by omega)] at e
    exact e.symm⟩
theorem prtG_all {α : Type} (z : α) (f : Nat → α) (m : Nat) : prtG z f m m = (List.range m).map f := by
  unfold prtG
  apply List.map_congr_left
  intro j hj
  rw [if_pos (List.mem_range.1 hj)]
theorem prtG_get {α : Type} (z : α) (f : Nat → α) {m i : Nat} (h : i < m) : (prtG z f m i)[i]? = some z := by
  unfold prtG
  rw [List.getElem?_map, List.getElem?_range h]
  simp
theorem prtG_set {α : Type} (z : α) (f : Nat → α) (m i : Nat) : (prtG z f m i).set i (f i) = prtG z f m (i + 1) := by
  unfold prtG
  apply List.ext_getElem
  · simp
  · intro j h1 h2
    rw [List.getElem_set]
    simp only [List.getElem_map, List.getElem_range]
    by_cases e : i = j
    · subst e
      rw [if_pos rfl, if_pos (by omega)]
    · rw [if_neg e]
      by_cases h : j < i
      · rw [if_pos h, if_pos (by omega)]
      · rw [if_neg h, if_neg (by omega)]
theorem rows_map {α : Type} (f : List UInt8 → α) (I : List UInt8) (st sz m : Nat) : (rowsA I st sz m).map f = (List.range m).map fun j => f (seg I (st + j * sz) sz) := by
  unfold rowsA
  rw [List.map_map]
  rfl
theorem two_ext (s : ByteArray) (p z : Nat) (h : p + z ≤ s.size) : (s.extract p s.size).size = s.size - p ∧ ((s.extract p s.size).extract 0 z).size = z ∧ ((s.extract p s.size).extract 0 z).data.toList = seg s.data.toList p z := by
  have h1 : (s.extract p s.size).size = s.size - p := by rw [ByteArray.size_extract]; omega
  refine ⟨h1, by rw [ByteArray.size_extract]; omega, ?_⟩
  rw [ext_seg _ 0 z (by omega) (by omega), str_data, ext_seg s p s.size (by omega) (by omega), str_data]
  have hl := size_eq s
  unfold seg
  rw [List.drop_zero, Nat.sub_zero, List.take_take, Nat.min_eq_left (by omega)]
def zO : Ob := ⟨{ data := #[] }, { data := #[] }, 0, 0⟩
def put4 (W : World) (g o : Nat) (x : Ob) : World := (((W.setCell ⟨g, o, none⟩ (.string x.nm)).setCell ⟨g, o + 1, none⟩ (.string x.tg)).setCell ⟨g, o + 2, none⟩ (.int .i64 x.bk)).setCell ⟨g, o + 3, none⟩ (.int .i64 x.ow)
theorem obs_put {w : World} {B g cap N : Nat} {l : List Ob} (h : w.ownsRow B 46 4 (.slice (some ⟨g, 0, none⟩) N cap) N (obsC l)) {i : Nat} {was : Ob} (hi : l[i]? = some was) (x : Ob) :
    (put4 w g (i * 4) x).ownsRow B 46 4 (.slice (some ⟨g, 0, none⟩) N cap) N (obsC (l.set i x)) := by
  have hl := some_lt hi
  have h1 := h.stored (i * 4) (.string x.nm)
  rw [show obsC l = l.flatMap obC from rfl, show i * 4 = i * 4 + 0 by omega, flat_set obC 4 obC_len l i _ ⟨x.nm, was.tg, was.bk, was.ow⟩ hi 0 (.string x.nm) (by omega) rfl] at h1
  have h2 := h1.1.stored (i * 4 + 1) (.string x.tg)
  rw [flat_set obC 4 obC_len _ i ⟨x.nm, was.tg, was.bk, was.ow⟩ ⟨x.nm, x.tg, was.bk, was.ow⟩ (by rw [List.getElem?_set_self hl]) 1 (.string x.tg) (by omega) rfl, List.set_set] at h2
  have h3 := h2.1.stored (i * 4 + 2) (.int .i64 x.bk)
  rw [flat_set obC 4 obC_len _ i ⟨x.nm, x.tg, was.bk, was.ow⟩ ⟨x.nm, x.tg, x.bk, was.ow⟩ (by rw [List.getElem?_set_self hl]) 2 (.int .i64 x.bk) (by omega) rfl, List.set_set] at h3
  have h4 := h3.1.stored (i * 4 + 3) (.int .i64 x.ow)
  rw [flat_set obC 4 obC_len _ i ⟨x.nm, x.tg, x.bk, was.ow⟩ x (by rw [List.getElem?_set_self hl]) 3 (.int .i64 x.ow) (by omega) rfl, List.set_set] at h4
  exact h4.1
theorem info93' : (Tryd.prog.info? 46).map (fun i => (i.zero, i.size, i.bytes)) = some (some (.agg #[.string { data := #[] }, .string { data := #[] }, .int .i64 0, .int .i64 0]), 4, 48) := by kernel_rfl
theorem make_objs (n : Nat) (hn : n ≤ 100000) (w : World) : (Instr.makeSlice 30 (.int .i64 (n : Int)) (.int .i64 (n : Int))).run Tryd.prog w = .ok (.slice (some ⟨w.heap.size, 0, none⟩) n n) (w.alloc (.cells (madeCells #[.string { data := #[] }, .string { data := #[] }, .int .i64 0, .int .i64 0] (n * 4)) 46)) := by
  obtain ⟨i0, hi, hz0, hz1, hz2⟩ := info_parts info93'
  have h := run_make (P := Tryd.prog) w 30 46 i0 (.agg #[.string { data := #[] }, .string { data := #[] }, .int .i64 0, .int .i64 0]) Tryd.underlying30 hi hz0 .i64 .i64 n n (by omega) (by omega) (by rw [hz2]; omega) (by omega)
  simpa [hz1, Value.cells] using h
theorem made_objs (n : Nat) (hn : n ≤ 100000) (w : World) : World.ownsRow (w.alloc (.cells (madeCells #[.string { data := #[] }, .string { data := #[] }, .int .i64 0, .int .i64 0] (n * 4)) 46)) w.heap.size 46 4 (.slice (some ⟨w.heap.size, 0, none⟩) n n) n (obsC (List.replicate n zO)) := by
  have e : (madeCells #[.string { data := #[] }, .string { data := #[] }, .int .i64 0, .int .i64 0] (n * 4)).toList = obsC (List.replicate n zO) := by
    apply List.ext_getElem
    · rw [Array.length_toList, size_madeCells, obs_len, List.length_replicate]
    · intro i h1 h2
      have h3 : i < n * 4 := by rw [obs_len] at h2; simpa using h2
      have hg := flat_get obC 4 obC_len (List.replicate n zO) (i / 4) zO (by rw [List.getElem?_replicate, if_pos (by omega)]) (i % 4) (by omega)
      rw [show i / 4 * 4 + i % 4 = i by omega] at hg
      have e1 : (obsC (List.replicate n zO))[i]? = (obC zO)[i % 4]? := hg
      rw [List.getElem?_eq_getElem h2] at e1
      have e2 : (obC zO)[i % 4]? = some ((#[.string { data := #[] }, .string { data := #[] }, .int .i64 0, .int .i64 0] : Array Value).getD (i % 4) default) := by
        rcases (show i % 4 = 0 ∨ i % 4 = 1 ∨ i % 4 = 2 ∨ i % 4 = 3 by omega) with h | h | h | h <;> rw [h] <;> rfl
      rw [e2] at e1
      rw [Option.some.inj e1]
      simp [madeCells]
  refine ⟨by rw [obs_len, List.length_replicate], .inr ⟨w.heap.size, n, _, rfl, Nat.le_refl _, heap_new w _, Nat.le_refl _, by unfold maxLen; omega, ?_, ?_⟩⟩
  · rw [← Array.length_toList, e, obs_len, List.length_replicate]
  · rw [e]
    exact List.take_of_length_le (by rw [obs_len, List.length_replicate]; omega)
theorem ob_at {w : World} {B g n cap : Nat} {l : List Ob} {q : Nat} {x : Ob} (h : w.ownsRow B 46 4 (.slice (some ⟨g, 0, none⟩) n cap) n (obsC l)) (hq : l[q]? = some x) : (w.cell? ⟨g, q * 4, none⟩ = some (.string x.nm) ∧ w.cell? ⟨g, q * 4 + 1, none⟩ = some (.string x.tg) ∧ w.cell? ⟨g, q * 4 + 2, none⟩ = some (.int .i64 x.bk) ∧ w.cell? ⟨g, q * 4 + 3, none⟩ = some (.int .i64 x.ow)) ∧ ∀ j, w.frozen? ⟨g, j, none⟩ = false := by
  obtain ⟨b, off, e, -, hc⟩ := (see_own h (obs_one _)).row obC_len (by decide) hq
  injection e with e
  injection e with e1 e2 _
  subst e1 e2
  obtain ⟨cur, hcur⟩ := owns_block h rfl
  have z0 := hc 0 _ rfl
  have z1 := hc 1 _ rfl
  have z2 := hc 2 _ rfl
  have z3 := hc 3 _ rfl
  simp only [Nat.zero_add, Nat.add_zero] at z0 z1 z2 z3
  exact ⟨⟨z0, z1, z2, z3⟩, fun j => frozen_of_heap hcur⟩
theorem int_at {w : World} {B g n cap : Nat} {l : List Int} {q : Nat} {x : Int} (h : w.ownsRow B 3 1 (.slice (some ⟨g, 0, none⟩) n cap) n (zsC l)) (hq : l[q]? = some x) : w.cell? ⟨g, q, none⟩ = some (.int .i64 x) ∧ ∀ j, w.frozen? ⟨g, j, none⟩ = false := by
  obtain ⟨b, off, e, -, hc⟩ := (see_own h (zs_one _)).z hq
  injection e with e
  injection e with e1 e2 _
  subst e1 e2
  obtain ⟨cur, hcur⟩ := owns_block h rfl
  rw [Nat.zero_add] at hc
  exact ⟨hc, fun j => frozen_of_heap hcur⟩
theorem int_put {w : World} {B g n cap i : Nat} {l : List Int} (h : w.ownsRow B 3 1 (.slice (some ⟨g, 0, none⟩) n cap) n (zsC l)) (x : Int) : (w.setCell ⟨g, i, none⟩ (.int .i64 x)).ownsRow B 3 1 (.slice (some ⟨g, 0, none⟩) n cap) n (zsC (l.set i x)) := by
  have := owns_set (j := i) (.int .i64 x) h
  rw [show zsC (l.set i x) = (zsC l).set i (.int .i64 x) by simp [zsC, List.map_set]]
  exact this
theorem made_intsR (n : Nat) (hn : n ≤ 1000000) (X : World) : (X.alloc (.cells (madeCells #[.int .i64 0] n) 3)).ownsRow X.heap.size 3 1 (.slice (some ⟨X.heap.size, 0, none⟩) n n) n (zsC (List.replicate n 0)) := by
  refine ⟨by simp [zsC], .inr ⟨X.heap.size, n, _, rfl, Nat.le_refl _, heap_new X _, Nat.le_refl _, by unfold maxLen; omega, ?_, ?_⟩⟩
  · rw [size_madeCells, Nat.mul_one]
  · rw [made_ints, Nat.mul_one, List.take_of_length_le (by simp [zsC])]
set_option maxRecDepth 20000 in
set_option maxHeartbeats 1500000 in
theorem rr_dir (sl fl dr mf ls pg : Nat) (hc : Cn.In ⟨sl, fl, dr, mf, ls, pg⟩) (s : ByteArray) (hs : Cn.len ⟨sl, fl, dr, mf, ls, pg⟩ ≤ s.size) (hsz : s.size ≤ 1099511000000) (w : World) (hT : RT w) :
    Calls Tryd.prog 50 #[.agg #[.int .i64 (sl : Int), .int .i64 (fl : Int), .int .i64 (dr : Int), .int .i64 (mf : Int), .int .i64 (ls : Int), .int .i64 (pg : Int)], .string s, .int .i64 0, .func (.func 51) #[] #[]] w fun e w' => ∃ a c, e = .returned (.slice a (dr) c) ∧ w'.ownsRow w.heap.size 44 5 (.slice a (dr) c) (dr) (ndsC ((rowsA s.data.toList (0) 36 (dr)).map rdD)) ∧ Below w.heap.size w w' := by
  have hlim : dr ≤ 4096 ∧ fl ≤ 65536 ∧ sl ≤ 64 := ⟨hc.2.2.2.2.1, hc.2.2.2.1, hc.2.1⟩
  have hln : Cn.len ⟨sl, fl, dr, mf, ls, pg⟩ = 36 * dr + 40 * fl + 44 * (fl + sl) + 4 := rfl
  rw [hln] at hs
  rw [rows_map]
  obtain ⟨F, hF⟩ : ∃ F : Nat → _, (fun j => (rdD) (seg s.data.toList ((0) + j * 36) 36)) = F := ⟨_, rfl⟩
  rw [show ((List.range (dr)).map fun j => (rdD) (seg s.data.toList ((0) + j * 36) 36)) = (List.range (dr)).map F by rw [hF]]
  have KC := fun X => rowCounts_any sl fl dr mf ls pg hc X
  unfold rcA at KC
  have KS := fun X hX => startOf_any sl fl dr mf ls pg 0 (by omega) hc X hX
  rw [show staL fl sl dr 0 = 0 from rfl] at KS
  have hfit : 0 + dr * 36 ≤ s.size := by omega
  have hn1 : dr ≤ 70000 := by omega
  have KF0 : Hid (∀ i, i < dr → ∀ s2 : ByteArray, s2.size = 36 → s2.data.toList = seg s.data.toList (0 + i * 36) 36 → ∀ X, Calls Tryd.prog 51 #[.string s2] X fun e w' => e = .returned (ndV (F i)) ∧ Below X.heap.size X w') := fun i hi s2 hs2z hs2 X => by
    have hFi : F i = (rdD) (seg s.data.toList (0 + i * 36) 36) := by rw [← hF]
    rw [hFi, ← hs2]
    exact readDir_any s2 hs2z X
  clear hF
  obtain ⟨V, hV, hbV, g0⟩ := one_new w #[.int .i64 (sl : Int), .int .i64 (fl : Int), .int .i64 (dr : Int), .int .i64 (mf : Int), .int .i64 (ls : Int), .int .i64 (pg : Int)] 23
  have HX : Hid (∀ X, Below V.heap.size V X → (X.cell? ⟨w.heap.size, 0, none⟩ = some (.int .i64 (sl : Int)) ∧ X.cell? ⟨w.heap.size, 1, none⟩ = some (.int .i64 (fl : Int)) ∧ X.cell? ⟨w.heap.size, 2, none⟩ = some (.int .i64 (dr : Int)) ∧ X.cell? ⟨w.heap.size, 3, none⟩ = some (.int .i64 (mf : Int)) ∧ X.cell? ⟨w.heap.size, 4, none⟩ = some (.int .i64 (ls : Int)) ∧ X.cell? ⟨w.heap.size, 5, none⟩ = some (.int .i64 (pg : Int))) ∧ RT X ∧ Below w.heap.size w X) := fun X hX => ⟨cells6 ((hX.block _ (heap_lt g0)).trans g0), hT.next (below_on hX hbV), below_on hX hbV⟩
  obtain ⟨⟨y0, y1, y2, y3, y4, y5⟩, -, -⟩ := HX.out V (Below.refl _ _)
  obtain ⟨z2, h2⟩ : ∃ z : Int, ((fl + sl : Nat) : Int) = z := ⟨_, rfl⟩
  obtain ⟨z3, h3⟩ : ∃ z : Int, ((1 + (fl + sl) : Nat) : Int) = z := ⟨_, rfl⟩
  rw [h2, h3] at KC
  have hidx : ∀ W, (Instr.index 108 (.agg #[.int .i64 (dr : Int), .int .i64 (fl : Int), .int .i64 z2, .int .i64 z3]) (.int .i64 0)).run Tryd.prog W = .ok (.int .i64 (dr : Int)) W := fun W => by
    have := idx_arr W 108 3 4 #[.int .i64 (dr : Int), .int .i64 (fl : Int), .int .i64 z2, .int .i64 z3] .i64 .i64 0 _ Tryd.underlying108 Tryd.underlying3 size3 (by decide) rfl
    exact this
  clear h2 h3
  have hmk := make_nodes dr (by omega)
  have HMK : Hid (∀ X : World, (X.alloc (.cells (madeCells #[.int .i64 0, .int .i64 0, .int .i64 0, .string { data := #[] }, .int .i64 0] (dr * 5)) 44)).ownsRow X.heap.size 44 5 (.slice (some ⟨X.heap.size, 0, none⟩) dr dr) dr (ndsC (prtG zN F dr 0))) := fun X => by rw [prtG_zero]; exact made_nodes dr (by omega) X
  generalize (madeCells #[.int .i64 0, .int .i64 0, .int .i64 0, .string { data := #[] }, .int .i64 0] (dr * 5)) = mcs at *
  have hVs := hbV.size
  clear g0 hbV hT hc hs hln
  go_enter Tryd.func50, Tryd.ntmps50
  go_wp2_with fail
  refine (KC _).mono ?_
  rintro e w1 ⟨rfl, hb1⟩
  obtain ⟨W2, hW2⟩ : ∃ W2, w1.alloc (.cells mcs 44) = W2 := ⟨_, rfl⟩
  have HO2 : Hid (W2.ownsRow V.heap.size 44 5 (.slice (some ⟨w1.heap.size, 0, none⟩) dr dr) dr (ndsC (prtG zN F dr 0)) ∧ Below V.heap.size V W2) := ⟨by rw [← hW2]; exact owns_base (HMK.out w1) hb1.size, by rw [← hW2]; exact below_alloc hb1 _⟩
  have hgV : V.heap.size ≤ w1.heap.size := hb1.size
  clear KC hb1 y0 y1 y2 y3 y4 y5 hV
  obtain ⟨⟨y0, y1, y2, y3, y4, y5⟩, hR2, -⟩ := HX.out W2 HO2.out.2
  obtain ⟨x0, x1, x2, x3⟩ := hR2.cells
  have KS2 : Hid (∀ X, Below W2.heap.size W2 X → _) := fun X hX => KS X (hR2.next hX)
  have HRC : Hid (∀ X, Below W2.heap.size W2 X → X.cell? ⟨0, 0, none⟩ = some (.int .i64 36) ∧ X.cell? ⟨w.heap.size, 0, none⟩ = some (.int .i64 (sl : Int)) ∧ X.cell? ⟨w.heap.size, 1, none⟩ = some (.int .i64 (fl : Int)) ∧ X.cell? ⟨w.heap.size, 2, none⟩ = some (.int .i64 (dr : Int)) ∧ X.cell? ⟨w.heap.size, 3, none⟩ = some (.int .i64 (mf : Int)) ∧ X.cell? ⟨w.heap.size, 4, none⟩ = some (.int .i64 (ls : Int)) ∧ X.cell? ⟨w.heap.size, 5, none⟩ = some (.int .i64 (pg : Int))) := fun X hX => by
    have hh := (hR2.next hX).cells
    exact ⟨hh.1, (HX.out X (below_on hX HO2.out.2)).1⟩
  clear KS hR2
  go_upto_region 2 with fail
  go_cut [10, 11] (fun u v wx => u = .int .i64 (0 : Int) ∧ v = .int .i64 36 ∧ Hid (Below W2.heap.size W2 wx))
  case first =>
    go_region_held_law (fun X => X.cell? ⟨0, 0, none⟩ = some (.int .i64 36) ∧ X.cell? ⟨w.heap.size, 0, none⟩ = some (.int .i64 (sl : Int)) ∧ X.cell? ⟨w.heap.size, 1, none⟩ = some (.int .i64 (fl : Int)) ∧ X.cell? ⟨w.heap.size, 2, none⟩ = some (.int .i64 (dr : Int)) ∧ X.cell? ⟨w.heap.size, 3, none⟩ = some (.int .i64 (mf : Int)) ∧ X.cell? ⟨w.heap.size, 4, none⟩ = some (.int .i64 (ls : Int)) ∧ X.cell? ⟨w.heap.size, 5, none⟩ = some (.int .i64 (pg : Int))) (first | with_reducible exact HRC.out _ hbw | with_reducible exact HRC.out _ (by (repeat (first | with_reducible exact Below.refl _ _ | with_reducible refine Below.drew ?_ | with_reducible refine below_alloc ?_ _)); (first | done | fail)) | go_keep) (first | (go_at_call 60; refine (KS2.out _ (by (repeat (first | with_reducible exact Below.refl _ _ | with_reducible refine Below.drew ?_ | with_reducible refine below_alloc ?_ _)); (first | done | fail))).mono ?_; rintro e w5 ⟨rfl, hb5⟩; have hbw : Below W2.heap.size W2 w5 := below_on hb5 (by (repeat (first | with_reducible exact Below.refl _ _ | with_reducible refine Below.drew ?_ | with_reducible refine below_alloc ?_ _)); (first | done | fail))))
    all_goals
      go_wp2_with fail
      go_meet
      exact ⟨rfl, rfl, hbw⟩
  case rest =>
  obtain ⟨rfl, rfl, HBc⟩ := hcut
  have HO3 : Hid (wc.ownsRow V.heap.size 44 5 (.slice (some ⟨w1.heap.size, 0, none⟩) dr dr) dr (ndsC (prtG zN F dr 0)) ∧ Below V.heap.size V wc) := ⟨owns_below HO2.out.1 HBc.out, below_on HBc.out HO2.out.2⟩
  clear x0 x1 x2 x3 y0 y1 y2 y3 y4 y5 hW2 HO2 HBc KS2 HRC hmk HMK
  generalize hg : w1.heap.size = g at *
  go_wp2_with fail
  go_loopg [26] dr (fun gk iv wr => ∃ i : Nat, i + gk = dr ∧ iv = .int .i64 (i : Int) ∧ Hid (wr.ownsRow V.heap.size 44 5 (.slice (some ⟨g, 0, none⟩) dr dr) dr (ndsC (prtG zN F dr i))) ∧ Hid (Below V.heap.size V wr))
  case atStart => exact ⟨0, by omega, rfl, HO3.out.1, HO3.out.2⟩
  case round =>
    obtain ⟨i, hik, rfl, HO, HB⟩ := hrel
    by_cases hlt : i < dr
    · have hltI : (i : Int) < (dr : Int) := by omega
      obtain ⟨p, hp⟩ : ∃ p, 0 + i * 36 = p := ⟨_, rfl⟩
      have hpb : p + 36 ≤ s.size := by omega
      obtain ⟨e1, e2, e3⟩ := two_ext s p 36 hpb
      obtain ⟨s1, hs1⟩ : ∃ s1, s.extract p s.size = s1 := ⟨_, rfl⟩
      rw [hs1] at e1 e2 e3
      obtain ⟨s2, hs2⟩ : ∃ s2, s1.extract 0 36 = s2 := ⟨_, rfl⟩
      rw [hs2] at e2 e3
      rw [← hp] at e3
      have KF := KF0.out i hlt s2 e2 e3
      obtain ⟨q, hq⟩ : ∃ q, i * 36 = q := ⟨_, rfl⟩
      have hm1 : (i : Int) * 36 = (q : Int) := by omega
      have hpI : (0 : Int) + (q : Int) = (p : Int) := by omega
      have hpz : (q : Int) = (p : Int) := by omega
      have hwp : IntKind.i64.wrap (p : Int) = (p : Int) := by rw [IntKind.wrap_i64]; omega
      have hwm : IntKind.i64.wrap (q : Int) = (q : Int) := by rw [IntKind.wrap_i64]; omega
      have hsA : ∀ W, (Instr.slice 9 (.string s) (some (.int .i64 (p : Int))) none none).run Tryd.prog W = .ok (.string s1) W := fun W => by rw [← hs1]; exact sl_of W 9 s _ p Tryd.underlying9 rfl (by omega)
      have hsB : ∀ W, (Instr.slice 9 (.string s1) none (some (.int .i64 36)) none).run Tryd.prog W = .ok (.string s2) W := fun W => by rw [← hs2]; exact sl_to W 9 s1 _ 36 Tryd.underlying9 rfl (by omega)
      have HN : Hid (∀ w5, Below wr.heap.size wr w5 → (w5.ownsRow V.heap.size 44 5 (.slice (some ⟨g, 0, none⟩) dr dr) dr (ndsC (prtG zN F dr i)) ∧ Below V.heap.size V w5)) := fun w5 h5 => ⟨owns_below HO.out h5, below_on h5 HB.out⟩
      have HSET : Hid _ := prtG_set zN F dr i
      clear hp hs1 hs2 e1 e2 e3 hpb HO HB hq
      go_wp2_with fail
      refine (KF _).mono ?_
      rintro e w5 ⟨he5, hb5'⟩
      obtain ⟨HO5, hb5⟩ := HN.out w5 hb5'
      obtain ⟨⟨s0, s1, s2, s3, s4⟩, fz⟩ := nd_at HO5 (prtG_get zN F hlt)
      have HP : Hid ((put5 w5 g (i * 5) (F i)).ownsRow V.heap.size 44 5 (.slice (some ⟨g, 0, none⟩) dr dr) dr (ndsC (prtG zN F dr (i + 1))) ∧ Below V.heap.size V (put5 w5 g (i * 5) (F i))) := ⟨by rw [← HSET.out]; exact (nds_put HO5 (prtG_get zN F hlt) (F i)).1, ((((hb5.setCell hgV _).setCell hgV _).setCell hgV _).setCell hgV _).setCell hgV _⟩
      generalize F i = nd at he5 HP
      obtain ⟨k0, k1, k2, k3, k4⟩ := nd
      unfold put5 at HP
      unfold ndV at he5
      simp only at HP he5
      subst he5
      clear HN HSET HO5 hb5 hb5' KF KF0
      go_wp2
      go_roundg (gk - 1)
      case measure => omega
      case rel => exact ⟨i + 1, by omega, rfl, HP.out.1, HP.out.2⟩
    · obtain rfl : i = dr := by omega
      have hltI : ¬ (i : Int) < (i : Int) := by omega
      have HO2 : Hid (wr.ownsRow w.heap.size 44 5 (.slice (some ⟨g, 0, none⟩) i i) i (ndsC ((List.range i).map F)) ∧ Below w.heap.size w wr) := by
        have := HO.out
        rw [prtG_all] at this
        exact ⟨owns_base this (by omega), (HX.out wr HB.out).2.2⟩
      go_wp2
      go_ret
      exact ⟨_, _, rfl, HO2.out.1, HO2.out.2⟩
set_option maxRecDepth 20000 in
set_option maxHeartbeats 1500000 in
theorem rr_file (sl fl dr mf ls pg : Nat) (hc : Cn.In ⟨sl, fl, dr, mf, ls, pg⟩) (s : ByteArray) (hs : Cn.len ⟨sl, fl, dr, mf, ls, pg⟩ ≤ s.size) (hsz : s.size ≤ 1099511000000) (w : World) (hT : RT w) :
    Calls Tryd.prog 50 #[.agg #[.int .i64 (sl : Int), .int .i64 (fl : Int), .int .i64 (dr : Int), .int .i64 (mf : Int), .int .i64 (ls : Int), .int .i64 (pg : Int)], .string s, .int .i64 1, .func (.func 52) #[] #[]] w fun e w' => ∃ a c, e = .returned (.slice a (fl) c) ∧ w'.ownsRow w.heap.size 44 5 (.slice a (fl) c) (fl) (ndsC ((rowsA s.data.toList (36 * dr) 40 (fl)).map rdF)) ∧ Below w.heap.size w w' := by
  have hlim : dr ≤ 4096 ∧ fl ≤ 65536 ∧ sl ≤ 64 := ⟨hc.2.2.2.2.1, hc.2.2.2.1, hc.2.1⟩
  have hln : Cn.len ⟨sl, fl, dr, mf, ls, pg⟩ = 36 * dr + 40 * fl + 44 * (fl + sl) + 4 := rfl
  rw [hln] at hs
  rw [rows_map]
  obtain ⟨F, hF⟩ : ∃ F : Nat → _, (fun j => (rdF) (seg s.data.toList ((36 * dr) + j * 40) 40)) = F := ⟨_, rfl⟩
  rw [show ((List.range (fl)).map fun j => (rdF) (seg s.data.toList ((36 * dr) + j * 40) 40)) = (List.range (fl)).map F by rw [hF]]
  have KC := fun X => rowCounts_any sl fl dr mf ls pg hc X
  unfold rcA at KC
  have KS := fun X hX => startOf_any sl fl dr mf ls pg 1 (by omega) hc X hX
  rw [show staL fl sl dr 1 = 36 * dr from rfl] at KS
  obtain ⟨st, hst⟩ : ∃ st, 36 * dr = st := ⟨_, rfl⟩
  have hfit : st + fl * 40 ≤ s.size := by omega
  have hn1 : fl ≤ 70000 := by omega
  rw [hst] at hF KS
  have KF0 : Hid (∀ i, i < fl → ∀ s2 : ByteArray, s2.size = 40 → s2.data.toList = seg s.data.toList (st + i * 40) 40 → ∀ X, Calls Tryd.prog 52 #[.string s2] X fun e w' => e = .returned (ndV (F i)) ∧ Below X.heap.size X w') := fun i hi s2 hs2z hs2 X => by
    have hFi : F i = (rdF) (seg s.data.toList (st + i * 40) 40) := by rw [← hF]
    rw [hFi, ← hs2]
    exact readFile_any s2 hs2z X
  clear hF
  clear hst
  obtain ⟨V, hV, hbV, g0⟩ := one_new w #[.int .i64 (sl : Int), .int .i64 (fl : Int), .int .i64 (dr : Int), .int .i64 (mf : Int), .int .i64 (ls : Int), .int .i64 (pg : Int)] 23
  have HX : Hid (∀ X, Below V.heap.size V X → (X.cell? ⟨w.heap.size, 0, none⟩ = some (.int .i64 (sl : Int)) ∧ X.cell? ⟨w.heap.size, 1, none⟩ = some (.int .i64 (fl : Int)) ∧ X.cell? ⟨w.heap.size, 2, none⟩ = some (.int .i64 (dr : Int)) ∧ X.cell? ⟨w.heap.size, 3, none⟩ = some (.int .i64 (mf : Int)) ∧ X.cell? ⟨w.heap.size, 4, none⟩ = some (.int .i64 (ls : Int)) ∧ X.cell? ⟨w.heap.size, 5, none⟩ = some (.int .i64 (pg : Int))) ∧ RT X ∧ Below w.heap.size w X) := fun X hX => ⟨cells6 ((hX.block _ (heap_lt g0)).trans g0), hT.next (below_on hX hbV), below_on hX hbV⟩
  obtain ⟨⟨y0, y1, y2, y3, y4, y5⟩, -, -⟩ := HX.out V (Below.refl _ _)
  obtain ⟨z2, h2⟩ : ∃ z : Int, ((fl + sl : Nat) : Int) = z := ⟨_, rfl⟩
  obtain ⟨z3, h3⟩ : ∃ z : Int, ((1 + (fl + sl) : Nat) : Int) = z := ⟨_, rfl⟩
  rw [h2, h3] at KC
  have hidx : ∀ W, (Instr.index 108 (.agg #[.int .i64 (dr : Int), .int .i64 (fl : Int), .int .i64 z2, .int .i64 z3]) (.int .i64 1)).run Tryd.prog W = .ok (.int .i64 (fl : Int)) W := fun W => by
    have := idx_arr W 108 3 4 #[.int .i64 (dr : Int), .int .i64 (fl : Int), .int .i64 z2, .int .i64 z3] .i64 .i64 1 _ Tryd.underlying108 Tryd.underlying3 size3 (by decide) rfl
    exact this
  clear h2 h3
  have hmk := make_nodes fl (by omega)
  have HMK : Hid (∀ X : World, (X.alloc (.cells (madeCells #[.int .i64 0, .int .i64 0, .int .i64 0, .string { data := #[] }, .int .i64 0] (fl * 5)) 44)).ownsRow X.heap.size 44 5 (.slice (some ⟨X.heap.size, 0, none⟩) fl fl) fl (ndsC (prtG zN F fl 0))) := fun X => by rw [prtG_zero]; exact made_nodes fl (by omega) X
  generalize (madeCells #[.int .i64 0, .int .i64 0, .int .i64 0, .string { data := #[] }, .int .i64 0] (fl * 5)) = mcs at *
  have hVs := hbV.size
  clear g0 hbV hT hc hs hln
  go_enter Tryd.func50, Tryd.ntmps50
  go_wp2_with fail
  refine (KC _).mono ?_
  rintro e w1 ⟨rfl, hb1⟩
  obtain ⟨W2, hW2⟩ : ∃ W2, w1.alloc (.cells mcs 44) = W2 := ⟨_, rfl⟩
  have HO2 : Hid (W2.ownsRow V.heap.size 44 5 (.slice (some ⟨w1.heap.size, 0, none⟩) fl fl) fl (ndsC (prtG zN F fl 0)) ∧ Below V.heap.size V W2) := ⟨by rw [← hW2]; exact owns_base (HMK.out w1) hb1.size, by rw [← hW2]; exact below_alloc hb1 _⟩
  have hgV : V.heap.size ≤ w1.heap.size := hb1.size
  clear KC hb1 y0 y1 y2 y3 y4 y5 hV
  obtain ⟨⟨y0, y1, y2, y3, y4, y5⟩, hR2, -⟩ := HX.out W2 HO2.out.2
  obtain ⟨x0, x1, x2, x3⟩ := hR2.cells
  have KS2 : Hid (∀ X, Below W2.heap.size W2 X → _) := fun X hX => KS X (hR2.next hX)
  have HRC : Hid (∀ X, Below W2.heap.size W2 X → X.cell? ⟨0, 1, none⟩ = some (.int .i64 40) ∧ X.cell? ⟨w.heap.size, 0, none⟩ = some (.int .i64 (sl : Int)) ∧ X.cell? ⟨w.heap.size, 1, none⟩ = some (.int .i64 (fl : Int)) ∧ X.cell? ⟨w.heap.size, 2, none⟩ = some (.int .i64 (dr : Int)) ∧ X.cell? ⟨w.heap.size, 3, none⟩ = some (.int .i64 (mf : Int)) ∧ X.cell? ⟨w.heap.size, 4, none⟩ = some (.int .i64 (ls : Int)) ∧ X.cell? ⟨w.heap.size, 5, none⟩ = some (.int .i64 (pg : Int))) := fun X hX => by
    have hh := (hR2.next hX).cells
    exact ⟨hh.2.1, (HX.out X (below_on hX HO2.out.2)).1⟩
  clear KS hR2
  go_upto_region 2 with fail
  go_cut [10, 11] (fun u v wx => u = .int .i64 (st : Int) ∧ v = .int .i64 40 ∧ Hid (Below W2.heap.size W2 wx))
  case first =>
    go_region_held_law (fun X => X.cell? ⟨0, 1, none⟩ = some (.int .i64 40) ∧ X.cell? ⟨w.heap.size, 0, none⟩ = some (.int .i64 (sl : Int)) ∧ X.cell? ⟨w.heap.size, 1, none⟩ = some (.int .i64 (fl : Int)) ∧ X.cell? ⟨w.heap.size, 2, none⟩ = some (.int .i64 (dr : Int)) ∧ X.cell? ⟨w.heap.size, 3, none⟩ = some (.int .i64 (mf : Int)) ∧ X.cell? ⟨w.heap.size, 4, none⟩ = some (.int .i64 (ls : Int)) ∧ X.cell? ⟨w.heap.size, 5, none⟩ = some (.int .i64 (pg : Int))) (first | with_reducible exact HRC.out _ hbw | with_reducible exact HRC.out _ (by (repeat (first | with_reducible exact Below.refl _ _ | with_reducible refine Below.drew ?_ | with_reducible refine below_alloc ?_ _)); (first | done | fail)) | go_keep) (first | (go_at_call 60; refine (KS2.out _ (by (repeat (first | with_reducible exact Below.refl _ _ | with_reducible refine Below.drew ?_ | with_reducible refine below_alloc ?_ _)); (first | done | fail))).mono ?_; rintro e w5 ⟨rfl, hb5⟩; have hbw : Below W2.heap.size W2 w5 := below_on hb5 (by (repeat (first | with_reducible exact Below.refl _ _ | with_reducible refine Below.drew ?_ | with_reducible refine below_alloc ?_ _)); (first | done | fail))))
    all_goals
      go_wp2_with fail
      go_meet
      exact ⟨rfl, rfl, hbw⟩
  case rest =>
  obtain ⟨rfl, rfl, HBc⟩ := hcut
  have HO3 : Hid (wc.ownsRow V.heap.size 44 5 (.slice (some ⟨w1.heap.size, 0, none⟩) fl fl) fl (ndsC (prtG zN F fl 0)) ∧ Below V.heap.size V wc) := ⟨owns_below HO2.out.1 HBc.out, below_on HBc.out HO2.out.2⟩
  clear x0 x1 x2 x3 y0 y1 y2 y3 y4 y5 hW2 HO2 HBc KS2 HRC hmk HMK
  generalize hg : w1.heap.size = g at *
  go_wp2_with fail
  go_loopg [26] fl (fun gk iv wr => ∃ i : Nat, i + gk = fl ∧ iv = .int .i64 (i : Int) ∧ Hid (wr.ownsRow V.heap.size 44 5 (.slice (some ⟨g, 0, none⟩) fl fl) fl (ndsC (prtG zN F fl i))) ∧ Hid (Below V.heap.size V wr))
  case atStart => exact ⟨0, by omega, rfl, HO3.out.1, HO3.out.2⟩
  case round =>
    obtain ⟨i, hik, rfl, HO, HB⟩ := hrel
    by_cases hlt : i < fl
    · have hltI : (i : Int) < (fl : Int) := by omega
      obtain ⟨p, hp⟩ : ∃ p, st + i * 40 = p := ⟨_, rfl⟩
      have hpb : p + 40 ≤ s.size := by omega
      obtain ⟨e1, e2, e3⟩ := two_ext s p 40 hpb
      obtain ⟨s1, hs1⟩ : ∃ s1, s.extract p s.size = s1 := ⟨_, rfl⟩
      rw [hs1] at e1 e2 e3
      obtain ⟨s2, hs2⟩ : ∃ s2, s1.extract 0 40 = s2 := ⟨_, rfl⟩
      rw [hs2] at e2 e3
      rw [← hp] at e3
      have KF := KF0.out i hlt s2 e2 e3
      obtain ⟨q, hq⟩ : ∃ q, i * 40 = q := ⟨_, rfl⟩
      have hm1 : (i : Int) * 40 = (q : Int) := by omega
      have hpI : (st : Int) + (q : Int) = (p : Int) := by omega
      have hwp : IntKind.i64.wrap (p : Int) = (p : Int) := by rw [IntKind.wrap_i64]; omega
      have hwm : IntKind.i64.wrap (q : Int) = (q : Int) := by rw [IntKind.wrap_i64]; omega
      have hsA : ∀ W, (Instr.slice 9 (.string s) (some (.int .i64 (p : Int))) none none).run Tryd.prog W = .ok (.string s1) W := fun W => by rw [← hs1]; exact sl_of W 9 s _ p Tryd.underlying9 rfl (by omega)
      have hsB : ∀ W, (Instr.slice 9 (.string s1) none (some (.int .i64 40)) none).run Tryd.prog W = .ok (.string s2) W := fun W => by rw [← hs2]; exact sl_to W 9 s1 _ 40 Tryd.underlying9 rfl (by omega)
      have HN : Hid (∀ w5, Below wr.heap.size wr w5 → (w5.ownsRow V.heap.size 44 5 (.slice (some ⟨g, 0, none⟩) fl fl) fl (ndsC (prtG zN F fl i)) ∧ Below V.heap.size V w5)) := fun w5 h5 => ⟨owns_below HO.out h5, below_on h5 HB.out⟩
      have HSET : Hid _ := prtG_set zN F fl i
      clear hp hs1 hs2 e1 e2 e3 hpb HO HB hq
      go_wp2_with fail
      refine (KF _).mono ?_
      rintro e w5 ⟨he5, hb5'⟩
      obtain ⟨HO5, hb5⟩ := HN.out w5 hb5'
      obtain ⟨⟨s0, s1, s2, s3, s4⟩, fz⟩ := nd_at HO5 (prtG_get zN F hlt)
      have HP : Hid ((put5 w5 g (i * 5) (F i)).ownsRow V.heap.size 44 5 (.slice (some ⟨g, 0, none⟩) fl fl) fl (ndsC (prtG zN F fl (i + 1))) ∧ Below V.heap.size V (put5 w5 g (i * 5) (F i))) := ⟨by rw [← HSET.out]; exact (nds_put HO5 (prtG_get zN F hlt) (F i)).1, ((((hb5.setCell hgV _).setCell hgV _).setCell hgV _).setCell hgV _).setCell hgV _⟩
      generalize F i = nd at he5 HP
      obtain ⟨k0, k1, k2, k3, k4⟩ := nd
      unfold put5 at HP
      unfold ndV at he5
      simp only at HP he5
      subst he5
      clear HN HSET HO5 hb5 hb5' KF KF0
      go_wp2
      go_roundg (gk - 1)
      case measure => omega
      case rel => exact ⟨i + 1, by omega, rfl, HP.out.1, HP.out.2⟩
    · obtain rfl : i = fl := by omega
      have hltI : ¬ (i : Int) < (i : Int) := by omega
      have HO2 : Hid (wr.ownsRow w.heap.size 44 5 (.slice (some ⟨g, 0, none⟩) i i) i (ndsC ((List.range i).map F)) ∧ Below w.heap.size w wr) := by
        have := HO.out
        rw [prtG_all] at this
        exact ⟨owns_base this (by omega), (HX.out wr HB.out).2.2⟩
      go_wp2
      go_ret
      exact ⟨_, _, rfl, HO2.out.1, HO2.out.2⟩
set_option maxRecDepth 20000 in
set_option maxHeartbeats 1500000 in
theorem rr_obj (sl fl dr mf ls pg : Nat) (hc : Cn.In ⟨sl, fl, dr, mf, ls, pg⟩) (s : ByteArray) (hs : Cn.len ⟨sl, fl, dr, mf, ls, pg⟩ ≤ s.size) (hsz : s.size ≤ 1099511000000) (w : World) (hT : RT w) :
    Calls Tryd.prog 55 #[.agg #[.int .i64 (sl : Int), .int .i64 (fl : Int), .int .i64 (dr : Int), .int .i64 (mf : Int), .int .i64 (ls : Int), .int .i64 (pg : Int)], .string s, .int .i64 2, .func (.func 56) #[] #[]] w fun e w' => ∃ a c, e = .returned (.slice a (fl + sl) c) ∧ w'.ownsRow w.heap.size 46 4 (.slice a (fl + sl) c) (fl + sl) (obsC ((rowsA s.data.toList (36 * dr + 40 * fl) 40 (fl + sl)).map rdO)) ∧ Below w.heap.size w w' := by
  have hlim : dr ≤ 4096 ∧ fl ≤ 65536 ∧ sl ≤ 64 := ⟨hc.2.2.2.2.1, hc.2.2.2.1, hc.2.1⟩
  have hln : Cn.len ⟨sl, fl, dr, mf, ls, pg⟩ = 36 * dr + 40 * fl + 44 * (fl + sl) + 4 := rfl
  rw [hln] at hs
  rw [rows_map]
  obtain ⟨F, hF⟩ : ∃ F : Nat → _, (fun j => (rdO) (seg s.data.toList ((36 * dr + 40 * fl) + j * 40) 40)) = F := ⟨_, rfl⟩
  rw [show ((List.range (fl + sl)).map fun j => (rdO) (seg s.data.toList ((36 * dr + 40 * fl) + j * 40) 40)) = (List.range (fl + sl)).map F by rw [hF]]
  have KC := fun X => rowCounts_any sl fl dr mf ls pg hc X
  unfold rcA at KC
  have KS := fun X hX => startOf_any sl fl dr mf ls pg 2 (by omega) hc X hX
  rw [show staL fl sl dr 2 = 36 * dr + 40 * fl from rfl] at KS
  obtain ⟨n, hn⟩ : ∃ n, fl + sl = n := ⟨_, rfl⟩
  obtain ⟨st, hst⟩ : ∃ st, 36 * dr + 40 * fl = st := ⟨_, rfl⟩
  have hfit : st + n * 40 ≤ s.size := by omega
  have hn1 : n ≤ 70000 := by omega
  rw [hst] at hF KS
  have KF0 : Hid (∀ i, i < n → ∀ s2 : ByteArray, s2.size = 40 → s2.data.toList = seg s.data.toList (st + i * 40) 40 → ∀ X, Calls Tryd.prog 56 #[.string s2] X fun e w' => e = .returned (obV (F i)) ∧ Below X.heap.size X w') := fun i hi s2 hs2z hs2 X => by
    have hFi : F i = (rdO) (seg s.data.toList (st + i * 40) 40) := by rw [← hF]
    rw [hFi, ← hs2]
    exact readObject_any s2 hs2z X
  clear hF
  rw [hn]
  clear hst
  obtain ⟨V, hV, hbV, g0⟩ := one_new w #[.int .i64 (sl : Int), .int .i64 (fl : Int), .int .i64 (dr : Int), .int .i64 (mf : Int), .int .i64 (ls : Int), .int .i64 (pg : Int)] 23
  have HX : Hid (∀ X, Below V.heap.size V X → (X.cell? ⟨w.heap.size, 0, none⟩ = some (.int .i64 (sl : Int)) ∧ X.cell? ⟨w.heap.size, 1, none⟩ = some (.int .i64 (fl : Int)) ∧ X.cell? ⟨w.heap.size, 2, none⟩ = some (.int .i64 (dr : Int)) ∧ X.cell? ⟨w.heap.size, 3, none⟩ = some (.int .i64 (mf : Int)) ∧ X.cell? ⟨w.heap.size, 4, none⟩ = some (.int .i64 (ls : Int)) ∧ X.cell? ⟨w.heap.size, 5, none⟩ = some (.int .i64 (pg : Int))) ∧ RT X ∧ Below w.heap.size w X) := fun X hX => ⟨cells6 ((hX.block _ (heap_lt g0)).trans g0), hT.next (below_on hX hbV), below_on hX hbV⟩
  obtain ⟨⟨y0, y1, y2, y3, y4, y5⟩, -, -⟩ := HX.out V (Below.refl _ _)
  obtain ⟨z2, h2⟩ : ∃ z : Int, ((fl + sl : Nat) : Int) = z := ⟨_, rfl⟩
  obtain ⟨z3, h3⟩ : ∃ z : Int, ((1 + (fl + sl) : Nat) : Int) = z := ⟨_, rfl⟩
  rw [h2, h3] at KC
  have hidx : ∀ W, (Instr.index 108 (.agg #[.int .i64 (dr : Int), .int .i64 (fl : Int), .int .i64 z2, .int .i64 z3]) (.int .i64 2)).run Tryd.prog W = .ok (.int .i64 (n : Int)) W := fun W => by
    have := idx_arr W 108 3 4 #[.int .i64 (dr : Int), .int .i64 (fl : Int), .int .i64 z2, .int .i64 z3] .i64 .i64 2 _ Tryd.underlying108 Tryd.underlying3 size3 (by decide) rfl
    rw [show z2 = (n : Int) by omega] at this ⊢
    exact this
  clear h2 h3 hn
  have hmk := make_objs n (by omega)
  have HMK : Hid (∀ X : World, (X.alloc (.cells (madeCells #[.string { data := #[] }, .string { data := #[] }, .int .i64 0, .int .i64 0] (n * 4)) 46)).ownsRow X.heap.size 46 4 (.slice (some ⟨X.heap.size, 0, none⟩) n n) n (obsC (prtG zO F n 0))) := fun X => by rw [prtG_zero]; exact made_objs n (by omega) X
  generalize (madeCells #[.string { data := #[] }, .string { data := #[] }, .int .i64 0, .int .i64 0] (n * 4)) = mcs at *
  have hVs := hbV.size
  clear g0 hbV hT hc hs hln
  go_enter Tryd.func55, Tryd.ntmps55
  go_wp2_with fail
  refine (KC _).mono ?_
  rintro e w1 ⟨rfl, hb1⟩
  obtain ⟨W2, hW2⟩ : ∃ W2, w1.alloc (.cells mcs 46) = W2 := ⟨_, rfl⟩
  have HO2 : Hid (W2.ownsRow V.heap.size 46 4 (.slice (some ⟨w1.heap.size, 0, none⟩) n n) n (obsC (prtG zO F n 0)) ∧ Below V.heap.size V W2) := ⟨by rw [← hW2]; exact owns_base (HMK.out w1) hb1.size, by rw [← hW2]; exact below_alloc hb1 _⟩
  have hgV : V.heap.size ≤ w1.heap.size := hb1.size
  clear KC hb1 y0 y1 y2 y3 y4 y5 hV
  obtain ⟨⟨y0, y1, y2, y3, y4, y5⟩, hR2, -⟩ := HX.out W2 HO2.out.2
  obtain ⟨x0, x1, x2, x3⟩ := hR2.cells
  have KS2 : Hid (∀ X, Below W2.heap.size W2 X → _) := fun X hX => KS X (hR2.next hX)
  have HRC : Hid (∀ X, Below W2.heap.size W2 X → X.cell? ⟨0, 2, none⟩ = some (.int .i64 40) ∧ X.cell? ⟨w.heap.size, 0, none⟩ = some (.int .i64 (sl : Int)) ∧ X.cell? ⟨w.heap.size, 1, none⟩ = some (.int .i64 (fl : Int)) ∧ X.cell? ⟨w.heap.size, 2, none⟩ = some (.int .i64 (dr : Int)) ∧ X.cell? ⟨w.heap.size, 3, none⟩ = some (.int .i64 (mf : Int)) ∧ X.cell? ⟨w.heap.size, 4, none⟩ = some (.int .i64 (ls : Int)) ∧ X.cell? ⟨w.heap.size, 5, none⟩ = some (.int .i64 (pg : Int))) := fun X hX => by
    have hh := (hR2.next hX).cells
    exact ⟨hh.2.2.1, (HX.out X (below_on hX HO2.out.2)).1⟩
  clear KS hR2
  go_upto_region 2 with fail
  go_cut [10, 11] (fun u v wx => u = .int .i64 (st : Int) ∧ v = .int .i64 40 ∧ Hid (Below W2.heap.size W2 wx))
  case first =>
    go_region_held_law (fun X => X.cell? ⟨0, 2, none⟩ = some (.int .i64 40) ∧ X.cell? ⟨w.heap.size, 0, none⟩ = some (.int .i64 (sl : Int)) ∧ X.cell? ⟨w.heap.size, 1, none⟩ = some (.int .i64 (fl : Int)) ∧ X.cell? ⟨w.heap.size, 2, none⟩ = some (.int .i64 (dr : Int)) ∧ X.cell? ⟨w.heap.size, 3, none⟩ = some (.int .i64 (mf : Int)) ∧ X.cell? ⟨w.heap.size, 4, none⟩ = some (.int .i64 (ls : Int)) ∧ X.cell? ⟨w.heap.size, 5, none⟩ = some (.int .i64 (pg : Int))) (first | with_reducible exact HRC.out _ hbw | with_reducible exact HRC.out _ (by (repeat (first | with_reducible exact Below.refl _ _ | with_reducible refine Below.drew ?_ | with_reducible refine below_alloc ?_ _)); (first | done | fail)) | go_keep) (first | (go_at_call 60; refine (KS2.out _ (by (repeat (first | with_reducible exact Below.refl _ _ | with_reducible refine Below.drew ?_ | with_reducible refine below_alloc ?_ _)); (first | done | fail))).mono ?_; rintro e w5 ⟨rfl, hb5⟩; have hbw : Below W2.heap.size W2 w5 := below_on hb5 (by (repeat (first | with_reducible exact Below.refl _ _ | with_reducible refine Below.drew ?_ | with_reducible refine below_alloc ?_ _)); (first | done | fail))))
    all_goals
      go_wp2_with fail
      go_meet
      exact ⟨rfl, rfl, hbw⟩
  case rest =>
  obtain ⟨rfl, rfl, HBc⟩ := hcut
  have HO3 : Hid (wc.ownsRow V.heap.size 46 4 (.slice (some ⟨w1.heap.size, 0, none⟩) n n) n (obsC (prtG zO F n 0)) ∧ Below V.heap.size V wc) := ⟨owns_below HO2.out.1 HBc.out, below_on HBc.out HO2.out.2⟩
  clear x0 x1 x2 x3 y0 y1 y2 y3 y4 y5 hW2 HO2 HBc KS2 HRC hmk HMK
  generalize hg : w1.heap.size = g at *
  go_wp2_with fail
  go_loopg [26] n (fun gk iv wr => ∃ i : Nat, i + gk = n ∧ iv = .int .i64 (i : Int) ∧ Hid (wr.ownsRow V.heap.size 46 4 (.slice (some ⟨g, 0, none⟩) n n) n (obsC (prtG zO F n i))) ∧ Hid (Below V.heap.size V wr))
  case atStart => exact ⟨0, by omega, rfl, HO3.out.1, HO3.out.2⟩
  case round =>
    obtain ⟨i, hik, rfl, HO, HB⟩ := hrel
    by_cases hlt : i < n
    · have hltI : (i : Int) < (n : Int) := by omega
      obtain ⟨p, hp⟩ : ∃ p, st + i * 40 = p := ⟨_, rfl⟩
      have hpb : p + 40 ≤ s.size := by omega
      obtain ⟨e1, e2, e3⟩ := two_ext s p 40 hpb
      obtain ⟨s1, hs1⟩ : ∃ s1, s.extract p s.size = s1 := ⟨_, rfl⟩
      rw [hs1] at e1 e2 e3
      obtain ⟨s2, hs2⟩ : ∃ s2, s1.extract 0 40 = s2 := ⟨_, rfl⟩
      rw [hs2] at e2 e3
      rw [← hp] at e3
      have KF := KF0.out i hlt s2 e2 e3
      obtain ⟨q, hq⟩ : ∃ q, i * 40 = q := ⟨_, rfl⟩
      have hm1 : (i : Int) * 40 = (q : Int) := by omega
      have hpI : (st : Int) + (q : Int) = (p : Int) := by omega
      have hwp : IntKind.i64.wrap (p : Int) = (p : Int) := by rw [IntKind.wrap_i64]; omega
      have hwm : IntKind.i64.wrap (q : Int) = (q : Int) := by rw [IntKind.wrap_i64]; omega
      have hsA : ∀ W, (Instr.slice 9 (.string s) (some (.int .i64 (p : Int))) none none).run Tryd.prog W = .ok (.string s1) W := fun W => by rw [← hs1]; exact sl_of W 9 s _ p Tryd.underlying9 rfl (by omega)
      have hsB : ∀ W, (Instr.slice 9 (.string s1) none (some (.int .i64 40)) none).run Tryd.prog W = .ok (.string s2) W := fun W => by rw [← hs2]; exact sl_to W 9 s1 _ 40 Tryd.underlying9 rfl (by omega)
      have HN : Hid (∀ w5, Below wr.heap.size wr w5 → (w5.ownsRow V.heap.size 46 4 (.slice (some ⟨g, 0, none⟩) n n) n (obsC (prtG zO F n i)) ∧ Below V.heap.size V w5)) := fun w5 h5 => ⟨owns_below HO.out h5, below_on h5 HB.out⟩
      have HSET : Hid _ := prtG_set zO F n i
      clear hp hs1 hs2 e1 e2 e3 hpb HO HB hq
      go_wp2_with fail
      refine (KF _).mono ?_
      rintro e w5 ⟨he5, hb5'⟩
      obtain ⟨HO5, hb5⟩ := HN.out w5 hb5'
      obtain ⟨⟨s0, s1, s2, s3⟩, fz⟩ := ob_at HO5 (prtG_get zO F hlt)
      have HP : Hid ((put4 w5 g (i * 4) (F i)).ownsRow V.heap.size 46 4 (.slice (some ⟨g, 0, none⟩) n n) n (obsC (prtG zO F n (i + 1))) ∧ Below V.heap.size V (put4 w5 g (i * 4) (F i))) := ⟨by rw [← HSET.out]; exact obs_put HO5 (prtG_get zO F hlt) (F i), (((hb5.setCell hgV _).setCell hgV _).setCell hgV _).setCell hgV _⟩
      generalize F i = nd at he5 HP
      obtain ⟨k0, k1, k2, k3⟩ := nd
      unfold put4 at HP
      unfold obV at he5
      simp only at HP he5
      subst he5
      clear HN HSET HO5 hb5 hb5' KF KF0
      go_wp2
      go_roundg (gk - 1)
      case measure => omega
      case rel => exact ⟨i + 1, by omega, rfl, HP.out.1, HP.out.2⟩
    · obtain rfl : i = n := by omega
      have hltI : ¬ (i : Int) < (i : Int) := by omega
      have HO2 : Hid (wr.ownsRow w.heap.size 46 4 (.slice (some ⟨g, 0, none⟩) i i) i (obsC ((List.range i).map F)) ∧ Below w.heap.size w wr) := by
        have := HO.out
        rw [prtG_all] at this
        exact ⟨owns_base this (by omega), (HX.out wr HB.out).2.2⟩
      go_wp2
      go_ret
      exact ⟨_, _, rfl, HO2.out.1, HO2.out.2⟩
set_option maxRecDepth 20000 in
set_option maxHeartbeats 1500000 in
theorem rr_int (sl fl dr mf ls pg : Nat) (hc : Cn.In ⟨sl, fl, dr, mf, ls, pg⟩) (s : ByteArray) (hs : Cn.len ⟨sl, fl, dr, mf, ls, pg⟩ ≤ s.size) (hsz : s.size ≤ 1099511000000) (w : World) (hT : RT w) :
    Calls Tryd.prog 58 #[.agg #[.int .i64 (sl : Int), .int .i64 (fl : Int), .int .i64 (dr : Int), .int .i64 (mf : Int), .int .i64 (ls : Int), .int .i64 (pg : Int)], .string s, .int .i64 3, .func (.func 59) #[] #[]] w fun e w' => ∃ a c, e = .returned (.slice a (1 + (fl + sl)) c) ∧ w'.ownsRow w.heap.size 3 1 (.slice a (1 + (fl + sl)) c) (1 + (fl + sl)) (zsC ((rowsA s.data.toList (36 * dr + 40 * fl + 40 * (fl + sl)) 4 (1 + (fl + sl))).map (fun r => (nuL r : Int)))) ∧ Below w.heap.size w w' := by
  have hlim : dr ≤ 4096 ∧ fl ≤ 65536 ∧ sl ≤ 64 := ⟨hc.2.2.2.2.1, hc.2.2.2.1, hc.2.1⟩
  have hln : Cn.len ⟨sl, fl, dr, mf, ls, pg⟩ = 36 * dr + 40 * fl + 44 * (fl + sl) + 4 := rfl
  rw [hln] at hs
  rw [rows_map]
  obtain ⟨F, hF⟩ : ∃ F : Nat → _, (fun j => ((fun r => (nuL r : Int))) (seg s.data.toList ((36 * dr + 40 * fl + 40 * (fl + sl)) + j * 4) 4)) = F := ⟨_, rfl⟩
  rw [show ((List.range (1 + (fl + sl))).map fun j => ((fun r => (nuL r : Int))) (seg s.data.toList ((36 * dr + 40 * fl + 40 * (fl + sl)) + j * 4) 4)) = (List.range (1 + (fl + sl))).map F by rw [hF]]
  have KC := fun X => rowCounts_any sl fl dr mf ls pg hc X
  unfold rcA at KC
  have KS := fun X hX => startOf_any sl fl dr mf ls pg 3 (by omega) hc X hX
  rw [show staL fl sl dr 3 = 36 * dr + 40 * fl + 40 * (fl + sl) from rfl] at KS
  obtain ⟨n, hn⟩ : ∃ n, 1 + (fl + sl) = n := ⟨_, rfl⟩
  obtain ⟨st, hst⟩ : ∃ st, 36 * dr + 40 * fl + 40 * (fl + sl) = st := ⟨_, rfl⟩
  have hfit : st + n * 4 ≤ s.size := by omega
  have hn1 : n ≤ 70000 := by omega
  rw [hst] at hF KS
  have KF0 : Hid (∀ i, i < n → ∀ s2 : ByteArray, s2.size = 4 → s2.data.toList = seg s.data.toList (st + i * 4) 4 → ∀ X, Calls Tryd.prog 59 #[.string s2] X fun e w' => e = .returned (.int .i64 (F i)) ∧ Below X.heap.size X w') := fun i hi s2 hs2z hs2 X => by
    have hFi : F i = ((fun r => (nuL r : Int))) (seg s.data.toList (st + i * 4) 4) := by rw [← hF]
    rw [hFi, ← hs2]
    exact (readNumber_any s2 (by omega) X).mono fun e w' h => ⟨h.1, by rw [h.2]; exact Below.refl _ _⟩
  clear hF
  rw [hn]
  clear hst
  obtain ⟨V, hV, hbV, g0⟩ := one_new w #[.int .i64 (sl : Int), .int .i64 (fl : Int), .int .i64 (dr : Int), .int .i64 (mf : Int), .int .i64 (ls : Int), .int .i64 (pg : Int)] 23
  have HX : Hid (∀ X, Below V.heap.size V X → (X.cell? ⟨w.heap.size, 0, none⟩ = some (.int .i64 (sl : Int)) ∧ X.cell? ⟨w.heap.size, 1, none⟩ = some (.int .i64 (fl : Int)) ∧ X.cell? ⟨w.heap.size, 2, none⟩ = some (.int .i64 (dr : Int)) ∧ X.cell? ⟨w.heap.size, 3, none⟩ = some (.int .i64 (mf : Int)) ∧ X.cell? ⟨w.heap.size, 4, none⟩ = some (.int .i64 (ls : Int)) ∧ X.cell? ⟨w.heap.size, 5, none⟩ = some (.int .i64 (pg : Int))) ∧ RT X ∧ Below w.heap.size w X) := fun X hX => ⟨cells6 ((hX.block _ (heap_lt g0)).trans g0), hT.next (below_on hX hbV), below_on hX hbV⟩
  obtain ⟨⟨y0, y1, y2, y3, y4, y5⟩, -, -⟩ := HX.out V (Below.refl _ _)
  obtain ⟨z2, h2⟩ : ∃ z : Int, ((fl + sl : Nat) : Int) = z := ⟨_, rfl⟩
  obtain ⟨z3, h3⟩ : ∃ z : Int, ((1 + (fl + sl) : Nat) : Int) = z := ⟨_, rfl⟩
  rw [h2, h3] at KC
  have hidx : ∀ W, (Instr.index 108 (.agg #[.int .i64 (dr : Int), .int .i64 (fl : Int), .int .i64 z2, .int .i64 z3]) (.int .i64 3)).run Tryd.prog W = .ok (.int .i64 (n : Int)) W := fun W => by
    have := idx_arr W 108 3 4 #[.int .i64 (dr : Int), .int .i64 (fl : Int), .int .i64 z2, .int .i64 z3] .i64 .i64 3 _ Tryd.underlying108 Tryd.underlying3 size3 (by decide) rfl
    rw [show z3 = (n : Int) by omega] at this ⊢
    exact this
  clear h2 h3 hn
  have hmk := make_ints n (by omega)
  have HMK : Hid (∀ X : World, (X.alloc (.cells (madeCells #[.int .i64 0] n) 3)).ownsRow X.heap.size 3 1 (.slice (some ⟨X.heap.size, 0, none⟩) n n) n (zsC (prtG (0 : Int) F n 0))) := fun X => by rw [prtG_zero]; exact made_intsR n (by omega) X
  generalize (madeCells #[.int .i64 0] n) = mcs at *
  have hVs := hbV.size
  clear g0 hbV hT hc hs hln
  go_enter Tryd.func58, Tryd.ntmps58
  go_wp2_with fail
  refine (KC _).mono ?_
  rintro e w1 ⟨rfl, hb1⟩
  obtain ⟨W2, hW2⟩ : ∃ W2, w1.alloc (.cells mcs 3) = W2 := ⟨_, rfl⟩
  have HO2 : Hid (W2.ownsRow V.heap.size 3 1 (.slice (some ⟨w1.heap.size, 0, none⟩) n n) n (zsC (prtG (0 : Int) F n 0)) ∧ Below V.heap.size V W2) := ⟨by rw [← hW2]; exact owns_base (HMK.out w1) hb1.size, by rw [← hW2]; exact below_alloc hb1 _⟩
  have hgV : V.heap.size ≤ w1.heap.size := hb1.size
  clear KC hb1 y0 y1 y2 y3 y4 y5 hV
  obtain ⟨⟨y0, y1, y2, y3, y4, y5⟩, hR2, -⟩ := HX.out W2 HO2.out.2
  obtain ⟨x0, x1, x2, x3⟩ := hR2.cells
  have KS2 : Hid (∀ X, Below W2.heap.size W2 X → _) := fun X hX => KS X (hR2.next hX)
  have HRC : Hid (∀ X, Below W2.heap.size W2 X → X.cell? ⟨0, 3, none⟩ = some (.int .i64 4) ∧ X.cell? ⟨w.heap.size, 0, none⟩ = some (.int .i64 (sl : Int)) ∧ X.cell? ⟨w.heap.size, 1, none⟩ = some (.int .i64 (fl : Int)) ∧ X.cell? ⟨w.heap.size, 2, none⟩ = some (.int .i64 (dr : Int)) ∧ X.cell? ⟨w.heap.size, 3, none⟩ = some (.int .i64 (mf : Int)) ∧ X.cell? ⟨w.heap.size, 4, none⟩ = some (.int .i64 (ls : Int)) ∧ X.cell? ⟨w.heap.size, 5, none⟩ = some (.int .i64 (pg : Int))) := fun X hX => by
    have hh := (hR2.next hX).cells
    exact ⟨hh.2.2.2, (HX.out X (below_on hX HO2.out.2)).1⟩
  clear KS hR2
  go_upto_region 2 with fail
  go_cut [10, 11] (fun u v wx => u = .int .i64 (st : Int) ∧ v = .int .i64 4 ∧ Hid (Below W2.heap.size W2 wx))
  case first =>
    go_region_held_law (fun X => X.cell? ⟨0, 3, none⟩ = some (.int .i64 4) ∧ X.cell? ⟨w.heap.size, 0, none⟩ = some (.int .i64 (sl : Int)) ∧ X.cell? ⟨w.heap.size, 1, none⟩ = some (.int .i64 (fl : Int)) ∧ X.cell? ⟨w.heap.size, 2, none⟩ = some (.int .i64 (dr : Int)) ∧ X.cell? ⟨w.heap.size, 3, none⟩ = some (.int .i64 (mf : Int)) ∧ X.cell? ⟨w.heap.size, 4, none⟩ = some (.int .i64 (ls : Int)) ∧ X.cell? ⟨w.heap.size, 5, none⟩ = some (.int .i64 (pg : Int))) (first | with_reducible exact HRC.out _ hbw | with_reducible exact HRC.out _ (by (repeat (first | with_reducible exact Below.refl _ _ | with_reducible refine Below.drew ?_ | with_reducible refine below_alloc ?_ _)); (first | done | fail)) | go_keep) (first | (go_at_call 60; refine (KS2.out _ (by (repeat (first | with_reducible exact Below.refl _ _ | with_reducible refine Below.drew ?_ | with_reducible refine below_alloc ?_ _)); (first | done | fail))).mono ?_; rintro e w5 ⟨rfl, hb5⟩; have hbw : Below W2.heap.size W2 w5 := below_on hb5 (by (repeat (first | with_reducible exact Below.refl _ _ | with_reducible refine Below.drew ?_ | with_reducible refine below_alloc ?_ _)); (first | done | fail))))
    all_goals
      go_wp2_with fail
      go_meet
      exact ⟨rfl, rfl, hbw⟩
  case rest =>
  obtain ⟨rfl, rfl, HBc⟩ := hcut
  have HO3 : Hid (wc.ownsRow V.heap.size 3 1 (.slice (some ⟨w1.heap.size, 0, none⟩) n n) n (zsC (prtG (0 : Int) F n 0)) ∧ Below V.heap.size V wc) := ⟨owns_below HO2.out.1 HBc.out, below_on HBc.out HO2.out.2⟩
  clear x0 x1 x2 x3 y0 y1 y2 y3 y4 y5 hW2 HO2 HBc KS2 HRC hmk HMK
  generalize hg : w1.heap.size = g at *
  go_wp2_with fail
  go_loopg [26] n (fun gk iv wr => ∃ i : Nat, i + gk = n ∧ iv = .int .i64 (i : Int) ∧ Hid (wr.ownsRow V.heap.size 3 1 (.slice (some ⟨g, 0, none⟩) n n) n (zsC (prtG (0 : Int) F n i))) ∧ Hid (Below V.heap.size V wr))
  case atStart => exact ⟨0, by omega, rfl, HO3.out.1, HO3.out.2⟩
  case round =>
    obtain ⟨i, hik, rfl, HO, HB⟩ := hrel
    by_cases hlt : i < n
    · have hltI : (i : Int) < (n : Int) := by omega
      obtain ⟨p, hp⟩ : ∃ p, st + i * 4 = p := ⟨_, rfl⟩
      have hpb : p + 4 ≤ s.size := by omega
      obtain ⟨e1, e2, e3⟩ := two_ext s p 4 hpb
      obtain ⟨s1, hs1⟩ : ∃ s1, s.extract p s.size = s1 := ⟨_, rfl⟩
      rw [hs1] at e1 e2 e3
      obtain ⟨s2, hs2⟩ : ∃ s2, s1.extract 0 4 = s2 := ⟨_, rfl⟩
      rw [hs2] at e2 e3
      rw [← hp] at e3
      have KF := KF0.out i hlt s2 e2 e3
      obtain ⟨q, hq⟩ : ∃ q, i * 4 = q := ⟨_, rfl⟩
      have hm1 : (i : Int) * 4 = (q : Int) := by omega
      have hpI : (st : Int) + (q : Int) = (p : Int) := by omega
      have hwp : IntKind.i64.wrap (p : Int) = (p : Int) := by rw [IntKind.wrap_i64]; omega
      have hwm : IntKind.i64.wrap (q : Int) = (q : Int) := by rw [IntKind.wrap_i64]; omega
      have hsA : ∀ W, (Instr.slice 9 (.string s) (some (.int .i64 (p : Int))) none none).run Tryd.prog W = .ok (.string s1) W := fun W => by rw [← hs1]; exact sl_of W 9 s _ p Tryd.underlying9 rfl (by omega)
      have hsB : ∀ W, (Instr.slice 9 (.string s1) none (some (.int .i64 4)) none).run Tryd.prog W = .ok (.string s2) W := fun W => by rw [← hs2]; exact sl_to W 9 s1 _ 4 Tryd.underlying9 rfl (by omega)
      have HN : Hid (∀ w5, Below wr.heap.size wr w5 → (w5.ownsRow V.heap.size 3 1 (.slice (some ⟨g, 0, none⟩) n n) n (zsC (prtG (0 : Int) F n i)) ∧ Below V.heap.size V w5)) := fun w5 h5 => ⟨owns_below HO.out h5, below_on h5 HB.out⟩
      have HSET : Hid _ := prtG_set (0 : Int) F n i
      clear hp hs1 hs2 e1 e2 e3 hpb HO HB hq
      go_wp2_with fail
      refine (KF _).mono ?_
      rintro e w5 ⟨he5, hb5'⟩
      obtain ⟨HO5, hb5⟩ := HN.out w5 hb5'
      obtain ⟨s0, fz⟩ := int_at HO5 (prtG_get (0 : Int) F hlt)
      have HP : Hid ((w5.setCell ⟨g, i, none⟩ (.int .i64 (F i))).ownsRow V.heap.size 3 1 (.slice (some ⟨g, 0, none⟩) n n) n (zsC (prtG (0 : Int) F n (i + 1))) ∧ Below V.heap.size V (w5.setCell ⟨g, i, none⟩ (.int .i64 (F i)))) := ⟨by rw [← HSET.out]; exact int_put HO5 (F i), hb5.setCell hgV _⟩
      subst he5
      clear HN HSET HO5 hb5 hb5' KF KF0
      go_wp2
      go_roundg (gk - 1)
      case measure => omega
      case rel => exact ⟨i + 1, by omega, rfl, HP.out.1, HP.out.2⟩
    · obtain rfl : i = n := by omega
      have hltI : ¬ (i : Int) < (i : Int) := by omega
      have HO2 : Hid (wr.ownsRow w.heap.size 3 1 (.slice (some ⟨g, 0, none⟩) i i) i (zsC ((List.range i).map F)) ∧ Below w.heap.size w wr) := by
        have := HO.out
        rw [prtG_all] at this
        exact ⟨owns_base this (by omega), (HX.out wr HB.out).2.2⟩
      go_wp2
      go_ret
      exact ⟨_, _, rfl, HO2.out.1, HO2.out.2⟩
end Go.Proofs.YtbdgbefjmfcgcaaDoor.Ix

namespace Go.Proofs.YtbdgbefjmfcgcaaDoor.Ix
open Go.RowKit Go.Lib Go.Deep
set_option maxRecDepth 20000 in
set_option maxHeartbeats 1000000 in
theorem grow_any (n : Nat) (h0 : 0 < n) (hn : n ≤ 16777216) (w : World) :
    Calls Tryd.prog 69 #[.slice none 0 0, .int .i64 (n : Int)] w fun e w' => ∃ v, e = .returned v ∧ w'.ownsRow w.heap.size 44 5 v 0 [] ∧ Below w.heap.size w w' := by
  obtain ⟨i0, hi, hz0, hz1, hz2⟩ := info_parts info91
  have hge := grownCap_ge w n 0 44
  have hcm := grownCap_le_maxLen w n 0 44 (by unfold maxLen; omega)
  have hrun := fun ty => run_append_grow_zeros (P := Tryd.prog) w 26 3 ty 44 i0 (.agg #[.int .i64 0, .int .i64 0, .int .i64 0, .string { data := #[] }, .int .i64 0]) .i64 .i64 Tryd.underlying26 Tryd.underlying3 hi hz0 none 0 0 [] (run_firstCells_none w.drew _ 0 0 0) n h0 (by rw [hz1]; omega) (by omega) (by omega) (by rw [hz2]; omega) (by rw [hz2]; exact growslice_fits (by omega) (by omega))
  simp only [Nat.zero_add] at hrun
  obtain ⟨C, hC⟩ : ∃ C, grownCap w n 0 44 = C := ⟨_, rfl⟩
  rw [hC] at hge hcm hrun
  obtain ⟨cur, hcur⟩ : ∃ cur : Array Value, ([] : List Value).toArray ++ Builtin.zeroCells (Value.agg #[.int .i64 0, .int .i64 0, .int .i64 0, .string { data := #[] }, .int .i64 0]).cells n ++ Builtin.zeroCells (Value.agg #[.int .i64 0, .int .i64 0, .int .i64 0, .string { data := #[] }, .int .i64 0]).cells (C - n) = cur := ⟨_, rfl⟩
  rw [hcur] at hrun
  have hsz : cur.size = C * 5 := by
    rw [← hcur]
    have hz1 : (Value.agg #[.int .i64 0, .int .i64 0, .int .i64 0, .string { data := #[] }, .int .i64 0]).cells.size = 5 := rfl
    simp only [Array.size_append, List.size_toArray, List.length_nil, size_zeroCells, hz1]
    omega
  have hown : (w.drew.alloc (.cells cur 44)).ownsRow w.heap.size 44 5 (.slice (some ⟨w.heap.size, 0, none⟩) 0 C) 0 [] := World.ownsRow_made w.drew cur C (Nat.le_refl _) hcm hsz
  have hbel : Below w.heap.size w (w.drew.alloc (.cells cur 44)) := ((Below.refl w.heap.size w).drew).alloc (Nat.le_refl _) _
  have hn1 : (0 : Int) < (n : Int) := by omega
  have hn2 : ¬ (n : Int) < 0 := by omega
  clear hC hcur hsz
  go_enter Tryd.func69, Tryd.ntmps69
  go_wp2_with (at_builtin; refine wpList_append_run rfl _ _ 26 3 rfl (.slice none 0 0) (.int .i64 (n : Int)) _ _ rfl rfl hrun ?_)
  go_ret
  exact ⟨_, rfl, hown, hbel⟩
theorem grow0_any (w : World) : Calls Tryd.prog 69 #[.slice none 0 0, .int .i64 0] w fun e w' => ∃ v, e = .returned v ∧ w'.ownsRow w.heap.size 44 5 v 0 [] ∧ Below w.heap.size w w' := by
  go_enter Tryd.func69, Tryd.ntmps69
  go_wp2
  go_ret
  exact ⟨_, rfl, World.ownsRow_nil _ _ _ _, Below.refl _ _⟩
theorem growE_any (n : Nat) (hn : n ≤ 16777216) (w : World) : Calls Tryd.prog 69 #[.slice none 0 0, .int .i64 (n : Int)] w fun e w' => ∃ v, e = .returned v ∧ w'.ownsRow w.heap.size 44 5 v 0 [] ∧ Below w.heap.size w w' := by
  rcases Nat.eq_zero_or_pos n with rfl | h
  · exact grow0_any w
  · exact grow_any n h hn w
set_option maxRecDepth 20000 in
set_option maxHeartbeats 1000000 in
theorem concat_any (w : World) (b : Nat) (v1 v2 : Value) (n1 n2 : Nat) (A L : List Value) (hb0 : w.cell? ⟨b, 0, none⟩ = some v1) (hb1 : w.cell? ⟨b, 1, none⟩ = some v2) (h1 : See w 5 v1 n1 A) (h2 : See w 5 v2 n2 L) (hsm : n1 + n2 ≤ 16777216) :
    Calls Tryd.prog 53 #[.slice (some ⟨b, 0, none⟩) 2 2] w fun e w' => ∃ v, e = .returned v ∧ w'.ownsRow w.heap.size 44 5 v (n1 + n2) (A ++ L) ∧ Below w.heap.size w w' := by
  have hblt : b < w.heap.size := block_lt_of_cell hb0
  have HL1 : Hid (See w 5 v1 n1 A) := h1
  have HL2 : Hid (See w 5 v2 n2 L) := h2
  have HB : Hid (∀ W, Below w.heap.size w W → W.cell? ⟨b, 0, none⟩ = some v1 ∧ W.cell? ⟨b, 1, none⟩ = some v2) := fun W hb => ⟨(hb.cell (p := ⟨b, 0, none⟩) hblt).trans hb0, (hb.cell (p := ⟨b, 1, none⟩) hblt).trans hb1⟩
  have HM : Hid (n1 + n2 ≤ maxLen ∧ n1 ≤ maxLen) := ⟨by unfold maxLen; omega, by unfold maxLen; omega⟩
  obtain ⟨a1, k1, rfl⟩ := h1.form
  obtain ⟨a2, k2, rfl⟩ := h2.form
  have w1 : IntKind.i64.wrap ((n1 : Int) + (n2 : Int)) = (n1 : Int) + (n2 : Int) := by rw [IntKind.wrap_i64]; omega
  have w0 : ¬ ((n1 : Int) < 0) := by omega
  have w2 : ¬ ((n1 : Int) + (n2 : Int) < 0) := by omega
  have hgr := growE_any (n1 + n2) hsm w
  rw [show ((n1 + n2 : Nat) : Int) = (n1 : Int) + (n2 : Int) by omega] at hgr
  clear h1 h2 hblt
  go_enter Tryd.func53, Tryd.ntmps53
  go_wp2
  go_loopg [3, 11] 2 (fun gk v i wr => (gk = 2 ∧ i = .int .i64 0 ∧ v = .int .i64 0 ∧ w = wr) ∨ (gk = 1 ∧ i = .int .i64 1 ∧ v = .int .i64 (n1 : Int) ∧ w = wr) ∨ (gk = 0 ∧ i = .int .i64 2 ∧ v = .int .i64 ((n1 : Int) + (n2 : Int)) ∧ w = wr))
  case atStart => exact Or.inl ⟨rfl, rfl, rfl, rfl⟩
  case round =>
    rcases hrel with ⟨rfl, rfl, rfl, rfl⟩ | ⟨rfl, rfl, rfl, rfl⟩ | ⟨rfl, rfl, rfl, rfl⟩
    · go_wp2
      go_roundg 1
      case measure => omega
      case rel => exact Or.inr (Or.inl ⟨rfl, rfl, rfl, rfl⟩)
    · go_wp2
      go_roundg 0
      case measure => omega
      case rel => exact Or.inr (Or.inr ⟨rfl, rfl, rfl, rfl⟩)
    · go_wp2_with fail
      refine hgr.mono ?_
      rintro e w2 ⟨v0, rfl, hown, hb2⟩
      clear hgr hb0 hb1
      go_wp2
      go_loopg [6, 27] 2 (fun gk v i wr => Below w.heap.size w wr ∧ ((gk = 2 ∧ i = .int .i64 0 ∧ wr.ownsRow w.heap.size 44 5 v 0 []) ∨ (gk = 1 ∧ i = .int .i64 1 ∧ wr.ownsRow w.heap.size 44 5 v n1 A) ∨ (gk = 0 ∧ i = .int .i64 2 ∧ wr.ownsRow w.heap.size 44 5 v (n1 + n2) (A ++ L))))
      case atStart => exact ⟨hb2, Or.inl ⟨rfl, rfl, hown⟩⟩
      case round =>
        clear hown hb2
        obtain ⟨hbel, ⟨rfl, rfl, hown⟩ | ⟨rfl, rfl, hown⟩ | ⟨rfl, rfl, hown⟩⟩ := hrel
        · obtain ⟨hb0, hb1⟩ := HB.out wr hbel
          have hs1 := HL1.out.below hbel
          obtain ⟨aa, cc, rfl⟩ := owns_form hown
          go_wp2_with (at_builtin; refine wpList_app rfl _ _ 26 44 rfl (.agg #[.int .i64 0, .int .i64 0, .int .i64 0, .string { data := #[] }, .int .i64 0]) 5 48 Tryd.underlying26 info91 rfl (by decide) w.heap.size _ _ 0 n1 [] A rfl hown rfl hs1 (by have := HM.out; omega) (by omega) hbel.size ?_; intro v' w' hown' hg')
          have R : w'.ownsRow w.heap.size 44 5 v' n1 A := by rw [Nat.zero_add] at hown'; exact hown'
          have hb2 := hbel.trans (grown_base hg' hbel.size hown)
          clear hown hown' hb0 hb1 hbel hg' hs1
          go_wp2
          go_roundg 1
          case measure => omega
          case rel => exact ⟨hb2, Or.inr (Or.inl ⟨rfl, rfl, R⟩)⟩
        · obtain ⟨hb0, hb1⟩ := HB.out wr hbel
          have hs2 := HL2.out.below hbel
          obtain ⟨aa, cc, rfl⟩ := owns_form hown
          go_wp2_with (at_builtin; refine wpList_app rfl _ _ 26 44 rfl (.agg #[.int .i64 0, .int .i64 0, .int .i64 0, .string { data := #[] }, .int .i64 0]) 5 48 Tryd.underlying26 info91 rfl (by decide) w.heap.size _ _ n1 n2 A L rfl hown rfl hs2 (by have := HM.out; omega) (by omega) hbel.size ?_; intro v' w' hown' hg')
          have hb2 := hbel.trans (grown_base hg' hbel.size hown)
          have R : Hid (w'.ownsRow w.heap.size 44 5 v' (n1 + n2) (A ++ L)) := hown'
          clear hown hown' hb0 hb1 hbel hg' hs2
          go_wp2
          go_roundg 0
          case measure => omega
          case rel => exact ⟨hb2, Or.inr (Or.inr ⟨rfl, rfl, R.out⟩)⟩
        · go_wp2
          go_ret
          exact ⟨_, rfl, hown, hbel⟩
set_option maxRecDepth 20000 in
theorem ints_fromC (W : World) (g L cap lo : Nat) (hlo : lo < L) (hcap : L ≤ cap) (z : Int) (hz : z = (lo : Int)) : (Instr.slice 24 (.slice (some ⟨g, 0, none⟩) L cap) (some (.int .i64 z)) none none).run Tryd.prog W = .ok (.slice (some ⟨g, lo, none⟩) (L - lo) (cap - lo)) W := by
  subst hz
  obtain ⟨i0, hi0, -, hs0, -⟩ := info_parts info3
  have he : Tryd.prog.elem 24 = 3 := by kernel_rfl
  rw [run_slice_l (P := Tryd.prog) (ht := Tryd.underlying24) (kl := .i64) (l := (lo : Int)) (h0 := by omega) (h1 := by omega)]
  have h1 : ¬ cap = lo := by omega
  simp [sizeOf, typeInfo, he, hi0, hs0, sliced, Result.andThen, Addr.add_lit, h1]
set_option maxRecDepth 20000 in
theorem ints_to (W : World) (g off L cap hi : Nat) (hcap : hi ≤ cap) (z : Int) (hz : z = (hi : Int)) : (Instr.slice 24 (.slice (some ⟨g, off, none⟩) L cap) none (some (.int .i64 z)) none).run Tryd.prog W = .ok (.slice (some ⟨g, off, none⟩) hi cap) W := by
  subst hz
  obtain ⟨i0, hi0, -, hs0, -⟩ := info_parts info3
  have he : Tryd.prog.elem 24 = 3 := by kernel_rfl
  rw [run_slice_h (P := Tryd.prog) (ht := Tryd.underlying24) (kh := .i64) (h := (hi : Int)) (h0 := by omega) (h2 := by omega)]
  simp [sizeOf, typeInfo, he, hi0, hs0, sliced, Result.andThen, Addr.add_lit]
theorem see_tail {W : World} {B g n cap : Nat} {q : Int} {L : List Int} (h : W.ownsRow B 3 1 (.slice (some ⟨g, 0, none⟩) (1 + n) cap) (1 + n) (zsC (q :: L))) (hL : L.length = n) (m : Nat) (hm : m ≤ n) : See W 1 (.slice (some ⟨g, 1, none⟩) m (cap - 1)) m (zsC (L.take m)) := by
  have hc := own_cap h
  refine see_in (by omega) (by omega) (by simp [zsC, List.length_take]; omega) (zs_one _) fun j u hu => ?_
  simp only [zsC, List.getElem?_map] at hu
  obtain ⟨z, hz, rfl⟩ := Option.map_eq_some_iff.1 hu
  rw [List.getElem?_take] at hz
  split at hz
  · obtain ⟨b', off', e, -, hcs⟩ := (see_own h (zs_one _)).z (i := 1 + j) (z := z) (by rw [Nat.add_comm, List.getElem?_cons_succ]; exact hz)
    injection e with e
    injection e with e1 e2 _
    subst e1 e2
    rw [Addr.add_lit]
    rw [Nat.zero_add] at hcs
    exact hcs
  · cases hz
set_option maxRecDepth 20000 in
set_option maxHeartbeats 1000000 in
/-- a queue of its rows -/
theorem uncounted_any (m r : Nat) (hm : m ≤ r) (hr : r ≤ 100000) (hr1 : 1 ≤ r) (L : List Int) (B : Nat) (w : World) (g cap : Nat) (hS : w.ownsRow B 3 1 (.slice (some ⟨g, 0, none⟩) (1 + r) cap) (1 + r) (zsC ((m : Int) :: L))) :
    Calls Tryd.prog 57 #[.slice (some ⟨g, 0, none⟩) (1 + r) cap] w fun e w' => e = .returned (.slice (some ⟨g, 1, none⟩) m (cap - 1)) ∧ Below w.heap.size w w' := by
  obtain ⟨b0, off0, e, -, c0⟩ := (see_own hS (zs_one _)).z (i := 0) (z := (m : Int)) rfl
  injection e with e
  injection e with e1 e2 _
  subst e1 e2
  have hc := own_cap hS
  obtain ⟨d, hd⟩ : ∃ d, cap - 1 = d := ⟨_, rfl⟩
  obtain ⟨n, hn⟩ : ∃ n, 1 + r = n := ⟨_, rfl⟩
  have h1 : ∀ W, (Instr.slice 24 (.slice (some ⟨g, 0, none⟩) n cap) (some (.int .i64 1)) none none).run Tryd.prog W = .ok (.slice (some ⟨g, 1, none⟩) r d) W := fun W => by
    have h := ints_fromC W g n cap 1 (by omega) (by omega) 1 rfl
    rw [hd, show n - 1 = r by omega] at h
    exact h
  have h2 : ∀ W, (Instr.slice 24 (.slice (some ⟨g, 1, none⟩) r d) none (some (.int .i64 (m : Int))) none).run Tryd.prog W = .ok (.slice (some ⟨g, 1, none⟩) m d) W := fun W => ints_to W g 1 r d m (by omega) _ rfl
  have KI := fun X => isFrom_any (m : Int) 0 (r : Int) X
  rw [decide_eq_true (show (0 : Int) ≤ (m : Int) ∧ (m : Int) ≤ (r : Int) by omega)] at KI
  have hn0 : 0 < n := by omega
  have HB : Hid (Below w.heap.size w w.drew) := (Below.refl _ _).drew
  rw [hd, hn]
  rw [Nat.zero_add] at c0
  clear hS hd hn hc
  go_enter Tryd.func57, Tryd.ntmps57
  go_wp2_with fail
  go_region_held_law (fun X => X.cell? ⟨g, 0, none⟩ = some (.int .i64 (m : Int))) (first | go_keep) (first | fail)
  all_goals
    go_wp2_with fail
    refine (KI _).mono ?_
    rintro e w5 ⟨rfl, hw5⟩
    subst hw5
    go_wp2
    go_ret
    exact ⟨rfl, HB.out⟩
end Go.Proofs.YtbdgbefjmfcgcaaDoor.Ix
