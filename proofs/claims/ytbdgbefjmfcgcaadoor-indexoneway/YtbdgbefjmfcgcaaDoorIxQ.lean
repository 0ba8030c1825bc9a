import Derived.Test.YtbdgbefjmfcgcaaDoorIxO
import Derived.Deep.RegionWith
namespace Go.Proofs.YtbdgbefjmfcgcaaDoor.Ix
open Go.RowKit Go.Lib Go.Deep

theorem slot_snoc {c : Cn} {A : List Nd} {n : Nd} (h : ∀ m ∈ A, plc c m < plc c n) (p : Int) : slot c (A ++ [n]) p = if plc c n = p then n else slot c A p := by
  by_cases e : plc c n = p
  · rw [if_pos e, slot_right (fun m hm => by have := h m hm; omega)]
    unfold slot
    rw [List.find?_cons_of_pos (by simp [e])]
    rfl
  · rw [if_neg e, slot_left (fun m hm => by simp at hm; rw [hm]; exact e)]
theorem dirs_snoc {c : Cn} {A : List Nd} {n : Nd} (h : ∀ m ∈ A, plc c m < plc c n) (q : Nat) (hq : (q : Int) + 1 = plc c n) : dirsL c (A ++ [n]) = (dirsL c A).set q n := by
  unfold dirsL
  apply List.ext_getElem?
  intro j
  rw [List.getElem?_set, List.getElem?_map, List.getElem?_map]
  by_cases hj : j < c.dr
  · rw [List.getElem?_range hj]
    simp only [Option.map_some, List.length_map, List.length_range]
    rw [slot_snoc h]
    by_cases e : q = j
    · subst e
      rw [if_pos (by omega), if_pos rfl, if_pos hj]
    · rw [if_neg (by omega), if_neg e]
  · rw [List.getElem?_eq_none (l := List.range c.dr) (by simp; omega)]
    simp only [Option.map_none, List.length_map, List.length_range]
    split
    · rw [if_neg (by omega)]
    · rfl
theorem dirs_same {c : Cn} {A : List Nd} {n : Nd} (h : ∀ m ∈ A, plc c m < plc c n) (hq : (c.dr : Int) < plc c n) : dirsL c (A ++ [n]) = dirsL c A := by
  unfold dirsL
  apply List.map_congr_left
  intro j hj
  have := List.mem_range.1 hj
  rw [slot_snoc h, if_neg (by omega)]
theorem fils_snoc {c : Cn} {A : List Nd} {n : Nd} (h : ∀ m ∈ A, plc c m < plc c n) (q : Nat) (hq : (c.dr : Int) + 1 + (q : Int) = plc c n) : filsL c (A ++ [n]) = (filsL c A).set q n := by
  unfold filsL
  apply List.ext_getElem?
  intro j
  rw [List.getElem?_set, List.getElem?_map, List.getElem?_map]
  by_cases hj : j < c.fl
  · rw [List.getElem?_range hj]
    simp only [Option.map_some, List.length_map, List.length_range]
    rw [slot_snoc h]
    by_cases e : q = j
    · subst e
      rw [if_pos (by omega), if_pos rfl, if_pos hj]
    · rw [if_neg (by omega), if_neg e]
  · rw [List.getElem?_eq_none (l := List.range c.fl) (by simp; omega)]
    simp only [Option.map_none, List.length_map, List.length_range]
    split
    · rw [if_neg (by omega)]
    · rfl
theorem fils_same {c : Cn} {A : List Nd} {n : Nd} (h : ∀ m ∈ A, plc c m < plc c n) (hq : plc c n ≤ c.dr) : filsL c (A ++ [n]) = filsL c A := by
  unfold filsL
  apply List.map_congr_left
  intro j _
  rw [slot_snoc h, if_neg (by omega)]
theorem dirs_nil (c : Cn) : dirsL c [] = List.replicate c.dr zN := by
  unfold dirsL slot
  simp [List.map_const']
theorem fils_nil (c : Cn) : filsL c [] = List.replicate c.fl zN := by
  unfold filsL slot
  simp [List.map_const']
theorem grown_trans {a b c : World} {r : Option Nat} (h : a.grownBy b r) (k : b.grownBy c r) : a.grownBy c r := ⟨k.os.trans h.os, k.tape.trans h.tape, k.output.trans h.output, Nat.le_trans h.size k.size, fun i hi hr => (k.block i (Nat.lt_of_lt_of_le hi h.size) hr).trans (h.block i hi hr)⟩
def put5 (W : World) (g o : Nat) (x : Nd) : World := ((((W.setCell ⟨g, o, none⟩ (.int .i64 x.kd)).setCell ⟨g, o + 1, none⟩ (.int .i64 x.nu)).setCell ⟨g, o + 2, none⟩ (.int .i64 x.pa)).setCell ⟨g, o + 3, none⟩ (.string x.nm)).setCell ⟨g, o + 4, none⟩ (.int .i64 x.sz)
theorem nds_put {w : World} {B g cap N : Nat} {l : List Nd} (h : w.ownsRow B 44 5 (.slice (some ⟨g, 0, none⟩) N cap) N (ndsC l)) {i : Nat} {was : Nd} (hi : l[i]? = some was) (x : Nd) :
    (put5 w g (i * 5) x).ownsRow B 44 5 (.slice (some ⟨g, 0, none⟩) N cap) N (ndsC (l.set i x)) ∧ w.grownBy (put5 w g (i * 5) x) (some g) := by
  have hl := some_lt hi
  have h1 := h.stored (i * 5) (.int .i64 x.kd)
  rw [show ndsC l = l.flatMap ndC from rfl, show i * 5 = i * 5 + 0 by omega, flat_set ndC 5 ndC_len l i _ ⟨x.kd, was.nu, was.pa, was.nm, was.sz⟩ hi 0 (.int .i64 x.kd) (by omega) rfl] at h1
  have h2 := h1.1.stored (i * 5 + 1) (.int .i64 x.nu)
  rw [flat_set ndC 5 ndC_len _ i ⟨x.kd, was.nu, was.pa, was.nm, was.sz⟩ ⟨x.kd, x.nu, was.pa, was.nm, was.sz⟩ (by rw [List.getElem?_set_self hl]) 1 (.int .i64 x.nu) (by omega) rfl, List.set_set] at h2
  have h3 := h2.1.stored (i * 5 + 2) (.int .i64 x.pa)
  rw [flat_set ndC 5 ndC_len _ i ⟨x.kd, x.nu, was.pa, was.nm, was.sz⟩ ⟨x.kd, x.nu, x.pa, was.nm, was.sz⟩ (by rw [List.getElem?_set_self hl]) 2 (.int .i64 x.pa) (by omega) rfl, List.set_set] at h3
  have h4 := h3.1.stored (i * 5 + 3) (.string x.nm)
  rw [flat_set ndC 5 ndC_len _ i ⟨x.kd, x.nu, x.pa, was.nm, was.sz⟩ ⟨x.kd, x.nu, x.pa, x.nm, was.sz⟩ (by rw [List.getElem?_set_self hl]) 3 (.string x.nm) (by omega) rfl, List.set_set] at h4
  have h5 := h4.1.stored (i * 5 + 4) (.int .i64 x.sz)
  rw [flat_set ndC 5 ndC_len _ i ⟨x.kd, x.nu, x.pa, x.nm, was.sz⟩ x (by rw [List.getElem?_set_self hl]) 4 (.int .i64 x.sz) (by omega) rfl, List.set_set] at h5
  exact ⟨h5.1, grown_trans (grown_trans (grown_trans (grown_trans h1.2 h2.2) h3.2) h4.2) h5.2⟩
theorem info91 : (Tryd.prog.info? 44).map (fun i => (i.zero, i.size, i.bytes)) = some (some (.agg #[.int .i64 0, .int .i64 0, .int .i64 0, .string { data := #[] }, .int .i64 0]), 5, 48) := by kernel_rfl
theorem make_nodes (n : Nat) (hn : n ≤ 100000) (w : World) : (Instr.makeSlice 26 (.int .i64 (n : Int)) (.int .i64 (n : Int))).run Tryd.prog w = .ok (.slice (some ⟨w.heap.size, 0, none⟩) n n) (w.alloc (.cells (madeCells #[.int .i64 0, .int .i64 0, .int .i64 0, .string { data := #[] }, .int .i64 0] (n * 5)) 44)) := by
  obtain ⟨i0, hi, hz0, hz1, hz2⟩ := info_parts info91
  have h := run_make (P := Tryd.prog) w 26 44 i0 (.agg #[.int .i64 0, .int .i64 0, .int .i64 0, .string { data := #[] }, .int .i64 0]) Tryd.underlying26 hi hz0 .i64 .i64 n n (by omega) (by omega) (by rw [hz2]; omega) (by omega)
  simpa [hz1, Value.cells] using h
theorem made_nodes (n : Nat) (hn : n ≤ 100000) (w : World) : World.ownsRow (w.alloc (.cells (madeCells #[.int .i64 0, .int .i64 0, .int .i64 0, .string { data := #[] }, .int .i64 0] (n * 5)) 44)) w.heap.size 44 5 (.slice (some ⟨w.heap.size, 0, none⟩) n n) n (ndsC (List.replicate n zN)) := by
  have e : (madeCells #[.int .i64 0, .int .i64 0, .int .i64 0, .string { data := #[] }, .int .i64 0] (n * 5)).toList = ndsC (List.replicate n zN) := by
    apply List.ext_getElem
    · rw [Array.length_toList, size_madeCells, nds_len, List.length_replicate]
    · intro i h1 h2
      have h3 : i < n * 5 := by rw [nds_len] at h2; simpa using h2
      have hg := flat_get ndC 5 ndC_len (List.replicate n zN) (i / 5) zN (by rw [List.getElem?_replicate, if_pos (by omega)]) (i % 5) (by omega)
      rw [show i / 5 * 5 + i % 5 = i by omega] at hg
      have e1 : (ndsC (List.replicate n zN))[i]? = (ndC zN)[i % 5]? := hg
      rw [List.getElem?_eq_getElem h2] at e1
      have e2 : (ndC zN)[i % 5]? = some ((#[.int .i64 0, .int .i64 0, .int .i64 0, .string { data := #[] }, .int .i64 0] : Array Value).getD (i % 5) default) := by
        rcases (show i % 5 = 0 ∨ i % 5 = 1 ∨ i % 5 = 2 ∨ i % 5 = 3 ∨ i % 5 = 4 by omega) with h | h | h | h | h <;> rw [h] <;> rfl
      rw [e2] at e1
      rw [Option.some.inj e1]
      simp [madeCells]
  refine ⟨by rw [nds_len, List.length_replicate], .inr ⟨w.heap.size, n, _, rfl, Nat.le_refl _, heap_new w _, Nat.le_refl _, by unfold maxLen; omega, ?_, ?_⟩⟩
  · rw [← Array.length_toList, e, nds_len, List.length_replicate]
  · rw [e]
    exact List.take_of_length_le (by rw [nds_len, List.length_replicate]; omega)
end Go.Proofs.YtbdgbefjmfcgcaaDoor.Ix
