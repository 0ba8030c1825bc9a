import Derived.Test.YtckbbbcjpklnmaaDoorIxN6
import Derived.Test.YtckbbbcjpklnmaaDoorIxQ
namespace Go.Proofs.YtckbbbcjpklnmaaDoor.Ix
open Go.RowKit Go.Lib Go.Deep
/-- both tables of nodes, so many of them laid -/
structure Bn (w : World) (c : Cn) (gd gf : Nat) (A : List Nd) (X : World) : Prop where
  be : Below w.heap.size w X
  hd : X.ownsRow w.heap.size 91 5 (.slice (some ⟨gd, 0, none⟩) c.dr c.dr) c.dr (ndsC (dirsL c A))
  hf : X.ownsRow w.heap.size 91 5 (.slice (some ⟨gf, 0, none⟩) c.fl c.fl) c.fl (ndsC (filsL c A))
  ne : gd ≠ gf
  ld : w.heap.size ≤ gd
  lf : w.heap.size ≤ gf
theorem Bn.next {w : World} {c : Cn} {gd gf : Nat} {A : List Nd} {X Y : World} (h : Bn w c gd gf A X) (hb : Below X.heap.size X Y) : Bn w c gd gf A Y :=
  ⟨h.be.trans (hb.mono h.be.size), owns_below h.hd hb, owns_below h.hf hb, h.ne, h.ld, h.lf⟩
theorem put5_be {w X : World} (h : Below w.heap.size w X) {g : Nat} (hg : w.heap.size ≤ g) (o : Nat) (x : Nd) : Below w.heap.size w (put5 X g o x) :=
  ((((h.setCell hg _).setCell hg _).setCell hg _).setCell hg _).setCell hg _
theorem put5_other (X : World) {g h : Nat} (hne : h ≠ g) (o : Nat) (x : Nd) : (put5 X g o x).heap[h]? = X.heap[h]? := by
  unfold put5
  rw [heap_setCell_other _ _ _ _ hne, heap_setCell_other _ _ _ _ hne, heap_setCell_other _ _ _ _ hne, heap_setCell_other _ _ _ _ hne, heap_setCell_other _ _ _ _ hne]
theorem Bn.dir {w : World} {c : Cn} {gd gf : Nat} {A : List Nd} {X : World} (h : Bn w c gd gf A X) {x : Nd} (hl : ∀ m ∈ A, plc c m < plc c x) (q : Nat) (hq : (q : Int) + 1 = plc c x) (hqd : q < c.dr) : Bn w c gd gf (A ++ [x]) (put5 X gd (q * 5) x) := by
  have hg : (dirsL c A)[q]? = some (slot c A ((q : Int) + 1)) := by
    unfold dirsL
    rw [List.getElem?_map, List.getElem?_range hqd]
    rfl
  refine ⟨put5_be h.be h.ld _ _, ?_, ?_, h.ne, h.ld, h.lf⟩
  · rw [dirs_snoc hl q hq]
    exact (nds_put h.hd hg x).1
  · rw [fils_same hl (by omega)]
    exact owns_keep h.hf fun g hg => put5_other X (by
      injection hg with hg
      subst hg
      exact fun e => h.ne e.symm) _ _
theorem Bn.fil {w : World} {c : Cn} {gd gf : Nat} {A : List Nd} {X : World} (h : Bn w c gd gf A X) {x : Nd} (hl : ∀ m ∈ A, plc c m < plc c x) (q : Nat) (hq : (c.dr : Int) + 1 + (q : Int) = plc c x) (hqd : q < c.fl) : Bn w c gd gf (A ++ [x]) (put5 X gf (q * 5) x) := by
  have hg : (filsL c A)[q]? = some (slot c A (c.dr + 1 + (q : Int))) := by
    unfold filsL
    rw [List.getElem?_map, List.getElem?_range hqd]
    rfl
  refine ⟨put5_be h.be h.lf _ _, ?_, ?_, h.ne, h.ld, h.lf⟩
  · rw [dirs_same hl (by omega)]
    exact owns_keep h.hd fun g hg => put5_other X (by
      injection hg with hg
      subst hg
      exact h.ne) _ _
  · rw [fils_snoc hl q hq]
    exact (nds_put h.hf hg x).1
/-- the cells of a place -/
theorem nd_at {X : World} {B g N q : Nat} {l : List Nd} (h : X.ownsRow B 91 5 (.slice (some ⟨g, 0, none⟩) N N) N (ndsC l)) {x : Nd} (hq : l[q]? = some x) :
    (X.cell? ⟨g, q * 5, none⟩ = some (.int .i64 x.kd) ∧ X.cell? ⟨g, q * 5 + 1, none⟩ = some (.int .i64 x.nu) ∧ X.cell? ⟨g, q * 5 + 2, none⟩ = some (.int .i64 x.pa) ∧ X.cell? ⟨g, q * 5 + 3, none⟩ = some (.string x.nm) ∧ X.cell? ⟨g, q * 5 + 4, none⟩ = some (.int .i64 x.sz)) ∧ ∀ j, X.frozen? ⟨g, j, none⟩ = false := by
  obtain ⟨b, off, e, -, hcc⟩ := (see_own h (nds_one _)).row ndC_len (by decide) hq
  injection e with e
  injection e with e1 e2 _
  subst e1 e2
  have z : ∀ j, 0 + q * 5 + j = q * 5 + j := fun j => by omega
  refine ⟨⟨?_, ?_, ?_, ?_, ?_⟩, fun j => ?_⟩
  · have := hcc 0 _ rfl
    rw [z] at this
    exact this
  · have := hcc 1 _ rfl
    rw [z] at this
    exact this
  · have := hcc 2 _ rfl
    rw [z] at this
    exact this
  · have := hcc 3 _ rfl
    rw [z] at this
    exact this
  · have := hcc 4 _ rfl
    rw [z] at this
    exact this
  · rcases h.2 with ⟨h1, h2⟩ | ⟨g1, cap, cur, h1, h2, h3, h4, h5, h6, h7⟩
    · cases h1
    · injection h1 with e1 _ e2
      injection e1 with e1
      injection e1 with e1 _ _
      subst e1
      exact frozen_of_heap h3
end Go.Proofs.YtckbbbcjpklnmaaDoor.Ix
