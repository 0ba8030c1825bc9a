import Derived.Test.YtjjabkimmgcejaaDoorLawsF
import Derived.ArgAppend
namespace Go.Proofs.YtjjabkimmgcejaaDoor
open Go.RowKit Go.Lib

theorem heap_setCell_fr (w : World) (g i : Nat) (cs : Array Value) (t : TypeId) (fr : Nat × Nat) (v : Value) (hg : w.heap[g]? = some (.cells cs t fr)) : (w.setCell ⟨g, i, none⟩ v).heap[g]? = some (.cells (cs.setIfInBounds i v) t fr) := by
  rw [setCell_eq_setRow w g i cs t fr v hg]
  exact setRow_heap w g cs _ t _ hg
theorem heap_setCells_fr (b : Nat) (t : TypeId) (fr : Nat × Nat) : ∀ (vs : List Value) (o : Nat) (cs : Array Value) (w : World), w.heap[b]? = some (.cells cs t fr) → (w.setCells b o vs).heap[b]? = some (.cells (setMany cs o vs) t fr)
  | [], _, _, _, h => h
  | v :: vs, o, cs, w, h => heap_setCells_fr b t fr vs (o + 1) _ _ (heap_setCell_fr w b o cs t fr v h)

/-- a row of the call's own whose frozen mark, if it has one, lies beyond its cells: what '[]byte(s)' lays -/
def RowF (w : World) (base : Nat) (e : TypeId) (v : Value) (xs : List Value) : Prop :=
  ∃ g cap cur fr, v = .slice (some ⟨g, 0, none⟩) xs.length cap ∧ base ≤ g ∧ w.heap[g]? = some (.cells cur e fr) ∧ (∀ j, j < cap → w.frozen? ⟨g, j, none⟩ = false) ∧ cur.size = cap ∧ xs.length ≤ cap ∧ cap ≤ maxLen ∧ cur.toList.take xs.length = xs

theorem RowF.of_owns {w : World} {base : Nat} {e : TypeId} {v : Value} {xs : List Value} (h : w.ownsRow base e 1 v xs.length xs) (hv : 0 < xs.length) : RowF w base e v xs := by
  rcases h.2 with ⟨rfl, h0⟩ | ⟨g, cap, cur, rfl, hb, hg, hn, hc, hs, ht⟩
  · omega
  · exact ⟨g, cap, cur, (0, 0), rfl, hb, hg, fun j _ => frozen_of_heap hg, by omega, hn, hc, by simpa using ht⟩

/-- 'append' to such a row -/
theorem run_append_rowF {P : Program} (w : World) (base : Nat) (t ty e : TypeId) (i : TypeInfo) (z : Value) (bytes : Nat) (ht : P.underlying t = some (.slice e)) (hi : P.info? e = some i) (hz : i.zero = some z)
    (hsize : i.size = 1) (hby : i.bytes = bytes) (hzs : z.cells.size = 1) (v : Value) (xs : List Value) (hv : RowF w base e v xs)
    (a : Addr) (m c : Nat) (news : List Value) (hl : news.length = m) (hnews : ∀ j u, news[j]? = some u → w.cell? (a.add j) = some u) (h1 : ∀ u ∈ news, u.oneCell' = true)
    (h63 : xs.length + m ≤ maxLen) (hbytes : (xs.length + m) * bytes ≤ 140737488355328) (hbase : base ≤ w.heap.size) :
    ∃ v' w', (Builtin.append_ #[t, t] ty #[v, .slice (some a) m c]).run P w = .ok v' w' ∧ RowF w' base e v' (xs ++ news) ∧ Below base w w' := by
  obtain ⟨g, cap, cur, fr, rfl, hb, hg, hf, hs, hn, hc, htk⟩ := hv
  by_cases hroom : xs.length + m ≤ cap
  · have hcell : ∀ j, j < news.length → (w.cell? ⟨g, 0 + xs.length * i.size + j, none⟩).isSome = true := by
      intro j hj
      rw [cell_of_heap hg, hsize, Array.getElem?_eq_getElem (by omega)]
      rfl
    have hfr : ∀ j, j < news.length → w.frozen? ⟨g, 0 + xs.length * i.size + j, none⟩ = false := by
      intro j hj
      rw [hsize]
      exact hf _ (by omega)
    have hrun := run_append_room_cells (P := P) w t ty e i ht hi g 0 xs.length cap a m c news (by rw [hsize]; omega) hnews h1 hroom hcell hfr
    have hpl : (cur.toList.take xs.length).length = xs.length := by rw [htk]
    have e2 : (cur.toList.take xs.length ++ (cur.toList.drop xs.length).take m ++ cur.toList.drop (xs.length + m)).toArray = cur := by
      rw [List.append_assoc, ← List.drop_drop, List.take_append_drop, List.take_append_drop, Array.toArray_toList]
    have e1 := setMany_part (cur.toList.take xs.length) ((cur.toList.drop xs.length).take m) (cur.toList.drop (xs.length + m)) news (by rw [List.length_take, List.length_drop, Array.length_toList]; omega)
    rw [e2, hpl, htk] at e1
    have ep : 0 + xs.length * i.size = xs.length := by rw [hsize]; omega
    rw [ep] at hrun
    refine ⟨_, _, hrun, ⟨g, cap, setMany cur xs.length news, fr, by rw [List.length_append, hl], hb, heap_setCells_fr g e fr news _ cur w hg, ?_, ?_, by rw [List.length_append]; omega, hc, ?_⟩, ?_⟩
    · intro j hj
      rw [World.frozen?_setCells]
      exact hf j hj
    · rw [e1]
      simp only [List.size_toArray, List.length_append, List.length_drop, Array.length_toList]
      omega
    · rw [e1]
      exact List.take_left
    · exact Below.setCells (Below.refl _ _) hb _ _
  · have hm : 0 < m := by omega
    obtain ⟨v', w', hrun, ho, hgr⟩ := run_append_arg_grows (P := P) w t ty e i z 1 bytes ht hi hz hsize hby hzs (by omega) ⟨g, 0, none⟩ xs.length cap xs (by omega)
      (fun j u hj => by
        have hj' := (List.getElem?_eq_some_iff.1 hj).1
        rw [Addr.add_lit, Nat.zero_add, cell_of_heap hg]
        have : (cur.toList.take xs.length)[j]? = some u := by rw [htk]; exact hj
        rw [List.getElem?_take, if_pos hj'] at this
        simpa using this)
      a m c news (by omega) hnews (by omega) h63 hbytes
    refine ⟨v', w', hrun, ?_, Below.grown (Below.refl _ _) hgr hbase (by simp)⟩
    have hll : (xs ++ news).length = xs.length + m := by rw [List.length_append, hl]
    have ho' : w'.ownsRow w.heap.size e 1 v' (xs ++ news).length (xs ++ news) := by rw [hll]; exact ho
    obtain ⟨g', cap', cur', fr', r1, r2, r3, r4, r5, r6, r7, r8⟩ := RowF.of_owns ho' (by omega)
    exact ⟨g', cap', cur', fr', r1, by omega, r3, r4, r5, r6, r7, r8⟩

end Go.Proofs.YtjjabkimmgcejaaDoor
