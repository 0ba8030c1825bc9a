import Derived.Test.YtbjiamaaocjbfaaDoorLwD
import Derived.Test.YtbjiamaaocjbfaaDoorLwB
namespace Go.Proofs.YtbjiamaaocjbfaaDoor.Kl
open Go.RowKit Go.Lib Go.Deep Kr Kp

/-- a list by its slice -/
abbrev Hd := Option Addr × Nat × Nat
def sl (h : Hd) : Value := .slice h.1 h.2.1 h.2.2
theorem own_sl {W : World} {B : Nat} {h : Hd} {ss : List Slot} (o : OwnS W B (sl h) ss) : ss.length = h.2.1 := by
  obtain ⟨a, c, e⟩ := o.len
  unfold sl at e
  injection e with _ e _
  exact e.symm
/-- lists in rows of their own, no two in one -/
structure Hnd (W : World) (B : Nat) (hs : List Hd) (L : Nat → List Slot) : Prop where
  own : ∀ (j : Nat) h, hs[j]? = some h → OwnS W B (sl h) (L j)
  ne : ∀ (j k : Nat) h h', j ≠ k → hs[j]? = some h → hs[k]? = some h' → ∀ g, (sl h).ownBlock = some g → (sl h').ownBlock ≠ some g

theorem own_kept {W W' : World} {B : Nat} {v : Value} {ss : List Slot} (h : OwnS W B v ss) (hk : ∀ g, v.ownBlock = some g → W'.heap[g]? = W.heap[g]?) : OwnS W' B v ss := by
  obtain ⟨q0, q⟩ := h
  refine ⟨q0, ?_⟩
  rcases q with q | ⟨g1, cap1, cur1, q1, q2, q3, q4⟩
  · exact .inl q
  · exact .inr ⟨g1, cap1, cur1, q1, q2, (hk g1 (by rw [q1]; rfl)).trans q3, q4⟩
theorem own_lt {W : World} {B : Nat} {v : Value} {ss : List Slot} (h : OwnS W B v ss) : ∀ g, v.ownBlock = some g → B ≤ g ∧ g < W.heap.size := fun g hg => World.ownsRow.lt h g hg
theorem own_type {W : World} {B : Nat} {v : Value} {ss : List Slot} (h : OwnS W B v ss) : ∀ g, v.ownBlock = some g → ∃ cur, W.heap[g]? = some (.cells cur 26 (0, 0)) := fun g hg => by
  rcases h.2 with ⟨q, _⟩ | ⟨g1, cap1, cur1, q1, q2, q3, q4⟩
  · rw [q] at hg; cases hg
  · rw [q1] at hg
    simp [Value.ownBlock] at hg
    subst hg
    exact ⟨cur1, q3⟩

theorem Hnd.below {W W' : World} {B : Nat} {hs : List Hd} {L : Nat → List Slot} (h : Hnd W B hs L) (hb : Below W.heap.size W W') : Hnd W' B hs L :=
  ⟨fun j x hx => (h.own j x hx).below hb, h.ne⟩
theorem Hnd.snoc {W W' : World} {B : Nat} {hs : List Hd} {L : Nat → List Slot} {x : Hd} (h : Hnd W B hs L) (hb : Below W.heap.size W W') (ho : OwnS W' W.heap.size (sl x) (L hs.length)) (hB : B ≤ W.heap.size) : Hnd W' B (hs ++ [x]) L := by
  have at_ : ∀ (j : Nat) y, (hs ++ [x])[j]? = some y → (j < hs.length ∧ hs[j]? = some y) ∨ (j = hs.length ∧ y = x) := fun j y hy => by
    by_cases hj : j < hs.length
    · rw [List.getElem?_append_left hj] at hy
      exact .inl ⟨hj, hy⟩
    · rw [List.getElem?_append_right (by omega)] at hy
      have h0 : j - hs.length = 0 := by
        have := (List.getElem?_eq_some_iff.1 hy).1
        simp at this
        omega
      rw [h0] at hy
      exact .inr ⟨by omega, (Option.some.inj hy).symm⟩
  refine ⟨fun j y hy => ?_, fun j k y y' hjk hy hy' g hg hg' => ?_⟩
  · rcases at_ j y hy with ⟨_, h1⟩ | ⟨rfl, rfl⟩
    · exact (h.own j y h1).below hb
    · exact owns_mono ho hB
  · rcases at_ j y hy with ⟨_, h1⟩ | ⟨e1, e2⟩
    · rcases at_ k y' hy' with ⟨_, h2⟩ | ⟨e3, e4⟩
      · exact h.ne j k y y' hjk h1 h2 g hg hg'
      · subst e4
        have a := (own_lt (h.own j y h1) g hg).2
        have b := (own_lt ho g hg').1
        omega
    · rcases at_ k y' hy' with ⟨_, h2⟩ | ⟨e3, e4⟩
      · subst e2
        have a := (own_lt (h.own k y' h2) g hg').2
        have b := (own_lt ho g hg).1
        omega
      · omega
theorem Hnd.longer {W w' : World} {B : Nat} {hs : List Hd} {L : Nat → List Slot} {i : Nat} {h : Hd} {x : Value} {xs : List Slot} (H : Hnd W B hs L) (hi : hs[i]? = some h) (hl : Lng W B (sl h) (L i) w' x xs) : Hnd w' B hs L := by
  refine ⟨fun j y hy => ?_, H.ne⟩
  by_cases hj : j = i
  · subst hj
    rw [hi] at hy
    obtain rfl := Option.some.inj hy
    exact hl.old
  · exact own_kept (H.own j y hy) (fun g hg => hl.frame.block g (own_lt (H.own j y hy) g hg).2 (fun e => H.ne i j h y (Ne.symm hj) hi hy g e.symm hg))
/-- the row of a list of slots -/
theorem own_rowH {W : World} {B : Nat} {h : Hd} {ss : List Slot} (o : OwnS W B (sl h) ss) (h1 : 1 ≤ ss.length) : ∃ g, h.1 = some ⟨g, 0, none⟩ ∧ B ≤ g ∧ (∀ (u : Nat) s, ss[u]? = some s → (W.cell? ⟨g, u * 3, none⟩ = some (.string (str s.salt)) ∧ W.cell? ⟨g, u * 3 + 1, none⟩ = some (.int .i64 s.rounds) ∧ W.cell? ⟨g, u * 3 + 2, none⟩ = some (.string (str s.wrapped))) ∧ W.frozen? ⟨g, u * 3, none⟩ = false ∧ W.frozen? ⟨g, u * 3 + 1, none⟩ = false ∧ W.frozen? ⟨g, u * 3 + 2, none⟩ = false) ∧
    ∀ (u : Nat) (s : Slot), u < ss.length → OwnS (((W.setCell ⟨g, u * 3, none⟩ (.string (str s.salt))).setCell ⟨g, u * 3 + 1, none⟩ (.int .i64 s.rounds)).setCell ⟨g, u * 3 + 2, none⟩ (.string (str s.wrapped))) B (sl h) (ss.set u s) := by
  rcases o.2 with ⟨_, q⟩ | ⟨g, cap, cur, e1, e2, e3, e4, e5, e6, e7⟩
  · omega
  · have e1' := e1
    unfold sl at e1'
    injection e1' with f1 f2 f3
    refine ⟨g, f1, e2, fun u s hs => ?_, fun u s hu => ?_⟩
    · obtain ⟨a0, a1, a2⟩ := ring_at ss u s hs
      have hc : ∀ j v, (ringCells ss)[j]? = some v → W.cell? ⟨g, j, none⟩ = some v := fun j v hv => by
        have hj := (List.getElem?_eq_some_iff.1 hv).1
        rw [ringCells_length] at hj
        rw [← e7, List.getElem?_take, if_pos hj, Array.getElem?_toList] at hv
        exact (cell_of_heap e3).trans hv
      exact ⟨⟨hc _ _ a0, hc _ _ a1, hc _ _ a2⟩, frozen_of_heap e3, frozen_of_heap e3, frozen_of_heap e3⟩
    · have r1 := heap_setCell_same W g (u * 3) _ _ (.string (str s.salt)) e3
      have r2 := heap_setCell_same _ g (u * 3 + 1) _ _ (.int .i64 s.rounds) r1
      have r3 := heap_setCell_same _ g (u * 3 + 2) _ _ (.string (str s.wrapped)) r2
      refine ⟨by rw [ringCells_length], .inr ⟨g, cap, _, by rw [List.length_set]; exact e1, e2, r3, by rw [List.length_set]; exact e4, e5, by simp; omega, ?_⟩⟩
      rw [List.length_set]
      simp only [Array.toList_setIfInBounds]
      rw [List.take_set, List.take_set, List.take_set, e7, ringCells_set ss u s hu]
theorem heap_put3 {W : World} {g k : Nat} (h : k ≠ g) (o0 o1 o2 : Nat) (v0 v1 v2 : Value) : (((W.setCell ⟨g, o0, none⟩ v0).setCell ⟨g, o1, none⟩ v1).setCell ⟨g, o2, none⟩ v2).heap[k]? = W.heap[k]? :=
  (Below.heap_setCell _ _ _ _ h).trans ((Below.heap_setCell _ _ _ _ h).trans (Below.heap_setCell _ _ _ _ h))
theorem Hnd.put {W : World} {B : Nat} {hs : List Hd} {L : Nat → List Slot} {i : Nat} {h : Hd} {g : Nat} (H : Hnd W B hs L) (hi : hs[i]? = some h) (hg : h.1 = some ⟨g, 0, none⟩) (u : Nat) (s : Slot)
    (ho : OwnS (((W.setCell ⟨g, u * 3, none⟩ (.string (str s.salt))).setCell ⟨g, u * 3 + 1, none⟩ (.int .i64 s.rounds)).setCell ⟨g, u * 3 + 2, none⟩ (.string (str s.wrapped))) B (sl h) ((L i).set u s)) (L' : Nat → List Slot) (hL : ∀ j, j ≠ i → L' j = L j) (hLi : L' i = (L i).set u s) :
    Hnd (((W.setCell ⟨g, u * 3, none⟩ (.string (str s.salt))).setCell ⟨g, u * 3 + 1, none⟩ (.int .i64 s.rounds)).setCell ⟨g, u * 3 + 2, none⟩ (.string (str s.wrapped))) B hs L' := by
  have hgb : (sl h).ownBlock = some g := by unfold sl; rw [hg]; rfl
  refine ⟨fun j y hy => ?_, H.ne⟩
  by_cases hj : j = i
  · subst hj
    rw [hi] at hy
    obtain rfl := Option.some.inj hy
    rw [hLi]
    exact ho
  · rw [hL j hj]
    exact own_kept (H.own j y hy) (fun k hk => heap_put3 (fun e => H.ne i j h y (Ne.symm hj) hi hy k (by rw [e]; exact hgb) hk) _ _ _ _ _ _)
/-- a row of another kind is left alone -/
theorem row_kept {W W' : World} {B n size : Nat} {v : Value} {e : TypeId} {xs : List Value} (h : W.ownsRow B e size v n xs) (hk : ∀ (g : Nat) (cs : Array Value), W.heap[g]? = some (.cells cs e (0, 0)) → W'.heap[g]? = W.heap[g]?) : W'.ownsRow B e size v n xs := by
  obtain ⟨q0, q⟩ := h
  refine ⟨q0, ?_⟩
  rcases q with q | ⟨g1, cap1, cur1, q1, q2, q3, q4⟩
  · exact .inl q
  · exact .inr ⟨g1, cap1, cur1, q1, q2, (hk g1 cur1 q3).trans q3, q4⟩
theorem infoL0 : (Tryd.prog.info? 22).map (fun i => (i.zero, i.size, i.bytes)) = some (some (.slice none 0 0), 1, 24) := by kernel_rfl
theorem info_L : ∃ i0, Tryd.prog.info? 22 = some i0 ∧ i0.zero = some (.slice none 0 0) ∧ i0.size = 1 ∧ i0.bytes = 24 := by
  have h := infoL0
  cases hq : Tryd.prog.info? 22 with
  | none => rw [hq] at h; cases h
  | some i =>
    rw [hq] at h
    simp at h
    exact ⟨i, rfl, h.1, h.2.1, h.2.2⟩

theorem owns_bel {w w' : World} {B n size : Nat} {v : Value} {e : TypeId} {xs : List Value} (h : w.ownsRow B e size v n xs) (hb : Below w.heap.size w w') : w'.ownsRow B e size v n xs := by
  obtain ⟨h1, h2⟩ := h
  refine ⟨h1, ?_⟩
  rcases h2 with h0 | ⟨g, cap, cur, e1, e2, e3, e4⟩
  · exact .inl h0
  · exact .inr ⟨g, cap, cur, e1, e2, (hb.block _ (heap_lt e3)).trans e3, e4⟩
theorem own_grown {W W' : World} {B B' n : Nat} {v lv : Value} {ss : List Slot} {ys : List Value} (h : OwnS W B v ss) (hl : W.ownsRow B' 22 1 lv n ys) (hg : W.grownBy W' lv.ownBlock) : OwnS W' B v ss :=
  own_kept h fun g hgb => by
    obtain ⟨cur, hc⟩ := own_type h g hgb
    refine hg.block g (heap_lt hc) (fun e => ?_)
    rcases hl.2 with ⟨q, _⟩ | ⟨g1, cap1, cur1, q1, q2, q3, q4⟩
    · rw [q] at e; cases e
    · rw [q1] at e
      simp [Value.ownBlock] at e
      subst e
      rw [hc] at q3
      injection q3 with q3
      injection q3 with _ q3 _
      exact absurd q3 (by decide)
theorem Hnd.grown {W W' : World} {B B' n : Nat} {lv : Value} {hs : List Hd} {L : Nat → List Slot} {ys : List Value} (H : Hnd W B hs L) (hl : W.ownsRow B' 22 1 lv n ys) (hg : W.grownBy W' lv.ownBlock) : Hnd W' B hs L :=
  ⟨fun j y hy => own_grown (H.own j y hy) hl hg, H.ne⟩

/-- the list of lists, as it lies -/
theorem rowL {W : World} {B n c : Nat} {a : Option Addr} {hs : List Hd} (h : W.ownsRow B 22 1 (.slice a n c) n (hs.map sl)) (hn : 1 ≤ n) : ∃ g, a = some ⟨g, 0, none⟩ ∧ g < W.heap.size ∧ (∃ cur, W.heap[g]? = some (.cells cur 22 (0, 0))) ∧ ∀ (j : Nat) x, hs[j]? = some x → W.cell? ⟨g, j, none⟩ = some (.slice x.1 x.2.1 x.2.2) := by
  rcases h.2 with ⟨_, h2⟩ | ⟨g, cap, cur, e1, e2, e3, e4, e5, e6, e7⟩
  · omega
  · injection e1 with f1 f2 f3
    subst f1 f3
    have hl := h.1
    rw [List.length_map] at hl
    refine ⟨g, rfl, heap_lt e3, ⟨cur, e3⟩, fun j x hx => ?_⟩
    have hu : (hs.map sl)[j]? = some (sl x) := by rw [List.getElem?_map, hx]; rfl
    have hj := (List.getElem?_eq_some_iff.1 hu).1
    rw [List.length_map] at hj
    rw [← e7, List.getElem?_take, if_pos (by omega), Array.getElem?_toList] at hu
    exact (cell_of_heap e3).trans hu

end Go.Proofs.YtbjiamaaocjbfaaDoor.Kl
