import Derived.Test.YtcfmcjdgdpignaaDoorRhC
namespace Go.Proofs.YtcfmcjdgdpignaaDoor
open Go.RowKit Go.Lib

def upd {α : Type} (f : Nat → α) (j : Nat) (x : α) : Nat → α := fun i => if i = j then x else f i
theorem upd_same {α : Type} (f : Nat → α) (j : Nat) (x : α) : upd f j x j = x := by simp [upd]
theorem upd_other {α : Type} (f : Nat → α) (j i : Nat) (x : α) (h : i ≠ j) : upd f j x i = f i := by simp [upd, h]
theorem ne_of_types {w : World} {a b : Nat} {c1 c2 : Array Value} {t1 t2 : TypeId} {f1 f2 : Nat × Nat} (h1 : w.heap[a]? = some (.cells c1 t1 f1)) (h2 : w.heap[b]? = some (.cells c2 t2 f2)) (ht : t1 ≠ t2) : a ≠ b := by
  rintro rfl
  rw [h1] at h2
  cases h2
  exact ht rfl

/-- a pointer or nil -/
def pv : Option Nat → Value
  | none => .pointer none
  | some p => .pointer (some ⟨p, 0, none⟩)
/-- the bench's cells -/
def bcells (V U : Nat → Option Nat) : Array Value := #[pv (V 0), pv (V 1), pv (V 2), pv (V 3), pv (U 0), pv (U 1), pv (U 2), pv (U 3)]
theorem bcells_own (V U : Nat → Option Nat) (j : Nat) (h : j < 4) : (bcells V U)[j]? = some (pv (V j)) := by
  rcases (show j = 0 ∨ j = 1 ∨ j = 2 ∨ j = 3 by omega) with rfl | rfl | rfl | rfl <;> rfl
theorem bcells_ref (V U : Nat → Option Nat) (j : Nat) (h : j < 4) : (bcells V U)[4 + j]? = some (pv (U j)) := by
  rcases (show j = 0 ∨ j = 1 ∨ j = 2 ∨ j = 3 by omega) with rfl | rfl | rfl | rfl <;> rfl
theorem bcells_setOwn (V U : Nat → Option Nat) (j : Nat) (h : j < 4) (x : Option Nat) : (bcells V U).setIfInBounds j (pv x) = bcells (upd V j x) U := by
  rcases (show j = 0 ∨ j = 1 ∨ j = 2 ∨ j = 3 by omega) with rfl | rfl | rfl | rfl <;> rfl
theorem bcells_setRef (V U : Nat → Option Nat) (j : Nat) (h : j < 4) (x : Option Nat) : (bcells V U).setIfInBounds (4 + j) (pv x) = bcells V (upd U j x) := by
  rcases (show j = 0 ∨ j = 1 ∨ j = 2 ∨ j = 3 by omega) with rfl | rfl | rfl | rfl <;> rfl

/-- two running sums that took the same: the program's, the reference's -/
structure Pair (w : World) (p q : Nat) (f : W8) (ah : Nat) (t : ByteArray) : Prop where
  hs : Hs w p (eat f t.data.toList).1 (eat f t.data.toList).2 (ah + t.size)
  rh : Rh w q f ah t
  ok : f.OK
  le : ah + t.size ≤ 1099511627776
/-- a place: two nil ones, or two that took the same -/
def Plc (w : World) : Option Nat → Option Nat → Prop
  | none, none => True
  | some p, some q => ∃ f ah t, Pair w p q f ah t
  | _, _ => False
theorem Plc.ownLt {w : World} {x y : Option Nat} (h : Plc w x y) (p : Nat) (hp : x = some p) : p < w.heap.size ∧ ∃ c, w.heap[p]? = some (.cells c 55 (0, 0)) := by
  subst hp
  match y, h with
  | some _, ⟨_, _, _, h⟩ => exact ⟨h.hs.lt, _, h.hs.heap⟩
theorem Plc.refLt {w : World} {x y : Option Nat} (h : Plc w x y) (p : Nat) (hp : y = some p) : p < w.heap.size ∧ ∃ c, w.heap[p]? = some (.cells c 73 (0, 0)) := by
  subst hp
  match x, h with
  | some _, ⟨_, _, _, h⟩ => exact ⟨h.rh.lt, _, h.rh⟩
theorem Plc.kept {w w' : World} {x y : Option Nat} (h : Plc w x y) (h1 : ∀ p, x = some p → w'.heap[p]? = w.heap[p]?) (h2 : ∀ p, y = some p → w'.heap[p]? = w.heap[p]?) : Plc w' x y := by
  match x, y, h with
  | none, none, _ => trivial
  | some p, some q, ⟨f, ah, t, h⟩ => exact ⟨f, ah, t, h.hs.kept (h1 p rfl), h.rh.kept (h2 q rfl), h.ok, h.le⟩

/-- the bench, but for place k (4: but for none) -/
structure Bn (w wr : World) (b : Nat) (V U : Nat → Option Nat) (k : Nat) : Prop where
  own : wr.heap[b]? = some (.cells (bcells V U) 41 (0, 0))
  pl : ∀ j, j < 4 → j ≠ k → Plc wr (V j) (U j)
  tv : ∀ j p, j < 4 → V j = some p → w.heap.size ≤ p ∧ ∃ c, wr.heap[p]? = some (.cells c 55 (0, 0))
  tu : ∀ j p, j < 4 → U j = some p → w.heap.size ≤ p ∧ ∃ c, wr.heap[p]? = some (.cells c 73 (0, 0))
  vd : ∀ i j p, i < 4 → j < 4 → i ≠ j → V i = some p → V j ≠ some p
  ud : ∀ i j p, i < 4 → j < 4 → i ≠ j → U i = some p → U j ≠ some p
  bs : w.heap.size ≤ b
  bel : Below w.heap.size w wr
section
variable {w wr w1 : World} {b : Nat} {V U : Nat → Option Nat} {k : Nat}
theorem Bn.ownAt (h : Bn w wr b V U k) (j : Nat) (hj : j < 4) : wr.cell? ⟨b, j, none⟩ = some (pv (V j)) := (cell_of_heap h.own).trans (bcells_own V U j hj)
theorem Bn.refAt (h : Bn w wr b V U k) (j : Nat) (hj : j < 4) : wr.cell? ⟨b, 4 + j, none⟩ = some (pv (U j)) := (cell_of_heap h.own).trans (bcells_ref V U j hj)
theorem Bn.kept (h : Bn w wr b V U k) (m : Nat) (hb : wr.heap[b]? = w1.heap[b]?) (hv : ∀ j p, j < 4 → V j = some p → (j = m ∧ (∃ c, w1.heap[p]? = some (.cells c 55 (0, 0)))) ∨ w1.heap[p]? = wr.heap[p]?) (hu : ∀ j p, j < 4 → U j = some p → (j = m ∧ (∃ c, w1.heap[p]? = some (.cells c 73 (0, 0)))) ∨ w1.heap[p]? = wr.heap[p]?) (hm : k = 4 ∨ k = m) (hbel : Below w.heap.size w w1) : Bn w w1 b V U m := by
  refine ⟨hb ▸ h.own, fun j hj hjm => ?_, fun j p hj hp => ?_, fun j p hj hp => ?_, h.vd, h.ud, h.bs, hbel⟩
  · refine (h.pl j hj (by omega)).kept (fun p hp => ?_) (fun p hp => ?_)
    · rcases hv j p hj hp with ⟨e, _⟩ | e
      · exact absurd e hjm
      · exact e
    · rcases hu j p hj hp with ⟨e, _⟩ | e
      · exact absurd e hjm
      · exact e
  · refine ⟨(h.tv j p hj hp).1, ?_⟩
    rcases hv j p hj hp with ⟨_, e⟩ | e
    · exact e
    · rw [e]; exact (h.tv j p hj hp).2
  · refine ⟨(h.tu j p hj hp).1, ?_⟩
    rcases hu j p hj hp with ⟨_, e⟩ | e
    · exact e
    · rw [e]; exact (h.tu j p hj hp).2
theorem Bn.below (h : Bn w wr b V U k) (hb : Below wr.heap.size wr w1) : Bn w w1 b V U k := by
  refine ⟨(hb.block _ (heap_lt h.own)).trans h.own, fun j hj hjk => (h.pl j hj hjk).kept (fun p hp => hb.block p ((h.pl j hj hjk).ownLt p hp).1) (fun p hp => hb.block p ((h.pl j hj hjk).refLt p hp).1), fun j p hj hp => ?_, fun j p hj hp => ?_, h.vd, h.ud, h.bs, h.bel.trans (hb.mono h.bel.size)⟩
  · obtain ⟨h1, c, h2⟩ := h.tv j p hj hp
    exact ⟨h1, c, (hb.block p (heap_lt h2)).trans h2⟩
  · obtain ⟨h1, c, h2⟩ := h.tu j p hj hp
    exact ⟨h1, c, (hb.block p (heap_lt h2)).trans h2⟩
theorem Bn.close (h : Bn w wr b V U k) (hk : Plc wr (V k) (U k)) : Bn w wr b V U 4 := by
  refine ⟨h.own, fun j hj _ => ?_, h.tv, h.tu, h.vd, h.ud, h.bs, h.bel⟩
  by_cases hjk : j = k
  · subst hjk; exact hk
  · exact h.pl j hj hjk
/-- what is written to the program's sum at place m -/
theorem Bn.wroteOwn (h : Bn w wr b V U 4) (m p : Nat) (hm : m < 4) (hp : V m = some p) (o : Only [p] wr w1) (hn : ∃ c, w1.heap[p]? = some (.cells c 55 (0, 0))) : Bn w w1 b V U m := by
  obtain ⟨hpw, c, hc⟩ := h.tv m p hm hp
  have hbp : p ≠ b := ne_of_types hc h.own (by decide)
  refine h.kept m (o.block b (heap_lt h.own) (by simp; omega)).symm (fun j x hj hx => ?_) (fun j x hj hx => ?_) (.inl rfl) (h.bel.trans (o.below h.bel.size (by simp; omega)))
  · by_cases hjm : j = m
    · subst hjm
      rw [hp] at hx
      cases hx
      exact .inl ⟨rfl, hn⟩
    · obtain ⟨_, c', hc'⟩ := h.tv j x hj hx
      refine .inr (o.block x (heap_lt hc') ?_)
      have := h.vd j m x hj hm hjm hx
      rw [hp] at this
      simp only [List.mem_singleton]
      rintro rfl
      exact this rfl
  · obtain ⟨_, c', hc'⟩ := h.tu j x hj hx
    exact .inr (o.block x (heap_lt hc') (by have : p ≠ x := ne_of_types hc hc' (by decide); simp; omega))
theorem Bn.wroteRef (h : Bn w wr b V U k) (m p : Nat) (hm : m < 4) (hk : k = 4 ∨ k = m) (hp : U m = some p) (o : Only [p] wr w1) (hn : ∃ c, w1.heap[p]? = some (.cells c 73 (0, 0))) : Bn w w1 b V U m := by
  obtain ⟨hpw, c, hc⟩ := h.tu m p hm hp
  have hbp : p ≠ b := ne_of_types hc h.own (by decide)
  refine h.kept m (o.block b (heap_lt h.own) (by simp; omega)).symm (fun j x hj hx => ?_) (fun j x hj hx => ?_) hk (h.bel.trans (o.below h.bel.size (by simp; omega)))
  · obtain ⟨_, c', hc'⟩ := h.tv j x hj hx
    exact .inr (o.block x (heap_lt hc') (by have : p ≠ x := ne_of_types hc hc' (by decide); simp; omega))
  · by_cases hjm : j = m
    · subst hjm
      rw [hp] at hx
      cases hx
      exact .inl ⟨rfl, hn⟩
    · obtain ⟨_, c', hc'⟩ := h.tu j x hj hx
      refine .inr (o.block x (heap_lt hc') ?_)
      have := h.ud j m x hj hm hjm hx
      rw [hp] at this
      simp only [List.mem_singleton]
      rintro rfl
      exact this rfl
/-- a place's pointer laid anew -/
theorem Bn.setOwn (h : Bn w wr b V U k) (m : Nat) (hm : m < 4) (hk : k = 4 ∨ k = m) (x : Option Nat) (hx : ∀ p, x = some p → w.heap.size ≤ p ∧ (∃ c, wr.heap[p]? = some (.cells c 55 (0, 0))) ∧ ∀ j, j < 4 → V j ≠ some p) : Bn w (wr.setCell ⟨b, m, none⟩ (pv x)) b (upd V m x) U m := by
  have hkk : ∀ c, c ≠ b → (wr.setCell ⟨b, m, none⟩ (pv x)).heap[c]? = wr.heap[c]? := fun c hc => Below.heap_setCell _ _ _ _ (by simp; omega)
  refine ⟨?_, fun j hj hjm => ?_, fun j p hj hp => ?_, fun j p hj hp => ?_, fun i j p hi hj hij hp => ?_, h.ud, h.bs, h.bel.setCell h.bs _⟩
  · have e := heap_setCell_same _ _ m _ _ (pv x) h.own
    rw [bcells_setOwn V U m hm x] at e
    exact e
  · rw [upd_other _ _ _ _ hjm]
    refine (h.pl j hj (by omega)).kept (fun p hp => hkk p ?_) (fun p hp => hkk p ?_)
    · obtain ⟨_, c, hc⟩ := h.tv j p hj hp
      exact ne_of_types hc h.own (by decide)
    · obtain ⟨_, c, hc⟩ := h.tu j p hj hp
      exact ne_of_types hc h.own (by decide)
  · by_cases hjm : j = m
    · subst hjm
      rw [upd_same] at hp
      obtain ⟨h1, ⟨c, hc⟩, _⟩ := hx p hp
      exact ⟨h1, c, (hkk p (ne_of_types hc h.own (by decide))).trans hc⟩
    · rw [upd_other _ _ _ _ hjm] at hp
      obtain ⟨h1, c, hc⟩ := h.tv j p hj hp
      exact ⟨h1, c, (hkk p (ne_of_types hc h.own (by decide))).trans hc⟩
  · obtain ⟨h1, c, hc⟩ := h.tu j p hj hp
    exact ⟨h1, c, (hkk p (ne_of_types hc h.own (by decide))).trans hc⟩
  · by_cases him : i = m
    · subst him
      rw [upd_same] at hp
      rw [upd_other _ _ _ _ (fun e => hij e.symm)]
      exact (hx p hp).2.2 j hj
    · rw [upd_other _ _ _ _ him] at hp
      by_cases hjm : j = m
      · subst hjm
        rw [upd_same]
        intro e
        exact (hx p e).2.2 i hi hp
      · rw [upd_other _ _ _ _ hjm]
        exact h.vd i j p hi hj hij hp
theorem Bn.setRef (h : Bn w wr b V U k) (m : Nat) (hm : m < 4) (hk : k = 4 ∨ k = m) (x : Option Nat) (hx : ∀ p, x = some p → w.heap.size ≤ p ∧ (∃ c, wr.heap[p]? = some (.cells c 73 (0, 0))) ∧ ∀ j, j < 4 → U j ≠ some p) : Bn w (wr.setCell ⟨b, 4 + m, none⟩ (pv x)) b V (upd U m x) m := by
  have hkk : ∀ c, c ≠ b → (wr.setCell ⟨b, 4 + m, none⟩ (pv x)).heap[c]? = wr.heap[c]? := fun c hc => Below.heap_setCell _ _ _ _ (by simp; omega)
  refine ⟨?_, fun j hj hjm => ?_, fun j p hj hp => ?_, fun j p hj hp => ?_, h.vd, fun i j p hi hj hij hp => ?_, h.bs, h.bel.setCell h.bs _⟩
  · have e := heap_setCell_same _ _ (4 + m) _ _ (pv x) h.own
    rw [bcells_setRef V U m hm x] at e
    exact e
  · rw [upd_other _ _ _ _ hjm]
    refine (h.pl j hj (by omega)).kept (fun p hp => hkk p ?_) (fun p hp => hkk p ?_)
    · obtain ⟨_, c, hc⟩ := h.tv j p hj hp
      exact ne_of_types hc h.own (by decide)
    · obtain ⟨_, c, hc⟩ := h.tu j p hj hp
      exact ne_of_types hc h.own (by decide)
  · obtain ⟨h1, c, hc⟩ := h.tv j p hj hp
    exact ⟨h1, c, (hkk p (ne_of_types hc h.own (by decide))).trans hc⟩
  · by_cases hjm : j = m
    · subst hjm
      rw [upd_same] at hp
      obtain ⟨h1, ⟨c, hc⟩, _⟩ := hx p hp
      exact ⟨h1, c, (hkk p (ne_of_types hc h.own (by decide))).trans hc⟩
    · rw [upd_other _ _ _ _ hjm] at hp
      obtain ⟨h1, c, hc⟩ := h.tu j p hj hp
      exact ⟨h1, c, (hkk p (ne_of_types hc h.own (by decide))).trans hc⟩
  · by_cases him : i = m
    · subst him
      rw [upd_same] at hp
      rw [upd_other _ _ _ _ (fun e => hij e.symm)]
      exact (hx p hp).2.2 j hj
    · rw [upd_other _ _ _ _ him] at hp
      by_cases hjm : j = m
      · subst hjm
        rw [upd_same]
        intro e
        exact (hx p e).2.2 i hi hp
      · rw [upd_other _ _ _ _ hjm]
        exact h.ud i j p hi hj hij hp
/-- a new one of the program's laid into a place; then one of the reference's -/
theorem Bn.newOwn (h : Bn w wr b V U 4) (hb : Below wr.heap.size wr w1) (j : Nat) (hj : j < 4) {p : Nat} (hp : wr.heap.size ≤ p) {s : W8} {r : List UInt8} {n : Nat} (hP : Hs w1 p s r n) :
    Bn w (w1.setCell ⟨b, j, none⟩ (.pointer (some ⟨p, 0, none⟩))) b (upd V j (some p)) U j ∧ Hs (w1.setCell ⟨b, j, none⟩ (.pointer (some ⟨p, 0, none⟩))) p s r n := by
  have hz := h.bel.size
  have hpb : p ≠ b := ne_of_types hP.heap (h.below hb).own (by decide)
  refine ⟨(h.below hb).setOwn j hj (.inl rfl) (some p) (fun x hx => ?_), hP.kept (Below.heap_setCell _ _ _ _ (by simp; omega))⟩
  cases hx
  refine ⟨by omega, ⟨_, hP.heap⟩, fun i hi e => ?_⟩
  obtain ⟨_, c, hc⟩ := h.tv i p hi e
  have := heap_lt hc
  omega
theorem Bn.newRef {p : Nat} {f : W8} (h : Bn w wr b V U k) (hv : V k = some p) (hk : k < 4) (hs : Hs wr p f [] 0) (hf : f.OK) (hb : Below wr.heap.size wr w1) {q : Nat} (hq : wr.heap.size ≤ q) (hP : Rh w1 q f 0 { data := #[] }) :
    Bn w (w1.setCell ⟨b, 4 + k, none⟩ (.pointer (some ⟨q, 0, none⟩))) b V (upd U k (some q)) 4 := by
  have hz := h.bel.size
  have h1 := h.below hb
  have hs1 := hs.below hb hs.lt
  have hpb : p ≠ b := ne_of_types hs1.heap h1.own (by decide)
  have hqb : q ≠ b := ne_of_types hP h1.own (by decide)
  have k2 : ∀ c v, c ≠ b → (w1.setCell ⟨b, 4 + k, none⟩ v).heap[c]? = w1.heap[c]? := fun c v hc => Below.heap_setCell _ _ _ _ (by simp; omega)
  have h2 := h1.setRef k hk (.inr rfl) (some q) (fun x hx => by
    cases hx
    refine ⟨by omega, ⟨_, hP⟩, fun i hi e => ?_⟩
    obtain ⟨_, c, hc⟩ := h.tu i q hi e
    have := heap_lt hc
    omega)
  refine h2.close ?_
  rw [upd_same, hv]
  refine ⟨f, 0, { data := #[] }, ?_, hP.kept (k2 q _ hqb), hf, by decide⟩
  rw [show ({ data := #[] } : ByteArray).data.toList = [] from rfl, eat_short _ _ (by simp)]
  exact hs1.kept (k2 p _ hpb)
/-- two new ones laid into a place -/
theorem Bn.lay (h : Bn w wr b V U 4) (hb : Below wr.heap.size wr w1) (j : Nat) (hj : j < 4) {p q : Nat} (hp : wr.heap.size ≤ p) (hq : wr.heap.size ≤ q) {f : W8} {ah : Nat} {t : ByteArray} (hP : Pair w1 p q f ah t) :
    Bn w ((w1.setCell ⟨b, j, none⟩ (.pointer (some ⟨p, 0, none⟩))).setCell ⟨b, 4 + j, none⟩ (.pointer (some ⟨q, 0, none⟩))) b (upd V j (some p)) (upd U j (some q)) 4 := by
  have hz := h.bel.size
  have h1 := (h.below hb).setOwn j hj (.inl rfl) (some p) (fun x hx => by
    cases hx
    refine ⟨by omega, ⟨_, hP.hs.heap⟩, fun i hi e => ?_⟩
    obtain ⟨_, c, hc⟩ := h.tv i p hi e
    have := heap_lt hc
    omega)
  have hpb : p ≠ b := ne_of_types hP.hs.heap (h.below hb).own (by decide)
  have hqb : q ≠ b := ne_of_types hP.rh (h.below hb).own (by decide)
  have k1 : ∀ c v, c ≠ b → (w1.setCell ⟨b, j, none⟩ v).heap[c]? = w1.heap[c]? := fun c v hc => Below.heap_setCell _ _ _ _ (by simp; omega)
  have h2 := h1.setRef j hj (.inr rfl) (some q) (fun x hx => by
    cases hx
    refine ⟨by omega, ⟨_, (k1 q _ hqb).trans hP.rh⟩, fun i hi e => ?_⟩
    obtain ⟨_, c, hc⟩ := h.tu i q hi e
    have := heap_lt hc
    omega)
  have k2 : ∀ c, c ≠ b → ((w1.setCell ⟨b, j, none⟩ (pv (some p))).setCell ⟨b, 4 + j, none⟩ (pv (some q))).heap[c]? = w1.heap[c]? := fun c hc => (Below.heap_setCell _ _ _ _ (by simp; omega)).trans (k1 c _ hc)
  refine h2.close ?_
  rw [upd_same, upd_same]
  exact ⟨f, ah, t, hP.hs.kept (k2 p hpb), hP.rh.kept (k2 q hqb), hP.ok, hP.le⟩
/-- a place emptied -/
theorem Bn.layNil (h : Bn w wr b V U 4) (hb : Below wr.heap.size wr w1) (j : Nat) (hj : j < 4) :
    Bn w ((w1.setCell ⟨b, j, none⟩ (.pointer none)).setCell ⟨b, 4 + j, none⟩ (.pointer none)) b (upd V j none) (upd U j none) 4 := by
  have h1 := (h.below hb).setOwn j hj (.inl rfl) none (fun x hx => by cases hx)
  have h2 := h1.setRef j hj (.inr rfl) none (fun x hx => by cases hx)
  refine h2.close ?_
  rw [upd_same, upd_same]
  trivial
theorem Bn.cells (h : Bn w wr b V U k) (j : Nat) (hj : j < 4) : wr.cell? ⟨b, j, none⟩ = some (pv (V j)) ∧ wr.cell? ⟨b, 4 + j, none⟩ = some (pv (U j)) ∧ wr.frozen? ⟨b, j, none⟩ = false ∧ wr.frozen? ⟨b, 4 + j, none⟩ = false :=
  ⟨h.ownAt j hj, h.refAt j hj, frozen_of_heap h.own, frozen_of_heap h.own⟩
theorem Pair.restored {p q : Nat} {l : List UInt8} (hg : Good l) (h1 : Hs wr p (w8 (stWords l)) (l.drop 40) (stCount l)) (h2 : Rh wr q (w8 (stWords l)) (stCount l - stCount l % 64) (str (l.drop 40))) : Pair wr p q (w8 (stWords l)) (stCount l - stCount l % 64) (str (l.drop 40)) := by
  have hl := hg.len
  have hd : (l.drop 40).length = stCount l % 64 := by rw [List.length_drop]; omega
  refine ⟨?_, h2, h1.ok, ?_⟩
  · rw [str_data, eat_short _ _ (by omega), str_size, hd, Nat.sub_add_cancel (Nat.mod_le _ _)]
    exact h1
  · rw [str_size, hd, Nat.sub_add_cancel (Nat.mod_le _ _)]
    exact hg.cnt
end

end Go.Proofs.YtcfmcjdgdpignaaDoor
