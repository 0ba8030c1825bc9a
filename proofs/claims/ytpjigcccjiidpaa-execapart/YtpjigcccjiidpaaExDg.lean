import Derived.Test.YtpjigcccjiidpaaExDf
namespace Go.Proofs.Ytpjigcccjiidpaa.Ex
open Go.RowKit Go.Lib Go.Deep

/-- names in rows of their own -/
structure NmO (w V : World) (F : Nat → Prop) (x : Rr) : Prop where
  ow : V.ownsRow w.heap.size 9 1 (.slice x.v.a x.v.l x.v.c) x.v.l (scC x.nm)
  nF : ∀ g, (Value.slice x.v.a x.v.l x.v.c).ownBlock = some g → ¬ F g
theorem nmo_zero (w V : World) (F : Nat → Prop) : NmO w V F zR := ⟨⟨rfl, .inl ⟨rfl, rfl⟩⟩, fun g h => by cases h⟩
theorem NmO.keep {w V V' : World} {F : Nat → Prop} {x : Rr} (h : NmO w V F x) (hk : ∀ g, (Value.slice x.v.a x.v.l x.v.c).ownBlock = some g → V'.heap[g]? = V.heap[g]?) : NmO w V' F x := ⟨owns_keep h.ow hk, h.nF⟩
def Apt (R : List Rr) : Prop := ∀ (j k : Nat) x y g, j ≠ k → R[j]? = some x → R[k]? = some y → (Value.slice x.v.a x.v.l x.v.c).ownBlock = some g → (Value.slice y.v.a y.v.l y.v.c).ownBlock ≠ some g
/-- the steps that are followed -/
structure Fw (w : World) (F0 : Nat → Prop) (m nn n p6 q i : Nat) (F : Nat → Prop) (L : Fl) (R : List Rr) (V : World) : Prop where
  tr : Trn F0 w V
  lv : Liv V m (nn + i) F L
  ff : ∀ k, k < w.heap.size → F k → F0 k
  tb : V.heap[p6]? = some (.cells dA 78 (0, 0))
  hp : w.heap.size ≤ p6 ∧ ¬ F p6
  row : V.ownsRow w.heap.size 56 6 (.slice (some ⟨q, 0, none⟩) n n) n (rrsC R)
  hq : w.heap.size ≤ q ∧ ¬ F q
  rl : R.length = n
  nm : ∀ (j : Nat) x, R[j]? = some x → NmO w V F x
  dj : Apt R
  sm : Sm L
theorem Fw.qb {w V : World} {F0 F : Nat → Prop} {m nn n p6 q i : Nat} {L : Fl} {R : List Rr} (h : Fw w F0 m nn n p6 q i F L R V) : ∃ cur, V.heap[q]? = some (.cells cur 56 (0, 0)) := owns_block h.row rfl
theorem Fw.nq {w V : World} {F0 F : Nat → Prop} {m nn n p6 q i : Nat} {L : Fl} {R : List Rr} (h : Fw w F0 m nn n p6 q i F L R V) {j : Nat} {x : Rr} (hj : R[j]? = some x) {g : Nat} (hg : (Value.slice x.v.a x.v.l x.v.c).ownBlock = some g) : g ≠ q ∧ g < V.heap.size := by
  obtain ⟨c1, h1⟩ := h.qb
  obtain ⟨c2, h2⟩ := owns_block (h.nm j x hj).ow hg
  exact ⟨fun e => by rw [e, h1] at h2; injection h2 with h2; injection h2 with _ h3; exact absurd h3 (by decide), heap_lt h2⟩
theorem Fw.pq {w V : World} {F0 F : Nat → Prop} {m nn n p6 q i : Nat} {L : Fl} {R : List Rr} (h : Fw w F0 m nn n p6 q i F L R V) : p6 ≠ q := fun e => by
  obtain ⟨c1, h1⟩ := h.qb
  have h2 := h.tb
  rw [e, h1] at h2
  injection h2 with h2
  injection h2 with _ h3
  exact absurd h3 (by decide)
theorem Fw.below {w V V' : World} {F0 F : Nat → Prop} {m nn n p6 q i : Nat} {L : Fl} {R : List Rr} (h : Fw w F0 m nn n p6 q i F L R V) (hb : Below V.heap.size V V') : Fw w F0 m nn n p6 q i F L R V' :=
  ⟨h.tr.trans (Trn.of_below hb (F := F0)) (fun _ _ x => x), h.lv.below hb, h.ff, (hb.block _ (heap_lt h.tb)).trans h.tb, h.hp, owns_below h.row hb, h.hq, h.rl, fun j x hj => (h.nm j x hj).keep fun g hg => hb.block g (h.nq hj hg).2, h.dj, h.sm⟩
theorem trn_grown {w U V : World} {F0 : Nat → Prop} {q : Nat} (h : Trn F0 w U) (hg : U.grownBy V (some q)) (hq : w.heap.size ≤ q) : Trn F0 w V :=
  ⟨hg.os.trans h.os, hg.tape.trans h.tape, hg.output.trans h.output, Nat.le_trans h.size hg.size, fun k hk hn => (hg.block k (Nat.lt_of_lt_of_le hk h.size) (fun e => by have := Option.some.inj e; omega)).trans (h.block k hk hn)⟩
theorem Fw.turnq {w U V : World} {F0 F : Nat → Prop} {m nn n p6 q i : Nat} {L : Fl} {R R' : List Rr} (h : Fw w F0 m nn n p6 q i F L R U) (hg : U.grownBy V (some q)) (hrow : V.ownsRow w.heap.size 56 6 (.slice (some ⟨q, 0, none⟩) n n) n (rrsC R')) (hl : R'.length = n) (hnm : ∀ (j : Nat) x, R'[j]? = some x → NmO w V F x) (hdj : Apt R') : Fw w F0 m nn n p6 q i F L R' V := by
  have hb : ∀ k, k < U.heap.size → k ≠ q → V.heap[k]? = U.heap[k]? := fun k hk hn => hg.block k hk (fun e => hn (Option.some.inj e))
  exact ⟨trn_grown h.tr hg h.hq.1, h.lv.keep hg.size (fun k hk => hb k (h.lv.lt k hk) (fun e => h.hq.2 (e ▸ hk))), h.ff, (hb _ (heap_lt h.tb) h.pq).trans h.tb, h.hp, hrow, h.hq, hl, hnm, hdj, h.sm⟩
theorem Fw.dn {w V V' : World} {F0 F : Nat → Prop} {m nn n p6 q i : Nat} {L L' : Fl} {R : List Rr} (h : Fw w F0 m nn n p6 q i F L R V) (hd : Dn F V V' m (nn + i + 1) L') (hs : Sm L') : ∃ F', Fw w F0 m nn n p6 q (i + 1) F' L' R V' := by
  obtain ⟨t, F', hl, hF⟩ := hd
  have hk : ∀ k, k < V.heap.size → ¬ F k → ¬ F' k := fun k hk hn x => hn (hF k hk x)
  have hqV := heap_lt (h.qb).choose_spec
  refine ⟨F', ⟨?_, ?_, fun k hk x => ?_, (t.block _ (heap_lt h.tb) h.hp.2).trans h.tb, ⟨h.hp.1, hk _ (heap_lt h.tb) h.hp.2⟩, owns_keep h.row fun g hg => ?_, ⟨h.hq.1, hk _ hqV h.hq.2⟩, h.rl, fun j x hj => ⟨owns_keep (h.nm j x hj).ow fun g hg => t.block g (h.nq hj hg).2 ((h.nm j x hj).nF g hg), fun g hg => hk g (h.nq hj hg).2 ((h.nm j x hj).nF g hg)⟩, h.dj, hs⟩⟩
  · refine h.tr.trans t fun k hk hF => h.ff k hk hF
  · rw [← Nat.add_assoc]; exact hl
  · exact h.ff k hk (hF k (Nat.lt_of_lt_of_le hk h.tr.size) x)
  · have : g = q := by simp [Value.ownBlock] at hg; exact hg.symm
    subst this
    exact t.block _ hqV h.hq.2
theorem Fw.mono {w V : World} {F0 F : Nat → Prop} {m nn n p6 q i j : Nat} {L : Fl} {R : List Rr} (h : Fw w F0 m nn n p6 q i F L R V) (hj : i ≤ j) : Fw w F0 m nn n p6 q j F L R V := ⟨h.tr, h.lv.mono (by omega), h.ff, h.tb, h.hp, h.row, h.hq, h.rl, h.nm, h.dj, h.sm⟩
/-- a result laid down anew, with the names that it had -/
theorem Fw.again {w V : World} {F0 F : Nat → Prop} {m nn n p6 q i : Nat} {L : Fl} {R : List Rr} (h : Fw w F0 m nn n p6 q i F L R V) {j : Nat} {x : Rr} (hj : R[j]? = some x) (r : Rs) : Fw w F0 m nn n p6 q i F L (R.set j ⟨r, x.v, x.nm⟩) (P6r V q (j * 6) ⟨r, x.v, x.nm⟩) := by
  obtain ⟨h1, h2⟩ := rrs_put h.row hj ⟨r, x.v, x.nm⟩
  have hjl := some_lt hj
  refine h.turnq h2 h1 (by rw [List.length_set]; exact h.rl) (fun k y hk => ?_) (fun k l y z g hkl hk hl hy hz => ?_)
  · have key : ∀ (a : Rr) (b : Nat), R[b]? = some a → NmO w (P6r V q (j * 6) ⟨r, x.v, x.nm⟩) F a := fun a b hb => (h.nm b a hb).keep fun g hg => h2.block g (h.nq hb hg).2 (fun e => (h.nq hb hg).1 (Option.some.inj e))
    by_cases e : j = k
    · subst e
      rw [List.getElem?_set_self hjl] at hk
      obtain rfl := Option.some.inj hk
      have := key x j hj
      exact ⟨this.ow, this.nF⟩
    · rw [List.getElem?_set_ne e] at hk
      exact key y k hk
  · by_cases e : j = k
    · subst e
      rw [List.getElem?_set_self hjl] at hk
      obtain rfl := Option.some.inj hk
      rw [List.getElem?_set_ne hkl] at hl
      exact h.dj j l x z g hkl hj hl hy hz
    · rw [List.getElem?_set_ne e] at hk
      by_cases e2 : j = l
      · subst e2
        rw [List.getElem?_set_self hjl] at hl
        obtain rfl := Option.some.inj hl
        exact h.dj k j y x g hkl hk hj hy hz
      · rw [List.getElem?_set_ne e2] at hl
        exact h.dj k l y z g hkl hk hl hy hz
theorem grown_of_below {V V' : World} {r : Option Nat} (h : Below V.heap.size V V') : V.grownBy V' r := ⟨h.os, h.tape, h.output, h.size, fun k hk _ => h.block k hk⟩
/-- a result laid down, its names cloned -/
theorem Fw.laid {w U V1 w2 : World} {F0 F : Nat → Prop} {m nn n p6 q i : Nat} {L : Fl} {R : List Rr} (h : Fw w F0 m nn n p6 q i F L R U) {j : Nat} {x was : Rr} (hj : R[j]? = some was) (hV1 : P6r U q (j * 6) x = V1) (hb : Below V1.heap.size V1 w2) (u : Nv) (hu : w2.ownsRow V1.heap.size 9 1 (.slice u.a u.l u.c) u.l (scC x.nm)) :
    Fw w F0 m nn n p6 q i F L (R.set j ⟨x.r, u, x.nm⟩) (w2.setCell ⟨q, j * 6 + 3, none⟩ (.slice u.a u.l u.c)) := by
  obtain ⟨h1, h2⟩ := rrs_put h.row hj x
  rw [hV1] at h1 h2
  have hjl := some_lt hj
  have h3 := owns_below h1 hb
  obtain ⟨h4, h5⟩ := rrs_nm h3 (i := j) (was := x) (by rw [List.getElem?_set_self hjl]) u x.nm
  rw [List.set_set] at h4
  have hg : U.grownBy (w2.setCell ⟨q, j * 6 + 3, none⟩ (.slice u.a u.l u.c)) (some q) := grown_trans (grown_trans h2 (grown_of_below hb)) h5
  have hqU := heap_lt (h.qb).choose_spec
  have hs1 := h2.size
  have hnew : ∀ g, (Value.slice u.a u.l u.c).ownBlock = some g → V1.heap.size ≤ g := fun g hg => (hu.lt g hg).1
  have hold : ∀ (a : Rr) (b : Nat), R[b]? = some a → NmO w (w2.setCell ⟨q, j * 6 + 3, none⟩ (.slice u.a u.l u.c)) F a := fun a b hb => (h.nm b a hb).keep fun g hg' => hg.block g (h.nq hb hg').2 (fun e => (h.nq hb hg').1 (Option.some.inj e))
  refine h.turnq hg h4 (by rw [List.length_set]; exact h.rl) (fun k y hk => ?_) (fun k l y z g hkl hk hl hy hz => ?_)
  · by_cases e : j = k
    · subst e
      rw [List.getElem?_set_self hjl] at hk
      obtain rfl := Option.some.inj hk
      refine ⟨owns_base (owns_keep hu fun g hg => heap_setCell_other _ _ _ _ (by have := hnew g hg; show g ≠ q; omega)) (by have := h.tr.size; omega), fun g hg x => ?_⟩
      have := h.lv.lt g x
      have := hnew g hg
      omega
    · rw [List.getElem?_set_ne e] at hk
      exact hold y k hk
  · by_cases e : j = k
    · subst e
      rw [List.getElem?_set_self hjl] at hk
      obtain rfl := Option.some.inj hk
      rw [List.getElem?_set_ne hkl] at hl
      have := hnew g hy
      have := (h.nq hl hz).2
      omega
    · rw [List.getElem?_set_ne e] at hk
      by_cases e2 : j = l
      · subst e2
        rw [List.getElem?_set_self hjl] at hl
        obtain rfl := Option.some.inj hl
        have := hnew g hz
        have := (h.nq hk hy).2
        omega
      · rw [List.getElem?_set_ne e2] at hl
        exact h.dj k l y z g hkl hk hl hy hz
theorem fw_start {w V : World} {F0 : Nat → Prop} {m nn n p6 q : Nat} {L : Fl} (h : Liv w m nn F0 L) (hs : Sm L) (hb : Below w.heap.size w V) (hp : w.heap.size ≤ p6) (hq : w.heap.size ≤ q) (tb : V.heap[p6]? = some (.cells dA 78 (0, 0))) (row : V.ownsRow w.heap.size 56 6 (.slice (some ⟨q, 0, none⟩) n n) n (rrsC (List.replicate n zR))) : Fw w F0 m nn n p6 q 0 F0 L (List.replicate n zR) V := by
  have hz : ∀ (j : Nat) x, (List.replicate n zR)[j]? = some x → x = zR := fun j x hj => by
    rw [List.getElem?_replicate] at hj
    split at hj
    · exact (Option.some.inj hj).symm
    · cases hj
  refine ⟨Trn.of_below hb, h.below hb, fun _ _ x => x, tb, ⟨hp, fun x => by have := h.lt _ x; omega⟩, row, ⟨hq, fun x => by have := h.lt _ x; omega⟩, by simp, fun j x hj => by rw [hz j x hj]; exact nmo_zero _ _ _, fun j k x y g _ hj _ hx => ?_, hs⟩
  rw [hz j x hj] at hx
  cases hx
end Go.Proofs.Ytpjigcccjiidpaa.Ex
