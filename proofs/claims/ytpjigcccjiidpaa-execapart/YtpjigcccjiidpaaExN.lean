import Derived.Test.YtpjigcccjiidpaaExM
namespace Go.Proofs.Ytpjigcccjiidpaa.Ex
open Go.RowKit Go.Lib Go.Deep

def litI (k : Int) : Lit := .int .i64 k
theorem litI_inj (a b : Int) (h : litI a = litI b) : a = b := by unfold litI at h; injection h
theorem litI_key (a : Int) : WideAt.IsKeyLit (litI a) := by simp [litI, WideAt.IsKeyLit]
theorem keyI : Maps.Keyed Try.prog 3 := Maps.int_keyed Try.underlying3
theorem keyI_mk {k : Int} (h : (Lit.int .i64 k).wf = true) : keyOf Try.prog 3 (.int .i64 k) = some (litI k) := Maps.keyOf_int_mk Try.underlying3 h
def heldR (v : Value) : Option (DataW Value × List MemPlace) := some (.held v, [])
def cv (g n c : Nat) : Value := .agg #[.slice (some ⟨g, 0, none⟩) n c]
def zc : Value := .agg #[.slice none 0 0]
theorem zeroC (w : World) : (zeroValue 72).run Try.prog w = .ok zc w := by kernel_rfl
/-- what the map says -/
structure Tb (D : DataW Value) (L : Fl) (gb cp : Int → Nat) : Prop where
  isMap : Maps.IsMap D
  has : ∀ k, Maps.has D (litI k) = (fnd L k).isSome
  at_ : ∀ k s, fnd L k = some s → ∀ z, D.atKey (litI k) z = .held (cv (gb k) s.length (cp k))
theorem tb_nil (gb cp : Int → Nat) : Tb (.map []) [] gb cp := ⟨Maps.isMap_empty, fun _ => rfl, fun _ _ h => by cases h⟩
theorem Tb.put {D : DataW Value} {L : Fl} {gb cp : Int → Nat} (h : Tb D L gb cp) (k : Int) (s : List UInt8) (g c : Nat) : Tb (D.put (litI k) (.held (cv g s.length c))) (wi L k s) (fun j => if j = k then g else gb j) (fun j => if j = k then c else cp j) := by
  refine ⟨h.isMap.put _ _, fun j => ?_, fun j x hx z => ?_⟩
  · rw [fnd_wi]
    by_cases e : j = k
    · subst e
      rw [Maps.has_put_same h.isMap (litI_key _)]
      simp
    · rw [Maps.has_put_other (fun x => e (litI_inj _ _ x)), h.has j, if_neg e]
  · rw [fnd_wi] at hx
    by_cases e : j = k
    · subst e
      rw [if_pos rfl] at hx
      obtain rfl := Option.some.inj hx
      rw [Maps.atKey_put_same h.isMap (litI_key _)]
      simp
    · rw [if_neg e] at hx
      rw [Maps.atKey_put_other (fun x => e (litI_inj _ _ x)), h.at_ j x hx]
      simp [e]
theorem Tb.del {D : DataW Value} {L : Fl} {gb cp : Int → Nat} (h : Tb D L gb cp) (k : Int) : Tb (D.del (litI k)) (wo L k) gb cp := by
  refine ⟨h.isMap.del _, fun j => ?_, fun j x hx z => ?_⟩
  · rw [fnd_wo]
    by_cases e : j = k
    · subst e
      rw [Maps.has_del_same, if_pos rfl]; rfl
    · rw [Maps.has_del_other (fun x => e (litI_inj _ _ x)), h.has j, if_neg e]
  · rw [fnd_wo] at hx
    by_cases e : j = k
    · rw [if_pos e] at hx; cases hx
    · rw [if_neg e] at hx
      rw [Maps.atKey_del_other (fun x => e (litI_inj _ _ x)), h.at_ j x hx]
/-- what may turn -/
structure Trn (F : Nat → Prop) (w w' : World) : Prop where
  os : w'.os = w.os
  tape : w'.tape = w.tape
  output : w'.output = w.output
  size : w.heap.size ≤ w'.heap.size
  block : ∀ k, k < w.heap.size → ¬ F k → w'.heap[k]? = w.heap[k]?
theorem Trn.of_below {F : Nat → Prop} {w w' : World} (h : Below w.heap.size w w') : Trn F w w' := ⟨h.os, h.tape, h.output, h.size, fun k hk _ => h.block k hk⟩
theorem Trn.trans {F F' : Nat → Prop} {a b c : World} (h : Trn F a b) (h' : Trn F' b c) (hF : ∀ k, k < a.heap.size → F' k → F k) : Trn F a c :=
  ⟨h'.os.trans h.os, h'.tape.trans h.tape, h'.output.trans h.output, Nat.le_trans h.size h'.size, fun k hk hn => (h'.block k (Nat.lt_of_lt_of_le hk h.size) (fun x => hn (hF k hk x))).trans (h.block k hk hn)⟩
theorem Trn.below {F : Nat → Prop} {w0 w w' : World} (h : Below w0.heap.size w0 w) (h' : Trn F w w') (hF : ∀ k, k < w0.heap.size → ¬ F k) : Below w0.heap.size w0 w' :=
  ⟨h'.os.trans h.os, h'.tape.trans h.tape, h'.output.trans h.output, Nat.le_trans h.size h'.size, fun k hk => (h'.block k (Nat.lt_of_lt_of_le hk h.size) (hF k hk)).trans (h.block k hk)⟩
/-- the live files in memory -/
structure Liv (w : World) (m nn : Nat) (F : Nat → Prop) (L : Fl) : Prop where
  nd : Nd L
  lt : ∀ k, F k → k < w.heap.size
  ex : ∃ (D : DataW Value) (gb cp : Int → Nat), w.ownsMap Try.prog 3 heldR m nn D ∧ Tb D L gb cp ∧ Maps.size D = L.length ∧ F m ∧ (∀ k s, fnd L k = some s → F (gb k) ∧ Bf w (gb k) (cp k) s) ∧ (∀ j k, j ≠ k → (fnd L j).isSome = true → (fnd L k).isSome = true → gb j ≠ gb k)
theorem map_keep {W W' : World} {P : Program} {k : TypeId} {R : Value → Option (DataW Value × List MemPlace)} {b n : Nat} {D : DataW Value} (h : W.ownsMap P k R b n D) (hk : W'.heap[b]? = W.heap[b]?) : W'.ownsMap P k R b n D := by
  obtain ⟨es, clock, h1, h2⟩ := h
  exact ⟨es, clock, hk.trans h1, h2⟩
theorem map_block {W : World} {P : Program} {k : TypeId} {R : Value → Option (DataW Value × List MemPlace)} {b n : Nat} {D : DataW Value} (h : W.ownsMap P k R b n D) : ∃ es clock, W.heap[b]? = some (.map es clock) := by
  obtain ⟨es, clock, h1, _⟩ := h
  exact ⟨es, clock, h1⟩
theorem Liv.keep {w w' : World} {m nn : Nat} {F : Nat → Prop} {L : Fl} (h : Liv w m nn F L) (hs : w.heap.size ≤ w'.heap.size) (hk : ∀ k, F k → w'.heap[k]? = w.heap[k]?) : Liv w' m nn F L := by
  obtain ⟨D, gb, cp, h1, h2, h3, h4, h5, h6⟩ := h.ex
  exact ⟨h.nd, fun k hF => Nat.lt_of_lt_of_le (h.lt k hF) hs, D, gb, cp, map_keep h1 (hk m h4), h2, h3, h4, fun k s hks => ⟨(h5 k s hks).1, (h5 k s hks).2.keep (hk _ (h5 k s hks).1)⟩, h6⟩
theorem Liv.below {w w' : World} {m nn : Nat} {F : Nat → Prop} {L : Fl} (h : Liv w m nn F L) (hb : Below w.heap.size w w') : Liv w' m nn F L := h.keep hb.size fun k hF => hb.block k (h.lt k hF)
theorem Liv.mono {w : World} {m nn nn' : Nat} {F : Nat → Prop} {L : Fl} (h : Liv w m nn F L) (hn : nn ≤ nn') : Liv w m nn' F L := by
  obtain ⟨D, gb, cp, h1, h2⟩ := h.ex
  exact ⟨h.nd, h.lt, D, gb, cp, h1.mono hn, h2⟩
/-- a step's end -/
def Dn (F : Nat → Prop) (w w' : World) (m nn : Nat) (L : Fl) : Prop := Trn F w w' ∧ ∃ F', Liv w' m nn F' L ∧ ∀ k, k < w.heap.size → F' k → F k
theorem Dn.below {F : Nat → Prop} {w w' w2 : World} {m nn : Nat} {L : Fl} (h : Dn F w w' m nn L) (hb : Below w'.heap.size w' w2) : Dn F w w2 m nn L := by
  obtain ⟨h1, F', h2, h3⟩ := h
  exact ⟨⟨hb.os.trans h1.os, hb.tape.trans h1.tape, hb.output.trans h1.output, Nat.le_trans h1.size hb.size, fun k hk hn => (hb.block k (Nat.lt_of_lt_of_le hk h1.size)).trans (h1.block k hk hn)⟩, F', h2.below hb, h3⟩
theorem Dn.ahead {F : Nat → Prop} {w0 w w' : World} {m nn : Nat} {L : Fl} (hb : Below w0.heap.size w0 w) (h : Dn F w w' m nn L) : Dn F w0 w' m nn L := by
  obtain ⟨h1, F', h2, h3⟩ := h
  exact ⟨⟨h1.os.trans hb.os, h1.tape.trans hb.tape, h1.output.trans hb.output, Nat.le_trans hb.size h1.size, fun k hk hn => (h1.block k (Nat.lt_of_lt_of_le hk hb.size) hn).trans (hb.block k hk)⟩, F', h2, fun k hk => h3 k (Nat.lt_of_lt_of_le hk hb.size)⟩
theorem dn_refl {F : Nat → Prop} {w w' : World} {m nn : Nat} {L : Fl} (h : Liv w m nn F L) (hb : Below w.heap.size w w') : Dn F w w' m nn L := ⟨Trn.of_below hb, F, h.below hb, fun _ _ x => x⟩
theorem put_core {w w1 : World} {m nn : Nat} {F : Nat → Prop} {L : Fl} {D : DataW Value} {gb cp : Int → Nat} (nd : Nd L) (lt : ∀ k, F k → k < w.heap.size) (h1 : w.ownsMap Try.prog 3 heldR m nn D) (h2 : Tb D L gb cp) (h3 : Maps.size D = L.length) (h4 : F m)
    (h5 : ∀ k s, fnd L k = some s → F (gb k) ∧ Bf w (gb k) (cp k) s) (h6 : ∀ j k, j ≠ k → (fnd L j).isSome = true → (fnd L k).isSome = true → gb j ≠ gb k) (hnn : nn < maxLen) (k : Int) (hkw : (Lit.int .i64 k).wf = true) (g' c' : Nat) (s' : List UInt8)
    (hB : Bf w1 g' c' s') (hg : ((fnd L k).isSome = true ∧ g' = gb k) ∨ w.heap.size ≤ g') (os : w1.os = w.os) (tp : w1.tape = w.tape) (ou : w1.output = w.output) (sz : w.heap.size ≤ w1.heap.size) (hsame : ∀ x, x < w.heap.size → ((fnd L k).isSome = true → x ≠ gb k) → w1.heap[x]? = w.heap[x]?) :
    ∃ w2, (Instr.mapUpdate 62 (.map (some m)) (.int .i64 k) (cv g' s'.length c')).run Try.prog w1 = .ok () w2 ∧ Dn F w w2 m (nn + 1) (wi L k s') := by
  have hmne : ∀ (W : World) g c s, Bf W g c s → ∀ es cl, W.heap[m]? = some (.map es cl) → g ≠ m := fun W g c s hb es cl he e => by
    obtain ⟨cur, fr, hh, _⟩ := hb
    rw [e, he] at hh
    cases hh
  obtain ⟨es, cl, hm⟩ := map_block h1
  have hm1 : w1.heap[m]? = w.heap[m]? := hsame m (lt m h4) (fun hs e => by
    obtain ⟨s, hs⟩ := Option.isSome_iff_exists.1 hs
    exact hmne w _ _ _ (h5 k s hs).2 es cl hm e.symm)
  obtain ⟨w2, hrun, ho, hgr⟩ := World.ownsMap.update (t := 62) (map_keep h1 hm1) keyI Try.underlying62 hnn (keyI_mk hkw) (rfl : heldR (cv g' s'.length c') = _)
  have hg'm : g' ≠ m := hmne w1 _ _ _ hB es cl (hm1.trans hm)
  have hB2 : Bf w2 g' c' s' := hB.keep (hgr.block g' hB.lt (fun e => hg'm (Option.some.inj e)))
  have hT := h2.put k s' g' c'
  have hw2 : ∀ x, x < w.heap.size → x ≠ m → ((fnd L k).isSome = true → x ≠ gb k) → w2.heap[x]? = w.heap[x]? := fun x hx hxm hxk => (hgr.block x (Nat.lt_of_lt_of_le hx sz) (fun e => hxm (Option.some.inj e))).trans (hsame x hx hxk)
  have hsize : w.heap.size ≤ w2.heap.size := Nat.le_trans sz hgr.size
  refine ⟨w2, hrun, ⟨hgr.os.trans os, hgr.tape.trans tp, hgr.output.trans ou, hsize, fun x hx hn => hw2 x hx (fun e => hn (e ▸ h4)) (fun hs e => ?_)⟩, fun x => F x ∨ x = g', ⟨nd_wi nd _ _, ?_, _, _, _, ho, hT, ?_, .inl h4, ?_, ?_⟩, ?_⟩
  · obtain ⟨s, hs⟩ := Option.isSome_iff_exists.1 hs
    exact hn (e ▸ (h5 k s hs).1)
  · rintro x (hx | rfl)
    · exact Nat.lt_of_lt_of_le (lt x hx) hsize
    · exact hB2.lt
  · have htidy := h1.tidy keyI
    rw [Maps.size_put htidy, h2.has k, h3, len_wi nd]
  · intro j s hj
    rw [fnd_wi] at hj
    by_cases e : j = k
    · subst e
      rw [if_pos rfl] at hj
      obtain rfl := Option.some.inj hj
      simp only [if_true]
      exact ⟨Or.inr trivial, hB2⟩
    · rw [if_neg e] at hj
      simp only [if_neg e]
      refine ⟨.inl (h5 j s hj).1, (h5 j s hj).2.keep (hw2 _ (lt _ (h5 j s hj).1) (hmne w _ _ _ (h5 j s hj).2 es cl hm) (fun hs => h6 j k e (by rw [hj]; rfl) hs))⟩
  · intro i j hij hi hj
    rw [fnd_wi] at hi hj
    have hnew : ∀ x, x ≠ k → (fnd L x).isSome = true → g' ≠ gb x := fun x hx hs e => by
      obtain ⟨s, hs'⟩ := Option.isSome_iff_exists.1 hs
      rcases hg with ⟨q1, q2⟩ | q
      · exact h6 x k hx hs q1 (by rw [← e, q2])
      · have := lt _ (h5 x s hs').1
        omega
    by_cases e : i = k
    · have e2 : j ≠ k := fun x => hij (e.trans x.symm)
      rw [if_neg e2] at hj
      simp only [if_pos e, if_neg e2]
      exact hnew j e2 hj
    · rw [if_neg e] at hi
      by_cases e2 : j = k
      · simp only [if_pos e2, if_neg e]
        exact (hnew i e hi).symm
      · rw [if_neg e2] at hj
        simp only [if_neg e2, if_neg e]
        exact h6 i j hij hi hj
  · rintro x hx (h | rfl)
    · exact h
    · rcases hg with ⟨q1, q2⟩ | q
      · obtain ⟨s, hs⟩ := Option.isSome_iff_exists.1 q1
        rw [q2]
        exact (h5 k s hs).1
      · omega
/-- a file that is live, looked up and laid anew -/
theorem Liv.some_ {w : World} {m nn : Nat} {F : Nat → Prop} {L : Fl} (h : Liv w m nn F L) (hnn : nn < maxLen) {k : Int} (hkw : (Lit.int .i64 k).wf = true) {s : List UInt8} (hs : fnd L k = some s) :
    ∃ g c, F g ∧ Bf w g c s ∧ (∀ W, W.heap[m]? = w.heap[m]? → (Instr.lookup 62 (.map (some m)) (.int .i64 k) true).run Try.prog W = .ok (.tuple #[cv g s.length c, .bool true]) W ∧ (Instr.lookup 62 (.map (some m)) (.int .i64 k) false).run Try.prog W = .ok (cv g s.length c) W) ∧
      ∀ w1 g' c' s', Bf w1 g' c' s' → (g' = g ∨ w.heap.size ≤ g') → Only [g] w w1 → ∃ w2, (Instr.mapUpdate 62 (.map (some m)) (.int .i64 k) (cv g' s'.length c')).run Try.prog w1 = .ok () w2 ∧ Dn F w w2 m (nn + 1) (wi L k s') := by
  obtain ⟨D, gb, cp, h1, h2, h3, h4, h5, h6⟩ := h.ex
  refine ⟨gb k, cp k, (h5 k s hs).1, (h5 k s hs).2, fun W hW => ?_, fun w1 g' c' s' hB hg ho => ?_⟩
  · have h1W := map_keep h1 hW
    have ha := h2.at_ k s hs
    constructor
    · obtain ⟨v, ps, hr, hv⟩ := h1W.look_ok (t := 62) keyI Try.underlying62 (zeroC W) (rfl : heldR zc = _) (keyI_mk hkw)
      rw [ha] at hv
      simp only [heldR, Option.some.injEq, Prod.mk.injEq, DataW.held.injEq] at hv
      rw [hr, hv.1, h2.has k, hs]
      rfl
    · obtain ⟨v, ps, hr, hv⟩ := h1W.lookup (t := 62) keyI Try.underlying62 (zeroC W) (rfl : heldR zc = _) (keyI_mk hkw)
      rw [ha] at hv
      simp only [heldR, Option.some.injEq, Prod.mk.injEq, DataW.held.injEq] at hv
      rw [hr, hv.1]
  · refine put_core h.nd h.lt h1 h2 h3 h4 h5 h6 hnn k hkw g' c' s' hB ?_ ho.os ho.tape ho.output ho.size (fun x hx hxk => ho.block x hx (by simpa using hxk (by rw [hs]; rfl)))
    rcases hg with e | e
    · exact .inl ⟨by rw [hs]; rfl, e⟩
    · exact .inr e
/-- a number that is not live -/
theorem Liv.none_ {w : World} {m nn : Nat} {F : Nat → Prop} {L : Fl} (h : Liv w m nn F L) {k : Int} (hkw : (Lit.int .i64 k).wf = true) (hs : fnd L k = none) :
    ∀ W, W.heap[m]? = w.heap[m]? → (Instr.lookup 62 (.map (some m)) (.int .i64 k) true).run Try.prog W = .ok (.tuple #[zc, .bool false]) W := fun W hW => by
  obtain ⟨D, gb, cp, h1, h2, h3, h4, h5, h6⟩ := h.ex
  have h1W := map_keep h1 hW
  have hh : Maps.has D (litI k) = false := by rw [h2.has k, hs]; rfl
  obtain ⟨v, ps, hr, hv⟩ := h1W.look_ok (t := 62) keyI Try.underlying62 (zeroC W) (rfl : heldR zc = _) (keyI_mk hkw)
  rw [Maps.atKey_of_not_has hh] at hv
  simp only [heldR, Option.some.injEq, Prod.mk.injEq, DataW.held.injEq] at hv
  rw [hr, hv.1, hh]
/-- a file laid anew in new memory -/
theorem Liv.put {w w1 : World} {m nn : Nat} {F : Nat → Prop} {L : Fl} (h : Liv w m nn F L) (hnn : nn < maxLen) {k : Int} (hkw : (Lit.int .i64 k).wf = true) {g' c' : Nat} {s' : List UInt8} (hB : Bf w1 g' c' s') (hg : w.heap.size ≤ g') (hb : Below w.heap.size w w1) :
    ∃ w2, (Instr.mapUpdate 62 (.map (some m)) (.int .i64 k) (cv g' s'.length c')).run Try.prog w1 = .ok () w2 ∧ Dn F w w2 m (nn + 1) (wi L k s') := by
  obtain ⟨D, gb, cp, h1, h2, h3, h4, h5, h6⟩ := h.ex
  exact put_core h.nd h.lt h1 h2 h3 h4 h5 h6 hnn k hkw g' c' s' hB (.inr hg) hb.os hb.tape hb.output hb.size (fun x hx _ => hb.block x hx)
/-- delete -/
theorem Liv.del {w : World} {m nn : Nat} {F : Nat → Prop} {L : Fl} (h : Liv w m nn F L) {k : Int} (hkw : (Lit.int .i64 k).wf = true) (ty : TypeId) :
    ∃ w2, (Builtin.delete_ #[62, 3] ty #[.map (some m), .int .i64 k]).run Try.prog w = .ok (.tuple #[]) w2 ∧ Trn F w w2 ∧ Liv w2 m nn F (wo L k) ∧ w2.heap.size = w.heap.size := by
  obtain ⟨D, gb, cp, h1, h2, h3, h4, h5, h6⟩ := h.ex
  obtain ⟨es, cl, hm⟩ := map_block h1
  obtain ⟨w2, hrun, ho, ht⟩ := h1.drop (t := 62) keyI Try.underlying62 (keyI_mk hkw) ty
  have hgr := ht.grown
  have hsz : w2.heap.size = w.heap.size := by
    obtain ⟨es, c, es', c', hb, rfl⟩ := ht
    simp [Go.ChangeMaps.setBlock]
  have hw2 : ∀ x, x < w.heap.size → x ≠ m → w2.heap[x]? = w.heap[x]? := fun x hx hxm => hgr.block x hx (fun e => hxm (Option.some.inj e))
  refine ⟨w2, hrun, ⟨hgr.os, hgr.tape, hgr.output, hgr.size, fun x hx hn => hw2 x hx (fun e => hn (e ▸ h4))⟩, ⟨nd_wo h.nd _, fun x hx => by rw [hsz]; exact h.lt x hx, _, gb, cp, ho, h2.del k, ?_, h4, ?_, ?_⟩, hsz⟩
  · have := Maps.size_del (k := litI k) (h1.tidy keyI)
    have h7 := len_wo h.nd k
    rw [h2.has k, h3] at this
    omega
  · intro j s hj
    rw [fnd_wo] at hj
    by_cases e : j = k
    · rw [if_pos e] at hj; cases hj
    · rw [if_neg e] at hj
      refine ⟨(h5 j s hj).1, (h5 j s hj).2.keep (hw2 _ (h.lt _ (h5 j s hj).1) (fun e => ?_))⟩
      obtain ⟨cur, fr, hh, _⟩ := (h5 j s hj).2
      rw [e, hm] at hh
      cases hh
  · intro i j hij hi hj
    rw [fnd_wo] at hi hj
    by_cases e : i = k
    · rw [if_pos e] at hi; cases hi
    · by_cases e2 : j = k
      · rw [if_pos e2] at hj; cases hj
      · rw [if_neg e] at hi
        rw [if_neg e2] at hj
        exact h6 i j hij hi hj
/-- a map that was just made -/
theorem liv_new (w : World) : Liv (w.alloc (.map #[] 0)) w.heap.size 0 (fun k => k = w.heap.size) [] := by
  have h := World.ownsMap_made (H := Value) w Try.prog 3 heldR
  refine ⟨nd_nil, fun k hk => by rw [hk]; exact h.lt, .map [], fun _ => 0, fun _ => 0, h, tb_nil _ _, rfl, rfl, fun k s hs => (by cases hs), fun i j _ hi => (by cases hi)⟩
theorem Liv.len {w : World} {m nn : Nat} {F : Nat → Prop} {L : Fl} (h : Liv w m nn F L) (ty : TypeId) : (Builtin.len_ #[62] ty #[.map (some m)]).run Try.prog w = .ok (.int .i64 (L.length : Int)) w := by
  obtain ⟨D, gb, cp, h1, h2, h3, h4⟩ := h.ex
  rw [h1.len (t := 62) Try.underlying62 ty, h3]
theorem Liv.mem {w : World} {m nn : Nat} {F : Nat → Prop} {L : Fl} (h : Liv w m nn F L) : F m ∧ m < w.heap.size := by
  obtain ⟨D, gb, cp, h1, h2, h3, h4, h5⟩ := h.ex
  exact ⟨h4, h.lt m h4⟩
theorem Liv.size_le {w : World} {m nn : Nat} {F : Nat → Prop} {L : Fl} (h : Liv w m nn F L) : L.length ≤ nn := by
  obtain ⟨D, gb, cp, h1, h2, h3, h4, h5⟩ := h.ex
  rw [← h3]
  exact h1.size_le
end Go.Proofs.Ytpjigcccjiidpaa.Ex
