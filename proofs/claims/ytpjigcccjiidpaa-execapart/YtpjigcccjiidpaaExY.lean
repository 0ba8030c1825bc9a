import Derived.Test.YtpjigcccjiidpaaExX
namespace Go.Proofs.Ytpjigcccjiidpaa.Ex
open Go.RowKit Go.Lib Go.Deep

theorem sizeR : (Try.prog.info? 56).map (·.size) = some 6 := by kernel_rfl
theorem three_new (w : World) (A B C : Array Value) (s t u : TypeId) : ∃ W, ((w.alloc (.cells A s)).alloc (.cells B t)).alloc (.cells C u) = W ∧ Below w.heap.size w W ∧ W.heap[w.heap.size]? = some (.cells A s (0, 0)) ∧ W.heap[w.heap.size + 1]? = some (.cells B t (0, 0)) ∧ W.heap[w.heap.size + 1 + 1]? = some (.cells C u (0, 0)) := by
  obtain ⟨W, rfl, hb, k0, k1⟩ := two_new w A B s t
  have hs : ((w.alloc (.cells A s)).alloc (.cells B t)).heap.size = w.heap.size + 1 + 1 := by simp
  refine ⟨_, rfl, hb.alloc hb.size _, (Below.heap_alloc _ _ _ (by rw [hs]; omega)).trans k0, (Below.heap_alloc _ _ _ (by rw [hs]; omega)).trans k1, ?_⟩
  have := heap_new ((w.alloc (.cells A s)).alloc (.cells B t)) (.cells C u)
  rw [hs] at this
  exact this
theorem cells6 {W : World} {g : Nat} {t : TypeId} {x0 x1 x2 x3 x4 x5 : Value} (h : W.heap[g]? = some (.cells #[x0, x1, x2, x3, x4, x5] t (0, 0))) : W.cell? ⟨g, 0, none⟩ = some x0 ∧ W.cell? ⟨g, 1, none⟩ = some x1 ∧ W.cell? ⟨g, 2, none⟩ = some x2 ∧ W.cell? ⟨g, 3, none⟩ = some x3 ∧ W.cell? ⟨g, 4, none⟩ = some x4 ∧ W.cell? ⟨g, 5, none⟩ = some x5 :=
  ⟨(cell_of_heap h).trans rfl, (cell_of_heap h).trans rfl, (cell_of_heap h).trans rfl, (cell_of_heap h).trans rfl, (cell_of_heap h).trans rfl, (cell_of_heap h).trans rfl⟩
theorem froz6 {W : World} {g : Nat} {t : TypeId} {c : Array Value} (h : W.heap[g]? = some (.cells c t (0, 0))) : W.frozen? ⟨g, 0, none⟩ = false ∧ W.frozen? ⟨g, 1, none⟩ = false ∧ W.frozen? ⟨g, 2, none⟩ = false ∧ W.frozen? ⟨g, 3, none⟩ = false ∧ W.frozen? ⟨g, 4, none⟩ = false ∧ W.frozen? ⟨g, 5, none⟩ = false :=
  ⟨frozen_of_heap h, frozen_of_heap h, frozen_of_heap h, frozen_of_heap h, frozen_of_heap h, frozen_of_heap h⟩
theorem Dn.at_ {F : Nat → Prop} {w W V U : World} {m nn : Nat} {L : Fl} (h : Dn F W V m nn L) (hF : ∀ k, F k → k < w.heap.size) {b : Nat} (h1 : w.heap.size ≤ b) (h2 : b < W.heap.size) (hb : Below w.heap.size w W) (ho : Only [b] V U) : Dn F w U m nn L := by
  obtain ⟨t, F', hL, hF'⟩ := h
  have hn : ¬ F' b := fun x => by have := hF b (hF' b h2 x); omega
  have hs := t.size
  have hbs := hb.size
  refine ⟨⟨ho.os.trans (t.os.trans hb.os), ho.tape.trans (t.tape.trans hb.tape), ho.output.trans (t.output.trans hb.output), Nat.le_trans hbs (Nat.le_trans hs ho.size), fun k hk hk' => ?_⟩, F', hL.keep ho.size (fun k hk => ho.block k (hL.lt k hk) (by simp only [List.mem_singleton]; exact fun e => hn (e ▸ hk))), fun k hk => hF' k (Nat.lt_of_lt_of_le hk hbs)⟩
  exact (ho.block k (by omega) (by simp only [List.mem_singleton]; omega)).trans ((t.block k (by omega) hk').trans (hb.block k hk))
theorem only6 (V : World) (b : Nat) (y0 y1 y2 y3 y4 y5 : Value) : Only [b] V ((((((V.setCell ⟨b, 0, none⟩ y0).setCell ⟨b, 1, none⟩ y1).setCell ⟨b, 2, none⟩ y2).setCell ⟨b, 3, none⟩ y3).setCell ⟨b, 4, none⟩ y4).setCell ⟨b, 5, none⟩ y5) :=
  ((((((Only.refl [b] V).setCell (p := ⟨b, 0, none⟩) (by simp) _).setCell (p := ⟨b, 1, none⟩) (by simp) _).setCell (p := ⟨b, 2, none⟩) (by simp) _).setCell (p := ⟨b, 3, none⟩) (by simp) _).setCell (p := ⟨b, 4, none⟩) (by simp) _).setCell (p := ⟨b, 5, none⟩) (by simp) _
/-- the three blocks of a deed: the effect, the result, the answer -/
structure B3 (w : World) (e : Ef) (x0 x1 x2 x3 x4 x5 : Value) (V : World) : Prop where
  k0 : V.heap[w.heap.size]? = some (.cells (efA e) 26 (0, 0))
  k1 : V.heap[w.heap.size + 1]? = some (.cells #[x0, x1, x2, x3, x4, x5] 56 (0, 0))
  k2 : V.heap[w.heap.size + 1 + 1]? = some (.cells #[.int .i64 0, .string { data := #[] }, .int .i64 0, .slice none 0 0, .int .i64 0, .int .i64 0] 56 (0, 0))
theorem B3.below {w V V' : World} {e : Ef} {x0 x1 x2 x3 x4 x5 : Value} (h : B3 w e x0 x1 x2 x3 x4 x5 V) (hb : Below V.heap.size V V') : B3 w e x0 x1 x2 x3 x4 x5 V' := ⟨(hb.block _ (heap_lt h.k0)).trans h.k0, (hb.block _ (heap_lt h.k1)).trans h.k1, (hb.block _ (heap_lt h.k2)).trans h.k2⟩
theorem B3.dn {w W V : World} {e : Ef} {x0 x1 x2 x3 x4 x5 : Value} {F : Nat → Prop} {m nn : Nat} {L : Fl} (h : B3 w e x0 x1 x2 x3 x4 x5 W) (hF : ∀ k, F k → k < w.heap.size) (hd : Dn F W V m nn L) : B3 w e x0 x1 x2 x3 x4 x5 V := by
  have hn : ∀ k, w.heap.size ≤ k → ¬ F k := fun k hk x => by have := hF k x; omega
  exact ⟨(hd.1.block _ (heap_lt h.k0) (hn _ (Nat.le_refl _))).trans h.k0, (hd.1.block _ (heap_lt h.k1) (hn _ (by omega))).trans h.k1, (hd.1.block _ (heap_lt h.k2) (hn _ (by omega))).trans h.k2⟩
theorem b3_new (w : World) (e : Ef) (x0 x1 x2 x3 x4 x5 : Value) : ∃ W, ((w.alloc (.cells (efA e) 26)).alloc (.cells #[x0, x1, x2, x3, x4, x5] 56)).alloc (.cells #[.int .i64 0, .string { data := #[] }, .int .i64 0, .slice none 0 0, .int .i64 0, .int .i64 0] 56) = W ∧ Below w.heap.size w W ∧ B3 w e x0 x1 x2 x3 x4 x5 W := by
  obtain ⟨W, hW, hb, k0, k1, k2⟩ := three_new w (efA e) #[x0, x1, x2, x3, x4, x5] #[.int .i64 0, .string { data := #[] }, .int .i64 0, .slice none 0 0, .int .i64 0, .int .i64 0] 26 56 56
  exact ⟨W, hW, hb, k0, k1, k2⟩
theorem B3.ec {w W : World} {e : Ef} {x0 x1 x2 x3 x4 x5 : Value} (h : B3 w e x0 x1 x2 x3 x4 x5 W) : W.cell? ⟨w.heap.size, 1, none⟩ = some (.int .i64 e.fl) ∧ W.cell? ⟨w.heap.size, 2, none⟩ = some (.int .i64 e.gn) ∧ W.cell? ⟨w.heap.size, 3, none⟩ = some (.int .i64 e.at_) ∧ W.cell? ⟨w.heap.size, 4, none⟩ = some (.int .i64 e.n) ∧ W.cell? ⟨w.heap.size, 5, none⟩ = some (.string (str e.da)) :=
  ⟨(cell_of_heap h.k0).trans rfl, (cell_of_heap h.k0).trans rfl, (cell_of_heap h.k0).trans rfl, (cell_of_heap h.k0).trans rfl, (cell_of_heap h.k0).trans rfl⟩
/-- what a deed leaves -/
def DoP (F : Nat → Prop) (w : World) (m nn : Nat) (L : Fl) (R : Array Value) (e : Ending) (w' : World) : Prop := e = .returned (.agg R) ∧ Dn F w w' m nn L
set_option maxRecDepth 20000 in
set_option maxHeartbeats 1000000 in
theorem remove_any (w : World) (m nn : Nat) (F : Nat → Prop) (L : Fl) (h : Liv w m nn F L) (e : Ef) (hf : wf e.fl) (cd n kd sz : Int) (da : ByteArray) (na : Option Addr) (nl nc : Nat) : Calls Try.prog 33 #[.map (some m), efV e, .agg #[.int .i64 cd, .string da, .int .i64 n, .slice na nl nc, .int .i64 kd, .int .i64 sz]] w fun x w' => DoP F w m nn (wo L e.fl) #[.int .i64 cd, .string da, .int .i64 n, .slice na nl nc, .int .i64 kd, .int .i64 sz] x w' := by
  obtain ⟨W, hW, hb, b3⟩ := b3_new w e (.int .i64 cd) (.string da) (.int .i64 n) (.slice na nl nc) (.int .i64 kd) (.int .i64 sz)
  have hF := h.lt
  obtain ⟨w2, hrun, ht, hl, hs⟩ := (h.below hb).del hf 0
  have hd : Dn F W w2 m nn (wo L e.fl) := ⟨ht, F, hl, fun _ _ x => x⟩
  have b32 := b3.dn hF hd
  obtain ⟨c1, -⟩ := b3.ec
  obtain ⟨a0, a1, a2, a3, a4, a5⟩ := cells6 b32.k1
  obtain ⟨z0, z1, z2, z3, z4, z5⟩ := cells6 b32.k2
  obtain ⟨f0, f1, f2, f3, f4, f5⟩ := froz6 b32.k2
  have HE : Hid (∀ U, Only [w.heap.size + 1 + 1] w2 U → Dn F w U m nn (wo L e.fl)) := fun U hU => hd.at_ hF (by omega) (heap_lt b3.k2) hb hU
  have HK : Hid _ := b32.k2
  unfold efV
  unfold efA at hW ⊢
  obtain ⟨ekd, fl, gn, at_, en, eda, esz⟩ := e
  dsimp only at *
  clear h hb b3 ht hl hs hd b32 hF
  go_enter Try.func33, Try.ntmps33
  go_wp2
  refine bodyPost_ret (Tr.results_cell1 rfl _ _ (w.heap.size + 1 + 1) 56 _ (0, 0) _ rfl (Tr.put6A HK.out) Try.underlying56 rfl sizeR) rfl ?_
  exact ⟨rfl, HE.out _ (only6 _ _ _ _ _ _ _ _)⟩
end Go.Proofs.Ytpjigcccjiidpaa.Ex
