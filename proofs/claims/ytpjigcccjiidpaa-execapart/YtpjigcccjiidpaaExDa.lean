import Derived.Test.YtpjigcccjiidpaaExZ
namespace Go.Proofs.Ytpjigcccjiidpaa.Ex
open Go.RowKit Go.Lib Go.Deep

set_option maxRecDepth 20000 in
set_option maxHeartbeats 1000000 in
theorem read_any (w : World) (m nn : Nat) (F : Nat → Prop) (L : Fl) (h : Liv w m nn F L) (hnn : nn < maxLen) (e : Ef) (hf : wf e.fl) (k : Nat) (hk : e.n = k) (s : List UInt8) (hs : fnd L e.fl = some s) (hs2 : s.length ≤ 9223372036854775807) (hin : k = 0 ∨ (0 ≤ e.at_ ∧ e.at_ + k ≤ s.length)) (cd n kd sz : Int) (da : ByteArray) (na : Option Addr) (nl nc : Nat) : Calls Try.prog 27 #[.map (some m), efV e, .agg #[.int .i64 cd, .string da, .int .i64 n, .slice na nl nc, .int .i64 kd, .int .i64 sz]] w fun x w' => DoP F w m nn L #[.int .i64 cd, .string (str ((s.drop e.at_.toNat).take k)), .int .i64 n, .slice na nl nc, .int .i64 kd, .int .i64 sz] x w' := by
  obtain ⟨W, hW, hb, b3⟩ := b3_new w e (.int .i64 cd) (.string da) (.int .i64 n) (.slice na nl nc) (.int .i64 kd) (.int .i64 sz)
  have hF := h.lt
  have hLW := h.below hb
  obtain ⟨c1, c2, c3, c4, c5⟩ := b3.ec
  obtain ⟨g0, c0, hg0, hB0, hq, -⟩ := hLW.some_ hnn hf hs
  have hr := (hq W rfl).2
  unfold cv at hr
  have hp := piece_any g0 c0 s W hB0 e.at_ k hin hs2
  unfold cv at hp
  rw [hk] at c4
  generalize str ((s.drop e.at_.toNat).take k) = T at *
  have HX : Hid (∀ V, Below W.heap.size W V → B3 w e (.int .i64 cd) (.string da) (.int .i64 n) (.slice na nl nc) (.int .i64 kd) (.int .i64 sz) V) := fun V hV => b3.below hV
  have HE : Hid (∀ V U, Below W.heap.size W V → Below w.heap.size V U → Dn F w U m nn L) := fun V U hV hU => by
    have hbV := hb.trans (hV.mono hb.size)
    exact dn_refl h (hbV.trans hU)
  unfold efV
  unfold efA at hW ⊢
  obtain ⟨ekd, fl, gn, at_, en, eda, esz⟩ := e
  dsimp only at *
  subst hk
  clear h hb b3 hF hLW hq hs hs2 hin hB0 hg0
  go_enter Try.func27, Try.ntmps27
  go_wp2_with (go_at_call 37; refine hp.mono ?_; rintro e w5 ⟨rfl, hb5⟩; have b5 := HX.out w5 hb5; obtain ⟨a0, a1, a2, a3, a4, a5⟩ := cells6 b5.k1; obtain ⟨z0, z1, z2, z3, z4, z5⟩ := cells6 b5.k2; obtain ⟨f0, f1, f2, f3, f4, f5⟩ := froz6 b5.k2; obtain ⟨j0, j1, -⟩ := froz6 b5.k1; have HK : Hid _ := b5.k2; clear b5)
  have hk2 : (w5.setCell ⟨w.heap.size + 1, 1, none⟩ (.string T)).heap[w.heap.size + 1 + 1]? = _ := (heap_setCell_other _ _ _ _ (by show w.heap.size + 1 + 1 ≠ w.heap.size + 1; omega)).trans HK.out
  refine bodyPost_ret (Tr.results_cell1 rfl _ _ (w.heap.size + 1 + 1) 56 _ (0, 0) _ rfl (Tr.put6A hk2) Try.underlying56 rfl sizeR) rfl ?_
  refine ⟨rfl, HE.out _ _ hb5 ?_⟩
  have hB : Below w.heap.size w5 w5 := Below.refl _ _
  exact ((((((hB.setCell (by show w.heap.size ≤ w.heap.size + 1; omega) _).setCell (by show w.heap.size ≤ w.heap.size + 1 + 1; omega) _).setCell (by show w.heap.size ≤ w.heap.size + 1 + 1; omega) _).setCell (by show w.heap.size ≤ w.heap.size + 1 + 1; omega) _).setCell (by show w.heap.size ≤ w.heap.size + 1 + 1; omega) _).setCell (by show w.heap.size ≤ w.heap.size + 1 + 1; omega) _).setCell (by show w.heap.size ≤ w.heap.size + 1 + 1; omega) _
end Go.Proofs.Ytpjigcccjiidpaa.Ex
