import Derived.Test.YtjinhaallkgagaaInOrderA
namespace Go.Proofs.Ytjinhaallkgagaa
open Go.RowKit Go.Lib Go.Deep

theorem draw_takeI {t r g : Nat} {bs : List UInt8} {d : Nat} {w : World} (h : IsTape w t r g bs d) (n : Int) (h0 : 0 ≤ n) (hn : n ≤ (bs.length : Int)) :
    Calls Try.prog 12 #[.pointer (some ⟨t, 0, none⟩), .int .i64 n] w fun e w' => e = .returned (.tuple #[.string ⟨(bs.take n.toNat).toArray⟩, .int .i64 0]) ∧ IsTape w' t r g (bs.drop n.toNat) (d + n.toNat) ∧ Only [r, g] w w' := by
  obtain ⟨m, rfl⟩ : ∃ m : Nat, n = (m : Int) := ⟨n.toNat, by omega⟩
  simpa using draw_take h m (by omega)

theorem draw_takeS {t r g : Nat} {bs : List UInt8} {d : Nat} {w : World} (h : IsTape w t r g bs d) (n : Int) (h0 : 0 ≤ n) (hn : n ≤ (bs.length : Int)) :
    Calls Try.prog 12 #[.pointer (some ⟨t, 0, none⟩), .int .i64 n] w fun e w' => ∃ s : ByteArray, e = .returned (.tuple #[.string s, .int .i64 0]) ∧ Hid (s.data.toList = bs.take n.toNat) ∧ IsTape w' t r g (bs.drop n.toNat) (d + n.toNat) ∧ Only [r, g] w w' := by
  refine (draw_takeI h n h0 hn).mono ?_
  rintro e w' ⟨rfl, h1, h2⟩
  exact ⟨_, rfl, by show _ = _; simp, h1, h2⟩

theorem IsTape.only {w w' : World} {t r g : Nat} {bs : List UInt8} {d : Nat} {S : List Nat} (h : IsTape w t r g bs d) (ho : Only S w w') (hg : g < w.heap.size) (h1 : t ∉ S) (h2 : r ∉ S) (h3 : g ∉ S) : IsTape w' t r g bs d := by
  have a := heap_lt h.tape
  obtain ⟨_, b, _⟩ := h.reel
  exact h.keep (ho.block _ a h1) (ho.block _ (heap_lt b) h2) (ho.block _ hg h3)

theorem left_is {t r g : Nat} {bs : List UInt8} {d : Nat} {w : World} (h : IsTape w t r g bs d) (n : Int) (hn : (bs.length : Int) = n) :
    Calls Try.prog 10 #[.pointer (some ⟨t, 0, none⟩)] w fun e w' => e = .returned (.int .i64 n) ∧ w' = w := by
  subst hn
  exact left_tape h

theorem drawn_is {t r g : Nat} {bs : List UInt8} {d : Nat} {w : World} (h : IsTape w t r g bs d) (n : Int) (hn : (d : Int) = n) :
    Calls Try.prog 11 #[.pointer (some ⟨t, 0, none⟩)] w fun e w' => e = .returned (.int .i64 n) ∧ w' = w := by
  subst hn
  exact drawn_tape h

/-- Two tapes beside one another. -/
structure Two (w : World) (N M : Nat) (bs cs : List UInt8) (c d : Nat) : Prop where
  one : IsTape w (N + 2) (N + 1) N bs c
  two : IsTape w (M + 2) (M + 1) M cs d
  far : N + 3 ≤ M
  row : M < w.heap.size

theorem Two.first {w w' : World} {N M : Nat} {bs cs bs' : List UInt8} {c d c' : Nat} (h : Two w N M bs cs c d) (ht : IsTape w' (N + 2) (N + 1) N bs' c') (ho : Only [N + 1, N] w w') : Two w' N M bs' cs c' d := by
  have hf := h.far
  have hr := h.row
  refine ⟨ht, h.two.only ho hr ?_ ?_ ?_, hf, Nat.lt_of_lt_of_le hr ho.size⟩ <;> (simp; omega)

theorem Two.second {w w' : World} {N M : Nat} {bs cs cs' : List UInt8} {c d d' : Nat} (h : Two w N M bs cs c d) (ht : IsTape w' (M + 2) (M + 1) M cs' d') (ho : Only [M + 1, M] w w') : Two w' N M bs cs' c d' := by
  have hf := h.far
  have hr := h.row
  refine ⟨h.one.only ho (by omega) ?_ ?_ ?_, ht, hf, Nat.lt_of_lt_of_le hr ho.size⟩ <;> (simp; omega)

theorem below_pair {B a b : Nat} {w0 w w' : World} (hb : Below B w0 w) (h0 : B ≤ w0.heap.size) (ho : Only [a, b] w w') (ha : B ≤ a) (hb' : B ≤ b) : Below B w0 w' := by
  refine hb.trans (ho.below (Nat.le_trans h0 hb.size) ?_)
  intro k hk
  simp at hk
  rcases hk with rfl | rfl <;> assumption

end Go.Proofs.Ytjinhaallkgagaa
