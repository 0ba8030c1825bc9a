import Derived.Test.YtjinhaallkgagaaRefA
namespace Go.Proofs.Ytjinhaallkgagaa
open Go.RowKit Go.Lib Go.Deep

/-- A tape and the document's tape beside it. -/
structure Live (w : World) (t r g q : Nat) (bs : List UInt8) (d : Nat) : Prop where
  tape : IsTape w t r g bs d
  ref : ∃ s : ByteArray, s.data.toList = bs ∧ w.heap[q]? = some (.cells #[.string s, .int .i64 (d : Int)] 51 (0, 0))
  row : g < w.heap.size
  apart : q ≠ g

theorem Live.qr {w : World} {t r g q : Nat} {bs : List UInt8} {d : Nat} (h : Live w t r g q bs d) : q ≠ r := by
  obtain ⟨s, _, hq⟩ := h.ref
  obtain ⟨ao, hr, _⟩ := h.tape.reel
  exact ne_of_type hq hr (by decide)

theorem Live.qt {w : World} {t r g q : Nat} {bs : List UInt8} {d : Nat} (h : Live w t r g q bs d) : q ≠ t := by
  obtain ⟨s, _, hq⟩ := h.ref
  exact ne_of_type hq h.tape.tape (by decide)

theorem Live.only {w w' : World} {t r g q : Nat} {bs : List UInt8} {d : Nat} {S : List Nat} (h : Live w t r g q bs d) (ho : Only S w w') (h1 : t ∉ S) (h2 : r ∉ S) (h3 : g ∉ S) (h4 : q ∉ S) : Live w' t r g q bs d := by
  obtain ⟨s, hs, hq⟩ := h.ref
  exact ⟨h.tape.only ho h.row h1 h2 h3, ⟨s, hs, by rw [ho.block q (heap_lt hq) h4]; exact hq⟩, Nat.lt_of_lt_of_le h.row ho.size, h.apart⟩

theorem Live.alloc {w : World} {t r g q : Nat} {bs : List UInt8} {d : Nat} (h : Live w t r g q bs d) (o : Obj) : Live (w.alloc o) t r g q bs d :=
  h.only (S := []) ((Only.refl _ _).alloc o) (by simp) (by simp) (by simp) (by simp)

/-- Both have drawn alike. -/
theorem Live.both {w w1 w2 : World} {t r g q : Nat} {bs bs' : List UInt8} {d d' : Nat} {s' : ByteArray} (h : Live w t r g q bs d) (ht : IsTape w1 t r g bs' d') (ho : Only [r, g] w w1) (ho2 : Only [q] w1 w2)
    (hq : w2.heap[q]? = some (.cells #[.string s', .int .i64 (d' : Int)] 51 (0, 0))) (hs : s'.data.toList = bs') : Live w2 t r g q bs' d' ∧ Only [r, g, q] w w2 := by
  have hqr := h.qr
  have hqt := h.qt
  have hqg := h.apart
  refine ⟨⟨ht.only ho2 (Nat.lt_of_lt_of_le h.row ho.size) ?_ ?_ ?_, ⟨s', hs, hq⟩, Nat.lt_of_lt_of_le h.row (Nat.le_trans ho.size ho2.size), hqg⟩, ?_⟩
  · simpa using Ne.symm hqt
  · simpa using Ne.symm hqr
  · simpa using Ne.symm hqg
  · exact (ho.mono (by simp)).trans (ho2.mono (by simp))

/-- The document's Draw, in the same state. -/
theorem Live.refCell {w : World} {t r g q : Nat} {bs : List UInt8} {d : Nat} (h : Live w t r g q bs d) : ∃ s : ByteArray, s.data.toList = bs ∧ w.heap[q]? = some (.cells #[.string s, .int .i64 (d : Int)] 51 (0, 0)) ∧ s.size = bs.length := by
  obtain ⟨s, hs, hq⟩ := h.ref
  exact ⟨s, hs, hq, by rw [size_eq, hs]⟩

theorem both_left {w : World} {t r g q : Nat} {bs : List UInt8} {d : Nat} (h : Live w t r g q bs d) :
    Calls Try.prog 15 #[.pointer (some ⟨q, 0, none⟩)] w fun e w' => e = .returned (.int .i64 bs.length) ∧ w' = w := by
  obtain ⟨s, hs, hq, hz⟩ := h.refCell
  have := refLeft_ok q s w (by rw [cell_of_heap hq]; rfl)
  rw [hz] at this
  exact this

theorem both_drawn {w : World} {t r g q : Nat} {bs : List UInt8} {d : Nat} (h : Live w t r g q bs d) :
    Calls Try.prog 16 #[.pointer (some ⟨q, 0, none⟩)] w fun e w' => e = .returned (.int .i64 d) ∧ w' = w := by
  obtain ⟨s, hs, hq, hz⟩ := h.refCell
  exact refDrawn_ok q d w (by rw [cell_of_heap hq]; rfl)

/-- Draw and the document's Draw, one behind the other: what each answers, and what is left. -/
theorem refDraw_dry' {w0 w : World} {t r g q : Nat} {bs : List UInt8} {d : Nat} (h : Live w0 t r g q bs d) (ht : IsTape w t r g [] d) (ho : Only [r, g] w0 w) (n : Int) (hn : (bs.length : Int) < n) :
    Calls Try.prog 20 #[.pointer (some ⟨q, 0, none⟩), .int .i64 n] w fun e w' => e = .returned (.tuple #[.string ⟨#[]⟩, .int .i64 10]) ∧ Live w' t r g q [] d ∧ Only [r, g, q] w0 w' := by
  obtain ⟨s, hs, hq0, hz⟩ := h.refCell
  have hqr := h.qr
  have hb := h.tape.bound
  have hq : w.heap[q]? = some (.cells #[.string s, .int .i64 (d : Int)] 51 (0, 0)) := by rw [ho.block q (heap_lt hq0) (by simp [hqr, h.apart])]; exact hq0
  refine (refDraw_dry q n s w (by rw [cell_of_heap hq]; rfl) (frozen_of_heap hq) (by omega) (by omega)).mono ?_
  rintro e w' ⟨rfl, rfl⟩
  have := h.both ht ho ((Only.refl [q] w).setCell (p := ⟨q, 0, none⟩) (by simp) (.string ⟨#[]⟩)) (s' := ⟨#[]⟩) (by rw [Go.Lib.heap_setCell_same (i := 0) hq]; rfl) rfl
  exact ⟨rfl, this⟩

theorem refDraw_take' {w0 w : World} {t r g q : Nat} {bs : List UInt8} {d : Nat} (h : Live w0 t r g q bs d) (n : Nat) (ht : IsTape w t r g (bs.drop n) (d + n)) (ho : Only [r, g] w0 w) (hn : n ≤ bs.length) :
    Calls Try.prog 20 #[.pointer (some ⟨q, 0, none⟩), .int .i64 (n : Int)] w fun e w' => e = .returned (.tuple #[.string ⟨(bs.take n).toArray⟩, .int .i64 0]) ∧ Live w' t r g q (bs.drop n) (d + n) ∧ Only [r, g, q] w0 w' := by
  obtain ⟨s, hs, hq0, hz⟩ := h.refCell
  have hqr := h.qr
  have hb := h.tape.bound
  have hq : w.heap[q]? = some (.cells #[.string s, .int .i64 (d : Int)] 51 (0, 0)) := by rw [ho.block q (heap_lt hq0) (by simp [hqr, h.apart])]; exact hq0
  refine (refDraw_take q n d s w (by rw [cell_of_heap hq]; rfl) (by rw [cell_of_heap hq]; rfl) (frozen_of_heap hq) (frozen_of_heap hq) (by omega) (by omega)).mono ?_
  rintro e w' ⟨rfl, rfl⟩
  have hq2 := Go.Lib.heap_setCell_same (i := 1) (Go.Lib.heap_setCell_same (i := 0) hq (.string (s.extract n s.size))) (.int .i64 ((d : Int) + (n : Int)))
  have := h.both ht ho (((Only.refl [q] w).setCell (p := ⟨q, 0, none⟩) (by simp) (.string (s.extract n s.size))).setCell (p := ⟨q, 1, none⟩) (by simp) (.int .i64 ((d : Int) + (n : Int)))) (s' := s.extract n s.size) (by rw [hq2]; simp) (by
    rw [extract_data, hs, List.take_of_length_le (by simp; omega)])
  refine ⟨?_, this⟩
  rw [extract_eq, hs]
  simp

end Go.Proofs.Ytjinhaallkgagaa
