import Derived.Test.YtjinhaallkgagaaTapeD
import Derived.Deep.LoopGhost
import Derived.WalkLawsBesides
namespace Go.Proofs.Ytjinhaallkgagaa
open Go.RowKit Go.Lib Go.Deep

/-- What is left of a tape of 'bs' behind 'all' drawn bytes. -/
def restOf (bs : List UInt8) (dry : Bool) (all : Nat) : List UInt8 := if dry then [] else bs.drop all

theorem draw_zero {t r g : Nat} {bs : List UInt8} {d : Nat} {w : World} (h : IsTape w t r g bs d) :
    Calls Try.prog 12 #[.pointer (some ⟨t, 0, none⟩), .int .i64 0] w fun e w' => e = .returned (.tuple #[.string ⟨#[]⟩, .int .i64 0]) ∧ IsTape w' t r g bs d ∧ Only [r, g] w w' := by
  refine (draw_take h 0 (Nat.zero_le _)).mono ?_
  rintro e w' ⟨rfl, h1, h2⟩
  exact ⟨rfl, by simpa using h1, h2⟩

theorem draw_ext {t r g : Nat} {s : ByteArray} {all : Nat} {w : World} (h : IsTape w t r g (restOf s.data.toList false all) all) (n : Nat) (hn : all + n ≤ s.size) :
    Calls Try.prog 12 #[.pointer (some ⟨t, 0, none⟩), .int .i64 (n : Int)] w fun e w' => e = .returned (.tuple #[.string (s.extract all (all + n)), .int .i64 0]) ∧ IsTape w' t r g (restOf s.data.toList false (all + n)) (all + n) ∧ Only [r, g] w w' := by
  have hl := size_eq s
  have e1 : restOf s.data.toList false all = s.data.toList.drop all := rfl
  have e2 : restOf s.data.toList false (all + n) = s.data.toList.drop (all + n) := rfl
  rw [e1] at h
  rw [e2]
  refine (draw_take h n (by simp; omega)).mono ?_
  rintro e w' ⟨rfl, h1, h2⟩
  refine ⟨?_, ?_, h2⟩
  · rw [extract_eq]
    simp
  · simpa [List.drop_drop] using h1

theorem restOf_len (s : ByteArray) (dry : Bool) (all : Nat) : (restOf s.data.toList dry all).length = if dry then 0 else s.size - all := by
  have hl := size_eq s
  unfold restOf
  cases dry <;> simp <;> omega

theorem left_dry {t r g : Nat} {bs : List UInt8} {all d : Nat} {w : World} (h : IsTape w t r g (restOf bs true all) d) :
    Calls Try.prog 10 #[.pointer (some ⟨t, 0, none⟩)] w fun e w' => e = .returned (.int .i64 0) ∧ w' = w := left_tape h

theorem left_wet {t r g : Nat} {s : ByteArray} {all d : Nat} {w : World} (h : IsTape w t r g (restOf s.data.toList false all) d) (ha : all ≤ s.size) :
    Calls Try.prog 10 #[.pointer (some ⟨t, 0, none⟩)] w fun e w' => e = .returned (.int .i64 ((s.size : Int) - (all : Int))) ∧ w' = w := by
  refine (left_tape h).mono ?_
  rintro e w' ⟨rfl, rfl⟩
  refine ⟨?_, rfl⟩
  rw [restOf_len]
  have e : (((if false = true then 0 else s.size - all : Nat)) : Int) = (s.size : Int) - (all : Int) := by simp; omega
  rw [e]

theorem draw_short {t r g : Nat} {s : ByteArray} {all : Nat} {w : World} (h : IsTape w t r g (restOf s.data.toList false all) all) (ha : all ≤ s.size) (n : Int) (hn : (s.size : Int) - (all : Int) < n) :
    Calls Try.prog 12 #[.pointer (some ⟨t, 0, none⟩), .int .i64 n] w fun e w' => e = .returned (.tuple #[.string ⟨#[]⟩, .int .i64 10]) ∧ IsTape w' t r g (restOf s.data.toList true all) all ∧ Only [r, g] w w' :=
  draw_dry h n (by rw [restOf_len]; simp; omega)

theorem draw_none {t r g : Nat} {s : ByteArray} {all : Nat} {w : World} (h : IsTape w t r g (restOf s.data.toList true all) all) (n : Int) (hn : 0 < n) :
    Calls Try.prog 12 #[.pointer (some ⟨t, 0, none⟩), .int .i64 n] w fun e w' => e = .returned (.tuple #[.string ⟨#[]⟩, .int .i64 10]) ∧ IsTape w' t r g (restOf s.data.toList true all) all ∧ Only [r, g] w w' :=
  draw_dry h n (by rw [restOf_len]; simp; omega)

/-- A round's state. -/
def InOrder (s : ByteArray) (t r g : Nat) (w wr : World) (dry : Bool) (all : Nat) : Prop :=
  all ≤ s.size ∧ IsTape wr t r g (restOf s.data.toList dry all) all ∧ Below w.heap.size w wr ∧ w.heap.size ≤ r ∧ w.heap.size ≤ g

theorem InOrder.next {s : ByteArray} {t r g : Nat} {w wr w' : World} {dry dry' : Bool} {all all' : Nat} (h : InOrder s t r g w wr dry all) (ho : Only [r, g] wr w') (ha : all' ≤ s.size) (ht : IsTape w' t r g (restOf s.data.toList dry' all') all') :
    InOrder s t r g w w' dry' all' := by
  obtain ⟨h1, h2, h3, h4, h5⟩ := h
  refine ⟨ha, ht, h3.trans (ho.below h3.size ?_), h4, h5⟩
  intro k hk
  simp at hk
  rcases hk with rfl | rfl <;> assumption

end Go.Proofs.Ytjinhaallkgagaa
