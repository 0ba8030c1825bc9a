import Derived.Test.YtjinhaallkgagaaTapeC
namespace Go.Proofs.Ytjinhaallkgagaa
open Go.RowKit Go.Lib

theorem draw_nil (n : Int) (w : World) : Calls Try.prog 12 #[.pointer none, .int .i64 n] w fun e w' => e = .returned (.tuple #[.string ⟨#[]⟩, .int .i64 2]) ∧ w' = w := by
  go_enter Try.func12, Try.ntmps12
  go_wp2_with (go_at_call 17; refine (made_nil _).mono ?_; rintro e w' ⟨rfl, rfl⟩)
  go_ret2
  exact ⟨rfl, rfl⟩

theorem draw_neg {t r g : Nat} {bs : List UInt8} {d : Nat} {w : World} (h : IsTape w t r g bs d) (n : Int) (hn : n < 0) :
    Calls Try.prog 12 #[.pointer (some ⟨t, 0, none⟩), .int .i64 n] w fun e w' => e = .returned (.tuple #[.string ⟨#[]⟩, .int .i64 1]) ∧ w' = w := by
  go_enter Try.func12, Try.ntmps12
  go_wp2_with (go_at_call 17; refine (made_tape h).mono ?_; rintro e w' ⟨rfl, rfl⟩)
  go_ret2
  exact ⟨rfl, rfl⟩

theorem draw_dry {t r g : Nat} {bs : List UInt8} {d : Nat} {w : World} (h : IsTape w t r g bs d) (n : Int) (hn : (bs.length : Int) < n) :
    Calls Try.prog 12 #[.pointer (some ⟨t, 0, none⟩), .int .i64 n] w fun e w' => e = .returned (.tuple #[.string ⟨#[]⟩, .int .i64 10]) ∧ IsTape w' t r g [] d ∧ Only [r, g] w w' := by
  have h0 := h
  obtain ⟨ht, ⟨ao, hr, hg⟩, hb⟩ := h0
  have hc : w.cell? ⟨t, 0, none⟩ = some (.pointer (some ⟨r, 0, none⟩)) := by rw [cell_of_heap ht]; rfl
  have hc0 : w.cell? ⟨r, 0, none⟩ = some (.slice ao bs.length bs.length) := by rw [cell_of_heap hr]; rfl
  have h1 : ¬ n < 0 := by omega
  clear ht hr hg
  go_enter Try.func12, Try.ntmps12
  go_wp2_with (first | (go_at_call 17; refine (made_tape h).mono ?_; rintro e w' ⟨rfl, rfl⟩) | (go_at_call 18; refine (lose_tape h).mono ?_; rintro e w' ⟨rfl, h2, h3⟩))
  go_ret2
  exact ⟨rfl, h2, h3⟩

theorem draw_take {t r g : Nat} {bs : List UInt8} {d : Nat} {w : World} (h : IsTape w t r g bs d) (n : Nat) (hn : n ≤ bs.length) :
    Calls Try.prog 12 #[.pointer (some ⟨t, 0, none⟩), .int .i64 (n : Int)] w fun e w' => e = .returned (.tuple #[.string ⟨(bs.take n).toArray⟩, .int .i64 0]) ∧ IsTape w' t r g (bs.drop n) (d + n) ∧ Only [r, g] w w' := by
  have h0 := h
  obtain ⟨ht, ⟨ao, hr, hg⟩, hb⟩ := h0
  have hc : w.cell? ⟨t, 0, none⟩ = some (.pointer (some ⟨r, 0, none⟩)) := by rw [cell_of_heap ht]; rfl
  have hc0 : w.cell? ⟨r, 0, none⟩ = some (.slice ao bs.length bs.length) := by rw [cell_of_heap hr]; rfl
  have h1 : ¬ (n : Int) < 0 := by omega
  have h2 : ¬ (bs.length : Int) < (n : Int) := by omega
  clear ht hr hg
  go_enter Try.func12, Try.ntmps12
  go_wp2_with (first | (go_at_call 17; refine (made_tape h).mono ?_; rintro e w' ⟨rfl, rfl⟩) | (go_at_call 19; refine (take_tape h n hn).mono ?_; rintro e w' ⟨rfl, h3, h4⟩))
  go_ret2
  exact ⟨rfl, h3, h4⟩

end Go.Proofs.Ytjinhaallkgagaa
