import Derived.Test.YtjinhaallkgagaaSplitA
namespace Go.Proofs.Ytjinhaallkgagaa
open Go.RowKit Go.Lib Go.Deep

/-- Whatever is drawn: some tape is left. -/
theorem draw_some {t r g : Nat} {bs : List UInt8} {d : Nat} {w : World} (h : IsTape w t r g bs d) (n : Int) :
    Calls Try.prog 12 #[.pointer (some ⟨t, 0, none⟩), .int .i64 n] w fun e w' => ∃ (s : ByteArray) (x : Int) (bs' : List UInt8) (d' : Nat), e = .returned (.tuple #[.string s, .int .i64 x]) ∧ IsTape w' t r g bs' d' ∧ Only [r, g] w w' := by
  by_cases h0 : n < 0
  · refine (draw_neg h n h0).mono ?_
    rintro e w' ⟨rfl, rfl⟩
    exact ⟨_, _, _, _, rfl, h, Only.refl _ _⟩
  · by_cases h1 : n ≤ (bs.length : Int)
    · refine (draw_takeI h n (by omega) h1).mono ?_
      rintro e w' ⟨rfl, h2, h3⟩
      exact ⟨_, _, _, _, rfl, h2, h3⟩
    · refine (draw_dry h n (by omega)).mono ?_
      rintro e w' ⟨rfl, h2, h3⟩
      exact ⟨_, _, _, _, rfl, h2, h3⟩

theorem draw_all {t r g : Nat} {s : ByteArray} {w : World} (h : IsTape w t r g s.data.toList 0) :
    Calls Try.prog 12 #[.pointer (some ⟨t, 0, none⟩), .int .i64 (s.size : Int)] w fun e w' => e = .returned (.tuple #[.string s, .int .i64 0]) ∧ IsTape w' t r g [] s.size ∧ Only [r, g] w w' := by
  have hl := size_eq s
  refine (draw_take h s.size (by omega)).mono ?_
  rintro e w' ⟨rfl, h1, h2⟩
  have e1 : List.take s.size s.data.toList = s.data.toList := List.take_of_length_le (by omega)
  have e2 : List.drop s.size s.data.toList = [] := List.drop_eq_nil_of_le (by omega)
  rw [e2, Nat.zero_add] at h1
  refine ⟨?_, h1, h2⟩
  rw [e1]

def Apart (a0 : ByteArray) (w w1 wr : World) : Prop := (∃ bs d, Two wr w.heap.size w1.heap.size bs a0.data.toList d 0) ∧ Below w.heap.size w wr

set_option maxHeartbeats 1000000 in
set_option maxRecDepth 20000 in
theorem apart_tail (a0 : ByteArray) (b off len cap : Nat) (zs : List Int) (w : World) (h : a0.size ≤ 67108864) (hl : len ≤ cap) (hm : cap ≤ maxLen) (hz : zs.length = cap)
    (hcell : ∀ i, i < zs.length → w.cell? ⟨b, off + i, none⟩ = some (.int .i64 (zs.getD i 0))) (hb : b < w.heap.size) :
    Calls Try.prog 6 #[.string a0, .slice (some ⟨b, off, none⟩) len cap] w fun e w' => e = .returned (.bool true) ∧ Below w.heap.size w w' := by
  unfold maxLen at hm
  have h1 : ¬ (67108864 : Int) < (a0.size : Int) := by omega
  have HC : Hid (∀ i, i < zs.length → w.cell? ⟨b, off + i, none⟩ = some (.int .i64 (zs.getD i 0))) := hcell
  clear hcell
  go_enter Try.func6, Try.ntmps6
  go_wp2_with (go_at_call 9; refine (num_any _ _).mono ?_; rintro e w' ⟨rfl, rfl⟩)
  refine (new_tape a0 _ h).mono ?_
  rintro e w1 ⟨rfl, hx, ho1, hz1⟩
  have HZ1 : Hid (w1.heap.size = w.heap.size + 3) := hz1
  clear hz1
  go_wp2_with (go_at_call 9; refine (num_any _ _).mono ?_; rintro e w' ⟨rfl, rfl⟩)
  refine (new_tape a0 _ h).mono ?_
  rintro e w2 ⟨rfl, hy, ho2, hz2⟩
  have HS : Apart a0 w w1 w2 := by
    have e1 := HZ1.out
    exact ⟨⟨_, _, hx.only ho2 (by omega) (by simp) (by simp) (by simp), hy, by omega, by omega⟩, (ho1.below (Nat.le_refl _) (by simp)).trans (ho2.below (by have := HZ1.out; omega) (by simp))⟩
  clear hx hy ho1 ho2 hz2
  go_wp2_with (go_at_call 9; refine (num_any _ _).mono ?_; rintro e w' ⟨rfl, rfl⟩)
  go_loopg [9] len (fun gk si wr => ∃ (k : Nat), k + gk = len ∧ si = .int .i64 k ∧ Apart a0 w w1 wr)
  case atStart => exact ⟨0, by omega, rfl, HS⟩
  case round =>
    clear HS
    obtain ⟨k, hk, rfl, HI⟩ := hrel
    have hk' : k ≤ len := by omega
    have HK : Hid (k + gk = len) := hk
    clear hk
    obtain ⟨⟨bs, d, HT⟩, HB⟩ := HI
    by_cases hlt : k < len
    · have hc : wr.cell? ⟨b, off + k, none⟩ = some (.int .i64 (zs.getD k 0)) := by rw [HB.cell (p := ⟨b, off + k, none⟩) hb]; exact HC.out k (by omega)
      generalize zs.getD k 0 = n at hc
      go_wp2_with (go_at_call 12; refine (draw_some HT.one n).mono ?_; rintro e w'' ⟨s, x, bs', d', rfl, hx, ho⟩)
      go_roundg (gk - 1)
      case measure => have := HK.out; omega
      case rel => exact ⟨k + 1, by have := HK.out; omega, by go_num, ⟨_, _, HT.first hx ho⟩, below_pair HB (Nat.le_refl _) ho (by omega) (by omega)⟩
    · go_wp2_with (go_at_call 9; refine (num_any _ _).mono ?_; rintro e w' ⟨rfl, rfl⟩)
      refine (draw_all HT.two).mono ?_
      rintro e w5 ⟨rfl, hx, ho⟩
      have B5 := below_pair HB (Nat.le_refl _) ho (by have := HT.far; omega) (by have := HT.far; omega)
      clear HT HB ho
      have C1 := hidden (left_is hx 0 rfl)
      have C2 := hidden (drawn_tape hx)
      clear hx
      go_wp2_with (first | (go_at_call 9; refine (num_any _ _).mono ?_; rintro e w' ⟨rfl, rfl⟩) | (go_at_call 10; refine (C1.out).mono ?_; rintro e w' ⟨rfl, rfl⟩) | (go_at_call 11; refine (C2.out).mono ?_; rintro e w' ⟨rfl, rfl⟩))
      go_ret
      exact ⟨rfl, B5⟩

end Go.Proofs.Ytjinhaallkgagaa
