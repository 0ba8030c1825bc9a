import Derived.Test.YtcochbcaillldaaGreatDoorScY
namespace Go.Proofs.YtcochbcaillldaaGreatDoor.Sc
open Go.RowKit Go.Lib Go.Deep

theorem ln_cells {lg : Bool} {b : Nat} {l : List UInt8} {w : World} (h : Ln lg b l w) : ∃ p v, w.heap[b]? = some (.cells #[p, v, .bool lg] 125 (0, 0)) := by
  obtain ⟨v, p, h⟩ := h.there
  exact ⟨p, v, h⟩
/-- a line that became too long -/
theorem ln_long {lg : Bool} {b : Nat} {l : List UInt8} {w : World} (h : Ln lg b l w) : Ln true b l (w.setCell ⟨b, 2, none⟩ (.bool true)) := by
  have key : ∀ p, BuAt 125 [.bool lg] b b p l w → BuAt 125 [.bool true] b b p l (w.setCell ⟨b, 2, none⟩ (.bool true)) := fun p h => by
    obtain ⟨hB, v, hb, hown, hne, hn0⟩ := h
    refine ⟨hB, v, ?_, ?_, hne, hn0⟩
    · simp [World.setCell, Array.getElem?_modify, hb]
    · exact hown.kept (row := some b) ⟨rfl, rfl, rfl, by simp [World.setCell], fun k _ hk => Below.heap_setCell _ _ _ _ (fun e => hk (by simp [e]))⟩ (Or.inr hne)
  exact h.elim (fun x => .inl (key _ x)) (fun x => .inr (key _ x))

set_option maxRecDepth 20000 in
set_option maxHeartbeats 1000000 in
theorem blen_any {T : TypeId} {rest : List Value} (B b : Nat) (l : List UInt8) (w : World) (h : Bu T rest B b l w) :
    Calls Tryz.prog 97 #[.pointer (some ⟨b, 0, none⟩)] w fun e w' => e = .returned (.int .i64 l.length) ∧ w' = w := by
  obtain ⟨p, hB, v, hbk, hown, hne, hn0⟩ := h.at
  clear h
  obtain ⟨ao, cap, rfl⟩ : ∃ ao cap, v = .slice ao l.length cap := by
    rcases hown.2 with ⟨hv, h0⟩ | ⟨g, cap, cur, hv, _⟩
    · exact ⟨none, 0, by rw [hv, h0]⟩
    · exact ⟨_, _, hv⟩
  have c1 : w.cell? ⟨b, 1, none⟩ = some (.slice ao l.length cap) := by rw [Lib.cell_of_heap hbk]; simp
  clear hn0 hown hbk
  go_enter Tryz.func97, Tryz.ntmps97
  go_wp2
  go_ret
  exact ⟨rfl, rfl⟩

/-- a line's state behind a byte word: unless its text is too long by itself -/
def stB (x : Bool × List UInt8) (s : ByteArray) : Bool × List UInt8 := if 262144 < s.size then (true, x.2) else (x.1, x.2 ++ 32 :: byL s)
abbrev LnS (x : Bool × List UInt8) (b : Nat) (w : World) : Prop := Ln x.1 b x.2 w


set_option maxRecDepth 20000 in
set_option maxHeartbeats 1000000 in
theorem lbytes_any (lg : Bool) (b : Nat) (l : List UInt8) (s : ByteArray) (w : World) (h : Ln lg b l w) (hs : s.size ≤ 8388608) (hl : l.length ≤ 1099511627776) :
    Calls Tryz.prog 102 #[.pointer (some ⟨b, 0, none⟩), .string s] w fun e w' => e = .returned (.tuple #[]) ∧ (LnS (stB (lg, l) s) b w' ∧ Below b w w') ∧ Oth b w w' := by
  obtain ⟨p, v, hcl⟩ := ln_cells h
  have c2 : w.cell? ⟨b, 2, none⟩ = some (.bool lg) := by rw [Lib.cell_of_heap hcl]; rfl
  have f2 : w.frozen? ⟨b, 2, none⟩ = false := Lib.frozen_of_heap hcl 2
  have hW : Calls Tryz.prog 108 #[.pointer (some ⟨b, 0, none⟩), .string s, .func (.func 133) #[] #[]] w fun e w' => e = .returned (.tuple #[]) ∧ (LnS (stB (lg, l) s) b w' ∧ Below b w w') ∧ Oth b w w' := by
    by_cases hb : 262144 < s.size
    · have hbI : (262144 : Int) < (s.size : Int) := by omega
      have HL : Hid (Ln true b l (w.setCell ⟨b, 2, none⟩ (.bool true))) := ln_long h
      rw [show stB (lg, l) s = (true, l) from if_pos hb]
      clear h hcl
      go_enter Tryz.func108, Tryz.ntmps108
      go_wp2
      refine bodyPost_ret (results_none rfl _ _ _) rfl ?_
      exact ⟨rfl, ⟨HL.out, (Below.refl b w).setCell (p := ⟨b, 2, none⟩) (Nat.le_refl _) _⟩, fun k o hk _ h0 => (Below.heap_setCell _ _ _ _ hk).trans h0⟩
    · have hbI : ¬ (262144 : Int) < (s.size : Int) := by omega
      rw [show stB (lg, l) s = (lg, l ++ 32 :: byL s) from if_neg hb]
      have h1 := byteWord_any s (by omega) w
      have hyl := byL_len s
      go_enter Tryz.func108, Tryz.ntmps108
      go_wp2_with (go_at_call 133; refine h1.mono ?_; rintro e w1 ⟨rfl, hb1⟩; clear h1)
      have h2 := word_any lg b l (str (byL s)) w1 (h.below hb1) (by rw [str_size]; omega)
      rw [str_data] at h2
      go_wp2_with (go_at_call 67; refine h2.mono ?_; rintro e w2 ⟨rfl, ⟨hu2, hb2⟩, ho2⟩; clear h2)
      go_wp2
      go_end0
      exact ⟨rfl, ⟨hu2, (hb1.mono (Nat.le_of_lt h.lt)).trans hb2⟩, (Oth.below hb1).trans ho2⟩
  clear c2 f2 hcl
  go_enter Tryz.func102, Tryz.ntmps102
  go_wp2_with (go_at_call 108; refine hW.mono ?_; rintro e w1 ⟨rfl, hx, ho⟩; clear hW)
  go_end0
  exact ⟨rfl, hx, ho⟩

set_option maxRecDepth 20000 in
set_option maxHeartbeats 1000000 in
/-- a line that is done -/
theorem done_any (lg : Bool) (b : Nat) (l : List UInt8) (w : World) (h : Ln lg b l w) (hl : l.length ≤ 1099511627776) :
    Calls Tryz.prog 53 #[.pointer (some ⟨b, 0, none⟩)] w fun e w' => e = .returned (if lg = true ∨ 262144 < l.length then .tuple #[.string { data := #[] }, .int .i64 221] else .tuple #[.string (str l), .int .i64 0]) ∧ Below b w w' := by
  obtain ⟨p, v, hcl⟩ := ln_cells h
  have c2 : w.cell? ⟨b, 2, none⟩ = some (.bool lg) := by rw [Lib.cell_of_heap hcl]; rfl
  have h1 := blen_any b b l w h
  have h2 := bstring_any b b l w h
  obtain ⟨n, hn⟩ : ∃ n, l.length = n := ⟨_, rfl⟩
  rw [hn] at h1 hl
  cases lg with
  | true =>
    rw [if_pos (.inl rfl)]
    clear h2 h1 hn
    go_enter Tryz.func53, Tryz.ntmps53
    go_wp2
    go_ret2
    exact ⟨rfl, Below.refl _ _⟩
  | false =>
    by_cases hb : 262144 < n
    · have hbI : (262144 : Int) < (n : Int) := by omega
      rw [if_pos (.inr (by omega))]
      clear h2 hn
      go_enter Tryz.func53, Tryz.ntmps53
      go_wp2_with (go_at_call 97; refine h1.mono ?_; rintro e w1 ⟨rfl, rfl⟩; clear h1)
      go_ret2
      exact ⟨rfl, Below.refl _ _⟩
    · have hbI : ¬ (262144 : Int) < (n : Int) := by omega
      rw [if_neg (by rintro (h | h); cases h; omega)]
      clear hn
      go_enter Tryz.func53, Tryz.ntmps53
      go_wp2_with (first | (go_at_call 62; refine h2'.mono ?_; rintro e w2 ⟨rfl, hb2⟩; clear h2') | (go_at_call 97; refine h1.mono ?_; rintro e w1 ⟨rfl, rfl⟩; clear h1; have h2' := h2))
      go_ret2
      exact ⟨rfl, hb2⟩
end Go.Proofs.YtcochbcaillldaaGreatDoor.Sc
