import Derived.Test.YtpjigcccjiidpaaExHa
import Derived.Test.YtpjigcccjiidpaaExFb
namespace Go.Proofs.Ytpjigcccjiidpaa.Ex
open Go.RowKit Go.Lib Go.Deep

theorem See.take {w : World} {a : Option Addr} {n c : Nat} {E : List Ef} (h : See w 7 (.slice a n c) n (efsC E)) (hl : E.length = n) {k : Nat} (hk : k ≤ n) : See w 7 (.slice a k c) k (efsC (E.take k)) := by
  obtain ⟨h0, h5, a', c', h1, h2, h3, h4⟩ := h
  injection h1 with e1 _ e2
  subst e1 e2
  refine ⟨?_, efs_one _, a, c, rfl, by omega, h3, fun hn => ?_⟩
  · show (List.flatMap efC _).length = _
    rw [flat_len efC 7 efC_len, List.length_take, hl, Nat.min_eq_left hk]
  · obtain ⟨b, off, e, hlt, hc⟩ := h4 (by omega)
    refine ⟨b, off, e, hlt, fun j u hu => hc j u ?_⟩
    have hsp : efsC E = efsC (E.take k) ++ efsC (E.drop k) := by
      unfold efsC
      rw [← List.flatMap_append, List.take_append_drop]
    rw [hsp, List.getElem?_append_left (some_lt hu)]
    exact hu
theorem See.drop {w : World} {b off n c : Nat} {E : List Ef} (h : See w 7 (.slice (some ⟨b, off, none⟩) n c) n (efsC E)) (hl : E.length = n) {k : Nat} (hk : k ≤ n) : See w 7 (.slice (some ⟨b, off + k * 7, none⟩) (n - k) (c - k)) (n - k) (efsC (E.drop k)) := by
  obtain ⟨h0, h5, a', c', h1, h2, h3, h4⟩ := h
  injection h1 with e1 _ e2
  subst e1 e2
  refine ⟨?_, efs_one _, _, c - k, rfl, by omega, fun e => (by cases e), fun hn => ?_⟩
  · show (List.flatMap efC _).length = _
    rw [flat_len efC 7 efC_len, List.length_drop, hl]
  · obtain ⟨b', off', e, hlt, hc⟩ := h4 (by omega)
    injection e with e
    injection e with e1 e2
    subst e1 e2
    refine ⟨b, off + k * 7, rfl, hlt, fun j u hu => ?_⟩
    have hsp : efsC E = efsC (E.take k) ++ efsC (E.drop k) := by
      unfold efsC
      rw [← List.flatMap_append, List.take_append_drop]
    have hlen : (efsC (E.take k)).length = k * 7 := by
      show (List.flatMap efC _).length = _
      rw [flat_len efC 7 efC_len, List.length_take, hl, Nat.min_eq_left hk]
    have := hc (k * 7 + j) u (by rw [hsp, List.getElem?_append_right (by omega), hlen, Nat.add_sub_cancel_left]; exact hu)
    rw [← Nat.add_assoc] at this
    exact this
theorem see_zero (w : World) (a : Option Addr) (c : Nat) (h : a = none → c = 0) : See w 7 (.slice a 0 c) 0 (efsC []) := ⟨rfl, fun u hu => (by cases hu), a, c, rfl, Nat.zero_le _, h, fun h => absurd h (by decide)⟩
/-- what a call of ExecSplits leaves -/
def SpE (o g c : Nat) (t : List UInt8) (X : World) : Prop := X.cell? ⟨o, 1, none⟩ = some (.slice (some ⟨g, 0, none⟩) 2 c) ∧ X.cell? ⟨g, 0, none⟩ = some (.string (str t)) ∧ X.cell? ⟨g, 1, none⟩ = some (.string { data := #[] }) ∧ Hid (See X 1 (.slice (some ⟨g, 0, none⟩) 2 c) 2 (scC ([t, []].map str)))
/-- the steps of a call, and Apply behind them -/
theorem split_steps (V : World) (b1 : Nat) (h1 : V.heap[b1]? = some (.cells #[.int .i64 0, .int .i64 1, .int .i64 1, .int .i64 0, .int .i64 0, .int .i64 (-1), .int .i64 (-1), .int .i64 0] 35 (0, 0))) (s : List UInt8) (hs : s.length ≤ 300) (A : List Ed) (a : Option Addr) (n c : Nat) (hE : See V 7 (.slice a n c) n (efsC (edsE 1 s.length A))) (hn : A.length = n) (hn6 : n ≤ 60) :
    Calls Try.prog 10 #[.slice a n c] V fun e w3 => ∃ a3 c3, e = .returned (.slice a3 n c3) ∧ Below V.heap.size V w3 ∧ Hid (∀ (X : World) (av : Option Addr) (cv : Nat), Below w3.heap.size w3 X → See X 1 (.slice av 2 cv) 2 (scC ([s, []].map str)) → Calls Try.prog 9 #[.agg #[.slice (some ⟨b1, 0, none⟩) 2 2, .slice a3 n c3], .slice av 2 cv] X fun e w4 => ∃ q g c, e = .returned (.tuple #[.agg #[.slice (some ⟨q, 0, none⟩) n n, .slice (some ⟨g, 0, none⟩) 2 c], .int .i64 0]) ∧ Below X.heap.size X w4 ∧ Hid (w4.ownsRow X.heap.size 9 1 (.slice (some ⟨g, 0, none⟩) 2 c) 2 (scC ([runs s (edsE 1 s.length A), []].map str)))) := by
  refine (steps_any V a n c (edsE 1 s.length A) hE (by rw [edsE_len]; exact hn) (by omega)).mono ?_
  rintro e w3 ⟨a3, c3, rfl, hown, hb3⟩
  refine ⟨a3, c3, rfl, hb3, fun X av cv hX hS => ?_⟩
  have hVX := hb3.trans (hX.mono hb3.size)
  refine (apply_split ((hVX.block _ (heap_lt h1)).trans h1) (see_own (owns_below hown hX) (sts_one _)) hn hn6 hS hs).mono ?_
  rintro e w4 ⟨q, g, c', rfl, hb4, ho⟩
  exact ⟨q, g, c', rfl, hb4, ho⟩
theorem sp_cells {w4 X : World} {B g c : Nat} {t : List UInt8} (h : w4.ownsRow B 9 1 (.slice (some ⟨g, 0, none⟩) 2 c) 2 (scC ([t, []].map str))) (hX : Below w4.heap.size w4 X) : X.cell? ⟨g, 0, none⟩ = some (.string (str t)) ∧ X.cell? ⟨g, 1, none⟩ = some (.string { data := #[] }) ∧ See X 1 (.slice (some ⟨g, 0, none⟩) 2 c) 2 (scC ([t, []].map str)) := by
  have h' := owns_below h hX
  exact ⟨(owns_cell h' (j := 0) rfl).1, (owns_cell h' (j := 1) (u := .string { data := #[] }) rfl).1, see_own h' (sc_one _)⟩
/-- a call whose contents are laid anew -/
theorem split_call (V : World) (b1 : Nat) (h1 : V.heap[b1]? = some (.cells #[.int .i64 0, .int .i64 1, .int .i64 1, .int .i64 0, .int .i64 0, .int .i64 (-1), .int .i64 (-1), .int .i64 0] 35 (0, 0))) (s : List UInt8) (hs : s.length ≤ 300) (A : List Ed) (a : Option Addr) (n c : Nat) (hE : See V 7 (.slice a n c) n (efsC (edsE 1 s.length A))) (hn : A.length = n) (hn6 : n ≤ 60) :
    Calls Try.prog 10 #[.slice a n c] V fun e w3 => ∃ a3 c3, e = .returned (.slice a3 n c3) ∧ ∃ W2, w3.alloc (.cells #[.string (str s), .string { data := #[] }] 9) = W2 ∧ Calls Try.prog 9 #[.agg #[.slice (some ⟨b1, 0, none⟩) 2 2, .slice a3 n c3], .slice (some ⟨w3.heap.size, 0, none⟩) 2 2] W2 fun e w4 => ∃ q g c, e = .returned (.tuple #[.agg #[.slice (some ⟨q, 0, none⟩) n n, .slice (some ⟨g, 0, none⟩) 2 c], .int .i64 0]) ∧ ∃ U, w4.alloc (.cells #[.slice (some ⟨q, 0, none⟩) n n, .slice (some ⟨g, 0, none⟩) 2 c] 30) = U ∧ Hid (Below V.heap.size V U) ∧ Hid (∀ X, Below U.heap.size U X → SpE w4.heap.size g c (runs s (edsE 1 s.length A)) X) := by
  refine (split_steps V b1 h1 s hs A a n c hE hn hn6).mono ?_
  rintro e w3 ⟨a3, c3, rfl, hb3, HA⟩
  obtain ⟨W2, hW2, hb2, k2⟩ := one_new w3 #[.string (str s), .string { data := #[] }] 9
  refine ⟨a3, c3, rfl, W2, hW2, (HA.out W2 (some ⟨w3.heap.size, 0, none⟩) 2 hb2 (see_blk k2 rfl (sc_one ([s, []].map str)))).mono ?_⟩
  rintro e w4 ⟨q, g, c', rfl, hb4, HO⟩
  obtain ⟨U, hU, hbU, kU⟩ := one_new w4 #[.slice (some ⟨q, 0, none⟩) n n, .slice (some ⟨g, 0, none⟩) 2 c'] 30
  have hV2 := hb3.trans (hb2.mono hb3.size)
  have hV4 := hV2.trans (hb4.mono hV2.size)
  refine ⟨q, g, c', rfl, U, hU, hV4.trans (hbU.mono hV4.size), fun X hX => ?_⟩
  obtain ⟨y0, y1, y2⟩ := sp_cells HO.out (hbU.trans (hX.mono hbU.size))
  exact ⟨(cell_of_heap ((hX.block _ (heap_lt kU)).trans kU)).trans rfl, y0, y1, y2⟩
end Go.Proofs.Ytpjigcccjiidpaa.Ex
