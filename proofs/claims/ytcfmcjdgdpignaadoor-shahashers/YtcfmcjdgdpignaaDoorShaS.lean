import Derived.Test.YtcfmcjdgdpignaaDoorShaR
namespace Go.Proofs.YtcfmcjdgdpignaaDoor
open Go.RowKit Go.Lib Go.Deep

theorem be4_num (a b c d : UInt8) : be4 (beNum [a, b, c, d]) = [a, b, c, d] := by
  have ha := a.toNat_lt
  have hb := b.toNat_lt
  have hc := c.toNat_lt
  have hd := d.toNat_lt
  simp only [be4, beNum, List.foldl_cons, List.foldl_nil, List.cons.injEq, and_true, ← UInt8.toNat_inj, UInt8.toNat_ofNat']
  refine ⟨?_, ?_, ?_, ?_⟩ <;> omega
theorem be4_back (l : List UInt8) (h : l.length = 4) : be4 (beNum l) = l := by
  match l, h with
  | [a, b, c, d], _ => exact be4_num a b c d
theorem num_be4 (x : Nat) (h : x < 4294967296) : beNum (be4 x) = x := by
  simp only [be4, beNum, List.foldl_cons, List.foldl_nil, UInt8.toNat_ofNat']
  omega
theorem be8_num (a b c d e f g i : UInt8) : be8 (beNum [a, b, c, d, e, f, g, i]) = [a, b, c, d, e, f, g, i] := by
  have ha := a.toNat_lt
  have hb := b.toNat_lt
  have hc := c.toNat_lt
  have hd := d.toNat_lt
  have he := e.toNat_lt
  have hf := f.toNat_lt
  have hg := g.toNat_lt
  have hi := i.toNat_lt
  simp only [be8, beNum, List.foldl_cons, List.foldl_nil, List.cons.injEq, and_true, ← UInt8.toNat_inj, UInt8.toNat_ofNat']
  refine ⟨?_, ?_, ?_, ?_, ?_, ?_, ?_, ?_⟩ <;> omega
theorem be8_back (l : List UInt8) (h : l.length = 8) : be8 (beNum l) = l := by
  match l, h with
  | [a, b, c, d, e, f, g, i], _ => exact be8_num a b c d e f g i
theorem num_be8 (x : Nat) (h : x < 18446744073709551616) : beNum (be8 x) = x := by
  simp only [be8, beNum, List.foldl_cons, List.foldl_nil, UInt8.toNat_ofNat']
  omega

theorem be4s_words (l : List UInt8) : ∀ k, 4 * k ≤ l.length → be4s (wordsL l k) = l.take (4 * k)
  | 0, _ => by simp [wordsL, be4s]
  | k + 1, h => by
    rw [wordsL_succ, be4s_append, be4s_words l k (by omega), wordAt, be4s, be4s, be4_back _ (by rw [List.length_take, List.length_drop]; omega), List.append_nil, show 4 * (k + 1) = 4 * k + 4 by omega, List.take_add]
theorem be4s_drop : ∀ (ws : List Nat) (i : Nat), (be4s ws).drop (4 * i) = be4s (ws.drop i)
  | _, 0 => rfl
  | [], i + 1 => by simp [be4s]
  | x :: r, i + 1 => by
    rw [show 4 * (i + 1) = 4 + 4 * i by omega, ← List.drop_drop, be4s, List.drop_succ_cons, ← be4s_drop r i]
    rfl
theorem words_be4s (ws : List Nat) (hw : ∀ x ∈ ws, x < 4294967296) : ∀ k, k ≤ ws.length → wordsL (be4s ws) k = ws.take k
  | 0, _ => by simp [wordsL]
  | k + 1, h => by
    obtain ⟨x, hx⟩ : ∃ x, ws[k]? = some x := ⟨_, List.getElem?_eq_getElem (by omega)⟩
    have hd : ws.drop k = x :: ws.drop (k + 1) := by
      rw [List.drop_eq_getElem_cons (by omega)]
      congr 1
      rw [List.getElem?_eq_getElem (by omega)] at hx
      exact Option.some.inj hx
    have e : wordAt (be4s ws) k = x := by
      rw [wordAt, be4s_drop, hd, be4s]
      exact num_be4 x (hw x (List.mem_of_getElem? hx))
    rw [wordsL_succ, words_be4s ws hw k (by omega), e, List.take_add_one, hx]
    rfl

/-- a state's bytes -/
def stateL (s : W8) (r : List UInt8) (n : Nat) : List UInt8 := wtext s ++ (be8 n ++ r)
def stWords (l : List UInt8) : List Nat := wordsL (l.take 32) 8
def stCount (l : List UInt8) : Nat := beNum ((l.drop 32).take 8)
def w8 (l : List Nat) : W8 := ⟨l.getD 0 0, l.getD 1 0, l.getD 2 0, l.getD 3 0, l.getD 4 0, l.getD 5 0, l.getD 6 0, l.getD 7 0⟩
theorem w8_list (l : List Nat) (h : l.length = 8) : (w8 l).list = l := by
  match l, h with
  | [a, b, c, d, e, f, g, i], _ => rfl
theorem w8_of (s : W8) : w8 s.list = s := rfl
theorem w8_OK (l : List Nat) (h : l.length = 8) (hw : ∀ x ∈ l, x < 4294967296) : (w8 l).OK := by
  match l, h with
  | [a, b, c, d, e, f, g, i], _ =>
    simp only [List.mem_cons, List.not_mem_nil, or_false, forall_eq_or_imp, forall_eq] at hw
    obtain ⟨h1, h2, h3, h4, h5, h6, h7, h8⟩ := hw
    exact ⟨h1, h2, h3, h4, h5, h6, h7, h8⟩
theorem wordsL_lt (l : List UInt8) (n : Nat) : ∀ x ∈ wordsL l n, x < 4294967296 := by
  intro x h
  obtain ⟨i, _, rfl⟩ := List.mem_map.1 h
  exact wordAt_lt l i
theorem wtext_length (s : W8) : (wtext s).length = 32 := by rw [wtext, be4s_length]; rfl
theorem be8_length (n : Nat) : (be8 n).length = 8 := rfl
theorem stateL_length (s : W8) (r : List UInt8) (n : Nat) : (stateL s r n).length = 40 + r.length := by
  rw [stateL, List.length_append, List.length_append, wtext_length, be8_length]
  omega
theorem stateL_take (s : W8) (r : List UInt8) (n : Nat) : (stateL s r n).take 32 = wtext s := by
  rw [stateL, List.take_append_of_le_length (by rw [wtext_length]; omega), List.take_of_length_le (by rw [wtext_length]; omega)]
theorem stateL_drop (s : W8) (r : List UInt8) (n : Nat) : (stateL s r n).drop 32 = be8 n ++ r := by
  rw [stateL, List.drop_append_of_le_length (by rw [wtext_length]; omega), List.drop_eq_nil_of_le (by rw [wtext_length]; omega)]
  rfl
theorem stateL_rest (s : W8) (r : List UInt8) (n : Nat) : (stateL s r n).drop 40 = r := by
  rw [show 40 = 32 + 8 by omega, ← List.drop_drop, stateL_drop]
  rfl
theorem OK_list (s : W8) (hs : s.OK) : ∀ x ∈ s.list, x < 4294967296 := by
  intro x hx
  simp only [W8.list, List.mem_cons, List.not_mem_nil, or_false] at hx
  obtain ⟨h1, h2, h3, h4, h5, h6, h7, h8⟩ := hs
  rcases hx with rfl | rfl | rfl | rfl | rfl | rfl | rfl | rfl <;> assumption
theorem stWords_state (s : W8) (hs : s.OK) (r : List UInt8) (n : Nat) : stWords (stateL s r n) = s.list := by
  rw [stWords, stateL_take, wtext, words_be4s _ (OK_list s hs) 8 (by exact Nat.le_refl _)]
  rfl
theorem stCount_state (s : W8) (r : List UInt8) (n : Nat) (hn : n < 18446744073709551616) : stCount (stateL s r n) = n := by
  rw [stCount, stateL_drop, List.take_append_of_le_length (by rw [be8_length]; omega), List.take_of_length_le (by rw [be8_length]; omega), num_be8 n hn]

/-- a text that Restore takes up -/
structure Good (l : List UInt8) : Prop where
  len : l.length = 40 + stCount l % 64
  cnt : stCount l ≤ 1099511627776
  few : stCount l < 64 → stWords l = first.list
theorem Good.state {l : List UInt8} (h : Good l) : stateL (w8 (stWords l)) (l.drop 40) (stCount l) = l := by
  have h1 := h.len
  have e1 : wtext (w8 (stWords l)) = l.take 32 := by
    rw [wtext, w8_list _ (by rw [stWords, wordsL_length]), stWords, be4s_words _ 8 (by rw [List.length_take]; omega), List.take_take]
    rfl
  have e2 : be8 (stCount l) = (l.drop 32).take 8 := be8_back _ (by rw [List.length_take, List.length_drop]; omega)
  rw [stateL, e1, e2, show l.drop 40 = (l.drop 32).drop 8 by rw [List.drop_drop], List.take_append_drop, List.take_append_drop]
/-- the state of a running sum that took a text is one -/
theorem good_state (s : W8) (hs : s.OK) (r : List UInt8) (n : Nat) (hn : n ≤ 1099511627776) (hr : r.length = n % 64) (hf : n < 64 → s = first) : Good (stateL s r n) := by
  have e := stCount_state s r n (by omega)
  refine ⟨by rw [e, stateL_length, hr], by rw [e]; exact hn, fun h => ?_⟩
  rw [e] at h
  rw [stWords_state s hs, hf h]
theorem not_good_cut (s : W8) (r : List UInt8) (n : Nat) (hn : n ≤ 1099511627776) (hr : r.length = n % 64) : ¬ Good ((stateL s r n).take (39 + r.length)) := by
  intro h
  have h1 := h.len
  rw [List.length_take, stateL_length] at h1
  have h2 : 1 ≤ r.length := by omega
  have e : stCount ((stateL s r n).take (39 + r.length)) = n := by
    have := stCount_state s r n (by omega)
    rw [stCount, List.drop_take, List.take_take, show min 8 (39 + r.length - 32) = 8 by omega]
    exact this
  rw [e] at h1
  omega
theorem not_good_long (s : W8) (r : List UInt8) (n : Nat) (x : UInt8) (hn : n ≤ 1099511627776) (hr : r.length = n % 64) : ¬ Good (stateL s r n ++ [x]) := by
  intro h
  have h1 := h.len
  have e : stCount (stateL s r n ++ [x]) = n := by
    have := stCount_state s r n (by omega)
    rw [stCount, List.drop_append_of_le_length (by rw [stateL_length]; omega), List.take_append_of_le_length (by rw [List.length_drop, stateL_length]; omega)]
    exact this
  rw [e, List.length_append, stateL_length] at h1
  simp only [List.length_cons, List.length_nil] at h1
  omega

end Go.Proofs.YtcfmcjdgdpignaaDoor
