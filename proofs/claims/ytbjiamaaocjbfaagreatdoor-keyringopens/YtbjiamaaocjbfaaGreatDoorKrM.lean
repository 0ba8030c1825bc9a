import Derived.Test.YtbjiamaaocjbfaaGreatDoorKrL
namespace Go.Proofs.YtbjiamaaocjbfaaGreatDoor.Kr
open Go.RowKit Go.Lib

section
variable {t master q next coins : List UInt8} {ph : List (List UInt8)} {rounds : Int} {n : Nat}
theorem inv_change (h : Inv t master ph) (hq : passK q = true) (ho : opensK (parseI t) q (parseS t) = some (master, n)) (hp : passK next = true) (hr : roundsK rounds = true) (hc : coins.length = 40) :
    mayE t q next rounds coins = 0 ∧ Inv (changeY t q next rounds coins) master (ph.set n next) ∧ parseI (changeY t q next rounds coins) = parseI t ∧ ∃ s, parseS (changeY t q next rounds coins) = (parseS t).set n s := by
  obtain ⟨a, b⟩ := may_ok h hq ho hp hr hc
  have hlen := h.n
  obtain ⟨r1, r2, r3, r4⟩ := right_sizes h.right
  have hall := (Bool.and_eq_true _ _ ▸ h.right : _ ∧ _).2
  have hright : rightR (parseI t) ((parseS t).set n (madeK (parseI t) master next rounds coins)) = true := right_mk r1 (by rw [List.length_set]; omega) (by rw [List.length_set]; omega) (fun s hs => by
    rcases List.mem_or_eq_of_mem_set hs with hs | rfl
    · exact List.all_eq_true.1 hall s hs
    · exact made_ok hc h.m hr)
  have hy : changeY t q next rounds coins = printL (parseI t) ((parseS t).set n (madeK (parseI t) master next rounds coins)) := by
    unfold changeY
    rw [if_pos a, b, ho]
    exact (printY_of hright).1
  obtain ⟨c1, c2, c3⟩ := parse_print hright
  rw [hy]
  refine ⟨a, inv_of hright h.m (by rw [List.length_set, List.length_set]; exact hlen) (fun x hx => ?_) (fun i s x hs hx => ?_), c2, ⟨_, c3⟩⟩
  · rcases List.mem_or_eq_of_mem_set hx with hx | rfl
    · exact h.p x hx
    · exact hp
  · by_cases hi : i = n
    · subst hi
      have h1 := (List.getElem?_eq_some_iff.1 hs).1
      have h2 := (List.getElem?_eq_some_iff.1 hx).1
      rw [List.length_set] at h1 h2
      rw [List.getElem?_set_self h1] at hs
      rw [List.getElem?_set_self h2] at hx
      obtain rfl : _ = s := Option.some.inj hs
      obtain rfl : next = x := Option.some.inj hx
      exact made_opens hc (by have := h.m; omega) (by omega)
    · rw [List.getElem?_set_ne (Ne.symm hi)] at hs hx
      exact h.o i s x hs hx
theorem inv_drop (h : Inv t master ph) (hq : passK q = true) (ho : opensK (parseI t) q (parseS t) = some (master, n)) (d : Nat) (hd : d < ph.length) (h1 : ph.length ≠ 1) :
    dropE t q (d : Int) = 0 ∧ Inv (dropY t q (d : Int)) master (ph.eraseIdx d) ∧ parseI (dropY t q (d : Int)) = parseI t ∧ parseS (dropY t q (d : Int)) = (parseS t).eraseIdx d := by
  have hlen := h.n
  have hu : unlockE t q = 0 := by
    unfold unlockE
    rw [if_neg (by rw [h.ok]; decide), if_neg (by rw [hq]; decide), if_neg (by rw [ho]; simp)]
  have e : dropE t q (d : Int) = 0 := by
    unfold dropE
    rw [if_neg (by rw [hu]; decide), if_neg (by omega), if_neg (by omega)]
  obtain ⟨r1, r2, r3, r4⟩ := right_sizes h.right
  have hall := (Bool.and_eq_true _ _ ▸ h.right : _ ∧ _).2
  have hl2 : ((parseS t).eraseIdx d).length = (parseS t).length - 1 := List.length_eraseIdx_of_lt (by omega)
  have hright : rightR (parseI t) ((parseS t).eraseIdx d) = true := right_mk r1 (by omega) (by omega) (fun s hs => List.all_eq_true.1 hall s (List.mem_of_mem_eraseIdx hs))
  have hy : dropY t q (d : Int) = printL (parseI t) ((parseS t).eraseIdx d) := by
    unfold dropY
    rw [if_pos e, Int.toNat_natCast]
    exact (printY_of hright).1
  obtain ⟨c1, c2, c3⟩ := parse_print hright
  rw [hy]
  refine ⟨e, inv_of hright h.m (by rw [hl2, List.length_eraseIdx_of_lt hd, hlen]) (fun x hx => h.p x (List.mem_of_mem_eraseIdx hx)) (fun i s x hs hx => ?_), c2, c3⟩
  rw [List.getElem?_eraseIdx] at hs hx
  split at hs
  · next hi =>
    rw [if_pos hi] at hx
    exact h.o i s x hs hx
  · next hi =>
    rw [if_neg hi] at hx
    exact h.o (i + 1) s x hs hx
theorem add_full (h : Inv t master ph) (hq : passK q = true) (ho : opensK (parseI t) q (parseS t) = some (master, n)) (hp : passK next = true) (hr : roundsK rounds = true) (hc : coins.length = 40) (h8 : ph.length = 8) :
    addE t q next rounds coins = 74 ∧ addY t q next rounds coins = [] := by
  obtain ⟨a, _⟩ := may_ok h hq ho hp hr hc
  have hlen := h.n
  have e : addE t q next rounds coins = 74 := by
    unfold addE
    rw [if_neg (by rw [a]; decide), if_pos (by omega)]
  refine ⟨e, ?_⟩
  unfold addY
  rw [if_neg (by rw [e]; decide)]
theorem drop_one (h : Inv t master ph) (hq : passK q = true) (ho : opensK (parseI t) q (parseS t) = some (master, n)) (h1 : ph.length = 1) : dropE t q 0 = 75 ∧ dropY t q 0 = [] := by
  have hlen := h.n
  have hu : unlockE t q = 0 := by
    unfold unlockE
    rw [if_neg (by rw [h.ok]; decide), if_neg (by rw [hq]; decide), if_neg (by rw [ho]; simp)]
  have e : dropE t q 0 = 75 := by
    unfold dropE
    rw [if_neg (by rw [hu]; decide), if_neg (by omega), if_pos (by omega)]
  refine ⟨e, ?_⟩
  unfold dropY
  rw [if_neg (by rw [e]; decide)]
end

end Go.Proofs.YtbjiamaaocjbfaaGreatDoor.Kr
