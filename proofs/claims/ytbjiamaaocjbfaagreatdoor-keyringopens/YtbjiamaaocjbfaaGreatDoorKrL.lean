import Derived.Test.YtbjiamaaocjbfaaGreatDoorKrQ
import Derived.Test.YtbjiamaaocjbfaaGreatDoorKrP
namespace Go.Proofs.YtbjiamaaocjbfaaGreatDoor.Kr
open Go.RowKit Go.Lib

/-- a ring's text, its master key, the passphrase for which each slot was made -/
structure Inv (t master : List UInt8) (ph : List (List UInt8)) : Prop where
  ok : parseE t = 0
  m : master.length = 32
  n : (parseS t).length = ph.length
  p : ∀ q ∈ ph, passK q = true
  o : ∀ (i : Nat) s q, (parseS t)[i]? = some s → ph[i]? = some q → atE (parseI t) q s = 0 ∧ atY (parseI t) q s = str master
theorem Inv.right {t master : List UInt8} {ph : List (List UInt8)} (h : Inv t master ph) : rightR (parseI t) (parseS t) = true := (print_parse h.ok).2
theorem Inv.id {t master : List UInt8} {ph : List (List UInt8)} (h : Inv t master ph) : (parseI t).length = 16 := (right_sizes h.right).1
/-- what Unlock finds under a passphrase of the ring's -/
theorem Inv.opens {t master : List UInt8} {ph : List (List UInt8)} (h : Inv t master ph) {i : Nat} {q : List UInt8} (hq : ph[i]? = some q) :
    ∃ m n, opensK (parseI t) q (parseS t) = some (m, n) ∧ n ≤ i ∧ n < ph.length ∧ (ph[n]? = some q → m = master) := by
  have hi : i < ph.length := (List.getElem?_eq_some_iff.1 hq).1
  obtain ⟨s, hs⟩ : ∃ s, (parseS t)[i]? = some s := ⟨_, List.getElem?_eq_getElem (by have := h.n; omega)⟩
  have ho := (h.o i s q hs hq).1
  obtain ⟨m, n, hmn⟩ := opensK_of (List.mem_of_getElem? hs) ho
  obtain ⟨s', h1, h2, h3, h4⟩ := opensK_some hmn
  have hni : n ≤ i := by
    apply Nat.le_of_not_lt
    intro hlt
    exact h4 i s hlt hs ho
  refine ⟨m, n, hmn, hni, by omega, fun hn => ?_⟩
  rw [h3, (h.o n s' q h1 hn).2, str_data]
theorem inv_of {id : List UInt8} {ss : List Slot} {master : List UInt8} {ph : List (List UInt8)} (hr : rightR id ss = true) (hm : master.length = 32) (hn : ss.length = ph.length) (hp : ∀ q ∈ ph, passK q = true)
    (ho : ∀ (i : Nat) s q, ss[i]? = some s → ph[i]? = some q → atE id q s = 0 ∧ atY id q s = str master) : Inv (printL id ss) master ph := by
  obtain ⟨a, b, c⟩ := parse_print hr
  exact ⟨a, hm, by rw [c]; exact hn, hp, fun i s q hs hq => by rw [c] at hs; rw [b]; exact ho i s q hs hq⟩
theorem inv_make {master p coins : List UInt8} (h1 : master.length = 32) (h2 : passK p = true) (h4 : coins.length = 56) : makeE master p 1 coins = 0 ∧ Inv (makeY master p 1 coins) master [p] := by
  obtain ⟨a, b, c⟩ := make_yes (rounds := 1) h1 h2 rfl h4
  refine ⟨a, ?_⟩
  rw [b]
  refine inv_of c h1 rfl (by simpa using h2) (fun i s q hs hq => ?_)
  cases i with
  | zero =>
    obtain rfl : _ = s := Option.some.inj hs
    obtain rfl : p = q := Option.some.inj hq
    exact made_opens (by rw [List.length_drop]; omega) (by omega) (by rw [List.length_take]; omega)
  | succ i => simp [makeS] at hs
section
variable {t master q next coins : List UInt8} {ph : List (List UInt8)} {rounds : Int} {n : Nat}
theorem may_ok (h : Inv t master ph) (hq : passK q = true) (ho : opensK (parseI t) q (parseS t) = some (master, n)) (hp : passK next = true) (hr : roundsK rounds = true) (hc : coins.length = 40) : mayE t q next rounds coins = 0 ∧ slotN t q next rounds coins = madeK (parseI t) master next rounds coins := by
  constructor
  · unfold mayE
    rw [if_neg (by rw [h.ok]; decide), if_neg (by rw [hq, hp]; decide), if_neg (by rw [hr]; decide), if_neg (by omega), if_neg (by rw [ho]; simp)]
  · unfold slotN
    rw [ho]
    rfl
theorem inv_add (h : Inv t master ph) (hq : passK q = true) (ho : opensK (parseI t) q (parseS t) = some (master, n)) (hp : passK next = true) (hr : roundsK rounds = true) (hc : coins.length = 40) (h8 : ph.length < 8) :
    addE t q next rounds coins = 0 ∧ Inv (addY t q next rounds coins) master (ph ++ [next]) ∧ parseI (addY t q next rounds coins) = parseI t ∧ ∃ s, parseS (addY t q next rounds coins) = parseS t ++ [s] := by
  obtain ⟨a, b⟩ := may_ok h hq ho hp hr hc
  have hlen := h.n
  have e : addE t q next rounds coins = 0 := by
    unfold addE
    rw [if_neg (by rw [a]; decide), if_neg (by omega)]
  obtain ⟨r1, r2, r3, r4⟩ := right_sizes h.right
  have hall := (Bool.and_eq_true _ _ ▸ h.right : _ ∧ _).2
  have hright : rightR (parseI t) (parseS t ++ [madeK (parseI t) master next rounds coins]) = true := right_mk r1 (by simp) (by simp; omega) (fun s hs => by
    rcases List.mem_append.1 hs with hs | hs
    · exact List.all_eq_true.1 hall s hs
    · obtain rfl : s = _ := by simpa using hs
      exact made_ok hc h.m hr)
  have hy : addY t q next rounds coins = printL (parseI t) (parseS t ++ [madeK (parseI t) master next rounds coins]) := by
    unfold addY
    rw [if_pos e, b, (printY_of hright).1]
  obtain ⟨c1, c2, c3⟩ := parse_print hright
  rw [hy]
  refine ⟨e, inv_of hright h.m (by simp; exact hlen) (fun x hx => ?_) (fun i s x hs hx => ?_), c2, ⟨_, c3⟩⟩
  · rcases List.mem_append.1 hx with hx | hx
    · exact h.p x hx
    · obtain rfl : x = next := by simpa using hx
      exact hp
  · by_cases hi : i < ph.length
    · rw [List.getElem?_append_left (by omega)] at hs hx
      exact h.o i s x hs hx
    · rw [List.getElem?_append_right (by omega)] at hs hx
      have hi0 : i = ph.length := by have := (List.getElem?_eq_some_iff.1 hx).1; simp at this; omega
      rw [hlen, hi0, Nat.sub_self] at hs
      rw [hi0, Nat.sub_self] at hx
      obtain rfl : _ = s := Option.some.inj hs
      obtain rfl : next = x := Option.some.inj hx
      exact made_opens hc (by have := h.m; omega) (by omega)
end

end Go.Proofs.YtbjiamaaocjbfaaGreatDoor.Kr
