import Derived.Test.YtbjiamaaocjbfaaGreatDoorKrP
import Derived.Test.YtbjiamaaocjbfaaGreatDoorKdM1
import Derived.Test.YtbjiamaaocjbfaaGreatDoorAeZ
namespace Go.Proofs.YtbjiamaaocjbfaaGreatDoor.Kr
open Go.RowKit Go.Lib

/-- "casket passphrase", "casket ring" -/
def kPhrase : List UInt8 := [99, 97, 115, 107, 101, 116, 32, 112, 97, 115, 115, 112, 104, 114, 97, 115, 101]
def kRing : List UInt8 := [99, 97, 115, 107, 101, 116, 32, 114, 105, 110, 103]
def be4 (n : Nat) : List UInt8 := [UInt8.ofNat (n / 16777216), UInt8.ofNat (n / 65536), UInt8.ofNat (n / 256), UInt8.ofNat n]
/-- a slot's key for a passphrase; its aad -/
def keyK (p : List UInt8) (s : Slot) : List UInt8 := pasL (shaL (kPhrase ++ p)) s.salt (s.rounds.toNat - 1) 32
def aadK (id : List UInt8) (s : Slot) : List UInt8 := kRing ++ id ++ s.salt ++ be4 s.rounds.toNat
/-- what a slot opens to -/
def atE (id p : List UInt8) (s : Slot) : Int := Ae.openE (str (keyK p s)) (str (s.wrapped.take 24)) (str (aadK id s)) (str (s.wrapped.drop 24))
def atY (id p : List UInt8) (s : Slot) : ByteArray := Ae.openY (str (keyK p s)) (str (s.wrapped.take 24)) (str (aadK id s)) (str (s.wrapped.drop 24))
def opensFrom (id p : List UInt8) : List Slot → Nat → Option (List UInt8 × Nat)
  | [], _ => none
  | s :: r, i => if atE id p s = 0 then some ((atY id p s).data.toList, i) else opensFrom id p r (i + 1)
def opensK (id p : List UInt8) (ss : List Slot) : Option (List UInt8 × Nat) := opensFrom id p ss 0
def bareK (rounds : Int) (coins : List UInt8) : Slot := ⟨coins.take 16, rounds, []⟩
def madeK (id master p : List UInt8) (rounds : Int) (coins : List UInt8) : Slot :=
  ⟨coins.take 16, rounds, coins.drop 16 ++ Ae.sealL (keyK p (bareK rounds coins)) (coins.drop 16) (aadK id (bareK rounds coins)) master⟩
def passK (p : List UInt8) : Bool := decide (1 ≤ p.length ∧ p.length ≤ 256)
def roundsK (n : Int) : Bool := decide (1 ≤ n ∧ n ≤ 4096)
/-- what Make answers -/
def makeE (master p : List UInt8) (rounds : Int) (coins : List UInt8) : Int :=
  if master.length ≠ 32 then 40 else if passK p = false then 1 else if roundsK rounds = false then 30 else if coins.length ≠ 56 then 77 else 0
def makeS (master p : List UInt8) (rounds : Int) (coins : List UInt8) : List Slot := [madeK (coins.take 16) master p rounds (coins.drop 16)]
def makeY (master p : List UInt8) (rounds : Int) (coins : List UInt8) : List UInt8 := if makeE master p rounds coins = 0 then printY (coins.take 16) (makeS master p rounds coins) else []
/-- what Unlock answers -/
noncomputable def unlockE (t p : List UInt8) : Int := if parseE t ≠ 0 then parseE t else if passK p = false then 1 else if opensK (parseI t) p (parseS t) = none then 73 else 0
noncomputable def unlockM (t p : List UInt8) : List UInt8 := if unlockE t p = 0 then ((opensK (parseI t) p (parseS t)).getD ([], 0)).1 else []
noncomputable def unlockN (t p : List UInt8) : Nat := if unlockE t p = 0 then ((opensK (parseI t) p (parseS t)).getD ([], 0)).2 else 0
/-- the errors that Add and Change share -/
noncomputable def mayE (t p next : List UInt8) (rounds : Int) (coins : List UInt8) : Int :=
  if parseE t ≠ 0 then parseE t else if passK p = false ∨ passK next = false then 1 else if roundsK rounds = false then 30 else if coins.length ≠ 40 then 77
  else if opensK (parseI t) p (parseS t) = none then 73 else 0
noncomputable def slotN (t p next : List UInt8) (rounds : Int) (coins : List UInt8) : Slot := madeK (parseI t) ((opensK (parseI t) p (parseS t)).getD ([], 0)).1 next rounds coins
noncomputable def addE (t p next : List UInt8) (rounds : Int) (coins : List UInt8) : Int := if mayE t p next rounds coins ≠ 0 then mayE t p next rounds coins else if 8 ≤ (parseS t).length then 74 else 0
noncomputable def addY (t p next : List UInt8) (rounds : Int) (coins : List UInt8) : List UInt8 := if addE t p next rounds coins = 0 then printY (parseI t) (parseS t ++ [slotN t p next rounds coins]) else []
noncomputable def changeY (t p next : List UInt8) (rounds : Int) (coins : List UInt8) : List UInt8 :=
  if mayE t p next rounds coins = 0 then printY (parseI t) ((parseS t).set ((opensK (parseI t) p (parseS t)).getD ([], 0)).2 (slotN t p next rounds coins)) else []
noncomputable def dropE (t p : List UInt8) (n : Int) : Int := if unlockE t p ≠ 0 then unlockE t p else if n < 0 ∨ (parseS t).length ≤ n then 76 else if (parseS t).length = 1 then 75 else 0
noncomputable def dropY (t p : List UInt8) (n : Int) : List UInt8 := if dropE t p n = 0 then printY (parseI t) ((parseS t).eraseIdx n.toNat) else []

end Go.Proofs.YtbjiamaaocjbfaaGreatDoor.Kr

namespace Go.Proofs.YtbjiamaaocjbfaaGreatDoor.Kr
open Go.RowKit Go.Lib

theorem keyK_length (p : List UInt8) (s : Slot) : (keyK p s).length = 32 := by
  unfold keyK
  rw [pasL_length]
theorem be4_length (n : Nat) : (be4 n).length = 4 := rfl
theorem aadK_length (id : List UInt8) (s : Slot) : (aadK id s).length = 15 + id.length + s.salt.length := by
  unfold aadK
  simp [kRing, be4_length]
  omega
section
variable {id master p : List UInt8} {rounds : Int} {coins : List UInt8}
theorem made_wrapped (h : coins.length = 40) : (madeK id master p rounds coins).wrapped.take 24 = coins.drop 16 ∧ (madeK id master p rounds coins).wrapped.drop 24 = Ae.sealL (keyK p (bareK rounds coins)) (coins.drop 16) (aadK id (bareK rounds coins)) master := by
  have hl : (coins.drop 16).length = 24 := by rw [List.length_drop]; omega
  unfold madeK
  exact ⟨by rw [List.take_append_of_le_length (by omega), List.take_of_length_le (by omega)], by rw [List.drop_append_of_le_length (by omega), List.drop_of_length_le (by omega), List.nil_append]⟩
/-- a slot that was made opens -/
theorem made_opens (hc : coins.length = 40) (hm : master.length ≤ 1048576) (hi : id.length ≤ 1000) : atE id p (madeK id master p rounds coins) = 0 ∧ atY id p (madeK id master p rounds coins) = str master := by
  obtain ⟨h1, h2⟩ := made_wrapped (id := id) (master := master) (p := p) (rounds := rounds) hc
  have hk : keyK p (madeK id master p rounds coins) = keyK p (bareK rounds coins) := rfl
  have ha : aadK id (madeK id master p rounds coins) = aadK id (bareK rounds coins) := rfl
  unfold atE atY
  rw [h1, h2, hk, ha]
  have h := Ae.open_seal (key := str (keyK p (bareK rounds coins))) (nonce := str (coins.drop 16)) (aad := str (aadK id (bareK rounds coins))) (plain := str master) (by rw [str_size, keyK_length]) (.inr (by rw [str_size, List.length_drop]; omega)) (by rw [str_size, aadK_length]; simp [bareK]; omega) (by rw [str_size]; exact hm) (str (Ae.sealL (keyK p (bareK rounds coins)) (coins.drop 16) (aadK id (bareK rounds coins)) master)) (by simp only [str_data])
  exact h
theorem made_ok (hc : coins.length = 40) (hm : master.length = 32) (hr : roundsK rounds = true) : slotOK (madeK id master p rounds coins) = true := by
  have h := of_decide_eq_true hr
  unfold slotOK
  apply decide_eq_true
  refine ⟨?_, h.1, h.2, ?_⟩
  · show (coins.take 16).length = 16
    rw [List.length_take]
    omega
  · show (coins.drop 16 ++ Ae.sealL _ _ _ _).length = 72
    rw [List.length_append, Ae.sealL_length, List.length_drop]
    omega
end
/-- what opens first -/
theorem opensFrom_some {id p : List UInt8} : ∀ {ss : List Slot} {i : Nat} {m : List UInt8} {n : Nat}, opensFrom id p ss i = some (m, n) → ∃ k s, n = i + k ∧ ss[k]? = some s ∧ atE id p s = 0 ∧ m = (atY id p s).data.toList ∧ ∀ j x, j < k → ss[j]? = some x → atE id p x ≠ 0
  | [], _, _, _, h => by cases h
  | s :: r, i, m, n, h => by
    unfold opensFrom at h
    by_cases h0 : atE id p s = 0
    · rw [if_pos h0] at h
      have e := Prod.mk.inj (Option.some.inj h)
      exact ⟨0, s, e.2.symm, rfl, h0, e.1.symm, fun j x hj => by omega⟩
    · rw [if_neg h0] at h
      obtain ⟨k, x, h1, h2, h3, h4, h5⟩ := opensFrom_some h
      refine ⟨k + 1, x, by omega, h2, h3, h4, fun j y hj hy => ?_⟩
      cases j with
      | zero => obtain rfl : s = y := Option.some.inj hy; exact h0
      | succ j => exact h5 j y (by omega) hy
theorem opensFrom_none {id p : List UInt8} : ∀ {ss : List Slot} {i : Nat}, opensFrom id p ss i = none → ∀ s ∈ ss, atE id p s ≠ 0
  | [], _, _, s, hs => by cases hs
  | x :: r, i, h, s, hs => by
    unfold opensFrom at h
    by_cases h0 : atE id p x = 0
    · rw [if_pos h0] at h; cases h
    · rw [if_neg h0] at h
      rcases List.mem_cons.1 hs with rfl | hs
      · exact h0
      · exact opensFrom_none h s hs
theorem opensK_some {id p : List UInt8} {ss : List Slot} {m : List UInt8} {n : Nat} (h : opensK id p ss = some (m, n)) : ∃ s, ss[n]? = some s ∧ atE id p s = 0 ∧ m = (atY id p s).data.toList ∧ ∀ j x, j < n → ss[j]? = some x → atE id p x ≠ 0 := by
  obtain ⟨k, s, h1, h2, h3, h4, h5⟩ := opensFrom_some h
  obtain rfl : n = k := by omega
  exact ⟨s, h2, h3, h4, h5⟩
/-- if a slot opens, the ring does, to the first -/
theorem opensK_of {id p : List UInt8} {ss : List Slot} {s : Slot} (hs : s ∈ ss) (h : atE id p s = 0) : ∃ m n, opensK id p ss = some (m, n) := by
  cases e : opensK id p ss with
  | none => exact absurd h (opensFrom_none e s hs)
  | some x => exact ⟨x.1, x.2, rfl⟩
theorem printY_of {id : List UInt8} {ss : List Slot} (h : rightR id ss = true) : printY id ss = printL id ss ∧ printE id ss = 0 := by
  unfold printY printE
  rw [if_pos h, if_pos h]
  exact ⟨rfl, rfl⟩
theorem right_mk {id : List UInt8} {ss : List Slot} (h1 : id.length = 16) (h2 : 1 ≤ ss.length) (h3 : ss.length ≤ 8) (h4 : ∀ s ∈ ss, slotOK s = true) : rightR id ss = true := by
  unfold rightR
  rw [decide_eq_true ⟨h1, h2, h3⟩, List.all_eq_true.2 h4]
  rfl
/-- what Make makes -/
theorem make_yes {master p : List UInt8} {rounds : Int} {coins : List UInt8} (h1 : master.length = 32) (h2 : passK p = true) (h3 : roundsK rounds = true) (h4 : coins.length = 56) :
    makeE master p rounds coins = 0 ∧ makeY master p rounds coins = printL (coins.take 16) (makeS master p rounds coins) ∧ rightR (coins.take 16) (makeS master p rounds coins) = true := by
  have e : makeE master p rounds coins = 0 := by
    unfold makeE
    rw [if_neg (by omega), if_neg (by rw [h2]; decide), if_neg (by rw [h3]; decide), if_neg (by omega)]
  have hr : rightR (coins.take 16) (makeS master p rounds coins) = true := right_mk (by rw [List.length_take]; omega) (by simp [makeS]) (by simp [makeS]) (fun s hs => by
    obtain rfl : s = _ := by simpa [makeS] using hs
    exact made_ok (by rw [List.length_drop]; omega) h1 h3)
  refine ⟨e, ?_, hr⟩
  unfold makeY
  rw [if_pos e, (printY_of hr).1]

end Go.Proofs.YtbjiamaaocjbfaaGreatDoor.Kr
