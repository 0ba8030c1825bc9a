import Derived.Test.YtlmopjbfagijeaaGreatDoorBaseM
import Derived.Lib.DecodeN
import Derived.Lib.ItoaNum
import Derived.Laws.RangeAny
namespace Go.Proofs.YtlmopjbfagijeaaGreatDoor.Sc
open Go.RowKit Go.Lib

/-- what stands for itself -/
def plN (n : Nat) : Bool := decide ((97 ≤ n ∧ n ≤ 122) ∨ (65 ≤ n ∧ n ≤ 90) ∨ (48 ≤ n ∧ n ≤ 57) ∨ n = 46 ∨ n = 95 ∨ n = 45 ∨ n = 47)
def two (c : UInt8) : List UInt8 := [dig (c.toNat / 16), dig (c.toNat % 16)]
def one (c : UInt8) : List UInt8 := if plN c.toNat = true then [c] else 37 :: two c
def wrL (l : List UInt8) : List UInt8 := l.flatMap one
def escL (l : List UInt8) : List UInt8 := l.flatMap fun c => 37 :: two c
theorem wrL_append (a b : List UInt8) : wrL (a ++ b) = wrL a ++ wrL b := List.flatMap_append
theorem wrL_take (l : List UInt8) (k : Nat) (c : UInt8) (h : l[k]? = some c) : wrL (l.take (k + 1)) = wrL (l.take k) ++ one c := by
  rw [take_succ_of l k c h, wrL_append]
  simp [wrL]
theorem one_len (c : UInt8) : (one c).length ≤ 3 := by
  unfold one
  split <;> simp [two]
theorem wrL_len (l : List UInt8) : (wrL l).length ≤ 3 * l.length := by
  induction l with
  | nil => simp [wrL]
  | cons a t ih =>
    have := one_len a
    simp only [wrL, List.flatMap_cons, List.length_append, List.length_cons] at ih ⊢
    omega
theorem escL_take (l : List UInt8) (k : Nat) (c : UInt8) (h : l[k]? = some c) : escL (l.take (k + 1)) = escL (l.take k) ++ [37, dig (c.toNat / 16), dig (c.toNat % 16)] := by
  rw [take_succ_of l k c h]
  simp [escL, two]
theorem escL_len (l : List UInt8) : (escL l).length = 3 * l.length := by
  induction l with
  | nil => rfl
  | cons a t ih =>
    simp only [escL, List.flatMap_cons, List.length_append, List.length_cons, two, List.length_nil] at ih ⊢
    omega
/-- bytes none of which stands for itself -/
theorem wrL_none (l : List UInt8) (h : ∀ c ∈ l, plN c.toNat = false) : wrL l = escL l := by
  induction l with
  | nil => rfl
  | cons a t ih =>
    have e := ih fun c hc => h c (List.mem_cons_of_mem _ hc)
    simp only [wrL, escL, List.flatMap_cons] at e ⊢
    rw [e, one, h a (List.mem_cons_self ..)]
    simp
theorem plN_high (n : Nat) (h : 128 ≤ n) : plN n = false := by
  unfold plN
  exact decide_eq_false (by omega)
/-- a rune's bytes behind the first are bytes that go on -/
theorem decodeN_conts (n b0 b1 b2 b3 : Nat) :
    (2 ≤ (decodeN n b0 b1 b2 b3).2 → b1 / 64 = 2 ∧ 1 < n) ∧ (3 ≤ (decodeN n b0 b1 b2 b3).2 → b2 / 64 = 2 ∧ 2 < n) ∧ (4 ≤ (decodeN n b0 b1 b2 b3).2 → b3 / 64 = 2 ∧ 3 < n) ∧ (decodeN n b0 b1 b2 b3).2 ≤ 4 := by
  unfold decodeN
  repeat' split
  all_goals (simp only; omega)
theorem getElem_data (s : ByteArray) (i : Nat) (h : i < s.size) (c : UInt8) (hc : s.data.toList[i]? = some c) : s[i]'h = c := by
  have h2 := (List.getElem?_eq_some_iff.1 hc).2
  rw [← h2]
  simp [ByteArray.getElem_eq_getElem_data]
theorem get_data (s : ByteArray) (i : Nat) (h : i < s.size) (c : UInt8) (hc : s.data.toList[i]? = some c) : s.get! i = c := by
  have h2 := (List.getElem?_eq_some_iff.1 hc).2
  have : s.data[i]! = c := by
    rw [← h2]
    simp only [Array.getElem_toList]
    exact getElem!_pos s.data i h
  simpa [ByteArray.get!] using this
/-- what a rune is -/
theorem rune_at (s : ByteArray) (pos : Nat) (h : pos < s.size) (c : UInt8) (hc : s.data.toList[pos]? = some c) :
    1 ≤ (Utf8.decode s pos).2 ∧ pos + (Utf8.decode s pos).2 ≤ s.size ∧ plN (Utf8.decode s pos).1 = plN c.toNat ∧ (plN c.toNat = true → Utf8.decode s pos = (c.toNat, 1)) ∧
    (plN c.toNat = false → ∀ j d, pos ≤ j → j < pos + (Utf8.decode s pos).2 → s.data.toList[j]? = some d → plN d.toNat = false) := by
  have hce := getElem_data s pos h c hc
  by_cases ha : c.toNat < 128
  · have hd := decode_ascii s pos h (by rw [hce]; exact ha)
    rw [hce] at hd
    rw [hd]
    refine ⟨Nat.le_refl 1, h, rfl, fun _ => rfl, fun hp j d h1 h2 hj => ?_⟩
    obtain rfl : j = pos := by simp only at h2; omega
    rw [hc] at hj
    obtain rfl := Option.some.inj hj
    exact hp
  · have hd := decode_high s pos h (by rw [hce]; omega)
    have hpc := plN_high c.toNat (by omega)
    have hk := decodeN_conts (s.size - pos) (s.get! pos).toNat (s.get! (pos + 1)).toNat (s.get! (pos + 2)).toNat (s.get! (pos + 3)).toNat
    rw [← decode_at] at hk
    obtain ⟨k1, k2, k3, k4⟩ := hk
    refine ⟨hd.2, by omega, ?_, fun e => (by rw [hpc] at e; cases e), fun _ j d h1 h2 hj => ?_⟩
    · rw [hpc]
      exact plN_high _ hd.1
    · have hjs : j < s.size := by
        have := (List.getElem?_eq_some_iff.1 hj).1
        simpa using this
      have hg := get_data s j hjs d hj
      apply plN_high
      rcases (by omega : j = pos ∨ j = pos + 1 ∨ j = pos + 2 ∨ j = pos + 3) with rfl | rfl | rfl | rfl
      · rw [hc] at hj
        obtain rfl := Option.some.inj hj
        omega
      · have := (k1 (by omega)).1
        rw [hg] at this
        omega
      · have := (k2 (by omega)).1
        rw [hg] at this
        omega
      · have := (k3 (by omega)).1
        rw [hg] at this
        omega

theorem dec_len : ∀ (k u : Nat), u < 10 ^ (k + 1) → (decDigits u).length ≤ k + 1
  | 0, u, h => by
    rw [decDigits, dif_pos (by omega)]
    simp
  | k + 1, u, h => by
    rw [decDigits]
    split
    · simp
    · have := dec_len k (u / 10) (by rw [Nat.pow_succ] at h; omega)
      simp
      omega
/-- a number's digits -/
theorem itoa_len (n : Int) (h0 : -9223372036854775808 ≤ n) (h1 : n ≤ 9223372036854775807) : (itoa n).length ≤ 20 := by
  unfold itoa
  split
  · have := dec_len 18 n.natAbs (by have : (10 : Nat) ^ 19 = 10000000000000000000 := rfl; omega)
    simp
    omega
  · have := dec_len 18 n.toNat (by have : (10 : Nat) ^ 19 = 10000000000000000000 := rfl; omega)
    omega
end Go.Proofs.YtlmopjbfagijeaaGreatDoor.Sc
