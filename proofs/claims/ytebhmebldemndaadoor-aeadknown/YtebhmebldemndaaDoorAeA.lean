import Derived.Test.YtebhmebldemndaaDoorChM1
import Derived.Test.YtebhmebldemndaaDoorPolM
namespace Go.Proofs.YtebhmebldemndaaDoor.Ae
open Go.RowKit Go.Lib

/-- the zeros behind a text of n bytes -/
def fillN (n : Nat) : Nat := (16 - n % 16) % 16
def fillZ (n : Nat) : List UInt8 := List.replicate (fillN n) 0
theorem fillN_lt (n : Nat) : fillN n < 16 := Nat.mod_lt _ (by omega)
theorem fillZ_length (n : Nat) : (fillZ n).length = fillN n := by simp [fillZ]
/-- a number's first bytes, the lowest first -/
def leN (n : Nat) : Nat → List UInt8
  | 0 => []
  | k + 1 => leN n k ++ [UInt8.ofNat (n / 256 ^ k)]
def le8 (n : Nat) : List UInt8 := leN n 8
theorem leN_length (n : Nat) : ∀ k, (leN n k).length = k
  | 0 => rfl
  | k + 1 => by rw [leN, List.length_append, leN_length n k]; rfl
/-- what is tagged -/
def macL (aad c : List UInt8) : List UInt8 := aad ++ fillZ aad.length ++ c ++ fillZ c.length ++ le8 aad.length ++ le8 c.length
/-- the key and the nonce of 12 bytes that are used -/
def keyL (key nonce : List UInt8) : List UInt8 := if nonce.length = 12 then key else Cha.hchL key (nonce.take 16)
def nonL (nonce : List UInt8) : List UInt8 := if nonce.length = 12 then nonce else [0, 0, 0, 0] ++ nonce.drop 16
theorem keyL_length (key nonce : List UInt8) (h : key.length = 32) : (keyL key nonce).length = 32 := by
  unfold keyL
  split
  · exact h
  · exact Cha.hchL_length _ _
theorem nonL_length (nonce : List UInt8) (h : nonce.length = 12 ∨ nonce.length = 24) : (nonL nonce).length = 12 := by
  unfold nonL
  split
  · assumption
  · rw [List.length_append, List.length_drop]
    simp
    omega
def tagA (key nonce aad c : List UInt8) : List UInt8 := Pol.tagL ((Cha.blockL key 0 nonce).take 32) (macL aad c)
theorem tagA_length (key nonce aad c : List UInt8) : (tagA key nonce aad c).length = 16 := Pol.tagL_length _ _
/-- sealed, under a key and a nonce of 12 bytes -/
def sealS (key nonce aad plain : List UInt8) : List UInt8 := Cha.overL key 1 nonce plain ++ tagA key nonce aad (Cha.overL key 1 nonce plain)
def sealL (key nonce aad plain : List UInt8) : List UInt8 := sealS (keyL key nonce) (nonL nonce) aad plain

end Go.Proofs.YtebhmebldemndaaDoor.Ae
