import Derived.Test.YtengclnahppmhaaGreatDoorChZ1
import Derived.Test.YtengclnahppmhaaGreatDoorPolM
import Derived.Test.YtengclnahppmhaaGreatDoorBaseM
import Derived.Test.YtengclnahppmhaaGreatDoorMacM
namespace Go.Proofs.YtengclnahppmhaaGreatDoor.Ae
open Go.RowKit Go.Lib

/-- the zeros behind a text of n bytes -/
def fillN (n : Nat) : Nat := (16 - n % 16) % 16
def fillZ (n : Nat) : List UInt8 := List.replicate (fillN n) 0
theorem fillN_lt (n : Nat) : fillN n < 16 := Nat.mod_lt _ (by omega)
theorem fillZ_length (n : Nat) : (fillZ n).length = fillN n := by simp [fillZ]
/-- a number's first bytes, the lowest first -/
def leN (n : Nat) : Nat → List UInt8
  | 0 => []
  | k + 1 => leN n k ++ [UInt8.ofNat (n / 256 ^ k)]
def le8 (n : Nat) : List UInt8 := leN n 8
theorem leN_length (n : Nat) : ∀ k, (leN n k).length = k
  | 0 => rfl
  | k + 1 => by rw [leN, List.length_append, leN_length n k]; rfl
/-- what is tagged -/
def macL (aad c : List UInt8) : List UInt8 := aad ++ fillZ aad.length ++ c ++ fillZ c.length ++ le8 aad.length ++ le8 c.length
/-- the key and the nonce of 12 bytes that are used -/
def keyL (key nonce : List UInt8) : List UInt8 := if nonce.length = 12 then key else Cha.hchL key (nonce.take 16)
def nonL (nonce : List UInt8) : List UInt8 := if nonce.length = 12 then nonce else [0, 0, 0, 0] ++ nonce.drop 16
theorem keyL_length (key nonce : List UInt8) (h : key.length = 32) : (keyL key nonce).length = 32 := by
  unfold keyL
  split
  · exact h
  · exact Cha.hchL_length _ _
theorem nonL_length (nonce : List UInt8) (h : nonce.length = 12 ∨ nonce.length = 24) : (nonL nonce).length = 12 := by
  unfold nonL
  split
  · assumption
  · rw [List.length_append, List.length_drop]
    simp
    omega
def tagA (key nonce aad c : List UInt8) : List UInt8 := Pol.tagL ((Cha.blockL key 0 nonce).take 32) (macL aad c)
theorem tagA_length (key nonce aad c : List UInt8) : (tagA key nonce aad c).length = 16 := Pol.tagL_length _ _
/-- sealed, under a key and a nonce of 12 bytes -/
def sealS (key nonce aad plain : List UInt8) : List UInt8 := Cha.overL key 1 nonce plain ++ tagA key nonce aad (Cha.overL key 1 nonce plain)
def sealL (key nonce aad plain : List UInt8) : List UInt8 := sealS (keyL key nonce) (nonL nonce) aad plain

end Go.Proofs.YtengclnahppmhaaGreatDoor.Ae

namespace Go.Proofs.YtengclnahppmhaaGreatDoor.Ae
open Go.RowKit Go.Lib

/-- what is wrong with a key and a nonce -/
def askN (key nonce : ByteArray) : Int := if key.size ≠ 32 then 40 else if nonce.size ≠ 12 ∧ nonce.size ≠ 24 then 41 else 0
theorem askN_ok {key nonce : ByteArray} (h1 : key.size = 32) (h2 : nonce.size = 12 ∨ nonce.size = 24) : askN key nonce = 0 := by
  unfold askN
  rw [if_neg (by omega), if_neg (by omega)]
theorem askN_no {key nonce : ByteArray} (h : ¬ (key.size = 32 ∧ (nonce.size = 12 ∨ nonce.size = 24))) : askN key nonce = 40 ∨ askN key nonce = 41 := by
  unfold askN
  by_cases h1 : key.size ≠ 32
  · rw [if_pos h1]; exact .inl rfl
  · rw [if_neg h1, if_pos (by omega)]; exact .inr rfl
theorem askN_iff (key nonce : ByteArray) : askN key nonce = 0 ↔ key.size = 32 ∧ (nonce.size = 12 ∨ nonce.size = 24) := by
  constructor
  · intro h
    apply Decidable.byContradiction
    intro hn
    rcases askN_no hn with e | e <;> rw [e] at h <;> cases h
  · exact fun h => askN_ok h.1 h.2
/-- what Seal answers -/
def sealE (key nonce aad plain : ByteArray) : Int := if askN key nonce ≠ 0 then askN key nonce else if 1048576 < aad.size ∨ 1048576 < plain.size then 3 else 0
def sealY (key nonce aad plain : ByteArray) : ByteArray := if sealE key nonce aad plain = 0 then str (sealL key.data.toList nonce.data.toList aad.data.toList plain.data.toList) else { data := #[] }
theorem sealE_no {key nonce aad plain : ByteArray} (h : ¬ (key.size = 32 ∧ (nonce.size = 12 ∨ nonce.size = 24))) : sealE key nonce aad plain = askN key nonce ∧ sealY key nonce aad plain = { data := #[] } := by
  have h0 : askN key nonce ≠ 0 := fun e => h ((askN_iff _ _).1 e)
  have e : sealE key nonce aad plain = askN key nonce := by unfold sealE; rw [if_pos h0]
  exact ⟨e, by unfold sealY; rw [e, if_neg h0]⟩
theorem sealE_big {key nonce aad plain : ByteArray} (h1 : key.size = 32) (h2 : nonce.size = 12 ∨ nonce.size = 24) (h : 1048576 < aad.size ∨ 1048576 < plain.size) : sealE key nonce aad plain = 3 ∧ sealY key nonce aad plain = { data := #[] } := by
  have e : sealE key nonce aad plain = 3 := by unfold sealE; rw [askN_ok h1 h2, if_neg (by simp), if_pos h]
  exact ⟨e, by unfold sealY; rw [e, if_neg (by decide)]⟩
theorem sealE_yes {key nonce aad plain : ByteArray} (h1 : key.size = 32) (h2 : nonce.size = 12 ∨ nonce.size = 24) (h3 : aad.size ≤ 1048576) (h4 : plain.size ≤ 1048576) : sealE key nonce aad plain = 0 ∧ sealY key nonce aad plain = str (sealL key.data.toList nonce.data.toList aad.data.toList plain.data.toList) := by
  have e : sealE key nonce aad plain = 0 := by unfold sealE; rw [askN_ok h1 h2, if_neg (by simp), if_neg (by omega)]
  exact ⟨e, by unfold sealY; rw [e, if_pos rfl]⟩
/-- what Open answers -/
def right (key nonce aad box : List UInt8) : Bool := tagA (keyL key nonce) (nonL nonce) aad (box.take (box.length - 16)) == box.drop (box.length - 16)
def openL (key nonce box : List UInt8) : List UInt8 := Cha.overL (keyL key nonce) 1 (nonL nonce) (box.take (box.length - 16))
def openE (key nonce aad box : ByteArray) : Int :=
  if askN key nonce ≠ 0 then askN key nonce else if 1048576 < aad.size ∨ 1048592 < box.size then 3 else if box.size < 16 then 60
  else if right key.data.toList nonce.data.toList aad.data.toList box.data.toList then 0 else 61
def openY (key nonce aad box : ByteArray) : ByteArray := if openE key nonce aad box = 0 then str (openL key.data.toList nonce.data.toList box.data.toList) else { data := #[] }

theorem sealS_length (key nonce aad plain : List UInt8) : (sealS key nonce aad plain).length = plain.length + 16 := by
  rw [sealS, List.length_append, Cha.overL_length, tagA_length]
theorem sealL_length (key nonce aad plain : List UInt8) : (sealL key nonce aad plain).length = plain.length + 16 := sealS_length _ _ _ _

end Go.Proofs.YtengclnahppmhaaGreatDoor.Ae

namespace Go.Proofs.YtengclnahppmhaaGreatDoor.Ae
open Go.RowKit Go.Lib

theorem sealL_parts (key nonce aad plain : List UInt8) : (sealL key nonce aad plain).take ((sealL key nonce aad plain).length - 16) = Cha.overL (keyL key nonce) 1 (nonL nonce) plain ∧ (sealL key nonce aad plain).drop ((sealL key nonce aad plain).length - 16) = tagA (keyL key nonce) (nonL nonce) aad (Cha.overL (keyL key nonce) 1 (nonL nonce) plain) := by
  have h : (sealL key nonce aad plain).length - 16 = (Cha.overL (keyL key nonce) 1 (nonL nonce) plain).length := by rw [sealL_length, Cha.overL_length]; omega
  rw [h]
  unfold sealL sealS
  exact ⟨List.take_left' rfl, List.drop_left' rfl⟩
theorem right_seal (key nonce aad plain : List UInt8) : right key nonce aad (sealL key nonce aad plain) = true := by
  unfold right
  rw [(sealL_parts key nonce aad plain).1, (sealL_parts key nonce aad plain).2]
  exact beq_self_eq_true _
theorem openL_seal (key nonce aad plain : List UInt8) : openL key nonce (sealL key nonce aad plain) = plain := by
  unfold openL
  rw [(sealL_parts key nonce aad plain).1, Cha.overL_twice]
theorem open_seal {key nonce aad plain : ByteArray} (h1 : key.size = 32) (h2 : nonce.size = 12 ∨ nonce.size = 24) (h3 : aad.size ≤ 1048576) (h4 : plain.size ≤ 1048576) (box : ByteArray) (hb : box.data.toList = sealL key.data.toList nonce.data.toList aad.data.toList plain.data.toList) :
    openE key nonce aad box = 0 ∧ openY key nonce aad box = plain := by
  have hs : box.size = plain.size + 16 := by rw [size_eq, hb, sealL_length, ← size_eq]
  have e : openE key nonce aad box = 0 := by
    unfold openE
    rw [askN_ok h1 h2, if_neg (by simp), if_neg (by omega), if_neg (by omega), hb, right_seal, if_pos rfl]
  refine ⟨e, ?_⟩
  unfold openY
  rw [e, if_pos rfl, hb, openL_seal, str_of]
theorem openE_short {key nonce aad box : ByteArray} (h1 : key.size = 32) (h2 : nonce.size = 12 ∨ nonce.size = 24) (h3 : aad.size ≤ 1048576) (h4 : box.size < 16) : openE key nonce aad box = 60 ∧ openY key nonce aad box = { data := #[] } := by
  have e : openE key nonce aad box = 60 := by
    unfold openE
    rw [askN_ok h1 h2, if_neg (by simp), if_neg (by omega), if_pos h4]
  exact ⟨e, by unfold openY; rw [e, if_neg (by decide)]⟩
/-- what is opened is just what is sealed of the answer -/
theorem seal_open {key nonce aad box : List UInt8} (_h16 : 16 ≤ box.length) (h : right key nonce aad box = true) : sealL key nonce aad (openL key nonce box) = box := by
  have ht := eq_of_beq h
  unfold sealL sealS openL
  rw [Cha.overL_twice, ht, List.take_append_drop]

end Go.Proofs.YtengclnahppmhaaGreatDoor.Ae

namespace Go.Proofs.YtengclnahppmhaaGreatDoor.Ae
open Go.RowKit Go.Lib Go.Deep

theorem slice_take {P : Program} (W : World) (t : TypeId) (ht : P.underlying t = some .string) (l : List UInt8) (n : Nat) (hn : n ≤ l.length) : (Instr.slice t (.string (str l)) none (some (.int .i64 (n : Int))) none).run P W = .ok (.string (str (l.take n))) W := by
  rw [run_slice_string_h (P := P) W t (str l) ht .i64 (n : Int) (by omega) (by rw [str_size]; omega), Int.toNat_natCast]
  congr 2
  rw [← str_of ((str l).extract 0 n), extract_data, str_data, List.drop_zero, Nat.sub_zero]
theorem slice_drop {P : Program} (W : World) (t : TypeId) (ht : P.underlying t = some .string) (l : List UInt8) (n : Nat) (hn : n ≤ l.length) : (Instr.slice t (.string (str l)) (some (.int .i64 (n : Int))) none none).run P W = .ok (.string (str (l.drop n))) W := by
  rw [run_slice_string_l (P := P) W t (str l) ht .i64 (n : Int) (by omega) (by rw [str_size]; omega), Int.toNat_natCast]
  congr 2
  rw [← str_of ((str l).extract n (str l).size), extract_data, str_data, str_size, List.take_of_length_le (by rw [List.length_drop]; omega)]

end Go.Proofs.YtengclnahppmhaaGreatDoor.Ae

namespace Go.Proofs.YtengclnahppmhaaGreatDoor.Ae
open Go.RowKit Go.Lib Go.Deep
open Cha (CTabs)

/-- the program's tables -/
structure ATabs (w : World) : Prop where
  c : CTabs w
  k : Pol.KTab w
  s : 8 ≤ w.heap.size
theorem ATabs.below {w w' : World} (h : ATabs w) (hb : Below w.heap.size w w') : ATabs w' :=
  ⟨h.c.below hb (by have := h.s; omega), h.k.below hb (by have := h.s; omega), by have := h.s; have := hb.size; omega⟩
end Go.Proofs.YtengclnahppmhaaGreatDoor.Ae

namespace Go.Proofs.YtengclnahppmhaaGreatDoor.Ae
open Go.RowKit Go.Lib Go.Deep

/-- what the laws ask of the program's Seal -/
def SealC : Prop := ∀ (key nonce aad plain : ByteArray) (w : World), key.size ≤ 140737488355328 → nonce.size ≤ 140737488355328 → aad.size ≤ 140737488355328 → plain.size ≤ 140737488355328 → ATabs w →
    Calls Tryz.prog 78 #[.string key, .string nonce, .string aad, .string plain] w fun e w' => e = .returned (.tuple #[.string (sealY key nonce aad plain), .int .i64 (sealE key nonce aad plain)]) ∧ Below w.heap.size w w'

end Go.Proofs.YtengclnahppmhaaGreatDoor.Ae

namespace Go.Proofs.YtengclnahppmhaaGreatDoor.Ae
open Go.RowKit Go.Lib Go.Deep

/-- what the laws ask of the program's Open -/
def OpenC : Prop := ∀ (key nonce aad box : ByteArray) (w : World), key.size ≤ 140737488355328 → nonce.size ≤ 140737488355328 → aad.size ≤ 140737488355328 → box.size ≤ 140737488355328 → ATabs w →
    Calls Tryz.prog 82 #[.string key, .string nonce, .string aad, .string box] w fun e w' => e = .returned (.tuple #[.string (openY key nonce aad box), .int .i64 (openE key nonce aad box)]) ∧ Below w.heap.size w w'

end Go.Proofs.YtengclnahppmhaaGreatDoor.Ae
