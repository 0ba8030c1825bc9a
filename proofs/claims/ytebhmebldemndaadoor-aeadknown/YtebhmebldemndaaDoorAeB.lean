import Derived.Test.YtebhmebldemndaaDoorAeA
namespace Go.Proofs.YtebhmebldemndaaDoor.Ae
open Go.RowKit Go.Lib

/-- what is wrong with a key and a nonce -/
def askN (key nonce : ByteArray) : Int := if key.size ≠ 32 then 40 else if nonce.size ≠ 12 ∧ nonce.size ≠ 24 then 41 else 0
theorem askN_ok {key nonce : ByteArray} (h1 : key.size = 32) (h2 : nonce.size = 12 ∨ nonce.size = 24) : askN key nonce = 0 := by
  unfold askN
  rw [if_neg (by omega), if_neg (by omega)]
theorem askN_no {key nonce : ByteArray} (h : ¬ (key.size = 32 ∧ (nonce.size = 12 ∨ nonce.size = 24))) : askN key nonce = 40 ∨ askN key nonce = 41 := by
  unfold askN
  by_cases h1 : key.size ≠ 32
  · rw [if_pos h1]; exact .inl rfl
  · rw [if_neg h1, if_pos (by omega)]; exact .inr rfl
theorem askN_iff (key nonce : ByteArray) : askN key nonce = 0 ↔ key.size = 32 ∧ (nonce.size = 12 ∨ nonce.size = 24) := by
  constructor
  · intro h
    apply Decidable.byContradiction
    intro hn
    rcases askN_no hn with e | e <;> rw [e] at h <;> cases h
  · exact fun h => askN_ok h.1 h.2
/-- what Seal answers -/
def sealE (key nonce aad plain : ByteArray) : Int := if askN key nonce ≠ 0 then askN key nonce else if 1048576 < aad.size ∨ 1048576 < plain.size then 3 else 0
def sealY (key nonce aad plain : ByteArray) : ByteArray := if sealE key nonce aad plain = 0 then str (sealL key.data.toList nonce.data.toList aad.data.toList plain.data.toList) else { data := #[] }
theorem sealE_no {key nonce aad plain : ByteArray} (h : ¬ (key.size = 32 ∧ (nonce.size = 12 ∨ nonce.size = 24))) : sealE key nonce aad plain = askN key nonce ∧ sealY key nonce aad plain = { data := #[] } := by
  have h0 : askN key nonce ≠ 0 := fun e => h ((askN_iff _ _).1 e)
  have e : sealE key nonce aad plain = askN key nonce := by unfold sealE; rw [if_pos h0]
  exact ⟨e, by unfold sealY; rw [e, if_neg h0]⟩
theorem sealE_big {key nonce aad plain : ByteArray} (h1 : key.size = 32) (h2 : nonce.size = 12 ∨ nonce.size = 24) (h : 1048576 < aad.size ∨ 1048576 < plain.size) : sealE key nonce aad plain = 3 ∧ sealY key nonce aad plain = { data := #[] } := by
  have e : sealE key nonce aad plain = 3 := by unfold sealE; rw [askN_ok h1 h2, if_neg (by simp), if_pos h]
  exact ⟨e, by unfold sealY; rw [e, if_neg (by decide)]⟩
theorem sealE_yes {key nonce aad plain : ByteArray} (h1 : key.size = 32) (h2 : nonce.size = 12 ∨ nonce.size = 24) (h3 : aad.size ≤ 1048576) (h4 : plain.size ≤ 1048576) : sealE key nonce aad plain = 0 ∧ sealY key nonce aad plain = str (sealL key.data.toList nonce.data.toList aad.data.toList plain.data.toList) := by
  have e : sealE key nonce aad plain = 0 := by unfold sealE; rw [askN_ok h1 h2, if_neg (by simp), if_neg (by omega)]
  exact ⟨e, by unfold sealY; rw [e, if_pos rfl]⟩
/-- what Open answers -/
def right (key nonce aad box : List UInt8) : Bool := tagA (keyL key nonce) (nonL nonce) aad (box.take (box.length - 16)) == box.drop (box.length - 16)
def openL (key nonce box : List UInt8) : List UInt8 := Cha.overL (keyL key nonce) 1 (nonL nonce) (box.take (box.length - 16))
def openE (key nonce aad box : ByteArray) : Int :=
  if askN key nonce ≠ 0 then askN key nonce else if 1048576 < aad.size ∨ 1048592 < box.size then 3 else if box.size < 16 then 60
  else if right key.data.toList nonce.data.toList aad.data.toList box.data.toList then 0 else 61
def openY (key nonce aad box : ByteArray) : ByteArray := if openE key nonce aad box = 0 then str (openL key.data.toList nonce.data.toList box.data.toList) else { data := #[] }

theorem sealS_length (key nonce aad plain : List UInt8) : (sealS key nonce aad plain).length = plain.length + 16 := by
  rw [sealS, List.length_append, Cha.overL_length, tagA_length]
theorem sealL_length (key nonce aad plain : List UInt8) : (sealL key nonce aad plain).length = plain.length + 16 := sealS_length _ _ _ _

end Go.Proofs.YtebhmebldemndaaDoor.Ae
