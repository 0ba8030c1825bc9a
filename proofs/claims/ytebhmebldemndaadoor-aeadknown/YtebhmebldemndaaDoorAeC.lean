import Derived.Test.YtebhmebldemndaaDoorAeB
import Derived.Test.YtebhmebldemndaaDoorChM1
namespace Go.Proofs.YtebhmebldemndaaDoor.Ae
open Go.RowKit Go.Lib

theorem sealL_parts (key nonce aad plain : List UInt8) : (sealL key nonce aad plain).take ((sealL key nonce aad plain).length - 16) = Cha.overL (keyL key nonce) 1 (nonL nonce) plain ∧ (sealL key nonce aad plain).drop ((sealL key nonce aad plain).length - 16) = tagA (keyL key nonce) (nonL nonce) aad (Cha.overL (keyL key nonce) 1 (nonL nonce) plain) := by
  have h : (sealL key nonce aad plain).length - 16 = (Cha.overL (keyL key nonce) 1 (nonL nonce) plain).length := by rw [sealL_length, Cha.overL_length]; omega
  rw [h]
  unfold sealL sealS
  exact ⟨List.take_left' rfl, List.drop_left' rfl⟩
theorem right_seal (key nonce aad plain : List UInt8) : right key nonce aad (sealL key nonce aad plain) = true := by
  unfold right
  rw [(sealL_parts key nonce aad plain).1, (sealL_parts key nonce aad plain).2]
  exact beq_self_eq_true _
theorem openL_seal (key nonce aad plain : List UInt8) : openL key nonce (sealL key nonce aad plain) = plain := by
  unfold openL
  rw [(sealL_parts key nonce aad plain).1, Cha.overL_twice]
theorem open_seal {key nonce aad plain : ByteArray} (h1 : key.size = 32) (h2 : nonce.size = 12 ∨ nonce.size = 24) (h3 : aad.size ≤ 1048576) (h4 : plain.size ≤ 1048576) (box : ByteArray) (hb : box.data.toList = sealL key.data.toList nonce.data.toList aad.data.toList plain.data.toList) :
    openE key nonce aad box = 0 ∧ openY key nonce aad box = plain := by
  have hs : box.size = plain.size + 16 := by rw [size_eq, hb, sealL_length, ← size_eq]
  have e : openE key nonce aad box = 0 := by
    unfold openE
    rw [askN_ok h1 h2, if_neg (by simp), if_neg (by omega), if_neg (by omega), hb, right_seal, if_pos rfl]
  refine ⟨e, ?_⟩
  unfold openY
  rw [e, if_pos rfl, hb, openL_seal, str_of]
theorem openE_short {key nonce aad box : ByteArray} (h1 : key.size = 32) (h2 : nonce.size = 12 ∨ nonce.size = 24) (h3 : aad.size ≤ 1048576) (h4 : box.size < 16) : openE key nonce aad box = 60 ∧ openY key nonce aad box = { data := #[] } := by
  have e : openE key nonce aad box = 60 := by
    unfold openE
    rw [askN_ok h1 h2, if_neg (by simp), if_neg (by omega), if_pos h4]
  exact ⟨e, by unfold openY; rw [e, if_neg (by decide)]⟩
/-- what is opened is just what is sealed of the answer -/
theorem seal_open {key nonce aad box : List UInt8} (_h16 : 16 ≤ box.length) (h : right key nonce aad box = true) : sealL key nonce aad (openL key nonce box) = box := by
  have ht := eq_of_beq h
  unfold sealL sealS openL
  rw [Cha.overL_twice, ht, List.take_append_drop]

end Go.Proofs.YtebhmebldemndaaDoor.Ae
