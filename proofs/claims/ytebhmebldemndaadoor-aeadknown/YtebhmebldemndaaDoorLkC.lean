import Derived.Test.YtebhmebldemndaaDoorTgA
namespace Go.Proofs.YtebhmebldemndaaDoor.Ae
open Go.RowKit Go.Lib Go.Deep

/-- a key and a nonce of either length -/
theorem lockOf_yes (key nonce : ByteArray) (hk : key.size = 32) (hn : nonce.size = 12 ∨ nonce.size = 24) (w : World) (hT : ATabs w) :
    ∃ yk yn : ByteArray, yk.size = 32 ∧ yn.size = 12 ∧ keyL key.data.toList nonce.data.toList = yk.data.toList ∧ nonL nonce.data.toList = yn.data.toList ∧
      Calls Tryd.prog 25 #[.string key, .string nonce] w fun e w' => e = .returned (.tuple #[.agg #[.string yk, .string yn], .int .i64 0]) ∧ Below w.heap.size w w' := by
  have hl : nonce.data.toList.length = nonce.size := (size_eq nonce).symm
  have hlk : key.data.toList.length = key.size := (size_eq key).symm
  refine ⟨str (keyL key.data.toList nonce.data.toList), str (nonL nonce.data.toList), by rw [str_size, keyL_length _ _ (by omega)], by rw [str_size, nonL_length _ (by omega)], by rw [str_data], by rw [str_data], ?_⟩
  rcases hn with hn | hn
  · have h := lockOf_12 key nonce hk hn w
    rw [keyL, nonL, if_pos (by omega), if_pos (by omega), str_of, str_of]
    exact h
  · have h := lockOf_24 key nonce hk hn w hT
    rw [keyL, nonL, if_neg (by omega), if_neg (by omega)]
    exact h

end Go.Proofs.YtebhmebldemndaaDoor.Ae
