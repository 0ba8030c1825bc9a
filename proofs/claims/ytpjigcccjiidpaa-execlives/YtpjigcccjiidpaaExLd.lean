import Derived.Test.YtpjigcccjiidpaaExLc
namespace Go.Proofs.Ytpjigcccjiidpaa.Ex
open Go.RowKit Go.Lib Go.Deep

theorem lives_law (s d : ByteArray) (hs : s.size ≤ 140737488351232) (hd : d.size ≤ 140737488351232) (st ag : Bool) (w : World) : Calls Try.prog 3 #[.string s, .string d, .bool st, .bool ag] w fun e w' => e = .returned (.bool true) ∧ Below w.heap.size w w' := by
  have h1 : s.data.toList.length ≤ maxLen := by rw [← size_eq]; unfold maxLen; omega
  have h2 : d.data.toList.length ≤ maxLen := by rw [← size_eq]; unfold maxLen; omega
  rw [← str_of s, ← str_of d]
  cases st <;> cases ag
  · exact lives_false_false _ _ h1 h2 w
  · exact lives_false_true _ _ h1 h2 w
  · exact lives_true_false _ _ h1 h2 w
  · exact lives_true_true _ _ h1 h2 w
end Go.Proofs.Ytpjigcccjiidpaa.Ex
