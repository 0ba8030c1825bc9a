import Derived.Test.YtpjigcccjiidpaaExId
namespace Go.Proofs.Ytpjigcccjiidpaa.Ex
open Go.RowKit Go.Lib Go.Deep

theorem apart_law (s1 s2 s3 : ByteArray) (h1 : s1.size ≤ 140737488351232) (h2 : s2.size ≤ 140737488351232) (h3 : s3.size ≤ 140737488351232) (A0 : List Bo) (w : World) (a0 : Option Addr) (n0 c0 : Nat) (hA : See w 5 (.slice a0 n0 c0) n0 (bosC A0)) (hl : A0.length = n0) (hn0 : n0 ≤ 9223372036854775807) (hw : ∀ e ∈ A0, EdW e.ed) :
    Calls Try.prog 4 #[.string s1, .string s2, .string s3, .slice a0 n0 c0] w fun e w' => e = .returned (.bool true) ∧ Below w.heap.size w w' := by
  have h := apart_walk s1.data.toList s2.data.toList s3.data.toList (by rw [← size_eq]; unfold maxLen; omega) (by rw [← size_eq]; unfold maxLen; omega) (by rw [← size_eq]; unfold maxLen; omega) A0 w a0 n0 c0 hA hl hn0 hw
  rw [str_of, str_of, str_of] at h
  exact h
end Go.Proofs.Ytpjigcccjiidpaa.Ex
