import Derived.Test.YtpjigcccjiidpaaExHc
namespace Go.Proofs.Ytpjigcccjiidpaa.Ex
open Go.RowKit Go.Lib Go.Deep

theorem splits_law (s : ByteArray) (hs : s.size ≤ 140737488351232) (A0 : List Ed) (w : World) (a0 : Option Addr) (n0 c0 : Nat) (hA : See w 4 (.slice a0 n0 c0) n0 (edsC A0)) (hl : A0.length = n0) (hn0 : n0 ≤ 9223372036854775807) (hw : ∀ e ∈ A0, EdW e) (cut : Int) (hc : -9223372036854775808 ≤ cut ∧ cut ≤ 9223372036854775807) :
    Calls Try.prog 5 #[.string s, .slice a0 n0 c0, .int .i64 cut] w fun e w' => e = .returned (.bool true) ∧ Below w.heap.size w w' := by
  have h := splits_walk s.data.toList (by rw [← size_eq]; unfold maxLen; omega) A0 w a0 n0 c0 hA hl hn0 hw cut hc
  rw [str_of] at h
  exact h
end Go.Proofs.Ytpjigcccjiidpaa.Ex
