import Derived.Test.YtjjabkimmgcejaaDoorLawsC
import Derived.BigQuiet
import Derived.KernelRfl
namespace Go.Proofs.YtjjabkimmgcejaaDoor
open Go.RowKit Go.Lib

/-- Derived/Still.lean's Bool over a region, step by step, what has come up written out: the kernel reckons each step by itself. -/
theorem lexB_of {md : Region.Mode} {ops : Array Oper} (n : Nat) (L : Array Bool) (hs : Region.noSelect ops = true) (hn : ops.size = n) (hL : Array.replicate n false = L) (h : Region.lexFrom md ops n 0 L = true) : Region.lexB md ops = true := by
  subst hn hL
  simp only [Region.lexB, Bool.and_eq_true]
  exact ⟨hs, h⟩
theorem lex_step {md : Region.Mode} {ops : Array Oper} {fuel k : Nat} {L : Array Bool} (L' : Array Bool) (h1 : (Region.ready md ops L).contains k = true) (h2 : Region.free md ops L k = true) (h3 : L.setIfInBounds k true = L')
    (h : Region.lexFrom md ops fuel (k + 1) L' = true) : Region.lexFrom md ops (fuel + 1) k L = true := by
  subst h3
  simp only [Region.lexFrom, Bool.and_eq_true]
  exact ⟨⟨h1, h2⟩, h⟩
theorem lex_done {md : Region.Mode} {ops : Array Oper} {k : Nat} {L : Array Bool} (h : (Region.ready md ops L).isEmpty = true) : Region.lexFrom md ops 0 k L = true := h

end Go.Proofs.YtjjabkimmgcejaaDoor
