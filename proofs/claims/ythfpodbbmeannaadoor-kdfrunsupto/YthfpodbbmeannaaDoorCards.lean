/-
  DERIVED. GIVEN WITH THE SEED: THE CARDS: each row of YthfpodbbmeannaaDoorRows.lean that lists a variable, with what it lists TIED to the program's text (the seventh form; the later family's looks); each row that meets fmt, with fmt's text TOLD by the authors' own Lean function (tested against real Go, not proved from fmt's source: count such statements apart). THE CARD IS WHAT COUNTS. Prove the row's statement (the work); the ties are given (YthfpodbbmeannaaDoorTie.lean); close each card by the builder's one call (the guide's Derived/Test/ToyasCard.lean, 'card_holds'). Laid BY PROGRAM, IN A SANDBOX (cutbox-door.mjs). By AI agents, Wed Nov 11 2026. No macro, syntax, notation, axiom, sorry.
-/
import Derived.Test.YthfpodbbmeannaaDoorRows
import GoSem.ClaimSeven
namespace Go.Proofs.YthfpodbbmeannaaDoor
namespace Rows

/-- THE TIED CARD OF 'casketlaw3.KdfCuts'. -/
def kdfCutsCard : Claim7 := { stood := { row := kdfCutsRow, standIns := [], harness := (true, "1c67b70c05a26bdee36027f37e7507a677ed9401a5d3a1d9244b40462dbf521f"), looks := false }, kinds := [], alts := [], laidByText := true, laidKinds := [.data, .data], laidTests := true, laidLooks := .later }
def KdfCutsCardSaid : Prop := Claim7.holds Tryd.pinned (.plain (OpenSpec.ofChange kdfCutsSpec)) kdfCutsCard

/-- THE TIED CARD OF 'casketlaw3.KdfRuns'. -/
def kdfRunsCard : Claim7 := { stood := { row := kdfRunsRow, standIns := [], harness := (true, "1c67b70c05a26bdee36027f37e7507a677ed9401a5d3a1d9244b40462dbf521f"), looks := false }, kinds := [], alts := [], laidByText := true, laidKinds := [.data, .data, .data, .data], laidTests := true, laidLooks := .later }
def KdfRunsCardSaid : Prop := Claim7.holds Tryd.pinned (.plain (OpenSpec.ofChange kdfRunsSpec)) kdfRunsCard

/-- THE SECOND FORM's CARD OF 'casketlaw3.KdfCuts'. -/
def kdfCutsUptoCard : Claim7 := { stood := { row := kdfCutsUptoRow, standIns := [], harness := (true, "1c67b70c05a26bdee36027f37e7507a677ed9401a5d3a1d9244b40462dbf521f"), looks := false }, kinds := [], alts := [], laidByText := true, laidKinds := [.data, .data], laidTests := true, laidLooks := .later }
def KdfCutsUptoCardSaid : Prop := Claim7.holds Tryd.pinned (.plain (OpenSpec.upto kdfCutsSpec)) kdfCutsUptoCard

/-- THE SECOND FORM's CARD OF 'casketlaw3.KdfRuns'. -/
def kdfRunsUptoCard : Claim7 := { stood := { row := kdfRunsUptoRow, standIns := [], harness := (true, "1c67b70c05a26bdee36027f37e7507a677ed9401a5d3a1d9244b40462dbf521f"), looks := false }, kinds := [], alts := [], laidByText := true, laidKinds := [.data, .data, .data, .data], laidTests := true, laidLooks := .later }
def KdfRunsUptoCardSaid : Prop := Claim7.holds Tryd.pinned (.plain (OpenSpec.upto kdfRunsSpec)) kdfRunsUptoCard
end Rows
end Go.Proofs.YthfpodbbmeannaaDoor
