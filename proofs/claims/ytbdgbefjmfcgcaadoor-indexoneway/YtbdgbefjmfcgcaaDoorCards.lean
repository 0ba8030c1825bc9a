/-
  DERIVED. GIVEN WITH THE SEED: THE CARDS: each row of YtbdgbefjmfcgcaaDoorRows.lean that lists a variable, with what it lists TIED to the program's text (the seventh form; the later family's looks); each row that meets fmt, with fmt's text TOLD by the authors' own Lean function (tested against real Go, not proved from fmt's source: count such statements apart). THE CARD IS WHAT COUNTS. Prove the row's statement (the work); the ties are given (YtbdgbefjmfcgcaaDoorTie.lean); close each card by the builder's one call (the guide's Derived/Test/ToyasCard.lean, 'card_holds'). Laid BY PROGRAM, IN A SANDBOX (cutbox-door.mjs). By AI agents, Wed Nov 11 2026. No macro, syntax, notation, axiom, sorry.
-/
import Derived.Test.YtbdgbefjmfcgcaaDoorRows
import GoSem.ClaimSeven
namespace Go.Proofs.YtbdgbefjmfcgcaaDoor
namespace Rows

/-- THE TIED CARD OF 'casketlaw14.IndexOwn'. -/
def indexOwnCard : Claim7 := { stood := { row := indexOwnRow, standIns := [], harness := (true, "ad7d3e4debee5d4863acc7393dd9340fcc2940f11f4e0243a7e5c0a4a26e743f"), looks := false }, kinds := [], alts := [], laidByText := true, laidKinds := [.data], laidTests := true, laidLooks := .later }
def IndexOwnCardSaid : Prop := Claim7.holds Tryd.pinned (.plain (OpenSpec.ofChange indexOwnSpec)) indexOwnCard

/-- THE TIED CARD OF 'casketlaw14.IndexOneWay'. -/
def indexOneWayCard : Claim7 := { stood := { row := indexOneWayRow, standIns := [], harness := (true, "ad7d3e4debee5d4863acc7393dd9340fcc2940f11f4e0243a7e5c0a4a26e743f"), looks := false }, kinds := [], alts := [], laidByText := true, laidKinds := [.data], laidTests := true, laidLooks := .later }
def IndexOneWayCardSaid : Prop := Claim7.holds Tryd.pinned (.plain (OpenSpec.ofChange indexOneWaySpec)) indexOneWayCard

/-- THE SECOND FORM's CARD OF 'casketlaw14.IndexOwn'. -/
def indexOwnUptoCard : Claim7 := { stood := { row := indexOwnUptoRow, standIns := [], harness := (true, "ad7d3e4debee5d4863acc7393dd9340fcc2940f11f4e0243a7e5c0a4a26e743f"), looks := false }, kinds := [], alts := [], laidByText := true, laidKinds := [.data], laidTests := true, laidLooks := .later }
def IndexOwnUptoCardSaid : Prop := Claim7.holds Tryd.pinned (.plain (OpenSpec.upto indexOwnSpec)) indexOwnUptoCard

/-- THE SECOND FORM's CARD OF 'casketlaw14.IndexOneWay'. -/
def indexOneWayUptoCard : Claim7 := { stood := { row := indexOneWayUptoRow, standIns := [], harness := (true, "ad7d3e4debee5d4863acc7393dd9340fcc2940f11f4e0243a7e5c0a4a26e743f"), looks := false }, kinds := [], alts := [], laidByText := true, laidKinds := [.data], laidTests := true, laidLooks := .later }
def IndexOneWayUptoCardSaid : Prop := Claim7.holds Tryd.pinned (.plain (OpenSpec.upto indexOneWaySpec)) indexOneWayUptoCard
end Rows
end Go.Proofs.YtbdgbefjmfcgcaaDoor
