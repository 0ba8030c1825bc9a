/-
  DERIVED. GIVEN WITH THE SEED: THE CARDS: each row of YtbjiamaaocjbfaaDoorRows.lean that lists a variable, with what it lists TIED to the program's text (the seventh form; the later family's looks); each row that meets fmt, with fmt's text TOLD by the authors' own Lean function (tested against real Go, not proved from fmt's source: count such statements apart). THE CARD IS WHAT COUNTS. Prove the row's statement (the work); the ties are given (YtbjiamaaocjbfaaDoorTie.lean); close each card by the builder's one call (the guide's Derived/Test/ToyasCard.lean, 'card_holds'). Laid BY PROGRAM, IN A SANDBOX (cutbox-door.mjs). By AI agents, Wed Nov 11 2026. No macro, syntax, notation, axiom, sorry.
-/
import Derived.Test.YtbjiamaaocjbfaaDoorRows
import GoSem.ClaimSeven
namespace Go.Proofs.YtbjiamaaocjbfaaDoor
namespace Rows

/-- THE TIED CARD OF 'casketlaw7.KeyringPrints'. -/
def keyringPrintsCard : Claim7 := { stood := { row := keyringPrintsRow, standIns := [], harness := (true, "9ae437e25de27daa926e8ab25e7f16797ec9cd3d25216f50b59570237657b01c"), looks := true }, kinds := [], alts := [], laidByText := true, laidKinds := [.data, .data, .data, .data, .data, .data, .data], laidTests := true, laidLooks := .later }
def KeyringPrintsCardSaid : Prop := Claim7.holds Tryd.pinned (.plain (OpenSpec.ofChange keyringPrintsSpec)) keyringPrintsCard

/-- THE TIED CARD OF 'casketlaw7.KeyringParses'. -/
def keyringParsesCard : Claim7 := { stood := { row := keyringParsesRow, standIns := [], harness := (true, "9ae437e25de27daa926e8ab25e7f16797ec9cd3d25216f50b59570237657b01c"), looks := true }, kinds := [], alts := [], laidByText := true, laidKinds := [.data, .data, .data, .data, .data, .data, .data], laidTests := true, laidLooks := .later }
def KeyringParsesCardSaid : Prop := Claim7.holds Tryd.pinned (.plain (OpenSpec.ofChange keyringParsesSpec)) keyringParsesCard

/-- THE SECOND FORM's CARD OF 'casketlaw7.KeyringPrints'. -/
def keyringPrintsUptoCard : Claim7 := { stood := { row := keyringPrintsUptoRow, standIns := [], harness := (true, "9ae437e25de27daa926e8ab25e7f16797ec9cd3d25216f50b59570237657b01c"), looks := true }, kinds := [], alts := [], laidByText := true, laidKinds := [.data, .data, .data, .data, .data, .data, .data], laidTests := true, laidLooks := .later }
def KeyringPrintsUptoCardSaid : Prop := Claim7.holds Tryd.pinned (.plain (OpenSpec.upto keyringPrintsSpec)) keyringPrintsUptoCard

/-- THE SECOND FORM's CARD OF 'casketlaw7.KeyringParses'. -/
def keyringParsesUptoCard : Claim7 := { stood := { row := keyringParsesUptoRow, standIns := [], harness := (true, "9ae437e25de27daa926e8ab25e7f16797ec9cd3d25216f50b59570237657b01c"), looks := true }, kinds := [], alts := [], laidByText := true, laidKinds := [.data, .data, .data, .data, .data, .data, .data], laidTests := true, laidLooks := .later }
def KeyringParsesUptoCardSaid : Prop := Claim7.holds Tryd.pinned (.plain (OpenSpec.upto keyringParsesSpec)) keyringParsesUptoCard
end Rows
end Go.Proofs.YtbjiamaaocjbfaaDoor
