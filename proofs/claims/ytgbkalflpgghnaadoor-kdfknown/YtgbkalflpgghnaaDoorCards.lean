/-
  DERIVED. GIVEN WITH THE SEED: THE CARDS: each row of YtgbkalflpgghnaaDoorRows.lean that lists a variable, with what it lists TIED to the program's text (the seventh form; the later family's looks); each row that meets fmt, with fmt's text TOLD by the authors' own Lean function (tested against real Go, not proved from fmt's source: count such statements apart). THE CARD IS WHAT COUNTS. Prove the row's statement (the work); the ties are given (YtgbkalflpgghnaaDoorTie.lean); close each card by the builder's one call (the guide's Derived/Test/ToyasCard.lean, 'card_holds'). Laid BY PROGRAM, IN A SANDBOX (cutbox-door.mjs). By AI agents, Wed Nov 11 2026. No macro, syntax, notation, axiom, sorry.
-/
import Derived.Test.YtgbkalflpgghnaaDoorRows
import GoSem.ClaimSeven
namespace Go.Proofs.YtgbkalflpgghnaaDoor
namespace Rows

/-- THE TIED CARD OF 'casketlaw3.KdfKnown'. -/
def kdfKnownCard : Claim7 := { stood := { row := kdfKnownRow, standIns := [], harness := (true, "7c8b0903d0e526dada3db12f7505ee22634e95396f3868e92e8ddabf34a72174"), looks := false }, kinds := [], alts := [], laidByText := true, laidKinds := [.data, .data], laidTests := true, laidLooks := .later }
def KdfKnownCardSaid : Prop := Claim7.holds Tryd.pinned (.plain (OpenSpec.ofChange kdfKnownSpec)) kdfKnownCard

/-- THE SECOND FORM's CARD OF 'casketlaw3.KdfKnown'. -/
def kdfKnownUptoCard : Claim7 := { stood := { row := kdfKnownUptoRow, standIns := [], harness := (true, "7c8b0903d0e526dada3db12f7505ee22634e95396f3868e92e8ddabf34a72174"), looks := false }, kinds := [], alts := [], laidByText := true, laidKinds := [.data, .data], laidTests := true, laidLooks := .later }
def KdfKnownUptoCardSaid : Prop := Claim7.holds Tryd.pinned (.plain (OpenSpec.upto kdfKnownSpec)) kdfKnownUptoCard
end Rows
end Go.Proofs.YtgbkalflpgghnaaDoor
