/-
  DERIVED. GIVEN WITH THE SEED: THE CARDS: each row of YtcfmcjdgdpignaaDoorRows.lean that lists a variable, with what it lists TIED to the program's text (the seventh form; the later family's looks); each row that meets fmt, with fmt's text TOLD by the authors' own Lean function (tested against real Go, not proved from fmt's source: count such statements apart). THE CARD IS WHAT COUNTS. Prove the row's statement (the work); the ties are given (YtcfmcjdgdpignaaDoorTie.lean); close each card by the builder's one call (the guide's Derived/Test/ToyasCard.lean, 'card_holds'). Laid BY PROGRAM, IN A SANDBOX (cutbox-door.mjs). By AI agents, Wed Nov 11 2026. No macro, syntax, notation, axiom, sorry.
-/
import Derived.Test.YtcfmcjdgdpignaaDoorRows
import GoSem.ClaimSeven
namespace Go.Proofs.YtcfmcjdgdpignaaDoor
namespace Rows

/-- THE TIED CARD OF 'casketlaw2.ShaStates'. -/
def shaStatesCard : Claim7 := { stood := { row := shaStatesRow, standIns := [], harness := (true, "7469aa8d7a9ed00c7b8e5e26d00954cd32b95b338020f86db79dbd3743cfe6d0"), looks := false }, kinds := [], alts := [], laidByText := true, laidKinds := [.data, .data], laidTests := true, laidLooks := .later }
def ShaStatesCardSaid : Prop := Claim7.holds Tryd.pinned (.plain (OpenSpec.ofChange shaStatesSpec)) shaStatesCard

/-- THE TIED CARD OF 'casketlaw2.ShaHashers'. -/
def shaHashersCard : Claim7 := { stood := { row := shaHashersRow, standIns := [], harness := (true, "7469aa8d7a9ed00c7b8e5e26d00954cd32b95b338020f86db79dbd3743cfe6d0"), looks := false }, kinds := [], alts := [], laidByText := true, laidKinds := [.data, .data, .data, .data], laidTests := true, laidLooks := .later }
def ShaHashersCardSaid : Prop := Claim7.holds Tryd.pinned (.plain (OpenSpec.ofChange shaHashersSpec)) shaHashersCard

/-- THE SECOND FORM's CARD OF 'casketlaw2.ShaStates'. -/
def shaStatesUptoCard : Claim7 := { stood := { row := shaStatesUptoRow, standIns := [], harness := (true, "7469aa8d7a9ed00c7b8e5e26d00954cd32b95b338020f86db79dbd3743cfe6d0"), looks := false }, kinds := [], alts := [], laidByText := true, laidKinds := [.data, .data], laidTests := true, laidLooks := .later }
def ShaStatesUptoCardSaid : Prop := Claim7.holds Tryd.pinned (.plain (OpenSpec.upto shaStatesSpec)) shaStatesUptoCard

/-- THE SECOND FORM's CARD OF 'casketlaw2.ShaHashers'. -/
def shaHashersUptoCard : Claim7 := { stood := { row := shaHashersUptoRow, standIns := [], harness := (true, "7469aa8d7a9ed00c7b8e5e26d00954cd32b95b338020f86db79dbd3743cfe6d0"), looks := false }, kinds := [], alts := [], laidByText := true, laidKinds := [.data, .data, .data, .data], laidTests := true, laidLooks := .later }
def ShaHashersUptoCardSaid : Prop := Claim7.holds Tryd.pinned (.plain (OpenSpec.upto shaHashersSpec)) shaHashersUptoCard
end Rows
end Go.Proofs.YtcfmcjdgdpignaaDoor
