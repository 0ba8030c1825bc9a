/-
  DERIVED. GIVEN WITH THE SEED: THE CARDS: each row of YtengclnahppmhaaGreatDoorRows.lean that lists a variable, with what it lists TIED to the program's text (the seventh form; the later family's looks); each row that meets fmt, with fmt's text TOLD by the authors' own Lean function (tested against real Go, not proved from fmt's source: count such statements apart). THE CARD IS WHAT COUNTS. Prove the row's statement (the work); the ties are given (YtengclnahppmhaaGreatDoorTie.lean); close each card by the builder's one call (the guide's Derived/Test/ToyasCard.lean, 'card_holds'). Laid BY PROGRAM, IN A SANDBOX (cutbox-door.mjs). By AI agents, Wed Nov 11 2026. No macro, syntax, notation, axiom, sorry.
-/
import Derived.Test.YtengclnahppmhaaGreatDoorRows
import GoSem.ClaimSeven
namespace Go.Proofs.YtengclnahppmhaaGreatDoor
namespace Rows

/-- THE TIED CARD OF 'casketlaw8.SealIdeals'. -/
def sealIdealsCard : Claim7 := { stood := { row := sealIdealsRow, standIns := [], harness := (true, "cb68c8f9dbff26bb0eb355481c29d110a5759b0388726d1ab48c3d830f3bf872"), looks := false }, kinds := [], alts := [], laidByText := true, laidKinds := [.data, .data, .data, .data, .data, .data], laidTests := true, laidLooks := .later }
def SealIdealsCardSaid : Prop := Claim7.holds Tryz.pinned (.plain (OpenSpec.ofChange sealIdealsSpec)) sealIdealsCard

/-- THE TIED CARD OF 'casketlaw8.SealReals'. -/
def sealRealsCard : Claim7 := { stood := { row := sealRealsRow, standIns := [], harness := (true, "cb68c8f9dbff26bb0eb355481c29d110a5759b0388726d1ab48c3d830f3bf872"), looks := false }, kinds := [], alts := [], laidByText := true, laidKinds := [.data, .data, .data, .data, .data, .data, .data, .data], laidTests := true, laidLooks := .later }
def SealRealsCardSaid : Prop := Claim7.holds Tryz.pinned (.plain (OpenSpec.ofChange sealRealsSpec)) sealRealsCard

/-- THE SECOND FORM's CARD OF 'casketlaw8.SealIdeals'. -/
def sealIdealsUptoCard : Claim7 := { stood := { row := sealIdealsUptoRow, standIns := [], harness := (true, "cb68c8f9dbff26bb0eb355481c29d110a5759b0388726d1ab48c3d830f3bf872"), looks := false }, kinds := [], alts := [], laidByText := true, laidKinds := [.data, .data, .data, .data, .data, .data], laidTests := true, laidLooks := .later }
def SealIdealsUptoCardSaid : Prop := Claim7.holds Tryz.pinned (.plain (OpenSpec.upto sealIdealsSpec)) sealIdealsUptoCard

/-- THE SECOND FORM's CARD OF 'casketlaw8.SealReals'. -/
def sealRealsUptoCard : Claim7 := { stood := { row := sealRealsUptoRow, standIns := [], harness := (true, "cb68c8f9dbff26bb0eb355481c29d110a5759b0388726d1ab48c3d830f3bf872"), looks := false }, kinds := [], alts := [], laidByText := true, laidKinds := [.data, .data, .data, .data, .data, .data, .data, .data], laidTests := true, laidLooks := .later }
def SealRealsUptoCardSaid : Prop := Claim7.holds Tryz.pinned (.plain (OpenSpec.upto sealRealsSpec)) sealRealsUptoCard
end Rows
end Go.Proofs.YtengclnahppmhaaGreatDoor
