/-
  DERIVED. GIVEN WITH THE SEED: THE CARDS: each row of YtbjiamaaocjbfaaGreatDoorRows.lean that lists a variable, with what it lists TIED to the program's text (the seventh form; the later family's looks); each row that meets fmt, with fmt's text TOLD by the authors' own Lean function (tested against real Go, not proved from fmt's source: count such statements apart). THE CARD IS WHAT COUNTS. Prove the row's statement (the work); the ties are given (YtbjiamaaocjbfaaGreatDoorTie.lean); close each card by the builder's one call (the guide's Derived/Test/ToyasCard.lean, 'card_holds'). Laid BY PROGRAM, IN A SANDBOX (cutbox-door.mjs). By AI agents, Wed Nov 11 2026. No macro, syntax, notation, axiom, sorry.
-/
import Derived.Test.YtbjiamaaocjbfaaGreatDoorRows
import GoSem.ClaimSeven
namespace Go.Proofs.YtbjiamaaocjbfaaGreatDoor
namespace Rows

/-- THE TIED CARD OF 'casketlaw7.KeyringTold'. -/
def keyringToldCard : Claim7 := { stood := { row := keyringToldRow, standIns := [], harness := (true, "df575c4d1f7d5ef5786ad44d6b6c195e349ab8a7191de2d82a0e300ea9ced2c2"), looks := true }, kinds := [], alts := [], laidByText := true, laidKinds := [.data, .data, .data, .data, .data, .data, .data, .data], laidTests := true, laidLooks := .later }
def KeyringToldCardSaid : Prop := Claim7.holds Tryz.pinned (.plain (OpenSpec.ofChange keyringToldSpec)) keyringToldCard

/-- THE TIED CARD OF 'casketlaw7.KeyringBound'. -/
def keyringBoundCard : Claim7 := { stood := { row := keyringBoundRow, standIns := [], harness := (true, "df575c4d1f7d5ef5786ad44d6b6c195e349ab8a7191de2d82a0e300ea9ced2c2"), looks := true }, kinds := [], alts := [], laidByText := true, laidKinds := [.data, .data, .data, .data, .data, .data, .data, .data], laidTests := true, laidLooks := .later }
def KeyringBoundCardSaid : Prop := Claim7.holds Tryz.pinned (.plain (OpenSpec.ofChange keyringBoundSpec)) keyringBoundCard

/-- THE TIED CARD OF 'casketlaw7.KeyringRefuses'. -/
def keyringRefusesCard : Claim7 := { stood := { row := keyringRefusesRow, standIns := [], harness := (true, "df575c4d1f7d5ef5786ad44d6b6c195e349ab8a7191de2d82a0e300ea9ced2c2"), looks := true }, kinds := [], alts := [], laidByText := true, laidKinds := [.data, .data, .data, .data, .data, .data, .data, .data], laidTests := true, laidLooks := .later }
def KeyringRefusesCardSaid : Prop := Claim7.holds Tryz.pinned (.plain (OpenSpec.ofChange keyringRefusesSpec)) keyringRefusesCard

/-- THE TIED CARD OF 'casketlaw7.KeyringOpens'. -/
def keyringOpensCard : Claim7 := { stood := { row := keyringOpensRow, standIns := [], harness := (true, "df575c4d1f7d5ef5786ad44d6b6c195e349ab8a7191de2d82a0e300ea9ced2c2"), looks := true }, kinds := [], alts := [], laidByText := true, laidKinds := [.data, .data, .data, .data, .data, .data, .data, .data], laidTests := true, laidLooks := .later }
def KeyringOpensCardSaid : Prop := Claim7.holds Tryz.pinned (.plain (OpenSpec.ofChange keyringOpensSpec)) keyringOpensCard

/-- THE SECOND FORM's CARD OF 'casketlaw7.KeyringTold'. -/
def keyringToldUptoCard : Claim7 := { stood := { row := keyringToldUptoRow, standIns := [], harness := (true, "df575c4d1f7d5ef5786ad44d6b6c195e349ab8a7191de2d82a0e300ea9ced2c2"), looks := true }, kinds := [], alts := [], laidByText := true, laidKinds := [.data, .data, .data, .data, .data, .data, .data, .data], laidTests := true, laidLooks := .later }
def KeyringToldUptoCardSaid : Prop := Claim7.holds Tryz.pinned (.plain (OpenSpec.upto keyringToldSpec)) keyringToldUptoCard

/-- THE SECOND FORM's CARD OF 'casketlaw7.KeyringBound'. -/
def keyringBoundUptoCard : Claim7 := { stood := { row := keyringBoundUptoRow, standIns := [], harness := (true, "df575c4d1f7d5ef5786ad44d6b6c195e349ab8a7191de2d82a0e300ea9ced2c2"), looks := true }, kinds := [], alts := [], laidByText := true, laidKinds := [.data, .data, .data, .data, .data, .data, .data, .data], laidTests := true, laidLooks := .later }
def KeyringBoundUptoCardSaid : Prop := Claim7.holds Tryz.pinned (.plain (OpenSpec.upto keyringBoundSpec)) keyringBoundUptoCard

/-- THE SECOND FORM's CARD OF 'casketlaw7.KeyringRefuses'. -/
def keyringRefusesUptoCard : Claim7 := { stood := { row := keyringRefusesUptoRow, standIns := [], harness := (true, "df575c4d1f7d5ef5786ad44d6b6c195e349ab8a7191de2d82a0e300ea9ced2c2"), looks := true }, kinds := [], alts := [], laidByText := true, laidKinds := [.data, .data, .data, .data, .data, .data, .data, .data], laidTests := true, laidLooks := .later }
def KeyringRefusesUptoCardSaid : Prop := Claim7.holds Tryz.pinned (.plain (OpenSpec.upto keyringRefusesSpec)) keyringRefusesUptoCard

/-- THE SECOND FORM's CARD OF 'casketlaw7.KeyringOpens'. -/
def keyringOpensUptoCard : Claim7 := { stood := { row := keyringOpensUptoRow, standIns := [], harness := (true, "df575c4d1f7d5ef5786ad44d6b6c195e349ab8a7191de2d82a0e300ea9ced2c2"), looks := true }, kinds := [], alts := [], laidByText := true, laidKinds := [.data, .data, .data, .data, .data, .data, .data, .data], laidTests := true, laidLooks := .later }
def KeyringOpensUptoCardSaid : Prop := Claim7.holds Tryz.pinned (.plain (OpenSpec.upto keyringOpensSpec)) keyringOpensUptoCard
end Rows
end Go.Proofs.YtbjiamaaocjbfaaGreatDoor
