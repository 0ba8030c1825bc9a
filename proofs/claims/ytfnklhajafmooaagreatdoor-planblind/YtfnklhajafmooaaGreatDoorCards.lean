/-
  DERIVED. GIVEN WITH THE SEED: THE CARDS: each row of YtfnklhajafmooaaGreatDoorRows.lean that lists a variable, with what it lists TIED to the program's text (the seventh form; the later family's looks); each row that meets fmt, with fmt's text TOLD by the authors' own Lean function (tested against real Go, not proved from fmt's source: count such statements apart). THE CARD IS WHAT COUNTS. Prove the row's statement (the work); the ties are given (YtfnklhajafmooaaGreatDoorTie.lean); close each card by the builder's one call (the guide's Derived/Test/ToyasCard.lean, 'card_holds'). Laid BY PROGRAM, IN A SANDBOX (cutbox-door.mjs). By AI agents, Wed Nov 11 2026. No macro, syntax, notation, axiom, sorry.
-/
import Derived.Test.YtfnklhajafmooaaGreatDoorRows
import GoSem.ClaimSeven
namespace Go.Proofs.YtfnklhajafmooaaGreatDoor
namespace Rows

/-- THE TIED CARD OF 'casketlaw15.PlanQueue'. -/
def planQueueCard : Claim7 := { stood := { row := planQueueRow, standIns := [], harness := (true, "7b213f4e6e6d57eebb05d412ab903d51e0d82f32442265faac8f2f20e245aeff"), looks := true }, kinds := [], alts := [], laidByText := true, laidKinds := [.data, .data, .pinned], laidTests := true, laidLooks := .later }
def PlanQueueCardSaid : Prop := Claim7.holds Tryz.pinned (.plain (OpenSpec.ofChange planQueueSpec)) planQueueCard

/-- THE TIED CARD OF 'casketlaw15.PlanShape'. -/
def planShapeCard : Claim7 := { stood := { row := planShapeRow, standIns := [], harness := (true, "7b213f4e6e6d57eebb05d412ab903d51e0d82f32442265faac8f2f20e245aeff"), looks := true }, kinds := [], alts := [], laidByText := true, laidKinds := [.data, .data, .pinned], laidTests := true, laidLooks := .later }
def PlanShapeCardSaid : Prop := Claim7.holds Tryz.pinned (.plain (OpenSpec.ofChange planShapeSpec)) planShapeCard

/-- THE TIED CARD OF 'casketlaw15.PlanBlind'. -/
def planBlindCard : Claim7 := { stood := { row := planBlindRow, standIns := [], harness := (true, "7b213f4e6e6d57eebb05d412ab903d51e0d82f32442265faac8f2f20e245aeff"), looks := true }, kinds := [], alts := [], laidByText := true, laidKinds := [.data, .data, .pinned], laidTests := true, laidLooks := .later }
def PlanBlindCardSaid : Prop := Claim7.holds Tryz.pinned (.plain (OpenSpec.ofChange planBlindSpec)) planBlindCard

/-- THE TIED CARD OF 'casketlaw15.PlanSteps'. -/
def planStepsCard : Claim7 := { stood := { row := planStepsRow, standIns := [], harness := (true, "7b213f4e6e6d57eebb05d412ab903d51e0d82f32442265faac8f2f20e245aeff"), looks := true }, kinds := [], alts := [], laidByText := true, laidKinds := [.data, .data, .pinned], laidTests := true, laidLooks := .later }
def PlanStepsCardSaid : Prop := Claim7.holds Tryz.pinned (.plain (OpenSpec.ofChange planStepsSpec)) planStepsCard

/-- THE SECOND FORM's CARD OF 'casketlaw15.PlanQueue'. -/
def planQueueUptoCard : Claim7 := { stood := { row := planQueueUptoRow, standIns := [], harness := (true, "7b213f4e6e6d57eebb05d412ab903d51e0d82f32442265faac8f2f20e245aeff"), looks := true }, kinds := [], alts := [], laidByText := true, laidKinds := [.data, .data, .pinned], laidTests := true, laidLooks := .later }
def PlanQueueUptoCardSaid : Prop := Claim7.holds Tryz.pinned (.plain (OpenSpec.upto planQueueSpec)) planQueueUptoCard

/-- THE SECOND FORM's CARD OF 'casketlaw15.PlanShape'. -/
def planShapeUptoCard : Claim7 := { stood := { row := planShapeUptoRow, standIns := [], harness := (true, "7b213f4e6e6d57eebb05d412ab903d51e0d82f32442265faac8f2f20e245aeff"), looks := true }, kinds := [], alts := [], laidByText := true, laidKinds := [.data, .data, .pinned], laidTests := true, laidLooks := .later }
def PlanShapeUptoCardSaid : Prop := Claim7.holds Tryz.pinned (.plain (OpenSpec.upto planShapeSpec)) planShapeUptoCard

/-- THE SECOND FORM's CARD OF 'casketlaw15.PlanBlind'. -/
def planBlindUptoCard : Claim7 := { stood := { row := planBlindUptoRow, standIns := [], harness := (true, "7b213f4e6e6d57eebb05d412ab903d51e0d82f32442265faac8f2f20e245aeff"), looks := true }, kinds := [], alts := [], laidByText := true, laidKinds := [.data, .data, .pinned], laidTests := true, laidLooks := .later }
def PlanBlindUptoCardSaid : Prop := Claim7.holds Tryz.pinned (.plain (OpenSpec.upto planBlindSpec)) planBlindUptoCard

/-- THE SECOND FORM's CARD OF 'casketlaw15.PlanSteps'. -/
def planStepsUptoCard : Claim7 := { stood := { row := planStepsUptoRow, standIns := [], harness := (true, "7b213f4e6e6d57eebb05d412ab903d51e0d82f32442265faac8f2f20e245aeff"), looks := true }, kinds := [], alts := [], laidByText := true, laidKinds := [.data, .data, .pinned], laidTests := true, laidLooks := .later }
def PlanStepsUptoCardSaid : Prop := Claim7.holds Tryz.pinned (.plain (OpenSpec.upto planStepsSpec)) planStepsUptoCard
end Rows
end Go.Proofs.YtfnklhajafmooaaGreatDoor
