/-
  DERIVED. GIVEN WITH THE SEED: THE PROGRAM's TIES (one call each: nine closed facts by the kernel) AND EACH ROW's TIE, after the 31st guide's Derived/Test/Toyas{Tie, Card}.lean. No idea stands in it: it is a product of the set-up. Laid BY PROGRAM, IN A SANDBOX (cutbox-door.mjs). By AI agents, Wed Nov 11 2026. No macro, syntax, notation, axiom, sorry.
-/
import Derived.Test.YtjjabkimmgcejabDoorRows
import Derived.LaidByTextLater
import Derived.SevenTiedAt
import Derived.LaidSub
import Derived.LaidOnce
namespace Go.Proofs.YtjjabkimmgcejabDoor
open Go
set_option maxRecDepth 100000
theorem seatTie1 : Tryd.prog.laidByTextLater [("casket/casketref2.roots", Rows.laid_casket_casketref2_roots), ("casket/casketref2.powers", Rows.laid_casket_casketref2_powers), ("casket/sha.firstWords", Rows.laid_casket_sha_firstWords), ("casket/sha.stepWords", Rows.laid_casket_sha_stepWords)] [.data, .data, .data, .data] true :=
  Program.laidByTextLater_by_one 29 8 65 (by kernel_rfl) (by kernel_rfl) (by kernel_rfl) (by kernel_rfl) (by kernel_rfl) (by kernel_rfl) (fun _ _ => by kernel_rfl)
theorem noOwnUnsafe : Tryd.pinned.checked.prog.headLifts.contains "ownunsafe" = false := by kernel_rfl
theorem tie : Tryd.prog.laidByTextLater [("casket/casketref2.roots", Rows.laid_casket_casketref2_roots), ("casket/casketref2.powers", Rows.laid_casket_casketref2_powers), ("casket/sha.firstWords", Rows.laid_casket_sha_firstWords), ("casket/sha.stepWords", Rows.laid_casket_sha_stepWords)] [.data, .data, .data, .data] true :=
  Program.laidByTextLater.sub seatTie1 ["casket/casketref2.roots", "casket/casketref2.powers", "casket/sha.firstWords", "casket/sha.stepWords"] (by kernel_rfl) (by kernel_rfl)
theorem kdfPasses_row_tie : Rows.kdfPassesRow.laidByTextAt .later Tryd.pinned [.data, .data, .data, .data] true :=
  OpenClaim.laidByTextAt_later rfl rfl tie noOwnUnsafe
theorem kdfExpands_row_tie : Rows.kdfExpandsRow.laidByTextAt .later Tryd.pinned [.data, .data, .data, .data] true :=
  OpenClaim.laidByTextAt_later rfl rfl tie noOwnUnsafe
theorem kdfPassesUpto_row_tie : Rows.kdfPassesUptoRow.laidByTextAt .later Tryd.pinned [.data, .data, .data, .data] true :=
  OpenClaim.laidByTextAt_later rfl rfl tie noOwnUnsafe
theorem kdfExpandsUpto_row_tie : Rows.kdfExpandsUptoRow.laidByTextAt .later Tryd.pinned [.data, .data, .data, .data] true :=
  OpenClaim.laidByTextAt_later rfl rfl tie noOwnUnsafe
end Go.Proofs.YtjjabkimmgcejabDoor
