/-
  DERIVED. GIVEN WITH THE SEED: THE PROGRAM's TIES (one call each: nine closed facts by the kernel) AND EACH ROW's TIE, after the 31st guide's Derived/Test/Toyas{Tie, Card}.lean. No idea stands in it: it is a product of the set-up. Laid BY PROGRAM, IN A SANDBOX (cutbox-door.mjs). By AI agents, Wed Nov 11 2026. No macro, syntax, notation, axiom, sorry.
-/
import Derived.Test.YtengclnahppmhaaGreatDoorRows
import Derived.LaidByTextLater
import Derived.SevenTiedAt
import Derived.LaidSub
import Derived.LaidOnce
namespace Go.Proofs.YtengclnahppmhaaGreatDoor
open Go
set_option maxRecDepth 100000
theorem seatTie1 : Tryz.prog.laidByTextLater [("casket/casketref2.roots", Rows.laid_casket_casketref2_roots), ("casket/casketref2.powers", Rows.laid_casket_casketref2_powers), ("casket/casketref4.places", Rows.laid_casket_casketref4_places), ("casket/poly.kept", Rows.laid_casket_poly_kept), ("casket/chacha.firstWords", Rows.laid_casket_chacha_firstWords), ("casket/chacha.doubleRound", Rows.laid_casket_chacha_doubleRound), ("casket/sha.firstWords", Rows.laid_casket_sha_firstWords), ("casket/sha.stepWords", Rows.laid_casket_sha_stepWords)] [.data, .data, .data, .data, .data, .data, .data, .data] true :=
  Program.laidByTextLater_by_one 57 8 65 (by kernel_rfl) (by kernel_rfl) (by kernel_rfl) (by kernel_rfl) (by kernel_rfl) (by kernel_rfl) (fun _ _ => by kernel_rfl)
theorem noOwnUnsafe : Tryz.pinned.checked.prog.headLifts.contains "ownunsafe" = false := by kernel_rfl
theorem tie : Tryz.prog.laidByTextLater [("casket/casketref2.roots", Rows.laid_casket_casketref2_roots), ("casket/casketref2.powers", Rows.laid_casket_casketref2_powers), ("casket/casketref4.places", Rows.laid_casket_casketref4_places), ("casket/poly.kept", Rows.laid_casket_poly_kept), ("casket/chacha.firstWords", Rows.laid_casket_chacha_firstWords), ("casket/chacha.doubleRound", Rows.laid_casket_chacha_doubleRound)] [.data, .data, .data, .data, .data, .data] true :=
  Program.laidByTextLater.sub seatTie1 ["casket/casketref2.roots", "casket/casketref2.powers", "casket/casketref4.places", "casket/poly.kept", "casket/chacha.firstWords", "casket/chacha.doubleRound"] (by kernel_rfl) (by kernel_rfl)
theorem sealIdeals_row_tie : Rows.sealIdealsRow.laidByTextAt .later Tryz.pinned [.data, .data, .data, .data, .data, .data] true :=
  OpenClaim.laidByTextAt_later rfl rfl tie noOwnUnsafe
theorem tie2 : Tryz.prog.laidByTextLater [("casket/casketref2.roots", Rows.laid_casket_casketref2_roots), ("casket/casketref2.powers", Rows.laid_casket_casketref2_powers), ("casket/casketref4.places", Rows.laid_casket_casketref4_places), ("casket/poly.kept", Rows.laid_casket_poly_kept), ("casket/chacha.firstWords", Rows.laid_casket_chacha_firstWords), ("casket/chacha.doubleRound", Rows.laid_casket_chacha_doubleRound), ("casket/sha.firstWords", Rows.laid_casket_sha_firstWords), ("casket/sha.stepWords", Rows.laid_casket_sha_stepWords)] [.data, .data, .data, .data, .data, .data, .data, .data] true :=
  Program.laidByTextLater.sub seatTie1 ["casket/casketref2.roots", "casket/casketref2.powers", "casket/casketref4.places", "casket/poly.kept", "casket/chacha.firstWords", "casket/chacha.doubleRound", "casket/sha.firstWords", "casket/sha.stepWords"] (by kernel_rfl) (by kernel_rfl)
theorem sealReals_row_tie : Rows.sealRealsRow.laidByTextAt .later Tryz.pinned [.data, .data, .data, .data, .data, .data, .data, .data] true :=
  OpenClaim.laidByTextAt_later rfl rfl tie2 noOwnUnsafe
theorem sealIdealsUpto_row_tie : Rows.sealIdealsUptoRow.laidByTextAt .later Tryz.pinned [.data, .data, .data, .data, .data, .data] true :=
  OpenClaim.laidByTextAt_later rfl rfl tie noOwnUnsafe
theorem sealRealsUpto_row_tie : Rows.sealRealsUptoRow.laidByTextAt .later Tryz.pinned [.data, .data, .data, .data, .data, .data, .data, .data] true :=
  OpenClaim.laidByTextAt_later rfl rfl tie2 noOwnUnsafe
end Go.Proofs.YtengclnahppmhaaGreatDoor
