/-
  DERIVED. GIVEN WITH THE SEED: THE CARDS: each row of YtigiogjefnkpdaaGreatDoorRows.lean that lists a variable, with what it lists TIED to the program's text (the seventh form; the later family's looks); each row that meets fmt, with fmt's text TOLD by the authors' own Lean function (tested against real Go, not proved from fmt's source: count such statements apart). THE CARD IS WHAT COUNTS. Prove the row's statement (the work); the ties are given (YtigiogjefnkpdaaGreatDoorTie.lean); close each card by the builder's one call (the guide's Derived/Test/ToyasCard.lean, 'card_holds'). Laid BY PROGRAM, IN A SANDBOX (cutbox-door.mjs). By AI agents, Wed Nov 11 2026. No macro, syntax, notation, axiom, sorry.
-/
import Derived.Test.YtigiogjefnkpdaaGreatDoorRows
import GoSem.ClaimSeven
namespace Go.Proofs.YtigiogjefnkpdaaGreatDoor
namespace Rows

/-- THE TIED CARD OF 'paylaw8.BankTells'. -/
def bankTellsCard : Claim7 := { stood := { row := bankTellsRow, standIns := [], harness := (true, "0550cd3958962af2b0f61c808fbf364f7659f4556df97326e586945e8731b37a"), looks := false }, kinds := [], alts := [], laidByText := true, laidKinds := [.data], laidTests := true, laidLooks := .later }
def BankTellsCardSaid : Prop := Claim7.holds Tryz.pinned (.plain (OpenSpec.ofChange bankTellsSpec)) bankTellsCard

/-- THE SECOND FORM's CARD OF 'paylaw8.BankTells'. -/
def bankTellsUptoCard : Claim7 := { stood := { row := bankTellsUptoRow, standIns := [], harness := (true, "0550cd3958962af2b0f61c808fbf364f7659f4556df97326e586945e8731b37a"), looks := false }, kinds := [], alts := [], laidByText := true, laidKinds := [.data], laidTests := true, laidLooks := .later }
def BankTellsUptoCardSaid : Prop := Claim7.holds Tryz.pinned (.plain (OpenSpec.upto bankTellsSpec)) bankTellsUptoCard
end Rows
end Go.Proofs.YtigiogjefnkpdaaGreatDoor
