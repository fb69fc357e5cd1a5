/-
  DERIVED. GIVEN WITH THE SEED: THE CARDS: each row of YtofcnebekmjdoaaGreatDoorRows.lean that lists a variable, with what it lists TIED to the program's text (the seventh form; the later family's looks); each row that meets fmt, with fmt's text TOLD by the authors' own Lean function (tested against real Go, not proved from fmt's source: count such statements apart). THE CARD IS WHAT COUNTS. Prove the row's statement (the work); the ties are given (YtofcnebekmjdoaaGreatDoorTie.lean); close each card by the builder's one call (the guide's Derived/Test/ToyasCard.lean, 'card_holds'). Laid BY PROGRAM, IN A SANDBOX (cutbox-door.mjs). By AI agents, Wed Nov 11 2026. No macro, syntax, notation, axiom, sorry.
-/
import Derived.Test.YtofcnebekmjdoaaGreatDoorRows
import GoSem.ClaimSeven
namespace Go.Proofs.YtofcnebekmjdoaaGreatDoor
namespace Rows

/-- THE TIED CARD OF 'paylaw8.BankTells'. -/
def bankTellsCard : Claim7 := { stood := { row := bankTellsRow, standIns := [], harness := (true, "48959a3c5605905780b7d1cc20325f37e86725568a751af1d2c54b29a370fea7"), looks := false }, kinds := [], alts := [], laidByText := true, laidKinds := [.data], laidTests := true, laidLooks := .later }
def BankTellsCardSaid : Prop := Claim7.holds Tryz.pinned (.plain (OpenSpec.ofChange bankTellsSpec)) bankTellsCard

/-- THE TIED CARD OF 'paylaw8.BankBook'. -/
def bankBookCard : Claim7 := { stood := { row := bankBookRow, standIns := [], harness := (true, "48959a3c5605905780b7d1cc20325f37e86725568a751af1d2c54b29a370fea7"), looks := false }, kinds := [], alts := [], laidByText := true, laidKinds := [.data], laidTests := true, laidLooks := .later }
def BankBookCardSaid : Prop := Claim7.holds Tryz.pinned (.plain (OpenSpec.ofChange bankBookSpec)) bankBookCard

/-- THE TIED CARD OF 'paylaw8.BankHeld'. -/
def bankHeldCard : Claim7 := { stood := { row := bankHeldRow, standIns := [], harness := (true, "48959a3c5605905780b7d1cc20325f37e86725568a751af1d2c54b29a370fea7"), looks := false }, kinds := [], alts := [], laidByText := true, laidKinds := [.data], laidTests := true, laidLooks := .later }
def BankHeldCardSaid : Prop := Claim7.holds Tryz.pinned (.plain (OpenSpec.ofChange bankHeldSpec)) bankHeldCard

/-- THE TIED CARD OF 'paylaw8.BankFree'. -/
def bankFreeCard : Claim7 := { stood := { row := bankFreeRow, standIns := [], harness := (true, "48959a3c5605905780b7d1cc20325f37e86725568a751af1d2c54b29a370fea7"), looks := false }, kinds := [], alts := [], laidByText := true, laidKinds := [.data], laidTests := true, laidLooks := .later }
def BankFreeCardSaid : Prop := Claim7.holds Tryz.pinned (.plain (OpenSpec.ofChange bankFreeSpec)) bankFreeCard

/-- THE TIED CARD OF 'paylaw8.BankOnce'. -/
def bankOnceCard : Claim7 := { stood := { row := bankOnceRow, standIns := [], harness := (true, "48959a3c5605905780b7d1cc20325f37e86725568a751af1d2c54b29a370fea7"), looks := false }, kinds := [], alts := [], laidByText := true, laidKinds := [.data], laidTests := true, laidLooks := .later }
def BankOnceCardSaid : Prop := Claim7.holds Tryz.pinned (.plain (OpenSpec.ofChange bankOnceSpec)) bankOnceCard

/-- THE TIED CARD OF 'paylaw8.BankDrains'. -/
def bankDrainsCard : Claim7 := { stood := { row := bankDrainsRow, standIns := [], harness := (true, "48959a3c5605905780b7d1cc20325f37e86725568a751af1d2c54b29a370fea7"), looks := false }, kinds := [], alts := [], laidByText := true, laidKinds := [.data], laidTests := true, laidLooks := .later }
def BankDrainsCardSaid : Prop := Claim7.holds Tryz.pinned (.plain (OpenSpec.ofChange bankDrainsSpec)) bankDrainsCard

/-- THE TIED CARD OF 'paylaw8.BankDays'. -/
def bankDaysCard : Claim7 := { stood := { row := bankDaysRow, standIns := [], harness := (true, "48959a3c5605905780b7d1cc20325f37e86725568a751af1d2c54b29a370fea7"), looks := false }, kinds := [], alts := [], laidByText := true, laidKinds := [.data], laidTests := true, laidLooks := .later }
def BankDaysCardSaid : Prop := Claim7.holds Tryz.pinned (.plain (OpenSpec.ofChange bankDaysSpec)) bankDaysCard

/-- THE TIED CARD OF 'paylaw8.BankRefused'. -/
def bankRefusedCard : Claim7 := { stood := { row := bankRefusedRow, standIns := [], harness := (true, "48959a3c5605905780b7d1cc20325f37e86725568a751af1d2c54b29a370fea7"), looks := false }, kinds := [], alts := [], laidByText := true, laidKinds := [.data], laidTests := true, laidLooks := .later }
def BankRefusedCardSaid : Prop := Claim7.holds Tryz.pinned (.plain (OpenSpec.ofChange bankRefusedSpec)) bankRefusedCard

/-- THE TIED CARD OF 'paytop.TopBuy'. -/
def topBuyCard : Claim7 := { stood := { row := topBuyRow, standIns := [], harness := (true, "48959a3c5605905780b7d1cc20325f37e86725568a751af1d2c54b29a370fea7"), looks := false }, kinds := [], alts := [], laidByText := true, laidKinds := [.data], laidTests := true, laidLooks := .later }
def TopBuyCardSaid : Prop := Claim7.holds Tryz.pinned (.plain (OpenSpec.ofChange topBuySpec)) topBuyCard

/-- THE TIED CARD OF 'paytop.TopReturn'. -/
def topReturnCard : Claim7 := { stood := { row := topReturnRow, standIns := [], harness := (true, "48959a3c5605905780b7d1cc20325f37e86725568a751af1d2c54b29a370fea7"), looks := false }, kinds := [], alts := [], laidByText := true, laidKinds := [.data], laidTests := true, laidLooks := .later }
def TopReturnCardSaid : Prop := Claim7.holds Tryz.pinned (.plain (OpenSpec.ofChange topReturnSpec)) topReturnCard

/-- THE TIED CARD OF 'paytop.TopOver'. -/
def topOverCard : Claim7 := { stood := { row := topOverRow, standIns := [], harness := (true, "48959a3c5605905780b7d1cc20325f37e86725568a751af1d2c54b29a370fea7"), looks := false }, kinds := [], alts := [], laidByText := true, laidKinds := [.data], laidTests := true, laidLooks := .later }
def TopOverCardSaid : Prop := Claim7.holds Tryz.pinned (.plain (OpenSpec.ofChange topOverSpec)) topOverCard

/-- THE TIED CARD OF 'paytop.TopDown'. -/
def topDownCard : Claim7 := { stood := { row := topDownRow, standIns := [], harness := (true, "48959a3c5605905780b7d1cc20325f37e86725568a751af1d2c54b29a370fea7"), looks := false }, kinds := [], alts := [], laidByText := true, laidKinds := [.data], laidTests := true, laidLooks := .later }
def TopDownCardSaid : Prop := Claim7.holds Tryz.pinned (.plain (OpenSpec.ofChange topDownSpec)) topDownCard

/-- THE TIED CARD OF 'paytop.TopDispute'. -/
def topDisputeCard : Claim7 := { stood := { row := topDisputeRow, standIns := [], harness := (true, "48959a3c5605905780b7d1cc20325f37e86725568a751af1d2c54b29a370fea7"), looks := false }, kinds := [], alts := [], laidByText := true, laidKinds := [.data], laidTests := true, laidLooks := .later }
def TopDisputeCardSaid : Prop := Claim7.holds Tryz.pinned (.plain (OpenSpec.ofChange topDisputeSpec)) topDisputeCard

/-- THE TIED CARD OF 'paytop.TopDays'. -/
def topDaysCard : Claim7 := { stood := { row := topDaysRow, standIns := [], harness := (true, "48959a3c5605905780b7d1cc20325f37e86725568a751af1d2c54b29a370fea7"), looks := false }, kinds := [], alts := [], laidByText := true, laidKinds := [.data], laidTests := true, laidLooks := .later }
def TopDaysCardSaid : Prop := Claim7.holds Tryz.pinned (.plain (OpenSpec.ofChange topDaysSpec)) topDaysCard

/-- THE TIED CARD OF 'paytop.TopPace'. -/
def topPaceCard : Claim7 := { stood := { row := topPaceRow, standIns := [], harness := (true, "48959a3c5605905780b7d1cc20325f37e86725568a751af1d2c54b29a370fea7"), looks := false }, kinds := [], alts := [], laidByText := true, laidKinds := [.data], laidTests := true, laidLooks := .later }
def TopPaceCardSaid : Prop := Claim7.holds Tryz.pinned (.plain (OpenSpec.ofChange topPaceSpec)) topPaceCard

/-- THE SECOND FORM's CARD OF 'paylaw8.BankTells'. -/
def bankTellsUptoCard : Claim7 := { stood := { row := bankTellsUptoRow, standIns := [], harness := (true, "48959a3c5605905780b7d1cc20325f37e86725568a751af1d2c54b29a370fea7"), looks := false }, kinds := [], alts := [], laidByText := true, laidKinds := [.data], laidTests := true, laidLooks := .later }
def BankTellsUptoCardSaid : Prop := Claim7.holds Tryz.pinned (.plain (OpenSpec.upto bankTellsSpec)) bankTellsUptoCard

/-- THE SECOND FORM's CARD OF 'paylaw8.BankBook'. -/
def bankBookUptoCard : Claim7 := { stood := { row := bankBookUptoRow, standIns := [], harness := (true, "48959a3c5605905780b7d1cc20325f37e86725568a751af1d2c54b29a370fea7"), looks := false }, kinds := [], alts := [], laidByText := true, laidKinds := [.data], laidTests := true, laidLooks := .later }
def BankBookUptoCardSaid : Prop := Claim7.holds Tryz.pinned (.plain (OpenSpec.upto bankBookSpec)) bankBookUptoCard

/-- THE SECOND FORM's CARD OF 'paylaw8.BankHeld'. -/
def bankHeldUptoCard : Claim7 := { stood := { row := bankHeldUptoRow, standIns := [], harness := (true, "48959a3c5605905780b7d1cc20325f37e86725568a751af1d2c54b29a370fea7"), looks := false }, kinds := [], alts := [], laidByText := true, laidKinds := [.data], laidTests := true, laidLooks := .later }
def BankHeldUptoCardSaid : Prop := Claim7.holds Tryz.pinned (.plain (OpenSpec.upto bankHeldSpec)) bankHeldUptoCard

/-- THE SECOND FORM's CARD OF 'paylaw8.BankFree'. -/
def bankFreeUptoCard : Claim7 := { stood := { row := bankFreeUptoRow, standIns := [], harness := (true, "48959a3c5605905780b7d1cc20325f37e86725568a751af1d2c54b29a370fea7"), looks := false }, kinds := [], alts := [], laidByText := true, laidKinds := [.data], laidTests := true, laidLooks := .later }
def BankFreeUptoCardSaid : Prop := Claim7.holds Tryz.pinned (.plain (OpenSpec.upto bankFreeSpec)) bankFreeUptoCard

/-- THE SECOND FORM's CARD OF 'paylaw8.BankOnce'. -/
def bankOnceUptoCard : Claim7 := { stood := { row := bankOnceUptoRow, standIns := [], harness := (true, "48959a3c5605905780b7d1cc20325f37e86725568a751af1d2c54b29a370fea7"), looks := false }, kinds := [], alts := [], laidByText := true, laidKinds := [.data], laidTests := true, laidLooks := .later }
def BankOnceUptoCardSaid : Prop := Claim7.holds Tryz.pinned (.plain (OpenSpec.upto bankOnceSpec)) bankOnceUptoCard

/-- THE SECOND FORM's CARD OF 'paylaw8.BankDrains'. -/
def bankDrainsUptoCard : Claim7 := { stood := { row := bankDrainsUptoRow, standIns := [], harness := (true, "48959a3c5605905780b7d1cc20325f37e86725568a751af1d2c54b29a370fea7"), looks := false }, kinds := [], alts := [], laidByText := true, laidKinds := [.data], laidTests := true, laidLooks := .later }
def BankDrainsUptoCardSaid : Prop := Claim7.holds Tryz.pinned (.plain (OpenSpec.upto bankDrainsSpec)) bankDrainsUptoCard

/-- THE SECOND FORM's CARD OF 'paylaw8.BankDays'. -/
def bankDaysUptoCard : Claim7 := { stood := { row := bankDaysUptoRow, standIns := [], harness := (true, "48959a3c5605905780b7d1cc20325f37e86725568a751af1d2c54b29a370fea7"), looks := false }, kinds := [], alts := [], laidByText := true, laidKinds := [.data], laidTests := true, laidLooks := .later }
def BankDaysUptoCardSaid : Prop := Claim7.holds Tryz.pinned (.plain (OpenSpec.upto bankDaysSpec)) bankDaysUptoCard

/-- THE SECOND FORM's CARD OF 'paylaw8.BankRefused'. -/
def bankRefusedUptoCard : Claim7 := { stood := { row := bankRefusedUptoRow, standIns := [], harness := (true, "48959a3c5605905780b7d1cc20325f37e86725568a751af1d2c54b29a370fea7"), looks := false }, kinds := [], alts := [], laidByText := true, laidKinds := [.data], laidTests := true, laidLooks := .later }
def BankRefusedUptoCardSaid : Prop := Claim7.holds Tryz.pinned (.plain (OpenSpec.upto bankRefusedSpec)) bankRefusedUptoCard

/-- THE SECOND FORM's CARD OF 'paytop.TopBuy'. -/
def topBuyUptoCard : Claim7 := { stood := { row := topBuyUptoRow, standIns := [], harness := (true, "48959a3c5605905780b7d1cc20325f37e86725568a751af1d2c54b29a370fea7"), looks := false }, kinds := [], alts := [], laidByText := true, laidKinds := [.data], laidTests := true, laidLooks := .later }
def TopBuyUptoCardSaid : Prop := Claim7.holds Tryz.pinned (.plain (OpenSpec.upto topBuySpec)) topBuyUptoCard

/-- THE SECOND FORM's CARD OF 'paytop.TopReturn'. -/
def topReturnUptoCard : Claim7 := { stood := { row := topReturnUptoRow, standIns := [], harness := (true, "48959a3c5605905780b7d1cc20325f37e86725568a751af1d2c54b29a370fea7"), looks := false }, kinds := [], alts := [], laidByText := true, laidKinds := [.data], laidTests := true, laidLooks := .later }
def TopReturnUptoCardSaid : Prop := Claim7.holds Tryz.pinned (.plain (OpenSpec.upto topReturnSpec)) topReturnUptoCard

/-- THE SECOND FORM's CARD OF 'paytop.TopOver'. -/
def topOverUptoCard : Claim7 := { stood := { row := topOverUptoRow, standIns := [], harness := (true, "48959a3c5605905780b7d1cc20325f37e86725568a751af1d2c54b29a370fea7"), looks := false }, kinds := [], alts := [], laidByText := true, laidKinds := [.data], laidTests := true, laidLooks := .later }
def TopOverUptoCardSaid : Prop := Claim7.holds Tryz.pinned (.plain (OpenSpec.upto topOverSpec)) topOverUptoCard

/-- THE SECOND FORM's CARD OF 'paytop.TopDown'. -/
def topDownUptoCard : Claim7 := { stood := { row := topDownUptoRow, standIns := [], harness := (true, "48959a3c5605905780b7d1cc20325f37e86725568a751af1d2c54b29a370fea7"), looks := false }, kinds := [], alts := [], laidByText := true, laidKinds := [.data], laidTests := true, laidLooks := .later }
def TopDownUptoCardSaid : Prop := Claim7.holds Tryz.pinned (.plain (OpenSpec.upto topDownSpec)) topDownUptoCard

/-- THE SECOND FORM's CARD OF 'paytop.TopDispute'. -/
def topDisputeUptoCard : Claim7 := { stood := { row := topDisputeUptoRow, standIns := [], harness := (true, "48959a3c5605905780b7d1cc20325f37e86725568a751af1d2c54b29a370fea7"), looks := false }, kinds := [], alts := [], laidByText := true, laidKinds := [.data], laidTests := true, laidLooks := .later }
def TopDisputeUptoCardSaid : Prop := Claim7.holds Tryz.pinned (.plain (OpenSpec.upto topDisputeSpec)) topDisputeUptoCard

/-- THE SECOND FORM's CARD OF 'paytop.TopDays'. -/
def topDaysUptoCard : Claim7 := { stood := { row := topDaysUptoRow, standIns := [], harness := (true, "48959a3c5605905780b7d1cc20325f37e86725568a751af1d2c54b29a370fea7"), looks := false }, kinds := [], alts := [], laidByText := true, laidKinds := [.data], laidTests := true, laidLooks := .later }
def TopDaysUptoCardSaid : Prop := Claim7.holds Tryz.pinned (.plain (OpenSpec.upto topDaysSpec)) topDaysUptoCard

/-- THE SECOND FORM's CARD OF 'paytop.TopPace'. -/
def topPaceUptoCard : Claim7 := { stood := { row := topPaceUptoRow, standIns := [], harness := (true, "48959a3c5605905780b7d1cc20325f37e86725568a751af1d2c54b29a370fea7"), looks := false }, kinds := [], alts := [], laidByText := true, laidKinds := [.data], laidTests := true, laidLooks := .later }
def TopPaceUptoCardSaid : Prop := Claim7.holds Tryz.pinned (.plain (OpenSpec.upto topPaceSpec)) topPaceUptoCard
end Rows
end Go.Proofs.YtofcnebekmjdoaaGreatDoor
