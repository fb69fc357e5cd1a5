/-
  NARROWER THAN 'FOR EVERY INPUT', by the rows' own cells (each row's printed sentence says how): BankTells: laid · BankBook: laid · BankHeld: laid · BankFree: laid · BankOnce: laid · BankDrains: laid · BankDays: laid · BankRefused: laid · TopBuy: laid · TopReturn: laid · TopOver: laid · TopDown: laid · TopDispute: laid · TopDays: laid · TopPace: laid.
  DERIVED. THE GIVEN ROWS OF THIS SEAT. 15 by the template 'for every input the law returns true; each argument reads behind the call as it read before'; 0 by the template 'total and deterministic' (their statements: YtofcnebekmjdoaaGreatDoorTotals.lean).
  GIVEN WITH THE SEED: the statements are not yours to turn. If you find one false, say at which input.
  Laid BY PROGRAM, IN A SANDBOX (cutbox-rows.mjs): the forced cells as the released guide's own fill.sh prints them over the translation 90f804b5a1c783ea… (all of the seat's roots in one cut). By AI agents, Wed Nov 11 2026. No macro, syntax, notation, axiom, sorry.
-/
import Derived.Test.YtofcnebekmjdoaaGreatDoorChecked
import GoSem.Claim
import GoSem.ClaimJoined
import GoSem.ClaimMapViews
import Derived.JoinedTies
import Derived.KernelRfl
namespace Go.Proofs.YtofcnebekmjdoaaGreatDoor
/- THE CELL 'sum', in the pinned program and in every row, IS THE sha256 OF THE DUMP (.gsa) THAT YtofcnebekmjdoaaGreatDoorProg.lean LOADS. Nothing in Lean hashes anything: it is a label: what it is worth is what the hold of that sum in a sandbox is worth. -/
noncomputable def Tryz.pinned : Pinned := { name := "ytofcnebekmjdoaagreatdoor", sum := "90f804b5a1c783eaee62f313b76b11453ed0b849e339b4e26c68303ce4a0f4ce", checked := Tryz.checked }
namespace Rows
def none {H : Type} : Left H := { results := [], args := [] }

/- WHAT THE LISTED PACKAGE-LEVEL VARIABLES READ AS WHEN THE CALL BEGINS. Each datum BY PROGRAM (the guide's laid-datum.mjs) off the statement by which the dump's own 'gosem.cut.vars' lays the variable. In a bare row this is a premise. The card (YtofcnebekmjdoaaGreatDoorCards.lean) ties it to the program's text. -/
def laid_paystone_bank_other {H : Type} : DataW H := .agg [.lit (.int .i64 1), .lit (.int .i64 0)]

/-- 'paylaw8.BankTells': WHATEVER THE INPUT: true; the input reads as it did. -/
def bankTellsSpec : ChangeSpec := { name := "bankTells", fn := fun _ => fun
  | [d1, d2] => { results := [.lit (.bool true)], args := [d1, d2] }
  | _ => none }
def bankTellsRow : OpenClaim := { program := "ytofcnebekmjdoaagreatdoor", sum := "90f804b5a1c783eaee62f313b76b11453ed0b849e339b4e26c68303ce4a0f4ce", func := "paystone/paylaw8.BankTells", spec := "bankTells", unfollowed := true, recurses := true, named := ["paystone/bank.other"], apart := false, laid := [("paystone/bank.other", laid_paystone_bank_other)] }
def BankTellsSaid : Prop := bankTellsRow.holds Tryz.pinned (OpenSpec.ofChange bankTellsSpec)

/-- ITS FALSE NEIGHBOUR: 'it returns false'. Refute it at one input. -/
def bankTellsWrong : ChangeSpec := { name := "bankTells", fn := fun _ => fun
  | [d1, d2] => { results := [.lit (.bool false)], args := [d1, d2] }
  | _ => none }
def BankTellsWrongFalsely : Prop := bankTellsRow.holds Tryz.pinned (OpenSpec.ofChange bankTellsWrong)

/-- 'paylaw8.BankBook': WHATEVER THE INPUT: true; the input reads as it did. -/
def bankBookSpec : ChangeSpec := { name := "bankBook", fn := fun _ => fun
  | [d1, d2] => { results := [.lit (.bool true)], args := [d1, d2] }
  | _ => none }
def bankBookRow : OpenClaim := { program := "ytofcnebekmjdoaagreatdoor", sum := "90f804b5a1c783eaee62f313b76b11453ed0b849e339b4e26c68303ce4a0f4ce", func := "paystone/paylaw8.BankBook", spec := "bankBook", unfollowed := true, recurses := true, named := ["paystone/bank.other"], apart := false, laid := [("paystone/bank.other", laid_paystone_bank_other)] }
def BankBookSaid : Prop := bankBookRow.holds Tryz.pinned (OpenSpec.ofChange bankBookSpec)

/-- ITS FALSE NEIGHBOUR: 'it returns false'. Refute it at one input. -/
def bankBookWrong : ChangeSpec := { name := "bankBook", fn := fun _ => fun
  | [d1, d2] => { results := [.lit (.bool false)], args := [d1, d2] }
  | _ => none }
def BankBookWrongFalsely : Prop := bankBookRow.holds Tryz.pinned (OpenSpec.ofChange bankBookWrong)

/-- 'paylaw8.BankHeld': WHATEVER THE INPUT: true; the input reads as it did. -/
def bankHeldSpec : ChangeSpec := { name := "bankHeld", fn := fun _ => fun
  | [d1, d2] => { results := [.lit (.bool true)], args := [d1, d2] }
  | _ => none }
def bankHeldRow : OpenClaim := { program := "ytofcnebekmjdoaagreatdoor", sum := "90f804b5a1c783eaee62f313b76b11453ed0b849e339b4e26c68303ce4a0f4ce", func := "paystone/paylaw8.BankHeld", spec := "bankHeld", unfollowed := true, recurses := true, named := ["paystone/bank.other"], apart := false, laid := [("paystone/bank.other", laid_paystone_bank_other)] }
def BankHeldSaid : Prop := bankHeldRow.holds Tryz.pinned (OpenSpec.ofChange bankHeldSpec)

/-- ITS FALSE NEIGHBOUR: 'it returns false'. Refute it at one input. -/
def bankHeldWrong : ChangeSpec := { name := "bankHeld", fn := fun _ => fun
  | [d1, d2] => { results := [.lit (.bool false)], args := [d1, d2] }
  | _ => none }
def BankHeldWrongFalsely : Prop := bankHeldRow.holds Tryz.pinned (OpenSpec.ofChange bankHeldWrong)

/-- 'paylaw8.BankFree': WHATEVER THE INPUT: true; the input reads as it did. -/
def bankFreeSpec : ChangeSpec := { name := "bankFree", fn := fun _ => fun
  | [d1, d2] => { results := [.lit (.bool true)], args := [d1, d2] }
  | _ => none }
def bankFreeRow : OpenClaim := { program := "ytofcnebekmjdoaagreatdoor", sum := "90f804b5a1c783eaee62f313b76b11453ed0b849e339b4e26c68303ce4a0f4ce", func := "paystone/paylaw8.BankFree", spec := "bankFree", unfollowed := true, recurses := true, named := ["paystone/bank.other"], apart := false, laid := [("paystone/bank.other", laid_paystone_bank_other)] }
def BankFreeSaid : Prop := bankFreeRow.holds Tryz.pinned (OpenSpec.ofChange bankFreeSpec)

/-- ITS FALSE NEIGHBOUR: 'it returns false'. Refute it at one input. -/
def bankFreeWrong : ChangeSpec := { name := "bankFree", fn := fun _ => fun
  | [d1, d2] => { results := [.lit (.bool false)], args := [d1, d2] }
  | _ => none }
def BankFreeWrongFalsely : Prop := bankFreeRow.holds Tryz.pinned (OpenSpec.ofChange bankFreeWrong)

/-- 'paylaw8.BankOnce': WHATEVER THE INPUT: true; the input reads as it did. -/
def bankOnceSpec : ChangeSpec := { name := "bankOnce", fn := fun _ => fun
  | [d1, d2, d3] => { results := [.lit (.bool true)], args := [d1, d2, d3] }
  | _ => none }
def bankOnceRow : OpenClaim := { program := "ytofcnebekmjdoaagreatdoor", sum := "90f804b5a1c783eaee62f313b76b11453ed0b849e339b4e26c68303ce4a0f4ce", func := "paystone/paylaw8.BankOnce", spec := "bankOnce", unfollowed := true, recurses := true, named := ["paystone/bank.other"], apart := false, laid := [("paystone/bank.other", laid_paystone_bank_other)] }
def BankOnceSaid : Prop := bankOnceRow.holds Tryz.pinned (OpenSpec.ofChange bankOnceSpec)

/-- ITS FALSE NEIGHBOUR: 'it returns false'. Refute it at one input. -/
def bankOnceWrong : ChangeSpec := { name := "bankOnce", fn := fun _ => fun
  | [d1, d2, d3] => { results := [.lit (.bool false)], args := [d1, d2, d3] }
  | _ => none }
def BankOnceWrongFalsely : Prop := bankOnceRow.holds Tryz.pinned (OpenSpec.ofChange bankOnceWrong)

/-- 'paylaw8.BankDrains': WHATEVER THE INPUT: true; the input reads as it did. -/
def bankDrainsSpec : ChangeSpec := { name := "bankDrains", fn := fun _ => fun
  | [d1, d2] => { results := [.lit (.bool true)], args := [d1, d2] }
  | _ => none }
def bankDrainsRow : OpenClaim := { program := "ytofcnebekmjdoaagreatdoor", sum := "90f804b5a1c783eaee62f313b76b11453ed0b849e339b4e26c68303ce4a0f4ce", func := "paystone/paylaw8.BankDrains", spec := "bankDrains", unfollowed := true, recurses := true, named := ["paystone/bank.other"], apart := false, laid := [("paystone/bank.other", laid_paystone_bank_other)] }
def BankDrainsSaid : Prop := bankDrainsRow.holds Tryz.pinned (OpenSpec.ofChange bankDrainsSpec)

/-- ITS FALSE NEIGHBOUR: 'it returns false'. Refute it at one input. -/
def bankDrainsWrong : ChangeSpec := { name := "bankDrains", fn := fun _ => fun
  | [d1, d2] => { results := [.lit (.bool false)], args := [d1, d2] }
  | _ => none }
def BankDrainsWrongFalsely : Prop := bankDrainsRow.holds Tryz.pinned (OpenSpec.ofChange bankDrainsWrong)

/-- 'paylaw8.BankDays': WHATEVER THE INPUT: true; the input reads as it did. -/
def bankDaysSpec : ChangeSpec := { name := "bankDays", fn := fun _ => fun
  | [d1, d2] => { results := [.lit (.bool true)], args := [d1, d2] }
  | _ => none }
def bankDaysRow : OpenClaim := { program := "ytofcnebekmjdoaagreatdoor", sum := "90f804b5a1c783eaee62f313b76b11453ed0b849e339b4e26c68303ce4a0f4ce", func := "paystone/paylaw8.BankDays", spec := "bankDays", unfollowed := true, recurses := true, named := ["paystone/bank.other"], apart := false, laid := [("paystone/bank.other", laid_paystone_bank_other)] }
def BankDaysSaid : Prop := bankDaysRow.holds Tryz.pinned (OpenSpec.ofChange bankDaysSpec)

/-- ITS FALSE NEIGHBOUR: 'it returns false'. Refute it at one input. -/
def bankDaysWrong : ChangeSpec := { name := "bankDays", fn := fun _ => fun
  | [d1, d2] => { results := [.lit (.bool false)], args := [d1, d2] }
  | _ => none }
def BankDaysWrongFalsely : Prop := bankDaysRow.holds Tryz.pinned (OpenSpec.ofChange bankDaysWrong)

/-- 'paylaw8.BankRefused': WHATEVER THE INPUT: true; the input reads as it did. -/
def bankRefusedSpec : ChangeSpec := { name := "bankRefused", fn := fun _ => fun
  | [d1, d2] => { results := [.lit (.bool true)], args := [d1, d2] }
  | _ => none }
def bankRefusedRow : OpenClaim := { program := "ytofcnebekmjdoaagreatdoor", sum := "90f804b5a1c783eaee62f313b76b11453ed0b849e339b4e26c68303ce4a0f4ce", func := "paystone/paylaw8.BankRefused", spec := "bankRefused", unfollowed := true, recurses := true, named := ["paystone/bank.other"], apart := false, laid := [("paystone/bank.other", laid_paystone_bank_other)] }
def BankRefusedSaid : Prop := bankRefusedRow.holds Tryz.pinned (OpenSpec.ofChange bankRefusedSpec)

/-- ITS FALSE NEIGHBOUR: 'it returns false'. Refute it at one input. -/
def bankRefusedWrong : ChangeSpec := { name := "bankRefused", fn := fun _ => fun
  | [d1, d2] => { results := [.lit (.bool false)], args := [d1, d2] }
  | _ => none }
def BankRefusedWrongFalsely : Prop := bankRefusedRow.holds Tryz.pinned (OpenSpec.ofChange bankRefusedWrong)

/-- 'paytop.TopBuy': WHATEVER THE INPUT: true; the input reads as it did. -/
def topBuySpec : ChangeSpec := { name := "topBuy", fn := fun _ => fun
  | [d1, d2, d3] => { results := [.lit (.bool true)], args := [d1, d2, d3] }
  | _ => none }
def topBuyRow : OpenClaim := { program := "ytofcnebekmjdoaagreatdoor", sum := "90f804b5a1c783eaee62f313b76b11453ed0b849e339b4e26c68303ce4a0f4ce", func := "paystone/paytop.TopBuy", spec := "topBuy", unfollowed := true, recurses := true, named := ["paystone/bank.other"], apart := false, laid := [("paystone/bank.other", laid_paystone_bank_other)] }
def TopBuySaid : Prop := topBuyRow.holds Tryz.pinned (OpenSpec.ofChange topBuySpec)

/-- ITS FALSE NEIGHBOUR: 'it returns false'. Refute it at one input. -/
def topBuyWrong : ChangeSpec := { name := "topBuy", fn := fun _ => fun
  | [d1, d2, d3] => { results := [.lit (.bool false)], args := [d1, d2, d3] }
  | _ => none }
def TopBuyWrongFalsely : Prop := topBuyRow.holds Tryz.pinned (OpenSpec.ofChange topBuyWrong)

/-- 'paytop.TopReturn': WHATEVER THE INPUT: true; the input reads as it did. -/
def topReturnSpec : ChangeSpec := { name := "topReturn", fn := fun _ => fun
  | [d1, d2, d3] => { results := [.lit (.bool true)], args := [d1, d2, d3] }
  | _ => none }
def topReturnRow : OpenClaim := { program := "ytofcnebekmjdoaagreatdoor", sum := "90f804b5a1c783eaee62f313b76b11453ed0b849e339b4e26c68303ce4a0f4ce", func := "paystone/paytop.TopReturn", spec := "topReturn", unfollowed := true, recurses := true, named := ["paystone/bank.other"], apart := false, laid := [("paystone/bank.other", laid_paystone_bank_other)] }
def TopReturnSaid : Prop := topReturnRow.holds Tryz.pinned (OpenSpec.ofChange topReturnSpec)

/-- ITS FALSE NEIGHBOUR: 'it returns false'. Refute it at one input. -/
def topReturnWrong : ChangeSpec := { name := "topReturn", fn := fun _ => fun
  | [d1, d2, d3] => { results := [.lit (.bool false)], args := [d1, d2, d3] }
  | _ => none }
def TopReturnWrongFalsely : Prop := topReturnRow.holds Tryz.pinned (OpenSpec.ofChange topReturnWrong)

/-- 'paytop.TopOver': WHATEVER THE INPUT: true; the input reads as it did. -/
def topOverSpec : ChangeSpec := { name := "topOver", fn := fun _ => fun
  | [d1, d2, d3] => { results := [.lit (.bool true)], args := [d1, d2, d3] }
  | _ => none }
def topOverRow : OpenClaim := { program := "ytofcnebekmjdoaagreatdoor", sum := "90f804b5a1c783eaee62f313b76b11453ed0b849e339b4e26c68303ce4a0f4ce", func := "paystone/paytop.TopOver", spec := "topOver", unfollowed := true, recurses := true, named := ["paystone/bank.other"], apart := false, laid := [("paystone/bank.other", laid_paystone_bank_other)] }
def TopOverSaid : Prop := topOverRow.holds Tryz.pinned (OpenSpec.ofChange topOverSpec)

/-- ITS FALSE NEIGHBOUR: 'it returns false'. Refute it at one input. -/
def topOverWrong : ChangeSpec := { name := "topOver", fn := fun _ => fun
  | [d1, d2, d3] => { results := [.lit (.bool false)], args := [d1, d2, d3] }
  | _ => none }
def TopOverWrongFalsely : Prop := topOverRow.holds Tryz.pinned (OpenSpec.ofChange topOverWrong)

/-- 'paytop.TopDown': WHATEVER THE INPUT: true; the input reads as it did. -/
def topDownSpec : ChangeSpec := { name := "topDown", fn := fun _ => fun
  | [d1, d2, d3, d4] => { results := [.lit (.bool true)], args := [d1, d2, d3, d4] }
  | _ => none }
def topDownRow : OpenClaim := { program := "ytofcnebekmjdoaagreatdoor", sum := "90f804b5a1c783eaee62f313b76b11453ed0b849e339b4e26c68303ce4a0f4ce", func := "paystone/paytop.TopDown", spec := "topDown", unfollowed := true, recurses := true, named := ["paystone/bank.other"], apart := false, laid := [("paystone/bank.other", laid_paystone_bank_other)] }
def TopDownSaid : Prop := topDownRow.holds Tryz.pinned (OpenSpec.ofChange topDownSpec)

/-- ITS FALSE NEIGHBOUR: 'it returns false'. Refute it at one input. -/
def topDownWrong : ChangeSpec := { name := "topDown", fn := fun _ => fun
  | [d1, d2, d3, d4] => { results := [.lit (.bool false)], args := [d1, d2, d3, d4] }
  | _ => none }
def TopDownWrongFalsely : Prop := topDownRow.holds Tryz.pinned (OpenSpec.ofChange topDownWrong)

/-- 'paytop.TopDispute': WHATEVER THE INPUT: true; the input reads as it did. -/
def topDisputeSpec : ChangeSpec := { name := "topDispute", fn := fun _ => fun
  | [d1, d2, d3, d4] => { results := [.lit (.bool true)], args := [d1, d2, d3, d4] }
  | _ => none }
def topDisputeRow : OpenClaim := { program := "ytofcnebekmjdoaagreatdoor", sum := "90f804b5a1c783eaee62f313b76b11453ed0b849e339b4e26c68303ce4a0f4ce", func := "paystone/paytop.TopDispute", spec := "topDispute", unfollowed := true, recurses := true, named := ["paystone/bank.other"], apart := false, laid := [("paystone/bank.other", laid_paystone_bank_other)] }
def TopDisputeSaid : Prop := topDisputeRow.holds Tryz.pinned (OpenSpec.ofChange topDisputeSpec)

/-- ITS FALSE NEIGHBOUR: 'it returns false'. Refute it at one input. -/
def topDisputeWrong : ChangeSpec := { name := "topDispute", fn := fun _ => fun
  | [d1, d2, d3, d4] => { results := [.lit (.bool false)], args := [d1, d2, d3, d4] }
  | _ => none }
def TopDisputeWrongFalsely : Prop := topDisputeRow.holds Tryz.pinned (OpenSpec.ofChange topDisputeWrong)

/-- 'paytop.TopDays': WHATEVER THE INPUT: true; the input reads as it did. -/
def topDaysSpec : ChangeSpec := { name := "topDays", fn := fun _ => fun
  | [d1, d2] => { results := [.lit (.bool true)], args := [d1, d2] }
  | _ => none }
def topDaysRow : OpenClaim := { program := "ytofcnebekmjdoaagreatdoor", sum := "90f804b5a1c783eaee62f313b76b11453ed0b849e339b4e26c68303ce4a0f4ce", func := "paystone/paytop.TopDays", spec := "topDays", unfollowed := true, recurses := true, named := ["paystone/bank.other"], apart := false, laid := [("paystone/bank.other", laid_paystone_bank_other)] }
def TopDaysSaid : Prop := topDaysRow.holds Tryz.pinned (OpenSpec.ofChange topDaysSpec)

/-- ITS FALSE NEIGHBOUR: 'it returns false'. Refute it at one input. -/
def topDaysWrong : ChangeSpec := { name := "topDays", fn := fun _ => fun
  | [d1, d2] => { results := [.lit (.bool false)], args := [d1, d2] }
  | _ => none }
def TopDaysWrongFalsely : Prop := topDaysRow.holds Tryz.pinned (OpenSpec.ofChange topDaysWrong)

/-- 'paytop.TopPace': WHATEVER THE INPUT: true; the input reads as it did. -/
def topPaceSpec : ChangeSpec := { name := "topPace", fn := fun _ => fun
  | [d1, d2, d3] => { results := [.lit (.bool true)], args := [d1, d2, d3] }
  | _ => none }
def topPaceRow : OpenClaim := { program := "ytofcnebekmjdoaagreatdoor", sum := "90f804b5a1c783eaee62f313b76b11453ed0b849e339b4e26c68303ce4a0f4ce", func := "paystone/paytop.TopPace", spec := "topPace", unfollowed := true, recurses := true, named := ["paystone/bank.other"], apart := false, laid := [("paystone/bank.other", laid_paystone_bank_other)] }
def TopPaceSaid : Prop := topPaceRow.holds Tryz.pinned (OpenSpec.ofChange topPaceSpec)

/-- ITS FALSE NEIGHBOUR: 'it returns false'. Refute it at one input. -/
def topPaceWrong : ChangeSpec := { name := "topPace", fn := fun _ => fun
  | [d1, d2, d3] => { results := [.lit (.bool false)], args := [d1, d2, d3] }
  | _ => none }
def TopPaceWrongFalsely : Prop := topPaceRow.holds Tryz.pinned (OpenSpec.ofChange topPaceWrong)

/- THE SECOND FORM. 'bulk': how many values and letters a reading holds, each counted each time it is reached (what is shared counts as often as it is met; a slice's spare places count too). A statement '..UptoSaid' is the law's where the arguments, and the package variables that the reading takes, are together of bulk at most 1048576: NARROWER than '..Said'. Prove '..Said' where nothing that the law and all that it calls make is longer than what came in: it says more and counts as full. Else prove '..UptoSaid'. A law counts once. -/
mutual
def uptoBulk {H : Type} : DataW H → Nat
  | .lit (.string bytes) => bytes.length + 1
  | .lit _ => 1
  | .nil => 1
  | .ptr d => uptoBulk d + 1
  | .slice elems spare => uptoBulkAll elems + uptoBulkAll spare + 1
  | .agg parts => uptoBulkAll parts + 1
  | .iface _ d => uptoBulk d + 1
  | .map entries => uptoBulkEntries entries + 1
  | .held _ => 1
def uptoBulkAll {H : Type} : List (DataW H) → Nat
  | [] => 0
  | d :: r => uptoBulk d + uptoBulkAll r
def uptoBulkEntries {H : Type} : List (Lit × DataW H) → Nat
  | [] => 0
  | x :: r => uptoBulkEntry x + uptoBulkEntries r
def uptoBulkEntry {H : Type} : Lit × DataW H → Nat
  | (.string bytes, d) => bytes.length + uptoBulk d + 1
  | (_, d) => uptoBulk d + 1
 end
def uptoSmall : (H : Type) → List (DataW H) → Bool := fun _ ds => decide (uptoBulkAll ds ≤ 1048576)
def OpenSpec.upto (s : _root_.Go.ChangeSpec) : _root_.Go.OpenSpec := { _root_.Go.OpenSpec.ofChange s with cond := some uptoSmall }

/-- 'paylaw8.BankTells', WHERE WHAT IT READS IS OF BULK AT MOST 1048576: true; the input reads as it did. -/
def bankTellsUptoRow : OpenClaim := { program := "ytofcnebekmjdoaagreatdoor", sum := "90f804b5a1c783eaee62f313b76b11453ed0b849e339b4e26c68303ce4a0f4ce", func := "paystone/paylaw8.BankTells", spec := "bankTells", unfollowed := true, recurses := true, named := ["paystone/bank.other"], apart := false, laid := [("paystone/bank.other", laid_paystone_bank_other)], narrowed := true }
def BankTellsUptoSaid : Prop := bankTellsUptoRow.holds Tryz.pinned (OpenSpec.upto bankTellsSpec)

/-- 'paylaw8.BankBook', WHERE WHAT IT READS IS OF BULK AT MOST 1048576: true; the input reads as it did. -/
def bankBookUptoRow : OpenClaim := { program := "ytofcnebekmjdoaagreatdoor", sum := "90f804b5a1c783eaee62f313b76b11453ed0b849e339b4e26c68303ce4a0f4ce", func := "paystone/paylaw8.BankBook", spec := "bankBook", unfollowed := true, recurses := true, named := ["paystone/bank.other"], apart := false, laid := [("paystone/bank.other", laid_paystone_bank_other)], narrowed := true }
def BankBookUptoSaid : Prop := bankBookUptoRow.holds Tryz.pinned (OpenSpec.upto bankBookSpec)

/-- 'paylaw8.BankHeld', WHERE WHAT IT READS IS OF BULK AT MOST 1048576: true; the input reads as it did. -/
def bankHeldUptoRow : OpenClaim := { program := "ytofcnebekmjdoaagreatdoor", sum := "90f804b5a1c783eaee62f313b76b11453ed0b849e339b4e26c68303ce4a0f4ce", func := "paystone/paylaw8.BankHeld", spec := "bankHeld", unfollowed := true, recurses := true, named := ["paystone/bank.other"], apart := false, laid := [("paystone/bank.other", laid_paystone_bank_other)], narrowed := true }
def BankHeldUptoSaid : Prop := bankHeldUptoRow.holds Tryz.pinned (OpenSpec.upto bankHeldSpec)

/-- 'paylaw8.BankFree', WHERE WHAT IT READS IS OF BULK AT MOST 1048576: true; the input reads as it did. -/
def bankFreeUptoRow : OpenClaim := { program := "ytofcnebekmjdoaagreatdoor", sum := "90f804b5a1c783eaee62f313b76b11453ed0b849e339b4e26c68303ce4a0f4ce", func := "paystone/paylaw8.BankFree", spec := "bankFree", unfollowed := true, recurses := true, named := ["paystone/bank.other"], apart := false, laid := [("paystone/bank.other", laid_paystone_bank_other)], narrowed := true }
def BankFreeUptoSaid : Prop := bankFreeUptoRow.holds Tryz.pinned (OpenSpec.upto bankFreeSpec)

/-- 'paylaw8.BankOnce', WHERE WHAT IT READS IS OF BULK AT MOST 1048576: true; the input reads as it did. -/
def bankOnceUptoRow : OpenClaim := { program := "ytofcnebekmjdoaagreatdoor", sum := "90f804b5a1c783eaee62f313b76b11453ed0b849e339b4e26c68303ce4a0f4ce", func := "paystone/paylaw8.BankOnce", spec := "bankOnce", unfollowed := true, recurses := true, named := ["paystone/bank.other"], apart := false, laid := [("paystone/bank.other", laid_paystone_bank_other)], narrowed := true }
def BankOnceUptoSaid : Prop := bankOnceUptoRow.holds Tryz.pinned (OpenSpec.upto bankOnceSpec)

/-- 'paylaw8.BankDrains', WHERE WHAT IT READS IS OF BULK AT MOST 1048576: true; the input reads as it did. -/
def bankDrainsUptoRow : OpenClaim := { program := "ytofcnebekmjdoaagreatdoor", sum := "90f804b5a1c783eaee62f313b76b11453ed0b849e339b4e26c68303ce4a0f4ce", func := "paystone/paylaw8.BankDrains", spec := "bankDrains", unfollowed := true, recurses := true, named := ["paystone/bank.other"], apart := false, laid := [("paystone/bank.other", laid_paystone_bank_other)], narrowed := true }
def BankDrainsUptoSaid : Prop := bankDrainsUptoRow.holds Tryz.pinned (OpenSpec.upto bankDrainsSpec)

/-- 'paylaw8.BankDays', WHERE WHAT IT READS IS OF BULK AT MOST 1048576: true; the input reads as it did. -/
def bankDaysUptoRow : OpenClaim := { program := "ytofcnebekmjdoaagreatdoor", sum := "90f804b5a1c783eaee62f313b76b11453ed0b849e339b4e26c68303ce4a0f4ce", func := "paystone/paylaw8.BankDays", spec := "bankDays", unfollowed := true, recurses := true, named := ["paystone/bank.other"], apart := false, laid := [("paystone/bank.other", laid_paystone_bank_other)], narrowed := true }
def BankDaysUptoSaid : Prop := bankDaysUptoRow.holds Tryz.pinned (OpenSpec.upto bankDaysSpec)

/-- 'paylaw8.BankRefused', WHERE WHAT IT READS IS OF BULK AT MOST 1048576: true; the input reads as it did. -/
def bankRefusedUptoRow : OpenClaim := { program := "ytofcnebekmjdoaagreatdoor", sum := "90f804b5a1c783eaee62f313b76b11453ed0b849e339b4e26c68303ce4a0f4ce", func := "paystone/paylaw8.BankRefused", spec := "bankRefused", unfollowed := true, recurses := true, named := ["paystone/bank.other"], apart := false, laid := [("paystone/bank.other", laid_paystone_bank_other)], narrowed := true }
def BankRefusedUptoSaid : Prop := bankRefusedUptoRow.holds Tryz.pinned (OpenSpec.upto bankRefusedSpec)

/-- 'paytop.TopBuy', WHERE WHAT IT READS IS OF BULK AT MOST 1048576: true; the input reads as it did. -/
def topBuyUptoRow : OpenClaim := { program := "ytofcnebekmjdoaagreatdoor", sum := "90f804b5a1c783eaee62f313b76b11453ed0b849e339b4e26c68303ce4a0f4ce", func := "paystone/paytop.TopBuy", spec := "topBuy", unfollowed := true, recurses := true, named := ["paystone/bank.other"], apart := false, laid := [("paystone/bank.other", laid_paystone_bank_other)], narrowed := true }
def TopBuyUptoSaid : Prop := topBuyUptoRow.holds Tryz.pinned (OpenSpec.upto topBuySpec)

/-- 'paytop.TopReturn', WHERE WHAT IT READS IS OF BULK AT MOST 1048576: true; the input reads as it did. -/
def topReturnUptoRow : OpenClaim := { program := "ytofcnebekmjdoaagreatdoor", sum := "90f804b5a1c783eaee62f313b76b11453ed0b849e339b4e26c68303ce4a0f4ce", func := "paystone/paytop.TopReturn", spec := "topReturn", unfollowed := true, recurses := true, named := ["paystone/bank.other"], apart := false, laid := [("paystone/bank.other", laid_paystone_bank_other)], narrowed := true }
def TopReturnUptoSaid : Prop := topReturnUptoRow.holds Tryz.pinned (OpenSpec.upto topReturnSpec)

/-- 'paytop.TopOver', WHERE WHAT IT READS IS OF BULK AT MOST 1048576: true; the input reads as it did. -/
def topOverUptoRow : OpenClaim := { program := "ytofcnebekmjdoaagreatdoor", sum := "90f804b5a1c783eaee62f313b76b11453ed0b849e339b4e26c68303ce4a0f4ce", func := "paystone/paytop.TopOver", spec := "topOver", unfollowed := true, recurses := true, named := ["paystone/bank.other"], apart := false, laid := [("paystone/bank.other", laid_paystone_bank_other)], narrowed := true }
def TopOverUptoSaid : Prop := topOverUptoRow.holds Tryz.pinned (OpenSpec.upto topOverSpec)

/-- 'paytop.TopDown', WHERE WHAT IT READS IS OF BULK AT MOST 1048576: true; the input reads as it did. -/
def topDownUptoRow : OpenClaim := { program := "ytofcnebekmjdoaagreatdoor", sum := "90f804b5a1c783eaee62f313b76b11453ed0b849e339b4e26c68303ce4a0f4ce", func := "paystone/paytop.TopDown", spec := "topDown", unfollowed := true, recurses := true, named := ["paystone/bank.other"], apart := false, laid := [("paystone/bank.other", laid_paystone_bank_other)], narrowed := true }
def TopDownUptoSaid : Prop := topDownUptoRow.holds Tryz.pinned (OpenSpec.upto topDownSpec)

/-- 'paytop.TopDispute', WHERE WHAT IT READS IS OF BULK AT MOST 1048576: true; the input reads as it did. -/
def topDisputeUptoRow : OpenClaim := { program := "ytofcnebekmjdoaagreatdoor", sum := "90f804b5a1c783eaee62f313b76b11453ed0b849e339b4e26c68303ce4a0f4ce", func := "paystone/paytop.TopDispute", spec := "topDispute", unfollowed := true, recurses := true, named := ["paystone/bank.other"], apart := false, laid := [("paystone/bank.other", laid_paystone_bank_other)], narrowed := true }
def TopDisputeUptoSaid : Prop := topDisputeUptoRow.holds Tryz.pinned (OpenSpec.upto topDisputeSpec)

/-- 'paytop.TopDays', WHERE WHAT IT READS IS OF BULK AT MOST 1048576: true; the input reads as it did. -/
def topDaysUptoRow : OpenClaim := { program := "ytofcnebekmjdoaagreatdoor", sum := "90f804b5a1c783eaee62f313b76b11453ed0b849e339b4e26c68303ce4a0f4ce", func := "paystone/paytop.TopDays", spec := "topDays", unfollowed := true, recurses := true, named := ["paystone/bank.other"], apart := false, laid := [("paystone/bank.other", laid_paystone_bank_other)], narrowed := true }
def TopDaysUptoSaid : Prop := topDaysUptoRow.holds Tryz.pinned (OpenSpec.upto topDaysSpec)

/-- 'paytop.TopPace', WHERE WHAT IT READS IS OF BULK AT MOST 1048576: true; the input reads as it did. -/
def topPaceUptoRow : OpenClaim := { program := "ytofcnebekmjdoaagreatdoor", sum := "90f804b5a1c783eaee62f313b76b11453ed0b849e339b4e26c68303ce4a0f4ce", func := "paystone/paytop.TopPace", spec := "topPace", unfollowed := true, recurses := true, named := ["paystone/bank.other"], apart := false, laid := [("paystone/bank.other", laid_paystone_bank_other)], narrowed := true }
def TopPaceUptoSaid : Prop := topPaceUptoRow.holds Tryz.pinned (OpenSpec.upto topPaceSpec)

end Rows
end Go.Proofs.YtofcnebekmjdoaaGreatDoor
