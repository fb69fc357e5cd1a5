/-
  No cell of these rows narrows 'for every input' (looked for: loops, veiled, ifaces, maps, wideKeys, modest, calm, conditions, laid).
  DERIVED. THE GIVEN ROWS OF THIS SEAT. 12 by the template 'for every input the law returns true; each argument reads behind the call as it read before'; 0 by the template 'total and deterministic' (their statements: YtodkcagingnelabTotals.lean).
  GIVEN WITH THE SEED: the statements are not yours to turn. If you find one false, say at which input.
  Laid BY PROGRAM, IN A SANDBOX (cutbox-rows.mjs): the forced cells as the released guide's own fill.sh prints them over the translation 74c8e8decc22fcfa… (all of the seat's roots in one cut). By AI agents, Wed Nov 11 2026. No macro, syntax, notation, axiom, sorry.
-/
import Derived.Test.YtodkcagingnelabChecked
import GoSem.Claim
import GoSem.ClaimJoined
import GoSem.ClaimMapViews
import Derived.JoinedTies
import Derived.KernelRfl
namespace Go.Proofs.Ytodkcagingnelab
/- THE CELL 'sum', in the pinned program and in every row, IS THE sha256 OF THE DUMP (.gsa) THAT YtodkcagingnelabProg.lean LOADS. Nothing in Lean hashes anything: it is a label: what it is worth is what the hold of that sum in a sandbox is worth. -/
noncomputable def Try.pinned : Pinned := { name := "ytodkcagingnelab", sum := "74c8e8decc22fcfa01a4e80dded1797ef838ae6fb95965ad2798208ef633bab2", checked := Try.checked }
namespace Rows
def none {H : Type} : Left H := { results := [], args := [] }

/-- 'paylaw4.CardSpends': WHATEVER THE INPUT: true; the input reads as it did. -/
def cardSpendsSpec : ChangeSpec := { name := "cardSpends", fn := fun _ => fun
  | [d1, d2, d3] => { results := [.lit (.bool true)], args := [d1, d2, d3] }
  | _ => none }
def cardSpendsRow : OpenClaim := { program := "ytodkcagingnelab", sum := "74c8e8decc22fcfa01a4e80dded1797ef838ae6fb95965ad2798208ef633bab2", func := "paystone/paylaw4.CardSpends", spec := "cardSpends", unfollowed := true, recurses := true, apart := false }
def CardSpendsSaid : Prop := cardSpendsRow.holds Try.pinned (OpenSpec.ofChange cardSpendsSpec)

/-- ITS FALSE NEIGHBOUR: 'it returns false'. Refute it at one input. -/
def cardSpendsWrong : ChangeSpec := { name := "cardSpends", fn := fun _ => fun
  | [d1, d2, d3] => { results := [.lit (.bool false)], args := [d1, d2, d3] }
  | _ => none }
def CardSpendsWrongFalsely : Prop := cardSpendsRow.holds Try.pinned (OpenSpec.ofChange cardSpendsWrong)

/-- 'paylaw4.CardShifts': WHATEVER THE INPUT: true; the input reads as it did. -/
def cardShiftsSpec : ChangeSpec := { name := "cardShifts", fn := fun _ => fun
  | [d1, d2, d3, d4, d5] => { results := [.lit (.bool true)], args := [d1, d2, d3, d4, d5] }
  | _ => none }
def cardShiftsRow : OpenClaim := { program := "ytodkcagingnelab", sum := "74c8e8decc22fcfa01a4e80dded1797ef838ae6fb95965ad2798208ef633bab2", func := "paystone/paylaw4.CardShifts", spec := "cardShifts", unfollowed := true, recurses := true, apart := false }
def CardShiftsSaid : Prop := cardShiftsRow.holds Try.pinned (OpenSpec.ofChange cardShiftsSpec)

/-- ITS FALSE NEIGHBOUR: 'it returns false'. Refute it at one input. -/
def cardShiftsWrong : ChangeSpec := { name := "cardShifts", fn := fun _ => fun
  | [d1, d2, d3, d4, d5] => { results := [.lit (.bool false)], args := [d1, d2, d3, d4, d5] }
  | _ => none }
def CardShiftsWrongFalsely : Prop := cardShiftsRow.holds Try.pinned (OpenSpec.ofChange cardShiftsWrong)

/-- 'paylaw4.CardForced': WHATEVER THE INPUT: true; the input reads as it did. -/
def cardForcedSpec : ChangeSpec := { name := "cardForced", fn := fun _ => fun
  | [d1, d2] => { results := [.lit (.bool true)], args := [d1, d2] }
  | _ => none }
def cardForcedRow : OpenClaim := { program := "ytodkcagingnelab", sum := "74c8e8decc22fcfa01a4e80dded1797ef838ae6fb95965ad2798208ef633bab2", func := "paystone/paylaw4.CardForced", spec := "cardForced", unfollowed := true, recurses := true, apart := false }
def CardForcedSaid : Prop := cardForcedRow.holds Try.pinned (OpenSpec.ofChange cardForcedSpec)

/-- ITS FALSE NEIGHBOUR: 'it returns false'. Refute it at one input. -/
def cardForcedWrong : ChangeSpec := { name := "cardForced", fn := fun _ => fun
  | [d1, d2] => { results := [.lit (.bool false)], args := [d1, d2] }
  | _ => none }
def CardForcedWrongFalsely : Prop := cardForcedRow.holds Try.pinned (OpenSpec.ofChange cardForcedWrong)

/-- 'paylaw5.PostTells': WHATEVER THE INPUT: true; the input reads as it did. -/
def postTellsSpec : ChangeSpec := { name := "postTells", fn := fun _ => fun
  | [d1, d2, d3] => { results := [.lit (.bool true)], args := [d1, d2, d3] }
  | _ => none }
def postTellsRow : OpenClaim := { program := "ytodkcagingnelab", sum := "74c8e8decc22fcfa01a4e80dded1797ef838ae6fb95965ad2798208ef633bab2", func := "paystone/paylaw5.PostTells", spec := "postTells", unfollowed := true, recurses := true, apart := false }
def PostTellsSaid : Prop := postTellsRow.holds Try.pinned (OpenSpec.ofChange postTellsSpec)

/-- ITS FALSE NEIGHBOUR: 'it returns false'. Refute it at one input. -/
def postTellsWrong : ChangeSpec := { name := "postTells", fn := fun _ => fun
  | [d1, d2, d3] => { results := [.lit (.bool false)], args := [d1, d2, d3] }
  | _ => none }
def PostTellsWrongFalsely : Prop := postTellsRow.holds Try.pinned (OpenSpec.ofChange postTellsWrong)

/-- 'paylaw5.PostOnce': WHATEVER THE INPUT: true; the input reads as it did. -/
def postOnceSpec : ChangeSpec := { name := "postOnce", fn := fun _ => fun
  | [d] => { results := [.lit (.bool true)], args := [d] }
  | _ => none }
def postOnceRow : OpenClaim := { program := "ytodkcagingnelab", sum := "74c8e8decc22fcfa01a4e80dded1797ef838ae6fb95965ad2798208ef633bab2", func := "paystone/paylaw5.PostOnce", spec := "postOnce", unfollowed := true, recurses := true, apart := false }
def PostOnceSaid : Prop := postOnceRow.holds Try.pinned (OpenSpec.ofChange postOnceSpec)

/-- ITS FALSE NEIGHBOUR: 'it returns false'. Refute it at one input. -/
def postOnceWrong : ChangeSpec := { name := "postOnce", fn := fun _ => fun
  | [d] => { results := [.lit (.bool false)], args := [d] }
  | _ => none }
def PostOnceWrongFalsely : Prop := postOnceRow.holds Try.pinned (OpenSpec.ofChange postOnceWrong)

/-- 'paylaw5.PostKept': WHATEVER THE INPUT: true; the input reads as it did. -/
def postKeptSpec : ChangeSpec := { name := "postKept", fn := fun _ => fun
  | [d1, d2] => { results := [.lit (.bool true)], args := [d1, d2] }
  | _ => none }
def postKeptRow : OpenClaim := { program := "ytodkcagingnelab", sum := "74c8e8decc22fcfa01a4e80dded1797ef838ae6fb95965ad2798208ef633bab2", func := "paystone/paylaw5.PostKept", spec := "postKept", unfollowed := true, recurses := true, apart := false }
def PostKeptSaid : Prop := postKeptRow.holds Try.pinned (OpenSpec.ofChange postKeptSpec)

/-- ITS FALSE NEIGHBOUR: 'it returns false'. Refute it at one input. -/
def postKeptWrong : ChangeSpec := { name := "postKept", fn := fun _ => fun
  | [d1, d2] => { results := [.lit (.bool false)], args := [d1, d2] }
  | _ => none }
def PostKeptWrongFalsely : Prop := postKeptRow.holds Try.pinned (OpenSpec.ofChange postKeptWrong)

/-- 'paylaw6.StandTells': WHATEVER THE INPUT: true; the input reads as it did. -/
def standTellsSpec : ChangeSpec := { name := "standTells", fn := fun _ => fun
  | [d1, d2, d3, d4] => { results := [.lit (.bool true)], args := [d1, d2, d3, d4] }
  | _ => none }
def standTellsRow : OpenClaim := { program := "ytodkcagingnelab", sum := "74c8e8decc22fcfa01a4e80dded1797ef838ae6fb95965ad2798208ef633bab2", func := "paystone/paylaw6.StandTells", spec := "standTells", apart := false }
def StandTellsSaid : Prop := standTellsRow.holds Try.pinned (OpenSpec.ofChange standTellsSpec)

/-- ITS FALSE NEIGHBOUR: 'it returns false'. Refute it at one input. -/
def standTellsWrong : ChangeSpec := { name := "standTells", fn := fun _ => fun
  | [d1, d2, d3, d4] => { results := [.lit (.bool false)], args := [d1, d2, d3, d4] }
  | _ => none }
def StandTellsWrongFalsely : Prop := standTellsRow.holds Try.pinned (OpenSpec.ofChange standTellsWrong)

/-- 'paylaw6.StandCap': WHATEVER THE INPUT: true; the input reads as it did. -/
def standCapSpec : ChangeSpec := { name := "standCap", fn := fun _ => fun
  | [d1, d2, d3] => { results := [.lit (.bool true)], args := [d1, d2, d3] }
  | _ => none }
def standCapRow : OpenClaim := { program := "ytodkcagingnelab", sum := "74c8e8decc22fcfa01a4e80dded1797ef838ae6fb95965ad2798208ef633bab2", func := "paystone/paylaw6.StandCap", spec := "standCap", apart := false }
def StandCapSaid : Prop := standCapRow.holds Try.pinned (OpenSpec.ofChange standCapSpec)

/-- ITS FALSE NEIGHBOUR: 'it returns false'. Refute it at one input. -/
def standCapWrong : ChangeSpec := { name := "standCap", fn := fun _ => fun
  | [d1, d2, d3] => { results := [.lit (.bool false)], args := [d1, d2, d3] }
  | _ => none }
def StandCapWrongFalsely : Prop := standCapRow.holds Try.pinned (OpenSpec.ofChange standCapWrong)

/-- 'paylaw6.StandAnew': WHATEVER THE INPUT: true; the input reads as it did. -/
def standAnewSpec : ChangeSpec := { name := "standAnew", fn := fun _ => fun
  | [d] => { results := [.lit (.bool true)], args := [d] }
  | _ => none }
def standAnewRow : OpenClaim := { program := "ytodkcagingnelab", sum := "74c8e8decc22fcfa01a4e80dded1797ef838ae6fb95965ad2798208ef633bab2", func := "paystone/paylaw6.StandAnew", spec := "standAnew", apart := false }
def StandAnewSaid : Prop := standAnewRow.holds Try.pinned (OpenSpec.ofChange standAnewSpec)

/-- ITS FALSE NEIGHBOUR: 'it returns false'. Refute it at one input. -/
def standAnewWrong : ChangeSpec := { name := "standAnew", fn := fun _ => fun
  | [d] => { results := [.lit (.bool false)], args := [d] }
  | _ => none }
def StandAnewWrongFalsely : Prop := standAnewRow.holds Try.pinned (OpenSpec.ofChange standAnewWrong)

/-- 'paylaw7.DayTells': WHATEVER THE INPUT: true; the input reads as it did. -/
def dayTellsSpec : ChangeSpec := { name := "dayTells", fn := fun _ => fun
  | [d1, d2, d3] => { results := [.lit (.bool true)], args := [d1, d2, d3] }
  | _ => none }
def dayTellsRow : OpenClaim := { program := "ytodkcagingnelab", sum := "74c8e8decc22fcfa01a4e80dded1797ef838ae6fb95965ad2798208ef633bab2", func := "paystone/paylaw7.DayTells", spec := "dayTells", unfollowed := true, recurses := true, apart := false }
def DayTellsSaid : Prop := dayTellsRow.holds Try.pinned (OpenSpec.ofChange dayTellsSpec)

/-- ITS FALSE NEIGHBOUR: 'it returns false'. Refute it at one input. -/
def dayTellsWrong : ChangeSpec := { name := "dayTells", fn := fun _ => fun
  | [d1, d2, d3] => { results := [.lit (.bool false)], args := [d1, d2, d3] }
  | _ => none }
def DayTellsWrongFalsely : Prop := dayTellsRow.holds Try.pinned (OpenSpec.ofChange dayTellsWrong)

/-- 'paylaw7.DayTurns': WHATEVER THE INPUT: true; the input reads as it did. -/
def dayTurnsSpec : ChangeSpec := { name := "dayTurns", fn := fun _ => fun
  | [d1, d2] => { results := [.lit (.bool true)], args := [d1, d2] }
  | _ => none }
def dayTurnsRow : OpenClaim := { program := "ytodkcagingnelab", sum := "74c8e8decc22fcfa01a4e80dded1797ef838ae6fb95965ad2798208ef633bab2", func := "paystone/paylaw7.DayTurns", spec := "dayTurns", unfollowed := true, recurses := true, apart := false }
def DayTurnsSaid : Prop := dayTurnsRow.holds Try.pinned (OpenSpec.ofChange dayTurnsSpec)

/-- ITS FALSE NEIGHBOUR: 'it returns false'. Refute it at one input. -/
def dayTurnsWrong : ChangeSpec := { name := "dayTurns", fn := fun _ => fun
  | [d1, d2] => { results := [.lit (.bool false)], args := [d1, d2] }
  | _ => none }
def DayTurnsWrongFalsely : Prop := dayTurnsRow.holds Try.pinned (OpenSpec.ofChange dayTurnsWrong)

/-- 'paylaw7.DaySorted': WHATEVER THE INPUT: true; the input reads as it did. -/
def daySortedSpec : ChangeSpec := { name := "daySorted", fn := fun _ => fun
  | [d1, d2] => { results := [.lit (.bool true)], args := [d1, d2] }
  | _ => none }
def daySortedRow : OpenClaim := { program := "ytodkcagingnelab", sum := "74c8e8decc22fcfa01a4e80dded1797ef838ae6fb95965ad2798208ef633bab2", func := "paystone/paylaw7.DaySorted", spec := "daySorted", unfollowed := true, recurses := true, apart := false }
def DaySortedSaid : Prop := daySortedRow.holds Try.pinned (OpenSpec.ofChange daySortedSpec)

/-- ITS FALSE NEIGHBOUR: 'it returns false'. Refute it at one input. -/
def daySortedWrong : ChangeSpec := { name := "daySorted", fn := fun _ => fun
  | [d1, d2] => { results := [.lit (.bool false)], args := [d1, d2] }
  | _ => none }
def DaySortedWrongFalsely : Prop := daySortedRow.holds Try.pinned (OpenSpec.ofChange daySortedWrong)

/- THE SECOND FORM. 'bulk': how many values and letters a reading holds, each counted each time it is reached (what is shared counts as often as it is met; a slice's spare places count too). A statement '..UptoSaid' is the law's where the arguments, and the package variables that the reading takes, are together of bulk at most 1048576: NARROWER than '..Said'. Prove '..Said' where nothing that the law and all that it calls make is longer than what came in: it says more and counts as full. Else prove '..UptoSaid'. A law counts once. -/
mutual
def uptoBulk {H : Type} : DataW H → Nat
  | .lit (.string bytes) => bytes.length + 1
  | .lit _ => 1
  | .nil => 1
  | .ptr d => uptoBulk d + 1
  | .slice elems spare => uptoBulkAll elems + uptoBulkAll spare + 1
  | .agg parts => uptoBulkAll parts + 1
  | .iface _ d => uptoBulk d + 1
  | .map entries => uptoBulkEntries entries + 1
  | .held _ => 1
def uptoBulkAll {H : Type} : List (DataW H) → Nat
  | [] => 0
  | d :: r => uptoBulk d + uptoBulkAll r
def uptoBulkEntries {H : Type} : List (Lit × DataW H) → Nat
  | [] => 0
  | x :: r => uptoBulkEntry x + uptoBulkEntries r
def uptoBulkEntry {H : Type} : Lit × DataW H → Nat
  | (.string bytes, d) => bytes.length + uptoBulk d + 1
  | (_, d) => uptoBulk d + 1
 end
def uptoSmall : (H : Type) → List (DataW H) → Bool := fun _ ds => decide (uptoBulkAll ds ≤ 1048576)
def OpenSpec.upto (s : _root_.Go.ChangeSpec) : _root_.Go.OpenSpec := { _root_.Go.OpenSpec.ofChange s with cond := some uptoSmall }

/-- 'paylaw4.CardSpends', WHERE WHAT IT READS IS OF BULK AT MOST 1048576: true; the input reads as it did. -/
def cardSpendsUptoRow : OpenClaim := { program := "ytodkcagingnelab", sum := "74c8e8decc22fcfa01a4e80dded1797ef838ae6fb95965ad2798208ef633bab2", func := "paystone/paylaw4.CardSpends", spec := "cardSpends", unfollowed := true, recurses := true, apart := false, narrowed := true }
def CardSpendsUptoSaid : Prop := cardSpendsUptoRow.holds Try.pinned (OpenSpec.upto cardSpendsSpec)

/-- 'paylaw4.CardShifts', WHERE WHAT IT READS IS OF BULK AT MOST 1048576: true; the input reads as it did. -/
def cardShiftsUptoRow : OpenClaim := { program := "ytodkcagingnelab", sum := "74c8e8decc22fcfa01a4e80dded1797ef838ae6fb95965ad2798208ef633bab2", func := "paystone/paylaw4.CardShifts", spec := "cardShifts", unfollowed := true, recurses := true, apart := false, narrowed := true }
def CardShiftsUptoSaid : Prop := cardShiftsUptoRow.holds Try.pinned (OpenSpec.upto cardShiftsSpec)

/-- 'paylaw4.CardForced', WHERE WHAT IT READS IS OF BULK AT MOST 1048576: true; the input reads as it did. -/
def cardForcedUptoRow : OpenClaim := { program := "ytodkcagingnelab", sum := "74c8e8decc22fcfa01a4e80dded1797ef838ae6fb95965ad2798208ef633bab2", func := "paystone/paylaw4.CardForced", spec := "cardForced", unfollowed := true, recurses := true, apart := false, narrowed := true }
def CardForcedUptoSaid : Prop := cardForcedUptoRow.holds Try.pinned (OpenSpec.upto cardForcedSpec)

/-- 'paylaw5.PostTells', WHERE WHAT IT READS IS OF BULK AT MOST 1048576: true; the input reads as it did. -/
def postTellsUptoRow : OpenClaim := { program := "ytodkcagingnelab", sum := "74c8e8decc22fcfa01a4e80dded1797ef838ae6fb95965ad2798208ef633bab2", func := "paystone/paylaw5.PostTells", spec := "postTells", unfollowed := true, recurses := true, apart := false, narrowed := true }
def PostTellsUptoSaid : Prop := postTellsUptoRow.holds Try.pinned (OpenSpec.upto postTellsSpec)

/-- 'paylaw5.PostOnce', WHERE WHAT IT READS IS OF BULK AT MOST 1048576: true; the input reads as it did. -/
def postOnceUptoRow : OpenClaim := { program := "ytodkcagingnelab", sum := "74c8e8decc22fcfa01a4e80dded1797ef838ae6fb95965ad2798208ef633bab2", func := "paystone/paylaw5.PostOnce", spec := "postOnce", unfollowed := true, recurses := true, apart := false, narrowed := true }
def PostOnceUptoSaid : Prop := postOnceUptoRow.holds Try.pinned (OpenSpec.upto postOnceSpec)

/-- 'paylaw5.PostKept', WHERE WHAT IT READS IS OF BULK AT MOST 1048576: true; the input reads as it did. -/
def postKeptUptoRow : OpenClaim := { program := "ytodkcagingnelab", sum := "74c8e8decc22fcfa01a4e80dded1797ef838ae6fb95965ad2798208ef633bab2", func := "paystone/paylaw5.PostKept", spec := "postKept", unfollowed := true, recurses := true, apart := false, narrowed := true }
def PostKeptUptoSaid : Prop := postKeptUptoRow.holds Try.pinned (OpenSpec.upto postKeptSpec)

/-- 'paylaw6.StandTells', WHERE WHAT IT READS IS OF BULK AT MOST 1048576: true; the input reads as it did. -/
def standTellsUptoRow : OpenClaim := { program := "ytodkcagingnelab", sum := "74c8e8decc22fcfa01a4e80dded1797ef838ae6fb95965ad2798208ef633bab2", func := "paystone/paylaw6.StandTells", spec := "standTells", apart := false, narrowed := true }
def StandTellsUptoSaid : Prop := standTellsUptoRow.holds Try.pinned (OpenSpec.upto standTellsSpec)

/-- 'paylaw6.StandCap', WHERE WHAT IT READS IS OF BULK AT MOST 1048576: true; the input reads as it did. -/
def standCapUptoRow : OpenClaim := { program := "ytodkcagingnelab", sum := "74c8e8decc22fcfa01a4e80dded1797ef838ae6fb95965ad2798208ef633bab2", func := "paystone/paylaw6.StandCap", spec := "standCap", apart := false, narrowed := true }
def StandCapUptoSaid : Prop := standCapUptoRow.holds Try.pinned (OpenSpec.upto standCapSpec)

/-- 'paylaw6.StandAnew', WHERE WHAT IT READS IS OF BULK AT MOST 1048576: true; the input reads as it did. -/
def standAnewUptoRow : OpenClaim := { program := "ytodkcagingnelab", sum := "74c8e8decc22fcfa01a4e80dded1797ef838ae6fb95965ad2798208ef633bab2", func := "paystone/paylaw6.StandAnew", spec := "standAnew", apart := false, narrowed := true }
def StandAnewUptoSaid : Prop := standAnewUptoRow.holds Try.pinned (OpenSpec.upto standAnewSpec)

/-- 'paylaw7.DayTells', WHERE WHAT IT READS IS OF BULK AT MOST 1048576: true; the input reads as it did. -/
def dayTellsUptoRow : OpenClaim := { program := "ytodkcagingnelab", sum := "74c8e8decc22fcfa01a4e80dded1797ef838ae6fb95965ad2798208ef633bab2", func := "paystone/paylaw7.DayTells", spec := "dayTells", unfollowed := true, recurses := true, apart := false, narrowed := true }
def DayTellsUptoSaid : Prop := dayTellsUptoRow.holds Try.pinned (OpenSpec.upto dayTellsSpec)

/-- 'paylaw7.DayTurns', WHERE WHAT IT READS IS OF BULK AT MOST 1048576: true; the input reads as it did. -/
def dayTurnsUptoRow : OpenClaim := { program := "ytodkcagingnelab", sum := "74c8e8decc22fcfa01a4e80dded1797ef838ae6fb95965ad2798208ef633bab2", func := "paystone/paylaw7.DayTurns", spec := "dayTurns", unfollowed := true, recurses := true, apart := false, narrowed := true }
def DayTurnsUptoSaid : Prop := dayTurnsUptoRow.holds Try.pinned (OpenSpec.upto dayTurnsSpec)

/-- 'paylaw7.DaySorted', WHERE WHAT IT READS IS OF BULK AT MOST 1048576: true; the input reads as it did. -/
def daySortedUptoRow : OpenClaim := { program := "ytodkcagingnelab", sum := "74c8e8decc22fcfa01a4e80dded1797ef838ae6fb95965ad2798208ef633bab2", func := "paystone/paylaw7.DaySorted", spec := "daySorted", unfollowed := true, recurses := true, apart := false, narrowed := true }
def DaySortedUptoSaid : Prop := daySortedUptoRow.holds Try.pinned (OpenSpec.upto daySortedSpec)

end Rows
end Go.Proofs.Ytodkcagingnelab
