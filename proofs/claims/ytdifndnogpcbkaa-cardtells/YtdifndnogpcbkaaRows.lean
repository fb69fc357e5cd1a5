/-
  No cell of these rows narrows 'for every input' (looked for: loops, veiled, ifaces, maps, wideKeys, modest, calm, conditions, laid).
  DERIVED. THE GIVEN ROWS OF THIS SEAT. 12 by the template 'for every input the law returns true; each argument reads behind the call as it read before'; 0 by the template 'total and deterministic' (their statements: YtdifndnogpcbkaaTotals.lean).
  GIVEN WITH THE SEED: the statements are not yours to turn. If you find one false, say at which input.
  Laid BY PROGRAM, IN A SANDBOX (cutbox-rows.mjs): the forced cells as the released guide's own fill.sh prints them over the translation c7849371a7309eed… (all of the seat's roots in one cut). By AI agents, Wed Nov 11 2026. No macro, syntax, notation, axiom, sorry.
-/
import Derived.Test.YtdifndnogpcbkaaChecked
import GoSem.Claim
import GoSem.ClaimJoined
import GoSem.ClaimMapViews
import Derived.JoinedTies
import Derived.KernelRfl
namespace Go.Proofs.Ytdifndnogpcbkaa
/- THE CELL 'sum', in the pinned program and in every row, IS THE sha256 OF THE DUMP (.gsa) THAT YtdifndnogpcbkaaProg.lean LOADS. Nothing in Lean hashes anything: it is a label: what it is worth is what the hold of that sum in a sandbox is worth. -/
noncomputable def Try.pinned : Pinned := { name := "ytdifndnogpcbkaa", sum := "c7849371a7309eed6f2918ecee3c7cbb9d6cfc6be0ace9d34b6861775698b460", checked := Try.checked }
namespace Rows
def none {H : Type} : Left H := { results := [], args := [] }

/-- 'paylaw1.BookTells': WHATEVER THE INPUT: true; the input reads as it did. -/
def bookTellsSpec : ChangeSpec := { name := "bookTells", fn := fun _ => fun
  | [d1, d2, d3, d4, d5] => { results := [.lit (.bool true)], args := [d1, d2, d3, d4, d5] }
  | _ => none }
def bookTellsRow : OpenClaim := { program := "ytdifndnogpcbkaa", sum := "c7849371a7309eed6f2918ecee3c7cbb9d6cfc6be0ace9d34b6861775698b460", func := "paystone/paylaw1.BookTells", spec := "bookTells", unfollowed := true, recurses := true, apart := false }
def BookTellsSaid : Prop := bookTellsRow.holds Try.pinned (OpenSpec.ofChange bookTellsSpec)

/-- ITS FALSE NEIGHBOUR: 'it returns false'. Refute it at one input. -/
def bookTellsWrong : ChangeSpec := { name := "bookTells", fn := fun _ => fun
  | [d1, d2, d3, d4, d5] => { results := [.lit (.bool false)], args := [d1, d2, d3, d4, d5] }
  | _ => none }
def BookTellsWrongFalsely : Prop := bookTellsRow.holds Try.pinned (OpenSpec.ofChange bookTellsWrong)

/-- 'paylaw1.BookRight': WHATEVER THE INPUT: true; the input reads as it did. -/
def bookRightSpec : ChangeSpec := { name := "bookRight", fn := fun _ => fun
  | [d1, d2, d3] => { results := [.lit (.bool true)], args := [d1, d2, d3] }
  | _ => none }
def bookRightRow : OpenClaim := { program := "ytdifndnogpcbkaa", sum := "c7849371a7309eed6f2918ecee3c7cbb9d6cfc6be0ace9d34b6861775698b460", func := "paystone/paylaw1.BookRight", spec := "bookRight", unfollowed := true, recurses := true, apart := false }
def BookRightSaid : Prop := bookRightRow.holds Try.pinned (OpenSpec.ofChange bookRightSpec)

/-- ITS FALSE NEIGHBOUR: 'it returns false'. Refute it at one input. -/
def bookRightWrong : ChangeSpec := { name := "bookRight", fn := fun _ => fun
  | [d1, d2, d3] => { results := [.lit (.bool false)], args := [d1, d2, d3] }
  | _ => none }
def BookRightWrongFalsely : Prop := bookRightRow.holds Try.pinned (OpenSpec.ofChange bookRightWrong)

/-- 'paylaw1.BookBack': WHATEVER THE INPUT: true; the input reads as it did. -/
def bookBackSpec : ChangeSpec := { name := "bookBack", fn := fun _ => fun
  | [d1, d2, d3, d4, d5] => { results := [.lit (.bool true)], args := [d1, d2, d3, d4, d5] }
  | _ => none }
def bookBackRow : OpenClaim := { program := "ytdifndnogpcbkaa", sum := "c7849371a7309eed6f2918ecee3c7cbb9d6cfc6be0ace9d34b6861775698b460", func := "paystone/paylaw1.BookBack", spec := "bookBack", unfollowed := true, recurses := true, apart := false }
def BookBackSaid : Prop := bookBackRow.holds Try.pinned (OpenSpec.ofChange bookBackSpec)

/-- ITS FALSE NEIGHBOUR: 'it returns false'. Refute it at one input. -/
def bookBackWrong : ChangeSpec := { name := "bookBack", fn := fun _ => fun
  | [d1, d2, d3, d4, d5] => { results := [.lit (.bool false)], args := [d1, d2, d3, d4, d5] }
  | _ => none }
def BookBackWrongFalsely : Prop := bookBackRow.holds Try.pinned (OpenSpec.ofChange bookBackWrong)

/-- 'paylaw2.AuthTells': WHATEVER THE INPUT: true; the input reads as it did. -/
def authTellsSpec : ChangeSpec := { name := "authTells", fn := fun _ => fun
  | [d1, d2, d3, d4, d5, d6] => { results := [.lit (.bool true)], args := [d1, d2, d3, d4, d5, d6] }
  | _ => none }
def authTellsRow : OpenClaim := { program := "ytdifndnogpcbkaa", sum := "c7849371a7309eed6f2918ecee3c7cbb9d6cfc6be0ace9d34b6861775698b460", func := "paystone/paylaw2.AuthTells", spec := "authTells", apart := false }
def AuthTellsSaid : Prop := authTellsRow.holds Try.pinned (OpenSpec.ofChange authTellsSpec)

/-- ITS FALSE NEIGHBOUR: 'it returns false'. Refute it at one input. -/
def authTellsWrong : ChangeSpec := { name := "authTells", fn := fun _ => fun
  | [d1, d2, d3, d4, d5, d6] => { results := [.lit (.bool false)], args := [d1, d2, d3, d4, d5, d6] }
  | _ => none }
def AuthTellsWrongFalsely : Prop := authTellsRow.holds Try.pinned (OpenSpec.ofChange authTellsWrong)

/-- 'paylaw2.AuthRight': WHATEVER THE INPUT: true; the input reads as it did. -/
def authRightSpec : ChangeSpec := { name := "authRight", fn := fun _ => fun
  | [d1, d2] => { results := [.lit (.bool true)], args := [d1, d2] }
  | _ => none }
def authRightRow : OpenClaim := { program := "ytdifndnogpcbkaa", sum := "c7849371a7309eed6f2918ecee3c7cbb9d6cfc6be0ace9d34b6861775698b460", func := "paystone/paylaw2.AuthRight", spec := "authRight", apart := false }
def AuthRightSaid : Prop := authRightRow.holds Try.pinned (OpenSpec.ofChange authRightSpec)

/-- ITS FALSE NEIGHBOUR: 'it returns false'. Refute it at one input. -/
def authRightWrong : ChangeSpec := { name := "authRight", fn := fun _ => fun
  | [d1, d2] => { results := [.lit (.bool false)], args := [d1, d2] }
  | _ => none }
def AuthRightWrongFalsely : Prop := authRightRow.holds Try.pinned (OpenSpec.ofChange authRightWrong)

/-- 'paylaw2.AuthShut': WHATEVER THE INPUT: true; the input reads as it did. -/
def authShutSpec : ChangeSpec := { name := "authShut", fn := fun _ => fun
  | [d1, d2, d3] => { results := [.lit (.bool true)], args := [d1, d2, d3] }
  | _ => none }
def authShutRow : OpenClaim := { program := "ytdifndnogpcbkaa", sum := "c7849371a7309eed6f2918ecee3c7cbb9d6cfc6be0ace9d34b6861775698b460", func := "paystone/paylaw2.AuthShut", spec := "authShut", apart := false }
def AuthShutSaid : Prop := authShutRow.holds Try.pinned (OpenSpec.ofChange authShutSpec)

/-- ITS FALSE NEIGHBOUR: 'it returns false'. Refute it at one input. -/
def authShutWrong : ChangeSpec := { name := "authShut", fn := fun _ => fun
  | [d1, d2, d3] => { results := [.lit (.bool false)], args := [d1, d2, d3] }
  | _ => none }
def AuthShutWrongFalsely : Prop := authShutRow.holds Try.pinned (OpenSpec.ofChange authShutWrong)

/-- 'paylaw2.AuthParts': WHATEVER THE INPUT: true; the input reads as it did. -/
def authPartsSpec : ChangeSpec := { name := "authParts", fn := fun _ => fun
  | [d1, d2, d3, d4] => { results := [.lit (.bool true)], args := [d1, d2, d3, d4] }
  | _ => none }
def authPartsRow : OpenClaim := { program := "ytdifndnogpcbkaa", sum := "c7849371a7309eed6f2918ecee3c7cbb9d6cfc6be0ace9d34b6861775698b460", func := "paystone/paylaw2.AuthParts", spec := "authParts", apart := false }
def AuthPartsSaid : Prop := authPartsRow.holds Try.pinned (OpenSpec.ofChange authPartsSpec)

/-- ITS FALSE NEIGHBOUR: 'it returns false'. Refute it at one input. -/
def authPartsWrong : ChangeSpec := { name := "authParts", fn := fun _ => fun
  | [d1, d2, d3, d4] => { results := [.lit (.bool false)], args := [d1, d2, d3, d4] }
  | _ => none }
def AuthPartsWrongFalsely : Prop := authPartsRow.holds Try.pinned (OpenSpec.ofChange authPartsWrong)

/-- 'paylaw2.AuthSettled': WHATEVER THE INPUT: true; the input reads as it did. -/
def authSettledSpec : ChangeSpec := { name := "authSettled", fn := fun _ => fun
  | [d1, d2] => { results := [.lit (.bool true)], args := [d1, d2] }
  | _ => none }
def authSettledRow : OpenClaim := { program := "ytdifndnogpcbkaa", sum := "c7849371a7309eed6f2918ecee3c7cbb9d6cfc6be0ace9d34b6861775698b460", func := "paystone/paylaw2.AuthSettled", spec := "authSettled", apart := false }
def AuthSettledSaid : Prop := authSettledRow.holds Try.pinned (OpenSpec.ofChange authSettledSpec)

/-- ITS FALSE NEIGHBOUR: 'it returns false'. Refute it at one input. -/
def authSettledWrong : ChangeSpec := { name := "authSettled", fn := fun _ => fun
  | [d1, d2] => { results := [.lit (.bool false)], args := [d1, d2] }
  | _ => none }
def AuthSettledWrongFalsely : Prop := authSettledRow.holds Try.pinned (OpenSpec.ofChange authSettledWrong)

/-- 'paylaw3.PaceTells': WHATEVER THE INPUT: true; the input reads as it did. -/
def paceTellsSpec : ChangeSpec := { name := "paceTells", fn := fun _ => fun
  | [d1, d2, d3] => { results := [.lit (.bool true)], args := [d1, d2, d3] }
  | _ => none }
def paceTellsRow : OpenClaim := { program := "ytdifndnogpcbkaa", sum := "c7849371a7309eed6f2918ecee3c7cbb9d6cfc6be0ace9d34b6861775698b460", func := "paystone/paylaw3.PaceTells", spec := "paceTells", unfollowed := true, recurses := true, apart := false }
def PaceTellsSaid : Prop := paceTellsRow.holds Try.pinned (OpenSpec.ofChange paceTellsSpec)

/-- ITS FALSE NEIGHBOUR: 'it returns false'. Refute it at one input. -/
def paceTellsWrong : ChangeSpec := { name := "paceTells", fn := fun _ => fun
  | [d1, d2, d3] => { results := [.lit (.bool false)], args := [d1, d2, d3] }
  | _ => none }
def PaceTellsWrongFalsely : Prop := paceTellsRow.holds Try.pinned (OpenSpec.ofChange paceTellsWrong)

/-- 'paylaw3.PaceKept': WHATEVER THE INPUT: true; the input reads as it did. -/
def paceKeptSpec : ChangeSpec := { name := "paceKept", fn := fun _ => fun
  | [d1, d2] => { results := [.lit (.bool true)], args := [d1, d2] }
  | _ => none }
def paceKeptRow : OpenClaim := { program := "ytdifndnogpcbkaa", sum := "c7849371a7309eed6f2918ecee3c7cbb9d6cfc6be0ace9d34b6861775698b460", func := "paystone/paylaw3.PaceKept", spec := "paceKept", unfollowed := true, recurses := true, apart := false }
def PaceKeptSaid : Prop := paceKeptRow.holds Try.pinned (OpenSpec.ofChange paceKeptSpec)

/-- ITS FALSE NEIGHBOUR: 'it returns false'. Refute it at one input. -/
def paceKeptWrong : ChangeSpec := { name := "paceKept", fn := fun _ => fun
  | [d1, d2] => { results := [.lit (.bool false)], args := [d1, d2] }
  | _ => none }
def PaceKeptWrongFalsely : Prop := paceKeptRow.holds Try.pinned (OpenSpec.ofChange paceKeptWrong)

/-- 'paylaw3.PaceMore': WHATEVER THE INPUT: true; the input reads as it did. -/
def paceMoreSpec : ChangeSpec := { name := "paceMore", fn := fun _ => fun
  | [d1, d2, d3, d4, d5] => { results := [.lit (.bool true)], args := [d1, d2, d3, d4, d5] }
  | _ => none }
def paceMoreRow : OpenClaim := { program := "ytdifndnogpcbkaa", sum := "c7849371a7309eed6f2918ecee3c7cbb9d6cfc6be0ace9d34b6861775698b460", func := "paystone/paylaw3.PaceMore", spec := "paceMore", unfollowed := true, recurses := true, apart := false }
def PaceMoreSaid : Prop := paceMoreRow.holds Try.pinned (OpenSpec.ofChange paceMoreSpec)

/-- ITS FALSE NEIGHBOUR: 'it returns false'. Refute it at one input. -/
def paceMoreWrong : ChangeSpec := { name := "paceMore", fn := fun _ => fun
  | [d1, d2, d3, d4, d5] => { results := [.lit (.bool false)], args := [d1, d2, d3, d4, d5] }
  | _ => none }
def PaceMoreWrongFalsely : Prop := paceMoreRow.holds Try.pinned (OpenSpec.ofChange paceMoreWrong)

/-- 'paylaw4.CardTells': WHATEVER THE INPUT: true; the input reads as it did. -/
def cardTellsSpec : ChangeSpec := { name := "cardTells", fn := fun _ => fun
  | [d1, d2, d3, d4, d5] => { results := [.lit (.bool true)], args := [d1, d2, d3, d4, d5] }
  | _ => none }
def cardTellsRow : OpenClaim := { program := "ytdifndnogpcbkaa", sum := "c7849371a7309eed6f2918ecee3c7cbb9d6cfc6be0ace9d34b6861775698b460", func := "paystone/paylaw4.CardTells", spec := "cardTells", unfollowed := true, recurses := true, apart := false }
def CardTellsSaid : Prop := cardTellsRow.holds Try.pinned (OpenSpec.ofChange cardTellsSpec)

/-- ITS FALSE NEIGHBOUR: 'it returns false'. Refute it at one input. -/
def cardTellsWrong : ChangeSpec := { name := "cardTells", fn := fun _ => fun
  | [d1, d2, d3, d4, d5] => { results := [.lit (.bool false)], args := [d1, d2, d3, d4, d5] }
  | _ => none }
def CardTellsWrongFalsely : Prop := cardTellsRow.holds Try.pinned (OpenSpec.ofChange cardTellsWrong)

/- THE SECOND FORM. 'bulk': how many values and letters a reading holds, each counted each time it is reached (what is shared counts as often as it is met; a slice's spare places count too). A statement '..UptoSaid' is the law's where the arguments, and the package variables that the reading takes, are together of bulk at most 1048576: NARROWER than '..Said'. Prove '..Said' where nothing that the law and all that it calls make is longer than what came in: it says more and counts as full. Else prove '..UptoSaid'. A law counts once. -/
mutual
def uptoBulk {H : Type} : DataW H → Nat
  | .lit (.string bytes) => bytes.length + 1
  | .lit _ => 1
  | .nil => 1
  | .ptr d => uptoBulk d + 1
  | .slice elems spare => uptoBulkAll elems + uptoBulkAll spare + 1
  | .agg parts => uptoBulkAll parts + 1
  | .iface _ d => uptoBulk d + 1
  | .map entries => uptoBulkEntries entries + 1
  | .held _ => 1
def uptoBulkAll {H : Type} : List (DataW H) → Nat
  | [] => 0
  | d :: r => uptoBulk d + uptoBulkAll r
def uptoBulkEntries {H : Type} : List (Lit × DataW H) → Nat
  | [] => 0
  | x :: r => uptoBulkEntry x + uptoBulkEntries r
def uptoBulkEntry {H : Type} : Lit × DataW H → Nat
  | (.string bytes, d) => bytes.length + uptoBulk d + 1
  | (_, d) => uptoBulk d + 1
 end
def uptoSmall : (H : Type) → List (DataW H) → Bool := fun _ ds => decide (uptoBulkAll ds ≤ 1048576)
def OpenSpec.upto (s : _root_.Go.ChangeSpec) : _root_.Go.OpenSpec := { _root_.Go.OpenSpec.ofChange s with cond := some uptoSmall }

/-- 'paylaw1.BookTells', WHERE WHAT IT READS IS OF BULK AT MOST 1048576: true; the input reads as it did. -/
def bookTellsUptoRow : OpenClaim := { program := "ytdifndnogpcbkaa", sum := "c7849371a7309eed6f2918ecee3c7cbb9d6cfc6be0ace9d34b6861775698b460", func := "paystone/paylaw1.BookTells", spec := "bookTells", unfollowed := true, recurses := true, apart := false, narrowed := true }
def BookTellsUptoSaid : Prop := bookTellsUptoRow.holds Try.pinned (OpenSpec.upto bookTellsSpec)

/-- 'paylaw1.BookRight', WHERE WHAT IT READS IS OF BULK AT MOST 1048576: true; the input reads as it did. -/
def bookRightUptoRow : OpenClaim := { program := "ytdifndnogpcbkaa", sum := "c7849371a7309eed6f2918ecee3c7cbb9d6cfc6be0ace9d34b6861775698b460", func := "paystone/paylaw1.BookRight", spec := "bookRight", unfollowed := true, recurses := true, apart := false, narrowed := true }
def BookRightUptoSaid : Prop := bookRightUptoRow.holds Try.pinned (OpenSpec.upto bookRightSpec)

/-- 'paylaw1.BookBack', WHERE WHAT IT READS IS OF BULK AT MOST 1048576: true; the input reads as it did. -/
def bookBackUptoRow : OpenClaim := { program := "ytdifndnogpcbkaa", sum := "c7849371a7309eed6f2918ecee3c7cbb9d6cfc6be0ace9d34b6861775698b460", func := "paystone/paylaw1.BookBack", spec := "bookBack", unfollowed := true, recurses := true, apart := false, narrowed := true }
def BookBackUptoSaid : Prop := bookBackUptoRow.holds Try.pinned (OpenSpec.upto bookBackSpec)

/-- 'paylaw2.AuthTells', WHERE WHAT IT READS IS OF BULK AT MOST 1048576: true; the input reads as it did. -/
def authTellsUptoRow : OpenClaim := { program := "ytdifndnogpcbkaa", sum := "c7849371a7309eed6f2918ecee3c7cbb9d6cfc6be0ace9d34b6861775698b460", func := "paystone/paylaw2.AuthTells", spec := "authTells", apart := false, narrowed := true }
def AuthTellsUptoSaid : Prop := authTellsUptoRow.holds Try.pinned (OpenSpec.upto authTellsSpec)

/-- 'paylaw2.AuthRight', WHERE WHAT IT READS IS OF BULK AT MOST 1048576: true; the input reads as it did. -/
def authRightUptoRow : OpenClaim := { program := "ytdifndnogpcbkaa", sum := "c7849371a7309eed6f2918ecee3c7cbb9d6cfc6be0ace9d34b6861775698b460", func := "paystone/paylaw2.AuthRight", spec := "authRight", apart := false, narrowed := true }
def AuthRightUptoSaid : Prop := authRightUptoRow.holds Try.pinned (OpenSpec.upto authRightSpec)

/-- 'paylaw2.AuthShut', WHERE WHAT IT READS IS OF BULK AT MOST 1048576: true; the input reads as it did. -/
def authShutUptoRow : OpenClaim := { program := "ytdifndnogpcbkaa", sum := "c7849371a7309eed6f2918ecee3c7cbb9d6cfc6be0ace9d34b6861775698b460", func := "paystone/paylaw2.AuthShut", spec := "authShut", apart := false, narrowed := true }
def AuthShutUptoSaid : Prop := authShutUptoRow.holds Try.pinned (OpenSpec.upto authShutSpec)

/-- 'paylaw2.AuthParts', WHERE WHAT IT READS IS OF BULK AT MOST 1048576: true; the input reads as it did. -/
def authPartsUptoRow : OpenClaim := { program := "ytdifndnogpcbkaa", sum := "c7849371a7309eed6f2918ecee3c7cbb9d6cfc6be0ace9d34b6861775698b460", func := "paystone/paylaw2.AuthParts", spec := "authParts", apart := false, narrowed := true }
def AuthPartsUptoSaid : Prop := authPartsUptoRow.holds Try.pinned (OpenSpec.upto authPartsSpec)

/-- 'paylaw2.AuthSettled', WHERE WHAT IT READS IS OF BULK AT MOST 1048576: true; the input reads as it did. -/
def authSettledUptoRow : OpenClaim := { program := "ytdifndnogpcbkaa", sum := "c7849371a7309eed6f2918ecee3c7cbb9d6cfc6be0ace9d34b6861775698b460", func := "paystone/paylaw2.AuthSettled", spec := "authSettled", apart := false, narrowed := true }
def AuthSettledUptoSaid : Prop := authSettledUptoRow.holds Try.pinned (OpenSpec.upto authSettledSpec)

/-- 'paylaw3.PaceTells', WHERE WHAT IT READS IS OF BULK AT MOST 1048576: true; the input reads as it did. -/
def paceTellsUptoRow : OpenClaim := { program := "ytdifndnogpcbkaa", sum := "c7849371a7309eed6f2918ecee3c7cbb9d6cfc6be0ace9d34b6861775698b460", func := "paystone/paylaw3.PaceTells", spec := "paceTells", unfollowed := true, recurses := true, apart := false, narrowed := true }
def PaceTellsUptoSaid : Prop := paceTellsUptoRow.holds Try.pinned (OpenSpec.upto paceTellsSpec)

/-- 'paylaw3.PaceKept', WHERE WHAT IT READS IS OF BULK AT MOST 1048576: true; the input reads as it did. -/
def paceKeptUptoRow : OpenClaim := { program := "ytdifndnogpcbkaa", sum := "c7849371a7309eed6f2918ecee3c7cbb9d6cfc6be0ace9d34b6861775698b460", func := "paystone/paylaw3.PaceKept", spec := "paceKept", unfollowed := true, recurses := true, apart := false, narrowed := true }
def PaceKeptUptoSaid : Prop := paceKeptUptoRow.holds Try.pinned (OpenSpec.upto paceKeptSpec)

/-- 'paylaw3.PaceMore', WHERE WHAT IT READS IS OF BULK AT MOST 1048576: true; the input reads as it did. -/
def paceMoreUptoRow : OpenClaim := { program := "ytdifndnogpcbkaa", sum := "c7849371a7309eed6f2918ecee3c7cbb9d6cfc6be0ace9d34b6861775698b460", func := "paystone/paylaw3.PaceMore", spec := "paceMore", unfollowed := true, recurses := true, apart := false, narrowed := true }
def PaceMoreUptoSaid : Prop := paceMoreUptoRow.holds Try.pinned (OpenSpec.upto paceMoreSpec)

/-- 'paylaw4.CardTells', WHERE WHAT IT READS IS OF BULK AT MOST 1048576: true; the input reads as it did. -/
def cardTellsUptoRow : OpenClaim := { program := "ytdifndnogpcbkaa", sum := "c7849371a7309eed6f2918ecee3c7cbb9d6cfc6be0ace9d34b6861775698b460", func := "paystone/paylaw4.CardTells", spec := "cardTells", unfollowed := true, recurses := true, apart := false, narrowed := true }
def CardTellsUptoSaid : Prop := cardTellsUptoRow.holds Try.pinned (OpenSpec.upto cardTellsSpec)

end Rows
end Go.Proofs.Ytdifndnogpcbkaa
