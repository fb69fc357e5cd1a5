/- The walk of the law BookTells: whatever the book, the entries, the accounts and the sum, it answers true, and writes nothing that was there. -/
import Derived.Test.YtabbjhibmeaaaaaWalkl
namespace Go.Proofs.Ytabbjhibmeaaaaa
open Go.RowKit

set_option maxHeartbeats 2000000 in
theorem tells_any (a : Option Addr) (cap : Nat) (l : List (Int × Int)) (a2 : Option Addr) (cap2 : Nat) (E : List (Int × Int)) (src dst sum : Int) (w : World) (hl : Ents w a l) (hE : Ents w a2 E) :
    Calls Try.prog 3 #[.slice a l.length cap, .slice a2 E.length cap2, .int .i64 src, .int .i64 dst, .int .i64 sum] w fun e w' => e = .returned (.bool true) ∧ Below w.heap.size w w' := by
  go_enter Try.func3, Try.ntmps3
  go_wp2_with fail
  refine (wrong_any _ _ _ _ hl).mono ?_
  rintro e w1 ⟨rfl, hb1⟩
  go_wp2_with fail
  refine (refWrong_any _ _ _ _ (hl.below hb1)).mono ?_
  rintro e w2 ⟨rfl, hb2⟩
  have hb12 := hb1.trans (hb2.mono hb1.size)
  generalize (wrong l).1 = r1 at *
  generalize (wrong l).2 = r2 at *
  clear hb1 hb2
  go_wp2_with fail
  refine (get_any _ _ _ _ _ (hl.below hb12)).mono ?_
  rintro e w3 ⟨rfl, hb3⟩
  have hb13 := hb12.trans (hb3.mono hb12.size)
  clear hb3 hb12
  go_wp2_with fail
  refine (refGet_any _ _ _ _ _ (hl.below hb13)).mono ?_
  rintro e w4 ⟨rfl, rfl⟩
  generalize getE l src = y at *
  go_wp2_with fail
  refine (post_any a cap l a2 cap2 E _ (hl.below hb13) (hE.below hb13)).mono ?_
  intro e w5 hA
  obtain ⟨a3, cap3, rfl, hE3, hb5⟩ := Answers.up hb13 hA
  clear hA hb13
  go_wp2_with fail
  refine (refPost_any a cap l a2 cap2 E _ (hl.below hb5) (hE.below hb5)).mono ?_
  rintro e w6 ⟨a4, cap4, rfl, hE4, hb6⟩
  have hb16 := hb5.trans (hb6.mono hb5.size)
  have hE3' := hE3.below hb6
  clear hb6 hb5 hE3
  generalize (post l E).1 = L at *
  generalize (post l E).2 = r at *
  go_wp2_with fail
  refine (same_any a3 cap3 L a4 cap4 _ hE3' hE4).mono ?_
  rintro e w7 ⟨rfl, hb7⟩
  have hb17 := hb16.trans (hb7.mono hb16.size)
  clear hb7 hb16 hE3' hE4
  go_wp2_with fail
  refine (move_any a cap l src dst sum _ (hl.below hb17)).mono ?_
  intro e w8 hA
  obtain ⟨a5, cap5, rfl, hE5, hb8⟩ := Answers.up hb17 hA
  clear hA hb17
  go_wp2_with fail
  refine (refMove_any a cap l src dst sum _ (hl.below hb8)).mono ?_
  rintro e w9 ⟨a6, cap6, rfl, hE6, hb9⟩
  have hb19 := hb8.trans (hb9.mono hb8.size)
  have hE5' := hE5.below hb9
  clear hb9 hb8 hE5
  generalize (move l src dst sum).1 = L2 at *
  generalize (move l src dst sum).2 = q at *
  go_wp2_with fail
  refine (same_any a5 cap5 L2 a6 cap6 _ hE5' hE6).mono ?_
  rintro e w10 ⟨rfl, hb10⟩
  go_wp2
  go_ret
  exact ⟨rfl, hb19.trans (hb10.mono hb19.size)⟩
end Go.Proofs.Ytabbjhibmeaaaaa
