/- The walk of the document's Post: where it refuses ahead of its loops. -/
import Derived.Test.YtabbjhibmeaaaaaWalkg
import Derived.Test.YtabbjhibmeaaaaaWalkd
import Derived.Test.YtabbjhibmeaaaaaMathe
namespace Go.Proofs.Ytabbjhibmeaaaaa
open Go.RowKit

set_option maxHeartbeats 1000000 in
theorem refPost_bad (a : Option Addr) (cap : Nat) (l : List (Int × Int)) (a2 : Option Addr) (cap2 : Nat) (E : List (Int × Int)) (w : World) (hl : Ents w a l) (hw : (wrong l).1 ≠ 0) :
    Calls Try.prog 11 #[.slice a l.length cap, .slice a2 E.length cap2] w fun e w' => Answers w (post l E) e w' := by
  have HP := hid (post_wrong (E := E) hw)
  have hne : ((wrong l).1 != 0) = true := by simpa using hw
  clear hw
  go_enter Try.func11, Try.ntmps11
  go_wp2_with fail
  refine (refWrong_any _ _ _ _ hl).mono ?_
  rintro e w1 ⟨rfl, hb1⟩
  generalize wrong l = r at *
  go_wp2
  go_quiet (fail)
  go_wp2
  go_ret2
  unfold Answers
  rw [HP.out]
  exact ⟨none, 0, rfl, ents_nil _ _, below_drewN (hb1.alloc hb1.size _) _⟩

set_option maxHeartbeats 1000000 in
theorem refPost_many (a : Option Addr) (cap : Nat) (l : List (Int × Int)) (a2 : Option Addr) (cap2 : Nat) (E : List (Int × Int)) (w : World) (hl : Ents w a l) (hw : (wrong l).1 = 0) (hm : 10 < E.length) :
    Calls Try.prog 11 #[.slice a l.length cap, .slice a2 E.length cap2] w fun e w' => Answers w (post l E) e w' := by
  have HP : Hid (post l E = ([], 5)) := hid (by rw [post_entries hw (by rw [wrongEs_many hm]; decide), wrongEs_many hm])
  have hne : ((wrong l).1 != 0) = false := by simpa using hw
  have hm' : (10 : Int) < E.length := by omega
  clear hw
  go_enter Try.func11, Try.ntmps11
  go_wp2_with fail
  refine (refWrong_any _ _ _ _ hl).mono ?_
  rintro e w1 ⟨rfl, hb1⟩
  generalize wrong l = r at *
  go_wp2
  go_ret2
  unfold Answers
  rw [HP.out]
  exact ⟨none, 0, rfl, ents_nil _ _, hb1.alloc hb1.size _⟩
end Go.Proofs.Ytabbjhibmeaaaaa
