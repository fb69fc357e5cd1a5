import Derived.Test.YtofcnebekmjdoaaGreatDoorKab
import Derived.Test.YtofcnebekmjdoaaGreatDoorKai
set_option maxHeartbeats 4000000
set_option maxRecDepth 100000
namespace Go.Proofs.YtofcnebekmjdoaaGreatDoor.Au
theorem Au.same {a b : Au} (h1 : a.card = b.card) (h2 : a.shop = b.shop) (h3 : a.sum = b.sum) (h4 : a.cap = b.cap) (h5 : a.ref = b.ref) (h6 : a.dis = b.dis) (h7 : a.till = b.till) (h8 : a.shut = b.shut) : a = b := by
 cases a; cases b; simp only at h1 h2 h3 h4 h5 h6 h7 h8; subst h1 h2 h3 h4 h5 h6 h7 h8; rfl
end Go.Proofs.YtofcnebekmjdoaaGreatDoor.Au
namespace Go.Proofs.YtofcnebekmjdoaaGreatDoor.Dy
def sgn (k : Int) : Int := if k = 2 ∨ k = 3 then 1 else if k = 5 ∨ k = 7 then -1 else 0
def netF (shop : Int) (r : Rc) : Int := if r.sh = shop then r.m * sgn r.k else 0
def net (shop : Int) (l : List Rc) : Int := sumBy (netF shop) l
end Go.Proofs.YtofcnebekmjdoaaGreatDoor.Dy
namespace Go.Proofs.YtofcnebekmjdoaaGreatDoor.St
open Go.RowKit Go.Proofs.YtofcnebekmjdoaaGreatDoor.Gn
variable {w W W' : World} {n : Int} {v1 v2 : Value} {t : Ad}
theorem Gi.one (h : Gi w n v1 v2 t W) (u : Value) : Gi w n u v2 t (W.setCell ⟨w.heap.size, 1, none⟩ u) := by
 refine ⟨h.bel.setCell (by simp) _, ?_, (heap_setCell_other _ _ _ _ (by simp)).trans h.tb, (heap_setCell_other _ _ _ _ (by simp)).trans h.res⟩
 have := heap_setCell_same W w.heap.size 1 _ _ u h.box
 simpa [dob] using this
end Go.Proofs.YtofcnebekmjdoaaGreatDoor.St
