/- The walks of the document's WrongPace and of its test of a sum. -/
import Derived.Test.YtdifndnogpcbkaaWalka
namespace Go.Proofs.Ytdifndnogpcbkaa
open Go.RowKit

set_option maxHeartbeats 2000000 in
theorem refWrong_any (p : Pa) (w : World) :
    Calls Try.prog 37 #[pv p] w fun e w' => e = .returned (.int .i64 (wrongP p)) ∧ Below w.heap.size w w' := by
  unfold pv
  have b0 : ∀ o, Below w.heap.size w (w.alloc o) := fun o => (Below.refl _ _).alloc (Nat.le_refl _) _
  rcases wrongP_ways p with ⟨h1, H⟩ | ⟨h1, h2, H⟩ | ⟨h1, h2, h3, H⟩ | ⟨h1, h2, h3, h4, H⟩ | ⟨h1, h2, h3, h4, h5, H⟩ | ⟨h1, h2, h3, h4, h5, h6, H⟩ | ⟨h1, h2, h3, h4, h5, h6, H⟩
  all_goals
    go_enter Try.func37, Try.ntmps37
    go_wp2
    go_ret
    exact ⟨ret_int H.out.symm, b0 _⟩

def isS (s : Int) : Bool := decide (0 ≤ s) && decide (s ≤ 1000000)

set_option maxHeartbeats 400000 in
theorem refSum_any (s : Int) (w : World) :
    Calls Try.prog 64 #[.int .i64 s] w fun e w' => e = .returned (.bool (isS s)) ∧ w' = w := by
  unfold isS
  by_cases h1 : 0 ≤ s <;> by_cases h2 : s ≤ 1000000
  all_goals
    go_enter Try.func64, Try.ntmps64
    go_wp2
    go_ret
    simp [h1, h2]
end Go.Proofs.Ytdifndnogpcbkaa
