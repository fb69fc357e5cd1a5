/- The walks of the document's WrongAuth, and of Hold, Late and New with the document's. -/
import Derived.Test.YtolfddiofcllcaaWalka
import Derived.Deep.QuietTactic
import Derived.BigQuiet
namespace Go.Proofs.Ytolfddiofcllcaa
open Go.RowKit

set_option maxHeartbeats 2000000 in
theorem refWrong_any (a : Au) (w : World) :
    Calls Try.prog 22 #[av a] w fun e w' => e = .returned (.int .i64 (wrongA a)) ∧ Below w.heap.size w w' := by
  unfold av
  have b0 : ∀ o, Below w.heap.size w (w.alloc o) := fun o => (Below.refl _ _).alloc (Nat.le_refl _) _
  rcases wrong_ways a with ⟨h1, H⟩ | ⟨h1, h2, H⟩ | ⟨h1, h2, h3, H⟩ | ⟨h1, h2, h3, h4, H⟩ | ⟨h1, h2, h3, h4, ⟨-, h5, H⟩ | ⟨-, h5, h6, -, h7, H⟩ | ⟨-, h5, h6, -, h7, h8, ⟨h9, H⟩ | ⟨h9, h10, H⟩ | ⟨h9, h10, q1, q2, q3, q4, ⟨h11, H⟩ | ⟨h11, h12, H⟩ | ⟨h11, h12, H⟩⟩⟩⟩
  case inr.inr.inr.inr.inl =>
    by_cases hc : a.card < 0
    · clear h5
      go_enter Try.func22, Try.ntmps22
      go_wp2_with (go_at_call 40; refine (refSum_any _ _).mono ?_; rintro e w' ⟨rfl, rfl⟩)
      go_ret
      exact ⟨ret_int H.out.symm, b0 _⟩
    · have hc2 : 0 ≤ a.card := by omega
      have hc3 : 7 < a.card := by have := h5.out; omega
      clear h5
      go_enter Try.func22, Try.ntmps22
      go_wp2_with (go_at_call 40; refine (refSum_any _ _).mono ?_; rintro e w' ⟨rfl, rfl⟩)
      go_ret
      exact ⟨ret_int H.out.symm, b0 _⟩
  case inr.inr.inr.inr.inr.inl =>
    have h6' : a.card ≤ 7 := by omega
    by_cases hc : a.shop < 0
    · clear h7
      go_enter Try.func22, Try.ntmps22
      go_wp2_with (go_at_call 40; refine (refSum_any _ _).mono ?_; rintro e w' ⟨rfl, rfl⟩)
      go_ret
      exact ⟨ret_int H.out.symm, b0 _⟩
    · have hc2 : 0 ≤ a.shop := by omega
      have hc3 : 7 < a.shop := by have := h7.out; omega
      clear h7
      go_enter Try.func22, Try.ntmps22
      go_wp2_with (go_at_call 40; refine (refSum_any _ _).mono ?_; rintro e w' ⟨rfl, rfl⟩)
      go_ret
      exact ⟨ret_int H.out.symm, b0 _⟩
  all_goals
    try have g1 : a.card ≤ 7 := by omega
    try have g2 : a.shop ≤ 7 := by omega
    go_enter Try.func22, Try.ntmps22
    go_wp2_with (go_at_call 40; refine (refSum_any _ _).mono ?_; rintro e w' ⟨rfl, rfl⟩)
    go_ret
    exact ⟨ret_int H.out.symm, b0 _⟩

end Go.Proofs.Ytolfddiofcllcaa
