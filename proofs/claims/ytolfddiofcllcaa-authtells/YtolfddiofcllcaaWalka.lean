/- The walks of the small functions of auth, and of what is wrong with a permission. -/
import Derived.Test.YtolfddiofcllcaaChecked
import Derived.Test.YtolfddiofcllcaaMath
import Derived.WalkKit
import Derived.WalkSpells
import Derived.WalkLawsBesides
namespace Go.Proofs.Ytolfddiofcllcaa
open Go.RowKit

/-- A permission, as a value. -/
def av (a : Au) : Value := .agg #[.int .i64 a.card, .int .i64 a.shop, .int .i64 a.sum, .int .i64 a.cap, .int .i64 a.ref, .int .i64 a.dis, .int .i64 a.till, .bool a.shut]

theorem ret_bool {a b : Bool} (h : a = b) : Ending.returned (.bool a) = .returned (.bool b) := by rw [h]
theorem ret_int {k : IntKind} {a b : Int} (h : a = b) : Ending.returned (.int k a) = .returned (.int k b) := by rw [h]
theorem hid {p : Prop} (h : p) : Hid p := h

set_option maxHeartbeats 400000 in
theorem isSum_any (s : Int) (w : World) :
    Calls Try.prog 37 #[.int .i64 s] w fun e w' => e = .returned (.bool (isS s)) ∧ w' = w := by
  unfold isS
  by_cases h1 : 0 ≤ s <;> by_cases h2 : s ≤ 1000000
  all_goals
    go_enter Try.func37, Try.ntmps37
    go_wp2
    go_ret
    simp [h1, h2]

set_option maxHeartbeats 400000 in
theorem refSum_any (s : Int) (w : World) :
    Calls Try.prog 40 #[.int .i64 s] w fun e w' => e = .returned (.bool (isS s)) ∧ w' = w := by
  unfold isS
  by_cases h1 : 0 ≤ s <;> by_cases h2 : s ≤ 1000000
  all_goals
    go_enter Try.func40, Try.ntmps40
    go_wp2
    go_ret
    simp [h1, h2]

set_option maxHeartbeats 400000 in
theorem isCard_any (s : Int) (w : World) :
    Calls Try.prog 38 #[.int .i64 s] w fun e w' => e = .returned (.bool (isC s)) ∧ w' = w := by
  unfold isC
  by_cases h1 : 0 ≤ s <;> by_cases h2 : s < 8
  all_goals
    go_enter Try.func38, Try.ntmps38
    go_wp2
    go_ret
    simp [h1, h2]

set_option maxHeartbeats 400000 in
theorem isShop_any (s : Int) (w : World) :
    Calls Try.prog 39 #[.int .i64 s] w fun e w' => e = .returned (.bool (isC s)) ∧ w' = w := by
  unfold isC
  by_cases h1 : 0 ≤ s <;> by_cases h2 : s < 8
  all_goals
    go_enter Try.func39, Try.ntmps39
    go_wp2
    go_ret
    simp [h1, h2]

set_option maxHeartbeats 400000 in
theorem isMove_any (s : Int) (w : World) :
    Calls Try.prog 41 #[.int .i64 s] w fun e w' => e = .returned (.bool (isM s)) ∧ w' = w := by
  unfold isM
  by_cases h1 : 1 ≤ s <;> by_cases h2 : s ≤ 1000000
  all_goals
    go_enter Try.func41, Try.ntmps41
    go_wp2
    go_ret
    simp [h1, h2]

/-- The ways through Wrong. -/
theorem wrong_ways (a : Au) :
    (isS a.sum = false ∧ Hid (wrongA a = 3)) ∨
    (isS a.sum = true ∧ isS a.cap = false ∧ Hid (wrongA a = 3)) ∨
    (isS a.sum = true ∧ isS a.cap = true ∧ isS a.ref = false ∧ Hid (wrongA a = 3)) ∨
    (isS a.sum = true ∧ isS a.cap = true ∧ isS a.ref = true ∧ isS a.dis = false ∧ Hid (wrongA a = 3)) ∨
    (isS a.sum = true ∧ isS a.cap = true ∧ isS a.ref = true ∧ isS a.dis = true ∧
      ((isC a.card = false ∧ Hid (¬ (0 ≤ a.card ∧ a.card < 8)) ∧ Hid (wrongA a = 3)) ∨
       (isC a.card = true ∧ 0 ≤ a.card ∧ a.card < 8 ∧ isC a.shop = false ∧ Hid (¬ (0 ≤ a.shop ∧ a.shop < 8)) ∧ Hid (wrongA a = 3)) ∨
       (isC a.card = true ∧ 0 ≤ a.card ∧ a.card < 8 ∧ isC a.shop = true ∧ 0 ≤ a.shop ∧ a.shop < 8 ∧
         ((a.till < 0 ∧ Hid (wrongA a = 3)) ∨
          (0 ≤ a.till ∧ 1000100 < a.till ∧ Hid (wrongA a = 3)) ∨
          (0 ≤ a.till ∧ a.till ≤ 1000100 ∧ 0 ≤ a.ref ∧ a.ref ≤ 1000000 ∧ 0 ≤ a.dis ∧ a.dis ≤ 1000000 ∧
            ((a.sum < a.cap ∧ Hid (wrongA a = 8)) ∨
             (a.cap ≤ a.sum ∧ a.cap < a.ref + a.dis ∧ Hid (wrongA a = 8)) ∨
             (a.cap ≤ a.sum ∧ a.ref + a.dis ≤ a.cap ∧ Hid (wrongA a = 0)))))))) := by
  have key : ∀ p : Bool, p = false ∨ p = true := by decide
  rcases key (isS a.sum) with h1 | h1
  · exact Or.inl ⟨h1, wrongA_rng fun h => isS_false.1 h1 h.1⟩
  rcases key (isS a.cap) with h2 | h2
  · exact Or.inr (Or.inl ⟨h1, h2, wrongA_rng fun h => isS_false.1 h2 h.2.1⟩)
  rcases key (isS a.ref) with h3 | h3
  · exact Or.inr (Or.inr (Or.inl ⟨h1, h2, h3, wrongA_rng fun h => isS_false.1 h3 h.2.2.1⟩))
  rcases key (isS a.dis) with h4 | h4
  · exact Or.inr (Or.inr (Or.inr (Or.inl ⟨h1, h2, h3, h4, wrongA_rng fun h => isS_false.1 h4 h.2.2.2.1⟩)))
  refine Or.inr (Or.inr (Or.inr (Or.inr ⟨h1, h2, h3, h4, ?_⟩)))
  rcases key (isC a.card) with h5 | h5
  · exact Or.inl ⟨h5, isC_false.1 h5, wrongA_rng fun h => isC_false.1 h5 h.2.2.2.2.1⟩
  have c5 := isC_true.1 h5
  rcases key (isC a.shop) with h6 | h6
  · exact Or.inr (Or.inl ⟨h5, c5.1, c5.2, h6, isC_false.1 h6, wrongA_rng fun h => isC_false.1 h6 h.2.2.2.2.2.1⟩)
  have c6 := isC_true.1 h6
  refine Or.inr (Or.inr ⟨h5, c5.1, c5.2, h6, c6.1, c6.2, ?_⟩)
  by_cases h7 : a.till < 0
  · exact Or.inl ⟨h7, wrongA_rng fun h => by have := h.2.2.2.2.2.2.1; omega⟩
  by_cases h8 : 1000100 < a.till
  · exact Or.inr (Or.inl ⟨by omega, h8, wrongA_rng fun h => by have := h.2.2.2.2.2.2.2; omega⟩)
  have c3 := isS_true.1 h3
  have c4 := isS_true.1 h4
  have R : Rng a := ⟨isS_true.1 h1, isS_true.1 h2, c3, c4, c5, c6, by omega, by omega⟩
  refine Or.inr (Or.inr ⟨by omega, by omega, c3.1, c3.2, c4.1, c4.2, ?_⟩)
  by_cases h9 : a.sum < a.cap
  · exact Or.inl ⟨h9, wrongA_fit R fun h => by have := h.1; omega⟩
  by_cases h10 : a.cap < a.ref + a.dis
  · exact Or.inr (Or.inl ⟨by omega, h10, wrongA_fit R fun h => by have := h.2; omega⟩)
  · exact Or.inr (Or.inr ⟨by omega, by omega, wrongA_ok.2 ⟨R, by omega, by omega⟩⟩)

set_option maxHeartbeats 2000000 in
theorem wrong_any (a : Au) (w : World) :
    Calls Try.prog 21 #[av a] w fun e w' => e = .returned (.int .i64 (wrongA a)) ∧ Below w.heap.size w w' := by
  unfold av
  have b0 : ∀ o, Below w.heap.size w (w.alloc o) := fun o => (Below.refl _ _).alloc (Nat.le_refl _) _
  rcases wrong_ways a with ⟨h1, H⟩ | ⟨h1, h2, H⟩ | ⟨h1, h2, h3, H⟩ | ⟨h1, h2, h3, h4, H⟩ | ⟨h1, h2, h3, h4, ⟨h5, -, H⟩ | ⟨h5, -, -, h6, -, H⟩ | ⟨h5, -, -, h6, -, -, ⟨h7, H⟩ | ⟨h7, h8, H⟩ | ⟨h7, h8, q1, q2, q3, q4, ⟨h9, H⟩ | ⟨h9, h10, H⟩ | ⟨h9, h10, H⟩⟩⟩⟩
  all_goals
    go_enter Try.func21, Try.ntmps21
    go_wp2_with (first | (go_at_call 37; refine (isSum_any _ _).mono ?_; rintro e w' ⟨rfl, rfl⟩) | (go_at_call 38; refine (isCard_any _ _).mono ?_; rintro e w' ⟨rfl, rfl⟩) | (go_at_call 39; refine (isShop_any _ _).mono ?_; rintro e w' ⟨rfl, rfl⟩))
    go_ret
    exact ⟨ret_int H.out.symm, b0 _⟩
end Go.Proofs.Ytolfddiofcllcaa
