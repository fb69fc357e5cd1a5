/- The plain mathematics of what becomes of a permission: over is over, in parts as at once, a dispute that is settled, never more than was permitted. -/
import Derived.Test.YtolfddiofcllcaaMath
namespace Go.Proofs.Ytolfddiofcllcaa

theorem kinds8 {k : Int} (h1 : 1 ≤ k) (h2 : k ≤ 8) : k = 1 ∨ k = 2 ∨ k = 3 ∨ k = 4 ∨ k = 5 ∨ k = 6 ∨ k = 7 ∨ k = 8 := by omega

theorem may_kinds {a : Au} {k n : Int} (h : May a k n) : k = 1 ∨ k = 2 ∨ k = 3 ∨ k = 4 ∨ k = 5 ∨ k = 6 ∨ k = 7 ∨ k = 8   := kinds8 h.2.2.1 h.2.2.2.1

/-- Over is over. -/
theorem shut_step {a : Au} {k n : Int} (h : mvErr a k n = 0) (hs : a.shut = true) : 5 ≤ k ∧ (mv a k n).1.cap = a.cap ∧ (mv a k n).1.sum = a.sum ∧ (mv a k n).1.shut = true ∧ (mv a k n).2 = 0 := by
  rw [mv_yes h]
  have hm := mvErr_zero.1 h
  have h5 : 5 ≤ k := by
    have := hm.2.2.2.2.2.2.1
    by_cases q : 5 ≤ k
    · exact q
    · have := this (by omega); rw [hs] at this; cases this
  refine ⟨h5, ?_⟩
  rcases may_kinds hm with rfl | rfl | rfl | rfl | rfl | rfl | rfl | rfl
  all_goals first | omega | simp [step, hs]

/-- A permission of which something became is right, and has what it had, at least. -/
theorem step_right {a : Au} {k n : Int} (h : mvErr a k n = 0) : wrongA (step a k n) = 0 := by
  have hm := mvErr_zero.1 h
  obtain ⟨⟨⟨q1, q2⟩, ⟨q3, q4⟩, ⟨q5, q6⟩, ⟨q7, q8⟩, ⟨q9, q10⟩, ⟨q11, q12⟩, q13, q14⟩, ⟨f1, f2⟩, k1, k2, n1, n2, -, hr⟩ := hm
  rw [wrongA_ok]
  rcases kinds8 k1 k2 with rfl | rfl | rfl | rfl | rfl | rfl | rfl | rfl
  all_goals
    simp [room] at hr
    simp only [step, Rng, Fit]
    simp
    omega

theorem step_keeps {a : Au} {k n : Int} (h : mvErr a k n = 0) :
    (step a k n).card = a.card ∧ (step a k n).shop = a.shop ∧ (step a k n).till = a.till ∧ (a.shut = true → (step a k n).shut = true) ∧ a.cap ≤ (step a k n).cap ∧ a.ref ≤ (step a k n).ref := by
  have hm := mvErr_zero.1 h
  have hs := hm.2.2.2.2.2.2.1
  have n1 := hm.2.2.2.2.1
  rcases may_kinds hm with rfl | rfl | rfl | rfl | rfl | rfl | rfl | rfl
  all_goals
    simp at hs
    try have hs' := hs
    simp [step, hs]
    try omega
/-- In parts as at once. -/
theorem parts_may {a : Au} {k n m : Int} (n1 : 1 ≤ n) (m1 : 1 ≤ m) (m2 : m ≤ 1000000) (hk : k ≠ 3) (h : May a k n) : May (step a k n) k m ↔ May a k (n + m) := by
  have hk8 := may_kinds h
  obtain ⟨⟨⟨q1, q2⟩, ⟨q3, q4⟩, ⟨q5, q6⟩, ⟨q7, q8⟩, ⟨q9, q10⟩, ⟨q11, q12⟩, q13, q14⟩, ⟨f1, f2⟩, k1, k2, -, n2, hs, hr⟩ := h
  rcases hk8 with rfl | rfl | h3 | rfl | rfl | rfl | rfl | rfl
  case inr.inr.inl => exact absurd h3 hk
  all_goals
    clear hk
    simp [room] at hr hs
    simp [May, Rng, Fit, room, step, hs]
    try omega

theorem parts_step {a : Au} {k n m : Int} (hk : k ≠ 3) (k1 : 1 ≤ k) (k2 : k ≤ 8) : step (step a k n) k m = step a k (n + m) := by
  rcases kinds8 k1 k2 with rfl | rfl | h3 | rfl | rfl | rfl | rfl | rfl
  case inr.inr.inl => exact absurd h3 hk
  all_goals
    clear hk
    have e1 : a.cap + n + m = a.cap + (n + m) := by omega
    have e2 : a.sum - n - m = a.sum - (n + m) := by omega
    simp [step, e1, e2]
    try omega

/-- A dispute that is settled. -/
theorem settle_shop {a : Au} {n : Int} (h : mvErr a 6 n = 0) : mv (step a 6 n) 8 n = (a, 0) := by
  have hm := mvErr_zero.1 h
  have hr := step_right h
  have e : mvErr (step a 6 n) 8 n = 0 := by
    rw [mvErr_zero]
    obtain ⟨hR, hF⟩ := wrongA_ok.1 hr
    refine ⟨hR, hF, by omega, by omega, hm.2.2.2.2.1, hm.2.2.2.2.2.1, by omega, ?_⟩
    have := hm.1.2.2.2.1
    simp [room, step]; omega
  rw [mv_yes e]
  simp [step]

theorem settle_card {a : Au} {n : Int} (h : mvErr a 6 n = 0) : mv (step a 6 n) 7 n = (step a 5 n, 0) := by
  have hm := mvErr_zero.1 h
  have hr := step_right h
  have e : mvErr (step a 6 n) 7 n = 0 := by
    rw [mvErr_zero]
    obtain ⟨hR, hF⟩ := wrongA_ok.1 hr
    refine ⟨hR, hF, by omega, by omega, hm.2.2.2.2.1, hm.2.2.2.2.2.1, by omega, ?_⟩
    have := hm.1.2.2.2.1
    simp [room, step]; omega
  rw [mv_yes e]
  simp [step]

theorem settle_back {a : Au} {n : Int} (h : mvErr a 6 n = 0) : mv a 5 n = (step a 5 n, 0) := by
  have hm := mvErr_zero.1 h
  refine mv_yes (mvErr_zero.2 ⟨hm.1, hm.2.1, by omega, by omega, hm.2.2.2.2.1, hm.2.2.2.2.2.1, by omega, ?_⟩)
  have := hm.2.2.2.2.2.2.2
  simpa [room] using this
end Go.Proofs.Ytolfddiofcllcaa
