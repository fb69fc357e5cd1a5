/- The walk of the document's Become, where it refuses early. -/
import Derived.Test.YtolfddiofcllcaaWalkk
namespace Go.Proofs.Ytolfddiofcllcaa
open Go.RowKit

set_option maxHeartbeats 2000000 in
set_option maxRecDepth 10000 in
theorem become_early (a : Au) (k n : Int) (w : World)
    (h : (wrongA a ≠ 0) ∨ (wrongA a = 0 ∧ k < 1) ∨ (wrongA a = 0 ∧ 1 ≤ k ∧ 8 < k) ∨ (wrongA a = 0 ∧ 1 ≤ k ∧ k ≤ 8 ∧ n < 1) ∨ (wrongA a = 0 ∧ 1 ≤ k ∧ k ≤ 8 ∧ 1 ≤ n ∧ 1000000 < n) ∨ (wrongA a = 0 ∧ 1 ≤ k ∧ k ≤ 8 ∧ 1 ≤ n ∧ n ≤ 1000000 ∧ k ≤ 4 ∧ a.shut = true)) :
    Calls Try.prog 30 #[av a, .int .i64 k, .int .i64 n] w fun e w' => e = .returned (.tuple #[av (mv a k n).1, .int .i64 (mv a k n).2]) ∧ Below w.heap.size w w' := by
  have hv : ∃ q : Int, Hid (mv a k n = (none0, q)) ∧ ((Hid (q = wrongA a) ∧ (wrongA a != 0) = true) ∨ (q = 1 ∧ (wrongA a != 0) = false ∧ k < 1) ∨ (q = 1 ∧ (wrongA a != 0) = false ∧ 1 ≤ k ∧ 8 < k) ∨ (q = 3 ∧ (wrongA a != 0) = false ∧ 1 ≤ k ∧ k ≤ 8 ∧ n < 1) ∨ (q = 3 ∧ (wrongA a != 0) = false ∧ 1 ≤ k ∧ k ≤ 8 ∧ 1 ≤ n ∧ 1000000 < n) ∨ (q = 9 ∧ (wrongA a != 0) = false ∧ 1 ≤ k ∧ k ≤ 8 ∧ 1 ≤ n ∧ n ≤ 1000000 ∧ k ≤ 4 ∧ a.shut = true)) := by
    have go : ∀ q : Int, q ≠ 0 → mvErr a k n = q → Hid (mv a k n = (none0, q)) := fun q h0 h1 => by
      have := mv_no (a := a) (k := k) (n := n) (by rw [h1]; exact h0)
      rw [h1] at this
      exact this
    rcases h with h | ⟨h, h1⟩ | ⟨h, h1, h2⟩ | ⟨h, h1, h2, h3⟩ | ⟨h, h1, h2, h3, h4⟩ | ⟨h, h1, h2, h3, h4, h5, h6⟩
    · exact ⟨wrongA a, go _ h (by unfold mvErr; rw [if_pos h]), Or.inl ⟨rfl, by simpa using h⟩⟩
    · exact ⟨1, go _ (by decide) (by unfold mvErr; rw [if_neg (by simpa using h), if_pos (by omega)]), Or.inr (Or.inl ⟨rfl, by simpa using h, h1⟩)⟩
    · exact ⟨1, go _ (by decide) (by unfold mvErr; rw [if_neg (by simpa using h), if_pos (by omega)]), Or.inr (Or.inr (Or.inl ⟨rfl, by simpa using h, h1, h2⟩))⟩
    · exact ⟨3, go _ (by decide) (by unfold mvErr; rw [if_neg (by simpa using h), if_neg (by omega), if_pos (by omega)]), Or.inr (Or.inr (Or.inr (Or.inl ⟨rfl, by simpa using h, h1, h2, h3⟩)))⟩
    · exact ⟨3, go _ (by decide) (by unfold mvErr; rw [if_neg (by simpa using h), if_neg (by omega), if_pos (by omega)]), Or.inr (Or.inr (Or.inr (Or.inr (Or.inl ⟨rfl, by simpa using h, h1, h2, h3, h4⟩))))⟩
    · exact ⟨9, go _ (by decide) (by unfold mvErr; rw [if_neg (by simpa using h), if_neg (by omega), if_neg (by omega), if_pos ⟨h6, h5⟩]), Or.inr (Or.inr (Or.inr (Or.inr (Or.inr ⟨rfl, by simpa using h, h1, h2, h3, h4, h5, h6⟩))))⟩
  clear h
  obtain ⟨q, H, hv⟩ := hv
  rcases hv with ⟨Hq, h⟩ | ⟨rfl, h, h1⟩ | ⟨rfl, h, h1, h2⟩ | ⟨rfl, h, h1, h2, h3⟩ | ⟨rfl, h, h1, h2, h3, h4⟩ | ⟨rfl, h, h1, h2, h3, h4, h5, h6⟩
  all_goals
    obtain ⟨c, s, m, cp, rf, d, t, sh⟩ := a
    try (simp only at h6; subst h6)
    simp only [av]
    go_enter Try.func30, Try.ntmps30
    go_wp2_with fail
    refine (refWrong_any ⟨c, s, m, cp, rf, d, t, _⟩ _).mono ?_
    rintro e w1 ⟨rfl, hb⟩
    obtain ⟨⟨⟨R0, R1, R2, R3, R4, R5, R6, R7⟩, F⟩, ⟨⟨S0, S1, S2, S3, S4, S5, S6, S7⟩, G⟩, hb', hz⟩ := after2 (a := ⟨c, s, m, cp, rf, d, t, _⟩) hb
    simp only [none0] at R0 R1 R2 R3 R4 R5 R6 R7 S0 S1 S2 S3 S4 S5 S6 S7
    clear hb
  · have hq := Hq.out
    clear Hq
    generalize wrongA ⟨c, s, m, cp, rf, d, t, sh⟩ = r at *
    subst hq
    go_wp2
    refine bodyPost_ret (v := .tuple #[.agg #[.int .i64 0, .int .i64 0, .int .i64 0, .int .i64 0, .int .i64 0, .int .i64 0, .int .i64 0, .bool false], .int .i64 q]) (by simp [results, Try.results30, go_sem, S0, S1, S2, S3, S4, S5, S6, S7]) rfl ⟨?_, ?_⟩
    · rw [H.out]; rfl
    · repeat refine Below.setCell ?_ (by simp) _
      exact hb'
  all_goals
    generalize wrongA _ = r at *
    go_wp2
    refine bodyPost_ret (by simp [results, Try.results30, go_sem, S0, S1, S2, S3, S4, S5, S6, S7]; try rfl) rfl ⟨?_, ?_⟩
    · rw [H.out]; rfl
    · repeat refine Below.setCell ?_ (by simp) _
      exact hb'
end Go.Proofs.Ytolfddiofcllcaa
