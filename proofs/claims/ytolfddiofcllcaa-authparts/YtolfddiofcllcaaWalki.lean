/- The walk of the law AuthParts. -/
import Derived.Test.YtolfddiofcllcaaWalkh
namespace Go.Proofs.Ytolfddiofcllcaa
open Go.RowKit

set_option maxHeartbeats 1000000 in
theorem parts_out (a : Au) (k n m : Int) (w : World) (h : n < 1 ∨ (1 ≤ n ∧ m < 1) ∨ (1 ≤ n ∧ 1 ≤ m ∧ 1000000 < n) ∨ (1 ≤ n ∧ 1 ≤ m ∧ n ≤ 1000000 ∧ 1000000 < m) ∨ (1 ≤ n ∧ 1 ≤ m ∧ n ≤ 1000000 ∧ m ≤ 1000000 ∧ (k == 3) = true)) :
    Calls Try.prog 9 #[av a, .int .i64 k, .int .i64 n, .int .i64 m] w fun e w' => e = .returned (.bool true) ∧ Below w.heap.size w w' := by
  unfold av
  rcases h with h1 | ⟨h1, h2⟩ | ⟨h1, h2, h3⟩ | ⟨h1, h2, h3, h4⟩ | ⟨h1, h2, h3, h4, h5⟩
  all_goals
    go_enter Try.func9, Try.ntmps9
    go_wp2_with fail
    refine (alive_any _).mono ?_
    rintro e w1 ⟨rfl, hb1⟩
    have hb' := below_call1 hb1
    clear hb1
    go_wp2
    go_ret
    exact ⟨rfl, hb'⟩

set_option maxHeartbeats 2000000 in
theorem parts_in (a : Au) (k n m : Int) (w : World) (n1 : 1 ≤ n) (m1 : 1 ≤ m) (n2 : n ≤ 1000000) (m2 : m ≤ 1000000) (hk : k ≠ 3) :
    Calls Try.prog 9 #[av a, .int .i64 k, .int .i64 n, .int .i64 m] w fun e w' => e = .returned (.bool true) ∧ Below w.heap.size w w' := by
  unfold av
  have hk' : (k == 3) = false := by simpa using hk
  have Hk := hid hk
  clear hk
  go_enter Try.func9, Try.ntmps9
  go_wp2_with fail
  refine (alive_any _).mono ?_
  rintro e w1 ⟨rfl, hb1⟩
  obtain ⟨P, hb', hz⟩ := after1 (a := a) hb1
  have hy : w.heap.size < w1.heap.size := hz
  clear hb1 hz
  have P' := P
  obtain ⟨⟨R0, R1, R2, R3, R4, R5, R6, R7⟩, -⟩ := P'
  go_wp2_with fail
  refine (move_any a k n _).mono ?_
  rintro e w2 ⟨rfl, hb2⟩
  have P2 := P.below hy hb2
  have hb12 := hb'.trans (hb2.mono (Nat.le_of_lt hy))
  have hy2 : w.heap.size < w2.heap.size := Nat.lt_of_lt_of_le hy hb2.size
  clear hb2 P R0 R1 R2 R3 R4 R5 R6 R7
  by_cases hm : mvErr a k n = 0
  · rw [mv_yes hm]
    have hM := mvErr_zero.1 hm
    have H1 := hid (parts_may n1 m1 m2 Hk.out hM)
    have H2 := hid (parts_step (a := a) (n := n) (m := m) Hk.out hM.2.2.1 hM.2.2.2.1)
    clear hm hM
    generalize step a k n = x at *
    simp only [av]
    go_wp2_with fail
    refine (move_any x k m _).mono ?_
    rintro e w3 ⟨rfl, hb3⟩
    have P3 := P2.on hy2 hb3
    obtain ⟨-, hb13, hy3⟩ := after1 (a := x) hb3
    replace hb13 := hb12.trans (hb13.mono (Nat.le_of_lt hy2))
    have hx3 : w2.heap.size < w3.heap.size := hy3
    have hz3 : w.heap.size < w3.heap.size := by omega
    clear hb3 hy3 P2 hb12
    have P3' := P3
    obtain ⟨⟨R0, R1, R2, R3, R4, R5, R6, R7⟩, -⟩ := P3'
    generalize hy' : mv x k m = y
    have Hy := hid hy'
    clear hy'
    simp only [av]
    go_wp2_with fail
    refine (move_any a k (n + m) _).mono ?_
    rintro e w4 ⟨rfl, hb4⟩
    obtain ⟨Y4, hb14, hy4⟩ := after1 (a := y.1) hb4
    replace hb14 := hb13.trans (hb14.mono (by omega))
    have hx4 : w3.heap.size < w4.heap.size := hy4
    clear hb4 hy4 P3 hb13 R0 R1 R2 R3 R4 R5 R6 R7
    obtain ⟨⟨S0, S1, S2, S3, S4, S5, S6, S7⟩, -⟩ := Y4
    by_cases hm : mvErr x k m = 0
    · have e1 := Hy.out
      rw [mv_yes hm] at e1
      subst e1
      rw [mv_yes (mvErr_zero.2 (H1.out.1 (mvErr_zero.1 hm))), ← H2.out]
      clear hm Hy H1 H2
      generalize step x k m = y at *
      simp only [av]
      simp only at S0 S1 S2 S3 S4 S5 S6 S7
      go_wp2
      go_ret
      exact ⟨rfl, hb14.alloc (by omega) _⟩
    · have e1 := Hy.out
      rw [mv_no hm] at e1
      subst e1
      have hn : mvErr a k (n + m) ≠ 0 := fun h => hm (mvErr_zero.2 (H1.out.2 (mvErr_zero.1 h)))
      rw [mv_no hn]
      have hm' : (mvErr x k m != 0) = true := by simpa using hm
      have hn' : (mvErr a k (n + m) != 0) = true := by simpa using hn
      clear hm hn Hy H1 H2
      generalize mvErr x k m = e1 at *
      generalize mvErr a k (n + m) = e2 at *
      simp only [av, none0]
      simp only [none0] at S0 S1 S2 S3 S4 S5 S6 S7
      go_wp2
      go_ret
      exact ⟨rfl, hb14.alloc (by omega) _⟩
  · rw [mv_no hm]
    have hm' : (mvErr a k n != 0) = true := by simpa using hm
    generalize mvErr a k n = r at *
    clear hm
    simp only [av, none0]
    go_wp2
    go_ret
    exact ⟨rfl, hb12.alloc (by omega) _⟩

theorem parts_any (a : Au) (k n m : Int) (w : World) :
    Calls Try.prog 9 #[av a, .int .i64 k, .int .i64 n, .int .i64 m] w fun e w' => e = .returned (.bool true) ∧ Below w.heap.size w w' := by
  by_cases h1 : n < 1
  · exact parts_out a k n m w (Or.inl h1)
  by_cases h2 : m < 1
  · exact parts_out a k n m w (Or.inr (Or.inl ⟨by omega, h2⟩))
  by_cases h3 : 1000000 < n
  · exact parts_out a k n m w (Or.inr (Or.inr (Or.inl ⟨by omega, by omega, h3⟩)))
  by_cases h4 : 1000000 < m
  · exact parts_out a k n m w (Or.inr (Or.inr (Or.inr (Or.inl ⟨by omega, by omega, by omega, h4⟩))))
  by_cases h5 : k = 3
  · exact parts_out a k n m w (Or.inr (Or.inr (Or.inr (Or.inr ⟨by omega, by omega, by omega, by omega, by simpa using h5⟩))))
  · exact parts_in a k n m w (by omega) (by omega) (by omega) (by omega) h5
end Go.Proofs.Ytolfddiofcllcaa
