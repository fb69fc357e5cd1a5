/- The walk of Move. -/
import Derived.Test.YtolfddiofcllcaaWalkd
namespace Go.Proofs.Ytolfddiofcllcaa
open Go.RowKit

/-- What is known behind a call that was handed a copy of a permission, where the result's block lies ready. -/
theorem after2 {w w1 : World} {a : Au} (hb : Below ((w.alloc (.cells (acells a) 39)).alloc (.cells (acells none0) 39)).heap.size ((w.alloc (.cells (acells a) 39)).alloc (.cells (acells none0) 39)) w1) :
    Perm w1 w.heap.size a ∧ Perm w1 (w.heap.size + 1) none0 ∧ Below w.heap.size w w1 ∧ w.heap.size + 2 ≤ w1.heap.size := by
  refine ⟨Perm.below ((perm_new w a).alloc (by simp) _) (by simp; omega) hb, ?_, below_call2 hb, by have := hb.size; simpa using this⟩
  have := Perm.below (perm_new (w.alloc (.cells (acells a) 39)) none0) (by simp) hb
  simpa only [World.size_alloc] using this

set_option maxHeartbeats 1000000 in
theorem move_no (a : Au) (k n : Int) (w : World) (h : mvErr a k n ≠ 0) :
    Calls Try.prog 29 #[av a, .int .i64 k, .int .i64 n] w fun e w' => e = .returned (.tuple #[av (mv a k n).1, .int .i64 (mv a k n).2]) ∧ Below w.heap.size w w' := by
  have H := hid (mv_no h)
  have h' : (mvErr a k n != 0) = true := by simpa using h
  clear h
  obtain ⟨c, s, m, cp, rf, d, t, sh⟩ := a
  unfold av
  go_enter Try.func29, Try.ntmps29
  go_wp2_with fail
  refine (wrongMove_any ⟨c, s, m, cp, rf, d, t, sh⟩ k n _).mono ?_
  rintro e w1 ⟨rfl, hb⟩
  obtain ⟨-, ⟨⟨S0, S1, S2, S3, S4, S5, S6, S7⟩, G⟩, hb', hz⟩ := after2 (a := ⟨c, s, m, cp, rf, d, t, sh⟩) hb
  simp only [none0] at S0 S1 S2 S3 S4 S5 S6 S7
  generalize mvErr ⟨c, s, m, cp, rf, d, t, sh⟩ k n = r at *
  clear hb
  go_wp2
  refine bodyPost_ret (v := .tuple #[.agg #[.int .i64 0, .int .i64 0, .int .i64 0, .int .i64 0, .int .i64 0, .int .i64 0, .int .i64 0, .bool false], .int .i64 r]) (by simp [results, Try.results29, go_sem, S0, S1, S2, S3, S4, S5, S6, S7]) rfl ⟨?_, ?_⟩
  · rw [H.out]; rfl
  · repeat refine Below.setCell ?_ (by simp) _
    exact hb'

set_option maxHeartbeats 2000000 in
theorem move_yes (a : Au) (k n : Int) (w : World) (h : mvErr a k n = 0) :
    Calls Try.prog 29 #[av a, .int .i64 k, .int .i64 n] w fun e w' => e = .returned (.tuple #[av (mv a k n).1, .int .i64 (mv a k n).2]) ∧ Below w.heap.size w w' := by
  have H := hid (mv_yes h)
  have H0 := hid h
  have hm := mvErr_zero.1 h
  clear h
  obtain ⟨⟨⟨q1, q2⟩, ⟨q3, q4⟩, ⟨q5, q6⟩, ⟨q7, q8⟩, -⟩, ⟨f1, f2⟩, k1, k2, n1, n2, -, hr⟩ := hm
  obtain ⟨c, s, m, cp, rf, d, t, sh⟩ := a
  simp only at q1 q2 q3 q4 q5 q6 q7 q8 f1 f2
  rcases kinds k1 k2 with rfl | rfl | rfl | rfl | rfl | rfl | rfl | rfl
  all_goals
    simp [room] at hr
    unfold av
    go_enter Try.func29, Try.ntmps29
    go_wp2_with fail
    refine (wrongMove_any ⟨c, s, m, cp, rf, d, t, sh⟩ _ n _).mono ?_
    rintro e w1 ⟨rfl, hb⟩
    obtain ⟨⟨⟨R0, R1, R2, R3, R4, R5, R6, R7⟩, F⟩, ⟨⟨S0, S1, S2, S3, S4, S5, S6, S7⟩, G⟩, hb', hz⟩ := after2 (a := ⟨c, s, m, cp, rf, d, t, sh⟩) hb
    simp only [none0] at R0 R1 R2 R3 R4 R5 R6 R7 S0 S1 S2 S3 S4 S5 S6 S7
    rw [H0.out]
    clear hb k1 k2
    go_wp2
    refine bodyPost_ret (by simp [results, Try.results29, go_sem, S0, S1, S2, S3, S4, S5, S6, S7]; try rfl) rfl ⟨?_, ?_⟩
    · rw [H.out]; simp [step]
    · repeat refine Below.setCell ?_ (by simp) _
      exact hb'
theorem move_any (a : Au) (k n : Int) (w : World) :
    Calls Try.prog 29 #[av a, .int .i64 k, .int .i64 n] w fun e w' => e = .returned (.tuple #[av (mv a k n).1, .int .i64 (mv a k n).2]) ∧ Below w.heap.size w w' := by
  by_cases h : mvErr a k n = 0
  · exact move_yes a k n w h
  · exact move_no a k n w h
end Go.Proofs.Ytolfddiofcllcaa
