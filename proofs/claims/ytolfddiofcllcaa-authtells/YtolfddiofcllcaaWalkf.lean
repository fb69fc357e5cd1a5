/- The walk of what is asked first. -/
import Derived.Test.YtolfddiofcllcaaWalke
namespace Go.Proofs.Ytolfddiofcllcaa
open Go.RowKit

theorem new_first : newA 1 2 100 7 = (⟨1, 2, 100, 0, 0, 0, 107, false⟩, 0) := by kernel_rfl
theorem move_first : mv ⟨1, 2, 100, 0, 0, 0, 107, false⟩ 2 60 = (⟨1, 2, 100, 60, 0, 0, 107, false⟩, 0) := by kernel_rfl
theorem wrong_first : wrongA ⟨1, 2, 100, 0, 0, 0, 107, false⟩ = 0 := by kernel_rfl
theorem wrong_second : wrongA ⟨1, 2, 100, 60, 0, 0, 107, false⟩ = 0 := by kernel_rfl
theorem hold_first : holdA ⟨1, 2, 100, 0, 0, 0, 107, false⟩ = 100 := by kernel_rfl
theorem hold_second : holdA ⟨1, 2, 100, 60, 0, 0, 107, false⟩ = 40 := by kernel_rfl
theorem late_first : lateA ⟨1, 2, 100, 60, 0, 0, 107, false⟩ 107 = ⟨1, 2, 100, 60, 0, 0, 107, true⟩ := by kernel_rfl

theorem field39 (c s m cp rf d t : Int) (sh : Bool) (w : World) : (Instr.field 39 (.agg #[.int .i64 c, .int .i64 s, .int .i64 m, .int .i64 cp, .int .i64 rf, .int .i64 d, .int .i64 t, .bool sh]) 7).run Try.prog w = .ok (.bool sh) w := by kernel_rfl

set_option maxHeartbeats 1000000 in
theorem alive_any (w : World) : Calls Try.prog 31 #[] w fun e w' => e = .returned (.bool true) ∧ Below w.heap.size w w' := by
  have hfd := field39
  go_enter Try.func31, Try.ntmps31
  go_wp2_with fail
  refine (new_any 1 2 100 7 w).mono ?_
  rintro e w1 ⟨rfl, hb1⟩
  rw [new_first]
  simp only [av]
  go_wp2_with fail
  refine (move_any ⟨1, 2, 100, 0, 0, 0, 107, false⟩ 2 60 _).mono ?_
  rintro e w2 ⟨rfl, hb2⟩
  rw [move_first]
  simp only [av]
  obtain ⟨PA, hb12, hz2⟩ := after1 (a := ⟨1, 2, 100, 0, 0, 0, 107, false⟩) hb2
  have hy2 : w1.heap.size < w2.heap.size := hz2
  clear hb2 hz2
  have QA := PA.alloc (by omega) (.cells (acells ⟨1, 2, 100, 60, 0, 0, 107, false⟩) 39)
  obtain ⟨⟨R0, R1, R2, R3, R4, R5, R6, R7⟩, F⟩ := PA
  simp only at R0 R1 R2 R3 R4 R5 R6 R7
  go_wp2_with fail
  refine (hold_any ⟨1, 2, 100, 0, 0, 0, 107, false⟩ _ wrong_first).mono ?_
  rintro e w3 ⟨rfl, hb3⟩
  rw [hold_first]
  clear R0 R1 R2 R3 R4 R5 R6 R7 F
  have QA3 := QA.below (by simp; omega) hb3
  obtain ⟨PB, hb23, hz3⟩ := after1 (a := ⟨1, 2, 100, 60, 0, 0, 107, false⟩) hb3
  have PB' := PB
  have hy3 : w2.heap.size < w3.heap.size := hz3
  clear hb3 hz3 QA
  obtain ⟨⟨S0, S1, S2, S3, S4, S5, S6, S7⟩, -⟩ := PB'
  simp only at S0 S1 S2 S3 S4 S5 S6 S7
  go_wp2_with fail
  refine (hold_any ⟨1, 2, 100, 60, 0, 0, 107, false⟩ _ wrong_second).mono ?_
  rintro e w4 ⟨rfl, hb4⟩
  rw [hold_second]
  clear S0 S1 S2 S3 S4 S5 S6 S7
  have PB4 := PB.below (by omega) hb4
  have QA4 := QA3.below (by omega) hb4
  clear PB QA3
  obtain ⟨⟨S0, S1, S2, S3, S4, S5, S6, S7⟩, -⟩ := PB4
  obtain ⟨⟨-, -, -, -, -, -, R6, -⟩, -⟩ := QA4
  simp only at S0 S1 S2 S3 S4 S5 S6 S7 R6
  go_wp2_with fail
  refine (late_any ⟨1, 2, 100, 60, 0, 0, 107, false⟩ 107 _).mono ?_
  rintro e w5 ⟨rfl, hb5⟩
  rw [late_first]
  simp only [av]
  go_wp2
  go_ret
  have s1 := hb1.size
  exact ⟨rfl, (((hb1.trans (hb12.mono s1)).trans (hb23.mono (by omega))).trans (hb4.mono (by omega))).trans (hb5.mono (by have := hb4.size; omega))⟩
end Go.Proofs.Ytolfddiofcllcaa
