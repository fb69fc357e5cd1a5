/- The walk of the law AuthShut. -/
import Derived.Test.YtolfddiofcllcaaWalkf
import Derived.Test.YtolfddiofcllcaaMathb
namespace Go.Proofs.Ytolfddiofcllcaa
open Go.RowKit

set_option maxHeartbeats 1000000 in
theorem shut_any (a : Au) (k n : Int) (w : World) :
    Calls Try.prog 8 #[av a, .int .i64 k, .int .i64 n] w fun e w' => e = .returned (.bool true) ∧ Below w.heap.size w w' := by
  obtain ⟨c, s, m, cp, rf, d, t, sh⟩ := a
  simp only [av]
  go_enter Try.func8, Try.ntmps8
  go_wp2_with fail
  refine (alive_any _).mono ?_
  rintro e w1 ⟨rfl, hb1⟩
  obtain ⟨P, hb', hz⟩ := after1 (a := ⟨c, s, m, cp, rf, d, t, sh⟩) hb1
  have hy : w.heap.size < w1.heap.size := hz
  clear hb1 hz
  have P' := P
  obtain ⟨⟨R0, R1, R2, R3, R4, R5, R6, R7⟩, -⟩ := P'
  simp only at R0 R1 R2 R3 R4 R5 R6 R7
  go_wp2_with fail
  refine (wrong_any ⟨c, s, m, cp, rf, d, t, sh⟩ _).mono ?_
  rintro e w2 ⟨rfl, hb2⟩
  have P2 := P.below hy hb2
  have hb12 := hb'.trans (hb2.mono (Nat.le_of_lt hy))
  have hy2 : w.heap.size < w2.heap.size := Nat.lt_of_lt_of_le hy hb2.size
  clear hb2 P R0 R1 R2 R3 R4 R5 R6 R7
  obtain ⟨⟨R0, R1, R2, R3, R4, R5, R6, R7⟩, F⟩ := P2
  simp only at R0 R1 R2 R3 R4 R5 R6 R7
  by_cases hw : wrongA ⟨c, s, m, cp, rf, d, t, sh⟩ = 0
  · rw [hw]
    cases sh
    · go_wp2
      go_ret
      exact ⟨rfl, hb12⟩
    · have P2 : Perm w2 w.heap.size ⟨c, s, m, cp, rf, d, t, true⟩ := ⟨⟨R0, R1, R2, R3, R4, R5, R6, R7⟩, F⟩
      go_wp2_with fail
      refine (move_any ⟨c, s, m, cp, rf, d, t, true⟩ k n _).mono ?_
      rintro e w3 ⟨rfl, hb3⟩
      have P3 := P2.below hy2 hb3
      have hb13 := hb12.trans (hb3.mono (Nat.le_of_lt hy2))
      have hy3 : w.heap.size < w3.heap.size := Nat.lt_of_lt_of_le hy2 hb3.size
      clear hb3 hb12 P2 R0 R1 R2 R3 R4 R5 R6 R7 F
      obtain ⟨⟨R0, R1, R2, R3, R4, R5, R6, R7⟩, F⟩ := P3
      simp only at R0 R1 R2 R3 R4 R5 R6 R7
      by_cases hm : mvErr ⟨c, s, m, cp, rf, d, t, true⟩ k n = 0
      · obtain ⟨h5, h6, h7, h8, h9⟩ := shut_step hm rfl
        simp only at h6 h7 h8 h9
        generalize mv ⟨c, s, m, cp, rf, d, t, true⟩ k n = r at *
        clear hm hw
        simp only [av]
        go_wp2
        go_ret
        exact ⟨rfl, hb13.alloc (by omega) _⟩
      · rw [mv_no hm]
        have hm' : (mvErr ⟨c, s, m, cp, rf, d, t, true⟩ k n != 0) = true := by simpa using hm
        generalize mvErr ⟨c, s, m, cp, rf, d, t, true⟩ k n = r at *
        clear hm hw
        simp only [av, none0]
        go_wp2
        go_ret
        exact ⟨rfl, hb13.alloc (by omega) _⟩
  · have hw' : (wrongA ⟨c, s, m, cp, rf, d, t, sh⟩ != 0) = true := by simpa using hw
    generalize wrongA ⟨c, s, m, cp, rf, d, t, sh⟩ = r at *
    clear hw
    go_wp2
    go_ret
    exact ⟨rfl, hb12⟩
end Go.Proofs.Ytolfddiofcllcaa
