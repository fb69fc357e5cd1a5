/- The walk of the law AuthSettled. -/
import Derived.Test.YtolfddiofcllcaaWalkg
namespace Go.Proofs.Ytolfddiofcllcaa
open Go.RowKit

/-- Blocks that hold permissions lie on behind a call, and behind a new block. -/
theorem Perm.on {W w1 : World} {b : Nat} {a : Au} {o : Obj} (h : Perm W b a) (hlt : b < W.heap.size) (hb : Below (W.alloc o).heap.size (W.alloc o) w1) : Perm w1 b a :=
  (h.alloc hlt o).below (by simp; omega) hb

set_option maxHeartbeats 2000000 in
theorem settled_any (a : Au) (n : Int) (w : World) :
    Calls Try.prog 10 #[av a, .int .i64 n] w fun e w' => e = .returned (.bool true) ∧ Below w.heap.size w w' := by
  unfold av
  go_enter Try.func10, Try.ntmps10
  go_wp2_with fail
  refine (alive_any _).mono ?_
  rintro e w1 ⟨rfl, hb1⟩
  obtain ⟨P, hb', hz⟩ := after1 (a := a) hb1
  have hy : w.heap.size < w1.heap.size := hz
  clear hb1 hz
  have P' := P
  obtain ⟨⟨R0, R1, R2, R3, R4, R5, R6, R7⟩, -⟩ := P'
  go_wp2_with fail
  refine (move_any a 6 n _).mono ?_
  rintro e w2 ⟨rfl, hb2⟩
  have P2 := P.below hy hb2
  have hb12 := hb'.trans (hb2.mono (Nat.le_of_lt hy))
  have hy2 : w.heap.size < w2.heap.size := Nat.lt_of_lt_of_le hy hb2.size
  clear hb2 P R0 R1 R2 R3 R4 R5 R6 R7
  by_cases hm : mvErr a 6 n = 0
  · rw [mv_yes hm]
    have H1 := hid (settle_shop hm)
    have H2 := hid (settle_card hm)
    have H3 := hid (settle_back hm)
    clear hm
    generalize step a 6 n = x at *
    generalize step a 5 n = r at *
    simp only [av]
    go_wp2_with fail
    refine (move_any x 8 n _).mono ?_
    rintro e w3 ⟨rfl, hb3⟩
    rw [H1.out]
    simp only [av]
    have P3 := P2.on hy2 hb3
    obtain ⟨X3, hb13, hy3⟩ := after1 (a := x) hb3
    replace hb13 := hb12.trans (hb13.mono (Nat.le_of_lt hy2))
    have hx3 : w2.heap.size < w3.heap.size := hy3
    clear hb3 hy3 P2 hb12
    have X3' := X3
    obtain ⟨⟨S0, S1, S2, S3, S4, S5, S6, S7⟩, -⟩ := X3'
    go_wp2_with fail
    refine (move_any x 7 n _).mono ?_
    rintro e w4 ⟨rfl, hb4⟩
    rw [H2.out]
    simp only [av]
    have P4 := P3.on (by omega) hb4
    obtain ⟨Y4, hb14, hy4⟩ := after1 (a := a) hb4
    replace hb14 := hb13.trans (hb14.mono (by omega))
    have hx4 : w3.heap.size < w4.heap.size := hy4
    clear hb4 hy4 P3 X3 hb13 S0 S1 S2 S3 S4 S5 S6 S7
    have hz4 : w.heap.size < w4.heap.size := by omega
    have P4' := P4
    obtain ⟨⟨R0, R1, R2, R3, R4, R5, R6, R7⟩, -⟩ := P4'
    go_wp2_with fail
    refine (move_any a 5 n _).mono ?_
    rintro e w5 ⟨rfl, hb5⟩
    rw [H3.out]
    simp only [av]
    have P5 := P4.on hz4 hb5
    have Y5 := Y4.on hx4 hb5
    obtain ⟨Z5, hb15, hy5⟩ := after1 (a := r) hb5
    replace hb15 := hb14.trans (hb15.mono (by omega))
    have hx5 : w4.heap.size < w5.heap.size := hy5
    have hz5 : w.heap.size < w5.heap.size := by omega
    have hw5 : w3.heap.size < w5.heap.size := by omega
    clear hb5 hy5 P4 Y4 hb14 R0 R1 R2 R3 R4 R5 R6 R7
    obtain ⟨⟨R0, R1, R2, R3, R4, R5, R6, R7⟩, -⟩ := P5
    obtain ⟨⟨S0, S1, S2, S3, S4, S5, S6, S7⟩, -⟩ := Y5
    obtain ⟨⟨T0, T1, T2, T3, T4, T5, T6, T7⟩, -⟩ := Z5
    go_wp2
    go_ret
    exact ⟨rfl, hb15.alloc (by omega) _⟩
  · rw [mv_no hm]
    have hm' : (mvErr a 6 n != 0) = true := by simpa using hm
    generalize mvErr a 6 n = r at *
    clear hm
    simp only [av, none0]
    go_wp2
    go_ret
    exact ⟨rfl, hb12.alloc (by omega) _⟩
end Go.Proofs.Ytolfddiofcllcaa
