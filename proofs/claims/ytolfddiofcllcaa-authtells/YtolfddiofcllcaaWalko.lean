/- The walk of the law AuthTells. -/
import Derived.Test.YtolfddiofcllcaaWalkn
import Derived.Test.YtolfddiofcllcaaWalkj
import Derived.Deep.RegionWith
import Derived.Deep.CutRange
namespace Go.Proofs.Ytolfddiofcllcaa
open Go.RowKit

theorem become_any (a : Au) (k n : Int) (w : World) :
    Calls Try.prog 30 #[av a, .int .i64 k, .int .i64 n] w fun e w' => e = .returned (.tuple #[av (mv a k n).1, .int .i64 (mv a k n).2]) ∧ Below w.heap.size w w' := by
  by_cases h0 : wrongA a = 0
  · by_cases h1 : k < 1
    · exact become_early a k n w (Or.inr (Or.inl ⟨h0, h1⟩))
    by_cases h2 : 8 < k
    · exact become_early a k n w (Or.inr (Or.inr (Or.inl ⟨h0, by omega, h2⟩)))
    by_cases h3 : n < 1
    · exact become_early a k n w (Or.inr (Or.inr (Or.inr (Or.inl ⟨h0, by omega, by omega, h3⟩))))
    by_cases h4 : 1000000 < n
    · exact become_early a k n w (Or.inr (Or.inr (Or.inr (Or.inr (Or.inl ⟨h0, by omega, by omega, by omega, h4⟩)))))
    by_cases h5 : k ≤ 4 ∧ a.shut = true
    · exact become_early a k n w (Or.inr (Or.inr (Or.inr (Or.inr (Or.inr ⟨h0, by omega, by omega, by omega, by omega, h5.1, h5.2⟩)))))
    have h5' : k ≤ 4 → a.shut = false := fun h => by
      cases hs : a.shut
      · rfl
      · exact absurd ⟨h, hs⟩ h5
    by_cases h6 : n ≤ room a k
    · obtain ⟨hR, hF⟩ := wrongA_ok.1 h0
      exact become_ok a k n w (mvErr_zero.2 ⟨hR, hF, by omega, by omega, by omega, by omega, h5', h6⟩)
    · exact become_over a k n w h0 (by omega) (by omega) (by omega) (by omega) h5' (by omega)
  · exact become_early a k n w (Or.inl h0)

/-- What the law holds on to: the permission's block, and all that is elder. -/
def Inv (w : World) (a : Au) (W : World) : Prop := Perm W w.heap.size a ∧ Below w.heap.size w W ∧ w.heap.size < W.heap.size

theorem Inv.same {w W W' : World} {a : Au} (h : Inv w a W) (e1 : W'.heap = W.heap) (e2 : W'.os = W.os) (e3 : W'.tape = W.tape) (e4 : W'.output = W.output) : Inv w a W' := by
  obtain ⟨hP, hB, hy⟩ := h
  have hb : Below W.heap.size W W' := ⟨e2, e3, e4, by rw [e1]; exact Nat.le_refl _, fun k _ => by rw [e1]⟩
  exact ⟨hP.below hy hb, hB.trans (hb.mono (Nat.le_of_lt hy)), by rw [e1]; exact hy⟩

theorem Inv.call {w W W' w1 : World} {a : Au} (hb : Below W'.heap.size W' w1) (h : Inv w a W) (e1 : W'.heap = W.heap) (e2 : W'.os = W.os) (e3 : W'.tape = W.tape) (e4 : W'.output = W.output) : Inv w a w1 := by
  obtain ⟨hP, hB, hy⟩ := h.same e1 e2 e3 e4
  exact ⟨hP.below hy hb, hB.trans (hb.mono (Nat.le_of_lt hy)), Nat.lt_of_lt_of_le hy hb.size⟩

theorem Inv.start (w : World) (a : Au) : Inv w a (w.alloc (.cells (acells a) 39)) := ⟨perm_new w a, below1 w _, by simp⟩

/-- A permission that lies elsewhere stays. -/
theorem perm_far {w : World} {b b2 : Nat} {a : Au} (h : Perm w b a) (hne : b ≠ b2) (c s m cp rf d t : Int) (sh : Bool) : Perm (wrote w b2 c s m cp rf d t sh) b a := by
  obtain ⟨⟨R0, R1, R2, R3, R4, R5, R6, R7⟩, F⟩ := h
  unfold Perm
  simp [go_sem, R0, R1, R2, R3, R4, R5, R6, R7, F]

theorem size_wrote (w : World) (b : Nat) (c s m cp rf d t : Int) (sh : Bool) : (wrote w b c s m cp rf d t sh).heap.size = w.heap.size := by simp

theorem below_wrote {w W : World} {b : Nat} (h : Below w.heap.size w W) (hb : w.heap.size ≤ b) (c s m cp rf d t : Int) (sh : Bool) : Below w.heap.size w (wrote W b c s m cp rf d t sh) := by
  repeat refine Below.setCell ?_ hb _
  exact h

set_option maxHeartbeats 4000000 in
theorem tells_any (a : Au) (c s n t k : Int) (w : World) :
    Calls Try.prog 6 #[av a, .int .i64 c, .int .i64 s, .int .i64 n, .int .i64 t, .int .i64 k] w fun e w' => e = .returned (.bool true) ∧ Below w.heap.size w w' := by
  unfold av
  have hI := Inv.start w a
  go_enter Try.func6, Try.ntmps6
  go_upto_region 1 with fail
  generalize w.alloc (.cells #[.int .i64 a.card, .int .i64 a.shop, .int .i64 a.sum, .int .i64 a.cap, .int .i64 a.ref, .int .i64 a.dis, .int .i64 a.till, .bool a.shut] 39) = w0 at *
  go_cut [30] from 17 to 30 (fun s wc => s = .bool false ∧ Inv w a wc)
  case first =>
    have hI' := hI
    obtain ⟨⟨⟨R0, R1, R2, R3, R4, R5, R6, R7⟩, -⟩, -, -⟩ := hI'
    go_region_with (first
      | (go_at_call 21; refine (wrong_any a _).mono ?_; rintro e w1 ⟨rfl, hb⟩; have hI := Inv.call hb hI rfl rfl rfl rfl; clear hb; have hI' := hI; obtain ⟨⟨⟨R0, R1, R2, R3, R4, R5, R6, R7⟩, -⟩, -, -⟩ := hI')
      | (go_at_call 22; refine (refWrong_any a _).mono ?_; rintro e w1 ⟨rfl, hb⟩; have hI := Inv.call hb hI rfl rfl rfl rfl; clear hb; have hI' := hI; obtain ⟨⟨⟨R0, R1, R2, R3, R4, R5, R6, R7⟩, -⟩, -, -⟩ := hI')
      | (go_at_call 23; refine (late_any a t _).mono ?_; rintro e w1 ⟨rfl, hb⟩; have hI := Inv.call hb hI rfl rfl rfl rfl; clear hb; have hI' := hI; obtain ⟨⟨⟨R0, R1, R2, R3, R4, R5, R6, R7⟩, -⟩, -, -⟩ := hI'; simp only [av])
      | (go_at_call 24; refine (refLate_any a t _).mono ?_; rintro e w1 ⟨rfl, hb⟩; have hI := Inv.call hb hI rfl rfl rfl rfl; clear hb; have hI' := hI; obtain ⟨⟨⟨R0, R1, R2, R3, R4, R5, R6, R7⟩, -⟩, -, -⟩ := hI'; simp only [av]))
    all_goals (go_wp2_with fail; go_meet; exact ⟨rfl, Inv.same hI rfl rfl rfl rfl⟩)
  case rest =>
    obtain ⟨rfl, hI⟩ := hcut
    go_upto_region 3 with fail
    go_cut [40] from 31 to 40 (fun s wc => s = .bool false ∧ Inv w a wc)
    case first =>
      have hI' := hI
      obtain ⟨⟨⟨R0, R1, R2, R3, R4, R5, R6, R7⟩, -⟩, -, -⟩ := hI'
      by_cases h0 : wrongA a = 0
      · have H0 := hid h0
        have hg : (wrongA a == 0) = true := by simpa using h0
        clear h0
        go_region_with (first
          | (go_at_call 22; refine (refWrong_any a _).mono ?_; rintro e w1 ⟨rfl, hb⟩; have hI := Inv.call hb hI rfl rfl rfl rfl; clear hb; have hI' := hI; obtain ⟨⟨⟨R0, R1, R2, R3, R4, R5, R6, R7⟩, -⟩, -, -⟩ := hI')
          | (go_at_call 25; refine (hold_any a _ H0.out).mono ?_; rintro e w1 ⟨rfl, hb⟩; have hI := Inv.call hb hI rfl rfl rfl rfl; clear hb; have hI' := hI; obtain ⟨⟨⟨R0, R1, R2, R3, R4, R5, R6, R7⟩, -⟩, -, -⟩ := hI')
          | (go_at_call 26; refine (refHold_any a _ H0.out).mono ?_; rintro e w1 ⟨rfl, hb⟩; have hI := Inv.call hb hI rfl rfl rfl rfl; clear hb; have hI' := hI; obtain ⟨⟨⟨R0, R1, R2, R3, R4, R5, R6, R7⟩, -⟩, -, -⟩ := hI'))
        all_goals (go_wp2_with fail; go_meet; exact ⟨rfl, Inv.same hI rfl rfl rfl rfl⟩)
      · have hg : (wrongA a == 0) = false := by simpa using h0
        clear h0
        go_region_with (go_at_call 22; refine (refWrong_any a _).mono ?_; rintro e w1 ⟨rfl, hb⟩; have hI := Inv.call hb hI rfl rfl rfl rfl; clear hb; have hI' := hI; obtain ⟨⟨⟨R0, R1, R2, R3, R4, R5, R6, R7⟩, -⟩, -, -⟩ := hI')
        all_goals (go_wp2_with fail; go_meet; exact ⟨rfl, Inv.same hI rfl rfl rfl rfl⟩)
    case rest =>
      obtain ⟨rfl, hI⟩ := hcut
      obtain ⟨P, hB, hy⟩ := hI
      generalize wc = w5 at *
      go_wp2_with fail
      refine (new_any c s n t _).mono ?_
      rintro e w1 ⟨rfl, hb1⟩
      have P1 := P.below hy hb1
      have hB1 := hB.trans (hb1.mono (Nat.le_of_lt hy))
      have hy1 : w.heap.size < w1.heap.size := Nat.lt_of_lt_of_le hy hb1.size
      clear P hB hy hb1
      generalize hr : newA c s n t = r
      have Hr := hid hr
      clear hr
      simp only [av]
      go_wp2_with fail
      refine (refNew_any c s n t _).mono ?_
      rintro e w2 ⟨rfl, hb2⟩
      rw [Hr.out]
      have P2 := P1.on hy1 hb2
      obtain ⟨X2, hb12, hy2⟩ := after1 (a := r.1) hb2
      have hB2 := hB1.trans (hb12.mono (Nat.le_of_lt hy1))
      have hx2 : w1.heap.size < w2.heap.size := hy2
      have hz2 : w.heap.size < w2.heap.size := Nat.lt_trans hy1 hx2
      clear hb2 hb12 hy2 P1 hB1
      simp only [av]
      have P2' := P2
      have X2' := X2
      obtain ⟨⟨R0, R1, R2, R3, R4, R5, R6, R7⟩, -⟩ := P2'
      obtain ⟨⟨S0, S1, S2, S3, S4, S5, S6, S7⟩, -⟩ := X2'
      go_wp2_with fail
      refine (move_any a k n _).mono ?_
      rintro e w3 ⟨rfl, hb3⟩
      have P3 := P2.on hz2 hb3
      have X3 := X2.on hx2 hb3
      obtain ⟨Y3, hb23, hy3⟩ := after1 (a := r.1) hb3
      have hB3 := hB2.trans (hb23.mono (Nat.le_of_lt hz2))
      have hx3 : w2.heap.size < w3.heap.size := hy3
      have hz3 : w.heap.size < w3.heap.size := Nat.lt_trans hz2 hx3
      have hu3 : w1.heap.size < w3.heap.size := Nat.lt_trans hx2 hx3
      clear hb3 hb23 hy3 P2 X2 hB2 R0 R1 R2 R3 R4 R5 R6 R7 S0 S1 S2 S3 S4 S5 S6 S7
      generalize hq : mv a k n = q
      have Hq := hid hq
      clear hq
      simp only [av]
      have P3' := P3
      have X3' := X3
      obtain ⟨⟨R0, R1, R2, R3, R4, R5, R6, R7⟩, -⟩ := P3'
      obtain ⟨⟨S0, S1, S2, S3, S4, S5, S6, S7⟩, F⟩ := X3'
      have n1 : w1.heap.size ≠ w.heap.size := by omega
      have n2 : w.heap.size ≠ w1.heap.size := by omega
      go_wp2_with fail
      refine (become_any a k n _).mono ?_
      rintro e w4 ⟨rfl, hb4⟩
      rw [Hq.out]
      simp only [av]
      have X4 : Perm w4 w1.heap.size q.1 := (perm_set X3 q.1.card q.1.shop q.1.sum q.1.cap q.1.ref q.1.dis q.1.till q.1.shut).below (by rw [size_wrote]; exact hu3) hb4
      have Y4 : Perm w4 w2.heap.size r.1 := (perm_far Y3 (b2 := w1.heap.size) (by omega) q.1.card q.1.shop q.1.sum q.1.cap q.1.ref q.1.dis q.1.till q.1.shut).below (by rw [size_wrote]; exact hx3) hb4
      have hB4 : Below w.heap.size w w4 := (below_wrote hB3 (b := w1.heap.size) (Nat.le_of_lt hy1) q.1.card q.1.shop q.1.sum q.1.cap q.1.ref q.1.dis q.1.till q.1.shut).trans (hb4.mono (by rw [size_wrote]; exact Nat.le_of_lt hz3))
      clear hb4 P3 X3 Y3 R0 R1 R2 R3 R4 R5 R6 R7 S0 S1 S2 S3 S4 S5 S6 S7 F n1 n2
      obtain ⟨⟨R0, R1, R2, R3, R4, R5, R6, R7⟩, -⟩ := X4
      obtain ⟨⟨S0, S1, S2, S3, S4, S5, S6, S7⟩, F⟩ := Y4
      have n1 : w1.heap.size ≠ w2.heap.size := by omega
      have n2 : w2.heap.size ≠ w1.heap.size := by omega
      go_wp2
      go_ret
      exact ⟨rfl, below_wrote hB4 (Nat.le_of_lt hz2) _ _ _ _ _ _ _ _⟩
end Go.Proofs.Ytolfddiofcllcaa
