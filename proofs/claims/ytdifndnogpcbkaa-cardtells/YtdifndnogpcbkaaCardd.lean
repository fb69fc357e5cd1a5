/- The walk of Shift. -/
import Derived.Test.YtdifndnogpcbkaaCardc
namespace Go.Proofs.Ytdifndnogpcbkaa
open Go.RowKit

/-- The ways through the test of what is shifted. -/
theorem far_ways (a b : Int) :
    (isT a = false ∧ Hid (far a b)) ∨ (isT a = true ∧ isT b = false ∧ Hid (far a b)) ∨
    (isT a = true ∧ isT b = true ∧ -1000000000000 ≤ a ∧ a ≤ 1000000000000 ∧ -1000000000000 ≤ b ∧ b ≤ 1000000000000 ∧ Hid (¬ far a b)) := by
  cases h1 : isT a with
  | false => exact Or.inl ⟨rfl, by have := isT_false.1 h1; unfold Hid far; omega⟩
  | true =>
    obtain ⟨h2, h3⟩ := isT_true.1 h1
    cases h4 : isT b with
    | false => exact Or.inr (Or.inl ⟨rfl, rfl, by have := isT_false.1 h4; unfold Hid far; omega⟩)
    | true =>
      obtain ⟨h5, h6⟩ := isT_true.1 h4
      exact Or.inr (Or.inr ⟨rfl, rfl, h2, h3, h5, h6, by unfold Hid far; omega⟩)

set_option maxHeartbeats 4000000 in
theorem shift_all (c : Ca) (a : Option Addr) (cap : Nat) (dh dm : Int) (w : World) (hL : Lies w a cap c.u) :
    Calls Try.prog 54 #[cv c a cap, .int .i64 dh, .int .i64 dm] w (AnswersO w a c.u (shiftC c dh dm)) := by
  have T0 := two_new hL
  unfold cv
  go_enter Try.func54, Try.ntmps54
  go_wp2_with fail
  refine (cwrong_any c a cap _ (two_new hL).box.lies).mono ?_
  rintro e w1 ⟨rfl, hb1⟩
  have T1 := T0.on hb1
  clear T0 hb1
  obtain ⟨C0, C1, C2, C3, C4, C5⟩ := T1.box.cells
  obtain ⟨F0, F1, F2, F3, F4, F5⟩ := co_free T1.box.block
  obtain ⟨R0, R1, R2, R3, R4, R5⟩ := co_cells T1.res
  obtain ⟨E0, E1, E2, E3, E4, E5⟩ := co_free T1.res
  by_cases h0 : wrongC c = 0
  rotate_left
  · have HW := hid (shiftC_wrong (a := dh) (b := dm) h0)
    have hne : (wrongC c != 0) = true := by simpa using h0
    clear h0
    generalize wrongC c = r at *
    go_wp2
    refine bodyPost_ret (v := .tuple #[.agg #[.int .i64 0, .int .i64 0, .int .i64 0, .int .i64 0, .int .i64 0, .slice none 0 0], .int .i64 r]) (by simp [results, Try.results54, go_sem, R0, R1, R2, R3, R4, R5]; try rfl) rfl ?_
    unfold AnswersO
    rw [HW.out]
    refine ⟨none, 0, rfl, lies_nil _, Or.inl (past_none _), ?_⟩
    repeat refine Below.setCell ?_ (by simp) _
    exact T1.bel
  have hne : (wrongC c != 0) = false := by simpa using h0
  have R := wrongC_ok.1 h0
  have HK := hid (right_few R)
  have m1 := R.h1
  have m2 := R.h2
  have m3 := R.m1
  have m4 := R.m2
  rcases far_ways dh dm with ⟨h1, H⟩ | ⟨h1, h2, H⟩ | ⟨h1, h2, h3, h4, h5, h6, H⟩
  · have HW := hid (shiftC_range h0 H.out)
    clear h0 R
    generalize wrongC c = r at *
    go_wp2_with (go_at_call 71; refine (isTotal_any _ _).mono ?_; rintro e w2 ⟨rfl, rfl⟩; rw [h1])
    refine bodyPost_ret (v := .tuple #[.agg #[.int .i64 0, .int .i64 0, .int .i64 0, .int .i64 0, .int .i64 0, .slice none 0 0], .int .i64 3]) (by simp [results, Try.results54, go_sem, R0, R1, R2, R3, R4, R5]; try rfl) rfl ?_
    unfold AnswersO
    rw [HW.out]
    refine ⟨none, 0, rfl, lies_nil _, Or.inl (past_none _), ?_⟩
    repeat refine Below.setCell ?_ (by simp) _
    exact T1.bel
  · have HW := hid (shiftC_range h0 H.out)
    clear h0 R
    generalize wrongC c = r at *
    go_wp2_with (go_at_call 71; refine (isTotal_any _ _).mono ?_; rintro e w2 ⟨rfl, rfl⟩; first | rw [h1] | rw [h2])
    refine bodyPost_ret (v := .tuple #[.agg #[.int .i64 0, .int .i64 0, .int .i64 0, .int .i64 0, .int .i64 0, .slice none 0 0], .int .i64 3]) (by simp [results, Try.results54, go_sem, R0, R1, R2, R3, R4, R5]; try rfl) rfl ?_
    unfold AnswersO
    rw [HW.out]
    refine ⟨none, 0, rfl, lies_nil _, Or.inl (past_none _), ?_⟩
    repeat refine Below.setCell ?_ (by simp) _
    exact T1.bel
  · have HF := hid (shiftC_funds h0 H.out)
    have HO := hid (shiftC_ok h0 H.out)
    have HR := hid (right_shift (a := dh) (b := dm) h0)
    clear h0 R
    generalize wrongC c = r at *
    go_wp2_with fail
    refine (isTotal_any _ _).mono ?_
    rintro e w2 ⟨rfl, rfl⟩
    rw [h1]
    go_wp2_with fail
    refine (isTotal_any _ _).mono ?_
    rintro e w2 ⟨rfl, rfl⟩
    rw [h2]
    go_wp2_with fail
    refine (own_any c a cap _ T1.box.lies HK.out).mono ?_
    rintro e w2 ⟨a', cap', rfl, hl', hp', hb2⟩
    unfold cv
    have T2 := T1.on hb2
    have hp2 : Past (w.heap.size + 2) a' := past_mono hp' T1.lt
    clear C0 C1 C2 C3 C4 C5 F0 F1 F2 F3 F4 F5 R0 R1 R2 R3 R4 R5 E0 E1 E2 E3 E4 E5 T1 hb2
    obtain ⟨C0, C1, C2, C3, C4, C5⟩ := T2.box.cells
    obtain ⟨F0, F1, F2, F3, F4, F5⟩ := co_free T2.box.block
    go_upto_region 7 with fail
    have T3 := T2.put c a' cap' hl' hp2
    generalize (((((w2.setCell ⟨w.heap.size, 0, none⟩ (.int .i64 c.m)).setCell ⟨w.heap.size, 1, none⟩ (.int .i64 c.h)).setCell ⟨w.heap.size, 2, none⟩ (.int .i64 c.p.t)).setCell ⟨w.heap.size, 3, none⟩ (.int .i64 c.p.c)).setCell ⟨w.heap.size, 4, none⟩ (.int .i64 c.p.s)).setCell ⟨w.heap.size, 5, none⟩ (.slice a' c.u.length cap') = w3 at *
    clear C0 C1 C2 C3 C4 C5 F0 F1 F2 F3 F4 F5 T2
    obtain ⟨C0, C1, C2, C3, C4, C5⟩ := T3.box.cells
    obtain ⟨F0, F1, F2, F3, F4, F5⟩ := co_free T3.box.block
    go_upto_region 9 with fail
    have T4 := (T3.held (c.h + dh) hp2).money (c.m + dm) hp2
    generalize (w3.setCell ⟨w.heap.size, 1, none⟩ (.int .i64 (c.h + dh))).setCell ⟨w.heap.size, 0, none⟩ (.int .i64 (c.m + dm)) = w4 at *
    clear C0 C1 C2 C3 C4 C5 F0 F1 F2 F3 F4 F5 T3
    obtain ⟨C0, C1, C2, C3, C4, C5⟩ := T4.box.cells
    go_wp2_with fail
    refine (cwrong_any ⟨c.m + dm, c.h + dh, c.p, c.u⟩ a' cap' _ T4.box.lies).mono ?_
    rintro e w5 ⟨rfl, hb5⟩
    have T5 := T4.on hb5
    clear C0 C1 C2 C3 C4 C5 T4 hb5
    obtain ⟨C0, C1, C2, C3, C4, C5⟩ := T5.box.cells
    obtain ⟨R0, R1, R2, R3, R4, R5⟩ := co_cells T5.res
    obtain ⟨E0, E1, E2, E3, E4, E5⟩ := co_free T5.res
    by_cases hq : wrongC ⟨c.m + dm, c.h + dh, c.p, c.u⟩ = 0
    · have HW := hid (HO.out (HR.out.1 hq))
      have hne2 : (wrongC ⟨c.m + dm, c.h + dh, c.p, c.u⟩ != 0) = false := by simpa using hq
      clear hq HO HF HR
      generalize wrongC ⟨c.m + dm, c.h + dh, c.p, c.u⟩ = r2 at *
      go_wp2
      refine bodyPost_ret (v := .tuple #[.agg #[.int .i64 (c.m + dm), .int .i64 (c.h + dh), .int .i64 c.p.t, .int .i64 c.p.c, .int .i64 c.p.s, .slice a' c.u.length cap'], .int .i64 0]) (by simp [results, Try.results54, go_sem, R0, R1, R2, R3, R4, R5]; try rfl) rfl ?_
      unfold AnswersO
      rw [HW.out]
      refine ⟨a', cap', rfl, ?_, Or.inl (past_mono hp2 (by omega)), ?_⟩
      · repeat refine Lies.set ?_ hp2 (by simp) _
        exact T5.box.lies
      · repeat refine Below.setCell ?_ (by simp) _
        exact T5.bel
    · have HW := hid (HF.out (Classical.not_not.1 fun h => hq (HR.out.2 h)))
      have hne2 : (wrongC ⟨c.m + dm, c.h + dh, c.p, c.u⟩ != 0) = true := by simpa using hq
      clear hq HO HF HR
      generalize wrongC ⟨c.m + dm, c.h + dh, c.p, c.u⟩ = r2 at *
      go_wp2
      refine bodyPost_ret (v := .tuple #[.agg #[.int .i64 0, .int .i64 0, .int .i64 0, .int .i64 0, .int .i64 0, .slice none 0 0], .int .i64 10]) (by simp [results, Try.results54, go_sem, R0, R1, R2, R3, R4, R5]; try rfl) rfl ?_
      unfold AnswersO
      rw [HW.out]
      refine ⟨none, 0, rfl, lies_nil _, Or.inl (past_none _), ?_⟩
      repeat refine Below.setCell ?_ (by simp) _
      exact T5.bel

theorem shift_any (c : Ca) (a : Option Addr) (cap : Nat) (dh dm : Int) (w : World) (hL : Lies w a cap c.u) :
    Calls Try.prog 54 #[cv c a cap, .int .i64 dh, .int .i64 dm] w (AnswersC w (shiftC c dh dm)) :=
  (shift_all c a cap dh dm w hL).mono fun _ _ h => h.plain
end Go.Proofs.Ytdifndnogpcbkaa
