/- The walk of the document's Shift. -/
import Derived.Test.YtdifndnogpcbkaaCardj
namespace Go.Proofs.Ytdifndnogpcbkaa
open Go.RowKit

set_option maxHeartbeats 400000 in
theorem big_any (n : Int) (w : World) :
    Calls Try.prog 74 #[.int .i64 n] w fun e w' => e = .returned (.bool (!isT n)) ∧ w' = w := by
  unfold isT
  by_cases h1 : n ≤ 1000000000000 <;> by_cases h2 : -1000000000000 ≤ n
  all_goals
    go_enter Try.func74, Try.ntmps74
    go_wp2
    go_ret
    simp [h1, h2]
  all_goals omega

/-- What is held is written anew; the list is the one that came in. -/
theorem Two.held0 {w W : World} {c : Ca} {a : Option Addr} {cap : Nat} (h : Two w c a cap W) (hL : Lies w a cap c.u) (n : Int) : Two w ⟨c.m, n, c.p, c.u⟩ a cap (W.setCell ⟨w.heap.size, 1, none⟩ (.int .i64 n)) := by
  have hb := h.bel.setCell (Nat.le_refl (⟨w.heap.size, 1, none⟩ : Addr).block) (.int .i64 n)
  refine ⟨hb, ⟨?_, hL.below hb⟩, ?_⟩
  · have hb := h.box.block
    unfold co at hb ⊢
    exact heap_setCell_same _ _ 1 _ _ (.int .i64 n) hb
  · rw [heap_setCell_other _ _ _ _ (by simp)]; exact h.res

/-- The money is written anew; the list is the one that came in. -/
theorem Two.money0 {w W : World} {c : Ca} {a : Option Addr} {cap : Nat} (h : Two w c a cap W) (hL : Lies w a cap c.u) (n : Int) : Two w ⟨n, c.h, c.p, c.u⟩ a cap (W.setCell ⟨w.heap.size, 0, none⟩ (.int .i64 n)) := by
  have hb := h.bel.setCell (Nat.le_refl (⟨w.heap.size, 0, none⟩ : Addr).block) (.int .i64 n)
  refine ⟨hb, ⟨?_, hL.below hb⟩, ?_⟩
  · have hb := h.box.block
    unfold co at hb ⊢
    exact heap_setCell_same _ _ 0 _ _ (.int .i64 n) hb
  · rw [heap_setCell_other _ _ _ _ (by simp)]; exact h.res

/-- The ways through the document's last test. -/
theorem off_ways3 (m h : Int) :
    (h < 0 ∧ Hid (off m h)) ∨ (0 ≤ h ∧ isT h = false ∧ Hid (off m h)) ∨ (0 ≤ h ∧ isT h = true ∧ isT m = false ∧ Hid (off m h)) ∨ (0 ≤ h ∧ isT h = true ∧ isT m = true ∧ Hid (¬ off m h)) := by
  by_cases h1 : h < 0
  · exact Or.inl ⟨h1, by unfold Hid off; omega⟩
  cases h2 : isT h with
  | false => exact Or.inr (Or.inl ⟨by omega, rfl, by have := isT_false.1 h2; unfold Hid off; omega⟩)
  | true =>
    cases h3 : isT m with
    | false => exact Or.inr (Or.inr (Or.inl ⟨by omega, rfl, rfl, by have := isT_false.1 h3; unfold Hid off; omega⟩))
    | true =>
      have := isT_true.1 h2
      have := isT_true.1 h3
      exact Or.inr (Or.inr (Or.inr ⟨by omega, rfl, rfl, by unfold Hid off; omega⟩))

set_option maxHeartbeats 4000000 in
theorem refShift_all (c : Ca) (a : Option Addr) (cap : Nat) (dh dm : Int) (w : World) (hL : Lies w a cap c.u) :
    Calls Try.prog 55 #[cv c a cap, .int .i64 dh, .int .i64 dm] w (AnswersO w a c.u (shiftC c dh dm)) := by
  have T0 := two_new hL
  unfold cv
  go_enter Try.func55, Try.ntmps55
  go_wp2_with fail
  refine (refCWrong_any c a cap _ (two_new hL).box.lies).mono ?_
  rintro e w1 ⟨rfl, hb1⟩
  have T1 := T0.on hb1
  clear T0 hb1
  obtain ⟨C0, C1, C2, C3, C4, C5⟩ := T1.box.cells
  obtain ⟨F0, F1, F2, F3, F4, F5⟩ := co_free T1.box.block
  obtain ⟨R0, R1, R2, R3, R4, R5⟩ := co_cells T1.res
  obtain ⟨E0, E1, E2, E3, E4, E5⟩ := co_free T1.res
  by_cases h0 : wrongC c = 0
  rotate_left
  · have HW := hid (shiftC_wrong (a := dh) (b := dm) h0)
    have hne : (wrongC c != 0) = true := by simpa using h0
    clear h0
    generalize wrongC c = r at *
    go_wp2
    refine bodyPost_ret (v := .tuple #[.agg #[.int .i64 0, .int .i64 0, .int .i64 0, .int .i64 0, .int .i64 0, .slice none 0 0], .int .i64 r]) (by simp [results, Try.results55, go_sem, R0, R1, R2, R3, R4, R5]; try rfl) rfl ?_
    unfold AnswersO
    rw [HW.out]
    refine ⟨none, 0, rfl, lies_nil _, Or.inl (past_none _), ?_⟩
    repeat refine Below.setCell ?_ (by simp) _
    exact T1.bel
  have hne : (wrongC c != 0) = false := by simpa using h0
  have R := wrongC_ok.1 h0
  have m1 := R.h1
  have m2 := R.h2
  have m3 := R.m1
  have m4 := R.m2
  clear R
  rcases far_ways dh dm with ⟨h1, H⟩ | ⟨h1, h2, H⟩ | ⟨h1, h2, h3, h4, h5, h6, H⟩
  · have HW := hid (shiftC_range h0 H.out)
    clear h0
    generalize wrongC c = r at *
    go_wp2_with (go_at_call 74; refine (big_any _ _).mono ?_; rintro e w2 ⟨rfl, rfl⟩; rw [h1])
    refine bodyPost_ret (v := .tuple #[.agg #[.int .i64 0, .int .i64 0, .int .i64 0, .int .i64 0, .int .i64 0, .slice none 0 0], .int .i64 3]) (by simp [results, Try.results55, go_sem, R0, R1, R2, R3, R4, R5]; try rfl) rfl ?_
    unfold AnswersO
    rw [HW.out]
    refine ⟨none, 0, rfl, lies_nil _, Or.inl (past_none _), ?_⟩
    repeat refine Below.setCell ?_ (by simp) _
    exact T1.bel
  · have HW := hid (shiftC_range h0 H.out)
    clear h0
    generalize wrongC c = r at *
    go_wp2_with (go_at_call 74; refine (big_any _ _).mono ?_; rintro e w2 ⟨rfl, rfl⟩; first | rw [h1] | rw [h2])
    refine bodyPost_ret (v := .tuple #[.agg #[.int .i64 0, .int .i64 0, .int .i64 0, .int .i64 0, .int .i64 0, .slice none 0 0], .int .i64 3]) (by simp [results, Try.results55, go_sem, R0, R1, R2, R3, R4, R5]; try rfl) rfl ?_
    unfold AnswersO
    rw [HW.out]
    refine ⟨none, 0, rfl, lies_nil _, Or.inl (past_none _), ?_⟩
    repeat refine Below.setCell ?_ (by simp) _
    exact T1.bel
  have HF := hid (shiftC_funds h0 H.out)
  have HO := hid (shiftC_ok h0 H.out)
  clear h0
  generalize wrongC c = r at *
  go_wp2_with fail
  refine (big_any _ _).mono ?_
  rintro e w2 ⟨rfl, rfl⟩
  rw [h1]
  go_wp2_with fail
  refine (big_any _ _).mono ?_
  rintro e w2 ⟨rfl, rfl⟩
  rw [h2]
  go_upto_region 8 with fail
  have T4 := (T1.held0 hL (c.h + dh)).money0 hL (c.m + dm)
  generalize (World.setCell _ ⟨w.heap.size, 1, none⟩ (.int .i64 (c.h + dh))).setCell ⟨w.heap.size, 0, none⟩ (.int .i64 (c.m + dm)) = w4 at *
  clear C0 C1 C2 C3 C4 C5 F0 F1 F2 F3 F4 F5 R0 R1 R2 R3 R4 R5 E0 E1 E2 E3 E4 E5 T1 h1 h2
  obtain ⟨C0, C1, C2, C3, C4, C5⟩ := T4.box.cells
  obtain ⟨R0, R1, R2, R3, R4, R5⟩ := co_cells T4.res
  obtain ⟨E0, E1, E2, E3, E4, E5⟩ := co_free T4.res
  rcases off_ways3 (c.m + dm) (c.h + dh) with ⟨h1, H⟩ | ⟨h1, h2, H⟩ | ⟨h1, h2, h7, H⟩ | ⟨h1, h2, h7, H⟩
  · have HW := hid (HF.out H.out)
    clear HF HO
    go_wp2
    refine bodyPost_ret (v := .tuple #[.agg #[.int .i64 0, .int .i64 0, .int .i64 0, .int .i64 0, .int .i64 0, .slice none 0 0], .int .i64 10]) (by simp [results, Try.results55, go_sem, R0, R1, R2, R3, R4, R5]; try rfl) rfl ?_
    unfold AnswersO
    rw [HW.out]
    refine ⟨none, 0, rfl, lies_nil _, Or.inl (past_none _), ?_⟩
    repeat refine Below.setCell ?_ (by simp) _
    exact T4.bel
  · have HW := hid (HF.out H.out)
    clear HF HO
    go_wp2_with (go_at_call 74; refine (big_any _ _).mono ?_; rintro e w2 ⟨rfl, rfl⟩; rw [h2])
    refine bodyPost_ret (v := .tuple #[.agg #[.int .i64 0, .int .i64 0, .int .i64 0, .int .i64 0, .int .i64 0, .slice none 0 0], .int .i64 10]) (by simp [results, Try.results55, go_sem, R0, R1, R2, R3, R4, R5]; try rfl) rfl ?_
    unfold AnswersO
    rw [HW.out]
    refine ⟨none, 0, rfl, lies_nil _, Or.inl (past_none _), ?_⟩
    repeat refine Below.setCell ?_ (by simp) _
    exact T4.bel
  · have HW := hid (HF.out H.out)
    clear HF HO
    go_wp2_with (go_at_call 74; refine (big_any _ _).mono ?_; rintro e w2 ⟨rfl, rfl⟩; first | rw [h2] | rw [h7])
    refine bodyPost_ret (v := .tuple #[.agg #[.int .i64 0, .int .i64 0, .int .i64 0, .int .i64 0, .int .i64 0, .slice none 0 0], .int .i64 10]) (by simp [results, Try.results55, go_sem, R0, R1, R2, R3, R4, R5]; try rfl) rfl ?_
    unfold AnswersO
    rw [HW.out]
    refine ⟨none, 0, rfl, lies_nil _, Or.inl (past_none _), ?_⟩
    repeat refine Below.setCell ?_ (by simp) _
    exact T4.bel
  · have HW := hid (HO.out H.out)
    clear HF HO
    go_wp2_with (go_at_call 74; refine (big_any _ _).mono ?_; rintro e w2 ⟨rfl, rfl⟩; first | rw [h2] | rw [h7])
    refine bodyPost_ret (v := .tuple #[.agg #[.int .i64 (c.m + dm), .int .i64 (c.h + dh), .int .i64 c.p.t, .int .i64 c.p.c, .int .i64 c.p.s, .slice a c.u.length cap], .int .i64 0]) (by simp [results, Try.results55, go_sem, R0, R1, R2, R3, R4, R5]; try rfl) rfl ?_
    unfold AnswersO
    rw [HW.out]
    have key : ∀ W, Below w.heap.size w W → Lies W a cap c.u ∧ Tied w.heap.size a c.u a c.u ∧ Below w.heap.size w W := fun W hb => ⟨hL.below hb, Or.inr ⟨rfl, rfl⟩, hb⟩
    refine ⟨a, cap, rfl, key _ ?_⟩
    repeat refine Below.setCell ?_ (by simp) _
    exact T4.bel
end Go.Proofs.Ytdifndnogpcbkaa
