/- The walks of needsOpen, room, wrongMove and Move. -/
import Derived.Test.YtolfddiofcllcaaWalkc
namespace Go.Proofs.Ytolfddiofcllcaa
open Go.RowKit

theorem kinds {k : Int} (h1 : 1 ≤ k) (h2 : k ≤ 8) : k = 1 ∨ k = 2 ∨ k = 3 ∨ k = 4 ∨ k = 5 ∨ k = 6 ∨ k = 7 ∨ k = 8 := by omega

set_option maxHeartbeats 400000 in
theorem needs_any (k : Int) (w : World) (h1 : 1 ≤ k) (h2 : k ≤ 8) :
    Calls Try.prog 46 #[.int .i64 k] w fun e w' => e = .returned (.bool (decide (k ≤ 4))) ∧ w' = w := by
  rcases kinds h1 h2 with rfl | rfl | rfl | rfl | rfl | rfl | rfl | rfl
  all_goals
    go_enter Try.func46, Try.ntmps46
    go_wp2
    go_ret
    simp

set_option maxHeartbeats 1000000 in
theorem room_any (a : Au) (k : Int) (w : World) (h : wrongA a = 0) (h1 : 1 ≤ k) (h2 : k ≤ 8) :
    Calls Try.prog 47 #[av a, .int .i64 k] w fun e w' => e = .returned (.int .i64 (room a k)) ∧ Below w.heap.size w w' := by
  unfold av
  obtain ⟨⟨⟨q1, q2⟩, ⟨q3, q4⟩, ⟨q5, q6⟩, ⟨q7, q8⟩, -⟩, f1, f2⟩ := wrongA_ok.1 h
  clear h
  rcases kinds h1 h2 with rfl | rfl | rfl | rfl | rfl | rfl | rfl | rfl
  all_goals
    clear h1 h2
    go_enter Try.func47, Try.ntmps47
    go_wp2
    go_ret
    exact ⟨ret_int (by simp [room]), below1 _ _⟩

/-- The ways through wrongMove. -/
theorem mv_ways (a : Au) (k n : Int) :
    ((wrongA a != 0) = true ∧ Hid (mvErr a k n = wrongA a)) ∨
    ((wrongA a != 0) = false ∧ Hid (wrongA a = 0) ∧
      ((k < 1 ∧ Hid (mvErr a k n = 1)) ∨
       (1 ≤ k ∧ 8 < k ∧ Hid (mvErr a k n = 1)) ∨
       (1 ≤ k ∧ k ≤ 8 ∧
         ((isM n = false ∧ Hid (mvErr a k n = 3)) ∨
          (isM n = true ∧ a.shut = true ∧ decide (k ≤ 4) = true ∧ Hid (mvErr a k n = 9)) ∨
          (isM n = true ∧ a.shut = true ∧ decide (k ≤ 4) = false ∧ Hid (mvErr a k n = if n ≤ room a k then 0 else if k = 1 then 4 else 10)) ∨
          (isM n = true ∧ a.shut = false ∧ Hid (mvErr a k n = if n ≤ room a k then 0 else if k = 1 then 4 else 10)))))) := by
  have key : ∀ p : Bool, p = false ∨ p = true := by decide
  unfold mvErr
  by_cases h1 : wrongA a = 0
  · refine Or.inr ⟨by simpa using h1, h1, ?_⟩
    rw [if_neg (by simpa using h1)]
    by_cases h2 : k < 1
    · exact Or.inl ⟨h2, if_pos (Or.inl h2)⟩
    by_cases h3 : 8 < k
    · exact Or.inr (Or.inl ⟨by omega, h3, if_pos (Or.inr h3)⟩)
    refine Or.inr (Or.inr ⟨by omega, by omega, ?_⟩)
    rw [if_neg (by omega)]
    rcases key (isM n) with h4 | h4
    · exact Or.inl ⟨h4, if_pos (by have := isM_false.1 h4; omega)⟩
    have c4 := isM_true.1 h4
    rw [if_neg (by omega)]
    refine Or.inr ?_
    rcases key a.shut with h5 | h5
    · refine Or.inr (Or.inr ⟨h4, h5, ?_⟩)
      rw [if_neg (by simp [h5])]
      exact rfl
    rcases key (decide (k ≤ 4)) with h6 | h6
    · refine Or.inr (Or.inl ⟨h4, h5, h6, ?_⟩)
      rw [if_neg (by simp at h6; omega)]
      exact rfl
    · exact Or.inl ⟨h4, h5, h6, if_pos ⟨h5, by simpa using h6⟩⟩
  · exact Or.inl ⟨by simpa using h1, if_pos h1⟩


/-- What is known behind a call that was handed a copy of a permission. -/
theorem after1 {w w1 : World} {a : Au} (hb : Below (w.alloc (.cells (acells a) 39)).heap.size (w.alloc (.cells (acells a) 39)) w1) : Perm w1 w.heap.size a ∧ Below w.heap.size w w1 ∧ w.heap.size + 1 ≤ w1.heap.size :=
  ⟨Perm.below (perm_new w a) (by simp) hb, below_call1 hb, by have := hb.size; simpa using this⟩

set_option maxHeartbeats 1000000 in
theorem wrongMove_any (a : Au) (k n : Int) (w : World) :
    Calls Try.prog 42 #[av a, .int .i64 k, .int .i64 n] w fun e w' => e = .returned (.int .i64 (mvErr a k n)) ∧ Below w.heap.size w w' := by
  rcases mv_ways a k n with ⟨h1, H⟩ | ⟨h1, W, ⟨h2, H⟩ | ⟨h2, h3, H⟩ | ⟨h2, h3, ⟨h4, H⟩ | ⟨h4, h5, h6, H⟩ | ⟨h4, h5, h6, H⟩ | ⟨h4, h5, H⟩⟩⟩
  all_goals
    obtain ⟨c, s, m, cp, rf, d, t, sh⟩ := a
    try (simp only at h5; subst h5)
    simp only [av]
    go_enter Try.func42, Try.ntmps42
    go_wp2_with fail
    refine (wrong_any ⟨c, s, m, cp, rf, d, t, _⟩ _).mono ?_
    rintro e w1 ⟨rfl, hb⟩
    obtain ⟨⟨⟨R0, R1, R2, R3, R4, R5, R6, R7⟩, F⟩, hb', hz⟩ := after1 (a := ⟨c, s, m, cp, rf, d, t, _⟩) hb
    simp only at R0 R1 R2 R3 R4 R5 R6 R7
    generalize hr : wrongA _ = r at *
    have Hr := hid hr
    clear hr hb
  iterate 3
    · go_wp2
      go_ret
      exact ⟨ret_int H.out.symm, hb'⟩
  · go_wp2_with (go_at_call 41; refine (isMove_any _ _).mono ?_; rintro e w' ⟨rfl, rfl⟩)
    go_ret
    exact ⟨ret_int H.out.symm, hb'⟩
  · go_wp2_with (first | (go_at_call 41; refine (isMove_any _ _).mono ?_; rintro e w' ⟨rfl, rfl⟩) | (go_at_call 46; refine (needs_any _ _ h2 h3).mono ?_; rintro e w' ⟨rfl, rfl⟩))
    go_ret
    exact ⟨ret_int H.out.symm, hb'⟩
  all_goals
    go_wp2_with (first | (go_at_call 41; refine (isMove_any _ _).mono ?_; rintro e w' ⟨rfl, rfl⟩) | (go_at_call 46; refine (needs_any _ _ h2 h3).mono ?_; rintro e w' ⟨rfl, rfl⟩))
    refine (room_any ⟨c, s, m, cp, rf, d, t, _⟩ k _ (Hr.out.trans W.out) h2 h3).mono ?_
    rintro e w2 ⟨rfl, hb2⟩
    have hb12 := hb'.trans (hb2.mono (by omega))
    clear hb2 R0 R1 R2 R3 R4 R5 R6 R7 F
    generalize hq : room _ k = q at *
    clear hq
    by_cases hn : n ≤ q
    · rw [if_pos hn] at H
      go_wp2
      go_ret
      exact ⟨ret_int H.out.symm, hb12⟩
    · rw [if_neg hn] at H
      by_cases hk : k = 1
      · rw [if_pos hk] at H
        have hk' : (k == 1) = true := by simpa using hk
        clear hk
        go_wp2
        go_ret
        exact ⟨ret_int H.out.symm, hb12⟩
      · rw [if_neg hk] at H
        have hk' : (k == 1) = false := by simpa using hk
        clear hk
        go_wp2
        go_ret
        exact ⟨ret_int H.out.symm, hb12⟩
end Go.Proofs.Ytolfddiofcllcaa
