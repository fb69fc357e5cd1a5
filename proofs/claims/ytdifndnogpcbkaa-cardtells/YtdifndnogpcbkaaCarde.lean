/- The walk of Allow. -/
import Derived.Test.YtdifndnogpcbkaaCardc
namespace Go.Proofs.Ytdifndnogpcbkaa
open Go.RowKit

/-- The list of uses is written anew. -/
theorem Two.list {w W : World} {c : Ca} {a : Option Addr} {cap : Nat} (h : Two w c a cap W) (u' : List (Int × Int)) (a' : Option Addr) (cap' : Nat) (hl : Lies W a' cap' u') (hp : Past (w.heap.size + 2) a') :
    Two w ⟨c.m, c.h, c.p, u'⟩ a' cap' (W.setCell ⟨w.heap.size, 5, none⟩ (.slice a' u'.length cap')) := by
  refine ⟨h.bel.setCell (Nat.le_refl _) _, ⟨?_, hl.set hp (by simp) _⟩, ?_⟩
  · have hb := h.box.block
    unfold co at hb ⊢
    exact heap_setCell_same _ _ 5 _ _ (.slice a' u'.length cap') hb
  · rw [heap_setCell_other _ _ _ _ (by simp)]; exact h.res

/-- The ways through the test of a sum and a time. -/
theorem allow_ways (s t : Int) :
    (isOne s = false ∧ Hid (s < 1 ∨ 1000000 < s ∨ t < 0 ∨ 1000000 < t)) ∨ (isOne s = true ∧ t < 0 ∧ Hid (s < 1 ∨ 1000000 < s ∨ t < 0 ∨ 1000000 < t)) ∨
    (isOne s = true ∧ 0 ≤ t ∧ 1000000 < t ∧ Hid (s < 1 ∨ 1000000 < s ∨ t < 0 ∨ 1000000 < t)) ∨
    (isOne s = true ∧ 0 ≤ t ∧ t ≤ 1000000 ∧ 1 ≤ s ∧ s ≤ 1000000 ∧ Hid (¬ (s < 1 ∨ 1000000 < s ∨ t < 0 ∨ 1000000 < t))) := by
  cases h1 : isOne s with
  | false => exact Or.inl ⟨rfl, by have := isOne_false.1 h1; unfold Hid; omega⟩
  | true =>
    obtain ⟨h2, h3⟩ := isOne_true.1 h1
    by_cases h4 : t < 0
    · exact Or.inr (Or.inl ⟨rfl, h4, by unfold Hid; omega⟩)
    by_cases h5 : 1000000 < t
    · exact Or.inr (Or.inr (Or.inl ⟨rfl, by omega, h5, by unfold Hid; omega⟩))
    · exact Or.inr (Or.inr (Or.inr ⟨rfl, by omega, by omega, h2, h3, by unfold Hid; omega⟩))

theorem lies_answers {w w' : World} {r : List (Int × Int) × Int} {e : Ending} (h : Answers w r e w') : ∃ a cap, e = .returned (.tuple #[.slice a r.1.length cap, .int .i64 r.2]) ∧ Lies w' a cap r.1 ∧ Past w.heap.size a ∧ Below w.heap.size w w' := by
  obtain ⟨v, he, ho, hb⟩ := h
  obtain ⟨a, cap, rfl, hl, hp⟩ := lies_of_owns ho
  exact ⟨a, cap, he, hl, hp, hb⟩

set_option maxHeartbeats 4000000 in
theorem allow_any (c : Ca) (a : Option Addr) (cap : Nat) (s t : Int) (w : World) (hL : Lies w a cap c.u) :
    Calls Try.prog 49 #[cv c a cap, .int .i64 s, .int .i64 t] w (AnswersC w (allowC c s t)) := by
  have T0 := two_new hL
  unfold cv
  go_enter Try.func49, Try.ntmps49
  go_wp2_with fail
  refine (cwrong_any c a cap _ (two_new hL).box.lies).mono ?_
  rintro e w1 ⟨rfl, hb1⟩
  have T1 := T0.on hb1
  clear T0 hb1
  obtain ⟨C0, C1, C2, C3, C4, C5⟩ := T1.box.cells
  obtain ⟨R0, R1, R2, R3, R4, R5⟩ := co_cells T1.res
  obtain ⟨E0, E1, E2, E3, E4, E5⟩ := co_free T1.res
  by_cases h0 : wrongC c = 0
  rotate_left
  · have HW := hid (allowC_wrong (s := s) (t := t) h0)
    have hne : (wrongC c != 0) = true := by simpa using h0
    clear h0
    generalize wrongC c = r at *
    go_wp2
    refine bodyPost_ret (v := .tuple #[.agg #[.int .i64 0, .int .i64 0, .int .i64 0, .int .i64 0, .int .i64 0, .slice none 0 0], .int .i64 r]) (by simp [results, Try.results49, go_sem, R0, R1, R2, R3, R4, R5]; try rfl) rfl ?_
    unfold AnswersC
    rw [HW.out]
    refine ⟨none, 0, rfl, lies_nil _, ?_⟩
    repeat refine Below.setCell ?_ (by simp) _
    exact T1.bel
  have hne : (wrongC c != 0) = false := by simpa using h0
  have R := wrongC_ok.1 h0
  have m1 := R.h1
  have m2 := R.h2
  have m3 := R.m1
  have m4 := R.m2
  clear R
  rcases allow_ways s t with ⟨h1, H⟩ | ⟨h1, h2, H⟩ | ⟨h1, h2, h3, H⟩ | ⟨h1, h2, h3, h4, h5, H⟩
  · have HW := hid (allowC_range h0 H.out)
    clear h0
    generalize wrongC c = r at *
    go_wp2_with (go_at_call 72; refine (isSum_any _ _).mono ?_; rintro e w2 ⟨rfl, rfl⟩; rw [h1])
    refine bodyPost_ret (v := .tuple #[.agg #[.int .i64 0, .int .i64 0, .int .i64 0, .int .i64 0, .int .i64 0, .slice none 0 0], .int .i64 3]) (by simp [results, Try.results49, go_sem, R0, R1, R2, R3, R4, R5]; try rfl) rfl ?_
    unfold AnswersC
    rw [HW.out]
    refine ⟨none, 0, rfl, lies_nil _, ?_⟩
    repeat refine Below.setCell ?_ (by simp) _
    exact T1.bel
  · have HW := hid (allowC_range h0 H.out)
    clear h0
    generalize wrongC c = r at *
    go_wp2_with (go_at_call 72; refine (isSum_any _ _).mono ?_; rintro e w2 ⟨rfl, rfl⟩; rw [h1])
    refine bodyPost_ret (v := .tuple #[.agg #[.int .i64 0, .int .i64 0, .int .i64 0, .int .i64 0, .int .i64 0, .slice none 0 0], .int .i64 3]) (by simp [results, Try.results49, go_sem, R0, R1, R2, R3, R4, R5]; try rfl) rfl ?_
    unfold AnswersC
    rw [HW.out]
    refine ⟨none, 0, rfl, lies_nil _, ?_⟩
    repeat refine Below.setCell ?_ (by simp) _
    exact T1.bel
  · have HW := hid (allowC_range h0 H.out)
    clear h0
    generalize wrongC c = r at *
    go_wp2_with (go_at_call 72; refine (isSum_any _ _).mono ?_; rintro e w2 ⟨rfl, rfl⟩; rw [h1])
    refine bodyPost_ret (v := .tuple #[.agg #[.int .i64 0, .int .i64 0, .int .i64 0, .int .i64 0, .int .i64 0, .slice none 0 0], .int .i64 3]) (by simp [results, Try.results49, go_sem, R0, R1, R2, R3, R4, R5]; try rfl) rfl ?_
    unfold AnswersC
    rw [HW.out]
    refine ⟨none, 0, rfl, lies_nil _, ?_⟩
    repeat refine Below.setCell ?_ (by simp) _
    exact T1.bel
  have HF := hid (allowC_funds h0 H.out)
  have HA := hid (allowC_add h0 H.out)
  have HO := hid (allowC_ok h0 H.out)
  clear h0
  generalize wrongC c = r at *
  go_wp2_with fail
  refine (isSum_any _ _).mono ?_
  rintro e w2 ⟨rfl, rfl⟩
  rw [h1]
  go_wp2_with fail
  refine (free_any c a cap _ m3 m4 m1 m2).mono ?_
  rintro e w2 ⟨rfl, hb2⟩
  have T2 := T1.on hb2
  clear C0 C1 C2 C3 C4 C5 R0 R1 R2 R3 R4 R5 E0 E1 E2 E3 E4 E5 T1 hb2
  obtain ⟨C0, C1, C2, C3, C4, C5⟩ := T2.box.cells
  obtain ⟨R0, R1, R2, R3, R4, R5⟩ := co_cells T2.res
  obtain ⟨E0, E1, E2, E3, E4, E5⟩ := co_free T2.res
  by_cases hq : c.m - c.h < s
  · have HW := hid (HF.out (by omega))
    clear HF HA HO
    go_wp2
    refine bodyPost_ret (v := .tuple #[.agg #[.int .i64 0, .int .i64 0, .int .i64 0, .int .i64 0, .int .i64 0, .slice none 0 0], .int .i64 10]) (by simp [results, Try.results49, go_sem, R0, R1, R2, R3, R4, R5]; try rfl) rfl ?_
    unfold AnswersC
    rw [HW.out]
    refine ⟨none, 0, rfl, lies_nil _, ?_⟩
    repeat refine Below.setCell ?_ (by simp) _
    exact T2.bel
  have HA := hid (HA.out (by omega))
  have HO := hid (HO.out (by omega))
  have hq' : s ≤ c.m - c.h := by omega
  clear HF hq
  go_wp2_with fail
  refine (add_any c.p a cap c.u (t, s) _ T2.box.lies.ents).mono ?_
  intro e w3 hA
  obtain ⟨a', cap', rfl, hl', hp', hb3⟩ := lies_answers hA
  have T3 := T2.on hb3
  have hp2 : Past (w.heap.size + 2) a' := past_mono hp' T2.lt
  clear C0 C1 C2 C3 C4 C5 R0 R1 R2 R3 R4 R5 E0 E1 E2 E3 E4 E5 T2 hb3 hA hp'
  obtain ⟨C0, C1, C2, C3, C4, C5⟩ := T3.box.cells
  obtain ⟨F0, F1, F2, F3, F4, F5⟩ := co_free T3.box.block
  obtain ⟨R0, R1, R2, R3, R4, R5⟩ := co_cells T3.res
  obtain ⟨E0, E1, E2, E3, E4, E5⟩ := co_free T3.res
  by_cases hz : (addU c.p c.u (t, s)).2 = 0
  rotate_left
  · have HW := hid (HA.out hz)
    have hz' : ((addU c.p c.u (t, s)).2 != 0) = true := by simpa using hz
    clear HA HO hz
    generalize (addU c.p c.u (t, s)).2 = r2 at *
    generalize (addU c.p c.u (t, s)).1 = r1 at *
    go_wp2
    refine bodyPost_ret (v := .tuple #[.agg #[.int .i64 0, .int .i64 0, .int .i64 0, .int .i64 0, .int .i64 0, .slice none 0 0], .int .i64 r2]) (by simp [results, Try.results49, go_sem, R0, R1, R2, R3, R4, R5]; try rfl) rfl ?_
    unfold AnswersC
    rw [HW.out]
    refine ⟨none, 0, rfl, lies_nil _, ?_⟩
    repeat refine Below.setCell ?_ (by simp) _
    exact T3.bel
  have HW := hid (HO.out hz)
  have hz' : ((addU c.p c.u (t, s)).2 != 0) = false := by simpa using hz
  clear HA HO hz
  generalize (addU c.p c.u (t, s)).2 = r2 at *
  generalize (addU c.p c.u (t, s)).1 = r1 at *
  go_upto_region 13 with fail
  have T4 := (T3.list r1 a' cap' hl' hp2).held (c.h + s) hp2
  generalize (w3.setCell ⟨w.heap.size, 5, none⟩ (.slice a' r1.length cap')).setCell ⟨w.heap.size, 1, none⟩ (.int .i64 (c.h + s)) = w4 at *
  clear C0 C1 C2 C3 C4 C5 F0 F1 F2 F3 F4 F5 R0 R1 R2 R3 R4 R5 E0 E1 E2 E3 E4 E5 T3
  obtain ⟨C0, C1, C2, C3, C4, C5⟩ := T4.box.cells
  obtain ⟨R0, R1, R2, R3, R4, R5⟩ := co_cells T4.res
  obtain ⟨E0, E1, E2, E3, E4, E5⟩ := co_free T4.res
  go_wp2
  refine bodyPost_ret (v := .tuple #[.agg #[.int .i64 c.m, .int .i64 (c.h + s), .int .i64 c.p.t, .int .i64 c.p.c, .int .i64 c.p.s, .slice a' r1.length cap'], .int .i64 0]) (by simp [results, Try.results49, go_sem, R0, R1, R2, R3, R4, R5]; try rfl) rfl ?_
  unfold AnswersC
  rw [HW.out]
  refine ⟨a', cap', rfl, ?_, ?_⟩
  · repeat refine Lies.set ?_ hp2 (by simp) _
    exact T4.box.lies
  · repeat refine Below.setCell ?_ (by simp) _
    exact T4.bel
end Go.Proofs.Ytdifndnogpcbkaa
