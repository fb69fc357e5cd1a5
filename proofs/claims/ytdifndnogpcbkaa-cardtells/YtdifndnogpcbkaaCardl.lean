/- The walk of the document's Allow. -/
import Derived.Test.YtdifndnogpcbkaaCardj
namespace Go.Proofs.Ytdifndnogpcbkaa
open Go.RowKit

/-- The ways through the document's test of a sum and a time. -/
theorem allow_ways2 (s t : Int) :
    (s < 1 ∧ Hid (s < 1 ∨ 1000000 < s ∨ t < 0 ∨ 1000000 < t)) ∨ (1 ≤ s ∧ 1000000 < s ∧ Hid (s < 1 ∨ 1000000 < s ∨ t < 0 ∨ 1000000 < t)) ∨
    (1 ≤ s ∧ s ≤ 1000000 ∧ t < 0 ∧ Hid (s < 1 ∨ 1000000 < s ∨ t < 0 ∨ 1000000 < t)) ∨ (1 ≤ s ∧ s ≤ 1000000 ∧ 0 ≤ t ∧ 1000000 < t ∧ Hid (s < 1 ∨ 1000000 < s ∨ t < 0 ∨ 1000000 < t)) ∨
    (1 ≤ s ∧ s ≤ 1000000 ∧ 0 ≤ t ∧ t ≤ 1000000 ∧ Hid (¬ (s < 1 ∨ 1000000 < s ∨ t < 0 ∨ 1000000 < t))) := by
  by_cases h1 : s < 1
  · exact Or.inl ⟨h1, by unfold Hid; omega⟩
  by_cases h2 : 1000000 < s
  · exact Or.inr (Or.inl ⟨by omega, h2, by unfold Hid; omega⟩)
  by_cases h3 : t < 0
  · exact Or.inr (Or.inr (Or.inl ⟨by omega, by omega, h3, by unfold Hid; omega⟩))
  by_cases h4 : 1000000 < t
  · exact Or.inr (Or.inr (Or.inr (Or.inl ⟨by omega, by omega, by omega, h4, by unfold Hid; omega⟩)))
  · exact Or.inr (Or.inr (Or.inr (Or.inr ⟨by omega, by omega, by omega, by omega, by unfold Hid; omega⟩)))

set_option maxHeartbeats 4000000 in
theorem refAllow_any (c : Ca) (a : Option Addr) (cap : Nat) (s t : Int) (w : World) (hL : Lies w a cap c.u) :
    Calls Try.prog 50 #[cv c a cap, .int .i64 s, .int .i64 t] w (AnswersC w (allowC c s t)) := by
  have T0 := two_new hL
  unfold cv
  go_enter Try.func50, Try.ntmps50
  go_wp2_with fail
  refine (refCWrong_any c a cap _ (two_new hL).box.lies).mono ?_
  rintro e w1 ⟨rfl, hb1⟩
  have T1 := T0.on hb1
  clear T0 hb1
  obtain ⟨C0, C1, C2, C3, C4, C5⟩ := T1.box.cells
  obtain ⟨R0, R1, R2, R3, R4, R5⟩ := co_cells T1.res
  obtain ⟨E0, E1, E2, E3, E4, E5⟩ := co_free T1.res
  by_cases h0 : wrongC c = 0
  rotate_left
  · have HW := hid (allowC_wrong (s := s) (t := t) h0)
    have hne : (wrongC c != 0) = true := by simpa using h0
    clear h0
    generalize wrongC c = r at *
    go_wp2
    refine bodyPost_ret (v := .tuple #[.agg #[.int .i64 0, .int .i64 0, .int .i64 0, .int .i64 0, .int .i64 0, .slice none 0 0], .int .i64 r]) (by simp [results, Try.results50, go_sem, R0, R1, R2, R3, R4, R5]; try rfl) rfl ?_
    unfold AnswersC
    rw [HW.out]
    refine ⟨none, 0, rfl, lies_nil _, ?_⟩
    repeat refine Below.setCell ?_ (by simp) _
    exact T1.bel
  have hne : (wrongC c != 0) = false := by simpa using h0
  have R := wrongC_ok.1 h0
  have m1 := R.h1
  have m2 := R.h2
  have m3 := R.m1
  have m4 := R.m2
  clear R
  rcases allow_ways2 s t with ⟨h1, H⟩ | ⟨h1, h2, H⟩ | ⟨h1, h2, h3, H⟩ | ⟨h1, h2, h3, h4, H⟩ | ⟨h1, h2, h3, h4, H⟩
  iterate 4
    · have HW := hid (allowC_range h0 H.out)
      clear h0
      generalize wrongC c = r at *
      go_wp2
      refine bodyPost_ret (v := .tuple #[.agg #[.int .i64 0, .int .i64 0, .int .i64 0, .int .i64 0, .int .i64 0, .slice none 0 0], .int .i64 3]) (by simp [results, Try.results50, go_sem, R0, R1, R2, R3, R4, R5]; try rfl) rfl ?_
      unfold AnswersC
      rw [HW.out]
      refine ⟨none, 0, rfl, lies_nil _, ?_⟩
      repeat refine Below.setCell ?_ (by simp) _
      exact T1.bel
  have HF := hid (allowC_funds h0 H.out)
  have HA := hid (allowC_add h0 H.out)
  have HO := hid (allowC_ok h0 H.out)
  clear h0
  generalize wrongC c = r at *
  by_cases hq : c.m < c.h + s
  · have HW := hid (HF.out hq)
    clear HF HA HO
    go_wp2
    refine bodyPost_ret (v := .tuple #[.agg #[.int .i64 0, .int .i64 0, .int .i64 0, .int .i64 0, .int .i64 0, .slice none 0 0], .int .i64 10]) (by simp [results, Try.results50, go_sem, R0, R1, R2, R3, R4, R5]; try rfl) rfl ?_
    unfold AnswersC
    rw [HW.out]
    refine ⟨none, 0, rfl, lies_nil _, ?_⟩
    repeat refine Below.setCell ?_ (by simp) _
    exact T1.bel
  have HA2 := hid (HA.out hq)
  have HO2 := hid (HO.out hq)
  have hq' : c.h + s ≤ c.m := by omega
  clear HF hq HA HO
  go_wp2_with fail
  refine (refAdd_any c.p a cap c.u (t, s) _ T1.box.lies.ents).mono ?_
  intro e w3 hA
  obtain ⟨a', cap', rfl, hl', hp', hb3⟩ := lies_answers hA
  have T3 := T1.on hb3
  have hp2 : Past (w.heap.size + 2) a' := past_mono hp' T1.lt
  clear C0 C1 C2 C3 C4 C5 R0 R1 R2 R3 R4 R5 E0 E1 E2 E3 E4 E5 T1 hb3 hA hp'
  obtain ⟨C0, C1, C2, C3, C4, C5⟩ := T3.box.cells
  obtain ⟨F0, F1, F2, F3, F4, F5⟩ := co_free T3.box.block
  obtain ⟨R0, R1, R2, R3, R4, R5⟩ := co_cells T3.res
  obtain ⟨E0, E1, E2, E3, E4, E5⟩ := co_free T3.res
  by_cases hz : (addU c.p c.u (t, s)).2 = 0
  rotate_left
  · have HW := hid (HA2.out hz)
    have hz' : ((addU c.p c.u (t, s)).2 != 0) = true := by simpa using hz
    clear HA2 HO2 hz
    generalize (addU c.p c.u (t, s)).2 = r2 at *
    generalize (addU c.p c.u (t, s)).1 = r1 at *
    go_wp2
    refine bodyPost_ret (v := .tuple #[.agg #[.int .i64 0, .int .i64 0, .int .i64 0, .int .i64 0, .int .i64 0, .slice none 0 0], .int .i64 r2]) (by simp [results, Try.results50, go_sem, R0, R1, R2, R3, R4, R5]; try rfl) rfl ?_
    unfold AnswersC
    rw [HW.out]
    refine ⟨none, 0, rfl, lies_nil _, ?_⟩
    repeat refine Below.setCell ?_ (by simp) _
    exact T3.bel
  have HW := hid (HO2.out hz)
  have hz' : ((addU c.p c.u (t, s)).2 != 0) = false := by simpa using hz
  clear HA2 HO2 hz
  generalize (addU c.p c.u (t, s)).2 = r2 at *
  generalize (addU c.p c.u (t, s)).1 = r1 at *
  go_upto_region 12 with fail
  have hb := T3.bel.setCell (Nat.le_refl (⟨w.heap.size, 1, none⟩ : Addr).block) (.int .i64 (c.h + s))
  have T5 : Two w ⟨c.m, c.h + s, c.p, c.u⟩ a cap (w3.setCell ⟨w.heap.size, 1, none⟩ (.int .i64 (c.h + s))) := by
    refine ⟨hb, ⟨?_, hL.below hb⟩, ?_⟩
    · have hb := T3.box.block
      unfold co at hb ⊢
      exact heap_setCell_same _ _ 1 _ _ (.int .i64 (c.h + s)) hb
    · rw [heap_setCell_other _ _ _ _ (by simp)]; exact T3.res
  have T4 := T5.list r1 a' cap' (hl'.set hp2 (by simp) _) hp2
  clear T5 hb
  generalize (w3.setCell ⟨w.heap.size, 1, none⟩ (.int .i64 (c.h + s))).setCell ⟨w.heap.size, 5, none⟩ (.slice a' r1.length cap') = w4 at *
  clear C0 C1 C2 C3 C4 C5 F0 F1 F2 F3 F4 F5 R0 R1 R2 R3 R4 R5 E0 E1 E2 E3 E4 E5 T3
  obtain ⟨C0, C1, C2, C3, C4, C5⟩ := T4.box.cells
  obtain ⟨R0, R1, R2, R3, R4, R5⟩ := co_cells T4.res
  obtain ⟨E0, E1, E2, E3, E4, E5⟩ := co_free T4.res
  go_wp2
  refine bodyPost_ret (v := .tuple #[.agg #[.int .i64 c.m, .int .i64 (c.h + s), .int .i64 c.p.t, .int .i64 c.p.c, .int .i64 c.p.s, .slice a' r1.length cap'], .int .i64 0]) (by simp [results, Try.results50, go_sem, R0, R1, R2, R3, R4, R5]; try rfl) rfl ?_
  unfold AnswersC
  rw [HW.out]
  refine ⟨a', cap', rfl, ?_, ?_⟩
  · repeat refine Lies.set ?_ hp2 (by simp) _
    exact T4.box.lies
  · repeat refine Below.setCell ?_ (by simp) _
    exact T4.bel
end Go.Proofs.Ytdifndnogpcbkaa
