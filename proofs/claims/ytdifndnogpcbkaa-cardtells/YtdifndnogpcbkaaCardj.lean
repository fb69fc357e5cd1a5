/- The walks of the document's WrongCard and Force. -/
import Derived.Test.YtdifndnogpcbkaaWalki
import Derived.Test.YtdifndnogpcbkaaCarde
import Derived.Test.YtdifndnogpcbkaaCardd
namespace Go.Proofs.Ytdifndnogpcbkaa
open Go.RowKit

/-- The ways through the document's first test of a card. -/
theorem off_ways2 (m h : Int) :
    (1000000000000 < m ∧ Hid (off m h)) ∨ (m ≤ 1000000000000 ∧ m < -1000000000000 ∧ Hid (off m h)) ∨ (m ≤ 1000000000000 ∧ -1000000000000 ≤ m ∧ h < 0 ∧ Hid (off m h)) ∨
    (m ≤ 1000000000000 ∧ -1000000000000 ≤ m ∧ 0 ≤ h ∧ 1000000000000 < h ∧ Hid (off m h)) ∨ (m ≤ 1000000000000 ∧ -1000000000000 ≤ m ∧ 0 ≤ h ∧ h ≤ 1000000000000 ∧ Hid (¬ off m h)) := by
  by_cases h1 : 1000000000000 < m
  · exact Or.inl ⟨h1, by unfold Hid off; omega⟩
  by_cases h2 : m < -1000000000000
  · exact Or.inr (Or.inl ⟨by omega, h2, by unfold Hid off; omega⟩)
  by_cases h3 : h < 0
  · exact Or.inr (Or.inr (Or.inl ⟨by omega, by omega, h3, by unfold Hid off; omega⟩))
  by_cases h4 : 1000000000000 < h
  · exact Or.inr (Or.inr (Or.inr (Or.inl ⟨by omega, by omega, by omega, h4, by unfold Hid off; omega⟩)))
  · exact Or.inr (Or.inr (Or.inr (Or.inr ⟨by omega, by omega, by omega, by omega, by unfold Hid off; omega⟩)))

set_option maxHeartbeats 2000000 in
theorem refCWrong_any (c : Ca) (a : Option Addr) (cap : Nat) (w : World) (hL : Lies w a cap c.u) :
    Calls Try.prog 47 #[cv c a cap] w fun e w' => e = .returned (.int .i64 (wrongC c)) ∧ Below w.heap.size w w' := by
  unfold cv
  have b0 : ∀ o, Below w.heap.size w (w.alloc o) := below_alloc w
  rcases off_ways2 c.m c.h with ⟨h1, H⟩ | ⟨h1, h2, H⟩ | ⟨h1, h2, h3, H⟩ | ⟨h1, h2, h3, h4, H⟩ | ⟨h1, h2, h3, h4, H⟩
  iterate 4
    · have HW := hid (wrongC_off H.out)
      go_enter Try.func47, Try.ntmps47
      go_wp2
      go_ret
      exact ⟨ret_int HW.out.symm, b0 _⟩
  by_cases hp : wrongP c.p = 0
  · have HW := hid (wrongC_uses H.out hp)
    have hfd := fieldFault
    go_enter Try.func47, Try.ntmps47
    go_wp2_with (first
      | (go_at_call 37; refine (refWrong_any c.p _).mono ?_; rintro e w1 ⟨rfl, hb1⟩; rw [hp]; obtain ⟨bb, hc⟩ := cbox hL hb1; obtain ⟨-, -, -, -, -, C5⟩ := hc.cells; have hL1 := hc.lies.ents; clear hb1 hc)
      | (go_at_call 39; refine (refUses_any a cap c.u _ hL1).mono ?_; rintro e w2 ⟨rfl, hb2⟩))
    go_ret
    exact ⟨ret_int HW.out.symm, bb.trans (hb2.mono bb.size)⟩
  · have HW := hid (wrongC_pace H.out hp)
    have hne : (wrongP c.p != 0) = true := by simpa using hp
    clear hp
    go_enter Try.func47, Try.ntmps47
    go_wp2_with (go_at_call 37; refine (refWrong_any c.p _).mono ?_; rintro e w1 ⟨rfl, hb1⟩; obtain ⟨bb, -⟩ := cbox hL hb1; generalize wrongP c.p = r at *; clear hb1)
    go_ret
    exact ⟨ret_int HW.out.symm, bb⟩

/-- The ways through the document's test of a sum that is forced. -/
theorem force_ways2 (s h : Int) :
    (s < 1 ∧ Hid (s < 1 ∨ 1000000 < s ∨ 1000000000000 < h + s)) ∨ (1 ≤ s ∧ 1000000 < s ∧ Hid (s < 1 ∨ 1000000 < s ∨ 1000000000000 < h + s)) ∨
    (1 ≤ s ∧ s ≤ 1000000 ∧ 1000000000000 < h + s ∧ Hid (s < 1 ∨ 1000000 < s ∨ 1000000000000 < h + s)) ∨
    (1 ≤ s ∧ s ≤ 1000000 ∧ h + s ≤ 1000000000000 ∧ Hid (¬ (s < 1 ∨ 1000000 < s ∨ 1000000000000 < h + s))) := by
  by_cases h1 : s < 1
  · exact Or.inl ⟨h1, by unfold Hid; omega⟩
  by_cases h2 : 1000000 < s
  · exact Or.inr (Or.inl ⟨by omega, h2, by unfold Hid; omega⟩)
  by_cases h4 : 1000000000000 < h + s
  · exact Or.inr (Or.inr (Or.inl ⟨by omega, by omega, h4, by unfold Hid; omega⟩))
  · exact Or.inr (Or.inr (Or.inr ⟨by omega, by omega, by omega, by unfold Hid; omega⟩))

set_option maxHeartbeats 4000000 in
theorem refForce_all (c : Ca) (a : Option Addr) (cap : Nat) (s : Int) (w : World) (hL : Lies w a cap c.u) :
    Calls Try.prog 53 #[cv c a cap, .int .i64 s] w (AnswersO w a c.u (forceC c s)) := by
  have T0 := two_new hL
  unfold cv
  go_enter Try.func53, Try.ntmps53
  go_wp2_with fail
  refine (refCWrong_any c a cap _ (two_new hL).box.lies).mono ?_
  rintro e w1 ⟨rfl, hb1⟩
  have T1 := T0.on hb1
  clear T0 hb1
  obtain ⟨C0, C1, C2, C3, C4, C5⟩ := T1.box.cells
  obtain ⟨F0, F1, F2, F3, F4, F5⟩ := co_free T1.box.block
  obtain ⟨R0, R1, R2, R3, R4, R5⟩ := co_cells T1.res
  obtain ⟨E0, E1, E2, E3, E4, E5⟩ := co_free T1.res
  by_cases h0 : wrongC c = 0
  rotate_left
  · have HW := hid (forceC_wrong (s := s) h0)
    have hne : (wrongC c != 0) = true := by simpa using h0
    clear h0
    generalize wrongC c = r at *
    go_wp2
    refine bodyPost_ret (v := .tuple #[.agg #[.int .i64 0, .int .i64 0, .int .i64 0, .int .i64 0, .int .i64 0, .slice none 0 0], .int .i64 r]) (by simp [results, Try.results53, go_sem, R0, R1, R2, R3, R4, R5]; try rfl) rfl ?_
    unfold AnswersO
    rw [HW.out]
    refine ⟨none, 0, rfl, lies_nil _, Or.inl (past_none _), ?_⟩
    repeat refine Below.setCell ?_ (by simp) _
    exact T1.bel
  have hne : (wrongC c != 0) = false := by simpa using h0
  have R := wrongC_ok.1 h0
  have m1 := R.h1
  have m2 := R.h2
  clear R
  rcases force_ways2 s c.h with ⟨h1, H⟩ | ⟨h1, h2, H⟩ | ⟨h1, h2, h3, H⟩ | ⟨h1, h2, h3, H⟩
  iterate 3
    · have HW := hid (forceC_range h0 H.out)
      clear h0
      generalize wrongC c = r at *
      go_wp2
      refine bodyPost_ret (v := .tuple #[.agg #[.int .i64 0, .int .i64 0, .int .i64 0, .int .i64 0, .int .i64 0, .slice none 0 0], .int .i64 3]) (by simp [results, Try.results53, go_sem, R0, R1, R2, R3, R4, R5]; try rfl) rfl ?_
      unfold AnswersO
      rw [HW.out]
      refine ⟨none, 0, rfl, lies_nil _, Or.inl (past_none _), ?_⟩
      repeat refine Below.setCell ?_ (by simp) _
      exact T1.bel
  · have HW := hid (forceC_ok h0 H.out)
    clear h0
    generalize wrongC c = r at *
    go_wp2
    refine bodyPost_ret (v := .tuple #[.agg #[.int .i64 c.m, .int .i64 (c.h + s), .int .i64 c.p.t, .int .i64 c.p.c, .int .i64 c.p.s, .slice a c.u.length cap], .int .i64 0]) (by simp [results, Try.results53, go_sem, R0, R1, R2, R3, R4, R5]; try rfl) rfl ?_
    unfold AnswersO
    rw [HW.out]
    have key : ∀ W, Below w.heap.size w W → Lies W a cap c.u ∧ Tied w.heap.size a c.u a c.u ∧ Below w.heap.size w W := fun W hb => ⟨hL.below hb, Or.inr ⟨rfl, rfl⟩, hb⟩
    refine ⟨a, cap, rfl, key _ ?_⟩
    repeat refine Below.setCell ?_ (by simp) _
    exact T1.bel
end Go.Proofs.Ytdifndnogpcbkaa
