/- The walk of the document's Give, where nothing is given. -/
import Derived.Test.YtmhcdiimamadfabStd
import Derived.Test.YtmhcdiimamadfabStg
namespace Go.Proofs.Ytmhcdiimamadfab.St
open Go.RowKit Go.Proofs.Ytmhcdiimamadfab.Gn

set_option maxHeartbeats 4000000 in
theorem refGive_bad (s : Sd) (v1 v2 : Value) (t : Ad) (w : World) (h1 : At kI w v1 s.used) (h2 : At kA w v2 s.adv) (hbad : ¬ (wrongD s = 0 ∧ s.adv.length ≠ 20 ∧ Fits t s.used.length)) :
    Calls Try.prog 34 #[dv s.cap v1 v2, av t] w (AnswersD w (giveD s t)) := by
  have hbad := hid hbad
  have G0 := gi_new w s.cap v1 v2 t
  have hh1 := h1
  have hh2 := h2
  obtain ⟨a1, c1, rfl, hl1⟩ := h1
  obtain ⟨a2, c2, rfl, hl2⟩ := h2
  unfold dob aob at G0
  unfold dv av
  go_enter Try.func34, Try.ntmps34
  go_upto_region 1 with fail
  generalize ((w.alloc (.cells #[.int .i64 s.cap, .slice a1 s.used.length c1, .slice a2 s.adv.length c2] 61)).alloc (.cells #[.int .i64 t.c, .int .i64 t.s, .int .i64 t.m, .int .i64 t.t] 63)).alloc (.cells #[.int .i64 0, .slice none 0 0, .slice none 0 0] 61) = W0 at *
  obtain ⟨C0, C1, C2⟩ := dob_cells G0.box
  go_wp2_with fail
  refine (refWrong_any s _ _ _ (hh1.below G0.bel) (hh2.below G0.bel)).mono ?_
  rintro e w1 ⟨rfl, hb1⟩
  have G1 := G0.on hb1
  clear C0 C1 C2 G0 hb1
  by_cases hw : wrongD s = 0
  case neg =>
    have HG := hid (give_bad (a := t) hw)
    have hne : (wrongD s != 0) = true := by simpa using hw
    clear hw
    generalize wrongD s = r at *
    obtain ⟨R0, R1, R2⟩ := dob_cells G1.res
    obtain ⟨E0, E1, E2⟩ := dob_free G1.res
    go_wp2
    refine bodyPost_ret (v := .tuple #[.agg #[.int .i64 0, .slice none 0 0, .slice none 0 0], .int .i64 r]) (by simp [results, Try.results34, go_sem, R0, R1, R2]; try rfl) rfl (bad_ret HG.out ?_)
    repeat refine Below.setCell ?_ (by simp <;> omega) _
    exact G1.bel
  case pos =>
    have R := right_of hw
    have u8 := R.u8
    have a20 := R.a20
    have HW := hid hw
    rw [hw]
    clear hw
    by_cases h20 : s.adv.length = 20
    · have HG := hid (give_many (a := t) HW.out h20)
      have h20' : (20 : Int) ≤ s.adv.length := by omega
      obtain ⟨C0, C1, C2⟩ := dob_cells G1.box
      obtain ⟨R0, R1, R2⟩ := dob_cells G1.res
      obtain ⟨E0, E1, E2⟩ := dob_free G1.res
      clear h20
      go_wp2
      refine bodyPost_ret (v := .tuple #[.agg #[.int .i64 0, .slice none 0 0, .slice none 0 0], .int .i64 5]) (by simp [results, Try.results34, go_sem, R0, R1, R2]; try rfl) rfl (bad_ret HG.out ?_)
      repeat refine Below.setCell ?_ (by simp <;> omega) _
      exact G1.bel
    have h20' : (s.adv.length : Int) < 20 := by omega
    obtain ⟨C0, C1, C2⟩ := dob_cells G1.box
    obtain ⟨T0, T1, T2, T3⟩ := aob_cells G1.tb
    obtain ⟨R0, R1, R2⟩ := dob_cells G1.res
    obtain ⟨E0, E1, E2⟩ := dob_free G1.res
    rcases rfits_ways t s.used.length with ⟨f1, H⟩ | ⟨f1, f2, H⟩ | ⟨f1, f2, f3, H⟩ | ⟨f1, f2, f3, f4, H⟩ | ⟨f1, f2, f3, f4, f5, H⟩ | ⟨f1, f2, f3, f4, f5, f6, H⟩ | ⟨f1, f2, f3, f4, f5, f6, f7, H⟩ | ⟨f1, f2, f3, f4, f5, f6, f7, f8, H⟩ | ⟨f1, f2, f3, f4, f5, f6, f7, f8, H⟩
    · have HG := hid (give_range HW.out h20 H.out)
      clear H
      go_wp2
      refine bodyPost_ret (v := .tuple #[.agg #[.int .i64 0, .slice none 0 0, .slice none 0 0], .int .i64 3]) (by simp [results, Try.results34, go_sem, R0, R1, R2]; try rfl) rfl (bad_ret HG.out ?_)
      repeat refine Below.setCell ?_ (by simp <;> omega) _
      exact G1.bel
    · have HG := hid (give_range HW.out h20 H.out)
      clear H
      go_wp2
      refine bodyPost_ret (v := .tuple #[.agg #[.int .i64 0, .slice none 0 0, .slice none 0 0], .int .i64 3]) (by simp [results, Try.results34, go_sem, R0, R1, R2]; try rfl) rfl (bad_ret HG.out ?_)
      repeat refine Below.setCell ?_ (by simp <;> omega) _
      exact G1.bel
    · have HG := hid (give_range HW.out h20 H.out)
      clear H
      go_wp2
      refine bodyPost_ret (v := .tuple #[.agg #[.int .i64 0, .slice none 0 0, .slice none 0 0], .int .i64 3]) (by simp [results, Try.results34, go_sem, R0, R1, R2]; try rfl) rfl (bad_ret HG.out ?_)
      repeat refine Below.setCell ?_ (by simp <;> omega) _
      exact G1.bel
    · have HG := hid (give_range HW.out h20 H.out)
      clear H
      go_wp2
      refine bodyPost_ret (v := .tuple #[.agg #[.int .i64 0, .slice none 0 0, .slice none 0 0], .int .i64 3]) (by simp [results, Try.results34, go_sem, R0, R1, R2]; try rfl) rfl (bad_ret HG.out ?_)
      repeat refine Below.setCell ?_ (by simp <;> omega) _
      exact G1.bel
    · have HG := hid (give_range HW.out h20 H.out)
      clear H
      go_wp2
      refine bodyPost_ret (v := .tuple #[.agg #[.int .i64 0, .slice none 0 0, .slice none 0 0], .int .i64 3]) (by simp [results, Try.results34, go_sem, R0, R1, R2]; try rfl) rfl (bad_ret HG.out ?_)
      repeat refine Below.setCell ?_ (by simp <;> omega) _
      exact G1.bel
    · have HG := hid (give_range HW.out h20 H.out)
      clear H
      go_wp2_with (go_at_call 50; refine (sum_any _ _).mono ?_; rw [f6.out]; rintro e w1 ⟨rfl, rfl⟩)
      refine bodyPost_ret (v := .tuple #[.agg #[.int .i64 0, .slice none 0 0, .slice none 0 0], .int .i64 3]) (by simp [results, Try.results34, go_sem, R0, R1, R2]; try rfl) rfl (bad_ret HG.out ?_)
      repeat refine Below.setCell ?_ (by simp <;> omega) _
      exact G1.bel
    · have HG := hid (give_range HW.out h20 H.out)
      clear H
      go_wp2_with (go_at_call 50; refine (sum_any _ _).mono ?_; rw [f6.out]; rintro e w1 ⟨rfl, rfl⟩)
      refine bodyPost_ret (v := .tuple #[.agg #[.int .i64 0, .slice none 0 0, .slice none 0 0], .int .i64 3]) (by simp [results, Try.results34, go_sem, R0, R1, R2]; try rfl) rfl (bad_ret HG.out ?_)
      repeat refine Below.setCell ?_ (by simp <;> omega) _
      exact G1.bel
    · have HG := hid (give_range HW.out h20 H.out)
      clear H
      go_wp2_with (go_at_call 50; refine (sum_any _ _).mono ?_; rw [f6.out]; rintro e w1 ⟨rfl, rfl⟩)
      refine bodyPost_ret (v := .tuple #[.agg #[.int .i64 0, .slice none 0 0, .slice none 0 0], .int .i64 3]) (by simp [results, Try.results34, go_sem, R0, R1, R2]; try rfl) rfl (bad_ret HG.out ?_)
      repeat refine Below.setCell ?_ (by simp <;> omega) _
      exact G1.bel
    · exact absurd ⟨HW.out, h20, H.out⟩ hbad.out
end Go.Proofs.Ytmhcdiimamadfab.St
