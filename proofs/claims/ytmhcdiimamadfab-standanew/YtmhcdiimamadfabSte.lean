/- The walk of Clear. -/
import Derived.Test.YtmhcdiimamadfabStd
namespace Go.Proofs.Ytmhcdiimamadfab.St
open Go.RowKit Go.Proofs.Ytmhcdiimamadfab.Gn

def clearD (s : Sd) : Sd × List Ad × Int := if wrongD s ≠ 0 then (zD, [], wrongD s) else (⟨s.cap, List.replicate s.used.length 0, []⟩, s.adv, 0)
theorem clear_bad {s : Sd} (h : wrongD s ≠ 0) : clearD s = (zD, [], wrongD s) := by unfold clearD; rw [if_pos h]
theorem clear_ok {s : Sd} (h : wrongD s = 0) : clearD s = (⟨s.cap, List.replicate s.used.length 0, []⟩, s.adv, 0) := by unfold clearD; rw [if_neg (by simpa using h)]
theorem new_again {s : Sd} (r : Right s) : newD s.cap s.used.length = (⟨s.cap, List.replicate s.used.length 0, []⟩, 0) := by
  have := r.u8
  rw [new_ok (by omega) r.lim, Int.toNat_natCast]

/-- What Clear answers. -/
def AnswersC (w : World) (r : Sd × List Ad × Int) (e : Ending) (w' : World) : Prop :=
  ∃ v1 v2 v3, e = .returned (.tuple #[dv r.1.cap v1 v2, v3, .int .i64 r.2.2]) ∧ Row kI 3 w' w.heap.size v1 r.1.used ∧ Row kA 63 w' w.heap.size v2 r.1.adv ∧ Row kA 63 w' w.heap.size v3 r.2.1 ∧ Below w.heap.size w w'

theorem fieldStand (n : Int) (v1 : Value) (a : Option Addr) (l c : Nat) (w : World) : (Instr.field 61 (.agg #[.int .i64 n, v1, .slice a l c]) 2).run Try.prog w = .ok (.slice a l c) w := by kernel_rfl

set_option maxHeartbeats 4000000 in
theorem clear_any (s : Sd) (v1 v2 : Value) (w : World) (h1 : At kI w v1 s.used) (h2 : At kA w v2 s.adv) :
    Calls Try.prog 35 #[dv s.cap v1 v2] w (AnswersC w (clearD s)) := by
  have O0 := ow_new w s.cap v1 v2
  have hh1 := h1
  have hh2 := h2
  obtain ⟨a1, c1, rfl, hl1⟩ := h1
  obtain ⟨a2, c2, rfl, hl2⟩ := h2
  unfold dob at O0
  unfold dv
  go_enter Try.func35, Try.ntmps35
  go_upto_region 1 with fail
  generalize (w.alloc (.cells #[.int .i64 s.cap, .slice a1 s.used.length c1, .slice a2 s.adv.length c2] 61)).alloc (.cells #[.int .i64 0, .slice none 0 0, .slice none 0 0] 61) = W0 at *
  obtain ⟨C0, C1, C2⟩ := dob_cells O0.box
  go_wp2_with fail
  refine (wrong_any s _ _ _ (hh1.below O0.bel) (hh2.below O0.bel)).mono ?_
  rintro e w1 ⟨rfl, hb1⟩
  have O1 := O0.on hb1
  clear C0 C1 C2 O0 hb1
  by_cases hw : wrongD s = 0
  case neg =>
    have HG := hid (clear_bad hw)
    have hne : (wrongD s != 0) = true := by simpa using hw
    clear hw
    generalize wrongD s = r at *
    obtain ⟨R0, R1, R2⟩ := dob_cells O1.res
    obtain ⟨E0, E1, E2⟩ := dob_free O1.res
    go_wp2
    refine bodyPost_ret (v := .tuple #[.agg #[.int .i64 0, .slice none 0 0, .slice none 0 0], .slice none 0 0, .int .i64 r]) (by simp [results, Try.results35, go_sem, R0, R1, R2]; try rfl) rfl ?_
    rw [HG.out]
    refine ⟨_, _, _, rfl, .nil, .nil, .nil, ?_⟩
    repeat refine Below.setCell ?_ (by simp <;> omega) _
    exact O1.bel
  case pos =>
    have R := right_of hw
    have u8 := R.u8
    have a20 := R.a20
    have HG := hid (clear_ok hw)
    have HN := hid (new_again R)
    rw [hw]
    clear hw
    obtain ⟨C0, C1, C2⟩ := dob_cells O1.box
    go_wp2_with fail
    refine (new_any _ _ _).mono ?_
    rw [HN.out]
    rintro e w2 ⟨n1, n2, rfl, hr1, hr2, hb2⟩
    have O2 := O1.on hb2
    have hz1 := O1.lt
    have hr1 := hr1.mono (base' := w.heap.size + 2) (by omega)
    have hr2 := hr2.mono (base' := w.heap.size + 2) (by omega)
    clear C0 C1 C2 O1 hb2
    obtain ⟨b1, d1, rfl, -, -⟩ := row_at hr1
    obtain ⟨b2, d2, rfl, -, -⟩ := row_at hr2
    dsimp only [List.length_replicate, List.length_nil, dv] at hr1 hr2 ⊢
    have O3 := O2.on (below_alloc w2 (dob s.cap (.slice b1 s.used.length d1) (.slice b2 0 d2)))
    have hE : (w2.alloc (dob s.cap (.slice b1 s.used.length d1) (.slice b2 0 d2))).heap[w2.heap.size]? = some (dob s.cap (.slice b1 s.used.length d1) (.slice b2 0 d2)) := heap_alloc_at _ _ _ rfl
    have hr3 := hr1.alloc (dob s.cap (.slice b1 s.used.length d1) (.slice b2 0 d2))
    have hr4 := hr2.alloc (dob s.cap (.slice b1 s.used.length d1) (.slice b2 0 d2))
    have hz2 := O2.lt
    unfold dob at O3 hE hr3 hr4
    clear hr1 hr2
    go_upto_region 5 with fail
    generalize w2.alloc (.cells #[.int .i64 s.cap, .slice b1 s.used.length d1, .slice b2 0 d2] 61) = W3 at *
    clear O2
    generalize w2.heap.size = E at *
    obtain ⟨C0, C1, C2⟩ := dob_cells O3.box
    obtain ⟨D0, D1, D2⟩ := dob_cells hE
    have hfd := fieldStand
    go_region_with (go_at_call 53; refine (own_any s _ _ _ (hh1.below O3.bel.drew) (hh2.below O3.bel.drew) u8 a20).mono ?_
                    rintro e w4 ⟨u1, u2, rfl, -, -, hu2, -, hb4⟩
                    have hb4 : Below W3.heap.size W3 w4 := ((Below.refl _ _).drew).trans hb4
                    have O4 := O3.on hb4
                    have hE4 := (hb4.block _ (lt_of_block hE)).trans hE
                    have hr5 := hr3.below hb4
                    have hr6 := hr4.below hb4
                    have hu4 : Row kA 63 w4 (w.heap.size + 2) u2 s.adv := hu2.mono O3.lt
                    obtain ⟨x2, y2, rfl, -, -⟩ := row_at hu4
                    obtain ⟨R0, R1, R2⟩ := dob_cells O4.res
                    obtain ⟨E0, E1, E2⟩ := dob_free O4.res
                    obtain ⟨D0', D1', D2'⟩ := dob_cells hE4
                    unfold dv)
    all_goals
      go_wp2
      refine bodyPost_ret (v := .tuple #[.agg #[.int .i64 s.cap, .slice b1 s.used.length d1, .slice b2 0 d2], .slice x2 s.adv.length y2, .int .i64 0]) (by simp [results, Try.results35, go_sem, R0, R1, R2]; try rfl) rfl ?_
      rw [HG.out]
      refine ⟨_, _, _, rfl, ?_, ?_, ?_, ?_⟩
      · refine Row.mono (base := w.heap.size + 2) ?_ (by omega)
        repeat refine Row.set ?_ _ (by simp) _
        simpa using hr5
      · refine Row.mono (base := w.heap.size + 2) ?_ (by omega)
        repeat refine Row.set ?_ _ (by simp) _
        exact hr6
      · refine Row.mono (base := w.heap.size + 2) ?_ (by omega)
        repeat refine Row.set ?_ _ (by simp) _
        exact hu4
      · repeat refine Below.setCell ?_ (by simp <;> omega) _
        exact O4.bel

end Go.Proofs.Ytmhcdiimamadfab.St
