/- The walk of the law StandAnew. -/
import Derived.Test.YtmhcdiimamadfabSte
import Derived.Test.YtmhcdiimamadfabStf
import Derived.Test.YtmhcdiimamadfabStj
namespace Go.Proofs.Ytmhcdiimamadfab.St
open Go.RowKit Go.Proofs.Ytmhcdiimamadfab.Gn

/-- What a law holds on to: the stand's box. -/
structure Bo (w : World) (n : Int) (v1 v2 : Value) (W : World) : Prop where
  bel : Below w.heap.size w W
  box : W.heap[w.heap.size]? = some (dob n v1 v2)
theorem Bo.on {w W W' : World} {n : Int} {v1 v2 : Value} (h : Bo w n v1 v2 W) (hb : Below W.heap.size W W') : Bo w n v1 v2 W' :=
  ⟨h.bel.trans (hb.mono h.bel.size), (hb.block _ (lt_of_block h.box)).trans h.box⟩
theorem bo_new (w : World) (n : Int) (v1 v2 : Value) : Bo w n v1 v2 (w.alloc (dob n v1 v2)) := ⟨below_alloc _ _, heap_alloc_at _ _ _ rfl⟩

set_option maxHeartbeats 4000000 in
theorem anew_any (s : Sd) (v1 v2 : Value) (w : World) (h1 : At kI w v1 s.used) (h2 : At kA w v2 s.adv) :
    Calls Try.prog 11 #[dv s.cap v1 v2] w fun e w' => e = .returned (.bool true) ∧ Below w.heap.size w w' := by
  have O0 := bo_new w s.cap v1 v2
  have hh1 := h1
  have hh2 := h2
  obtain ⟨a1, c1, rfl, hl1⟩ := h1
  obtain ⟨a2, c2, rfl, hl2⟩ := h2
  unfold dob at O0
  unfold dv
  go_enter Try.func11, Try.ntmps11
  go_upto_region 1 with fail
  generalize w.alloc (.cells #[.int .i64 s.cap, .slice a1 s.used.length c1, .slice a2 s.adv.length c2] 61) = W0 at *
  go_wp2_with fail
  refine (alive_any _).mono ?_
  rintro e w1 ⟨rfl, hb1⟩
  have O1 := O0.on hb1
  clear O0 hb1
  obtain ⟨C0, C1, C2⟩ := dob_cells O1.box
  go_wp2_with fail
  refine (clear_any s _ _ _ (hh1.below O1.bel) (hh2.below O1.bel)).mono ?_
  by_cases hw : wrongD s = 0
  case neg =>
    rw [clear_bad hw]
    have hne : (wrongD s != 0) = true := by simpa using hw
    clear hw
    generalize wrongD s = r at *
    rintro e w2 ⟨x1, x2, x3, rfl, r1, r2, r3, hb2⟩
    have O2 := O1.on hb2
    clear C0 C1 C2 O1 hb2
    obtain ⟨b1, d1, rfl, -, -⟩ := row_at r1
    obtain ⟨b2, d2, rfl, -, -⟩ := row_at r2
    obtain ⟨b3, d3, rfl, -, -⟩ := row_at r3
    dsimp only [dv, zD, List.length_nil] at r1 r2 r3 ⊢
    have bb := O2.bel
    go_wp2
    go_ret
    exact ⟨rfl, bb.alloc bb.size _⟩
  case pos =>
    have R := right_of hw
    have HN := hid (new_again R)
    rw [clear_ok hw]
    clear hw
    rintro e w2 ⟨x1, x2, x3, rfl, r1, r2, r3, hb2⟩
    have O2 := O1.on hb2
    clear C0 C1 C2 O1 hb2
    obtain ⟨b1, d1, rfl, -, -⟩ := row_at r1
    obtain ⟨b2, d2, rfl, -, -⟩ := row_at r2
    obtain ⟨b3, d3, rfl, -, -⟩ := row_at r3
    have k1 := Row.at r1
    have k2 := Row.at r2
    dsimp only [dv] at k1 k2 ⊢
    obtain ⟨U, hU⟩ : ∃ U, Hid (U = List.replicate s.used.length (0 : Int)) := ⟨_, rfl⟩
    rw [← hU.out] at k1 HN ⊢
    clear r1 r2 r3
    have O3 := O2.on (below_alloc w2 (dob s.cap (.slice b1 U.length d1) (.slice b2 ([] : List Ad).length d2)))
    have k3 := k1.below (below_alloc w2 (dob s.cap (.slice b1 U.length d1) (.slice b2 ([] : List Ad).length d2)))
    have k4 := k2.below (below_alloc w2 (dob s.cap (.slice b1 U.length d1) (.slice b2 ([] : List Ad).length d2)))
    have hE : (w2.alloc (dob s.cap (.slice b1 U.length d1) (.slice b2 ([] : List Ad).length d2))).heap[w2.heap.size]? = some (dob s.cap (.slice b1 U.length d1) (.slice b2 ([] : List Ad).length d2)) := heap_alloc_at _ _ _ rfl
    unfold dob at O3 k3 k4 hE
    dsimp only [List.length_nil] at O3 k3 k4 hE ⊢
    clear O2 k1 k2
    go_upto_region 4 with fail
    generalize w2.alloc (.cells #[.int .i64 s.cap, .slice b1 U.length d1, .slice b2 0 d2] 61) = W3 at *
    obtain ⟨C0, C1, C2⟩ := dob_cells O3.box
    generalize w2.heap.size = E at *
    go_wp2_with fail
    refine (new_any _ _ _).mono ?_
    rw [HN.out]
    rintro e w4 ⟨y1, y2, rfl, r1, r2, hb4⟩
    have O4 := O3.on hb4
    have k5 := k3.below hb4
    have k6 := k4.below hb4
    have hE4 := (hb4.block _ (lt_of_block hE)).trans hE
    clear C0 C1 C2 O3 hb4 k3 k4 hE
    obtain ⟨g1, i1, rfl, -, -⟩ := row_at r1
    obtain ⟨g2, i2, rfl, -, -⟩ := row_at r2
    have k7 := Row.at r1
    have k8 := Row.at r2
    dsimp only [dv, List.length_nil] at k7 k8 ⊢
    clear r1 r2
    have O5 := O4.on (below_alloc w4 (dob s.cap (.slice g1 U.length i1) (.slice g2 0 i2)))
    have k9 := k5.below (below_alloc w4 (dob s.cap (.slice g1 U.length i1) (.slice g2 0 i2)))
    have k10 := k6.below (below_alloc w4 (dob s.cap (.slice g1 U.length i1) (.slice g2 0 i2)))
    have k11 := k7.below (below_alloc w4 (dob s.cap (.slice g1 U.length i1) (.slice g2 0 i2)))
    have k12 := k8.below (below_alloc w4 (dob s.cap (.slice g1 U.length i1) (.slice g2 0 i2)))
    have hE5 := (Below.heap_alloc w4 (dob s.cap (.slice g1 U.length i1) (.slice g2 0 i2)) _ (lt_of_block hE4)).trans hE4
    have hF : (w4.alloc (dob s.cap (.slice g1 U.length i1) (.slice g2 0 i2))).heap[w4.heap.size]? = some (dob s.cap (.slice g1 U.length i1) (.slice g2 0 i2)) := heap_alloc_at _ _ _ rfl
    unfold dob at O5 k9 k10 k11 k12 hE5 hF
    clear O4 k5 k6 k7 k8 hE4
    go_upto_region 7 with fail
    generalize w4.alloc (.cells #[.int .i64 s.cap, .slice g1 U.length i1, .slice g2 0 i2] 61) = W5 at *
    generalize w4.heap.size = F at *
    obtain ⟨D0, D1, D2⟩ := dob_cells hE5
    obtain ⟨F0, F1, F2⟩ := dob_cells hF
    go_wp2_with fail
    refine (same_any s.cap _ _ _ _ U [] _ k9 k10 k11 k12).mono ?_
    rintro e w6 ⟨rfl, hb6⟩
    have O6 := O5.on hb6
    clear D0 D1 D2 F0 F1 F2 hE5 hF k9 k10 k11 k12 hb6 O5
    obtain ⟨C0, C1, C2⟩ := dob_cells O6.box
    have bb := O6.bel
    go_wp2
    go_ret
    exact ⟨rfl, bb⟩
end Go.Proofs.Ytmhcdiimamadfab.St
