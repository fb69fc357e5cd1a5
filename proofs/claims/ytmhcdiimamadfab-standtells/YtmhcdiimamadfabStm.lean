/- The walk of the law StandTells. -/
import Derived.Test.YtmhcdiimamadfabSte
import Derived.Test.YtmhcdiimamadfabStf
import Derived.Test.YtmhcdiimamadfabSth
import Derived.Test.YtmhcdiimamadfabSti
namespace Go.Proofs.Ytmhcdiimamadfab.St
open Go.RowKit Go.Proofs.Ytmhcdiimamadfab.Gn

theorem refGive_any (s : Sd) (v1 v2 : Value) (t : Ad) (w : World) (h1 : At kI w v1 s.used) (h2 : At kA w v2 s.adv) :
    Calls Try.prog 34 #[dv s.cap v1 v2, av t] w (AnswersD w (giveD s t)) := by
  by_cases h : wrongD s = 0 ∧ s.adv.length ≠ 20 ∧ Fits t s.used.length
  · exact refGive_good s v1 v2 t w h1 h2 h.1 h.2.1 h.2.2
  · exact refGive_bad s v1 v2 t w h1 h2 h

/-- What the law holds on to: the stand's box, the advice's, and the two answers. -/
structure Tl (w : World) (n : Int) (v1 v2 : Value) (t : Ad) (D : Nat) (n1 : Int) (d1 d2 : Value) (E : Nat) (n2 : Int) (e1 e2 : Value) (W : World) : Prop where
  bel : Below w.heap.size w W
  box : W.heap[w.heap.size]? = some (dob n v1 v2)
  tb : W.heap[w.heap.size + 1]? = some (aob t)
  dd : W.heap[D]? = some (dob n1 d1 d2)
  ee : W.heap[E]? = some (dob n2 e1 e2)
  l1 : w.heap.size + 1 < D
  l2 : D < E

section
variable {w W W' : World} {n : Int} {v1 v2 : Value} {t : Ad} {D : Nat} {n1 : Int} {d1 d2 : Value} {E : Nat} {n2 : Int} {e1 e2 : Value}
theorem Tl.lt (h : Tl w n v1 v2 t D n1 d1 d2 E n2 e1 e2 W) : E < W.heap.size := lt_of_block h.ee
theorem Tl.on (h : Tl w n v1 v2 t D n1 d1 d2 E n2 e1 e2 W) (hb : Below W.heap.size W W') : Tl w n v1 v2 t D n1 d1 d2 E n2 e1 e2 W' :=
  ⟨h.bel.trans (hb.mono h.bel.size), (hb.block _ (lt_of_block h.box)).trans h.box, (hb.block _ (lt_of_block h.tb)).trans h.tb, (hb.block _ (lt_of_block h.dd)).trans h.dd, (hb.block _ (lt_of_block h.ee)).trans h.ee, h.l1, h.l2⟩
theorem Tl.same (h : Tl w n v1 v2 t D n1 d1 d2 E n2 e1 e2 W) (q1 : W'.heap = W.heap) (q2 : W'.os = W.os) (q3 : W'.tape = W.tape) (q4 : W'.output = W.output) : Tl w n v1 v2 t D n1 d1 d2 E n2 e1 e2 W' :=
  h.on ⟨q2, q3, q4, by rw [q1]; exact Nat.le_refl _, fun k _ => by rw [q1]⟩
theorem Tl.call {w1 : World} (hb : Below W'.heap.size W' w1) (h : Tl w n v1 v2 t D n1 d1 d2 E n2 e1 e2 W) (q1 : W'.heap = W.heap) (q2 : W'.os = W.os) (q3 : W'.tape = W.tape) (q4 : W'.output = W.output) : Tl w n v1 v2 t D n1 d1 d2 E n2 e1 e2 w1 := (h.same q1 q2 q3 q4).on hb
theorem Tl.held (h : Tl w n v1 v2 t D n1 d1 d2 E n2 e1 e2 W) :
    W.cell? ⟨w.heap.size, 0, none⟩ = some (.int .i64 n) ∧ W.cell? ⟨w.heap.size, 1, none⟩ = some v1 ∧ W.cell? ⟨w.heap.size, 2, none⟩ = some v2 ∧
    W.cell? ⟨D, 0, none⟩ = some (.int .i64 n1) ∧ W.cell? ⟨D, 1, none⟩ = some d1 ∧ W.cell? ⟨D, 2, none⟩ = some d2 ∧
    W.cell? ⟨E, 0, none⟩ = some (.int .i64 n2) ∧ W.cell? ⟨E, 1, none⟩ = some e1 ∧ W.cell? ⟨E, 2, none⟩ = some e2 := by
  obtain ⟨x0, x1, x2⟩ := dob_cells h.box
  obtain ⟨y0, y1, y2⟩ := dob_cells h.dd
  obtain ⟨z0, z1, z2⟩ := dob_cells h.ee
  exact ⟨x0, x1, x2, y0, y1, y2, z0, z1, z2⟩
theorem Tl.held6 (h : Tl w n v1 v2 t D n1 d1 d2 E n2 e1 e2 W) :
    W.cell? ⟨w.heap.size, 0, none⟩ = some (.int .i64 n) ∧ W.cell? ⟨w.heap.size, 1, none⟩ = some v1 ∧ W.cell? ⟨w.heap.size, 2, none⟩ = some v2 ∧
    W.cell? ⟨D, 0, none⟩ = some (.int .i64 n1) ∧ W.cell? ⟨D, 1, none⟩ = some d1 ∧ W.cell? ⟨D, 2, none⟩ = some d2 := by
  obtain ⟨x0, x1, x2⟩ := dob_cells h.box
  obtain ⟨y0, y1, y2⟩ := dob_cells h.dd
  exact ⟨x0, x1, x2, y0, y1, y2⟩
theorem Tl.putD (h : Tl w n v1 v2 t D n1 d1 d2 E n2 e1 e2 W) (m : Int) (u1 u2 : Value) : Tl w n v1 v2 t D m u1 u2 E n2 e1 e2 (put3 W D m u1 u2) := by
  have := h.l1
  have := h.l2
  exact ⟨put3_below h.bel _ (by omega) _ _ _, (put3_other _ _ _ _ _ _ (by omega)).trans h.box, (put3_other _ _ _ _ _ _ (by omega)).trans h.tb, put3_same h.dd _ _ _, (put3_other _ _ _ _ _ _ (by omega)).trans h.ee, h.l1, h.l2⟩
theorem Tl.putE (h : Tl w n v1 v2 t D n1 d1 d2 E n2 e1 e2 W) (m : Int) (u1 u2 : Value) : Tl w n v1 v2 t D n1 d1 d2 E m u1 u2 (put3 W E m u1 u2) := by
  have := h.l1
  have := h.l2
  exact ⟨put3_below h.bel _ (by omega) _ _ _, (put3_other _ _ _ _ _ _ (by omega)).trans h.box, (put3_other _ _ _ _ _ _ (by omega)).trans h.tb, (put3_other _ _ _ _ _ _ (by omega)).trans h.dd, put3_same h.ee _ _ _, h.l1, h.l2⟩
end
theorem At.same {α : Type} {K : Kind α} {W W' : World} {v : Value} {L : List α} (h : At K W v L) (q1 : W'.heap = W.heap) : At K W' v L := by
  obtain ⟨a, cap, rfl, hl⟩ := h
  exact ⟨a, cap, rfl, hl.keep (by rw [q1]; exact Nat.le_refl _) fun _ _ _ => by rw [q1]⟩
theorem At.call {α : Type} {K : Kind α} {W W' w1 : World} {v : Value} {L : List α} (hb : Below W'.heap.size W' w1) (h : At K W v L) (q1 : W'.heap = W.heap) : At K w1 v L := (h.same q1).below hb
theorem row_ne {α : Type} {K : Kind α} {e : TypeId} {W : World} {base b : Nat} {v : Value} {L : List α} (h : Row K e W base v L) (hb : b < base) : ∀ k, v.ownBlock = some k → k ≠ b := fun k hk => by have := (h.block_lt k hk).1; omega

set_option maxRecDepth 10000 in
set_option maxHeartbeats 8000000 in
theorem tells_any (limit cards : Int) (s : Sd) (v1 v2 : Value) (t : Ad) (w : World) (h1 : At kI w v1 s.used) (h2 : At kA w v2 s.adv) :
    Calls Try.prog 9 #[.int .i64 limit, .int .i64 cards, dv s.cap v1 v2, av t] w fun e w' => e = .returned (.bool true) ∧ Below w.heap.size w w' := by
  have hb0 : Below w.heap.size w ((w.alloc (dob s.cap v1 v2)).alloc (aob t)) := (below_alloc _ _).alloc (by simp) _
  have hB0 : ((w.alloc (dob s.cap v1 v2)).alloc (aob t)).heap[w.heap.size]? = some (dob s.cap v1 v2) := by rw [Below.heap_alloc _ _ _ (by simp), heap_alloc_at _ _ _ rfl]
  have hT0 : ((w.alloc (dob s.cap v1 v2)).alloc (aob t)).heap[w.heap.size + 1]? = some (aob t) := heap_alloc_at _ _ _ (by simp)
  have hh1 := h1
  have hh2 := h2
  obtain ⟨a1, c1, rfl, hl1⟩ := h1
  obtain ⟨a2, c2, rfl, hl2⟩ := h2
  unfold dob aob at hb0 hB0 hT0
  unfold dv av
  go_enter Try.func9, Try.ntmps9
  go_upto_region 1 with fail
  generalize (w.alloc (.cells #[.int .i64 s.cap, .slice a1 s.used.length c1, .slice a2 s.adv.length c2] 61)).alloc (.cells #[.int .i64 t.c, .int .i64 t.s, .int .i64 t.m, .int .i64 t.t] 63) = W0 at *
  go_wp2_with fail
  refine (new_any limit cards _).mono ?_
  obtain ⟨P, r, hP⟩ : ∃ P r, Hid (newD limit cards = (P, r)) := ⟨_, _, rfl⟩
  rw [hP.out]
  rintro e w1 ⟨x1, x2, rfl, r1, r2, hb1⟩
  obtain ⟨b1, d1, rfl, -, -⟩ := row_at r1
  obtain ⟨b2, d2, rfl, -, -⟩ := row_at r2
  dsimp only [dv] at r1 r2 ⊢
  have hbD := hb1.alloc hb1.size (dob P.cap (.slice b1 P.used.length d1) (.slice b2 P.adv.length d2))
  have k1 := (Row.at r1).below (below_alloc w1 (dob P.cap (.slice b1 P.used.length d1) (.slice b2 P.adv.length d2)))
  have k2 := (Row.at r2).below (below_alloc w1 (dob P.cap (.slice b1 P.used.length d1) (.slice b2 P.adv.length d2)))
  have hD : (w1.alloc (dob P.cap (.slice b1 P.used.length d1) (.slice b2 P.adv.length d2))).heap[w1.heap.size]? = some (dob P.cap (.slice b1 P.used.length d1) (.slice b2 P.adv.length d2)) := heap_alloc_at _ _ _ rfl
  have hlD : w.heap.size + 1 < w1.heap.size := Nat.lt_of_lt_of_le (lt_of_block hT0) hb1.size
  unfold dob at hbD k1 k2 hD
  clear r1 r2 hb1
  go_upto_region 2 with fail
  generalize w1.alloc (.cells #[.int .i64 P.cap, .slice b1 P.used.length d1, .slice b2 P.adv.length d2] 61) = W1 at *
  generalize w1.heap.size = D at *
  go_wp2_with fail
  refine (refNew_any limit cards _).mono ?_
  rw [hP.out]
  rintro e w2 ⟨x1, x2, rfl, r1, r2, hb2⟩
  obtain ⟨b3, d3, rfl, -, -⟩ := row_at r1
  obtain ⟨b4, d4, rfl, -, -⟩ := row_at r2
  dsimp only [dv] at r1 r2 ⊢
  have hbE := hb2.alloc hb2.size (dob P.cap (.slice b3 P.used.length d3) (.slice b4 P.adv.length d4))
  have k3 := (Row.at r1).below (below_alloc w2 (dob P.cap (.slice b3 P.used.length d3) (.slice b4 P.adv.length d4)))
  have k4 := (Row.at r2).below (below_alloc w2 (dob P.cap (.slice b3 P.used.length d3) (.slice b4 P.adv.length d4)))
  have k1 := k1.below hbE
  have k2 := k2.below hbE
  have L2 : Tl w s.cap (.slice a1 s.used.length c1) (.slice a2 s.adv.length c2) t D P.cap (.slice b1 P.used.length d1) (.slice b2 P.adv.length d2) w2.heap.size P.cap (.slice b3 P.used.length d3) (.slice b4 P.adv.length d4) (w2.alloc (dob P.cap (.slice b3 P.used.length d3) (.slice b4 P.adv.length d4))) := by
    have hb01 := hbD.trans (hbE.mono hbD.size)
    exact ⟨hb0.trans (hb01.mono hb0.size), (hb01.block _ (lt_of_block hB0)).trans hB0, (hb01.block _ (lt_of_block hT0)).trans hT0, (hbE.block _ (lt_of_block hD)).trans hD, heap_alloc_at _ _ _ rfl, hlD, Nat.lt_of_lt_of_le (lt_of_block hD) hb2.size⟩
  unfold dob at k1 k2 k3 k4 L2
  clear r1 r2 hb2 hbE hbD hD hb0 hB0 hT0 hlD
  go_upto_region 3 with fail
  generalize w2.alloc (.cells #[.int .i64 P.cap, .slice b3 P.used.length d3, .slice b4 P.adv.length d4] 61) = W2 at *
  generalize w2.heap.size = E at *
  go_cut [41] from 26 to 42 (fun v wc => v = .bool false ∧ Tl w s.cap (.slice a1 s.used.length c1) (.slice a2 s.adv.length c2) t D P.cap (.slice b1 P.used.length d1) (.slice b2 P.adv.length d2) E P.cap (.slice b3 P.used.length d3) (.slice b4 P.adv.length d4) wc)
  case first =>
    have hI := L2
    clear L2
    generalize hr : wrongD s = y
    have hr := hid hr
    go_region_held3 (fun X => X.cell? ⟨w.heap.size, 0, none⟩ = some (.int .i64 s.cap) ∧ X.cell? ⟨w.heap.size, 1, none⟩ = some (.slice a1 s.used.length c1) ∧ X.cell? ⟨w.heap.size, 2, none⟩ = some (.slice a2 s.adv.length c2) ∧
        X.cell? ⟨D, 0, none⟩ = some (.int .i64 P.cap) ∧ X.cell? ⟨D, 1, none⟩ = some (.slice b1 P.used.length d1) ∧ X.cell? ⟨D, 2, none⟩ = some (.slice b2 P.adv.length d2) ∧
        X.cell? ⟨E, 0, none⟩ = some (.int .i64 P.cap) ∧ X.cell? ⟨E, 1, none⟩ = some (.slice b3 P.used.length d3) ∧ X.cell? ⟨E, 2, none⟩ = some (.slice b4 P.adv.length d4))
      (exact (hI.same rfl rfl rfl rfl).held)
      (first
        | (go_at_call 30; refine (same_any P.cap _ _ _ _ P.used P.adv _ ?_ ?_ ?_ ?_).mono ?_; exact At.same k1 rfl; exact At.same k2 rfl; exact At.same k3 rfl; exact At.same k4 rfl; rintro e w3 ⟨rfl, hb3⟩; have hI := Tl.call hb3 hI rfl rfl rfl rfl; clear hb3)
        | (go_at_call 31; refine (wrong_any s _ _ _ ?_ ?_).mono ?_; exact At.same (hh1.below hI.bel) rfl; exact At.same (hh2.below hI.bel) rfl; rw [hr.out]; rintro e w3 ⟨rfl, hb3⟩; have hI := Tl.call hb3 hI rfl rfl rfl rfl; clear hb3)
        | (go_at_call 32; refine (refWrong_any s _ _ _ ?_ ?_).mono ?_; exact At.same (hh1.below hI.bel) rfl; exact At.same (hh2.below hI.bel) rfl; rw [hr.out]; rintro e w3 ⟨rfl, hb3⟩; have hI := Tl.call hb3 hI rfl rfl rfl rfl; clear hb3))
    all_goals (go_wp2_with fail; go_meet; exact ⟨rfl, hI.same rfl rfl rfl rfl⟩)
  case rest =>
    obtain ⟨rfl, L3⟩ := hcut
    generalize wc = W3 at *
    clear L2 k1 k2 k3 k4
    obtain ⟨C0, C1, C2⟩ := dob_cells L3.box
    obtain ⟨T0, T1, T2, T3⟩ := aob_cells L3.tb
    go_wp2_with fail
    refine (give_any s _ _ t _ (hh1.below L3.bel) (hh2.below L3.bel)).mono ?_
    obtain ⟨G, q, hG⟩ : ∃ G q, Hid (giveD s t = (G, q)) := ⟨_, _, rfl⟩
    rw [hG.out]
    rintro e w4 ⟨x1, x2, rfl, r1, r2, hb4⟩
    have L4 := L3.on hb4
    have r1 := r1.mono (base' := E + 1) L3.lt
    have r2 := r2.mono (base' := E + 1) L3.lt
    have l1 := L3.l1
    have l2 := L3.l2
    clear C0 C1 C2 T0 T1 T2 T3 hb4 L3
    obtain ⟨g1, i1, rfl, -, -⟩ := row_at r1
    obtain ⟨g2, i2, rfl, -, -⟩ := row_at r2
    dsimp only [dv] at r1 r2 ⊢
    obtain ⟨D0, D1, D2⟩ := dob_cells L4.dd
    obtain ⟨F0, F1, F2⟩ := dob_free L4.dd
    go_upto_region 6 with fail
    have L5 := L4.putD G.cap (.slice g1 G.used.length i1) (.slice g2 G.adv.length i2)
    have r3 := put3_row r1 D (row_ne r1 (by omega)) G.cap (.slice g1 G.used.length i1) (.slice g2 G.adv.length i2)
    have r4 := put3_row r2 D (row_ne r2 (by omega)) G.cap (.slice g1 G.used.length i1) (.slice g2 G.adv.length i2)
    unfold put3 at L5 r3 r4
    clear D0 D1 D2 F0 F1 F2 L4 r1 r2
    generalize ((w4.setCell ⟨D, 0, none⟩ (.int .i64 G.cap)).setCell ⟨D, 1, none⟩ (.slice g1 G.used.length i1)).setCell ⟨D, 2, none⟩ (.slice g2 G.adv.length i2) = W5 at *
    obtain ⟨C0, C1, C2⟩ := dob_cells L5.box
    obtain ⟨T0, T1, T2, T3⟩ := aob_cells L5.tb
    go_wp2_with fail
    refine (refGive_any s _ _ t _ (hh1.below L5.bel) (hh2.below L5.bel)).mono ?_
    rw [hG.out]
    rintro e w6 ⟨x1, x2, rfl, r1, r2, hb6⟩
    have L6 := L5.on hb6
    have r1 := r1.mono (base' := E + 1) L5.lt
    have r2 := r2.mono (base' := E + 1) L5.lt
    have r3 := r3.below hb6
    have r4 := r4.below hb6
    clear C0 C1 C2 T0 T1 T2 T3 hb6 L5
    obtain ⟨g3, i3, rfl, -, -⟩ := row_at r1
    obtain ⟨g4, i4, rfl, -, -⟩ := row_at r2
    dsimp only [dv] at r1 r2 ⊢
    obtain ⟨D0, D1, D2⟩ := dob_cells L6.ee
    obtain ⟨F0, F1, F2⟩ := dob_free L6.ee
    go_upto_region 7 with fail
    have L7 := L6.putE G.cap (.slice g3 G.used.length i3) (.slice g4 G.adv.length i4)
    have m1 := Row.at (put3_row r1 E (row_ne r1 (by omega)) G.cap (.slice g3 G.used.length i3) (.slice g4 G.adv.length i4))
    have m2 := Row.at (put3_row r2 E (row_ne r2 (by omega)) G.cap (.slice g3 G.used.length i3) (.slice g4 G.adv.length i4))
    have m3 := Row.at (put3_row r3 E (row_ne r3 (by omega)) G.cap (.slice g3 G.used.length i3) (.slice g4 G.adv.length i4))
    have m4 := Row.at (put3_row r4 E (row_ne r4 (by omega)) G.cap (.slice g3 G.used.length i3) (.slice g4 G.adv.length i4))
    unfold put3 at L7 m1 m2 m3 m4
    clear D0 D1 D2 F0 F1 F2 L6 r1 r2 r3 r4
    generalize ((w6.setCell ⟨E, 0, none⟩ (.int .i64 G.cap)).setCell ⟨E, 1, none⟩ (.slice g3 G.used.length i3)).setCell ⟨E, 2, none⟩ (.slice g4 G.adv.length i4) = W7 at *
    obtain ⟨D0, D1, D2⟩ := dob_cells L7.dd
    obtain ⟨E0, E1, E2⟩ := dob_cells L7.ee
    go_wp2_with fail
    refine (same_any G.cap _ _ _ _ G.used G.adv _ m3 m4 m1 m2).mono ?_
    rintro e w8 ⟨rfl, hb8⟩
    have L8 := L7.on hb8
    clear D0 D1 D2 E0 E1 E2 hb8 L7 m1 m2 m3 m4 hG
    obtain ⟨C0, C1, C2⟩ := dob_cells L8.box
    go_upto_region 9 with fail
    go_wp2_with fail
    refine (clear_any s _ _ _ (hh1.below L8.bel) (hh2.below L8.bel)).mono ?_
    obtain ⟨Q, l, z, hQ⟩ : ∃ Q l z, Hid (clearD s = (Q, l, z)) := ⟨_, _, _, rfl⟩
    rw [hQ.out]
    rintro e w9 ⟨x1, x2, x3, rfl, r1, r2, r3, hb9⟩
    have L9 := L8.on hb9
    have r1 := r1.mono (base' := E + 1) L8.lt
    have r2 := r2.mono (base' := E + 1) L8.lt
    have r3 := r3.mono (base' := E + 1) L8.lt
    clear C0 C1 C2 hb9 L8
    obtain ⟨g5, i5, rfl, -, -⟩ := row_at r1
    obtain ⟨g6, i6, rfl, -, -⟩ := row_at r2
    obtain ⟨g7, i7, rfl, -, -⟩ := row_at r3
    dsimp only [dv] at r1 r2 r3 ⊢
    obtain ⟨D0, D1, D2⟩ := dob_cells L9.dd
    obtain ⟨F0, F1, F2⟩ := dob_free L9.dd
    go_upto_region 10 with fail
    have L10 := L9.putD Q.cap (.slice g5 Q.used.length i5) (.slice g6 Q.adv.length i6)
    have m1 := Row.at (put3_row r1 D (row_ne r1 (by omega)) Q.cap (.slice g5 Q.used.length i5) (.slice g6 Q.adv.length i6))
    have m2 := Row.at (put3_row r2 D (row_ne r2 (by omega)) Q.cap (.slice g5 Q.used.length i5) (.slice g6 Q.adv.length i6))
    have m3 := Row.at (put3_row r3 D (row_ne r3 (by omega)) Q.cap (.slice g5 Q.used.length i5) (.slice g6 Q.adv.length i6))
    unfold put3 at L10 m1 m2 m3
    clear D0 D1 D2 F0 F1 F2 L9 r1 r2 r3
    generalize ((w9.setCell ⟨D, 0, none⟩ (.int .i64 Q.cap)).setCell ⟨D, 1, none⟩ (.slice g5 Q.used.length i5)).setCell ⟨D, 2, none⟩ (.slice g6 Q.adv.length i6) = W10 at *
    obtain ⟨C0, C1, C2⟩ := dob_cells L10.box
    go_wp2_with fail
    refine (refWrong_any s _ _ _ (hh1.below L10.bel) (hh2.below L10.bel)).mono ?_
    by_cases hw : wrongD s = 0
    case neg =>
      have hq := hQ.out
      rw [clear_bad hw] at hq
      obtain ⟨rfl, hq2⟩ := Prod.mk.inj hq
      obtain ⟨rfl, rfl⟩ := Prod.mk.inj hq2
      have hne : (wrongD s != 0) = true := by simpa using hw
      obtain ⟨y, hy⟩ : ∃ y, Hid (wrongD s = y) := ⟨_, rfl⟩
      clear hw hQ hq hq2
      rw [hy.out] at hne ⊢
      dsimp only [zD, List.length_nil] at L10 m1 m2 m3 ⊢
      rintro e w11 ⟨rfl, hb11⟩
      have L11 := L10.on hb11
      have m4 := m1.below hb11
      have m5 := m2.below hb11
      clear C0 C1 C2 hb11 L10 m1 m2 m3
      obtain ⟨C0, C1, C2⟩ := dob_cells L11.box
      go_wp2_with fail
      refine (refWrong_any s _ _ _ (hh1.below L11.bel) (hh2.below L11.bel)).mono ?_
      rw [hy.out]
      rintro e w12 ⟨rfl, hb12⟩
      have L12 := L11.on hb12
      have m6 := m4.below hb12
      have m7 := m5.below hb12
      clear C0 C1 C2 hb12 L11 m4 m5
      obtain ⟨D0, D1, D2⟩ := dob_cells L12.dd
      go_wp2_with fail
      refine (same_any 0 _ _ _ _ [] [] _ m6 m7 (at_nil _ _) (at_nil _ _)).mono ?_
      rintro e w13 ⟨rfl, hb13⟩
      have bb := (L12.on hb13).bel
      go_wp2
      go_ret
      exact ⟨rfl, bb⟩
    case pos =>
      have R := right_of hw
      have u8 := R.u8
      have hq := hQ.out
      rw [clear_ok hw] at hq
      obtain ⟨rfl, hq2⟩ := Prod.mk.inj hq
      obtain ⟨rfl, rfl⟩ := Prod.mk.inj hq2
      rw [hw]
      clear hw hQ hq hq2
      dsimp only [List.length_nil] at L10 m1 m2 m3 ⊢
      simp only [List.length_replicate] at L10 m1 ⊢
      rintro e w11 ⟨rfl, hb11⟩
      have L11 := L10.on hb11
      have m4 := m1.below hb11
      have m5 := m2.below hb11
      have m6 := m3.below hb11
      clear C0 C1 C2 hb11 L10 m1 m2 m3
      go_upto_region 12 with fail
      have hmk := make_ints s.used.length (by omega)
      have hmA : At kI (w11.alloc (.cells (madeCells #[.int .i64 0] s.used.length) 3)) (.slice (some ⟨w11.heap.size, 0, none⟩) s.used.length s.used.length) (List.replicate s.used.length 0) := by
        have := Row.at ((ints_made w11 3 s.used.length).row 0 (Nat.zero_le _) (by simp [maxLen]; omega))
        simpa using this
      obtain ⟨U, hU⟩ : ∃ U, Hid (U = List.replicate s.used.length (0 : Int)) := ⟨_, rfl⟩
      rw [← hU.out] at hmA m4
      have hI := L11
      clear L11 hU
      have n4 := m4.below (below_alloc w11 (.cells (madeCells #[.int .i64 0] s.used.length) 3))
      have n5 := m5.below (below_alloc w11 (.cells (madeCells #[.int .i64 0] s.used.length) 3))
      have n6 := m6.below (below_alloc w11 (.cells (madeCells #[.int .i64 0] s.used.length) 3))
      have hI2 := hI.on (below_alloc w11 (.cells (madeCells #[.int .i64 0] s.used.length) 3))
      clear m4 m5 m6
      go_region_held3 (fun X => X.cell? ⟨w.heap.size, 0, none⟩ = some (.int .i64 s.cap) ∧ X.cell? ⟨w.heap.size, 1, none⟩ = some (.slice a1 s.used.length c1) ∧ X.cell? ⟨w.heap.size, 2, none⟩ = some (.slice a2 s.adv.length c2) ∧
          X.cell? ⟨D, 0, none⟩ = some (.int .i64 s.cap) ∧ X.cell? ⟨D, 1, none⟩ = some (.slice g5 s.used.length i5) ∧ X.cell? ⟨D, 2, none⟩ = some (.slice g6 0 i6))
        (first | exact (hI.same rfl rfl rfl rfl).held6 | exact (hI2.same rfl rfl rfl rfl).held6)
        (first
          | (go_at_call 30; have n0 := n4; clear n0; refine (same_any s.cap _ _ _ _ U [] _ ?_ ?_ ?_ ?_).mono ?_; exact At.same n4 rfl; exact At.same n5 rfl; exact At.same hmA rfl; exact at_nil _ _; rintro e w12 ⟨rfl, hb12⟩; have hI := Tl.call hb12 hI2 rfl rfl rfl rfl; have n7 := At.call hb12 n6 rfl; clear hb12 hmA n4 n5 n6 hI2)
          | (go_at_call 30; refine (same_any 0 _ _ _ _ [] s.adv _ ?_ ?_ ?_ ?_).mono ?_; exact at_nil _ _; exact At.same n7 rfl; exact at_nil _ _; exact At.same (hh2.below hI.bel) rfl; rintro e w13 ⟨rfl, hb13⟩; have hI := Tl.call hb13 hI rfl rfl rfl rfl; clear hb13))
      all_goals
        go_wp2
        go_ret
        exact ⟨rfl, (hI.same rfl rfl rfl rfl).bel⟩
end Go.Proofs.Ytmhcdiimamadfab.St
