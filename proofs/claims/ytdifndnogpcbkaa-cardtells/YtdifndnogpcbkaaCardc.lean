/- The walk of Force. -/
import Derived.Test.YtdifndnogpcbkaaCardb
namespace Go.Proofs.Ytdifndnogpcbkaa
open Go.RowKit

/-- What comes: a card and an error's number. -/
def AnswersC (w : World) (r : Ca × Int) (e : Ending) (w' : World) : Prop :=
  ∃ a cap, e = .returned (.tuple #[cv r.1 a cap, .int .i64 r.2]) ∧ Lies w' a cap r.1.u ∧ Below w.heap.size w w'

/-- A list of a call's own, or the one that came in. -/
def Tied (S : Nat) (a0 : Option Addr) (u0 : List (Int × Int)) (a : Option Addr) (u : List (Int × Int)) : Prop := Past S a ∨ (a = a0 ∧ u = u0)

/-- What comes, and where its list lies. -/
def AnswersO (w : World) (a0 : Option Addr) (u0 : List (Int × Int)) (r : Ca × Int) (e : Ending) (w' : World) : Prop :=
  ∃ a cap, e = .returned (.tuple #[cv r.1 a cap, .int .i64 r.2]) ∧ Lies w' a cap r.1.u ∧ Tied w.heap.size a0 u0 a r.1.u ∧ Below w.heap.size w w'

theorem AnswersO.plain {w w' : World} {a0 : Option Addr} {u0 : List (Int × Int)} {r : Ca × Int} {e : Ending} (h : AnswersO w a0 u0 r e w') : AnswersC w r e w' := by
  obtain ⟨a, cap, h1, h2, -, h4⟩ := h
  exact ⟨a, cap, h1, h2, h4⟩

/-- The two blocks that a call begins with: the card that came in, and the card that will go out. -/
structure Two (w : World) (c : Ca) (a : Option Addr) (cap : Nat) (W : World) : Prop where
  bel : Below w.heap.size w W
  box : CardAt W w.heap.size c a cap
  res : W.heap[w.heap.size + 1]? = some (co zeroC none 0)

theorem Two.lt {w W : World} {c : Ca} {a : Option Addr} {cap : Nat} (h : Two w c a cap W) : w.heap.size + 1 < W.heap.size := lt_of_block h.res
theorem Two.on {w W W' : World} {c : Ca} {a : Option Addr} {cap : Nat} (h : Two w c a cap W) (hb : Below W.heap.size W W') : Two w c a cap W' :=
  ⟨h.bel.trans (hb.mono h.bel.size), h.box.on hb, (hb.block _ h.lt).trans h.res⟩
theorem two_new {w : World} {c : Ca} {a : Option Addr} {cap : Nat} (hL : Lies w a cap c.u) : Two w c a cap ((w.alloc (co c a cap)).alloc (co zeroC none 0)) :=
  ⟨(below_alloc _ _).trans ((below_alloc _ _).mono (by simp)), (card_new w c a cap hL).alloc _, heap_alloc_at _ _ _ (by simp)⟩

theorem co_put {W : World} {b : Nat} {c : Ca} {a : Option Addr} {cap : Nat} (h : W.heap[b]? = some (co c a cap)) (c' : Ca) (a' : Option Addr) (cap' : Nat) :
    ((((((W.setCell ⟨b, 0, none⟩ (.int .i64 c'.m)).setCell ⟨b, 1, none⟩ (.int .i64 c'.h)).setCell ⟨b, 2, none⟩ (.int .i64 c'.p.t)).setCell ⟨b, 3, none⟩ (.int .i64 c'.p.c)).setCell ⟨b, 4, none⟩ (.int .i64 c'.p.s)).setCell ⟨b, 5, none⟩ (.slice a' c'.u.length cap')).heap[b]? = some (co c' a' cap') := by
  unfold co at h ⊢
  have h1 := heap_setCell_same _ _ 0 _ _ (.int .i64 c'.m) h
  have h2 := heap_setCell_same _ _ 1 _ _ (.int .i64 c'.h) h1
  have h3 := heap_setCell_same _ _ 2 _ _ (.int .i64 c'.p.t) h2
  have h4 := heap_setCell_same _ _ 3 _ _ (.int .i64 c'.p.c) h3
  have h5 := heap_setCell_same _ _ 4 _ _ (.int .i64 c'.p.s) h4
  have h6 := heap_setCell_same _ _ 5 _ _ (.slice a' c'.u.length cap') h5
  exact h6

/-- The card that came in is written anew, with a list that is the call's own. -/
theorem Two.put {w W : World} {c : Ca} {a : Option Addr} {cap : Nat} (h : Two w c a cap W) (c' : Ca) (a' : Option Addr) (cap' : Nat) (hl : Lies W a' cap' c'.u) (hp : Past (w.heap.size + 2) a') :
    Two w c' a' cap' ((((((W.setCell ⟨w.heap.size, 0, none⟩ (.int .i64 c'.m)).setCell ⟨w.heap.size, 1, none⟩ (.int .i64 c'.h)).setCell ⟨w.heap.size, 2, none⟩ (.int .i64 c'.p.t)).setCell ⟨w.heap.size, 3, none⟩ (.int .i64 c'.p.c)).setCell ⟨w.heap.size, 4, none⟩ (.int .i64 c'.p.s)).setCell ⟨w.heap.size, 5, none⟩ (.slice a' c'.u.length cap')) := by
  have b1 := h.bel.setCell (Nat.le_refl (⟨w.heap.size, 0, none⟩ : Addr).block) (.int .i64 c'.m)
  have b2 := b1.setCell (Nat.le_refl (⟨w.heap.size, 1, none⟩ : Addr).block) (.int .i64 c'.h)
  have b3 := b2.setCell (Nat.le_refl (⟨w.heap.size, 2, none⟩ : Addr).block) (.int .i64 c'.p.t)
  have b4 := b3.setCell (Nat.le_refl (⟨w.heap.size, 3, none⟩ : Addr).block) (.int .i64 c'.p.c)
  have b5 := b4.setCell (Nat.le_refl (⟨w.heap.size, 4, none⟩ : Addr).block) (.int .i64 c'.p.s)
  have b6 := b5.setCell (Nat.le_refl (⟨w.heap.size, 5, none⟩ : Addr).block) (.slice a' c'.u.length cap')
  have l1 := hl.set hp (p := ⟨w.heap.size, 0, none⟩) (by simp) (.int .i64 c'.m)
  have l2 := l1.set hp (p := ⟨w.heap.size, 1, none⟩) (by simp) (.int .i64 c'.h)
  have l3 := l2.set hp (p := ⟨w.heap.size, 2, none⟩) (by simp) (.int .i64 c'.p.t)
  have l4 := l3.set hp (p := ⟨w.heap.size, 3, none⟩) (by simp) (.int .i64 c'.p.c)
  have l5 := l4.set hp (p := ⟨w.heap.size, 4, none⟩) (by simp) (.int .i64 c'.p.s)
  have l6 := l5.set hp (p := ⟨w.heap.size, 5, none⟩) (by simp) (.slice a' c'.u.length cap')
  have r1 := (heap_setCell_other W ⟨w.heap.size, 0, none⟩ (w.heap.size + 1) (.int .i64 c'.m) (by simp)).trans h.res
  have r2 := (heap_setCell_other _ ⟨w.heap.size, 1, none⟩ (w.heap.size + 1) (.int .i64 c'.h) (by simp)).trans r1
  have r3 := (heap_setCell_other _ ⟨w.heap.size, 2, none⟩ (w.heap.size + 1) (.int .i64 c'.p.t) (by simp)).trans r2
  have r4 := (heap_setCell_other _ ⟨w.heap.size, 3, none⟩ (w.heap.size + 1) (.int .i64 c'.p.c) (by simp)).trans r3
  have r5 := (heap_setCell_other _ ⟨w.heap.size, 4, none⟩ (w.heap.size + 1) (.int .i64 c'.p.s) (by simp)).trans r4
  have r6 := (heap_setCell_other _ ⟨w.heap.size, 5, none⟩ (w.heap.size + 1) (.slice a' c'.u.length cap') (by simp)).trans r5
  exact ⟨b6, ⟨co_put h.box.block c' a' cap', l6⟩, r6⟩

/-- What is held is written anew. -/
theorem Two.held {w W : World} {c : Ca} {a : Option Addr} {cap : Nat} (h : Two w c a cap W) (n : Int) (hp : Past (w.heap.size + 2) a) : Two w ⟨c.m, n, c.p, c.u⟩ a cap (W.setCell ⟨w.heap.size, 1, none⟩ (.int .i64 n)) := by
  refine ⟨h.bel.setCell (Nat.le_refl _) _, ⟨?_, h.box.lies.set hp (by simp) _⟩, ?_⟩
  · have hb := h.box.block
    unfold co at hb ⊢
    exact heap_setCell_same _ _ 1 _ _ (.int .i64 n) hb
  · rw [heap_setCell_other _ _ _ _ (by simp)]; exact h.res

/-- The money is written anew. -/
theorem Two.money {w W : World} {c : Ca} {a : Option Addr} {cap : Nat} (h : Two w c a cap W) (n : Int) (hp : Past (w.heap.size + 2) a) : Two w ⟨n, c.h, c.p, c.u⟩ a cap (W.setCell ⟨w.heap.size, 0, none⟩ (.int .i64 n)) := by
  refine ⟨h.bel.setCell (Nat.le_refl _) _, ⟨?_, h.box.lies.set hp (by simp) _⟩, ?_⟩
  · have hb := h.box.block
    unfold co at hb ⊢
    exact heap_setCell_same _ _ 0 _ _ (.int .i64 n) hb
  · rw [heap_setCell_other _ _ _ _ (by simp)]; exact h.res

/-- The ways through the test of a sum that is forced. -/
theorem force_ways (s h : Int) :
    (isOne s = false ∧ Hid (s < 1 ∨ 1000000 < s ∨ 1000000000000 < h + s)) ∨ (isOne s = true ∧ 1000000000000 < h + s ∧ 1 ≤ s ∧ s ≤ 1000000 ∧ Hid (s < 1 ∨ 1000000 < s ∨ 1000000000000 < h + s)) ∨
    (isOne s = true ∧ h + s ≤ 1000000000000 ∧ 1 ≤ s ∧ s ≤ 1000000 ∧ Hid (¬ (s < 1 ∨ 1000000 < s ∨ 1000000000000 < h + s))) := by
  cases h1 : isOne s with
  | false => exact Or.inl ⟨rfl, by have := isOne_false.1 h1; unfold Hid; omega⟩
  | true =>
    obtain ⟨h2, h3⟩ := isOne_true.1 h1
    by_cases h4 : 1000000000000 < h + s
    · exact Or.inr (Or.inl ⟨rfl, h4, h2, h3, by unfold Hid; omega⟩)
    · exact Or.inr (Or.inr ⟨rfl, by omega, h2, h3, by unfold Hid; omega⟩)

theorem right_few {c : Ca} (R : RightC c) : c.u.length ≤ 30 := (uses_ok R.uses).1

set_option maxHeartbeats 4000000 in
theorem force_all (c : Ca) (a : Option Addr) (cap : Nat) (s : Int) (w : World) (hL : Lies w a cap c.u) :
    Calls Try.prog 52 #[cv c a cap, .int .i64 s] w (AnswersO w a c.u (forceC c s)) := by
  have T0 := two_new hL
  unfold cv
  go_enter Try.func52, Try.ntmps52
  go_wp2_with fail
  refine (cwrong_any c a cap _ (two_new hL).box.lies).mono ?_
  rintro e w1 ⟨rfl, hb1⟩
  have T1 := T0.on hb1
  clear T0 hb1
  obtain ⟨C0, C1, C2, C3, C4, C5⟩ := T1.box.cells
  obtain ⟨F0, F1, F2, F3, F4, F5⟩ := co_free T1.box.block
  obtain ⟨R0, R1, R2, R3, R4, R5⟩ := co_cells T1.res
  obtain ⟨E0, E1, E2, E3, E4, E5⟩ := co_free T1.res
  by_cases h0 : wrongC c = 0
  rotate_left
  · have HW := hid (forceC_wrong (s := s) h0)
    have hne : (wrongC c != 0) = true := by simpa using h0
    clear h0
    generalize wrongC c = r at *
    go_wp2
    refine bodyPost_ret (v := .tuple #[.agg #[.int .i64 0, .int .i64 0, .int .i64 0, .int .i64 0, .int .i64 0, .slice none 0 0], .int .i64 r]) (by simp [results, Try.results52, go_sem, R0, R1, R2, R3, R4, R5]; try rfl) rfl ?_
    unfold AnswersO
    rw [HW.out]
    refine ⟨none, 0, rfl, lies_nil _, Or.inl (past_none _), ?_⟩
    repeat refine Below.setCell ?_ (by simp) _
    exact T1.bel
  have hne : (wrongC c != 0) = false := by simpa using h0
  have R := wrongC_ok.1 h0
  have HK := hid (right_few R)
  have m1 := R.h1
  have m2 := R.h2
  rcases force_ways s c.h with ⟨h1, H⟩ | ⟨h1, h2, h3, h4, H⟩ | ⟨h1, h2, h3, h4, H⟩
  · have HW := hid (forceC_range h0 H.out)
    clear h0 R
    generalize wrongC c = r at *
    go_wp2_with (go_at_call 72; refine (isSum_any _ _).mono ?_; rintro e w2 ⟨rfl, rfl⟩; rw [h1])
    refine bodyPost_ret (v := .tuple #[.agg #[.int .i64 0, .int .i64 0, .int .i64 0, .int .i64 0, .int .i64 0, .slice none 0 0], .int .i64 3]) (by simp [results, Try.results52, go_sem, R0, R1, R2, R3, R4, R5]; try rfl) rfl ?_
    unfold AnswersO
    rw [HW.out]
    refine ⟨none, 0, rfl, lies_nil _, Or.inl (past_none _), ?_⟩
    repeat refine Below.setCell ?_ (by simp) _
    exact T1.bel
  · have HW := hid (forceC_range h0 H.out)
    clear h0 R
    generalize wrongC c = r at *
    go_wp2_with (go_at_call 72; refine (isSum_any _ _).mono ?_; rintro e w2 ⟨rfl, rfl⟩; rw [h1])
    refine bodyPost_ret (v := .tuple #[.agg #[.int .i64 0, .int .i64 0, .int .i64 0, .int .i64 0, .int .i64 0, .slice none 0 0], .int .i64 3]) (by simp [results, Try.results52, go_sem, R0, R1, R2, R3, R4, R5]; try rfl) rfl ?_
    unfold AnswersO
    rw [HW.out]
    refine ⟨none, 0, rfl, lies_nil _, Or.inl (past_none _), ?_⟩
    repeat refine Below.setCell ?_ (by simp) _
    exact T1.bel
  · have HW := hid (forceC_ok h0 H.out)
    clear h0 R
    generalize wrongC c = r at *
    go_wp2_with fail
    refine (isSum_any _ _).mono ?_
    rintro e w2 ⟨rfl, rfl⟩
    rw [h1]
    go_wp2_with fail
    refine (own_any c a cap _ T1.box.lies HK.out).mono ?_
    rintro e w2 ⟨a', cap', rfl, hl', hp', hb2⟩
    unfold cv
    have T2 := T1.on hb2
    have hp2 : Past (w.heap.size + 2) a' := past_mono hp' T1.lt
    clear C0 C1 C2 C3 C4 C5 F0 F1 F2 F3 F4 F5 R0 R1 R2 R3 R4 R5 E0 E1 E2 E3 E4 E5 T1 hb2
    obtain ⟨C0, C1, C2, C3, C4, C5⟩ := T2.box.cells
    obtain ⟨F0, F1, F2, F3, F4, F5⟩ := co_free T2.box.block
    go_upto_region 7 with fail
    have T3 := T2.put c a' cap' hl' hp2
    generalize (((((w2.setCell ⟨w.heap.size, 0, none⟩ (.int .i64 c.m)).setCell ⟨w.heap.size, 1, none⟩ (.int .i64 c.h)).setCell ⟨w.heap.size, 2, none⟩ (.int .i64 c.p.t)).setCell ⟨w.heap.size, 3, none⟩ (.int .i64 c.p.c)).setCell ⟨w.heap.size, 4, none⟩ (.int .i64 c.p.s)).setCell ⟨w.heap.size, 5, none⟩ (.slice a' c.u.length cap') = w3 at *
    clear C0 C1 C2 C3 C4 C5 F0 F1 F2 F3 F4 F5 T2
    obtain ⟨C0, C1, C2, C3, C4, C5⟩ := T3.box.cells
    obtain ⟨F0, F1, F2, F3, F4, F5⟩ := co_free T3.box.block
    obtain ⟨R0, R1, R2, R3, R4, R5⟩ := co_cells T3.res
    obtain ⟨E0, E1, E2, E3, E4, E5⟩ := co_free T3.res
    go_wp2
    refine bodyPost_ret (v := .tuple #[.agg #[.int .i64 c.m, .int .i64 (c.h + s), .int .i64 c.p.t, .int .i64 c.p.c, .int .i64 c.p.s, .slice a' c.u.length cap'], .int .i64 0]) (by simp [results, Try.results52, go_sem, R0, R1, R2, R3, R4, R5]; try rfl) rfl ?_
    unfold AnswersO
    rw [HW.out]
    refine ⟨a', cap', rfl, ?_, Or.inl (past_mono hp2 (by omega)), ?_⟩
    · repeat refine Lies.set ?_ hp2 (by simp) _
      exact T3.box.lies
    · repeat refine Below.setCell ?_ (by simp) _
      exact T3.bel

theorem force_any (c : Ca) (a : Option Addr) (cap : Nat) (s : Int) (w : World) (hL : Lies w a cap c.u) :
    Calls Try.prog 52 #[cv c a cap, .int .i64 s] w (AnswersC w (forceC c s)) :=
  (force_all c a cap s w hL).mono fun _ _ h => h.plain
end Go.Proofs.Ytdifndnogpcbkaa
