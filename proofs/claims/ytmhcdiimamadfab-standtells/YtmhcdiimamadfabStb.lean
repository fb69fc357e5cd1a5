/- The walks of New, and of the document's; of given, and of own. -/
import Derived.Test.YtmhcdiimamadfabSta
namespace Go.Proofs.Ytmhcdiimamadfab.St
open Go.RowKit Go.Proofs.Ytmhcdiimamadfab.Gn

theorem new_ways (limit cards : Int) :
    (cards < 0 ∧ Hid (newD limit cards = (zD, 5))) ∨ (0 ≤ cards ∧ 8 < cards ∧ Hid (newD limit cards = (zD, 5))) ∨
    (0 ≤ cards ∧ cards ≤ 8 ∧ Hid (limB limit = false) ∧ Hid (newD limit cards = (zD, 3))) ∨
    (∃ n : Nat, cards = n ∧ n ≤ 8 ∧ Hid (limB limit = true) ∧ Hid (newD limit cards = (⟨limit, List.replicate n 0, []⟩, 0))) := by
  by_cases h1 : cards < 0
  · exact Or.inl ⟨h1, new_many (Or.inl h1)⟩
  by_cases h2 : 8 < cards
  · exact Or.inr (Or.inl ⟨by omega, h2, new_many (Or.inr h2)⟩)
  by_cases h3 : Lim limit
  · refine Or.inr (Or.inr (Or.inr ⟨cards.toNat, by omega, by omega, limB_true h3, ?_⟩))
    exact new_ok (by omega) h3
  · exact Or.inr (Or.inr (Or.inl ⟨by omega, by omega, limB_false h3, new_range (by omega) h3⟩))

set_option maxHeartbeats 2000000 in
theorem new_any (limit cards : Int) (w : World) : Calls Try.prog 28 #[.int .i64 limit, .int .i64 cards] w (AnswersD w (newD limit cards)) := by
  have b0 : Below w.heap.size w (w.alloc (dob 0 (.slice none 0 0) (.slice none 0 0))) := below_alloc w _
  have hB : (w.alloc (dob 0 (.slice none 0 0) (.slice none 0 0))).heap[w.heap.size]? = some (dob 0 (.slice none 0 0) (.slice none 0 0)) := heap_alloc_at _ _ _ rfl
  unfold dob at b0 hB
  have bad : ∀ (r : Int) (w' : World), Hid (newD limit cards = (zD, r)) → Below w.heap.size w w' → AnswersD w (newD limit cards) (.returned (.tuple #[.agg #[.int .i64 0, .slice none 0 0, .slice none 0 0], .int .i64 r])) w' := fun r w' h hb => by
    rw [h.out]; exact ⟨_, _, rfl, .nil, .nil, hb⟩
  rcases new_ways limit cards with ⟨h1, H⟩ | ⟨h1, h2, H⟩ | ⟨h1, h2, h3, H⟩ | ⟨n, rfl, h2, h3, H⟩
  · go_enter Try.func28, Try.ntmps28
    go_wp2
    refine bodyPost_ret (v := .tuple #[.agg #[.int .i64 0, .slice none 0 0, .slice none 0 0], .int .i64 5]) (by simp [results, Try.results28, go_sem]; try rfl) rfl (bad _ _ H ?_)
    repeat refine Below.setCell ?_ (by simp) _
    exact b0
  · go_enter Try.func28, Try.ntmps28
    go_wp2
    refine bodyPost_ret (v := .tuple #[.agg #[.int .i64 0, .slice none 0 0, .slice none 0 0], .int .i64 5]) (by simp [results, Try.results28, go_sem]; try rfl) rfl (bad _ _ H ?_)
    repeat refine Below.setCell ?_ (by simp) _
    exact b0
  · go_enter Try.func28, Try.ntmps28
    go_wp2_with (go_at_call 49; refine (isLimit_any _ _).mono ?_; rw [h3.out]; rintro e w' ⟨rfl, rfl⟩)
    refine bodyPost_ret (v := .tuple #[.agg #[.int .i64 0, .slice none 0 0, .slice none 0 0], .int .i64 3]) (by simp [results, Try.results28, go_sem]; try rfl) rfl (bad _ _ H ?_)
    repeat refine Below.setCell ?_ (by simp) _
    exact b0
  · have hmk := make_ints n (by omega)
    have hn0 : (0 : Int) ≤ (n : Int) := by omega
    have hn8 : (n : Int) ≤ 8 := by omega
    go_enter Try.func28, Try.ntmps28
    go_wp2_with (go_at_call 49; refine (isLimit_any _ _).mono ?_; rw [h3.out]; rintro e w' ⟨rfl, rfl⟩)
    have hI := ints_made (w.alloc (dob limit (.slice (some ⟨w.heap.size + 1, 0, none⟩) n n) (.slice none 0 0))) 3 n
    refine bodyPost_ret (v := .tuple #[.agg #[.int .i64 limit, .slice (some ⟨w.heap.size + 1, 0, none⟩) n n, .slice none 0 0], .int .i64 0]) (by simp [results, Try.results28, go_sem]; try rfl) rfl ?_
    rw [H.out]
    refine ⟨_, _, rfl, ?_, .nil, ((below_alloc _ _).alloc (by simp) _)⟩
    have := hI.row w.heap.size (by simp) (by simp [maxLen]; omega)
    simpa [dob] using this

set_option maxHeartbeats 2000000 in
theorem refNew_any (limit cards : Int) (w : World) : Calls Try.prog 29 #[.int .i64 limit, .int .i64 cards] w (AnswersD w (newD limit cards)) := by
  have b0 : Below w.heap.size w (w.alloc (dob 0 (.slice none 0 0) (.slice none 0 0))) := below_alloc w _
  have hB : (w.alloc (dob 0 (.slice none 0 0) (.slice none 0 0))).heap[w.heap.size]? = some (dob 0 (.slice none 0 0) (.slice none 0 0)) := heap_alloc_at _ _ _ rfl
  unfold dob at b0 hB
  have bad : ∀ (r : Int) (w' : World), Hid (newD limit cards = (zD, r)) → Below w.heap.size w w' → AnswersD w (newD limit cards) (.returned (.tuple #[.agg #[.int .i64 0, .slice none 0 0, .slice none 0 0], .int .i64 r])) w' := fun r w' h hb => by
    rw [h.out]; exact ⟨_, _, rfl, .nil, .nil, hb⟩
  rcases new_ways limit cards with ⟨h1, H⟩ | ⟨h1, h2, H⟩ | ⟨h1, h2, h3, H⟩ | ⟨n, rfl, h2, h3, H⟩
  · go_enter Try.func29, Try.ntmps29
    go_wp2
    refine bodyPost_ret (v := .tuple #[.agg #[.int .i64 0, .slice none 0 0, .slice none 0 0], .int .i64 5]) (by simp [results, Try.results29, go_sem]; try rfl) rfl (bad _ _ H ?_)
    repeat refine Below.setCell ?_ (by simp) _
    exact b0
  · go_enter Try.func29, Try.ntmps29
    go_wp2
    refine bodyPost_ret (v := .tuple #[.agg #[.int .i64 0, .slice none 0 0, .slice none 0 0], .int .i64 5]) (by simp [results, Try.results29, go_sem]; try rfl) rfl (bad _ _ H ?_)
    repeat refine Below.setCell ?_ (by simp) _
    exact b0
  · go_enter Try.func29, Try.ntmps29
    go_wp2_with (go_at_call 50; refine (sum_any _ _).mono ?_; rw [h3.out]; rintro e w' ⟨rfl, rfl⟩)
    refine bodyPost_ret (v := .tuple #[.agg #[.int .i64 0, .slice none 0 0, .slice none 0 0], .int .i64 3]) (by simp [results, Try.results29, go_sem]; try rfl) rfl (bad _ _ H ?_)
    repeat refine Below.setCell ?_ (by simp) _
    exact b0
  · have hmk := make_ints n (by omega)
    have hn0 : (0 : Int) ≤ (n : Int) := by omega
    have hn8 : (n : Int) ≤ 8 := by omega
    go_enter Try.func29, Try.ntmps29
    go_wp2_with (go_at_call 50; refine (sum_any _ _).mono ?_; rw [h3.out]; rintro e w' ⟨rfl, rfl⟩)
    have hI := ints_made (w.alloc (dob limit (.slice (some ⟨w.heap.size + 1, 0, none⟩) n n) (.slice none 0 0))) 3 n
    refine bodyPost_ret (v := .tuple #[.agg #[.int .i64 limit, .slice (some ⟨w.heap.size + 1, 0, none⟩) n n, .slice none 0 0], .int .i64 0]) (by simp [results, Try.results29, go_sem]; try rfl) rfl ?_
    rw [H.out]
    refine ⟨_, _, rfl, ?_, .nil, ((below_alloc _ _).alloc (by simp) _)⟩
    have := hI.row w.heap.size (by simp) (by simp [maxLen]; omega)
    simpa [dob] using this

/-! ### own -/
/-- What own holds on to: the stand's box, and the result. -/
structure Ow (w : World) (n : Int) (v1 v2 : Value) (W : World) : Prop where
  bel : Below w.heap.size w W
  box : W.heap[w.heap.size]? = some (dob n v1 v2)
  res : W.heap[w.heap.size + 1]? = some (dob 0 (.slice none 0 0) (.slice none 0 0))

theorem Ow.lt {w : World} {n : Int} {v1 v2 : Value} {W : World} (h : Ow w n v1 v2 W) : w.heap.size + 1 < W.heap.size := lt_of_block h.res
theorem Ow.on {w : World} {n : Int} {v1 v2 : Value} {W W' : World} (h : Ow w n v1 v2 W) (hb : Below W.heap.size W W') : Ow w n v1 v2 W' :=
  ⟨h.bel.trans (hb.mono h.bel.size), (hb.block _ (lt_of_block h.box)).trans h.box, (hb.block _ (lt_of_block h.res)).trans h.res⟩
theorem ow_new (w : World) (n : Int) (v1 v2 : Value) : Ow w n v1 v2 ((w.alloc (dob n v1 v2)).alloc (dob 0 (.slice none 0 0) (.slice none 0 0))) :=
  ⟨(below_alloc _ _).alloc (by simp) _, by rw [Below.heap_alloc _ _ _ (by simp), heap_alloc_at _ _ _ rfl], heap_alloc_at _ _ _ (by simp)⟩
theorem Ow.one {w : World} {n : Int} {v1 v2 : Value} {W : World} (h : Ow w n v1 v2 W) (u : Value) : Ow w n u v2 (W.setCell ⟨w.heap.size, 1, none⟩ u) := by
  refine ⟨h.bel.setCell (by simp) _, ?_, (heap_setCell_other _ _ _ _ (by simp)).trans h.res⟩
  have := heap_setCell_same W w.heap.size 1 _ _ u h.box
  simpa [dob] using this
theorem Ow.two {w : World} {n : Int} {v1 v2 : Value} {W : World} (h : Ow w n v1 v2 W) (u : Value) : Ow w n v1 u (W.setCell ⟨w.heap.size, 2, none⟩ u) := by
  refine ⟨h.bel.setCell (by simp) _, ?_, (heap_setCell_other _ _ _ _ (by simp)).trans h.res⟩
  have := heap_setCell_same W w.heap.size 2 _ _ u h.box
  simpa [dob] using this

/-- What own answers. -/
def Owned (w : World) (s : Sd) (e : Ending) (w' : World) : Prop :=
  ∃ u1 u2, e = .returned (dv s.cap u1 u2) ∧ Row kI 3 w' w.heap.size u1 s.used ∧ (s.used ≠ [] → w'.ownsRow w.heap.size 3 kI.size u1 s.used.length (kI.flat s.used)) ∧ Row kA 63 w' w.heap.size u2 s.adv ∧ Ap u1 u2 ∧ Below w.heap.size w w'

theorem own_keep {w w' : World} {base : Nat} {e : TypeId} {size n : Nat} {v : Value} {xs : List Value} (h : w.ownsRow base e size v n xs) (hk : ∀ k, v.ownBlock = some k → w'.heap[k]? = w.heap[k]?) : w'.ownsRow base e size v n xs := by
  refine ⟨h.1, ?_⟩
  rcases h.2 with h0 | ⟨g, cap, cur, rfl, hg, hh, r⟩
  · exact Or.inl h0
  · exact Or.inr ⟨g, cap, cur, rfl, hg, (hk g rfl).trans hh, r⟩
theorem own_mono {w : World} {base base' : Nat} {e : TypeId} {size n : Nat} {v : Value} {xs : List Value} (h : w.ownsRow base e size v n xs) (hb : base' ≤ base) : w.ownsRow base' e size v n xs := by
  refine ⟨h.1, ?_⟩
  rcases h.2 with h0 | ⟨g, cap, cur, rfl, hg, r⟩
  · exact Or.inl h0
  · exact Or.inr ⟨g, cap, cur, rfl, Nat.le_trans hb hg, r⟩

set_option maxHeartbeats 2000000 in
theorem own_any (s : Sd) (v1 v2 : Value) (w : World) (h1 : At kI w v1 s.used) (h2 : At kA w v2 s.adv) (hu : s.used.length ≤ 8) (ha : s.adv.length ≤ 20) :
    Calls Try.prog 53 #[dv s.cap v1 v2] w (Owned w s) := by
  obtain ⟨a1, c1, rfl, hl1⟩ := h1
  obtain ⟨a2, c2, rfl, hl2⟩ := h2
  have O0 := ow_new w s.cap (.slice a1 s.used.length c1) (.slice a2 s.adv.length c2)
  unfold dob at O0
  unfold dv
  go_enter Try.func53, Try.ntmps53
  go_upto_region 1 with fail
  generalize (w.alloc (.cells #[.int .i64 s.cap, .slice a1 s.used.length c1, .slice a2 s.adv.length c2] 61)).alloc (.cells #[.int .i64 0, .slice none 0 0, .slice none 0 0] 61) = W0 at *
  obtain ⟨C0, C1, C2⟩ := dob_cells O0.box
  have hz0 := O0.lt
  go_wp2_with (at_builtin; refine wpList_append elemI _ rfl _ _ rfl (w.heap.size + 2) _ [] rfl .nil a1 s.used.length c1 s.used rfl rfl (hl1.below O0.bel) ?c3 ?c4 ?c5 ?_)
  case c3 => simp [maxLen]; omega
  case c4 => simp; omega
  case c5 => omega
  intro v' w3 hrow hgrow hat hown
  have hb3 : Below W0.heap.size W0 w3 := below_grown (L := []) (Below.refl _ _) hgrow (.nil : Row kI 3 W0 W0.heap.size (.slice none 0 0) []) (Nat.le_refl _) (Nat.le_refl _)
  have O3 := O0.on hb3
  clear O0 hb3 hgrow C0 C1 C2 hat
  obtain ⟨a3, c3, rfl, -, -⟩ := row_at hrow
  obtain ⟨C0, C1, C2⟩ := dob_cells O3.box
  obtain ⟨F0, F1, F2⟩ := dob_free O3.box
  go_upto_region 2 with fail
  have O4 := O3.one (.slice a3 s.used.length c3)
  have hrow4 := Row.set hrow ⟨w.heap.size, 1, none⟩ (by simp <;> omega) (.slice a3 s.used.length c3)
  have hown4 : s.used ≠ [] → (w3.setCell ⟨w.heap.size, 1, none⟩ (.slice a3 s.used.length c3)).ownsRow (w.heap.size + 2) 3 kI.size (.slice a3 s.used.length c3) s.used.length (kI.flat s.used) := fun hne => own_keep (hown hne) fun k hk => heap_setCell_other _ _ _ _ (by have := ((hown hne).lt k hk).1; simp <;> omega)
  clear O3 hrow hown C0 C1 C2 F0 F1 F2
  generalize w3.setCell ⟨w.heap.size, 1, none⟩ (.slice a3 s.used.length c3) = W4 at *
  obtain ⟨C0, C1, C2⟩ := dob_cells O4.box
  have hz4 := O4.lt
  go_wp2_with (at_builtin; refine wpList_append elemA _ rfl _ _ rfl W4.heap.size _ [] rfl .nil a2 s.adv.length c2 s.adv rfl rfl (hl2.below O4.bel) ?c3 ?c4 ?c5 ?_)
  case c3 => simp [maxLen]; omega
  case c4 => simp; omega
  case c5 => omega
  intro v5 w5 hrow5 hgrow5 _ _
  have hb5 : Below W4.heap.size W4 w5 := below_grown (L := []) (Below.refl _ _) hgrow5 (.nil : Row kA 63 W4 W4.heap.size (.slice none 0 0) []) (Nat.le_refl _) (Nat.le_refl _)
  have O5 := O4.on hb5
  have hr1 := hrow4.below hb5
  have ho1 : s.used ≠ [] → w5.ownsRow (w.heap.size + 2) 3 kI.size (.slice a3 s.used.length c3) s.used.length (kI.flat s.used) := fun hne => own_keep (hown4 hne) fun k hk => hb5.block _ ((hown4 hne).lt k hk).2
  have hap : Ap (.slice a3 s.used.length c3) v5 := fun k k1 k2 => by have := (hrow4.block_lt k k1).2; have := (hrow5.block_lt k k2).1; omega
  have hr2 := hrow5.mono (base' := w.heap.size + 2) (by omega)
  clear O4 hb5 hgrow5 C0 C1 C2 hrow4 hown4 hrow5
  obtain ⟨a5, c5, rfl, -, -⟩ := row_at hr2
  obtain ⟨C0, C1, C2⟩ := dob_cells O5.box
  obtain ⟨F0, F1, F2⟩ := dob_free O5.box
  go_upto_region 3 with fail
  have O6 := O5.two (.slice a5 s.adv.length c5)
  have hr3 := Row.set hr1 ⟨w.heap.size, 2, none⟩ (by simp <;> omega) (.slice a5 s.adv.length c5)
  have hr4 := Row.set hr2 ⟨w.heap.size, 2, none⟩ (by simp <;> omega) (.slice a5 s.adv.length c5)
  have ho2 : s.used ≠ [] → (w5.setCell ⟨w.heap.size, 2, none⟩ (.slice a5 s.adv.length c5)).ownsRow (w.heap.size + 2) 3 kI.size (.slice a3 s.used.length c3) s.used.length (kI.flat s.used) := fun hne => own_keep (ho1 hne) fun k hk => heap_setCell_other _ _ _ _ (by have := ((ho1 hne).lt k hk).1; simp <;> omega)
  clear O5 hr1 hr2 ho1 C0 C1 C2 F0 F1 F2
  generalize w5.setCell ⟨w.heap.size, 2, none⟩ (.slice a5 s.adv.length c5) = W6 at *
  obtain ⟨C0, C1, C2⟩ := dob_cells O6.box
  obtain ⟨R0, R1, R2⟩ := dob_cells O6.res
  obtain ⟨E0, E1, E2⟩ := dob_free O6.res
  go_wp2
  refine bodyPost_ret (v := .agg #[.int .i64 s.cap, .slice a3 s.used.length c3, .slice a5 s.adv.length c5]) (by simp [results, Try.results53, go_sem, R0, R1, R2]; try rfl) rfl ⟨_, _, rfl, ?_, ?_, ?_, hap, ?_⟩
  · refine Row.mono (base := w.heap.size + 2) ?_ (by omega)
    repeat refine Row.set ?_ _ (by simp) _
    exact hr3
  · intro hne
    refine own_mono (base := w.heap.size + 2) ?_ (by omega)
    exact own_keep (ho2 hne) fun k hk => by
      have := ((ho2 hne).lt k hk).1
      repeat refine (heap_setCell_other _ _ _ _ (by simp <;> omega)).trans ?_
      rfl
  · refine Row.mono (base := w.heap.size + 2) ?_ (by omega)
    repeat refine Row.set ?_ _ (by simp) _
    exact hr4
  · repeat refine Below.setCell ?_ (by simp) _
    exact O6.bel
end Go.Proofs.Ytmhcdiimamadfab.St
