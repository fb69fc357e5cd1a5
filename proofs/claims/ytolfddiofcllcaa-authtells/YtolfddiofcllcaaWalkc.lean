/- The walks of Hold, Late and New with the document's. -/
import Derived.Test.YtolfddiofcllcaaWalkb
namespace Go.Proofs.Ytolfddiofcllcaa
open Go.RowKit

set_option maxHeartbeats 400000 in
theorem hold_any (a : Au) (w : World) (h : wrongA a = 0) :
    Calls Try.prog 25 #[av a] w fun e w' => e = .returned (.int .i64 (holdA a)) ∧ Below w.heap.size w w' := by
  unfold av holdA
  have b0 : ∀ o, Below w.heap.size w (w.alloc o) := fun o => (Below.refl _ _).alloc (Nat.le_refl _) _
  obtain ⟨⟨⟨q1, q2⟩, ⟨q3, q4⟩, -⟩, -⟩ := wrongA_ok.1 h
  clear h
  cases hs : a.shut
  all_goals
    go_enter Try.func25, Try.ntmps25
    go_wp2
    go_ret
    exact ⟨ret_int (by simp), b0 _⟩

set_option maxHeartbeats 400000 in
theorem refHold_any (a : Au) (w : World) (h : wrongA a = 0) :
    Calls Try.prog 26 #[av a] w fun e w' => e = .returned (.int .i64 (holdA a)) ∧ Below w.heap.size w w' := by
  unfold av holdA
  have b0 : ∀ o, Below w.heap.size w (w.alloc o) := fun o => (Below.refl _ _).alloc (Nat.le_refl _) _
  obtain ⟨⟨⟨q1, q2⟩, ⟨q3, q4⟩, -⟩, -⟩ := wrongA_ok.1 h
  clear h
  cases hs : a.shut
  all_goals
    go_enter Try.func26, Try.ntmps26
    go_wp2
    go_ret
    exact ⟨ret_int (by simp), b0 _⟩

/-- Behind a call that makes memory alone all that is elder reads as before. -/
theorem bcell {W w1 : World} (hb : Below W.heap.size W w1) : (∀ b o, b < W.heap.size → w1.cell? ⟨b, o, none⟩ = W.cell? ⟨b, o, none⟩) ∧ (∀ b o, b < W.heap.size → w1.frozen? ⟨b, o, none⟩ = W.frozen? ⟨b, o, none⟩) :=
  ⟨fun b o h => hb.cell (p := ⟨b, o, none⟩) h, fun b o h => hb.frozen (p := ⟨b, o, none⟩) h⟩

theorem below1 (w : World) (o : Obj) : Below w.heap.size w (w.alloc o) := (Below.refl _ _).alloc (Nat.le_refl _) _
theorem below2 (w : World) (o o2 : Obj) : Below w.heap.size w ((w.alloc o).alloc o2) := (below1 w o).alloc (by simp) _

theorem below_call1 {w w1 : World} {o : Obj} (hb : Below (w.alloc o).heap.size (w.alloc o) w1) : Below w.heap.size w w1 :=
  (below1 w o).trans (hb.mono (by simp))
theorem below_call2 {w w1 : World} {o o2 : Obj} (hb : Below ((w.alloc o).alloc o2).heap.size ((w.alloc o).alloc o2) w1) : Below w.heap.size w w1 :=
  (below2 w o o2).trans (hb.mono (by simp; omega))

/-- A block that holds a permission, and may be written. -/
def Perm (w : World) (b : Nat) (a : Au) : Prop :=
  (w.cell? ⟨b, 0, none⟩ = some (.int .i64 a.card) ∧ w.cell? ⟨b, 1, none⟩ = some (.int .i64 a.shop) ∧ w.cell? ⟨b, 2, none⟩ = some (.int .i64 a.sum) ∧ w.cell? ⟨b, 3, none⟩ = some (.int .i64 a.cap) ∧
   w.cell? ⟨b, 4, none⟩ = some (.int .i64 a.ref) ∧ w.cell? ⟨b, 5, none⟩ = some (.int .i64 a.dis) ∧ w.cell? ⟨b, 6, none⟩ = some (.int .i64 a.till) ∧ w.cell? ⟨b, 7, none⟩ = some (.bool a.shut)) ∧
  ∀ i, w.frozen? ⟨b, i, none⟩ = false

/-- The cells of a permission. -/
abbrev acells (a : Au) : Array Value := #[.int .i64 a.card, .int .i64 a.shop, .int .i64 a.sum, .int .i64 a.cap, .int .i64 a.ref, .int .i64 a.dis, .int .i64 a.till, .bool a.shut]

theorem perm_new (w : World) (a : Au) : Perm (w.alloc (.cells (acells a) 39)) w.heap.size a := by
  refine ⟨⟨?_, ?_, ?_, ?_, ?_, ?_, ?_, ?_⟩, fun i => World.frozen?_alloc_at _ _ _ _ rfl⟩ <;> (rw [World.cell?_alloc_at _ _ _ _ rfl]; rfl)

theorem Perm.alloc {w : World} {b : Nat} {a : Au} (h : Perm w b a) (hb : b < w.heap.size) (o : Obj) : Perm (w.alloc o) b a := by
  unfold Perm at h ⊢
  simp only [World.cell?_alloc_past _ _ _ hb, World.frozen?_alloc_past _ _ _ hb]
  exact h

theorem Perm.below {W w1 : World} {b : Nat} {a : Au} (h : Perm W b a) (hlt : b < W.heap.size) (hb : Below W.heap.size W w1) : Perm w1 b a := by
  obtain ⟨hc, hf⟩ := bcell hb
  unfold Perm at h ⊢
  simp only [hc _ _ hlt, hf _ _ hlt]
  exact h

set_option maxHeartbeats 400000 in
theorem late_any (a : Au) (t : Int) (w : World) :
    Calls Try.prog 23 #[av a, .int .i64 t] w fun e w' => e = .returned (av (lateA a t)) ∧ Below w.heap.size w w' := by
  unfold av lateA
  by_cases h : a.till ≤ t
  · go_enter Try.func23, Try.ntmps23
    go_wp2
    exact bodyPost_ret (v := .agg #[.int .i64 a.card, .int .i64 a.shop, .int .i64 a.sum, .int .i64 a.cap, .int .i64 a.ref, .int .i64 a.dis, .int .i64 a.till, .bool true]) (by simp [results, Try.results23, go_sem]) rfl ⟨by simp [h], below2 _ _ _⟩
  · have hf : decide (a.till ≤ t) = false := by simpa using h
    go_enter Try.func23, Try.ntmps23
    go_wp2
    exact bodyPost_ret (v := .agg #[.int .i64 a.card, .int .i64 a.shop, .int .i64 a.sum, .int .i64 a.cap, .int .i64 a.ref, .int .i64 a.dis, .int .i64 a.till, .bool a.shut]) (by simp [results, Try.results23, go_sem]) rfl ⟨rfl, below2 _ _ _⟩

set_option maxHeartbeats 400000 in
theorem refLate_any (a : Au) (t : Int) (w : World) :
    Calls Try.prog 24 #[av a, .int .i64 t] w fun e w' => e = .returned (av (lateA a t)) ∧ Below w.heap.size w w' := by
  unfold av lateA
  cases hs : a.shut
  · by_cases h : a.till ≤ t
    · go_enter Try.func24, Try.ntmps24
      go_wp2
      exact bodyPost_ret (v := .agg #[.int .i64 a.card, .int .i64 a.shop, .int .i64 a.sum, .int .i64 a.cap, .int .i64 a.ref, .int .i64 a.dis, .int .i64 a.till, .bool true]) (by simp [results, Try.results24, go_sem]) rfl ⟨by simp [h], below2 _ _ _⟩
    · have hf : decide (a.till ≤ t) = false := by simpa using h
      go_enter Try.func24, Try.ntmps24
      go_wp2
      exact bodyPost_ret (v := .agg #[.int .i64 a.card, .int .i64 a.shop, .int .i64 a.sum, .int .i64 a.cap, .int .i64 a.ref, .int .i64 a.dis, .int .i64 a.till, .bool false]) (by simp [results, Try.results24, go_sem]) rfl ⟨rfl, below2 _ _ _⟩
  · go_enter Try.func24, Try.ntmps24
    go_wp2
    exact bodyPost_ret (v := .agg #[.int .i64 a.card, .int .i64 a.shop, .int .i64 a.sum, .int .i64 a.cap, .int .i64 a.ref, .int .i64 a.dis, .int .i64 a.till, .bool true]) (by simp [results, Try.results24, go_sem]) rfl ⟨by simp, below2 _ _ _⟩

theorem new_ways (c s n t : Int) :
    (isM n = false ∧ Hid (newA c s n t = (none0, 3))) ∨
    (isM n = true ∧ t < 0 ∧ Hid (newA c s n t = (none0, 3))) ∨
    (isM n = true ∧ 0 ≤ t ∧ 1000000 < t ∧ Hid (newA c s n t = (none0, 3))) ∨
    (isM n = true ∧ 0 ≤ t ∧ t ≤ 1000000 ∧ isC c = false ∧ Hid (newA c s n t = (none0, 3))) ∨
    (isM n = true ∧ 0 ≤ t ∧ t ≤ 1000000 ∧ isC c = true ∧ isC s = false ∧ Hid (newA c s n t = (none0, 3))) ∨
    (isM n = true ∧ 0 ≤ t ∧ t ≤ 1000000 ∧ isC c = true ∧ isC s = true ∧ Hid (newA c s n t = (⟨c, s, n, 0, 0, 0, t + 100, false⟩, 0))) := by
  have key : ∀ p : Bool, p = false ∨ p = true := by decide
  unfold newA
  rcases key (isM n) with h1 | h1
  · exact Or.inl ⟨h1, if_neg fun h => isM_false.1 h1 h.1⟩
  by_cases h2 : t < 0
  · exact Or.inr (Or.inl ⟨h1, h2, if_neg fun h => by have := h.2.1; omega⟩)
  by_cases h3 : 1000000 < t
  · exact Or.inr (Or.inr (Or.inl ⟨h1, by omega, h3, if_neg fun h => by have := h.2.2.1; omega⟩))
  rcases key (isC c) with h4 | h4
  · exact Or.inr (Or.inr (Or.inr (Or.inl ⟨h1, by omega, by omega, h4, if_neg fun h => isC_false.1 h4 h.2.2.2.1⟩)))
  rcases key (isC s) with h5 | h5
  · exact Or.inr (Or.inr (Or.inr (Or.inr (Or.inl ⟨h1, by omega, by omega, h4, h5, if_neg fun h => isC_false.1 h5 h.2.2.2.2⟩))))
  · exact Or.inr (Or.inr (Or.inr (Or.inr (Or.inr ⟨h1, by omega, by omega, h4, h5, if_pos ⟨isM_true.1 h1, by omega, by omega, isC_true.1 h4, isC_true.1 h5⟩⟩))))

set_option maxHeartbeats 1000000 in
theorem new_any (c s n t : Int) (w : World) :
    Calls Try.prog 27 #[.int .i64 c, .int .i64 s, .int .i64 n, .int .i64 t] w fun e w' => e = .returned (.tuple #[av (newA c s n t).1, .int .i64 (newA c s n t).2]) ∧ Below w.heap.size w w' := by
  rcases new_ways c s n t with ⟨h1, H⟩ | ⟨h1, h2, H⟩ | ⟨h1, h2, h3, H⟩ | ⟨h1, h2, h3, h4, H⟩ | ⟨h1, h2, h3, h4, h5, H⟩ | ⟨h1, h2, h3, h4, h5, H⟩
  case inr.inr.inr.inr.inr =>
    go_enter Try.func27, Try.ntmps27
    go_wp2_with (first | (go_at_call 41; refine (isMove_any _ _).mono ?_; rintro e w' ⟨rfl, rfl⟩) | (go_at_call 38; refine (isCard_any _ _).mono ?_; rintro e w' ⟨rfl, rfl⟩) | (go_at_call 39; refine (isShop_any _ _).mono ?_; rintro e w' ⟨rfl, rfl⟩))
    refine bodyPost_ret (v := .tuple #[.agg #[.int .i64 c, .int .i64 s, .int .i64 n, .int .i64 0, .int .i64 0, .int .i64 0, .int .i64 (t + 100), .bool false], .int .i64 0]) (by simp [results, Try.results27, go_sem]) rfl ⟨?_, below1 _ _⟩
    rw [H.out]; rfl
  all_goals
    go_enter Try.func27, Try.ntmps27
    go_wp2_with (first | (go_at_call 41; refine (isMove_any _ _).mono ?_; rintro e w' ⟨rfl, rfl⟩) | (go_at_call 38; refine (isCard_any _ _).mono ?_; rintro e w' ⟨rfl, rfl⟩) | (go_at_call 39; refine (isShop_any _ _).mono ?_; rintro e w' ⟨rfl, rfl⟩))
    refine bodyPost_ret (v := .tuple #[.agg #[.int .i64 0, .int .i64 0, .int .i64 0, .int .i64 0, .int .i64 0, .int .i64 0, .int .i64 0, .bool false], .int .i64 3]) (by simp [results, Try.results27, go_sem]) rfl ⟨?_, below1 _ _⟩
    rw [H.out]; rfl

theorem refNew_ways (c s n t : Int) :
    (n < 1 ∧ Hid (newA c s n t = (none0, 3))) ∨
    (1 ≤ n ∧ t < 0 ∧ Hid (newA c s n t = (none0, 3))) ∨
    (1 ≤ n ∧ 0 ≤ t ∧ 1000000 < t ∧ Hid (newA c s n t = (none0, 3))) ∨
    (1 ≤ n ∧ 0 ≤ t ∧ t ≤ 1000000 ∧ (wrongA ⟨c, s, n, 0, 0, 0, 100, false⟩ != 0) = true ∧ Hid (newA c s n t = (none0, 3))) ∨
    (1 ≤ n ∧ 0 ≤ t ∧ t ≤ 1000000 ∧ (wrongA ⟨c, s, n, 0, 0, 0, 100, false⟩ != 0) = false ∧ Hid (newA c s n t = (⟨c, s, n, 0, 0, 0, t + 100, false⟩, 0))) := by
  unfold newA
  by_cases h1 : n < 1
  · exact Or.inl ⟨h1, if_neg fun h => by have := h.1; omega⟩
  by_cases h2 : t < 0
  · exact Or.inr (Or.inl ⟨by omega, h2, if_neg fun h => by have := h.2.1; omega⟩)
  by_cases h3 : 1000000 < t
  · exact Or.inr (Or.inr (Or.inl ⟨by omega, by omega, h3, if_neg fun h => by have := h.2.2.1; omega⟩))
  by_cases h4 : wrongA ⟨c, s, n, 0, 0, 0, 100, false⟩ = 0
  · refine Or.inr (Or.inr (Or.inr (Or.inr ⟨by omega, by omega, by omega, by simpa using h4, if_pos ?_⟩)))
    obtain ⟨⟨q1, -, -, -, q2, q3, -⟩, -⟩ := wrongA_ok.1 h4
    exact ⟨⟨by omega, q1.2⟩, by omega, by omega, q2, q3⟩
  · refine Or.inr (Or.inr (Or.inr (Or.inl ⟨by omega, by omega, by omega, by simpa using h4, if_neg fun h => h4 (wrongA_ok.2 ?_)⟩)))
    obtain ⟨q1, -, -, q2, q3⟩ := h
    exact ⟨⟨⟨by have := q1.1; show 0 ≤ n; omega, q1.2⟩, ⟨Int.le_refl _, by show (0 : Int) ≤ 1000000; decide⟩, ⟨Int.le_refl _, by show (0 : Int) ≤ 1000000; decide⟩, ⟨Int.le_refl _, by show (0 : Int) ≤ 1000000; decide⟩, q2, q3, by show (0 : Int) ≤ 100; decide, by show (100 : Int) ≤ 1000100; decide⟩, by have := q1.1; show 0 ≤ n; omega, by show (0 : Int) + 0 ≤ 0; omega⟩

set_option maxHeartbeats 1000000 in
theorem refNew_any (c s n t : Int) (w : World) :
    Calls Try.prog 28 #[.int .i64 c, .int .i64 s, .int .i64 n, .int .i64 t] w fun e w' => e = .returned (.tuple #[av (newA c s n t).1, .int .i64 (newA c s n t).2]) ∧ Below w.heap.size w w' := by
  rcases refNew_ways c s n t with ⟨h1, H⟩ | ⟨h1, h2, H⟩ | ⟨h1, h2, h3, H⟩ | ⟨h1, h2, h3, h4, H⟩ | ⟨h1, h2, h3, h4, H⟩
  case inr.inr.inr.inl =>
    go_enter Try.func28, Try.ntmps28
    go_wp2_with fail
    refine (refWrong_any ⟨c, s, n, 0, 0, 0, 100, false⟩ _).mono ?_
    rintro e w1 ⟨rfl, hb⟩
    generalize wrongA ⟨c, s, n, 0, 0, 0, 100, false⟩ = r at *
    have P0 := Perm.below ((perm_new w none0).alloc (by simp) _) (by simp; omega) hb
    have P1 := Perm.below (perm_new (w.alloc (.cells (acells none0) 39)) ⟨c, s, n, 0, 0, 0, 100, false⟩) (by simp) hb
    have hb' := below_call2 hb
    clear hb
    obtain ⟨⟨R0, R1, R2, R3, R4, R5, R6, R7⟩, F⟩ := P0
    obtain ⟨⟨S0, S1, S2, S3, S4, S5, S6, S7⟩, G⟩ := P1
    simp only [none0, World.size_alloc] at R0 R1 R2 R3 R4 R5 R6 R7 S0 S1 S2 S3 S4 S5 S6 S7 G
    go_wp2
    refine bodyPost_ret (v := .tuple #[.agg #[.int .i64 0, .int .i64 0, .int .i64 0, .int .i64 0, .int .i64 0, .int .i64 0, .int .i64 0, .bool false], .int .i64 3]) (by simp [results, Try.results28, go_sem, R0, R1, R2, R3, R4, R5, R6, R7]) rfl ⟨?_, ?_⟩
    · rw [H.out]; rfl
    · repeat refine Below.setCell ?_ (by simp) _
      exact hb'
  case inr.inr.inr.inr =>
    go_enter Try.func28, Try.ntmps28
    go_wp2_with fail
    refine (refWrong_any ⟨c, s, n, 0, 0, 0, 100, false⟩ _).mono ?_
    rintro e w1 ⟨rfl, hb⟩
    generalize wrongA ⟨c, s, n, 0, 0, 0, 100, false⟩ = r at *
    have P0 := Perm.below ((perm_new w none0).alloc (by simp) _) (by simp; omega) hb
    have P1 := Perm.below (perm_new (w.alloc (.cells (acells none0) 39)) ⟨c, s, n, 0, 0, 0, 100, false⟩) (by simp) hb
    have hb' := below_call2 hb
    clear hb
    obtain ⟨⟨R0, R1, R2, R3, R4, R5, R6, R7⟩, F⟩ := P0
    obtain ⟨⟨S0, S1, S2, S3, S4, S5, S6, S7⟩, G⟩ := P1
    simp only [none0, World.size_alloc] at R0 R1 R2 R3 R4 R5 R6 R7 S0 S1 S2 S3 S4 S5 S6 S7 G
    go_wp2
    refine bodyPost_ret (v := .tuple #[.agg #[.int .i64 c, .int .i64 s, .int .i64 n, .int .i64 0, .int .i64 0, .int .i64 0, .int .i64 (t + 100), .bool false], .int .i64 0]) (by simp [results, Try.results28, go_sem, R0, R1, R2, R3, R4, R5, R6, R7]) rfl ⟨?_, ?_⟩
    · rw [H.out]; rfl
    · repeat refine Below.setCell ?_ (by simp) _
      exact hb'
  all_goals
    go_enter Try.func28, Try.ntmps28
    go_wp2
    refine bodyPost_ret (v := .tuple #[.agg #[.int .i64 0, .int .i64 0, .int .i64 0, .int .i64 0, .int .i64 0, .int .i64 0, .int .i64 0, .bool false], .int .i64 3]) (by simp [results, Try.results28, go_sem]) rfl ⟨?_, below2 _ _ _⟩
    rw [H.out]; rfl
end Go.Proofs.Ytolfddiofcllcaa
