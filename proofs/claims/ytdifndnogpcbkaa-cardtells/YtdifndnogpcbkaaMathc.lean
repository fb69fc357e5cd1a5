/- Cards as plain numbers: what is wrong with them, what comes of a sum that is allowed or forced, of a shift. No program here. -/
import Derived.Test.YtdifndnogpcbkaaMathb
namespace Go.Proofs.Ytdifndnogpcbkaa

structure Ca where
  m : Int
  h : Int
  p : Pa
  u : List (Int × Int)

def zeroC : Ca := ⟨0, 0, ⟨0, 0, 0⟩, []⟩

/-- Money, or what is held, is out of range. -/
abbrev off (m h : Int) : Prop := m < -1000000000000 ∨ 1000000000000 < m ∨ h < 0 ∨ 1000000000000 < h

def wrongC (c : Ca) : Int := if off c.m c.h then 3 else if wrongP c.p ≠ 0 then wrongP c.p else (uses c.u).1

structure RightC (c : Ca) : Prop where
  m1 : -1000000000000 ≤ c.m
  m2 : c.m ≤ 1000000000000
  h1 : 0 ≤ c.h
  h2 : c.h ≤ 1000000000000
  pace : wrongP c.p = 0
  uses : (uses c.u).1 = 0

theorem wrongC_off {c : Ca} (h : off c.m c.h) : wrongC c = 3 := by unfold wrongC; rw [if_pos h]
theorem wrongC_pace {c : Ca} (h : ¬ off c.m c.h) (h1 : wrongP c.p ≠ 0) : wrongC c = wrongP c.p := by unfold wrongC; rw [if_neg h, if_pos h1]
theorem wrongC_uses {c : Ca} (h : ¬ off c.m c.h) (h1 : wrongP c.p = 0) : wrongC c = (uses c.u).1 := by unfold wrongC; rw [if_neg h, if_neg (by simpa using h1)]

theorem wrongC_ok {c : Ca} : wrongC c = 0 ↔ RightC c := by
  constructor
  · intro h
    by_cases h0 : off c.m c.h
    · rw [wrongC_off h0] at h; cases h
    by_cases h1 : wrongP c.p = 0
    · rw [wrongC_uses h0 h1] at h
      unfold off at h0
      exact ⟨by omega, by omega, by omega, by omega, h1, h⟩
    · rw [wrongC_pace h0 h1] at h; exact absurd h h1
  · intro h
    have h0 : ¬ off c.m c.h := by
      have := h.m1; have := h.m2; have := h.h1; have := h.h2
      unfold off; omega
    rw [wrongC_uses h0 h.pace]; exact h.uses

/-! ### What comes of it -/
def allowC (c : Ca) (s t : Int) : Ca × Int :=
  if wrongC c ≠ 0 then (zeroC, wrongC c) else if s < 1 ∨ 1000000 < s ∨ t < 0 ∨ 1000000 < t then (zeroC, 3) else if c.m < c.h + s then (zeroC, 10)
  else if (addU c.p c.u (t, s)).2 ≠ 0 then (zeroC, (addU c.p c.u (t, s)).2) else (⟨c.m, c.h + s, c.p, (addU c.p c.u (t, s)).1⟩, 0)

def forceC (c : Ca) (s : Int) : Ca × Int :=
  if wrongC c ≠ 0 then (zeroC, wrongC c) else if s < 1 ∨ 1000000 < s ∨ 1000000000000 < c.h + s then (zeroC, 3) else (⟨c.m, c.h + s, c.p, c.u⟩, 0)

abbrev far (a b : Int) : Prop := a < -1000000000000 ∨ 1000000000000 < a ∨ b < -1000000000000 ∨ 1000000000000 < b

def shiftC (c : Ca) (a b : Int) : Ca × Int :=
  if wrongC c ≠ 0 then (zeroC, wrongC c) else if far a b then (zeroC, 3) else if off (c.m + b) (c.h + a) then (zeroC, 10) else (⟨c.m + b, c.h + a, c.p, c.u⟩, 0)

theorem allowC_wrong {c : Ca} {s t : Int} (h : wrongC c ≠ 0) : allowC c s t = (zeroC, wrongC c) := by unfold allowC; rw [if_pos h]
theorem forceC_wrong {c : Ca} {s : Int} (h : wrongC c ≠ 0) : forceC c s = (zeroC, wrongC c) := by unfold forceC; rw [if_pos h]
theorem shiftC_wrong {c : Ca} {a b : Int} (h : wrongC c ≠ 0) : shiftC c a b = (zeroC, wrongC c) := by unfold shiftC; rw [if_pos h]

theorem allowC_range {c : Ca} {s t : Int} (h : wrongC c = 0) (h1 : s < 1 ∨ 1000000 < s ∨ t < 0 ∨ 1000000 < t) : allowC c s t = (zeroC, 3) := by
  unfold allowC; rw [if_neg (by simpa using h), if_pos h1]
theorem allowC_funds {c : Ca} {s t : Int} (h : wrongC c = 0) (h1 : ¬ (s < 1 ∨ 1000000 < s ∨ t < 0 ∨ 1000000 < t)) (h2 : c.m < c.h + s) : allowC c s t = (zeroC, 10) := by
  unfold allowC; rw [if_neg (by simpa using h), if_neg h1, if_pos h2]
theorem allowC_add {c : Ca} {s t : Int} (h : wrongC c = 0) (h1 : ¬ (s < 1 ∨ 1000000 < s ∨ t < 0 ∨ 1000000 < t)) (h2 : ¬ c.m < c.h + s) (h3 : (addU c.p c.u (t, s)).2 ≠ 0) : allowC c s t = (zeroC, (addU c.p c.u (t, s)).2) := by
  unfold allowC; rw [if_neg (by simpa using h), if_neg h1, if_neg h2, if_pos h3]
theorem allowC_ok {c : Ca} {s t : Int} (h : wrongC c = 0) (h1 : ¬ (s < 1 ∨ 1000000 < s ∨ t < 0 ∨ 1000000 < t)) (h2 : ¬ c.m < c.h + s) (h3 : (addU c.p c.u (t, s)).2 = 0) : allowC c s t = (⟨c.m, c.h + s, c.p, (addU c.p c.u (t, s)).1⟩, 0) := by
  unfold allowC; rw [if_neg (by simpa using h), if_neg h1, if_neg h2, if_neg (by simpa using h3)]

theorem forceC_range {c : Ca} {s : Int} (h : wrongC c = 0) (h1 : s < 1 ∨ 1000000 < s ∨ 1000000000000 < c.h + s) : forceC c s = (zeroC, 3) := by
  unfold forceC; rw [if_neg (by simpa using h), if_pos h1]
theorem forceC_ok {c : Ca} {s : Int} (h : wrongC c = 0) (h1 : ¬ (s < 1 ∨ 1000000 < s ∨ 1000000000000 < c.h + s)) : forceC c s = (⟨c.m, c.h + s, c.p, c.u⟩, 0) := by
  unfold forceC; rw [if_neg (by simpa using h), if_neg h1]

theorem shiftC_range {c : Ca} {a b : Int} (h : wrongC c = 0) (h1 : far a b) : shiftC c a b = (zeroC, 3) := by
  unfold shiftC; rw [if_neg (by simpa using h), if_pos h1]
theorem shiftC_funds {c : Ca} {a b : Int} (h : wrongC c = 0) (h1 : ¬ far a b) (h2 : off (c.m + b) (c.h + a)) : shiftC c a b = (zeroC, 10) := by
  unfold shiftC; rw [if_neg (by simpa using h), if_neg h1, if_pos h2]
theorem shiftC_ok {c : Ca} {a b : Int} (h : wrongC c = 0) (h1 : ¬ far a b) (h2 : ¬ off (c.m + b) (c.h + a)) : shiftC c a b = (⟨c.m + b, c.h + a, c.p, c.u⟩, 0) := by
  unfold shiftC; rw [if_neg (by simpa using h), if_neg h1, if_neg h2]

theorem right_shift {c : Ca} {a b : Int} (h : wrongC c = 0) : wrongC ⟨c.m + b, c.h + a, c.p, c.u⟩ = 0 ↔ ¬ off (c.m + b) (c.h + a) := by
  have R := wrongC_ok.1 h
  constructor
  · intro h1 h2
    rw [wrongC_off (c := ⟨c.m + b, c.h + a, c.p, c.u⟩) h2] at h1; cases h1
  · intro h1
    rw [wrongC_uses (c := ⟨c.m + b, c.h + a, c.p, c.u⟩) h1 R.pace]; exact R.uses

theorem shift_zero {c : Ca} {a b : Int} (h : (shiftC c a b).2 = 0) : wrongC c = 0 ∧ ¬ far a b ∧ ¬ off (c.m + b) (c.h + a) ∧ shiftC c a b = (⟨c.m + b, c.h + a, c.p, c.u⟩, 0) := by
  by_cases h0 : wrongC c = 0
  · by_cases h1 : far a b
    · rw [shiftC_range h0 h1] at h; simp at h
    · by_cases h2 : off (c.m + b) (c.h + a)
      · rw [shiftC_funds h0 h1 h2] at h; simp at h
      · exact ⟨h0, h1, h2, shiftC_ok h0 h1 h2⟩
  · rw [shiftC_wrong h0] at h; exact absurd h h0

/-- Back it is as it was. -/
theorem shift_back {c : Ca} {a b : Int} (h : (shiftC c a b).2 = 0) : shiftC (shiftC c a b).1 (-a) (-b) = (c, 0) := by
  obtain ⟨h0, h1, h2, h3⟩ := shift_zero h
  rw [h3]
  have R := wrongC_ok.1 h0
  have := R.m1; have := R.m2; have := R.h1; have := R.h2
  have e1 : c.m + b + -b = c.m := by omega
  have e2 : c.h + a + -a = c.h := by omega
  have h4 : ¬ off (c.m + b + -b) (c.h + a + -a) := by rw [e1, e2]; unfold off; omega
  have h5 : ¬ far (-a) (-b) := by unfold far at h1 ⊢; omega
  rw [shiftC_ok ((right_shift h0).2 h2) h5 h4]
  dsimp only
  rw [e1, e2]

/-- In two steps, or at once. -/
theorem shift_two {c : Ca} {a b m n : Int} (h : (shiftC c a m).2 = 0) (h' : (shiftC (shiftC c a m).1 b n).2 = 0) :
    (shiftC c (a + b) (m + n)).2 = 3 ∨ shiftC c (a + b) (m + n) = shiftC (shiftC c a m).1 b n := by
  obtain ⟨h0, h1, h2, h3⟩ := shift_zero h
  rw [h3] at h' ⊢
  obtain ⟨k0, k1, k2, k3⟩ := shift_zero h'
  dsimp only at k0 k1 k2 k3 ⊢
  by_cases h4 : far (a + b) (m + n)
  · left; rw [shiftC_range h0 h4]
  · right
    have e1 : c.m + (m + n) = c.m + m + n := by omega
    have e2 : c.h + (a + b) = c.h + a + b := by omega
    rw [k3, shiftC_ok h0 h4 (by rw [e1, e2]; exact k2), e1, e2]

/-! ### A list that was right stays right with one more behind those that count -/
theorem usesGo_zero (L : List (Int × Int)) : ∀ (prev : Option Int) (i : Nat), (usesGo prev i L).1 = 0 ↔ (∀ u ∈ L, inU u = true) ∧ L.Pairwise (fun a b => a.1 ≤ b.1) ∧ ∀ q, prev = some q → ∀ u ∈ L, q ≤ u.1 := by
  induction L with
  | nil => intro prev i; simp [usesGo]
  | cons e r ih =>
    intro prev i
    unfold usesGo
    cases he : inU e with
    | false => simp [he]
    | true =>
      rw [if_neg (by simp)]
      cases prev with
      | none =>
        dsimp only
        rw [ih]
        simp only [List.mem_cons, forall_eq_or_imp, List.pairwise_cons, Option.some.injEq, he, true_and]
        constructor
        · rintro ⟨h1, h2, h3⟩
          exact ⟨h1, ⟨h3 e.1 rfl, h2⟩, fun q hq => by cases hq⟩
        · rintro ⟨h1, ⟨h2, h3⟩, -⟩
          exact ⟨h1, h3, fun q hq => by subst hq; exact h2⟩
      | some q =>
        dsimp only
        by_cases hq : e.1 < q
        · rw [if_pos hq]
          simp only [List.mem_cons, forall_eq_or_imp, Option.some.injEq]
          constructor
          · intro h; simp at h
          · rintro ⟨-, -, h3⟩
            have := (h3 q rfl).1
            omega
        · rw [if_neg hq, ih]
          simp only [List.mem_cons, forall_eq_or_imp, List.pairwise_cons, Option.some.injEq, he, true_and]
          constructor
          · rintro ⟨h1, h2, h3⟩
            refine ⟨h1, ⟨h3 e.1 rfl, h2⟩, fun q' hq' => ?_⟩
            subst hq'
            exact ⟨by omega, fun u hu => by have := h3 e.1 rfl u hu; omega⟩
          · rintro ⟨h1, ⟨h2, h3⟩, -⟩
            exact ⟨h1, h3, fun q' hq' => by subst hq'; exact h2⟩

theorem uses_zero (L : List (Int × Int)) : (uses L).1 = 0 ↔ L.length ≤ 30 ∧ (∀ u ∈ L, inU u = true) ∧ L.Pairwise (fun a b => a.1 ≤ b.1) := by
  unfold uses
  by_cases h : 30 < L.length
  · rw [if_pos h]
    constructor
    · intro h1; simp at h1
    · intro h1; omega
  · rw [if_neg h, usesGo_zero]
    constructor
    · rintro ⟨h1, h2, -⟩; exact ⟨by omega, h1, h2⟩
    · rintro ⟨-, h1, h2⟩; exact ⟨h1, h2, fun q hq => by cases hq⟩

theorem last_most {L : List (Int × Int)} (h : L.Pairwise (fun a b => a.1 ≤ b.1)) : ∀ u ∈ L, u.1 ≤ (L.getD (L.length - 1) (0, 0)).1 := by
  intro u hu
  obtain ⟨i, hi, rfl⟩ := List.mem_iff_getElem.1 hu
  have hg : L.getD (L.length - 1) (0, 0) = L[L.length - 1] := by simp [List.getD, show L.length - 1 < L.length by omega]
  rw [hg]
  by_cases he : i = L.length - 1
  · subst he; exact Int.le_refl _
  · exact List.pairwise_iff_getElem.1 h i (L.length - 1) hi (by omega) (by omega)

theorem uses_out {p : Pa} {L : List (Int × Int)} {x : Int × Int} (h : (addU p L x).2 = 0) (hu : (uses L).1 = 0) : (uses (addU p L x).1).1 = 0 := by
  obtain ⟨h1, h2, h3, h4⟩ := addU_zero h
  have f := wrongAdd_ok h1
  have hc := f.pace.c2
  obtain ⟨-, -, u3⟩ := (uses_zero L).1 hu
  rw [h4, uses_zero]
  refine ⟨by dsimp only; omega, out_all f, ?_⟩
  show (recent _ _ ++ [x]).Pairwise _
  rw [List.pairwise_append]
  refine ⟨u3.filter _, by simp, fun a ha b hb => ?_⟩
  simp at hb
  subst hb
  have hm := recent_mem ha
  have := last_most u3 a hm
  have := f.last (List.length_pos_of_mem hm)
  omega

/-- What is allowed was free, and then there is so much less. -/
theorem allow_zero {c : Ca} {s t : Int} (h : (allowC c s t).2 = 0) :
    RightC c ∧ 1 ≤ s ∧ s ≤ 1000000 ∧ c.h + s ≤ c.m ∧ wrongC (allowC c s t).1 = 0 ∧ (allowC c s t).1.m = c.m ∧ (allowC c s t).1.h = c.h + s := by
  by_cases h0 : wrongC c = 0
  rotate_left
  · rw [allowC_wrong h0] at h; exact absurd h h0
  by_cases h1 : s < 1 ∨ 1000000 < s ∨ t < 0 ∨ 1000000 < t
  · rw [allowC_range h0 h1] at h; simp at h
  by_cases h2 : c.m < c.h + s
  · rw [allowC_funds h0 h1 h2] at h; simp at h
  by_cases h3 : (addU c.p c.u (t, s)).2 = 0
  rotate_left
  · rw [allowC_add h0 h1 h2 h3] at h; exact absurd h h3
  rw [allowC_ok h0 h1 h2 h3]
  have R := wrongC_ok.1 h0
  have := R.m1; have := R.m2; have := R.h1; have := R.h2
  refine ⟨R, by omega, by omega, by omega, ?_, rfl, rfl⟩
  exact wrongC_ok.2 ⟨by dsimp only; omega, by dsimp only; omega, by dsimp only; omega, by dsimp only; omega, R.pace, uses_out h3 R.uses⟩

theorem wrongP_not {p : Pa} (n : Int) (h : n ≠ 3) (h0 : n ≠ 0) : wrongP p ≠ n := by unfold wrongP; split <;> omega

theorem usesGo_err (L : List (Int × Int)) : ∀ (prev : Option Int) (i : Nat), (usesGo prev i L).1 ≤ 3 := by
  induction L with
  | nil => intro _ _; simp [usesGo]
  | cons e r ih =>
    intro prev i
    unfold usesGo
    split
    · simp
    · cases prev with
      | none => exact ih _ _
      | some q =>
        dsimp only
        split
        · simp
        · exact ih _ _
theorem uses_err (L : List (Int × Int)) : (uses L).1 ≤ 5 := by
  unfold uses
  split
  · simp
  · have := usesGo_err L none 0; omega
theorem wrongC_err (c : Ca) : wrongC c ≤ 5 := by
  by_cases h0 : off c.m c.h
  · rw [wrongC_off h0]; omega
  by_cases h1 : wrongP c.p = 0
  · rw [wrongC_uses h0 h1]; exact uses_err _
  · rw [wrongC_pace h0 h1]; unfold wrongP; split <;> omega
theorem addU_err (p : Pa) (L : List (Int × Int)) (x : Int × Int) : (addU p L x).2 ≠ 10 := by
  unfold addU
  split
  · show wrongAdd p L x ≠ 10
    unfold wrongAdd
    split
    · exact wrongP_not 10 (by decide) (by decide)
    · split
      · have := uses_err L; omega
      · split
        · decide
        · split <;> decide
  · split <;> simp

/-- What is refused comes with nothing; where it is for want of money, there isn't so much free. -/
theorem allow_not {c : Ca} {s t : Int} (h : (allowC c s t).2 ≠ 0) : (allowC c s t).1 = zeroC ∧ ((allowC c s t).2 = 10 → RightC c ∧ c.m < c.h + s) := by
  by_cases h0 : wrongC c = 0
  rotate_left
  · rw [allowC_wrong h0]
    exact ⟨rfl, fun h5 => by have := wrongC_err c; dsimp only at h5; omega⟩
  by_cases h1 : s < 1 ∨ 1000000 < s ∨ t < 0 ∨ 1000000 < t
  · rw [allowC_range h0 h1]; exact ⟨rfl, fun h5 => by simp at h5⟩
  by_cases h2 : c.m < c.h + s
  · rw [allowC_funds h0 h1 h2]; exact ⟨rfl, fun _ => ⟨wrongC_ok.1 h0, h2⟩⟩
  by_cases h3 : (addU c.p c.u (t, s)).2 = 0
  · rw [allowC_ok h0 h1 h2 h3] at h; simp at h
  · rw [allowC_add h0 h1 h2 h3]; exact ⟨rfl, fun h5 => absurd h5 (addU_err _ _ _)⟩

theorem force_not {c : Ca} {s : Int} (h : (forceC c s).2 ≠ 0) : (forceC c s).1 = zeroC := by
  by_cases h0 : wrongC c = 0
  · by_cases h1 : s < 1 ∨ 1000000 < s ∨ 1000000000000 < c.h + s
    · rw [forceC_range h0 h1]
    · rw [forceC_ok h0 h1] at h; simp at h
  · rw [forceC_wrong h0]

theorem force_zero {c : Ca} {s : Int} (h : (forceC c s).2 = 0) : RightC c ∧ 1 ≤ s ∧ s ≤ 1000000 ∧ (forceC c s).1 = ⟨c.m, c.h + s, c.p, c.u⟩ := by
  by_cases h0 : wrongC c = 0
  · by_cases h1 : s < 1 ∨ 1000000 < s ∨ 1000000000000 < c.h + s
    · rw [forceC_range h0 h1] at h; simp at h
    · rw [forceC_ok h0 h1]; exact ⟨wrongC_ok.1 h0, by omega, by omega, rfl⟩
  · rw [forceC_wrong h0] at h; exact absurd h h0
end Go.Proofs.Ytdifndnogpcbkaa
