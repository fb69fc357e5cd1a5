/- The plain mathematics of permissions: what is wrong with one, and what becomes of it. No program. -/
import Derived.KernelRfl
namespace Go.Proofs.Ytolfddiofcllcaa

/-- A permission. -/
structure Au where
  card : Int
  shop : Int
  sum : Int
  cap : Int
  ref : Int
  dis : Int
  till : Int
  shut : Bool

theorem Au.same {a b : Au} (h1 : a.card = b.card) (h2 : a.shop = b.shop) (h3 : a.sum = b.sum) (h4 : a.cap = b.cap) (h5 : a.ref = b.ref) (h6 : a.dis = b.dis) (h7 : a.till = b.till) (h8 : a.shut = b.shut) : a = b := by
  cases a; cases b; simp only at h1 h2 h3 h4 h5 h6 h7 h8; subst h1 h2 h3 h4 h5 h6 h7 h8; rfl

def none0 : Au := ⟨0, 0, 0, 0, 0, 0, 0, false⟩

def isS (n : Int) : Bool := decide (0 ≤ n) && decide (n ≤ 1000000)
def isM (n : Int) : Bool := decide (1 ≤ n) && decide (n ≤ 1000000)
def isC (n : Int) : Bool := decide (0 ≤ n) && decide (n < 8)

theorem isS_true {n : Int} : isS n = true ↔ 0 ≤ n ∧ n ≤ 1000000 := by unfold isS; simp
theorem isM_true {n : Int} : isM n = true ↔ 1 ≤ n ∧ n ≤ 1000000 := by unfold isM; simp
theorem isC_true {n : Int} : isC n = true ↔ 0 ≤ n ∧ n < 8 := by unfold isC; simp
theorem isS_false {n : Int} : isS n = false ↔ ¬ (0 ≤ n ∧ n ≤ 1000000) := by rw [← isS_true]; simp
theorem isM_false {n : Int} : isM n = false ↔ ¬ (1 ≤ n ∧ n ≤ 1000000) := by rw [← isM_true]; simp
theorem isC_false {n : Int} : isC n = false ↔ ¬ (0 ≤ n ∧ n < 8) := by rw [← isC_true]; simp

abbrev Rng (a : Au) : Prop :=
  (0 ≤ a.sum ∧ a.sum ≤ 1000000) ∧ (0 ≤ a.cap ∧ a.cap ≤ 1000000) ∧ (0 ≤ a.ref ∧ a.ref ≤ 1000000) ∧ (0 ≤ a.dis ∧ a.dis ≤ 1000000) ∧ (0 ≤ a.card ∧ a.card < 8) ∧ (0 ≤ a.shop ∧ a.shop < 8) ∧ 0 ≤ a.till ∧ a.till ≤ 1000100
abbrev Fit (a : Au) : Prop := a.cap ≤ a.sum ∧ a.ref + a.dis ≤ a.cap

def wrongA (a : Au) : Int := if Rng a then (if Fit a then 0 else 8) else 3

theorem wrongA_ok {a : Au} : wrongA a = 0 ↔ Rng a ∧ Fit a := by
  unfold wrongA
  by_cases h : Rng a
  · rw [if_pos h]
    by_cases h2 : Fit a
    · rw [if_pos h2]; exact ⟨fun _ => ⟨h, h2⟩, fun _ => rfl⟩
    · rw [if_neg h2]; exact ⟨fun e => absurd e (by decide), fun e => absurd e.2 h2⟩
  · rw [if_neg h]; exact ⟨fun e => absurd e (by decide), fun e => absurd e.1 h⟩
theorem wrongA_rng {a : Au} (h : ¬ Rng a) : wrongA a = 3 := by unfold wrongA; rw [if_neg h]
theorem wrongA_fit {a : Au} (h : Rng a) (h2 : ¬ Fit a) : wrongA a = 8 := by unfold wrongA; rw [if_pos h, if_neg h2]

/-- How much there may be of a kind. -/
def room (a : Au) (k : Int) : Int :=
  if k = 1 then 1000000 - a.sum else if k ≤ 4 then a.sum - a.cap else if k ≤ 6 then a.cap - a.ref - a.dis else a.dis

def mvErr (a : Au) (k n : Int) : Int :=
  if wrongA a ≠ 0 then wrongA a
  else if k < 1 ∨ 8 < k then 1
  else if n < 1 ∨ 1000000 < n then 3
  else if a.shut = true ∧ k ≤ 4 then 9
  else if n ≤ room a k then 0
  else if k = 1 then 4 else 10

def step (a : Au) (k n : Int) : Au :=
  if k = 1 then ⟨a.card, a.shop, a.sum + n, a.cap, a.ref, a.dis, a.till, a.shut⟩
  else if k = 2 then ⟨a.card, a.shop, a.sum, a.cap + n, a.ref, a.dis, a.till, a.cap + n == a.sum⟩
  else if k = 3 then ⟨a.card, a.shop, a.sum, a.cap + n, a.ref, a.dis, a.till, true⟩
  else if k = 4 then ⟨a.card, a.shop, a.sum - n, a.cap, a.ref, a.dis, a.till, a.cap == a.sum - n⟩
  else if k = 5 then ⟨a.card, a.shop, a.sum, a.cap, a.ref + n, a.dis, a.till, a.shut⟩
  else if k = 6 then ⟨a.card, a.shop, a.sum, a.cap, a.ref, a.dis + n, a.till, a.shut⟩
  else if k = 7 then ⟨a.card, a.shop, a.sum, a.cap, a.ref + n, a.dis - n, a.till, a.shut⟩
  else ⟨a.card, a.shop, a.sum, a.cap, a.ref, a.dis - n, a.till, a.shut⟩

def mv (a : Au) (k n : Int) : Au × Int := if mvErr a k n = 0 then (step a k n, 0) else (none0, mvErr a k n)

theorem mv_no {a : Au} {k n : Int} (h : mvErr a k n ≠ 0) : mv a k n = (none0, mvErr a k n) := by unfold mv; rw [if_neg h]
theorem mv_yes {a : Au} {k n : Int} (h : mvErr a k n = 0) : mv a k n = (step a k n, 0) := by unfold mv; rw [if_pos h]

/-- What it takes that something may be done. -/
abbrev May (a : Au) (k n : Int) : Prop :=
  Rng a ∧ Fit a ∧ 1 ≤ k ∧ k ≤ 8 ∧ 1 ≤ n ∧ n ≤ 1000000 ∧ (k ≤ 4 → a.shut = false) ∧ n ≤ room a k

theorem mvErr_zero {a : Au} {k n : Int} : mvErr a k n = 0 ↔ May a k n := by
  unfold mvErr May
  rw [← and_assoc, ← wrongA_ok]
  by_cases h1 : wrongA a = 0
  · rw [if_neg (by simpa using h1)]
    by_cases h2 : k < 1 ∨ 8 < k
    · rw [if_pos h2]; constructor
      · intro h; simp at h
      · rintro ⟨-, p, q, -⟩; omega
    · rw [if_neg h2]
      by_cases h3 : n < 1 ∨ 1000000 < n
      · rw [if_pos h3]; constructor
        · intro h; simp at h
        · rintro ⟨-, -, -, p, q, -⟩; omega
      · rw [if_neg h3]
        by_cases h4 : a.shut = true ∧ k ≤ 4
        · rw [if_pos h4]; constructor
          · intro h; simp at h
          · rintro ⟨-, -, -, -, -, p, -⟩; have := p h4.2; rw [h4.1] at this; cases this
        · rw [if_neg h4]
          have h4' : k ≤ 4 → a.shut = false := fun h => by
            cases hs : a.shut
            · rfl
            · exact absurd ⟨hs, h⟩ h4
          by_cases h5 : n ≤ room a k
          · rw [if_pos h5]; exact ⟨fun _ => ⟨h1, by omega, by omega, by omega, by omega, h4', h5⟩, fun _ => rfl⟩
          · rw [if_neg h5]; constructor
            · intro h; split at h <;> simp at h
            · rintro ⟨-, -, -, -, -, -, p⟩; exact absurd p h5
  · rw [if_pos h1]; constructor
    · intro h; exact absurd h h1
    · rintro ⟨h, -⟩; exact absurd h h1

/-- What is new. -/
def newA (card shop n time : Int) : Au × Int :=
  if (1 ≤ n ∧ n ≤ 1000000) ∧ 0 ≤ time ∧ time ≤ 1000000 ∧ (0 ≤ card ∧ card < 8) ∧ 0 ≤ shop ∧ shop < 8 then (⟨card, shop, n, 0, 0, 0, time + 100, false⟩, 0) else (none0, 3)

def holdA (a : Au) : Int := if a.shut = true then 0 else a.sum - a.cap

def lateA (a : Au) (time : Int) : Au := ⟨a.card, a.shop, a.sum, a.cap, a.ref, a.dis, a.till, a.shut || decide (a.till ≤ time)⟩
end Go.Proofs.Ytolfddiofcllcaa
