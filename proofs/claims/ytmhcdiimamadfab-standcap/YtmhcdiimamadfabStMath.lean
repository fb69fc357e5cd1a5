/- Stands and advices as plain numbers: what is wrong with them, what comes of what is given, and cleared. No program here. -/
namespace Go.Proofs.Ytmhcdiimamadfab.St

/-- An advice. -/
structure Ad where
  c : Int
  s : Int
  m : Int
  t : Int

/-- A stand. -/
structure Sd where
  cap : Int
  used : List Int
  adv : List Ad

def zA : Ad := ⟨0, 0, 0, 0⟩
def zD : Sd := ⟨0, [], []⟩

abbrev Lim (n : Int) : Prop := 0 ≤ n ∧ n ≤ 1000000
abbrev Fits (a : Ad) (n : Int) : Prop := 0 ≤ a.c ∧ a.c < n ∧ 0 ≤ a.s ∧ a.s < 8 ∧ 1 ≤ a.m ∧ a.m ≤ 1000000 ∧ 0 ≤ a.t ∧ a.t ≤ 1000000

def limB (n : Int) : Bool := decide (Lim n)
theorem limB_true {n : Int} (h : Lim n) : limB n = true := decide_eq_true h
theorem limB_false {n : Int} (h : ¬ Lim n) : limB n = false := decide_eq_false h
def fitsB (a : Ad) (n : Int) : Bool := decide (Fits a n)
theorem fitsB_true {a : Ad} {n : Int} (h : Fits a n) : fitsB a n = true := decide_eq_true h
theorem fitsB_false {a : Ad} {n : Int} (h : ¬ Fits a n) : fitsB a n = false := decide_eq_false h

/-- What card k was given. -/
def sumOf (k : Int) : List Ad → Int
  | [] => 0
  | a :: r => (if a.c = k then a.m else 0) + sumOf k r

/-- What n cards were given. -/
def sums (n : Nat) (G : List Ad) : List Int := (List.range n).map fun (i : Nat) => sumOf (i : Int) G

/-- Of a right stand's cards each has what its advices have, and no more than the cap. -/
abbrev Fit (s : Sd) (i : Nat) : Prop := s.used.getD i 0 = sumOf (i : Int) s.adv ∧ sumOf (i : Int) s.adv ≤ s.cap

def wrongD (s : Sd) : Int :=
  if 8 < s.used.length ∨ 20 < s.adv.length then 5
  else if ¬ Lim s.cap then 3
  else if ∃ i : Nat, i < s.adv.length ∧ ¬ Fits (s.adv.getD i zA) s.used.length then 3
  else if ∃ i : Nat, i < s.used.length ∧ ¬ Fit s i then 8
  else 0

def newD (limit cards : Int) : Sd × Int :=
  if cards < 0 ∨ 8 < cards then (zD, 5) else if ¬ Lim limit then (zD, 3) else (⟨limit, List.replicate cards.toNat 0, []⟩, 0)

/-- The stand with an advice more. -/
def moreD (s : Sd) (a : Ad) : Sd := ⟨s.cap, s.used.set a.c.toNat (s.used.getD a.c.toNat 0 + a.m), s.adv ++ [a]⟩

def giveD (s : Sd) (a : Ad) : Sd × Int :=
  if wrongD s ≠ 0 then (zD, wrongD s)
  else if s.adv.length = 20 then (zD, 5)
  else if ¬ Fits a s.used.length then (zD, 3)
  else if s.cap < s.used.getD a.c.toNat 0 + a.m then (zD, 10)
  else (moreD s a, 0)

/-! ### What is wrong -/
theorem wrong_many {s : Sd} (h : 8 < s.used.length ∨ 20 < s.adv.length) : wrongD s = 5 := by unfold wrongD; rw [if_pos h]
theorem wrong_cap {s : Sd} (h1 : s.used.length ≤ 8) (h2 : s.adv.length ≤ 20) (h : ¬ Lim s.cap) : wrongD s = 3 := by
  unfold wrongD; rw [if_neg (by omega), if_pos h]
theorem wrong_adv {s : Sd} (h1 : s.used.length ≤ 8) (h2 : s.adv.length ≤ 20) (h3 : Lim s.cap) {i : Nat} (hi : i < s.adv.length) (h : ¬ Fits (s.adv.getD i zA) s.used.length) : wrongD s = 3 := by
  unfold wrongD; rw [if_neg (by omega), if_neg (by omega), if_pos ⟨i, hi, h⟩]
/-- The first so many advices are right. -/
def GoodA (s : Sd) (k : Nat) : Prop := ∀ i : Nat, i < k → Fits (s.adv.getD i zA) s.used.length
/-- The first so many cards are right. -/
def GoodU (s : Sd) (k : Nat) : Prop := ∀ i : Nat, i < k → Fit s i
theorem goodA_zero (s : Sd) : GoodA s 0 := fun _ h => absurd h (Nat.not_lt_zero _)
theorem goodU_zero (s : Sd) : GoodU s 0 := fun _ h => absurd h (Nat.not_lt_zero _)
theorem GoodA.next {s : Sd} {k : Nat} (g : GoodA s k) (h : Fits (s.adv.getD k zA) s.used.length) : GoodA s (k + 1) := fun i hi => by
  rcases Nat.lt_or_ge i k with h1 | h1
  · exact g i h1
  · obtain rfl : i = k := by omega
    exact h
theorem GoodU.next {s : Sd} {k : Nat} (g : GoodU s k) (h : Fit s k) : GoodU s (k + 1) := fun i hi => by
  rcases Nat.lt_or_ge i k with h1 | h1
  · exact g i h1
  · obtain rfl : i = k := by omega
    exact h
theorem wrong_fit {s : Sd} (h1 : s.used.length ≤ 8) (h2 : s.adv.length ≤ 20) (h3 : Lim s.cap) (g : GoodA s s.adv.length) {i : Nat} (hi : i < s.used.length) (h : ¬ Fit s i) : wrongD s = 8 := by
  unfold wrongD; rw [if_neg (by omega), if_neg (by omega), if_neg (fun ⟨j, hj, hn⟩ => hn (g j hj)), if_pos ⟨i, hi, h⟩]
theorem wrong_none {s : Sd} (h1 : s.used.length ≤ 8) (h2 : s.adv.length ≤ 20) (h3 : Lim s.cap) (g : GoodA s s.adv.length) (u : GoodU s s.used.length) : wrongD s = 0 := by
  unfold wrongD; rw [if_neg (by omega), if_neg (by omega), if_neg (fun ⟨j, hj, hn⟩ => hn (g j hj)), if_neg (fun ⟨j, hj, hn⟩ => hn (u j hj))]

structure Right (s : Sd) : Prop where
  u8 : s.used.length ≤ 8
  a20 : s.adv.length ≤ 20
  lim : Lim s.cap
  adv : GoodA s s.adv.length
  fit : GoodU s s.used.length

theorem right_of {s : Sd} (h : wrongD s = 0) : Right s := by
  unfold wrongD at h
  by_cases h1 : 8 < s.used.length ∨ 20 < s.adv.length
  · rw [if_pos h1] at h; cases h
  rw [if_neg h1] at h
  by_cases h2 : ¬ Lim s.cap
  · rw [if_pos h2] at h; cases h
  rw [if_neg h2] at h
  by_cases h3 : ∃ i : Nat, i < s.adv.length ∧ ¬ Fits (s.adv.getD i zA) s.used.length
  · rw [if_pos h3] at h; cases h
  rw [if_neg h3] at h
  by_cases h4 : ∃ i : Nat, i < s.used.length ∧ ¬ Fit s i
  · rw [if_pos h4] at h; cases h
  exact ⟨by omega, by omega, Decidable.not_not.1 h2, fun i hi => Decidable.byContradiction fun hn => h3 ⟨i, hi, hn⟩, fun i hi => Decidable.byContradiction fun hn => h4 ⟨i, hi, hn⟩⟩
theorem Right.wrong {s : Sd} (r : Right s) : wrongD s = 0 := wrong_none r.u8 r.a20 r.lim r.adv r.fit

/-! ### Sums -/
theorem sumOf_append (k : Int) (G : List Ad) (a : Ad) : sumOf k (G ++ [a]) = sumOf k G + (if a.c = k then a.m else 0) := by
  induction G with
  | nil => simp [sumOf]
  | cons x r ih => simp only [List.cons_append, sumOf, ih]; omega
theorem take_at {L : List Ad} {k : Nat} (hk : k < L.length) : L.take (k + 1) = L.take k ++ [L.getD k zA] := by
  rw [List.take_add_one]; simp [List.getD, hk]
theorem sums_length (n : Nat) (G : List Ad) : (sums n G).length = n := by simp [sums]
theorem sums_at (n : Nat) (G : List Ad) {i : Nat} (h : i < n) : (sums n G)[i]? = some (sumOf (i : Int) G) := by simp [sums, h]
theorem sums_getD (n : Nat) (G : List Ad) {i : Nat} (h : i < n) : (sums n G).getD i 0 = sumOf (i : Int) G := by simp [List.getD, sums_at n G h]
theorem sums_nil (n : Nat) : sums n [] = List.replicate n 0 := by
  apply List.ext_getElem?
  intro j
  by_cases hj : j < n <;> simp [sums, sumOf, hj]
theorem sums_more (n : Nat) (G : List Ad) (a : Ad) (h0 : 0 ≤ a.c) : (sums n G).set a.c.toNat (sumOf a.c G + a.m) = sums n (G ++ [a]) := by
  apply List.ext_getElem?
  intro j
  rw [List.getElem?_set]
  by_cases hj : j < n
  · rw [sums_at n _ hj, sums_at n _ hj, sums_length, sumOf_append]
    by_cases e : a.c.toNat = j
    · have e' : a.c = (j : Int) := by omega
      rw [if_pos e, if_pos (by omega), if_pos e', e']
    · have e' : ¬ a.c = (j : Int) := by omega
      rw [if_neg e, if_neg e']; simp
  · have h1 : ∀ M, (sums n M)[j]? = none := fun M => List.getElem?_eq_none (by rw [sums_length]; omega)
    rw [h1, h1, sums_length]
    by_cases e : a.c.toNat = j
    · rw [if_pos e, if_neg (by omega)]
    · rw [if_neg e]

/-- What right advices give stays small. -/
theorem sumOf_small {k n : Int} {G : List Ad} (h : ∀ a ∈ G, Fits a n) : 0 ≤ sumOf k G ∧ sumOf k G ≤ 1000000 * G.length := by
  induction G with
  | nil => simp [sumOf]
  | cons a r ih =>
    have h1 := ih fun x hx => h x (List.mem_cons_of_mem _ hx)
    have h2 := h a List.mem_cons_self
    simp only [sumOf, List.length_cons]
    split <;> omega
theorem getD_at {α : Type} {L : List α} {i : Nat} (h : i < L.length) (d : α) : L.getD i d = L[i] := by simp [List.getD, h]
theorem GoodA.each {s : Sd} (g : GoodA s s.adv.length) : ∀ a ∈ s.adv, Fits a s.used.length := fun a ha => by
  obtain ⟨i, hi, rfl⟩ := List.getElem_of_mem ha
  have := g i hi
  rwa [getD_at hi] at this
theorem GoodA.small {s : Sd} (g : GoodA s s.adv.length) (h : s.adv.length ≤ 20) (k : Int) (j : Nat) : 0 ≤ sumOf k (s.adv.take j) ∧ sumOf k (s.adv.take j) ≤ 20000000 := by
  have h1 := sumOf_small (k := k) (n := s.used.length) (G := s.adv.take j) fun a ha => g.each a (List.mem_of_mem_take ha)
  have h2 : (s.adv.take j).length ≤ 20 := by simp; omega
  omega

/-! ### Stands that give -/
def st (limit : Int) (n : Nat) (G : List Ad) : Sd := ⟨limit, sums n G, G⟩

theorem Right.st {s : Sd} (r : Right s) : s.used = sums s.used.length s.adv := by
  apply List.ext_getElem?
  intro j
  by_cases hj : j < s.used.length
  · rw [sums_at _ _ hj, List.getElem?_eq_getElem hj]
    have := (r.fit j hj).1
    rw [getD_at hj] at this
    rw [this]
  · rw [List.getElem?_eq_none (by omega), List.getElem?_eq_none (by rw [sums_length]; omega)]

theorem Right.more {s : Sd} (r : Right s) {a : Ad} (h1 : s.adv.length ≠ 20) (h2 : Fits a s.used.length) (h3 : ¬ s.cap < s.used.getD a.c.toNat 0 + a.m) : Right (moreD s a) := by
  have hst := r.st
  have hu : (moreD s a).used = sums s.used.length (s.adv ++ [a]) := by
    show s.used.set a.c.toNat (s.used.getD a.c.toNat 0 + a.m) = _
    have hc : s.used.getD a.c.toNat 0 = sumOf a.c s.adv := by
      have := (r.fit a.c.toNat (by omega)).1
      rw [this, show ((a.c.toNat : Nat) : Int) = a.c by omega]
    rw [hc, ← sums_more _ _ _ h2.1, ← hst]
  have hl : (moreD s a).used.length = s.used.length := by simp [moreD]
  have ha : (moreD s a).adv = s.adv ++ [a] := rfl
  refine ⟨by rw [hl]; exact r.u8, by rw [ha]; simp; have := r.a20; omega, r.lim, fun i hi => ?_, fun i hi => ?_⟩
  · rw [hl, ha]
    rw [ha] at hi
    simp at hi
    by_cases hi2 : i < s.adv.length
    · have := r.adv i hi2
      have e : (s.adv ++ [a]).getD i zA = s.adv.getD i zA := by simp [List.getD, List.getElem?_append_left hi2]
      rw [e]; exact this
    · obtain rfl : i = s.adv.length := by omega
      have e : (s.adv ++ [a]).getD s.adv.length zA = a := by simp [List.getD]
      rw [e]; exact h2
  · rw [hl] at hi
    unfold Fit
    rw [hu, sums_getD _ _ hi, ha]
    refine ⟨rfl, ?_⟩
    show sumOf (i : Int) (s.adv ++ [a]) ≤ s.cap
    rw [sumOf_append]
    obtain ⟨f1, f2⟩ := r.fit i hi
    by_cases e : a.c = (i : Int)
    · rw [if_pos e, ← f1]
      have : a.c.toNat = i := by omega
      rw [this] at h3
      omega
    · rw [if_neg e]; omega

theorem give_bad {s : Sd} {a : Ad} (h : wrongD s ≠ 0) : giveD s a = (zD, wrongD s) := by unfold giveD; rw [if_pos h]
theorem give_many {s : Sd} {a : Ad} (h : wrongD s = 0) (h1 : s.adv.length = 20) : giveD s a = (zD, 5) := by unfold giveD; rw [if_neg (by simpa using h), if_pos h1]
theorem give_range {s : Sd} {a : Ad} (h : wrongD s = 0) (h1 : s.adv.length ≠ 20) (h2 : ¬ Fits a s.used.length) : giveD s a = (zD, 3) := by unfold giveD; rw [if_neg (by simpa using h), if_neg h1, if_pos h2]
theorem give_funds {s : Sd} {a : Ad} (h : wrongD s = 0) (h1 : s.adv.length ≠ 20) (h2 : Fits a s.used.length) (h3 : s.cap < s.used.getD a.c.toNat 0 + a.m) : giveD s a = (zD, 10) := by
  unfold giveD; rw [if_neg (by simpa using h), if_neg h1, if_neg (by simpa using h2), if_pos h3]
theorem give_ok {s : Sd} {a : Ad} (h : wrongD s = 0) (h1 : s.adv.length ≠ 20) (h2 : Fits a s.used.length) (h3 : ¬ s.cap < s.used.getD a.c.toNat 0 + a.m) : giveD s a = (moreD s a, 0) := by
  unfold giveD; rw [if_neg (by simpa using h), if_neg h1, if_neg (by simpa using h2), if_neg h3]

/-- What is given was right, and leaves the stand right. -/
theorem give_right {s : Sd} {a : Ad} (r : Right s) (h : (giveD s a).2 = 0) : giveD s a = (moreD s a, 0) ∧ Right (moreD s a) := by
  have hw := r.wrong
  by_cases h1 : s.adv.length = 20
  · rw [give_many hw h1] at h; cases h
  by_cases h2 : Fits a s.used.length
  · by_cases h3 : s.cap < s.used.getD a.c.toNat 0 + a.m
    · rw [give_funds hw h1 h2 h3] at h; cases h
    · exact ⟨give_ok hw h1 h2 h3, r.more h1 h2 h3⟩
  · rw [give_range hw h1 h2] at h; cases h

theorem new_many {limit cards : Int} (h : cards < 0 ∨ 8 < cards) : newD limit cards = (zD, 5) := by unfold newD; rw [if_pos h]
theorem new_range {limit cards : Int} (h : ¬ (cards < 0 ∨ 8 < cards)) (h1 : ¬ Lim limit) : newD limit cards = (zD, 3) := by unfold newD; rw [if_neg h, if_pos h1]
theorem new_ok {limit cards : Int} (h : ¬ (cards < 0 ∨ 8 < cards)) (h1 : Lim limit) : newD limit cards = (⟨limit, List.replicate cards.toNat 0, []⟩, 0) := by
  unfold newD; rw [if_neg h, if_neg (by simpa using h1)]
theorem new_right {limit : Int} {n : Nat} (h : n ≤ 8) (h1 : Lim limit) : Right ⟨limit, List.replicate n 0, []⟩ := by
  refine ⟨by simpa using h, by simp, h1, fun i hi => absurd hi (Nat.not_lt_zero _), fun i hi => ?_⟩
  simp at hi
  unfold Fit
  have : (List.replicate n (0 : Int)).getD i 0 = 0 := by simp [List.getD, hi]
  show (List.replicate n (0 : Int)).getD i 0 = 0 ∧ (0 : Int) ≤ limit
  exact ⟨this, h1.1⟩
end Go.Proofs.Ytmhcdiimamadfab.St
