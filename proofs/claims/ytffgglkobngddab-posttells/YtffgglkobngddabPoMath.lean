/- Transfers and senders as plain numbers: what is wrong with them, what comes of what is put, told back, and taken. No program here. -/
namespace Go.Proofs.Ytffgglkobngddab.Po

/-- A transfer. -/
structure Tr where
  n : Int
  k : Int
  a : Int
  s : Int

/-- A sender. -/
structure Se where
  sent : Int
  kept : List Tr

def zeroT : Tr := ⟨0, 0, 0, 0⟩
def zeroS : Se := ⟨0, []⟩

/-- No such kind. -/
abbrev noKind (k : Int) : Prop := k ≠ 1 ∧ k ≠ 2 ∧ k ≠ 3
/-- Out of range. -/
abbrev far (a s : Int) : Prop := a < 0 ∨ 30 ≤ a ∨ s < 1 ∨ 1000000 < s

def wrongT (t : Tr) (m : Int) : Int := if noKind t.k then 1 else if far t.a t.s then 3 else if t.n ≠ m then 2 else 0

def wrongGo (i : Nat) (m : Int) : List Tr → Int × Int
  | [] => (0, 0)
  | t :: r => if wrongT t m ≠ 0 then (wrongT t m, i) else wrongGo (i + 1) (m + 1) r

def wrongS (s : Se) : Int × Int :=
  if 40 < s.kept.length then (5, 0) else if s.sent < s.kept.length ∨ 1000000 < s.sent then (3, 0) else wrongGo 0 (s.sent - s.kept.length + 1) s.kept

theorem drop_at {L : List Tr} {k : Nat} (hk : k < L.length) : L.drop k = L.getD k zeroT :: L.drop (k + 1) := by
  rw [List.drop_eq_getElem_cons hk]; simp [List.getD, hk]
theorem take_at {L : List Tr} {k : Nat} (hk : k < L.length) : L.take (k + 1) = L.take k ++ [L.getD k zeroT] := by
  rw [List.take_add_one]; simp [List.getD, hk]
theorem getD_mem {L : List Tr} {k : Nat} (hk : k < L.length) : L.getD k zeroT ∈ L := by simp [List.getD, hk]

theorem wrongS_many {s : Se} (h : 40 < s.kept.length) : wrongS s = (5, 0) := by unfold wrongS; rw [if_pos h]
theorem wrongS_range {s : Se} (h : s.kept.length ≤ 40) (h2 : s.sent < s.kept.length ∨ 1000000 < s.sent) : wrongS s = (3, 0) := by
  unfold wrongS; rw [if_neg (by omega), if_pos h2]

/-- What stands ahead of the k-th transfer is right. -/
def Good (s : Se) (k : Nat) : Prop := wrongS s = wrongGo k (s.sent - s.kept.length + 1 + k) (s.kept.drop k)

theorem good_zero {s : Se} (h : s.kept.length ≤ 40) (h2 : s.kept.length ≤ s.sent) (h3 : s.sent ≤ 1000000) : Good s 0 := by
  unfold Good wrongS; rw [if_neg (by omega), if_neg (by omega)]; simp
theorem Good.bad {s : Se} {k : Nat} (g : Good s k) (hk : k < s.kept.length) (h : wrongT (s.kept.getD k zeroT) (s.sent - s.kept.length + 1 + k) ≠ 0) :
    wrongS s = (wrongT (s.kept.getD k zeroT) (s.sent - s.kept.length + 1 + k), (k : Int)) := by
  rw [g, drop_at hk]; simp only [wrongGo, if_pos h]
theorem Good.next {s : Se} {k : Nat} (g : Good s k) (hk : k < s.kept.length) (h : wrongT (s.kept.getD k zeroT) (s.sent - s.kept.length + 1 + k) = 0) : Good s (k + 1) := by
  unfold Good
  rw [g, drop_at hk]; simp only [wrongGo, h]; simp; rw [show s.sent - s.kept.length + 1 + (k : Int) + 1 = s.sent - s.kept.length + 1 + ((k : Int) + 1) by omega]
theorem Good.done {s : Se} {k : Nat} (g : Good s k) (hk : s.kept.length ≤ k) : wrongS s = (0, 0) := by
  rw [g, List.drop_eq_nil_of_le hk]; rfl

/-- A right sender. -/
structure Right (s : Se) : Prop where
  few : s.kept.length ≤ 40
  lo : s.kept.length ≤ s.sent
  hi : s.sent ≤ 1000000
  each : ∀ (i : Nat) (t : Tr), s.kept[i]? = some t → ¬ noKind t.k ∧ ¬ far t.a t.s ∧ t.n = s.sent - s.kept.length + 1 + i

theorem wrongT_ok {t : Tr} {m : Int} : wrongT t m = 0 ↔ ¬ noKind t.k ∧ ¬ far t.a t.s ∧ t.n = m := by
  unfold wrongT
  by_cases h1 : noKind t.k
  · rw [if_pos h1]; exact ⟨fun h => (by cases h), fun h => absurd h1 h.1⟩
  rw [if_neg h1]
  by_cases h2 : far t.a t.s
  · rw [if_pos h2]; exact ⟨fun h => (by cases h), fun h => absurd h2 h.2.1⟩
  rw [if_neg h2]
  by_cases h3 : t.n = m
  · rw [if_neg (by simpa using h3)]; exact ⟨fun _ => ⟨h1, h2, h3⟩, fun _ => rfl⟩
  · rw [if_pos h3]; exact ⟨fun h => (by cases h), fun h => absurd h.2.2 h3⟩

theorem wrongGo_ok {L : List Tr} : ∀ {i : Nat} {m : Int}, (wrongGo i m L).1 = 0 ↔ ∀ (j : Nat) (t : Tr), L[j]? = some t → wrongT t (m + j) = 0 := by
  induction L with
  | nil => intro i m; simp [wrongGo]
  | cons t r ih =>
    intro i m
    simp only [wrongGo]
    by_cases h : wrongT t m = 0
    · rw [if_neg (by simpa using h), ih]
      constructor
      · intro H j u hj
        cases j with
        | zero => simp at hj; subst hj; simpa using h
        | succ j => have := H j u (by simpa using hj); rw [show m + ((j + 1 : Nat) : Int) = m + 1 + j by omega]; exact this
      · intro H j u hj
        have := H (j + 1) u (by simpa using hj)
        rw [show m + 1 + (j : Int) = m + ((j + 1 : Nat) : Int) by omega]; exact this
    · rw [if_pos h]
      exact ⟨fun h0 => absurd h0 h, fun H => absurd (by simpa using H 0 t rfl) h⟩

theorem wrongS_ok {s : Se} : (wrongS s).1 = 0 ↔ Right s := by
  unfold wrongS
  by_cases h1 : 40 < s.kept.length
  · rw [if_pos h1]; exact ⟨fun h => (by cases h), fun h => absurd h.few (by omega)⟩
  rw [if_neg h1]
  by_cases h2 : s.sent < s.kept.length ∨ 1000000 < s.sent
  · rw [if_pos h2]; exact ⟨fun h => (by cases h), fun h => by have := h.lo; have := h.hi; omega⟩
  rw [if_neg h2, wrongGo_ok]
  constructor
  · intro H; exact ⟨by omega, by omega, by omega, fun i t ht => wrongT_ok.1 (H i t ht)⟩
  · intro R i t ht; exact wrongT_ok.2 (R.each i t ht)

/-- A transfer that is sent under the next number. -/
def nextT (s : Se) (t : Tr) : Tr := ⟨s.sent + 1, t.k, t.a, t.s⟩
def outS (s : Se) (t : Tr) : Se := ⟨s.sent + 1, s.kept ++ [nextT s t]⟩
def putS (s : Se) (t : Tr) : Se × Int :=
  if (wrongS s).1 ≠ 0 then (zeroS, (wrongS s).1) else if (wrongS (outS s t)).1 ≠ 0 then (zeroS, (wrongS (outS s t)).1) else (outS s t, 0)
def those (seen : Int) (L : List Tr) : List Tr := L.filter fun t => decide (seen < t.n)
def backS (s : Se) (seen : Int) : Se × Int :=
  if (wrongS s).1 ≠ 0 then (zeroS, (wrongS s).1) else if seen < 0 ∨ s.sent < seen then (zeroS, 3) else (⟨s.sent, those seen s.kept⟩, 0)

theorem putS_bad {s : Se} {t : Tr} (h : (wrongS s).1 ≠ 0) : putS s t = (zeroS, (wrongS s).1) := by unfold putS; rw [if_pos h]
theorem putS_out {s : Se} {t : Tr} (h : (wrongS s).1 = 0) (h2 : (wrongS (outS s t)).1 ≠ 0) : putS s t = (zeroS, (wrongS (outS s t)).1) := by
  unfold putS; rw [if_neg (by simpa using h), if_pos h2]
theorem putS_ok {s : Se} {t : Tr} (h : (wrongS s).1 = 0) (h2 : (wrongS (outS s t)).1 = 0) : putS s t = (outS s t, 0) := by
  unfold putS; rw [if_neg (by simpa using h), if_neg (by simpa using h2)]
theorem backS_bad {s : Se} {seen : Int} (h : (wrongS s).1 ≠ 0) : backS s seen = (zeroS, (wrongS s).1) := by unfold backS; rw [if_pos h]
theorem backS_range {s : Se} {seen : Int} (h : (wrongS s).1 = 0) (h2 : seen < 0 ∨ s.sent < seen) : backS s seen = (zeroS, 3) := by
  unfold backS; rw [if_neg (by simpa using h), if_pos h2]
theorem backS_ok {s : Se} {seen : Int} (h : (wrongS s).1 = 0) (h2 : ¬ (seen < 0 ∨ s.sent < seen)) : backS s seen = (⟨s.sent, those seen s.kept⟩, 0) := by
  unfold backS; rw [if_neg (by simpa using h), if_neg h2]

/-- Taken, or not. -/
def taken (seen n : Int) : Bool := decide (0 ≤ seen) && decide (seen < 1000000) && decide (n = seen + 1)
theorem taken_true {seen n : Int} : taken seen n = true ↔ 0 ≤ seen ∧ seen < 1000000 ∧ n = seen + 1 := by simp [taken, and_assoc]
theorem taken_false {seen n : Int} : taken seen n = false ↔ ¬ (0 ≤ seen ∧ seen < 1000000 ∧ n = seen + 1) := by rw [← taken_true]; simp

theorem those_nil (seen : Int) : those seen [] = [] := rfl
theorem those_hit {seen : Int} {L : List Tr} {k : Nat} (hk : k < L.length) (h : seen < (L.getD k zeroT).n) : those seen (L.take (k + 1)) = those seen (L.take k) ++ [L.getD k zeroT] := by
  rw [take_at hk]; unfold those; rw [List.filter_append, List.filter_cons]; simp only [decide_eq_true h]; simp
theorem those_miss {seen : Int} {L : List Tr} {k : Nat} (hk : k < L.length) (h : ¬ seen < (L.getD k zeroT).n) : those seen (L.take (k + 1)) = those seen (L.take k) := by
  rw [take_at hk]; unfold those; rw [List.filter_append, List.filter_cons]; simp only [decide_eq_false h]; simp
theorem those_all {seen : Int} {L : List Tr} {k : Nat} (hk : L.length ≤ k) : those seen (L.take k) = those seen L := by rw [List.take_of_length_le hk]
theorem those_le (seen : Int) (L : List Tr) : (those seen L).length ≤ L.length := List.length_filter_le _ _
theorem those_take_le (seen : Int) (L : List Tr) (k : Nat) : (those seen (L.take k)).length ≤ L.length := by
  have h1 := those_le seen (L.take k)
  have h2 := List.length_take_le' k L
  omega
theorem those_again (seen : Int) (L : List Tr) : those seen (those seen L) = those seen L := by unfold those; simp

/-- Of a right sender those that stay are the last ones. -/
theorem right_back {s : Se} {seen : Int} (R : Right s) (h1 : seen ≤ s.sent) : ∃ j, those seen s.kept = s.kept.drop j ∧ j ≤ s.kept.length ∧ ((j : Int) = s.kept.length - (s.sent - seen) ∨ (j = 0 ∧ s.kept.length ≤ s.sent - seen)) := by
  have aux : ∀ (L : List Tr) (m : Int), (∀ (i : Nat) (t : Tr), L[i]? = some t → t.n = m + i) → ∀ j : Nat, (m + j = seen + 1 ∨ (j = 0 ∧ seen < m)) → j ≤ L.length → those seen L = L.drop j := by
    intro L
    induction L with
    | nil => intro m _ j _ _; simp [those]
    | cons t r ih =>
      intro m H j hj hl
      have ht := H 0 t rfl
      have hr : ∀ (i : Nat) (u : Tr), r[i]? = some u → u.n = m + 1 + i := fun i u hu => by have := H (i + 1) u (by simpa using hu); omega
      cases j with
      | zero =>
        have : those seen (t :: r) = t :: those seen r := by
          unfold those; rw [List.filter_cons, if_pos (by simp; omega)]
        rw [this]
        have := ih (m + 1) hr 0 (Or.inr ⟨rfl, by omega⟩) (Nat.zero_le _)
        rw [this]; simp
      | succ j =>
        have : those seen (t :: r) = those seen r := by
          unfold those; rw [List.filter_cons, if_neg (by simp; omega)]
        rw [this]
        have := ih (m + 1) hr j (Or.inl (by omega)) (by simpa using hl)
        rw [this]; simp
  have hb := R.lo
  by_cases hc : s.kept.length ≤ s.sent - seen
  · refine ⟨0, ?_, Nat.zero_le _, Or.inr ⟨rfl, hc⟩⟩
    exact aux s.kept (s.sent - s.kept.length + 1) (fun i t ht => (R.each i t ht).2.2) 0 (Or.inr ⟨rfl, by omega⟩) (Nat.zero_le _)
  · refine ⟨(s.kept.length - (s.sent - seen)).toNat, ?_, by omega, Or.inl (by omega)⟩
    exact aux s.kept (s.sent - s.kept.length + 1) (fun i t ht => (R.each i t ht).2.2) _ (Or.inl (by omega)) (by omega)

theorem right_drop {s : Se} (R : Right s) (j : Nat) (hj : j ≤ s.kept.length) : Right ⟨s.sent, s.kept.drop j⟩ := by
  have h1 := R.few; have h2 := R.lo; have h3 := R.hi
  refine ⟨by simp; omega, by simp; omega, h3, fun i t ht => ?_⟩
  simp at ht
  obtain ⟨a, b, c⟩ := R.each _ t ht
  refine ⟨a, b, ?_⟩
  simp
  omega

theorem right_back' {s : Se} {seen : Int} (R : Right s) (h1 : seen ≤ s.sent) : Right ⟨s.sent, those seen s.kept⟩ := by
  obtain ⟨j, hj, hl, -⟩ := right_back R h1
  rw [hj]
  exact right_drop R j hl

end Go.Proofs.Ytffgglkobngddab.Po
