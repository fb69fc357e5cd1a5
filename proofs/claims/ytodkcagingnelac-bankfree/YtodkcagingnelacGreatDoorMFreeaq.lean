
namespace Go.Proofs.YtodkcagingnelacGreatDoor
structure Pa where
  t : Int
  c : Int
  s : Int
def wrongP (p : Pa) : Int := if p.t < 1 ∨ 1000000 < p.t ∨ p.c < 0 ∨ 30 < p.c ∨ p.s < 0 ∨ 1000000000000 < p.s then 3 else 0
structure RightP (p : Pa) : Prop where
  t1 : 1 ≤ p.t
  t2 : p.t ≤ 1000000
  c1 : 0 ≤ p.c
  c2 : p.c ≤ 30
  s1 : 0 ≤ p.s
  s2 : p.s ≤ 1000000000000
theorem wrongP_ok {p : Pa} : wrongP p = 0 ↔ RightP p := by
  unfold wrongP
  constructor
  · intro h
    split at h
    · cases h
    · exact ⟨by omega, by omega, by omega, by omega, by omega, by omega⟩
  · intro h
    have := h.t1; have := h.t2; have := h.c1; have := h.c2; have := h.s1; have := h.s2
    rw [if_neg (by omega)]
def inU (u : Int × Int) : Bool := decide (0 ≤ u.1) && decide (u.1 ≤ 1000000) && decide (0 ≤ u.2) && decide (u.2 ≤ 1000000)
theorem inU_true {u : Int × Int} : inU u = true ↔ 0 ≤ u.1 ∧ u.1 ≤ 1000000 ∧ 0 ≤ u.2 ∧ u.2 ≤ 1000000 := by
  simp [inU, and_assoc]
theorem drop_at {L : List (Int × Int)} {k : Nat} (hk : k < L.length) : L.drop k = L.getD k (0, 0) :: L.drop (k + 1) := by
  rw [List.drop_eq_getElem_cons hk]; simp [List.getD, hk]
theorem take_at {L : List (Int × Int)} {k : Nat} (hk : k < L.length) : L.take (k + 1) = L.take k ++ [L.getD k (0, 0)] := by
  rw [List.take_add_one]; simp [List.getD, hk]
theorem getD_mem {L : List (Int × Int)} {k : Nat} (hk : k < L.length) : L.getD k (0, 0) ∈ L := by
  simp [List.getD, hk]
def usesGo (prev : Option Int) (i : Nat) : List (Int × Int) → Int × Int
  | [] => (0, 0)
  | u :: r => if inU u = false then (3, i) else
      match prev with
      | none => usesGo (some u.1) (i + 1) r
      | some q => if u.1 < q then (2, i) else usesGo (some u.1) (i + 1) r
def uses (L : List (Int × Int)) : Int × Int := if 30 < L.length then (5, 0) else usesGo none 0 L
def prevOf (L : List (Int × Int)) (k : Nat) : Option Int := if k = 0 then none else some (L.getD (k - 1) (0, 0)).1
/-- What stands ahead of the k-th use is right. -/
def Good (L : List (Int × Int)) (k : Nat) : Prop := uses L = usesGo (prevOf L k) k (L.drop k)
theorem uses_many {L : List (Int × Int)} (h : 30 < L.length) : uses L = (5, 0) := by unfold uses; rw [if_pos h]
theorem good_zero {L : List (Int × Int)} (h : L.length ≤ 30) : Good L 0 := by unfold Good uses; rw [if_neg (by omega)]; rfl
theorem Good.range {L : List (Int × Int)} {k : Nat} (g : Good L k) (hk : k < L.length) (h : inU (L.getD k (0, 0)) = false) : uses L = (3, (k : Int)) := by
  rw [g, drop_at hk]; simp only [usesGo, h, if_pos]
theorem Good.order {L : List (Int × Int)} {k : Nat} (g : Good L k) (hk : k < L.length) (h : inU (L.getD k (0, 0)) = true) (h0 : 0 < k)
    (h3 : (L.getD k (0, 0)).1 < (L.getD (k - 1) (0, 0)).1) : uses L = (2, (k : Int)) := by
  have hp : prevOf L k = some (L.getD (k - 1) (0, 0)).1 := by unfold prevOf; rw [if_neg (by omega)]
  rw [g, drop_at hk, hp]; simp only [usesGo, h, if_pos h3]; simp
theorem Good.next {L : List (Int × Int)} {k : Nat} (g : Good L k) (hk : k < L.length) (h : inU (L.getD k (0, 0)) = true)
    (h3 : 0 < k → (L.getD (k - 1) (0, 0)).1 ≤ (L.getD k (0, 0)).1) : Good L (k + 1) := by
  have hp : prevOf L (k + 1) = some (L.getD k (0, 0)).1 := by unfold prevOf; rw [if_neg (by omega)]; rfl
  unfold Good
  rw [g, drop_at hk, hp]
  by_cases h0 : k = 0
  · have hp : prevOf L k = none := by unfold prevOf; rw [if_pos h0]
    rw [hp]; simp only [usesGo, h]; simp
  · have hp : prevOf L k = some (L.getD (k - 1) (0, 0)).1 := by unfold prevOf; rw [if_neg h0]
    have := h3 (by omega)
    rw [hp]; simp only [usesGo, h, if_neg (show ¬ (L.getD k (0, 0)).1 < (L.getD (k - 1) (0, 0)).1 by omega)]; simp
theorem Good.done {L : List (Int × Int)} {k : Nat} (g : Good L k) (hk : L.length ≤ k) : uses L = (0, 0) := by
  rw [g, List.drop_eq_nil_of_le hk]; rfl
theorem usesGo_all {L : List (Int × Int)} : ∀ {prev : Option Int} {i : Nat}, (usesGo prev i L).1 = 0 → ∀ u ∈ L, inU u = true := by
  induction L with
  | nil => intro _ _ _ u hu; simp at hu
  | cons e r ih =>
    intro prev i h u hu
    unfold usesGo at h
    by_cases he : inU e = false
    · rw [if_pos he] at h; simp at h
    · rw [if_neg he] at h
      have he : inU e = true := by simpa using he
      have hr : ∀ u ∈ r, inU u = true := by
        cases prev with
        | none => exact ih h
        | some q =>
          dsimp only at h
          split at h
          · simp at h
          · exact ih h
      rcases List.mem_cons.1 hu with rfl | hu
      · exact he
      · exact hr u hu
/-- A right list: few uses, each of them in range. -/
theorem uses_ok {L : List (Int × Int)} (h : (uses L).1 = 0) : L.length ≤ 30 ∧ ∀ u ∈ L, inU u = true := by
  unfold uses at h
  split at h
  · simp at h
  · exact ⟨by omega, usesGo_all h⟩
def recent (o : Int) (L : List (Int × Int)) : List (Int × Int) := L.filter fun u => decide (o < u.1)
theorem recent_le (o : Int) (L : List (Int × Int)) : (recent o L).length ≤ L.length := List.length_filter_le _ _
theorem recent_hit {o : Int} {L : List (Int × Int)} {k : Nat} (hk : k < L.length) (h : o < (L.getD k (0, 0)).1) : recent o (L.take (k + 1)) = recent o (L.take k) ++ [L.getD k (0, 0)] := by
  rw [take_at hk]; unfold recent; rw [List.filter_append]; generalize L.getD k (0, 0) = u at h ⊢; simp [h]
theorem recent_miss {o : Int} {L : List (Int × Int)} {k : Nat} (hk : k < L.length) (h : ¬ o < (L.getD k (0, 0)).1) : recent o (L.take (k + 1)) = recent o (L.take k) := by
  rw [take_at hk]; unfold recent; rw [List.filter_append]; generalize L.getD k (0, 0) = u at h ⊢; simp; omega
theorem recent_all {o : Int} {L : List (Int × Int)} {k : Nat} (hk : L.length ≤ k) : recent o (L.take k) = recent o L := by rw [List.take_of_length_le hk]
theorem recent_mem {o : Int} {L : List (Int × Int)} {u : Int × Int} (h : u ∈ recent o L) : u ∈ L := (List.mem_filter.1 h).1
theorem recent_take_le' (o : Int) (L : List (Int × Int)) (k : Nat) : (recent o (L.take k)).length ≤ L.length := by
  have := recent_le o (L.take k)
  simp at this
  omega
def tot : List (Int × Int) → Int
  | [] => 0
  | u :: r => u.2 + tot r
theorem tot_append (A B : List (Int × Int)) : tot (A ++ B) = tot A + tot B := by
  induction A with
  | nil => simp [tot]
  | cons e r ih => simp only [List.cons_append, tot, ih]; omega
theorem tot_snoc (A : List (Int × Int)) (u : Int × Int) : tot (A ++ [u]) = tot A + u.2 := by rw [tot_append]; simp [tot]
theorem tot_bound {A : List (Int × Int)} (h : ∀ u ∈ A, inU u = true) : 0 ≤ tot A ∧ tot A ≤ 1000000 * (A.length : Int) := by
  induction A with
  | nil => simp [tot]
  | cons e r ih =>
    have h1 := ih fun u hu => h u (List.mem_cons_of_mem _ hu)
    have h2 := inU_true.1 (h e List.mem_cons_self)
    simp only [tot, List.length_cons]
    omega
theorem tot_take_le {A : List (Int × Int)} (h : ∀ u ∈ A, inU u = true) (k : Nat) : tot (A.take k) ≤ tot A := by
  have h1 := tot_append (A.take k) (A.drop k)
  rw [List.take_append_drop] at h1
  have h2 := tot_bound (A := A.drop k) fun u hu => h u (List.mem_of_mem_drop hu)
  omega
def wrongAdd (p : Pa) (L : List (Int × Int)) (x : Int × Int) : Int :=
  if wrongP p ≠ 0 then wrongP p else if (uses L).1 ≠ 0 then (uses L).1 else if inU x = false then 3
  else if 0 < L.length ∧ x.1 < (L.getD (L.length - 1) (0, 0)).1 then 2 else 0
def out (p : Pa) (L : List (Int × Int)) (x : Int × Int) : List (Int × Int) := recent (x.1 - p.t) L ++ [x]
def addU (p : Pa) (L : List (Int × Int)) (x : Int × Int) : List (Int × Int) × Int :=
  if wrongAdd p L x ≠ 0 then ([], wrongAdd p L x) else if p.c < (out p L x).length ∨ p.s < tot (out p L x) then ([], 11) else (out p L x, 0)
/-- What may be added to. -/
structure Fit (p : Pa) (L : List (Int × Int)) (x : Int × Int) : Prop where
  pace : RightP p
  few : L.length ≤ 30
  all : ∀ u ∈ L, inU u = true
  inx : inU x = true
  last : 0 < L.length → (L.getD (L.length - 1) (0, 0)).1 ≤ x.1
theorem wrongAdd_ok {p : Pa} {L : List (Int × Int)} {x : Int × Int} (h : wrongAdd p L x = 0) : Fit p L x := by
  unfold wrongAdd at h
  by_cases h1 : wrongP p = 0
  · rw [if_neg (by simpa using h1)] at h
    by_cases h2 : (uses L).1 = 0
    · rw [if_neg (by simpa using h2)] at h
      by_cases h3 : inU x = false
      · rw [if_pos h3] at h; omega
      · rw [if_neg h3] at h
        split at h
        · omega
        · next h4 => exact ⟨wrongP_ok.1 h1, (uses_ok h2).1, (uses_ok h2).2, by simpa using h3, fun h0 => by omega⟩
    · rw [if_pos h2] at h; exact absurd h h2
  · rw [if_pos h1] at h; exact absurd h h1
theorem addU_bad {p : Pa} {L : List (Int × Int)} {x : Int × Int} (h : wrongAdd p L x ≠ 0) : addU p L x = ([], wrongAdd p L x) := by unfold addU; rw [if_pos h]
theorem out_all {p : Pa} {L : List (Int × Int)} {x : Int × Int} (f : Fit p L x) : ∀ u ∈ out p L x, inU u = true := by
  intro u hu
  unfold out at hu
  rcases List.mem_append.1 hu with h | h
  · exact f.all u (recent_mem h)
  · simp at h; subst h; exact f.inx
theorem out_few {p : Pa} {L : List (Int × Int)} {x : Int × Int} (f : Fit p L x) : (out p L x).length ≤ 31 := by
  have := recent_le (x.1 - p.t) L
  have := f.few
  unfold out
  simp
  omega
end Go.Proofs.YtodkcagingnelacGreatDoor
namespace Go.Proofs.YtodkcagingnelacGreatDoor
theorem addU_zero {p : Pa} {L : List (Int × Int)} {x : Int × Int} (h : (addU p L x).2 = 0) :
    wrongAdd p L x = 0 ∧ ((out p L x).length : Int) ≤ p.c ∧ tot (out p L x) ≤ p.s ∧ addU p L x = (out p L x, 0) := by
  unfold addU at h ⊢
  by_cases h1 : wrongAdd p L x = 0
  · rw [if_neg (by simpa using h1)] at h ⊢
    by_cases h2 : p.c < (out p L x).length ∨ p.s < tot (out p L x)
    · rw [if_pos h2] at h; simp at h
    · rw [if_neg h2]
      exact ⟨h1, by omega, by omega, rfl⟩
  · rw [if_pos h1] at h; exact absurd h h1
/-- What the uses that were allowed are, and what is kept of them. -/
structure Kept (p : Pa) (kept all : List (Int × Int)) : Prop where
  pace : RightP p
  right : ∀ u ∈ all, inU u = true
  kept : all = [] ∧ kept = [] ∨ ∃ A u, all = A ++ [u] ∧ kept = recent (u.1 - p.t) all
  fits : ∀ i, i < all.length → ((recent ((all.getD i (0, 0)).1 - p.t) (all.take (i + 1))).length : Int) ≤ p.c ∧ tot (recent ((all.getD i (0, 0)).1 - p.t) (all.take (i + 1))) ≤ p.s
theorem recent_snoc (o : Int) (A : List (Int × Int)) (u : Int × Int) (h : o < u.1) : recent o (A ++ [u]) = recent o A ++ [u] := by
  unfold recent; rw [List.filter_append]; simp [h]
theorem recent_recent (o o' : Int) (A : List (Int × Int)) (h : o ≤ o') : recent o' (recent o A) = recent o' A := by
  unfold recent
  rw [List.filter_filter]
  congr 1
  funext u
  by_cases h1 : o' < u.1
  · simp [h1]; omega
  · simp [h1]
theorem Kept.next {p : Pa} {kept all : List (Int × Int)} {x : Int × Int} (k : Kept p kept all) (h : (addU p kept x).2 = 0) : Kept p (addU p kept x).1 (all ++ [x]) := by
  obtain ⟨h1, h2, h3, h4⟩ := addU_zero h
  have f := wrongAdd_ok h1
  have ht := k.pace.t1
  have hx : x.1 - p.t < x.1 := by omega
  have hout : out p kept x = recent (x.1 - p.t) (all ++ [x]) := by
    unfold out
    rw [recent_snoc _ _ _ hx]
    congr 1
    rcases k.kept with ⟨ha, hk⟩ | ⟨A, u, ha, hk⟩
    · rw [ha, hk]
    · have hku : kept = recent (u.1 - p.t) A ++ [u] := by rw [hk, ha, recent_snoc _ _ _ (by omega)]
      have hl := f.last (by rw [hku]; simp)
      have hlast : kept.getD (kept.length - 1) (0, 0) = u := by rw [hku]; simp [List.getD]
      rw [hlast] at hl
      rw [hk]
      exact recent_recent _ _ _ (by omega)
  rw [h4]
  refine ⟨k.pace, ?_, Or.inr ⟨all, x, rfl, hout⟩, ?_⟩
  · intro u hu
    rcases List.mem_append.1 hu with h | h
    · exact k.right u h
    · simp at h; subst h; exact f.inx
  · intro i hi
    rw [List.length_append] at hi
    by_cases hlt : i < all.length
    · have := k.fits i hlt
      have e1 : (all ++ [x]).getD i (0, 0) = all.getD i (0, 0) := by simp [List.getD, List.getElem?_append_left hlt]
      have e2 : (all ++ [x]).take (i + 1) = all.take (i + 1) := by rw [List.take_append_of_le_length (by omega)]
      rw [e1, e2]
      exact this
    · have hi' : i = all.length := by simp at hi; omega
      subst hi'
      have e1 : (all ++ [x]).getD all.length (0, 0) = x := by simp [List.getD]
      have e2 : (all ++ [x]).take (all.length + 1) = all ++ [x] := by rw [List.take_of_length_le (by simp)]
      rw [e1, e2, ← hout]
      exact ⟨h2, h3⟩
theorem Kept.few {p : Pa} {kept all : List (Int × Int)} (k : Kept p kept all) : kept.length ≤ all.length := by
  rcases k.kept with ⟨ha, hk⟩ | ⟨A, u, ha, hk⟩
  · rw [ha, hk]; exact Nat.le_refl _
  · rw [hk]; exact recent_le _ _
end Go.Proofs.YtodkcagingnelacGreatDoor
namespace Go.Proofs.YtodkcagingnelacGreatDoor
structure Ca where
  m : Int
  h : Int
  p : Pa
  u : List (Int × Int)
def zeroC : Ca := ⟨0, 0, ⟨0, 0, 0⟩, []⟩
/-- Money, or what is held, is out of range. -/
abbrev off (m h : Int) : Prop := m < -1000000000000 ∨ 1000000000000 < m ∨ h < 0 ∨ 1000000000000 < h
def wrongC (c : Ca) : Int := if off c.m c.h then 3 else if wrongP c.p ≠ 0 then wrongP c.p else (uses c.u).1
structure RightC (c : Ca) : Prop where
  m1 : -1000000000000 ≤ c.m
  m2 : c.m ≤ 1000000000000
  h1 : 0 ≤ c.h
  h2 : c.h ≤ 1000000000000
  pace : wrongP c.p = 0
  uses : (uses c.u).1 = 0
theorem wrongC_off {c : Ca} (h : off c.m c.h) : wrongC c = 3 := by unfold wrongC; rw [if_pos h]
theorem wrongC_pace {c : Ca} (h : ¬ off c.m c.h) (h1 : wrongP c.p ≠ 0) : wrongC c = wrongP c.p := by unfold wrongC; rw [if_neg h, if_pos h1]
theorem wrongC_uses {c : Ca} (h : ¬ off c.m c.h) (h1 : wrongP c.p = 0) : wrongC c = (uses c.u).1 := by unfold wrongC; rw [if_neg h, if_neg (by simpa using h1)]
theorem wrongC_ok {c : Ca} : wrongC c = 0 ↔ RightC c := by
  constructor
  · intro h
    by_cases h0 : off c.m c.h
    · rw [wrongC_off h0] at h; cases h
    by_cases h1 : wrongP c.p = 0
    · rw [wrongC_uses h0 h1] at h
      unfold off at h0
      exact ⟨by omega, by omega, by omega, by omega, h1, h⟩
    · rw [wrongC_pace h0 h1] at h; exact absurd h h1
  · intro h
    have h0 : ¬ off c.m c.h := by
      have := h.m1; have := h.m2; have := h.h1; have := h.h2
      unfold off; omega
    rw [wrongC_uses h0 h.pace]; exact h.uses
def allowC (c : Ca) (s t : Int) : Ca × Int :=
  if wrongC c ≠ 0 then (zeroC, wrongC c) else if s < 1 ∨ 1000000 < s ∨ t < 0 ∨ 1000000 < t then (zeroC, 3) else if c.m < c.h + s then (zeroC, 10)
  else if (addU c.p c.u (t, s)).2 ≠ 0 then (zeroC, (addU c.p c.u (t, s)).2) else (⟨c.m, c.h + s, c.p, (addU c.p c.u (t, s)).1⟩, 0)
def forceC (c : Ca) (s : Int) : Ca × Int :=
  if wrongC c ≠ 0 then (zeroC, wrongC c) else if s < 1 ∨ 1000000 < s ∨ 1000000000000 < c.h + s then (zeroC, 3) else (⟨c.m, c.h + s, c.p, c.u⟩, 0)
abbrev far (a b : Int) : Prop := a < -1000000000000 ∨ 1000000000000 < a ∨ b < -1000000000000 ∨ 1000000000000 < b
def shiftC (c : Ca) (a b : Int) : Ca × Int :=
  if wrongC c ≠ 0 then (zeroC, wrongC c) else if far a b then (zeroC, 3) else if off (c.m + b) (c.h + a) then (zeroC, 10) else (⟨c.m + b, c.h + a, c.p, c.u⟩, 0)
theorem allowC_wrong {c : Ca} {s t : Int} (h : wrongC c ≠ 0) : allowC c s t = (zeroC, wrongC c) := by unfold allowC; rw [if_pos h]
theorem forceC_wrong {c : Ca} {s : Int} (h : wrongC c ≠ 0) : forceC c s = (zeroC, wrongC c) := by unfold forceC; rw [if_pos h]
theorem shiftC_wrong {c : Ca} {a b : Int} (h : wrongC c ≠ 0) : shiftC c a b = (zeroC, wrongC c) := by unfold shiftC; rw [if_pos h]
theorem allowC_range {c : Ca} {s t : Int} (h : wrongC c = 0) (h1 : s < 1 ∨ 1000000 < s ∨ t < 0 ∨ 1000000 < t) : allowC c s t = (zeroC, 3) := by
  unfold allowC; rw [if_neg (by simpa using h), if_pos h1]
theorem allowC_funds {c : Ca} {s t : Int} (h : wrongC c = 0) (h1 : ¬ (s < 1 ∨ 1000000 < s ∨ t < 0 ∨ 1000000 < t)) (h2 : c.m < c.h + s) : allowC c s t = (zeroC, 10) := by
  unfold allowC; rw [if_neg (by simpa using h), if_neg h1, if_pos h2]
theorem allowC_add {c : Ca} {s t : Int} (h : wrongC c = 0) (h1 : ¬ (s < 1 ∨ 1000000 < s ∨ t < 0 ∨ 1000000 < t)) (h2 : ¬ c.m < c.h + s) (h3 : (addU c.p c.u (t, s)).2 ≠ 0) : allowC c s t = (zeroC, (addU c.p c.u (t, s)).2) := by
  unfold allowC; rw [if_neg (by simpa using h), if_neg h1, if_neg h2, if_pos h3]
theorem allowC_ok {c : Ca} {s t : Int} (h : wrongC c = 0) (h1 : ¬ (s < 1 ∨ 1000000 < s ∨ t < 0 ∨ 1000000 < t)) (h2 : ¬ c.m < c.h + s) (h3 : (addU c.p c.u (t, s)).2 = 0) : allowC c s t = (⟨c.m, c.h + s, c.p, (addU c.p c.u (t, s)).1⟩, 0) := by
  unfold allowC; rw [if_neg (by simpa using h), if_neg h1, if_neg h2, if_neg (by simpa using h3)]
theorem forceC_range {c : Ca} {s : Int} (h : wrongC c = 0) (h1 : s < 1 ∨ 1000000 < s ∨ 1000000000000 < c.h + s) : forceC c s = (zeroC, 3) := by
  unfold forceC; rw [if_neg (by simpa using h), if_pos h1]
theorem forceC_ok {c : Ca} {s : Int} (h : wrongC c = 0) (h1 : ¬ (s < 1 ∨ 1000000 < s ∨ 1000000000000 < c.h + s)) : forceC c s = (⟨c.m, c.h + s, c.p, c.u⟩, 0) := by
  unfold forceC; rw [if_neg (by simpa using h), if_neg h1]
theorem shiftC_range {c : Ca} {a b : Int} (h : wrongC c = 0) (h1 : far a b) : shiftC c a b = (zeroC, 3) := by
  unfold shiftC; rw [if_neg (by simpa using h), if_pos h1]
theorem shiftC_funds {c : Ca} {a b : Int} (h : wrongC c = 0) (h1 : ¬ far a b) (h2 : off (c.m + b) (c.h + a)) : shiftC c a b = (zeroC, 10) := by
  unfold shiftC; rw [if_neg (by simpa using h), if_neg h1, if_pos h2]
theorem shiftC_ok {c : Ca} {a b : Int} (h : wrongC c = 0) (h1 : ¬ far a b) (h2 : ¬ off (c.m + b) (c.h + a)) : shiftC c a b = (⟨c.m + b, c.h + a, c.p, c.u⟩, 0) := by
  unfold shiftC; rw [if_neg (by simpa using h), if_neg h1, if_neg h2]
theorem right_shift {c : Ca} {a b : Int} (h : wrongC c = 0) : wrongC ⟨c.m + b, c.h + a, c.p, c.u⟩ = 0 ↔ ¬ off (c.m + b) (c.h + a) := by
  have R := wrongC_ok.1 h
  constructor
  · intro h1 h2
    rw [wrongC_off (c := ⟨c.m + b, c.h + a, c.p, c.u⟩) h2] at h1; cases h1
  · intro h1
    rw [wrongC_uses (c := ⟨c.m + b, c.h + a, c.p, c.u⟩) h1 R.pace]; exact R.uses
theorem shift_zero {c : Ca} {a b : Int} (h : (shiftC c a b).2 = 0) : wrongC c = 0 ∧ ¬ far a b ∧ ¬ off (c.m + b) (c.h + a) ∧ shiftC c a b = (⟨c.m + b, c.h + a, c.p, c.u⟩, 0) := by
  by_cases h0 : wrongC c = 0
  · by_cases h1 : far a b
    · rw [shiftC_range h0 h1] at h; simp at h
    · by_cases h2 : off (c.m + b) (c.h + a)
      · rw [shiftC_funds h0 h1 h2] at h; simp at h
      · exact ⟨h0, h1, h2, shiftC_ok h0 h1 h2⟩
  · rw [shiftC_wrong h0] at h; exact absurd h h0
theorem usesGo_zero (L : List (Int × Int)) : ∀ (prev : Option Int) (i : Nat), (usesGo prev i L).1 = 0 ↔ (∀ u ∈ L, inU u = true) ∧ L.Pairwise (fun a b => a.1 ≤ b.1) ∧ ∀ q, prev = some q → ∀ u ∈ L, q ≤ u.1 := by
  induction L with
  | nil => intro prev i; simp [usesGo]
  | cons e r ih =>
    intro prev i
    unfold usesGo
    cases he : inU e with
    | false => simp [he]
    | true =>
      rw [if_neg (by simp)]
      cases prev with
      | none =>
        dsimp only
        rw [ih]
        simp only [List.mem_cons, forall_eq_or_imp, List.pairwise_cons, Option.some.injEq, he, true_and]
        constructor
        · rintro ⟨h1, h2, h3⟩
          exact ⟨h1, ⟨h3 e.1 rfl, h2⟩, fun q hq => by cases hq⟩
        · rintro ⟨h1, ⟨h2, h3⟩, -⟩
          exact ⟨h1, h3, fun q hq => by subst hq; exact h2⟩
      | some q =>
        dsimp only
        by_cases hq : e.1 < q
        · rw [if_pos hq]
          simp only [List.mem_cons, forall_eq_or_imp, Option.some.injEq]
          constructor
          · intro h; simp at h
          · rintro ⟨-, -, h3⟩
            have := (h3 q rfl).1
            omega
        · rw [if_neg hq, ih]
          simp only [List.mem_cons, forall_eq_or_imp, List.pairwise_cons, Option.some.injEq, he, true_and]
          constructor
          · rintro ⟨h1, h2, h3⟩
            refine ⟨h1, ⟨h3 e.1 rfl, h2⟩, fun q' hq' => ?_⟩
            subst hq'
            exact ⟨by omega, fun u hu => by have := h3 e.1 rfl u hu; omega⟩
          · rintro ⟨h1, ⟨h2, h3⟩, -⟩
            exact ⟨h1, h3, fun q' hq' => by subst hq'; exact h2⟩
theorem uses_zero (L : List (Int × Int)) : (uses L).1 = 0 ↔ L.length ≤ 30 ∧ (∀ u ∈ L, inU u = true) ∧ L.Pairwise (fun a b => a.1 ≤ b.1) := by
  unfold uses
  by_cases h : 30 < L.length
  · rw [if_pos h]
    constructor
    · intro h1; simp at h1
    · intro h1; omega
  · rw [if_neg h, usesGo_zero]
    constructor
    · rintro ⟨h1, h2, -⟩; exact ⟨by omega, h1, h2⟩
    · rintro ⟨-, h1, h2⟩; exact ⟨h1, h2, fun q hq => by cases hq⟩
theorem last_most {L : List (Int × Int)} (h : L.Pairwise (fun a b => a.1 ≤ b.1)) : ∀ u ∈ L, u.1 ≤ (L.getD (L.length - 1) (0, 0)).1 := by
  intro u hu
  obtain ⟨i, hi, rfl⟩ := List.mem_iff_getElem.1 hu
  have hg : L.getD (L.length - 1) (0, 0) = L[L.length - 1] := by simp [List.getD, show L.length - 1 < L.length by omega]
  rw [hg]
  by_cases he : i = L.length - 1
  · subst he; exact Int.le_refl _
  · exact List.pairwise_iff_getElem.1 h i (L.length - 1) hi (by omega) (by omega)
theorem uses_out {p : Pa} {L : List (Int × Int)} {x : Int × Int} (h : (addU p L x).2 = 0) (hu : (uses L).1 = 0) : (uses (addU p L x).1).1 = 0 := by
  obtain ⟨h1, h2, h3, h4⟩ := addU_zero h
  have f := wrongAdd_ok h1
  have hc := f.pace.c2
  obtain ⟨-, -, u3⟩ := (uses_zero L).1 hu
  rw [h4, uses_zero]
  refine ⟨by dsimp only; omega, out_all f, ?_⟩
  show (recent _ _ ++ [x]).Pairwise _
  rw [List.pairwise_append]
  refine ⟨u3.filter _, by simp, fun a ha b hb => ?_⟩
  simp at hb
  subst hb
  have hm := recent_mem ha
  have := last_most u3 a hm
  have := f.last (List.length_pos_of_mem hm)
  omega
/-- What is allowed was free, and then there is so much less. -/
theorem allow_zero {c : Ca} {s t : Int} (h : (allowC c s t).2 = 0) :
    RightC c ∧ 1 ≤ s ∧ s ≤ 1000000 ∧ c.h + s ≤ c.m ∧ wrongC (allowC c s t).1 = 0 ∧ (allowC c s t).1.m = c.m ∧ (allowC c s t).1.h = c.h + s := by
  by_cases h0 : wrongC c = 0
  rotate_left
  · rw [allowC_wrong h0] at h; exact absurd h h0
  by_cases h1 : s < 1 ∨ 1000000 < s ∨ t < 0 ∨ 1000000 < t
  · rw [allowC_range h0 h1] at h; simp at h
  by_cases h2 : c.m < c.h + s
  · rw [allowC_funds h0 h1 h2] at h; simp at h
  by_cases h3 : (addU c.p c.u (t, s)).2 = 0
  rotate_left
  · rw [allowC_add h0 h1 h2 h3] at h; exact absurd h h3
  rw [allowC_ok h0 h1 h2 h3]
  have R := wrongC_ok.1 h0
  have := R.m1; have := R.m2; have := R.h1; have := R.h2
  refine ⟨R, by omega, by omega, by omega, ?_, rfl, rfl⟩
  exact wrongC_ok.2 ⟨by dsimp only; omega, by dsimp only; omega, by dsimp only; omega, by dsimp only; omega, R.pace, uses_out h3 R.uses⟩
end Go.Proofs.YtodkcagingnelacGreatDoor
