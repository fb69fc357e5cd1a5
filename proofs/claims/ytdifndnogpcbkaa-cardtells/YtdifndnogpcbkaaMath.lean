/- Paces and lists of uses as plain numbers: what is wrong with them, which still count, what comes of one more. No program here. -/
namespace Go.Proofs.Ytdifndnogpcbkaa

structure Pa where
  t : Int
  c : Int
  s : Int

def wrongP (p : Pa) : Int := if p.t < 1 ∨ 1000000 < p.t ∨ p.c < 0 ∨ 30 < p.c ∨ p.s < 0 ∨ 1000000000000 < p.s then 3 else 0

structure RightP (p : Pa) : Prop where
  t1 : 1 ≤ p.t
  t2 : p.t ≤ 1000000
  c1 : 0 ≤ p.c
  c2 : p.c ≤ 30
  s1 : 0 ≤ p.s
  s2 : p.s ≤ 1000000000000

theorem wrongP_ok {p : Pa} : wrongP p = 0 ↔ RightP p := by
  unfold wrongP
  constructor
  · intro h
    split at h
    · cases h
    · exact ⟨by omega, by omega, by omega, by omega, by omega, by omega⟩
  · intro h
    have := h.t1; have := h.t2; have := h.c1; have := h.c2; have := h.s1; have := h.s2
    rw [if_neg (by omega)]

def inU (u : Int × Int) : Bool := decide (0 ≤ u.1) && decide (u.1 ≤ 1000000) && decide (0 ≤ u.2) && decide (u.2 ≤ 1000000)

theorem inU_true {u : Int × Int} : inU u = true ↔ 0 ≤ u.1 ∧ u.1 ≤ 1000000 ∧ 0 ≤ u.2 ∧ u.2 ≤ 1000000 := by
  simp [inU, and_assoc]

theorem drop_at {L : List (Int × Int)} {k : Nat} (hk : k < L.length) : L.drop k = L.getD k (0, 0) :: L.drop (k + 1) := by
  rw [List.drop_eq_getElem_cons hk]; simp [List.getD, hk]

theorem take_at {L : List (Int × Int)} {k : Nat} (hk : k < L.length) : L.take (k + 1) = L.take k ++ [L.getD k (0, 0)] := by
  rw [List.take_add_one]; simp [List.getD, hk]

theorem getD_mem {L : List (Int × Int)} {k : Nat} (hk : k < L.length) : L.getD k (0, 0) ∈ L := by
  simp [List.getD, hk]

/-! ### What is wrong with a list of uses -/
def usesGo (prev : Option Int) (i : Nat) : List (Int × Int) → Int × Int
  | [] => (0, 0)
  | u :: r => if inU u = false then (3, i) else
      match prev with
      | none => usesGo (some u.1) (i + 1) r
      | some q => if u.1 < q then (2, i) else usesGo (some u.1) (i + 1) r

def uses (L : List (Int × Int)) : Int × Int := if 30 < L.length then (5, 0) else usesGo none 0 L

def prevOf (L : List (Int × Int)) (k : Nat) : Option Int := if k = 0 then none else some (L.getD (k - 1) (0, 0)).1

/-- What stands ahead of the k-th use is right. -/
def Good (L : List (Int × Int)) (k : Nat) : Prop := uses L = usesGo (prevOf L k) k (L.drop k)

theorem uses_many {L : List (Int × Int)} (h : 30 < L.length) : uses L = (5, 0) := by unfold uses; rw [if_pos h]
theorem good_zero {L : List (Int × Int)} (h : L.length ≤ 30) : Good L 0 := by unfold Good uses; rw [if_neg (by omega)]; rfl

theorem Good.range {L : List (Int × Int)} {k : Nat} (g : Good L k) (hk : k < L.length) (h : inU (L.getD k (0, 0)) = false) : uses L = (3, (k : Int)) := by
  rw [g, drop_at hk]; simp only [usesGo, h, if_pos]

theorem Good.order {L : List (Int × Int)} {k : Nat} (g : Good L k) (hk : k < L.length) (h : inU (L.getD k (0, 0)) = true) (h0 : 0 < k)
    (h3 : (L.getD k (0, 0)).1 < (L.getD (k - 1) (0, 0)).1) : uses L = (2, (k : Int)) := by
  have hp : prevOf L k = some (L.getD (k - 1) (0, 0)).1 := by unfold prevOf; rw [if_neg (by omega)]
  rw [g, drop_at hk, hp]; simp only [usesGo, h, if_pos h3]; simp

theorem Good.next {L : List (Int × Int)} {k : Nat} (g : Good L k) (hk : k < L.length) (h : inU (L.getD k (0, 0)) = true)
    (h3 : 0 < k → (L.getD (k - 1) (0, 0)).1 ≤ (L.getD k (0, 0)).1) : Good L (k + 1) := by
  have hp : prevOf L (k + 1) = some (L.getD k (0, 0)).1 := by unfold prevOf; rw [if_neg (by omega)]; rfl
  unfold Good
  rw [g, drop_at hk, hp]
  by_cases h0 : k = 0
  · have hp : prevOf L k = none := by unfold prevOf; rw [if_pos h0]
    rw [hp]; simp only [usesGo, h]; simp
  · have hp : prevOf L k = some (L.getD (k - 1) (0, 0)).1 := by unfold prevOf; rw [if_neg h0]
    have := h3 (by omega)
    rw [hp]; simp only [usesGo, h, if_neg (show ¬ (L.getD k (0, 0)).1 < (L.getD (k - 1) (0, 0)).1 by omega)]; simp

theorem Good.done {L : List (Int × Int)} {k : Nat} (g : Good L k) (hk : L.length ≤ k) : uses L = (0, 0) := by
  rw [g, List.drop_eq_nil_of_le hk]; rfl

theorem usesGo_all {L : List (Int × Int)} : ∀ {prev : Option Int} {i : Nat}, (usesGo prev i L).1 = 0 → ∀ u ∈ L, inU u = true := by
  induction L with
  | nil => intro _ _ _ u hu; simp at hu
  | cons e r ih =>
    intro prev i h u hu
    unfold usesGo at h
    by_cases he : inU e = false
    · rw [if_pos he] at h; simp at h
    · rw [if_neg he] at h
      have he : inU e = true := by simpa using he
      have hr : ∀ u ∈ r, inU u = true := by
        cases prev with
        | none => exact ih h
        | some q =>
          dsimp only at h
          split at h
          · simp at h
          · exact ih h
      rcases List.mem_cons.1 hu with rfl | hu
      · exact he
      · exact hr u hu

/-- A right list: few uses, each of them in range. -/
theorem uses_ok {L : List (Int × Int)} (h : (uses L).1 = 0) : L.length ≤ 30 ∧ ∀ u ∈ L, inU u = true := by
  unfold uses at h
  split at h
  · simp at h
  · exact ⟨by omega, usesGo_all h⟩

theorem uses_one (u : Int × Int) : (uses [u]).1 = if inU u = true then 0 else 3 := by
  unfold uses
  cases h : inU u <;> simp [usesGo, h]

/-! ### Those that still count -/
def recent (o : Int) (L : List (Int × Int)) : List (Int × Int) := L.filter fun u => decide (o < u.1)

theorem recent_le (o : Int) (L : List (Int × Int)) : (recent o L).length ≤ L.length := List.length_filter_le _ _
theorem recent_hit {o : Int} {L : List (Int × Int)} {k : Nat} (hk : k < L.length) (h : o < (L.getD k (0, 0)).1) : recent o (L.take (k + 1)) = recent o (L.take k) ++ [L.getD k (0, 0)] := by
  rw [take_at hk]; unfold recent; rw [List.filter_append]; generalize L.getD k (0, 0) = u at h ⊢; simp [h]
theorem recent_miss {o : Int} {L : List (Int × Int)} {k : Nat} (hk : k < L.length) (h : ¬ o < (L.getD k (0, 0)).1) : recent o (L.take (k + 1)) = recent o (L.take k) := by
  rw [take_at hk]; unfold recent; rw [List.filter_append]; generalize L.getD k (0, 0) = u at h ⊢; simp; omega
theorem recent_all {o : Int} {L : List (Int × Int)} {k : Nat} (hk : L.length ≤ k) : recent o (L.take k) = recent o L := by rw [List.take_of_length_le hk]
theorem recent_mem {o : Int} {L : List (Int × Int)} {u : Int × Int} (h : u ∈ recent o L) : u ∈ L := (List.mem_filter.1 h).1
theorem recent_take_le (o : Int) (L : List (Int × Int)) (k : Nat) : (recent o (L.take k)).length ≤ k := by
  have := recent_le o (L.take k)
  have := List.length_take_le k L
  omega
theorem recent_take_le' (o : Int) (L : List (Int × Int)) (k : Nat) : (recent o (L.take k)).length ≤ L.length := by
  have := recent_le o (L.take k)
  simp at this
  omega

/-! ### How much in all -/
def tot : List (Int × Int) → Int
  | [] => 0
  | u :: r => u.2 + tot r

theorem tot_append (A B : List (Int × Int)) : tot (A ++ B) = tot A + tot B := by
  induction A with
  | nil => simp [tot]
  | cons e r ih => simp only [List.cons_append, tot, ih]; omega
theorem tot_snoc (A : List (Int × Int)) (u : Int × Int) : tot (A ++ [u]) = tot A + u.2 := by rw [tot_append]; simp [tot]
theorem tot_bound {A : List (Int × Int)} (h : ∀ u ∈ A, inU u = true) : 0 ≤ tot A ∧ tot A ≤ 1000000 * (A.length : Int) := by
  induction A with
  | nil => simp [tot]
  | cons e r ih =>
    have h1 := ih fun u hu => h u (List.mem_cons_of_mem _ hu)
    have h2 := inU_true.1 (h e List.mem_cons_self)
    simp only [tot, List.length_cons]
    omega
theorem tot_take_le {A : List (Int × Int)} (h : ∀ u ∈ A, inU u = true) (k : Nat) : tot (A.take k) ≤ tot A := by
  have h1 := tot_append (A.take k) (A.drop k)
  rw [List.take_append_drop] at h1
  have h2 := tot_bound (A := A.drop k) fun u hu => h u (List.mem_of_mem_drop hu)
  omega

/-! ### One more -/
def wrongAdd (p : Pa) (L : List (Int × Int)) (x : Int × Int) : Int :=
  if wrongP p ≠ 0 then wrongP p else if (uses L).1 ≠ 0 then (uses L).1 else if inU x = false then 3
  else if 0 < L.length ∧ x.1 < (L.getD (L.length - 1) (0, 0)).1 then 2 else 0

def out (p : Pa) (L : List (Int × Int)) (x : Int × Int) : List (Int × Int) := recent (x.1 - p.t) L ++ [x]

def addU (p : Pa) (L : List (Int × Int)) (x : Int × Int) : List (Int × Int) × Int :=
  if wrongAdd p L x ≠ 0 then ([], wrongAdd p L x) else if p.c < (out p L x).length ∨ p.s < tot (out p L x) then ([], 11) else (out p L x, 0)

/-- What may be added to. -/
structure Fit (p : Pa) (L : List (Int × Int)) (x : Int × Int) : Prop where
  pace : RightP p
  few : L.length ≤ 30
  all : ∀ u ∈ L, inU u = true
  inx : inU x = true
  last : 0 < L.length → (L.getD (L.length - 1) (0, 0)).1 ≤ x.1

theorem wrongAdd_ok {p : Pa} {L : List (Int × Int)} {x : Int × Int} (h : wrongAdd p L x = 0) : Fit p L x := by
  unfold wrongAdd at h
  by_cases h1 : wrongP p = 0
  · rw [if_neg (by simpa using h1)] at h
    by_cases h2 : (uses L).1 = 0
    · rw [if_neg (by simpa using h2)] at h
      by_cases h3 : inU x = false
      · rw [if_pos h3] at h; omega
      · rw [if_neg h3] at h
        split at h
        · omega
        · next h4 => exact ⟨wrongP_ok.1 h1, (uses_ok h2).1, (uses_ok h2).2, by simpa using h3, fun h0 => by omega⟩
    · rw [if_pos h2] at h; exact absurd h h2
  · rw [if_pos h1] at h; exact absurd h h1

theorem addU_bad {p : Pa} {L : List (Int × Int)} {x : Int × Int} (h : wrongAdd p L x ≠ 0) : addU p L x = ([], wrongAdd p L x) := by unfold addU; rw [if_pos h]

theorem out_all {p : Pa} {L : List (Int × Int)} {x : Int × Int} (f : Fit p L x) : ∀ u ∈ out p L x, inU u = true := by
  intro u hu
  unfold out at hu
  rcases List.mem_append.1 hu with h | h
  · exact f.all u (recent_mem h)
  · simp at h; subst h; exact f.inx
theorem out_few {p : Pa} {L : List (Int × Int)} {x : Int × Int} (f : Fit p L x) : (out p L x).length ≤ 31 := by
  have := recent_le (x.1 - p.t) L
  have := f.few
  unfold out
  simp
  omega
end Go.Proofs.Ytdifndnogpcbkaa
