/- Plain lists of entries: what is wrong with one, what an account has, what comes of entries that are posted. No program here. -/
namespace Go.Proofs.Ytabbjhibmeaaaaa

def inTot (s : Int) : Bool := decide (-1000000000000 ≤ s) && decide (s ≤ 1000000000000)
def inR (e : Int × Int) : Bool := decide (0 ≤ e.1) && decide (e.1 < 58) && inTot e.2

theorem inTot_true {s : Int} : inTot s = true ↔ -1000000000000 ≤ s ∧ s ≤ 1000000000000 := by simp [inTot]
theorem inR_true {e : Int × Int} : inR e = true ↔ 0 ≤ e.1 ∧ e.1 < 58 ∧ -1000000000000 ≤ e.2 ∧ e.2 ≤ 1000000000000 := by
  simp [inR, inTot_true, and_assoc]

/-! ### Get -/
def getE (L : List (Int × Int)) (acc : Int) : Int :=
  match L with
  | [] => 0
  | e :: r => if e.1 = acc then e.2 else getE r acc

theorem getE_none {L : List (Int × Int)} {acc : Int} (h : ∀ j, j < L.length → (L.getD j (0, 0)).1 ≠ acc) : getE L acc = 0 := by
  induction L with
  | nil => rfl
  | cons e r ih =>
    have h0 := h 0 (by simp)
    simp at h0
    simp only [getE, if_neg h0]
    exact ih fun j hj => by have := h (j + 1) (by simpa using hj); simpa using this

theorem getE_first {L : List (Int × Int)} {acc : Int} {k : Nat} (hk : k < L.length) (h : ∀ j, j < k → (L.getD j (0, 0)).1 ≠ acc) (h1 : (L.getD k (0, 0)).1 = acc) : getE L acc = (L.getD k (0, 0)).2 := by
  induction L generalizing k with
  | nil => simp at hk
  | cons e r ih =>
    cases k with
    | zero => simp at h1; simp [getE, h1]
    | succ k =>
      have h0 := h 0 (by omega)
      simp at h0
      simp only [getE, if_neg h0]
      have := ih (k := k) (by simpa using hk) (fun j hj => by have := h (j + 1) (by omega); simpa using this) (by simpa using h1)
      rw [this]; simp

theorem drop_at {L : List (Int × Int)} {k : Nat} (hk : k < L.length) : L.drop k = L.getD k (0, 0) :: L.drop (k + 1) := by
  rw [List.drop_eq_getElem_cons hk]; simp [List.getD, hk]

theorem getE_drop {L : List (Int × Int)} {acc : Int} {k : Nat} (hk : k < L.length) :
    getE (L.drop k) acc = if (L.getD k (0, 0)).1 = acc then (L.getD k (0, 0)).2 else getE (L.drop (k + 1)) acc := by
  rw [drop_at hk]; rfl

/-! ### Wrong -/
def wrongGo (prev : Option Int) (i : Nat) (tot : Int) : List (Int × Int) → Int × Int
  | [] => if tot = 0 then (0, 0) else (8, 0)
  | e :: r => if inR e = false then (3, i) else if e.2 = 0 then (2, i) else
      match prev with
      | none => wrongGo (some e.1) (i + 1) (tot + e.2) r
      | some p => if e.1 ≤ p then (2, i) else wrongGo (some e.1) (i + 1) (tot + e.2) r

def wrong (L : List (Int × Int)) : Int × Int := wrongGo none 0 0 L

def prevOf (L : List (Int × Int)) (k : Nat) : Option Int := if k = 0 then none else some (L.getD (k - 1) (0, 0)).1

/-- What stands ahead of the k-th entry is right, and together has so much. -/
structure Good (L : List (Int × Int)) (k : Nat) (t : Int) : Prop where
  left : wrong L = wrongGo (prevOf L k) k t (L.drop k)
  few : k ≤ 58
  last : 0 < k → (k : Int) ≤ (L.getD (k - 1) (0, 0)).1 + 1 ∧ (L.getD (k - 1) (0, 0)).1 < 58
  lo : -1000000000000 * (k : Int) ≤ t
  hi : t ≤ 1000000000000 * (k : Int)

theorem good_zero (L : List (Int × Int)) : Good L 0 0 := ⟨rfl, by omega, by omega, by omega, by omega⟩

theorem Good.range {L : List (Int × Int)} {k : Nat} {t : Int} (g : Good L k t) (hk : k < L.length) (h : inR (L.getD k (0, 0)) = false) : wrong L = (3, (k : Int)) := by
  rw [g.left, drop_at hk]; simp only [wrongGo, h, if_pos]

theorem Good.zero {L : List (Int × Int)} {k : Nat} {t : Int} (g : Good L k t) (hk : k < L.length) (h : inR (L.getD k (0, 0)) = true) (h2 : (L.getD k (0, 0)).2 = 0) : wrong L = (2, (k : Int)) := by
  rw [g.left, drop_at hk]; simp only [wrongGo, h, h2, if_pos]; simp

theorem Good.order {L : List (Int × Int)} {k : Nat} {t : Int} (g : Good L k t) (hk : k < L.length) (h : inR (L.getD k (0, 0)) = true) (h2 : (L.getD k (0, 0)).2 ≠ 0) (h0 : 0 < k)
    (h3 : (L.getD k (0, 0)).1 ≤ (L.getD (k - 1) (0, 0)).1) : wrong L = (2, (k : Int)) := by
  have hp : prevOf L k = some (L.getD (k - 1) (0, 0)).1 := by unfold prevOf; rw [if_neg (by omega)]
  rw [g.left, drop_at hk, hp]; simp only [wrongGo, h, if_neg h2, if_pos h3]; simp

theorem Good.next {L : List (Int × Int)} {k : Nat} {t : Int} (g : Good L k t) (hk : k < L.length) (h : inR (L.getD k (0, 0)) = true) (h2 : (L.getD k (0, 0)).2 ≠ 0)
    (h3 : 0 < k → (L.getD (k - 1) (0, 0)).1 < (L.getD k (0, 0)).1) : Good L (k + 1) (t + (L.getD k (0, 0)).2) := by
  obtain ⟨r1, r2, r3, r4⟩ := inR_true.1 h
  have hl := g.last
  refine ⟨?_, ?_, fun _ => ?_, ?_, ?_⟩
  · have hp : prevOf L (k + 1) = some (L.getD k (0, 0)).1 := by unfold prevOf; rw [if_neg (by omega)]; rfl
    rw [g.left, drop_at hk, hp]
    by_cases h0 : k = 0
    · have hp : prevOf L k = none := by unfold prevOf; rw [if_pos h0]
      rw [hp]; simp only [wrongGo, h, if_neg h2]; simp
    · have hp : prevOf L k = some (L.getD (k - 1) (0, 0)).1 := by unfold prevOf; rw [if_neg h0]
      have := h3 (by omega)
      rw [hp]; simp only [wrongGo, h, if_neg h2, if_neg (show ¬ (L.getD k (0, 0)).1 ≤ (L.getD (k - 1) (0, 0)).1 by omega)]; simp
  · by_cases h0 : k = 0
    · omega
    · have := h3 (by omega); have := hl (by omega); omega
  · by_cases h0 : k = 0
    · subst h0; show ((0 + 1 : Nat) : Int) ≤ (L.getD 0 (0, 0)).1 + 1 ∧ (L.getD 0 (0, 0)).1 < 58; omega
    · have := h3 (by omega); have := hl (by omega); show ((k + 1 : Nat) : Int) ≤ (L.getD k (0, 0)).1 + 1 ∧ (L.getD k (0, 0)).1 < 58; omega
  · have := g.lo; omega
  · have := g.hi; omega

theorem Good.fit {L : List (Int × Int)} {t : Int} {k : Nat} (g : Good L k t) (hk : L.length ≤ k) (h : t ≠ 0) : wrong L = (8, 0) := by
  rw [g.left, List.drop_eq_nil_of_le hk]; simp [wrongGo, h]

theorem Good.done {L : List (Int × Int)} {t : Int} {k : Nat} (g : Good L k t) (hk : L.length ≤ k) (h : t = 0) : wrong L = (0, 0) := by
  rw [g.left, List.drop_eq_nil_of_le hk]; simp [wrongGo, h]

end Go.Proofs.Ytabbjhibmeaaaaa
