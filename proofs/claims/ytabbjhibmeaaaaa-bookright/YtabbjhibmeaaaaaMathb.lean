/- Plain lists of entries: what is wrong with entries that are to be posted; what comes of them; a book that is right. No program here. -/
import Derived.Test.YtabbjhibmeaaaaaMath
namespace Go.Proofs.Ytabbjhibmeaaaaa

def upd (f : Nat → Int) (i : Nat) (v : Int) : Nat → Int := fun j => if j = i then v else f j

/-- The book of the first n sums. -/
def listE (f : Nat → Int) (n : Nat) : List (Int × Int) := ((List.range n).filter fun k => f k != 0).map fun (k : Nat) => ((k : Int), f k)

theorem listE_zero (f : Nat → Int) : listE f 0 = [] := rfl
theorem listE_hit (f : Nat → Int) (k : Nat) (h : f k ≠ 0) : listE f (k + 1) = listE f k ++ [((k : Int), f k)] := by
  simp [listE, List.range_succ, List.filter_append, h]
theorem listE_miss (f : Nat → Int) (k : Nat) (h : f k = 0) : listE f (k + 1) = listE f k := by
  simp [listE, List.range_succ, List.filter_append, h]
theorem listE_le (f : Nat → Int) (k : Nat) : (listE f k).length ≤ k := by
  have := List.length_filter_le (fun k => f k != 0) (List.range k)
  simpa [listE] using this

/-! ### Entries -/
def entGo (t : Int) : List (Int × Int) → Int
  | [] => if t = 0 then 0 else 8
  | e :: r => if inR e = false then 3 else entGo (t + e.2) r
def wrongEs (E : List (Int × Int)) : Int := if 10 < E.length then 5 else entGo 0 E

structure GoodE (E : List (Int × Int)) (k : Nat) (t : Int) : Prop where
  left : entGo 0 E = entGo t (E.drop k)
  lo : -1000000000000 * (k : Int) ≤ t
  hi : t ≤ 1000000000000 * (k : Int)

theorem goodE_zero (E : List (Int × Int)) : GoodE E 0 0 := ⟨rfl, by omega, by omega⟩
theorem GoodE.range {L : List (Int × Int)} {k : Nat} {t : Int} (g : GoodE L k t) (hk : k < L.length) (h : inR (L.getD k (0, 0)) = false) : entGo 0 L = 3 := by
  rw [g.left, drop_at hk]; simp only [entGo, h, if_pos]
theorem GoodE.next {L : List (Int × Int)} {k : Nat} {t : Int} (g : GoodE L k t) (hk : k < L.length) (h : inR (L.getD k (0, 0)) = true) : GoodE L (k + 1) (t + (L.getD k (0, 0)).2) := by
  obtain ⟨r1, r2, r3, r4⟩ := inR_true.1 h
  refine ⟨?_, ?_, ?_⟩
  · rw [g.left, drop_at hk]; simp only [entGo, h]; simp
  · have := g.lo; omega
  · have := g.hi; omega
theorem GoodE.fit {L : List (Int × Int)} {t : Int} {k : Nat} (g : GoodE L k t) (hk : L.length ≤ k) (h : t ≠ 0) : entGo 0 L = 8 := by
  rw [g.left, List.drop_eq_nil_of_le hk]; simp [entGo, h]
theorem GoodE.done {L : List (Int × Int)} {t : Int} {k : Nat} (g : GoodE L k t) (hk : L.length ≤ k) (h : t = 0) : entGo 0 L = 0 := by
  rw [g.left, List.drop_eq_nil_of_le hk]; simp [entGo, h]
theorem wrongEs_many {E : List (Int × Int)} (h : 10 < E.length) : wrongEs E = 5 := by unfold wrongEs; rw [if_pos h]
theorem wrongEs_few {E : List (Int × Int)} (h : E.length ≤ 10) : wrongEs E = entGo 0 E := by unfold wrongEs; rw [if_neg (by omega)]

theorem entGo_ok {t : Int} {E : List (Int × Int)} : entGo t E = 0 ↔ (∀ e ∈ E, inR e = true) ∧ t + (E.map (·.2)).sum = 0 := by
  induction E generalizing t with
  | nil => simp [entGo]
  | cons e r ih =>
    cases h : inR e with
    | false => simp [entGo, h]
    | true =>
      have h1 : entGo t (e :: r) = entGo (t + e.2) r := by simp [entGo, h]
      rw [h1, ih]
      simp [h, Int.add_assoc]

theorem wrongEs_ok {E : List (Int × Int)} : wrongEs E = 0 ↔ E.length ≤ 10 ∧ (∀ e ∈ E, inR e = true) ∧ (E.map (·.2)).sum = 0 := by
  by_cases h : 10 < E.length
  · simp [wrongEs_many h]; omega
  · rw [wrongEs_few (by omega), entGo_ok]; simp; omega

/-! ### A right book -/
structure Right (L : List (Int × Int)) : Prop where
  all : ∀ e ∈ L, inR e = true ∧ e.2 ≠ 0
  rise : L.Pairwise fun a b => a.1 < b.1
  fit : (L.map (·.2)).sum = 0

theorem wrongGo_ok {p : Option Int} {i : Nat} {t : Int} {L : List (Int × Int)} :
    (wrongGo p i t L).1 = 0 ↔ (∀ e ∈ L, inR e = true ∧ e.2 ≠ 0) ∧ (L.Pairwise fun a b => a.1 < b.1) ∧ (∀ q, p = some q → ∀ e ∈ L, q < e.1) ∧ t + (L.map (·.2)).sum = 0 := by
  induction L generalizing p i t with
  | nil => by_cases h : t = 0 <;> simp [wrongGo, h]
  | cons e r ih =>
    cases h : inR e with
    | false => simp [wrongGo, h]
    | true =>
      by_cases h2 : e.2 = 0
      · simp [wrongGo, h, h2]
      · have tail : (wrongGo (some e.1) (i + 1) (t + e.2) r).1 = 0 ↔ (∀ x ∈ e :: r, inR x = true ∧ x.2 ≠ 0) ∧ ((e :: r).Pairwise fun a b => a.1 < b.1) ∧ t + ((e :: r).map (·.2)).sum = 0 := by
          rw [ih, List.pairwise_cons, List.map_cons, List.sum_cons]
          constructor
          · rintro ⟨a1, a2, a3, a4⟩
            refine ⟨fun x hx => ?_, ⟨fun x hx => a3 e.1 rfl x hx, a2⟩, by omega⟩
            rcases List.mem_cons.1 hx with hx | hx
            · rw [hx]; exact ⟨h, h2⟩
            · exact a1 x hx
          · rintro ⟨a1, ⟨a2, a3⟩, a4⟩
            exact ⟨fun x hx => a1 x (List.mem_cons_of_mem _ hx), a3, fun q hq x hx => by cases hq; exact a2 x hx, by omega⟩
        cases p with
        | none =>
          simp only [wrongGo, h, if_neg h2]
          simp only [Bool.true_eq_false, if_false]
          rw [tail]
          constructor
          · rintro ⟨a1, a2, a3⟩; exact ⟨a1, a2, fun q hq => (by cases hq), a3⟩
          · rintro ⟨a1, a2, _, a3⟩; exact ⟨a1, a2, a3⟩
        | some q =>
          by_cases h3 : e.1 ≤ q
          · simp only [wrongGo, h, if_neg h2, if_pos h3]
            constructor
            · intro hc; simp at hc
            · rintro ⟨_, _, a3, _⟩
              have := a3 q rfl e (by simp)
              omega
          · simp only [wrongGo, h, if_neg h2, if_neg h3]
            simp only [Bool.true_eq_false, if_false]
            rw [tail]
            constructor
            · rintro ⟨a1, a2, a3⟩
              refine ⟨a1, a2, fun y hy x hx => ?_, a3⟩
              cases hy
              rcases List.mem_cons.1 hx with hx | hx
              · rw [hx]; omega
              · rw [List.pairwise_cons] at a2
                have := a2.1 x hx
                omega
            · rintro ⟨a1, a2, _, a3⟩; exact ⟨a1, a2, a3⟩

theorem wrong_ok {L : List (Int × Int)} : (wrong L).1 = 0 ↔ Right L := by
  unfold wrong
  rw [wrongGo_ok]
  constructor
  · rintro ⟨h1, h2, -, h4⟩; exact ⟨h1, h2, by simpa using h4⟩
  · rintro ⟨h1, h2, h4⟩; exact ⟨h1, h2, by simp, by simpa using h4⟩

theorem rise_le {L : List (Int × Int)} {c : Int} (hc : c ≤ 58) (h1 : ∀ e ∈ L, c ≤ e.1 ∧ e.1 < 58) (h2 : L.Pairwise fun a b => a.1 < b.1) : (L.length : Int) + c ≤ 58 := by
  induction L generalizing c with
  | nil => simpa using hc
  | cons e r ih =>
    rw [List.pairwise_cons] at h2
    have he := h1 e (by simp)
    have := ih (c := c + 1) (by omega) (fun x hx => ⟨by have := h2.1 x hx; omega, (h1 x (by simp [hx])).2⟩) h2.2
    simp; omega

theorem Right.few {L : List (Int × Int)} (h : Right L) : L.length ≤ 58 := by
  have := rise_le (c := 0) (by omega) (fun e he => by have := inR_true.1 (h.all e he).1; omega) h.rise
  omega
end Go.Proofs.Ytabbjhibmeaaaaa
