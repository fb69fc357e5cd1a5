/- What comes of entries that are posted to a book, sum by sum. No program here. -/
import Derived.Test.YtabbjhibmeaaaaaMathb
namespace Go.Proofs.Ytabbjhibmeaaaaa

def zeroF : Nat → Int := fun _ => 0

def addL (f : Nat → Int) : List (Int × Int) → (Nat → Int)
  | [] => f
  | e :: r => addL (upd f e.1.toNat (f e.1.toNat + e.2)) r

def addAll (f : Nat → Int) : List (Int × Int) → Option (Nat → Int)
  | [] => some f
  | e :: r => if inTot (f e.1.toNat + e.2) then addAll (upd f e.1.toNat (f e.1.toNat + e.2)) r else none

/-- What Post answers: the book, and the error's number. -/
def post (l E : List (Int × Int)) : List (Int × Int) × Int :=
  if (wrong l).1 ≠ 0 then ([], (wrong l).1) else if wrongEs E ≠ 0 then ([], wrongEs E) else
    match addAll (addL zeroF l) E with
    | none => ([], 4)
    | some f => (listE f 58, 0)

theorem post_wrong {l E : List (Int × Int)} (h : (wrong l).1 ≠ 0) : post l E = ([], (wrong l).1) := by unfold post; rw [if_pos h]
theorem post_entries {l E : List (Int × Int)} (h : (wrong l).1 = 0) (h2 : wrongEs E ≠ 0) : post l E = ([], wrongEs E) := by unfold post; rw [if_neg (by simp [h]), if_pos h2]
theorem post_much {l E : List (Int × Int)} (h : (wrong l).1 = 0) (h2 : wrongEs E = 0) (h3 : addAll (addL zeroF l) E = none) : post l E = ([], 4) := by
  unfold post; rw [if_neg (by simp [h]), if_neg (by simp [h2]), h3]
theorem post_done {l E : List (Int × Int)} {f : Nat → Int} (h : (wrong l).1 = 0) (h2 : wrongEs E = 0) (h3 : addAll (addL zeroF l) E = some f) : post l E = (listE f 58, 0) := by
  unfold post; rw [if_neg (by simp [h]), if_neg (by simp [h2]), h3]

/-- The first k entries of the book are added. -/
structure AddL (l : List (Int × Int)) (k : Nat) (g : Nat → Int) : Prop where
  left : addL zeroF l = addL g (l.drop k)
  small : ∀ i, -1000000000000 * (k : Int) ≤ g i ∧ g i ≤ 1000000000000 * (k : Int)

theorem upd_small {f : Nat → Int} {i : Nat} {v c d : Int} (h : ∀ i, -c ≤ f i ∧ f i ≤ c) (hv : -d ≤ v ∧ v ≤ d) (hd : 0 ≤ d) : ∀ j, -(c + d) ≤ upd f i (f i + v) j ∧ upd f i (f i + v) j ≤ c + d := by
  intro j
  unfold upd
  have := h i
  have := h j
  split <;> omega

theorem addL_zero (l : List (Int × Int)) : AddL l 0 zeroF := ⟨rfl, fun i => by simp [zeroF]⟩
theorem AddL.next {l : List (Int × Int)} {k : Nat} {g : Nat → Int} (h : AddL l k g) (hk : k < l.length) (hr : inR (l.getD k (0, 0)) = true) :
    AddL l (k + 1) (upd g (l.getD k (0, 0)).1.toNat (g (l.getD k (0, 0)).1.toNat + (l.getD k (0, 0)).2)) := by
  obtain ⟨r1, r2, r3, r4⟩ := inR_true.1 hr
  refine ⟨by rw [h.left, drop_at hk]; rfl, fun i => ?_⟩
  have := upd_small (f := g) (i := (l.getD k (0, 0)).1.toNat) (v := (l.getD k (0, 0)).2) (c := 1000000000000 * (k : Int)) (d := 1000000000000) (fun i => by have := h.small i; omega) (by omega) (by omega) i
  omega
theorem AddL.done {l : List (Int × Int)} {k : Nat} {g : Nat → Int} (h : AddL l k g) (hk : l.length ≤ k) : addL zeroF l = g := by
  rw [h.left, List.drop_eq_nil_of_le hk]; rfl

/-- The first k entries are posted. -/
structure AddAll (f : Nat → Int) (E : List (Int × Int)) (k : Nat) (g : Nat → Int) : Prop where
  left : addAll f E = addAll g (E.drop k)
  small : ∀ i, -1000000000000 * (58 + (k : Int)) ≤ g i ∧ g i ≤ 1000000000000 * (58 + (k : Int))

theorem addAll_zero {f : Nat → Int} (E : List (Int × Int)) (h : ∀ i, -58000000000000 ≤ f i ∧ f i ≤ 58000000000000) : AddAll f E 0 f := ⟨rfl, fun i => by have := h i; omega⟩
theorem AddAll.next {f : Nat → Int} {E : List (Int × Int)} {k : Nat} {g : Nat → Int} (h : AddAll f E k g) (hk : k < E.length) (hr : inR (E.getD k (0, 0)) = true)
    (ht : inTot (g (E.getD k (0, 0)).1.toNat + (E.getD k (0, 0)).2) = true) :
    AddAll f E (k + 1) (upd g (E.getD k (0, 0)).1.toNat (g (E.getD k (0, 0)).1.toNat + (E.getD k (0, 0)).2)) := by
  obtain ⟨r1, r2, r3, r4⟩ := inR_true.1 hr
  refine ⟨by rw [h.left, drop_at hk]; simp only [addAll, ht, if_pos], fun i => ?_⟩
  have := upd_small (f := g) (i := (E.getD k (0, 0)).1.toNat) (v := (E.getD k (0, 0)).2) (c := 1000000000000 * (58 + (k : Int))) (d := 1000000000000) (fun i => by have := h.small i; omega) (by omega) (by omega) i
  omega
theorem AddAll.much {f : Nat → Int} {E : List (Int × Int)} {k : Nat} {g : Nat → Int} (h : AddAll f E k g) (hk : k < E.length)
    (ht : inTot (g (E.getD k (0, 0)).1.toNat + (E.getD k (0, 0)).2) = false) : addAll f E = none := by
  rw [h.left, drop_at hk]; simp only [addAll, ht]; simp
theorem AddAll.done {f : Nat → Int} {E : List (Int × Int)} {k : Nat} {g : Nat → Int} (h : AddAll f E k g) (hk : E.length ≤ k) : addAll f E = some g := by
  rw [h.left, List.drop_eq_nil_of_le hk]; rfl

theorem getD_mem {L : List (Int × Int)} {k : Nat} (hk : k < L.length) : L.getD k (0, 0) ∈ L := by
  simp [List.getD, hk]
end Go.Proofs.Ytabbjhibmeaaaaa
