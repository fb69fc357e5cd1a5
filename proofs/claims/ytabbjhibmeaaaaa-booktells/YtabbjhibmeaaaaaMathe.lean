/- The document's way to lay a book's sums, and that it comes to the same. No program here. -/
import Derived.Test.YtabbjhibmeaaaaaMathd
namespace Go.Proofs.Ytabbjhibmeaaaaa

def setL (f : Nat → Int) : List (Int × Int) → (Nat → Int)
  | [] => f
  | e :: r => setL (upd f e.1.toNat e.2) r

theorem setL_addL {f : Nat → Int} {l : List (Int × Int)} (h1 : ∀ e ∈ l, 0 ≤ e.1) (h2 : l.Pairwise fun a b => a.1 < b.1) (h3 : ∀ e ∈ l, f e.1.toNat = 0) : setL f l = addL f l := by
  induction l generalizing f with
  | nil => rfl
  | cons e r ih =>
    rw [List.pairwise_cons] at h2
    simp only [setL, addL]
    rw [h3 e (by simp), Int.zero_add]
    refine ih (fun x hx => h1 x (by simp [hx])) h2.2 (fun x hx => ?_)
    have a := h2.1 x hx
    have b := h1 e (by simp)
    unfold upd
    rw [if_neg (by omega)]
    exact h3 x (by simp [hx])

theorem Right.set {l : List (Int × Int)} (h : Right l) : setL zeroF l = addL zeroF l :=
  setL_addL (fun e he => (inR_true.1 (h.all e he).1).1) h.rise (fun _ _ => rfl)

structure SetL (l : List (Int × Int)) (k : Nat) (g : Nat → Int) : Prop where
  left : setL zeroF l = setL g (l.drop k)
  small : ∀ i, -1000000000000 ≤ g i ∧ g i ≤ 1000000000000

theorem setL_zero (l : List (Int × Int)) : SetL l 0 zeroF := ⟨rfl, fun i => by simp [zeroF]⟩
theorem SetL.next {l : List (Int × Int)} {k : Nat} {g : Nat → Int} (h : SetL l k g) (hk : k < l.length) (hr : inR (l.getD k (0, 0)) = true) :
    SetL l (k + 1) (upd g (l.getD k (0, 0)).1.toNat (l.getD k (0, 0)).2) := by
  obtain ⟨r1, r2, r3, r4⟩ := inR_true.1 hr
  refine ⟨by rw [h.left, drop_at hk]; rfl, fun i => ?_⟩
  unfold upd
  split
  · exact ⟨r3, r4⟩
  · exact h.small i
theorem SetL.done {l : List (Int × Int)} {k : Nat} {g : Nat → Int} (h : SetL l k g) (hk : l.length ≤ k) : setL zeroF l = g := by
  rw [h.left, List.drop_eq_nil_of_le hk]; rfl

theorem inTot_false {s : Int} : inTot s = false ↔ 1000000000000 < s ∨ s < -1000000000000 := by
  have := @inTot_true s
  constructor
  · intro h; rw [h] at this; simp at this; omega
  · intro h
    cases hc : inTot s with
    | false => rfl
    | true => have := this.1 hc; omega
theorem inR_false {x1 x2 : Int} (h : inR (x1, x2) = false) : x1 < 0 ∨ (0 ≤ x1 ∧ 57 < x1) ∨ (0 ≤ x1 ∧ x1 ≤ 57 ∧ 1000000000000 < x2) ∨ (0 ≤ x1 ∧ x1 ≤ 57 ∧ x2 ≤ 1000000000000 ∧ x2 < -1000000000000) := by
  have hn : ¬ inR (x1, x2) = true := by simp [h]
  rw [inR_true] at hn
  simp only at hn
  omega
end Go.Proofs.Ytabbjhibmeaaaaa
