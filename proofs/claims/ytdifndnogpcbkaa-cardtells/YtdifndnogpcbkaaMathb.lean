/- Plain lists of uses: what a pace allows a wider one allows; of uses that were allowed, one behind the other, no so many ticks have too much. No program here. -/
import Derived.Test.YtdifndnogpcbkaaMath
namespace Go.Proofs.Ytdifndnogpcbkaa

theorem addU_zero {p : Pa} {L : List (Int × Int)} {x : Int × Int} (h : (addU p L x).2 = 0) :
    wrongAdd p L x = 0 ∧ ((out p L x).length : Int) ≤ p.c ∧ tot (out p L x) ≤ p.s ∧ addU p L x = (out p L x, 0) := by
  unfold addU at h ⊢
  by_cases h1 : wrongAdd p L x = 0
  · rw [if_neg (by simpa using h1)] at h ⊢
    by_cases h2 : p.c < (out p L x).length ∨ p.s < tot (out p L x)
    · rw [if_pos h2] at h; simp at h
    · rw [if_neg h2]
      exact ⟨h1, by omega, by omega, rfl⟩
  · rw [if_pos h1] at h; exact absurd h h1

theorem addU_refused {p : Pa} {L : List (Int × Int)} {x : Int × Int} (h : (addU p L x).2 ≠ 0) : (addU p L x).1 = [] := by
  unfold addU at h ⊢
  by_cases h1 : wrongAdd p L x = 0
  · rw [if_neg (by simpa using h1)] at h ⊢
    by_cases h2 : p.c < (out p L x).length ∨ p.s < tot (out p L x)
    · rw [if_pos h2]
    · rw [if_neg h2] at h; simp at h
  · rw [if_pos h1]

theorem wrongAdd_pace_zero {p : Pa} {L : List (Int × Int)} {x : Int × Int} (h : wrongAdd p L x = 0) : wrongP p = 0 := by
  unfold wrongAdd at h
  by_cases h1 : wrongP p = 0
  · exact h1
  · rw [if_pos h1] at h; exact h

/-- What a pace allows a wider one allows, and keeps the same. -/
theorem addU_more {p q : Pa} {L : List (Int × Int)} {x : Int × Int} (h : (addU p L x).2 = 0) (hq : wrongP q = 0) (ht : q.t = p.t) (hc : p.c ≤ q.c) (hs : p.s ≤ q.s) : addU q L x = addU p L x := by
  obtain ⟨h1, h2, h3, h4⟩ := addU_zero h
  have ho : out q L x = out p L x := by unfold out; rw [ht]
  have hp := wrongAdd_pace_zero h1
  have hw : wrongAdd q L x = 0 := by
    unfold wrongAdd at h1 ⊢
    rw [hp] at h1
    rw [hq]
    exact h1
  rw [h4]
  unfold addU
  rw [if_neg (by simpa using hw), ho, if_neg (by omega)]

/-! ### One behind the other -/
/-- What the uses that were allowed are, and what is kept of them. -/
structure Kept (p : Pa) (kept all : List (Int × Int)) : Prop where
  pace : RightP p
  right : ∀ u ∈ all, inU u = true
  kept : all = [] ∧ kept = [] ∨ ∃ A u, all = A ++ [u] ∧ kept = recent (u.1 - p.t) all
  fits : ∀ i, i < all.length → ((recent ((all.getD i (0, 0)).1 - p.t) (all.take (i + 1))).length : Int) ≤ p.c ∧ tot (recent ((all.getD i (0, 0)).1 - p.t) (all.take (i + 1))) ≤ p.s

theorem kept_start {p : Pa} (h : RightP p) : Kept p [] [] := ⟨h, by simp, Or.inl ⟨rfl, rfl⟩, by simp⟩

theorem recent_snoc (o : Int) (A : List (Int × Int)) (u : Int × Int) (h : o < u.1) : recent o (A ++ [u]) = recent o A ++ [u] := by
  unfold recent; rw [List.filter_append]; simp [h]

theorem recent_recent (o o' : Int) (A : List (Int × Int)) (h : o ≤ o') : recent o' (recent o A) = recent o' A := by
  unfold recent
  rw [List.filter_filter]
  congr 1
  funext u
  by_cases h1 : o' < u.1
  · simp [h1]; omega
  · simp [h1]

theorem Kept.next {p : Pa} {kept all : List (Int × Int)} {x : Int × Int} (k : Kept p kept all) (h : (addU p kept x).2 = 0) : Kept p (addU p kept x).1 (all ++ [x]) := by
  obtain ⟨h1, h2, h3, h4⟩ := addU_zero h
  have f := wrongAdd_ok h1
  have ht := k.pace.t1
  have hx : x.1 - p.t < x.1 := by omega
  have hout : out p kept x = recent (x.1 - p.t) (all ++ [x]) := by
    unfold out
    rw [recent_snoc _ _ _ hx]
    congr 1
    rcases k.kept with ⟨ha, hk⟩ | ⟨A, u, ha, hk⟩
    · rw [ha, hk]
    · have hku : kept = recent (u.1 - p.t) A ++ [u] := by rw [hk, ha, recent_snoc _ _ _ (by omega)]
      have hl := f.last (by rw [hku]; simp)
      have hlast : kept.getD (kept.length - 1) (0, 0) = u := by rw [hku]; simp [List.getD]
      rw [hlast] at hl
      rw [hk]
      exact recent_recent _ _ _ (by omega)
  rw [h4]
  refine ⟨k.pace, ?_, Or.inr ⟨all, x, rfl, hout⟩, ?_⟩
  · intro u hu
    rcases List.mem_append.1 hu with h | h
    · exact k.right u h
    · simp at h; subst h; exact f.inx
  · intro i hi
    rw [List.length_append] at hi
    by_cases hlt : i < all.length
    · have := k.fits i hlt
      have e1 : (all ++ [x]).getD i (0, 0) = all.getD i (0, 0) := by simp [List.getD, List.getElem?_append_left hlt]
      have e2 : (all ++ [x]).take (i + 1) = all.take (i + 1) := by rw [List.take_append_of_le_length (by omega)]
      rw [e1, e2]
      exact this
    · have hi' : i = all.length := by simp at hi; omega
      subst hi'
      have e1 : (all ++ [x]).getD all.length (0, 0) = x := by simp [List.getD]
      have e2 : (all ++ [x]).take (all.length + 1) = all ++ [x] := by rw [List.take_of_length_le (by simp)]
      rw [e1, e2, ← hout]
      exact ⟨h2, h3⟩

theorem Kept.few {p : Pa} {kept all : List (Int × Int)} (k : Kept p kept all) : kept.length ≤ all.length := by
  rcases k.kept with ⟨ha, hk⟩ | ⟨A, u, ha, hk⟩
  · rw [ha, hk]; exact Nat.le_refl _
  · rw [hk]; exact recent_le _ _
end Go.Proofs.Ytdifndnogpcbkaa
