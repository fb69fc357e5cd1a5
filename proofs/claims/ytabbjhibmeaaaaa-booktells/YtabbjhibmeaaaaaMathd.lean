/- Nothing comes from nothing: a right book to which entries were posted is right, and each account has what it had, and what was posted. No program here. -/
import Derived.Test.YtabbjhibmeaaaaaMathc
namespace Go.Proofs.Ytabbjhibmeaaaaa

/-- What entries give an account. -/
def given (acc : Int) : List (Int × Int) → Int
  | [] => 0
  | e :: r => (if e.1 = acc then e.2 else 0) + given acc r

/-- The first n sums together. -/
def total (f : Nat → Int) : Nat → Int
  | 0 => 0
  | n + 1 => total f n + f n

theorem total_upd (f : Nat → Int) (i : Nat) (v : Int) (n : Nat) : total (upd f i (f i + v)) n = total f n + if i < n then v else 0 := by
  induction n with
  | zero => simp [total]
  | succ n ih =>
    simp only [total, ih]
    unfold upd
    by_cases h : n = i
    · subst h; simp; omega
    · simp only [if_neg h]
      by_cases h2 : i < n
      · simp only [if_pos h2, if_pos (show i < n + 1 by omega)]; omega
      · simp only [if_neg h2, if_neg (show ¬ i < n + 1 by omega)]; omega

theorem addL_total {f : Nat → Int} {l : List (Int × Int)} (h : ∀ e ∈ l, inR e = true) : total (addL f l) 58 = total f 58 + (l.map (·.2)).sum := by
  induction l generalizing f with
  | nil => simp [addL]
  | cons e r ih =>
    have he := inR_true.1 (h e (by simp))
    simp only [addL, List.map_cons, List.sum_cons]
    rw [ih fun x hx => h x (by simp [hx]), total_upd, if_pos (by omega)]
    omega

theorem addL_at {f : Nat → Int} {l : List (Int × Int)} (h : ∀ e ∈ l, inR e = true) (i : Nat) : addL f l i = f i + given i l := by
  induction l generalizing f with
  | nil => simp [addL, given]
  | cons e r ih =>
    have he := inR_true.1 (h e (by simp))
    simp only [addL, given]
    rw [ih fun x hx => h x (by simp [hx])]
    unfold upd
    by_cases hi : i = e.1.toNat
    · rw [if_pos hi, if_pos (by omega), hi]; omega
    · rw [if_neg hi, if_neg (by omega)]; omega

theorem addAll_total {f g : Nat → Int} {l : List (Int × Int)} (h : ∀ e ∈ l, inR e = true) (ha : addAll f l = some g) : total g 58 = total f 58 + (l.map (·.2)).sum := by
  induction l generalizing f with
  | nil => simp [addAll] at ha; subst ha; simp
  | cons e r ih =>
    have he := inR_true.1 (h e (by simp))
    simp only [addAll] at ha
    split at ha
    · simp only [List.map_cons, List.sum_cons]
      rw [ih (fun x hx => h x (by simp [hx])) ha, total_upd, if_pos (by omega)]
      omega
    · cases ha

theorem addAll_at {f g : Nat → Int} {l : List (Int × Int)} (h : ∀ e ∈ l, inR e = true) (ha : addAll f l = some g) (i : Nat) : g i = f i + given i l := by
  induction l generalizing f with
  | nil => simp [addAll] at ha; subst ha; simp [given]
  | cons e r ih =>
    have he := inR_true.1 (h e (by simp))
    simp only [addAll] at ha
    split at ha
    · simp only [given]
      rw [ih (fun x hx => h x (by simp [hx])) ha]
      unfold upd
      by_cases hi : i = e.1.toNat
      · rw [if_pos hi, if_pos (by omega), hi]; omega
      · rw [if_neg hi, if_neg (by omega)]; omega
    · cases ha

theorem addAll_small {f g : Nat → Int} {l : List (Int × Int)} (hf : ∀ i, inTot (f i) = true) (ha : addAll f l = some g) : ∀ i, inTot (g i) = true := by
  induction l generalizing f with
  | nil => simp [addAll] at ha; subst ha; exact hf
  | cons e r ih =>
    simp only [addAll] at ha
    split at ha
    · rename_i ht
      refine ih (fun i => ?_) ha
      unfold upd
      split
      · exact ht
      · exact hf i
    · cases ha

theorem given_none {acc : Int} {l : List (Int × Int)} (h : ∀ e ∈ l, e.1 ≠ acc) : given acc l = 0 := by
  induction l with
  | nil => rfl
  | cons e r ih =>
    simp only [given]
    rw [if_neg (h e (by simp)), ih fun x hx => h x (by simp [hx])]; rfl

theorem given_rise {acc : Int} {l : List (Int × Int)} (h : l.Pairwise fun a b => a.1 < b.1) : given acc l = getE l acc := by
  induction l with
  | nil => rfl
  | cons e r ih =>
    rw [List.pairwise_cons] at h
    simp only [given, getE]
    by_cases he : e.1 = acc
    · rw [if_pos he, if_pos he, given_none fun x hx => by have := h.1 x hx; omega]; omega
    · rw [if_neg he, if_neg he, ih h.2]; omega

/-! ### The book of sums -/
theorem listE_mem {f : Nat → Int} {n : Nat} {e : Int × Int} : e ∈ listE f n ↔ ∃ k, k < n ∧ f k ≠ 0 ∧ e = ((k : Int), f k) := by
  simp only [listE, List.mem_map, List.mem_filter, List.mem_range, bne_iff_ne]
  constructor
  · rintro ⟨k, ⟨h1, h2⟩, rfl⟩; exact ⟨k, h1, h2, rfl⟩
  · rintro ⟨k, h1, h2, rfl⟩; exact ⟨k, ⟨h1, h2⟩, rfl⟩

theorem listE_rise (f : Nat → Int) (n : Nat) : (listE f n).Pairwise fun a b => a.1 < b.1 := by
  induction n with
  | zero => exact List.Pairwise.nil
  | succ n ih =>
    by_cases h : f n = 0
    · rw [listE_miss f n h]; exact ih
    · rw [listE_hit f n h, List.pairwise_append]
      refine ⟨ih, by simp, fun a ha b hb => ?_⟩
      obtain ⟨k, hk, -, rfl⟩ := listE_mem.1 ha
      simp at hb; subst hb
      show (k : Int) < n
      omega

theorem listE_sum (f : Nat → Int) (n : Nat) : ((listE f n).map (·.2)).sum = total f n := by
  induction n with
  | zero => rfl
  | succ n ih =>
    by_cases h : f n = 0
    · rw [listE_miss f n h, ih, total, h]; omega
    · rw [listE_hit f n h, List.map_append, List.sum_append, ih, total]; simp

theorem given_listE (f : Nat → Int) (acc : Int) (n : Nat) : given acc (listE f n) = if 0 ≤ acc ∧ acc < n then f acc.toNat else 0 := by
  induction n with
  | zero => rw [if_neg (by omega)]; rfl
  | succ n ih =>
    have app : ∀ a b : List (Int × Int), given acc (a ++ b) = given acc a + given acc b := by
      intro a b
      induction a with
      | nil => simp [given]
      | cons x r ih => simp only [List.cons_append, given, ih]; omega
    by_cases h : f n = 0
    · rw [listE_miss f n h, ih]
      by_cases hc : 0 ≤ acc ∧ acc < n
      · rw [if_pos hc, if_pos (by omega)]
      · rw [if_neg hc]
        by_cases hq : 0 ≤ acc ∧ acc < ((n + 1 : Nat) : Int)
        · rw [if_pos hq, show acc.toNat = n by omega, h]
        · rw [if_neg hq]
    · rw [listE_hit f n h, app, ih]
      simp only [given]
      by_cases hc : 0 ≤ acc ∧ acc < n
      · rw [if_pos hc, if_neg (by omega), if_pos (by omega)]; omega
      · rw [if_neg hc]
        by_cases hq : 0 ≤ acc ∧ acc < ((n + 1 : Nat) : Int)
        · rw [if_pos hq, if_pos (by omega), show acc.toNat = n by omega]; omega
        · rw [if_neg hq, if_neg (by omega)]; rfl

theorem getE_in {l : List (Int × Int)} {acc : Int} (h : ∀ e ∈ l, inR e = true) (ha : ¬ (0 ≤ acc ∧ acc < 58)) : getE l acc = 0 ∧ given acc l = 0 := by
  have hn : ∀ e ∈ l, e.1 ≠ acc := fun e he => by have := inR_true.1 (h e he); omega
  refine ⟨getE_none fun j hj => hn _ (getD_mem hj), given_none hn⟩

theorem zero_total : total zeroF 58 = 0 := by
  have : ∀ n, total zeroF n = 0 := fun n => by
    induction n with
    | zero => rfl
    | succ n ih => rw [total, ih]; rfl
  exact this 58

theorem getE_mem (l : List (Int × Int)) (acc : Int) : getE l acc = 0 ∨ ∃ e ∈ l, getE l acc = e.2 := by
  induction l with
  | nil => exact Or.inl rfl
  | cons e r ih =>
    simp only [getE]
    by_cases he : e.1 = acc
    · rw [if_pos he]; exact Or.inr ⟨e, by simp, rfl⟩
    · rw [if_neg he]
      rcases ih with h0 | ⟨x, hx, h1⟩
      · exact Or.inl h0
      · exact Or.inr ⟨x, by simp [hx], h1⟩

theorem addL_tot {l : List (Int × Int)} (h : Right l) (i : Nat) : inTot (addL zeroF l i) = true := by
  rw [addL_at (fun e he => (h.all e he).1), given_rise h.rise]
  simp only [zeroF, Int.zero_add]
  rcases getE_mem l i with h0 | ⟨e, he, h1⟩
  · rw [h0]; decide
  · rw [h1]; exact inTot_true.2 (by have := inR_true.1 (h.all e he).1; omega)

/-- NOTHING COMES FROM NOTHING. -/
theorem post_right {l E L : List (Int × Int)} (h : post l E = (L, 0)) : (wrong l).1 = 0 ∧ wrongEs E = 0 ∧ (wrong L).1 = 0 ∧ ∀ acc, getE L acc = getE l acc + given acc E := by
  by_cases h1 : (wrong l).1 = 0
  · by_cases h2 : wrongEs E = 0
    · have hr := wrong_ok.1 h1
      obtain ⟨hlen, hall, hsum⟩ := wrongEs_ok.1 h2
      cases h3 : addAll (addL zeroF l) E with
      | none => rw [post_much h1 h2 h3] at h; simp at h
      | some f =>
        rw [post_done h1 h2 h3] at h
        obtain rfl : listE f 58 = L := by simpa using h
        have hin : ∀ e ∈ l, inR e = true := fun e he => (hr.all e he).1
        refine ⟨h1, h2, wrong_ok.2 ⟨fun e he => ?_, listE_rise f 58, ?_⟩, fun acc => ?_⟩
        · obtain ⟨k, hk, hne, rfl⟩ := listE_mem.1 he
          have := inTot_true.1 (addAll_small (addL_tot hr) h3 k)
          exact ⟨inR_true.2 ⟨by show (0 : Int) ≤ k; omega, by show (k : Int) < 58; omega, this.1, this.2⟩, hne⟩
        · rw [listE_sum, addAll_total hall h3, addL_total hin, hr.fit, hsum, zero_total]; rfl
        · rw [← given_rise (listE_rise f 58), given_listE]
          by_cases ha : 0 ≤ acc ∧ acc < 58
          · rw [if_pos (by omega), addAll_at hall h3, addL_at hin, show ((acc.toNat : Nat) : Int) = acc by omega, given_rise hr.rise]
            simp [zeroF]
          · rw [if_neg (by omega), (getE_in hin ha).1, (getE_in hall ha).2]; rfl
    · rw [post_entries h1 h2] at h; simp at h; exact absurd h.2 h2
  · rw [post_wrong h1] at h; simp at h; exact absurd h.2 h1

/-- What is refused gives no book. -/
theorem post_none {l E : List (Int × Int)} (h : (post l E).2 ≠ 0) : (post l E).1 = [] := by
  by_cases h1 : (wrong l).1 = 0
  · by_cases h2 : wrongEs E = 0
    · cases h3 : addAll (addL zeroF l) E with
      | none => rw [post_much h1 h2 h3]
      | some f => rw [post_done h1 h2 h3] at h; simp at h
    · rw [post_entries h1 h2]
  · rw [post_wrong h1]

/-- The first k entries have given the account so much. -/
structure Gave (acc : Int) (E : List (Int × Int)) (k : Nat) (s : Int) : Prop where
  left : given acc E = s + given acc (E.drop k)
  lo : -1000000000000 * (k : Int) ≤ s
  hi : s ≤ 1000000000000 * (k : Int)

theorem gave_zero (acc : Int) (E : List (Int × Int)) : Gave acc E 0 0 := ⟨by simp, by omega, by omega⟩
theorem Gave.hit {acc : Int} {E : List (Int × Int)} {k : Nat} {s : Int} (h : Gave acc E k s) (hk : k < E.length) (hr : inR (E.getD k (0, 0)) = true) (he : (E.getD k (0, 0)).1 = acc) : Gave acc E (k + 1) (s + (E.getD k (0, 0)).2) := by
  obtain ⟨r1, r2, r3, r4⟩ := inR_true.1 hr
  refine ⟨?_, ?_, ?_⟩
  · rw [h.left, drop_at hk]; simp only [given, if_pos he]; omega
  · have := h.lo; omega
  · have := h.hi; omega
theorem Gave.miss {acc : Int} {E : List (Int × Int)} {k : Nat} {s : Int} (h : Gave acc E k s) (hk : k < E.length) (he : (E.getD k (0, 0)).1 ≠ acc) : Gave acc E (k + 1) s := by
  refine ⟨?_, ?_, ?_⟩
  · rw [h.left, drop_at hk]; simp only [given, if_neg he]; omega
  · have := h.lo; omega
  · have := h.hi; omega
theorem Gave.done {acc : Int} {E : List (Int × Int)} {k : Nat} {s : Int} (h : Gave acc E k s) (hk : E.length ≤ k) : given acc E = s := by
  rw [h.left, List.drop_eq_nil_of_le hk]; simp [given]
theorem getE_tot {l : List (Int × Int)} (h : Right l) (acc : Int) : -1000000000000 ≤ getE l acc ∧ getE l acc ≤ 1000000000000 := by
  rcases getE_mem l acc with h0 | ⟨e, he, h1⟩
  · rw [h0]; omega
  · rw [h1]; have := inR_true.1 (h.all e he).1; omega
end Go.Proofs.Ytabbjhibmeaaaaa
