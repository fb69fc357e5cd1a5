import Derived.KernelRfl
import Derived.Test.YtofcnebekmjdoaaGreatDoorQab
set_option maxHeartbeats 4000000
set_option maxRecDepth 100000
namespace Go.Proofs.YtofcnebekmjdoaaGreatDoor.Bk
def given (acc : Int) : List (Int × Int) → Int
 | [] => 0
 | e :: r => (if e.1 = acc then e.2 else 0) + given acc r
def total (f : Nat → Int) : Nat → Int
 | 0 => 0
 | n + 1 => total f n + f n
theorem total_upd (f : Nat → Int) (i : Nat) (v : Int) (n : Nat) : total (upd f i (f i + v)) n = total f n + if i < n then v else 0 := by
 induction n with
 | zero => simp [total]
 | succ n ih =>
  simp only [total, ih]
  unfold upd
  by_cases h : n = i
  ·subst h; simp; omega
  ·simp only [if_neg h]
   by_cases h2 : i < n
   ·simp only [if_pos h2, if_pos (show i < n + 1 by omega)]; omega
   ·simp only [if_neg h2, if_neg (show ¬ i < n + 1 by omega)]; omega
theorem addL_total {f : Nat → Int} {l : List (Int × Int)} (h : ∀ e ∈ l, inR e = true) : total (addL f l) 58 = total f 58 + (l.map (·.2)).sum := by
 induction l generalizing f with
 | nil => simp [addL]
 | cons e r ih =>
  have he := inR_true.1 (h e (by simp))
  simp only [addL, List.map_cons, List.sum_cons]
  rw [ih fun x hx => h x (by simp [hx]), total_upd, if_pos (by omega)]
  omega
theorem addL_at {f : Nat → Int} {l : List (Int × Int)} (h : ∀ e ∈ l, inR e = true) (i : Nat) : addL f l i = f i + given i l := by
 induction l generalizing f with
 | nil => simp [addL, given]
 | cons e r ih =>
  have he := inR_true.1 (h e (by simp))
  simp only [addL, given]
  rw [ih fun x hx => h x (by simp [hx])]
  unfold upd
  by_cases hi : i = e.1.toNat
  ·rw [if_pos hi, if_pos (by omega), hi]; omega
  ·rw [if_neg hi, if_neg (by omega)]; omega
theorem addAll_total {f g : Nat → Int} {l : List (Int × Int)} (h : ∀ e ∈ l, inR e = true) (ha : addAll f l = some g) : total g 58 = total f 58 + (l.map (·.2)).sum := by
 induction l generalizing f with
 | nil => simp [addAll] at ha; subst ha; simp
 | cons e r ih =>
  have he := inR_true.1 (h e (by simp))
  simp only [addAll] at ha
  split at ha
  ·simp only [List.map_cons, List.sum_cons]
   rw [ih (fun x hx => h x (by simp [hx])) ha, total_upd, if_pos (by omega)]
   omega
  ·cases ha
theorem addAll_at {f g : Nat → Int} {l : List (Int × Int)} (h : ∀ e ∈ l, inR e = true) (ha : addAll f l = some g) (i : Nat) : g i = f i + given i l := by
 induction l generalizing f with
 | nil => simp [addAll] at ha; subst ha; simp [given]
 | cons e r ih =>
  have he := inR_true.1 (h e (by simp))
  simp only [addAll] at ha
  split at ha
  ·simp only [given]
   rw [ih (fun x hx => h x (by simp [hx])) ha]
   unfold upd
   by_cases hi : i = e.1.toNat
   ·rw [if_pos hi, if_pos (by omega), hi]; omega
   ·rw [if_neg hi, if_neg (by omega)]; omega
  ·cases ha
theorem addAll_small {f g : Nat → Int} {l : List (Int × Int)} (hf : ∀ i, inTot (f i) = true) (ha : addAll f l = some g) : ∀ i, inTot (g i) = true := by
 induction l generalizing f with
 | nil => simp [addAll] at ha; subst ha; exact hf
 | cons e r ih =>
  simp only [addAll] at ha
  split at ha
  ·rename_i ht
   refine ih (fun i => ?_) ha
   unfold upd
   split
   ·exact ht
   ·exact hf i
  ·cases ha
theorem given_none {acc : Int} {l : List (Int × Int)} (h : ∀ e ∈ l, e.1 ≠ acc) : given acc l = 0 := by
 induction l with
 | nil => rfl
 | cons e r ih =>
  simp only [given]
  rw [if_neg (h e (by simp)), ih fun x hx => h x (by simp [hx])]; rfl
theorem given_rise {acc : Int} {l : List (Int × Int)} (h : l.Pairwise fun a b => a.1 < b.1) : given acc l = getE l acc := by
 induction l with
 | nil => rfl
 | cons e r ih =>
  rw [List.pairwise_cons] at h
  simp only [given, getE]
  by_cases he : e.1 = acc
  ·rw [if_pos he, if_pos he, given_none fun x hx => by have := h.1 x hx; omega]; omega
  ·rw [if_neg he, if_neg he, ih h.2]; omega
theorem listE_mem {f : Nat → Int} {n : Nat} {e : Int × Int} : e ∈ Ho f n ↔ ∃ k, k < n ∧ f k ≠ 0 ∧ e = ((k : Int), f k) := by
 simp only [Ho, List.mem_map, List.mem_filter, List.mem_range, bne_iff_ne]
 constructor
 ·rintro ⟨k, ⟨h1, h2⟩, rfl⟩; exact ⟨k, h1, h2, rfl⟩
 ·rintro ⟨k, h1, h2, rfl⟩; exact ⟨k, ⟨h1, h2⟩, rfl⟩
theorem listE_rise (f : Nat → Int) (n : Nat) : (Ho f n).Pairwise fun a b => a.1 < b.1 := by
 induction n with
 | zero => exact List.Pairwise.nil
 | succ n ih =>
  by_cases h : f n = 0
  ·rw [listE_miss f n h]; exact ih
  ·rw [listE_hit f n h, List.pairwise_append]
   refine ⟨ih, by simp, fun a ha b hb => ?_⟩
   obtain ⟨k, hk, -, rfl⟩ := listE_mem.1 ha
   simp at hb; subst hb
   show (k : Int) < n
   omega
theorem listE_sum (f : Nat → Int) (n : Nat) : ((Ho f n).map (·.2)).sum = total f n := by
 induction n with
 | zero => rfl
 | succ n ih =>
  by_cases h : f n = 0
  ·rw [listE_miss f n h, ih, total, h]; omega
  ·rw [listE_hit f n h, List.map_append, List.sum_append, ih, total]; simp
theorem given_listE (f : Nat → Int) (acc : Int) (n : Nat) : given acc (Ho f n) = if 0 ≤ acc ∧ acc < n then f acc.toNat else 0 := by
 induction n with
 | zero => rw [if_neg (by omega)]; rfl
 | succ n ih =>
  have app : ∀ a b : List (Int × Int), given acc (a ++ b) = given acc a + given acc b := by
   intro a b
   induction a with
   | nil => simp [given]
   | cons x r ih => simp only [List.cons_append, given, ih]; omega
  by_cases h : f n = 0
  ·rw [listE_miss f n h, ih]
   by_cases hc : 0 ≤ acc ∧ acc < n
   ·rw [if_pos hc, if_pos (by omega)]
   ·rw [if_neg hc]
    by_cases hq : 0 ≤ acc ∧ acc < ((n + 1 : Nat) : Int)
    ·rw [if_pos hq, show acc.toNat = n by omega, h]
    ·rw [if_neg hq]
  ·rw [listE_hit f n h, app, ih]
   simp only [given]
   by_cases hc : 0 ≤ acc ∧ acc < n
   ·rw [if_pos hc, if_neg (by omega), if_pos (by omega)]; omega
   ·rw [if_neg hc]
    by_cases hq : 0 ≤ acc ∧ acc < ((n + 1 : Nat) : Int)
    ·rw [if_pos hq, if_pos (by omega), show acc.toNat = n by omega]; omega
    ·rw [if_neg hq, if_neg (by omega)]; rfl
theorem getE_in {l : List (Int × Int)} {acc : Int} (h : ∀ e ∈ l, inR e = true) (ha : ¬ (0 ≤ acc ∧ acc < 58)) : getE l acc = 0 ∧ given acc l = 0 := by
 have hn : ∀ e ∈ l, e.1 ≠ acc := fun e he => by have := inR_true.1 (h e he); omega
 refine ⟨getE_none fun j hj => hn _ (getD_mem hj), given_none hn⟩
theorem zero_total : total zeroF 58 = 0 := by
 have : ∀ n, total zeroF n = 0 := fun n => by
  induction n with
  | zero => rfl
  | succ n ih => rw [total, ih]; rfl
 exact this 58
theorem getE_mem (l : List (Int × Int)) (acc : Int) : getE l acc = 0 ∨ ∃ e ∈ l, getE l acc = e.2 := by
 induction l with
 | nil => exact Or.inl rfl
 | cons e r ih =>
  simp only [getE]
  by_cases he : e.1 = acc
  ·rw [if_pos he]; exact Or.inr ⟨e, by simp, rfl⟩
  ·rw [if_neg he]
   rcases ih with h0 | ⟨x, hx, h1⟩
   ·exact Or.inl h0
   ·exact Or.inr ⟨x, by simp [hx], h1⟩
theorem addL_tot {l : List (Int × Int)} (h : Right l) (i : Nat) : inTot (addL zeroF l i) = true := by
 rw [addL_at (fun e he => (h.all e he).1), given_rise h.rise]
 simp only [zeroF, Int.zero_add]
 rcases getE_mem l i with h0 | ⟨e, he, h1⟩
 ·rw [h0]; decide
 ·rw [h1]; exact inTot_true.2 (by have := inR_true.1 (h.all e he).1; omega)
theorem post_right {l E L : List (Int × Int)} (h : post l E = (L, 0)) : (wrong l).1 = 0 ∧ wrongEs E = 0 ∧ (wrong L).1 = 0 ∧ ∀ acc, getE L acc = getE l acc + given acc E := by
 by_cases h1 : (wrong l).1 = 0
 ·by_cases h2 : wrongEs E = 0
  ·have hr := wrong_ok.1 h1
   obtain ⟨hlen, hall, hsum⟩ := wrongEs_ok.1 h2
   cases h3 : addAll (addL zeroF l) E with
   | none => rw [post_much h1 h2 h3] at h; simp at h
   | some f =>
    rw [post_done h1 h2 h3] at h
    obtain rfl : Ho f 58 = L := by simpa using h
    have hin : ∀ e ∈ l, inR e = true := fun e he => (hr.all e he).1
    refine ⟨h1, h2, wrong_ok.2 ⟨fun e he => ?_, listE_rise f 58, ?_⟩, fun acc => ?_⟩
    ·obtain ⟨k, hk, hne, rfl⟩ := listE_mem.1 he
     have := inTot_true.1 (addAll_small (addL_tot hr) h3 k)
     exact ⟨inR_true.2 ⟨by show (0 : Int) ≤ k; omega, by show (k : Int) < 58; omega, this.1, this.2⟩, hne⟩
    ·rw [listE_sum, addAll_total hall h3, addL_total hin, hr.fit, hsum, zero_total]; rfl
    ·rw [← given_rise (listE_rise f 58), given_listE]
     by_cases ha : 0 ≤ acc ∧ acc < 58
     ·rw [if_pos (by omega), addAll_at hall h3, addL_at hin, show ((acc.toNat : Nat) : Int) = acc by omega, given_rise hr.rise]
      simp [zeroF]
     ·rw [if_neg (by omega), (getE_in hin ha).1, (getE_in hall ha).2]; rfl
  ·rw [post_entries h1 h2] at h; simp at h; exact absurd h.2 h2
 ·rw [post_wrong h1] at h; simp at h; exact absurd h.2 h1
theorem getE_tot {l : List (Int × Int)} (h : Right l) (acc : Int) : -1000000000000 ≤ getE l acc ∧ getE l acc ≤ 1000000000000 := by
 rcases getE_mem l acc with h0 | ⟨e, he, h1⟩
 ·rw [h0]; omega
 ·rw [h1]; have := inR_true.1 (h.all e he).1; omega
end Go.Proofs.YtofcnebekmjdoaaGreatDoor.Bk
namespace Go.Proofs.YtofcnebekmjdoaaGreatDoor.Au
structure Au where
 card : Int
 shop : Int
 sum : Int
 cap : Int
 ref : Int
 dis : Int
 till : Int
 shut : Bool
theorem Au.same {a b : Au} (h1 : a.card = b.card) (h2 : a.shop = b.shop) (h3 : a.sum = b.sum) (h4 : a.cap = b.cap) (h5 : a.ref = b.ref) (h6 : a.dis = b.dis) (h7 : a.till = b.till) (h8 : a.shut = b.shut) : a = b := by
 cases a; cases b; simp only at h1 h2 h3 h4 h5 h6 h7 h8; subst h1 h2 h3 h4 h5 h6 h7 h8; rfl
def none0 : Au := ⟨0, 0, 0, 0, 0, 0, 0, false⟩
def isS (n : Int) : Bool := decide (0 ≤ n) && decide (n ≤ 1000000)
def isM (n : Int) : Bool := decide (1 ≤ n) && decide (n ≤ 1000000)
def isC (n : Int) : Bool := decide (0 ≤ n) && decide (n < 8)
theorem isS_true {n : Int} : isS n = true ↔ 0 ≤ n ∧ n ≤ 1000000 := by unfold isS; simp
theorem isM_true {n : Int} : isM n = true ↔ 1 ≤ n ∧ n ≤ 1000000 := by unfold isM; simp
theorem isC_true {n : Int} : isC n = true ↔ 0 ≤ n ∧ n < 8 := by unfold isC; simp
theorem isS_false {n : Int} : isS n = false ↔ ¬ (0 ≤ n ∧ n ≤ 1000000) := by rw [← isS_true]; simp
theorem isM_false {n : Int} : isM n = false ↔ ¬ (1 ≤ n ∧ n ≤ 1000000) := by rw [← isM_true]; simp
theorem isC_false {n : Int} : isC n = false ↔ ¬ (0 ≤ n ∧ n < 8) := by rw [← isC_true]; simp
abbrev Rng (a : Au) : Prop :=
 (0 ≤ a.sum ∧ a.sum ≤ 1000000) ∧ (0 ≤ a.cap ∧ a.cap ≤ 1000000) ∧ (0 ≤ a.ref ∧ a.ref ≤ 1000000) ∧ (0 ≤ a.dis ∧ a.dis ≤ 1000000) ∧ (0 ≤ a.card ∧ a.card < 8) ∧ (0 ≤ a.shop ∧ a.shop < 8) ∧ 0 ≤ a.till ∧ a.till ≤ 1000100
abbrev Fit (a : Au) : Prop := a.cap ≤ a.sum ∧ a.ref + a.dis ≤ a.cap
def wrongA (a : Au) : Int := if Rng a then (if Fit a then 0 else 8) else 3
theorem wrongA_ok {a : Au} : wrongA a = 0 ↔ Rng a ∧ Fit a := by
 unfold wrongA
 by_cases h : Rng a
 ·rw [if_pos h]
  by_cases h2 : Fit a
  ·rw [if_pos h2]; exact ⟨fun _ => ⟨h, h2⟩, fun _ => rfl⟩
  ·rw [if_neg h2]; exact ⟨fun e => absurd e (by decide), fun e => absurd e.2 h2⟩
 ·rw [if_neg h]; exact ⟨fun e => absurd e (by decide), fun e => absurd e.1 h⟩
theorem Gm {a : Au} (h : ¬ Rng a) : wrongA a = 3 := by unfold wrongA; rw [if_neg h]
theorem wrongA_fit {a : Au} (h : Rng a) (h2 : ¬ Fit a) : wrongA a = 8 := by unfold wrongA; rw [if_pos h, if_neg h2]
def room (a : Au) (k : Int) : Int :=
 if k = 1 then 1000000 - a.sum else if k ≤ 4 then a.sum - a.cap else if k ≤ 6 then a.cap - a.ref - a.dis else a.dis
def mvErr (a : Au) (k n : Int) : Int :=
 if wrongA a ≠ 0 then wrongA a
 else if k < 1 ∨ 8 < k then 1
 else if n < 1 ∨ 1000000 < n then 3
 else if a.shut = true ∧ k ≤ 4 then 9
 else if n ≤ room a k then 0
 else if k = 1 then 4 else 10
def step (a : Au) (k n : Int) : Au :=
 if k = 1 then ⟨a.card, a.shop, a.sum + n, a.cap, a.ref, a.dis, a.till, a.shut⟩
 else if k = 2 then ⟨a.card, a.shop, a.sum, a.cap + n, a.ref, a.dis, a.till, a.cap + n == a.sum⟩
 else if k = 3 then ⟨a.card, a.shop, a.sum, a.cap + n, a.ref, a.dis, a.till, true⟩
 else if k = 4 then ⟨a.card, a.shop, a.sum - n, a.cap, a.ref, a.dis, a.till, a.cap == a.sum - n⟩
 else if k = 5 then ⟨a.card, a.shop, a.sum, a.cap, a.ref + n, a.dis, a.till, a.shut⟩
 else if k = 6 then ⟨a.card, a.shop, a.sum, a.cap, a.ref, a.dis + n, a.till, a.shut⟩
 else if k = 7 then ⟨a.card, a.shop, a.sum, a.cap, a.ref + n, a.dis - n, a.till, a.shut⟩
 else ⟨a.card, a.shop, a.sum, a.cap, a.ref, a.dis - n, a.till, a.shut⟩
def mv (a : Au) (k n : Int) : Au × Int := if mvErr a k n = 0 then (step a k n, 0) else (none0, mvErr a k n)
theorem mv_no {a : Au} {k n : Int} (h : mvErr a k n ≠ 0) : mv a k n = (none0, mvErr a k n) := by unfold mv; rw [if_neg h]
theorem mv_yes {a : Au} {k n : Int} (h : mvErr a k n = 0) : mv a k n = (step a k n, 0) := by unfold mv; rw [if_pos h]
abbrev May (a : Au) (k n : Int) : Prop :=
 Rng a ∧ Fit a ∧ 1 ≤ k ∧ k ≤ 8 ∧ 1 ≤ n ∧ n ≤ 1000000 ∧ (k ≤ 4 → a.shut = false) ∧ n ≤ room a k
theorem mvErr_zero {a : Au} {k n : Int} : mvErr a k n = 0 ↔ May a k n := by
 unfold mvErr May
 rw [← and_assoc, ← wrongA_ok]
 by_cases h1 : wrongA a = 0
 ·rw [if_neg (by simpa using h1)]
  by_cases h2 : k < 1 ∨ 8 < k
  ·rw [if_pos h2]; constructor
   ·intro h; simp at h
   ·rintro ⟨-, p, q, -⟩; omega
  ·rw [if_neg h2]
   by_cases h3 : n < 1 ∨ 1000000 < n
   ·rw [if_pos h3]; constructor
    ·intro h; simp at h
    ·rintro ⟨-, -, -, p, q, -⟩; omega
   ·rw [if_neg h3]
    by_cases h4 : a.shut = true ∧ k ≤ 4
    ·rw [if_pos h4]; constructor
     ·intro h; simp at h
     ·rintro ⟨-, -, -, -, -, p, -⟩; have := p h4.2; rw [h4.1] at this; cases this
    ·rw [if_neg h4]
     have h4' : k ≤ 4 → a.shut = false := fun h => by
      cases hs : a.shut
      ·rfl
      ·exact absurd ⟨hs, h⟩ h4
     by_cases h5 : n ≤ room a k
     ·rw [if_pos h5]; exact ⟨fun _ => ⟨h1, by omega, by omega, by omega, by omega, h4', h5⟩, fun _ => rfl⟩
     ·rw [if_neg h5]; constructor
      ·intro h; split at h <;> simp at h
      ·rintro ⟨-, -, -, -, -, -, p⟩; exact absurd p h5
 ·rw [if_pos h1]; constructor
  ·intro h; exact absurd h h1
  ·rintro ⟨h, -⟩; exact absurd h h1
def newA (card shop n time : Int) : Au × Int :=
 if (1 ≤ n ∧ n ≤ 1000000) ∧ 0 ≤ time ∧ time ≤ 1000000 ∧ (0 ≤ card ∧ card < 8) ∧ 0 ≤ shop ∧ shop < 8 then (⟨card, shop, n, 0, 0, 0, time + 100, false⟩, 0) else (none0, 3)
def holdA (a : Au) : Int := if a.shut = true then 0 else a.sum - a.cap
def lateA (a : Au) (time : Int) : Au := ⟨a.card, a.shop, a.sum, a.cap, a.ref, a.dis, a.till, a.shut || decide (a.till ≤ time)⟩
end Go.Proofs.YtofcnebekmjdoaaGreatDoor.Au
namespace Go.Proofs.YtofcnebekmjdoaaGreatDoor.Po
structure Tr where
 n : Int
 k : Int
 a : Int
 s : Int
structure Se where
 sent : Int
 kept : List Tr
def zeroT : Tr := ⟨0, 0, 0, 0⟩
def zeroS : Se := ⟨0, []⟩
abbrev noKind (k : Int) : Prop := k ≠ 1 ∧ k ≠ 2 ∧ k ≠ 3
abbrev far (a s : Int) : Prop := a < 0 ∨ 30 ≤ a ∨ s < 1 ∨ 1000000 < s
def Dl (t : Tr) (m : Int) : Int := if noKind t.k then 1 else if far t.a t.s then 3 else if t.n ≠ m then 2 else 0
def wrongGo (i : Nat) (m : Int) : List Tr → Int × Int
 | [] => (0, 0)
 | t :: r => if Dl t m ≠ 0 then (Dl t m, i) else wrongGo (i + 1) (m + 1) r
def wrongS (s : Se) : Int × Int :=
 if 40 < s.kept.length then (5, 0) else if s.sent < s.kept.length ∨ 1000000 < s.sent then (3, 0) else wrongGo 0 (s.sent - s.kept.length + 1) s.kept
theorem drop_at {L : List Tr} {k : Nat} (hk : k < L.length) : L.drop k = L.getD k zeroT :: L.drop (k + 1) := by
 rw [List.drop_eq_getElem_cons hk]; simp [List.getD, hk]
theorem take_at {L : List Tr} {k : Nat} (hk : k < L.length) : L.take (k + 1) = L.take k ++ [L.getD k zeroT] := by
 rw [List.take_add_one]; simp [List.getD, hk]
theorem wrongS_many {s : Se} (h : 40 < s.kept.length) : wrongS s = (5, 0) := by unfold wrongS; rw [if_pos h]
theorem wrongS_range {s : Se} (h : s.kept.length ≤ 40) (h2 : s.sent < s.kept.length ∨ 1000000 < s.sent) : wrongS s = (3, 0) := by
 unfold wrongS; rw [if_neg (by omega), if_pos h2]
def Good (s : Se) (k : Nat) : Prop := wrongS s = wrongGo k (s.sent - s.kept.length + 1 + k) (s.kept.drop k)
theorem good_zero {s : Se} (h : s.kept.length ≤ 40) (h2 : s.kept.length ≤ s.sent) (h3 : s.sent ≤ 1000000) : Good s 0 := by
 unfold Good wrongS; rw [if_neg (by omega), if_neg (by omega)]; simp
theorem Good.bad {s : Se} {k : Nat} (g : Good s k) (hk : k < s.kept.length) (h : Dl (s.kept.getD k zeroT) (s.sent - s.kept.length + 1 + k) ≠ 0) :
  wrongS s = (Dl (s.kept.getD k zeroT) (s.sent - s.kept.length + 1 + k), (k : Int)) := by
 rw [g, drop_at hk]; simp only [wrongGo, if_pos h]
theorem Good.next {s : Se} {k : Nat} (g : Good s k) (hk : k < s.kept.length) (h : Dl (s.kept.getD k zeroT) (s.sent - s.kept.length + 1 + k) = 0) : Good s (k + 1) := by
 unfold Good
 rw [g, drop_at hk]; simp only [wrongGo, h]; simp; rw [show s.sent - s.kept.length + 1 + (k : Int) + 1 = s.sent - s.kept.length + 1 + ((k : Int) + 1) by omega]
theorem Good.done {s : Se} {k : Nat} (g : Good s k) (hk : s.kept.length ≤ k) : wrongS s = (0, 0) := by
 rw [g, List.drop_eq_nil_of_le hk]; rfl
structure Right (s : Se) : Prop where
 few : s.kept.length ≤ 40
 lo : s.kept.length ≤ s.sent
 hi : s.sent ≤ 1000000
 each : ∀ (i : Nat) (t : Tr), s.kept[i]? = some t → ¬ noKind t.k ∧ ¬ far t.a t.s ∧ t.n = s.sent - s.kept.length + 1 + i
theorem wrongT_ok {t : Tr} {m : Int} : Dl t m = 0 ↔ ¬ noKind t.k ∧ ¬ far t.a t.s ∧ t.n = m := by
 unfold Dl
 by_cases h1 : noKind t.k
 ·rw [if_pos h1]; exact ⟨fun h => (by cases h), fun h => absurd h1 h.1⟩
 rw [if_neg h1]
 by_cases h2 : far t.a t.s
 ·rw [if_pos h2]; exact ⟨fun h => (by cases h), fun h => absurd h2 h.2.1⟩
 rw [if_neg h2]
 by_cases h3 : t.n = m
 ·rw [if_neg (by simpa using h3)]; exact ⟨fun _ => ⟨h1, h2, h3⟩, fun _ => rfl⟩
 ·rw [if_pos h3]; exact ⟨fun h => (by cases h), fun h => absurd h.2.2 h3⟩
theorem wrongGo_ok {L : List Tr} : ∀ {i : Nat} {m : Int}, (wrongGo i m L).1 = 0 ↔ ∀ (j : Nat) (t : Tr), L[j]? = some t → Dl t (m + j) = 0 := by
 induction L with
 | nil => intro i m; simp [wrongGo]
 | cons t r ih =>
  intro i m
  simp only [wrongGo]
  by_cases h : Dl t m = 0
  ·rw [if_neg (by simpa using h), ih]
   constructor
   ·intro H j u hj
    cases j with
    | zero => simp at hj; subst hj; simpa using h
    | succ j => have := H j u (by simpa using hj); rw [show m + ((j + 1 : Nat) : Int) = m + 1 + j by omega]; exact this
   ·intro H j u hj
    have := H (j + 1) u (by simpa using hj)
    rw [show m + 1 + (j : Int) = m + ((j + 1 : Nat) : Int) by omega]; exact this
  ·rw [if_pos h]
   exact ⟨fun h0 => absurd h0 h, fun H => absurd (by simpa using H 0 t rfl) h⟩
theorem wrongS_ok {s : Se} : (wrongS s).1 = 0 ↔ Right s := by
 unfold wrongS
 by_cases h1 : 40 < s.kept.length
 ·rw [if_pos h1]; exact ⟨fun h => (by cases h), fun h => absurd h.few (by omega)⟩
 rw [if_neg h1]
 by_cases h2 : s.sent < s.kept.length ∨ 1000000 < s.sent
 ·rw [if_pos h2]; exact ⟨fun h => (by cases h), fun h => by have := h.lo; have := h.hi; omega⟩
 rw [if_neg h2, wrongGo_ok]
 constructor
 ·intro H; exact ⟨by omega, by omega, by omega, fun i t ht => wrongT_ok.1 (H i t ht)⟩
 ·intro R i t ht; exact wrongT_ok.2 (R.each i t ht)
def nextT (s : Se) (t : Tr) : Tr := ⟨s.sent + 1, t.k, t.a, t.s⟩
def outS (s : Se) (t : Tr) : Se := ⟨s.sent + 1, s.kept ++ [nextT s t]⟩
def putS (s : Se) (t : Tr) : Se × Int :=
 if (wrongS s).1 ≠ 0 then (zeroS, (wrongS s).1) else if (wrongS (outS s t)).1 ≠ 0 then (zeroS, (wrongS (outS s t)).1) else (outS s t, 0)
def those (seen : Int) (L : List Tr) : List Tr := L.filter fun t => decide (seen < t.n)
def backS (s : Se) (seen : Int) : Se × Int :=
 if (wrongS s).1 ≠ 0 then (zeroS, (wrongS s).1) else if seen < 0 ∨ s.sent < seen then (zeroS, 3) else (⟨s.sent, those seen s.kept⟩, 0)
theorem putS_bad {s : Se} {t : Tr} (h : (wrongS s).1 ≠ 0) : putS s t = (zeroS, (wrongS s).1) := by unfold putS; rw [if_pos h]
theorem putS_out {s : Se} {t : Tr} (h : (wrongS s).1 = 0) (h2 : (wrongS (outS s t)).1 ≠ 0) : putS s t = (zeroS, (wrongS (outS s t)).1) := by
 unfold putS; rw [if_neg (by simpa using h), if_pos h2]
theorem putS_ok {s : Se} {t : Tr} (h : (wrongS s).1 = 0) (h2 : (wrongS (outS s t)).1 = 0) : putS s t = (outS s t, 0) := by
 unfold putS; rw [if_neg (by simpa using h), if_neg (by simpa using h2)]
theorem backS_bad {s : Se} {seen : Int} (h : (wrongS s).1 ≠ 0) : backS s seen = (zeroS, (wrongS s).1) := by unfold backS; rw [if_pos h]
theorem backS_range {s : Se} {seen : Int} (h : (wrongS s).1 = 0) (h2 : seen < 0 ∨ s.sent < seen) : backS s seen = (zeroS, 3) := by
 unfold backS; rw [if_neg (by simpa using h), if_pos h2]
theorem backS_ok {s : Se} {seen : Int} (h : (wrongS s).1 = 0) (h2 : ¬ (seen < 0 ∨ s.sent < seen)) : backS s seen = (⟨s.sent, those seen s.kept⟩, 0) := by
 unfold backS; rw [if_neg (by simpa using h), if_neg h2]
def taken (seen n : Int) : Bool := decide (0 ≤ seen) && decide (seen < 1000000) && decide (n = seen + 1)
theorem taken_true {seen n : Int} : taken seen n = true ↔ 0 ≤ seen ∧ seen < 1000000 ∧ n = seen + 1 := by simp [taken, and_assoc]
theorem taken_false {seen n : Int} : taken seen n = false ↔ ¬ (0 ≤ seen ∧ seen < 1000000 ∧ n = seen + 1) := by rw [← taken_true]; simp
theorem those_hit {seen : Int} {L : List Tr} {k : Nat} (hk : k < L.length) (h : seen < (L.getD k zeroT).n) : those seen (L.take (k + 1)) = those seen (L.take k) ++ [L.getD k zeroT] := by
 rw [take_at hk]; unfold those; rw [List.filter_append, List.filter_cons]; simp only [decide_eq_true h]; simp
theorem those_miss {seen : Int} {L : List Tr} {k : Nat} (hk : k < L.length) (h : ¬ seen < (L.getD k zeroT).n) : those seen (L.take (k + 1)) = those seen (L.take k) := by
 rw [take_at hk]; unfold those; rw [List.filter_append, List.filter_cons]; simp only [decide_eq_false h]; simp
theorem those_all {seen : Int} {L : List Tr} {k : Nat} (hk : L.length ≤ k) : those seen (L.take k) = those seen L := by rw [List.take_of_length_le hk]
theorem those_le (seen : Int) (L : List Tr) : (those seen L).length ≤ L.length := List.length_filter_le _ _
theorem those_take_le (seen : Int) (L : List Tr) (k : Nat) : (those seen (L.take k)).length ≤ L.length := by
 have h1 := those_le seen (L.take k)
 have h2 := List.length_take_le' k L
 omega
theorem right_back {s : Se} {seen : Int} (R : Right s) (h1 : seen ≤ s.sent) : ∃ j, those seen s.kept = s.kept.drop j ∧ j ≤ s.kept.length ∧ ((j : Int) = s.kept.length - (s.sent - seen) ∨ (j = 0 ∧ s.kept.length ≤ s.sent - seen)) := by
 have aux : ∀ (L : List Tr) (m : Int), (∀ (i : Nat) (t : Tr), L[i]? = some t → t.n = m + i) → ∀ j : Nat, (m + j = seen + 1 ∨ (j = 0 ∧ seen < m)) → j ≤ L.length → those seen L = L.drop j := by
  intro L
  induction L with
  | nil => intro m _ j _ _; simp [those]
  | cons t r ih =>
   intro m H j hj hl
   have ht := H 0 t rfl
   have hr : ∀ (i : Nat) (u : Tr), r[i]? = some u → u.n = m + 1 + i := fun i u hu => by have := H (i + 1) u (by simpa using hu); omega
   cases j with
   | zero =>
    have : those seen (t :: r) = t :: those seen r := by
     unfold those; rw [List.filter_cons, if_pos (by simp; omega)]
    rw [this]
    have := ih (m + 1) hr 0 (Or.inr ⟨rfl, by omega⟩) (Nat.zero_le _)
    rw [this]; simp
   | succ j =>
    have : those seen (t :: r) = those seen r := by
     unfold those; rw [List.filter_cons, if_neg (by simp; omega)]
    rw [this]
    have := ih (m + 1) hr j (Or.inl (by omega)) (by simpa using hl)
    rw [this]; simp
 have hb := R.lo
 by_cases hc : s.kept.length ≤ s.sent - seen
 ·refine ⟨0, ?_, Nat.zero_le _, Or.inr ⟨rfl, hc⟩⟩
  exact aux s.kept (s.sent - s.kept.length + 1) (fun i t ht => (R.each i t ht).2.2) 0 (Or.inr ⟨rfl, by omega⟩) (Nat.zero_le _)
 ·refine ⟨(s.kept.length - (s.sent - seen)).toNat, ?_, by omega, Or.inl (by omega)⟩
  exact aux s.kept (s.sent - s.kept.length + 1) (fun i t ht => (R.each i t ht).2.2) _ (Or.inl (by omega)) (by omega)
theorem right_drop {s : Se} (R : Right s) (j : Nat) (hj : j ≤ s.kept.length) : Right ⟨s.sent, s.kept.drop j⟩ := by
 have h1 := R.few; have h2 := R.lo; have h3 := R.hi
 refine ⟨by simp; omega, by simp; omega, h3, fun i t ht => ?_⟩
 simp at ht
 obtain ⟨a, b, c⟩ := R.each _ t ht
 refine ⟨a, b, ?_⟩
 simp
 omega
theorem right_back' {s : Se} {seen : Int} (R : Right s) (h1 : seen ≤ s.sent) : Right ⟨s.sent, those seen s.kept⟩ := by
 obtain ⟨j, hj, hl, -⟩ := right_back R h1
 rw [hj]
 exact right_drop R j hl
