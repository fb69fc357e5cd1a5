/- Days' files as plain numbers: what is written is read, in one way alone. No program here. -/
import Derived.Test.YtodkcagingnelabDyMath
namespace Go.Proofs.Ytodkcagingnelab.Dy

/-- The bytes of a record, and of all sums together. -/
def enc (r : Rc) : List Int := [r.sh, r.au, r.k, r.m / 65536, r.m / 256 % 256, r.m % 256]
def tot4 (n : Int) : List Int := [n / 16777216, n / 65536 % 256, n / 256 % 256, n % 256]
def total (l : List Rc) : Int := sumBy Rc.m l
def fileB (l : List Rc) : List Int := ((l.length : Int) :: (sortR l).flatMap enc) ++ tot4 (total l)
def bytesR (l : List Rc) : List Int × (Int × Int) := if (wrongL l).1 ≠ 0 then ([], wrongL l) else (fileB l, (0, 0))

/-- A record off the bytes, from place p on. -/
def decAt (b : List Int) (p : Nat) : Rc := ⟨b.getD p 0, b.getD (p + 1) 0, b.getD (p + 2) 0, 65536 * b.getD (p + 3) 0 + 256 * b.getD (p + 4) 0 + b.getD (p + 5) 0⟩
def recs (b : List Int) (n : Nat) : List Rc := (List.range n).map fun i => decAt b (1 + 6 * i)
def last4 (b : List Int) : Int := 16777216 * b.getD (b.length - 4) 0 + 65536 * b.getD (b.length - 3) 0 + 256 * b.getD (b.length - 2) 0 + b.getD (b.length - 1) 0

def eqR (a b : Rc) : Bool := a.sh == b.sh && a.au == b.au && a.k == b.k && a.m == b.m
theorem eqR_true {a b : Rc} : eqR a b = true ↔ a = b := by
  obtain ⟨a1, a2, a3, a4⟩ := a
  obtain ⟨b1, b2, b3, b4⟩ := b
  unfold eqR
  simp [and_assoc]
def sameL : List Rc → List Rc → Bool
  | [], [] => true
  | a :: s, b :: t => eqR a b && sameL s t
  | _, _ => false
theorem sameL_true : ∀ {s t : List Rc}, sameL s t = true ↔ s = t := by
  intro s
  induction s with
  | nil => intro t; cases t <;> simp [sameL]
  | cons a s ih =>
    intro t
    cases t with
    | nil => simp [sameL]
    | cons b t => simp [sameL, eqR_true, ih]

/-- The length that the first byte tells. -/
abbrev noForm (b : List Int) : Prop := b.length = 0 ∨ (b.length : Int) ≠ 1 + 6 * b.getD 0 0 + 4
def parseR (b : List Int) : List Rc × Int :=
  if noForm b then ([], 2)
  else if (wrongL (recs b (b.getD 0 0).toNat)).1 ≠ 0 then ([], (wrongL (recs b (b.getD 0 0).toNat)).1)
  else if total (recs b (b.getD 0 0).toNat) ≠ last4 b ∨ sameL (recs b (b.getD 0 0).toNat) (sortR (recs b (b.getD 0 0).toNat)) = false then ([], 8)
  else (recs b (b.getD 0 0).toNat, 0)

theorem parse_form {b : List Int} (h : noForm b) : parseR b = ([], 2) := by unfold parseR; rw [if_pos h]
theorem parse_wrong {b : List Int} (h : ¬ noForm b) (h1 : (wrongL (recs b (b.getD 0 0).toNat)).1 ≠ 0) : parseR b = ([], (wrongL (recs b (b.getD 0 0).toNat)).1) := by
  unfold parseR; rw [if_neg h, if_pos h1]
theorem parse_fit {b : List Int} (h : ¬ noForm b) (h1 : (wrongL (recs b (b.getD 0 0).toNat)).1 = 0) (h2 : total (recs b (b.getD 0 0).toNat) ≠ last4 b ∨ sameL (recs b (b.getD 0 0).toNat) (sortR (recs b (b.getD 0 0).toNat)) = false) : parseR b = ([], 8) := by
  unfold parseR; rw [if_neg h, if_neg (by simpa using h1), if_pos h2]
theorem parse_ok {b : List Int} (h : ¬ noForm b) (h1 : (wrongL (recs b (b.getD 0 0).toNat)).1 = 0) (h2 : total (recs b (b.getD 0 0).toNat) = last4 b) (h3 : sameL (recs b (b.getD 0 0).toNat) (sortR (recs b (b.getD 0 0).toNat)) = true) : parseR b = (recs b (b.getD 0 0).toNat, 0) := by
  unfold parseR; rw [if_neg h, if_neg (by simpa using h1), if_neg (fun h4 => by rcases h4 with h4 | h4; exact h4 h2; rw [h3] at h4; cases h4)]

theorem enc_length (r : Rc) : (enc r).length = 6 := rfl
theorem flat_length (s : List Rc) : (s.flatMap enc).length = 6 * s.length := by
  induction s with
  | nil => rfl
  | cons r t ih => rw [List.flatMap_cons, List.length_append, ih, enc_length, List.length_cons]; omega
theorem flat_at {s : List Rc} {i : Nat} (hi : i < s.length) {j : Nat} (hj : j < 6) : (s.flatMap enc)[6 * i + j]? = (enc (s.getD i zR))[j]? := by
  induction s generalizing i with
  | nil => simp at hi
  | cons r t ih =>
    rw [List.flatMap_cons]
    cases i with
    | zero => rw [List.getElem?_append_left (by rw [enc_length]; omega), Nat.mul_zero, Nat.zero_add]; rfl
    | succ i =>
      rw [List.getElem?_append_right (by rw [enc_length]; omega), enc_length, show 6 * (i + 1) + j - 6 = 6 * i + j by omega, ih (by simpa using hi)]
      rfl
theorem file_length (l : List Rc) : (fileB l).length = 5 + 6 * l.length := by
  unfold fileB tot4
  rw [List.length_append, List.length_cons, flat_length, sort_length]
  simp; omega
theorem file_zero (l : List Rc) : (fileB l).getD 0 0 = (l.length : Int) := by unfold fileB; simp
theorem file_at {l : List Rc} {i : Nat} (hi : i < l.length) {j : Nat} (hj : j < 6) : (fileB l)[1 + 6 * i + j]? = (enc ((sortR l).getD i zR))[j]? := by
  unfold fileB
  have h1 : i < (sortR l).length := by rw [sort_length]; exact hi
  rw [List.getElem?_append_left (by rw [List.length_cons, flat_length]; omega), show 1 + 6 * i + j = (6 * i + j) + 1 by omega, List.getElem?_cons_succ, flat_at h1 hj]
theorem file_last (l : List Rc) {j : Nat} (_ : j < 4) : (fileB l)[1 + 6 * l.length + j]? = (tot4 (total l))[j]? := by
  unfold fileB
  rw [List.getElem?_append_right (by rw [List.length_cons, flat_length, sort_length]; omega), List.length_cons, flat_length, sort_length, show 1 + 6 * l.length + j - (6 * l.length + 1) = j by omega]

theorem getD_of {b : List Int} {p : Nat} {o : Option Int} (h : b[p]? = o) : b.getD p 0 = o.getD 0 := by rw [List.getD_eq_getElem?_getD, h]

theorem dec_file {l : List Rc} (h : Right l) {i : Nat} (hi : i < l.length) : decAt (fileB l) (1 + 6 * i) = (sortR l).getD i zR := by
  have h1 : i < (sortR l).length := by rw [sort_length]; exact hi
  have hr := h.each _ (mem_sort.1 (getD_mem h1))
  unfold decAt
  have e0 := getD_of (file_at hi (j := 0) (by omega))
  have e1 := getD_of (file_at hi (j := 1) (by omega))
  have e2 := getD_of (file_at hi (j := 2) (by omega))
  have e3 := getD_of (file_at hi (j := 3) (by omega))
  have e4 := getD_of (file_at hi (j := 4) (by omega))
  have e5 := getD_of (file_at hi (j := 5) (by omega))
  rw [Nat.add_zero] at e0
  rw [e0, e1, e2, e3, e4, e5]
  generalize (sortR l).getD i zR = r at *
  obtain ⟨sh, au, k, m⟩ := r
  unfold enc
  simp only [List.getElem?_cons_zero, List.getElem?_cons_succ, Option.getD_some]
  congr 1
  have := hr.2
  unfold far at this
  dsimp only at this
  omega
theorem recs_length (b : List Int) (n : Nat) : (recs b n).length = n := by simp [recs]
theorem recs_at (b : List Int) {n i : Nat} (hi : i < n) : (recs b n).getD i zR = decAt b (1 + 6 * i) := by simp [recs, List.getD, hi]
theorem list_ext {s t : List Rc} (h : s.length = t.length) (h1 : ∀ i, i < s.length → s.getD i zR = t.getD i zR) : s = t := by
  apply List.ext_getElem h
  intro i h2 h3
  have := h1 i h2
  rwa [getD_at h2, getD_at h3] at this
theorem recs_file {l : List Rc} (h : Right l) : recs (fileB l) l.length = sortR l := by
  apply list_ext
  · rw [recs_length, sort_length]
  · intro i hi
    rw [recs_length] at hi
    rw [recs_at _ hi, dec_file h hi]
theorem total_small {l : List Rc} (h : Right l) : 0 ≤ total l ∧ total l ≤ 100000000 := by
  have h0 : ∀ L : List Rc, (∀ r ∈ L, ¬ noKind r ∧ ¬ far r) → 0 ≤ sumBy Rc.m L ∧ sumBy Rc.m L ≤ 1000000 * L.length := by
    intro L
    induction L with
    | nil => intro _; simp [sumBy]
    | cons r t ih =>
      intro hr
      have h1 := ih fun x hx => hr x (List.mem_cons_of_mem _ hx)
      have h2 := (hr r List.mem_cons_self).2
      unfold far at h2
      simp only [sumBy, List.length_cons, Int.natCast_add, Int.natCast_one]
      omega
  have h1 := h0 l h.each
  have := h.few
  unfold total
  omega
theorem file_last4 {l : List Rc} (h : Right l) : last4 (fileB l) = total l := by
  have e0 := getD_of (file_last l (j := 0) (by omega))
  have e1 := getD_of (file_last l (j := 1) (by omega))
  have e2 := getD_of (file_last l (j := 2) (by omega))
  have e3 := getD_of (file_last l (j := 3) (by omega))
  unfold last4
  rw [file_length, show 5 + 6 * l.length - 4 = 1 + 6 * l.length + 0 by omega, show 5 + 6 * l.length - 3 = 1 + 6 * l.length + 1 by omega, show 5 + 6 * l.length - 2 = 1 + 6 * l.length + 2 by omega, show 5 + 6 * l.length - 1 = 1 + 6 * l.length + 3 by omega, e0, e1, e2, e3]
  have := total_small h
  generalize total l = n at *
  unfold tot4
  simp only [List.getElem?_cons_zero, List.getElem?_cons_succ, Option.getD_some]
  omega

/-- What is written is read. -/
theorem turns {l : List Rc} (h : Right l) : parseR (fileB l) = (sortR l, 0) := by
  have h0 : ((fileB l).getD 0 0).toNat = l.length := by rw [file_zero]; omega
  have hr := recs_file h
  rw [← h0] at hr
  have hf : ¬ noForm (fileB l) := by unfold noForm; rw [file_zero, file_length]; omega
  rw [parse_ok hf, hr]
  · rw [hr]; exact wrong_ok.2 h.sort
  · rw [hr, file_last4 h]; exact sumBy_sort _ _
  · rw [hr, sort_sort]; exact sameL_true.2 rfl

/-- Bytes. -/
def Byt (b : List Int) : Prop := ∀ x ∈ b, 0 ≤ x ∧ x ≤ 255
theorem Byt.at {b : List Int} (h : Byt b) (i : Nat) : 0 ≤ b.getD i 0 ∧ b.getD i 0 ≤ 255 := by
  by_cases hi : i < b.length
  · have : b.getD i 0 = b[i] := by simp [List.getD, hi]
    rw [this]; exact h _ (List.getElem_mem hi)
  · have : b.getD i 0 = 0 := by simp [List.getD, hi]
    rw [this]; omega

theorem enc_dec {b : List Int} (h : Byt b) (p : Nat) : enc (decAt b p) = [b.getD p 0, b.getD (p + 1) 0, b.getD (p + 2) 0, b.getD (p + 3) 0, b.getD (p + 4) 0, b.getD (p + 5) 0] := by
  have h3 := h.at (p + 3)
  have h4 := h.at (p + 4)
  have h5 := h.at (p + 5)
  unfold enc decAt
  dsimp only
  congr 4
  · omega
  · congr 1
    · omega
    · congr 1; omega

theorem parse_right {b : List Int} (h0 : (parseR b).2 = 0) : ¬ noForm b ∧ Right (recs b (b.getD 0 0).toNat) ∧ total (recs b (b.getD 0 0).toNat) = last4 b ∧ sortR (recs b (b.getD 0 0).toNat) = recs b (b.getD 0 0).toNat ∧ parseR b = (recs b (b.getD 0 0).toNat, 0) := by
  by_cases hf : noForm b
  · rw [parse_form hf] at h0; cases h0
  by_cases hw : (wrongL (recs b (b.getD 0 0).toNat)).1 = 0
  case neg => rw [parse_wrong hf hw] at h0; exact absurd h0 hw
  case pos =>
    by_cases ht : total (recs b (b.getD 0 0).toNat) = last4 b
    case neg => rw [parse_fit hf hw (Or.inl ht)] at h0; cases h0
    case pos =>
      cases hs : sameL (recs b (b.getD 0 0).toNat) (sortR (recs b (b.getD 0 0).toNat)) with
      | false => rw [parse_fit hf hw (Or.inr hs)] at h0; cases h0
      | true => exact ⟨hf, wrong_ok.1 hw, ht, (sameL_true.1 hs).symm, parse_ok hf hw ht hs⟩

/-- A file that is read is that of its records. -/
theorem back {b : List Int} (hb : Byt b) (h0 : (parseR b).2 = 0) : Right (parseR b).1 ∧ fileB (parseR b).1 = b := by
  obtain ⟨hf, hR, ht, hs, hp⟩ := parse_right h0
  rw [hp]
  dsimp only
  refine ⟨hR, ?_⟩
  have hz := hb.at 0
  unfold noForm at hf
  have hn : ((b.getD 0 0).toNat : Int) = b.getD 0 0 := by omega
  have hl : b.length = 5 + 6 * (b.getD 0 0).toNat := by omega
  generalize hN : (b.getD 0 0).toNat = n at *
  have hlen : (fileB (recs b n)).length = b.length := by rw [file_length, recs_length, hl]
  apply List.ext_getElem? 
  intro q
  rcases Nat.lt_or_ge q b.length with hq | hq
  case inr => rw [List.getElem?_eq_none (by omega), List.getElem?_eq_none hq]
  case inl =>
    have hbq : b[q]? = some (b.getD q 0) := by simp [List.getD, hq]
    rw [hbq]
    rcases Nat.lt_or_ge q 1 with h1 | h1
    · obtain rfl : q = 0 := by omega
      unfold fileB
      simp only [List.cons_append, List.getElem?_cons_zero, recs_length]
      rw [hn]
    rcases Nat.lt_or_ge q (1 + 6 * n) with h2 | h2
    · have hq2 : q = 1 + 6 * ((q - 1) / 6) + (q - 1) % 6 := by omega
      have hi : (q - 1) / 6 < n := by omega
      have hj : (q - 1) % 6 < 6 := by omega
      generalize (q - 1) / 6 = i at *
      generalize (q - 1) % 6 = j at *
      subst hq2
      rw [file_at (l := recs b n) (by rw [recs_length]; exact hi) hj, hs, recs_at _ hi, enc_dec hb]
      match j, hj with
      | 0, _ => rfl
      | 1, _ => rfl
      | 2, _ => rfl
      | 3, _ => rfl
      | 4, _ => rfl
      | 5, _ => rfl
    · have hq2 : q = 1 + 6 * n + (q - (1 + 6 * n)) := by omega
      have hj : q - (1 + 6 * n) < 4 := by omega
      generalize q - (1 + 6 * n) = j at *
      subst hq2
      have := file_last (recs b n) (j := j) hj
      rw [recs_length] at this
      rw [this, ht]
      unfold last4 tot4
      have k0 := hb.at (b.length - 4)
      have k1 := hb.at (b.length - 3)
      have k2 := hb.at (b.length - 2)
      have k3 := hb.at (b.length - 1)
      have q0 : b.length - 4 = 1 + 6 * n + 0 := by omega
      have q1 : b.length - 3 = 1 + 6 * n + 1 := by omega
      have q2 : b.length - 2 = 1 + 6 * n + 2 := by omega
      have q3 : b.length - 1 = 1 + 6 * n + 3 := by omega
      rw [q0] at k0; rw [q1] at k1; rw [q2] at k2; rw [q3] at k3
      rw [q0, q1, q2, q3]
      match j, hj with
      | 0, _ => simp only [List.getElem?_cons_zero]; congr 1; omega
      | 1, _ => simp only [List.getElem?_cons_zero, List.getElem?_cons_succ]; congr 1; omega
      | 2, _ => simp only [List.getElem?_cons_zero, List.getElem?_cons_succ]; congr 1; omega
      | 3, _ => simp only [List.getElem?_cons_zero, List.getElem?_cons_succ]; congr 1; omega
theorem bytes_bad {l : List Rc} (h : (wrongL l).1 ≠ 0) : bytesR l = ([], wrongL l) := by unfold bytesR; rw [if_pos h]
theorem bytes_ok {l : List Rc} (h : (wrongL l).1 = 0) : bytesR l = (fileB l, (0, 0)) := by unfold bytesR; rw [if_neg (by simpa using h)]

/-! ### What all shops get -/
def sgnF (r : Rc) : Int := r.m * sgn r.k
/-- The shops' sums up to shop n. -/
def netsTo (l : List Rc) : Nat → Int
  | 0 => 0
  | n + 1 => netsTo l n + net (n : Int) l
theorem netsTo_cons (r : Rc) (l : List Rc) : ∀ n : Nat, netsTo (r :: l) n = netsTo l n + (if 0 ≤ r.sh ∧ r.sh < n then sgnF r else 0)
  | 0 => by
    rw [if_neg (by omega)]; rfl
  | n + 1 => by
    unfold netsTo
    rw [netsTo_cons r l n]
    show _ + (netF (n : Int) r + sumBy (netF (n : Int)) l) = _ + sumBy (netF (n : Int)) l + _
    unfold netF
    by_cases h1 : r.sh = (n : Int)
    · rw [if_pos h1, if_neg (by omega), if_pos (by omega)]; unfold sgnF; omega
    · rw [if_neg h1]
      by_cases h2 : 0 ≤ r.sh ∧ r.sh < n
      · rw [if_pos h2, if_pos (by omega)]; omega
      · rw [if_neg h2, if_neg (by omega)]; omega
theorem all_shops {l : List Rc} (h : ∀ r ∈ l, ¬ far r) : netsTo l 8 = sumBy sgnF l := by
  have h0 : ∀ n, netsTo [] n = 0 := by
    intro n
    induction n with
    | zero => rfl
    | succ n ih => unfold netsTo; rw [ih]; rfl
  induction l with
  | nil => exact h0 8
  | cons r t ih =>
    rw [netsTo_cons, ih fun x hx => h x (List.mem_cons_of_mem _ hx)]
    have := h r List.mem_cons_self
    unfold far at this
    rw [if_pos (by omega)]
    simp only [sumBy]; omega
end Go.Proofs.Ytodkcagingnelab.Dy
