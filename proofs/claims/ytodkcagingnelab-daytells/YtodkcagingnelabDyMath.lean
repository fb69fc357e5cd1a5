/- Records of a day as plain numbers: what is wrong with them, their order, what shops get. No program here. -/
namespace Go.Proofs.Ytodkcagingnelab.Dy

/-- A record. -/
structure Rc where
  sh : Int
  au : Int
  k : Int
  m : Int

def zR : Rc := ⟨0, 0, 0, 0⟩

/-! ### What is wrong -/
abbrev noKind (r : Rc) : Prop := r.k < 1 ∨ 8 < r.k
abbrev far (r : Rc) : Prop := r.sh < 0 ∨ 7 < r.sh ∨ r.au < 0 ∨ 29 < r.au ∨ r.m < 1 ∨ 1000000 < r.m

def wrongR (r : Rc) : Int := if noKind r then 1 else if far r then 3 else 0

def wrongGo (i : Nat) : List Rc → Int × Int
  | [] => (0, 0)
  | r :: t => if wrongR r ≠ 0 then (wrongR r, (i : Int)) else wrongGo (i + 1) t

def wrongL (l : List Rc) : Int × Int := if 100 < l.length then (5, 0) else wrongGo 0 l

theorem drop_at {L : List Rc} {k : Nat} (hk : k < L.length) : L.drop k = L.getD k zR :: L.drop (k + 1) := by
  rw [List.drop_eq_getElem_cons hk]; simp [List.getD, hk]
theorem take_at {L : List Rc} {k : Nat} (hk : k < L.length) : L.take (k + 1) = L.take k ++ [L.getD k zR] := by
  rw [List.take_add_one]; simp [List.getD, hk]
theorem getD_mem {L : List Rc} {k : Nat} (hk : k < L.length) : L.getD k zR ∈ L := by simp [List.getD, hk]
theorem getD_at {L : List Rc} {k : Nat} (hk : k < L.length) : L.getD k zR = L[k] := by simp [List.getD, hk]

theorem wrong_many {l : List Rc} (h : 100 < l.length) : wrongL l = (5, 0) := by unfold wrongL; rw [if_pos h]
/-- What stands ahead of the k-th record is right. -/
def Good (l : List Rc) (k : Nat) : Prop := wrongL l = wrongGo k (l.drop k)
theorem good_zero {l : List Rc} (h : l.length ≤ 100) : Good l 0 := by unfold Good wrongL; rw [if_neg (by omega)]; simp
theorem Good.bad {l : List Rc} {k : Nat} (g : Good l k) (hk : k < l.length) (h : wrongR (l.getD k zR) ≠ 0) : wrongL l = (wrongR (l.getD k zR), (k : Int)) := by
  rw [g, drop_at hk]; simp only [wrongGo, if_pos h]
theorem Good.next {l : List Rc} {k : Nat} (g : Good l k) (hk : k < l.length) (h : wrongR (l.getD k zR) = 0) : Good l (k + 1) := by
  unfold Good
  rw [g, drop_at hk]; simp only [wrongGo, h]; simp
theorem Good.done {l : List Rc} {k : Nat} (g : Good l k) (hk : l.length ≤ k) : wrongL l = (0, 0) := by
  rw [g, List.drop_eq_nil_of_le hk]; rfl

/-- Right records. -/
structure Right (l : List Rc) : Prop where
  few : l.length ≤ 100
  each : ∀ r ∈ l, ¬ noKind r ∧ ¬ far r

theorem wrongR_ok {r : Rc} : wrongR r = 0 ↔ ¬ noKind r ∧ ¬ far r := by
  unfold wrongR
  by_cases h1 : noKind r
  · rw [if_pos h1]; exact ⟨fun h => (by cases h), fun h => absurd h1 h.1⟩
  rw [if_neg h1]
  by_cases h2 : far r
  · rw [if_pos h2]; exact ⟨fun h => (by cases h), fun h => absurd h2 h.2⟩
  · rw [if_neg h2]; exact ⟨fun _ => ⟨h1, h2⟩, fun _ => rfl⟩
theorem wrongGo_ok {l : List Rc} : ∀ {i : Nat}, (wrongGo i l).1 = 0 ↔ ∀ r ∈ l, wrongR r = 0 := by
  induction l with
  | nil => intro i; simp [wrongGo]
  | cons r t ih =>
    intro i
    by_cases h : wrongR r = 0
    · rw [wrongGo, if_neg (by simpa using h), ih]
      exact ⟨fun h1 x hx => by rcases List.mem_cons.1 hx with rfl | h2; exact h; exact h1 x h2, fun h1 x hx => h1 x (List.mem_cons_of_mem _ hx)⟩
    · rw [wrongGo, if_pos h]
      exact ⟨fun h1 => absurd h1 h, fun h1 => h1 r List.mem_cons_self⟩
theorem wrong_ok {l : List Rc} : (wrongL l).1 = 0 ↔ Right l := by
  unfold wrongL
  by_cases h : 100 < l.length
  · rw [if_pos h]; exact ⟨fun h => (by cases h), fun r => absurd r.few (by omega)⟩
  · rw [if_neg h, wrongGo_ok]
    exact ⟨fun h1 => ⟨by omega, fun r hr => wrongR_ok.1 (h1 r hr)⟩, fun r x hx => wrongR_ok.2 (r.each x hx)⟩
theorem wrongGo_zero {l : List Rc} : ∀ {i : Nat}, (wrongGo i l).1 = 0 → wrongGo i l = (0, 0) := by
  induction l with
  | nil => intro i _; rfl
  | cons r t ih =>
    intro i h
    by_cases h1 : wrongR r = 0
    · rw [wrongGo, if_neg (by simpa using h1)] at h ⊢; exact ih h
    · rw [wrongGo, if_pos h1] at h; exact absurd h h1
theorem wrong_zero {l : List Rc} (h : (wrongL l).1 = 0) : wrongL l = (0, 0) := by
  unfold wrongL at h ⊢
  split at h
  · cases h
  · rename_i h1; rw [if_neg h1]; exact wrongGo_zero h

/-! ### Their order -/
def gtB (a b : Rc) : Bool := decide (b.sh < a.sh) || (a.sh == b.sh && decide (b.au < a.au))
theorem gtB_true {a b : Rc} : gtB a b = true ↔ b.sh < a.sh ∨ (a.sh = b.sh ∧ b.au < a.au) := by unfold gtB; simp
theorem gtB_false {a b : Rc} : gtB a b = false ↔ ¬ (b.sh < a.sh ∨ (a.sh = b.sh ∧ b.au < a.au)) := by
  rw [← gtB_true]; simp
theorem gtB_trans {a b c : Rc} (h1 : gtB a b = false) (h2 : gtB b c = false) : gtB a c = false := by
  rw [gtB_false] at *; omega
theorem gtB_trans' {a b c : Rc} (h1 : gtB a b = false) (h2 : gtB c b = true) : gtB c a = true := by
  rw [gtB_false] at h1; rw [gtB_true] at *; omega

/-- Where a record belongs, looked for from the n-th place backward. -/
def pos (r : Rc) (out : List Rc) : Nat → Nat
  | 0 => 0
  | n + 1 => if gtB (out.getD n zR) r then pos r out n else n + 1
def insR (out : List Rc) (r : Rc) : List Rc := out.take (pos r out out.length) ++ r :: out.drop (pos r out out.length)
def sortR (l : List Rc) : List Rc := l.foldl insR []

theorem pos_le (r : Rc) (out : List Rc) : ∀ n, pos r out n ≤ n
  | 0 => Nat.le_refl _
  | n + 1 => by
    unfold pos
    split
    · exact Nat.le_succ_of_le (pos_le r out n)
    · exact Nat.le_refl _
theorem pos_behind (r : Rc) (out : List Rc) : ∀ n i, pos r out n ≤ i → i < n → gtB (out.getD i zR) r = true
  | 0, i, _, h => absurd h (Nat.not_lt_zero _)
  | n + 1, i, h1, h2 => by
    unfold pos at h1
    split at h1
    · rename_i h
      rcases Nat.lt_or_ge i n with h3 | h3
      · exact pos_behind r out n i h1 h3
      · obtain rfl : i = n := by omega
        exact h
    · omega
theorem pos_ahead (r : Rc) (out : List Rc) : ∀ n, 0 < pos r out n → gtB (out.getD (pos r out n - 1) zR) r = false
  | 0, h => absurd h (Nat.lt_irrefl _)
  | n + 1, h => by
    unfold pos at h ⊢
    split
    · rename_i h1
      rw [if_pos h1] at h
      exact pos_ahead r out n h
    · rename_i h1
      simpa using h1

/-- In order. -/
def Srt (s : List Rc) : Prop := s.Pairwise fun a b => gtB a b = false

theorem Srt.take {s : List Rc} (h : Srt s) (n : Nat) : Srt (s.take n) := List.Pairwise.sublist (List.take_sublist _ _) h
theorem Srt.drop {s : List Rc} (h : Srt s) (n : Nat) : Srt (s.drop n) := List.Pairwise.sublist (List.drop_sublist _ _) h

theorem mem_take_at {s : List Rc} {n : Nat} {x : Rc} (h : x ∈ s.take n) : ∃ i, i < n ∧ i < s.length ∧ s.getD i zR = x := by
  obtain ⟨i, hi, rfl⟩ := List.getElem_of_mem h
  simp at hi
  exact ⟨i, by omega, by omega, by rw [getD_at (by omega)]; simp⟩
theorem mem_drop_at {s : List Rc} {n : Nat} {x : Rc} (h : x ∈ s.drop n) : ∃ i, n ≤ i ∧ i < s.length ∧ s.getD i zR = x := by
  obtain ⟨i, hi, rfl⟩ := List.getElem_of_mem h
  simp at hi
  exact ⟨n + i, by omega, by omega, by rw [getD_at (by omega)]; simp⟩

theorem Srt.at {s : List Rc} (h : Srt s) {i j : Nat} (hij : i < j) (hj : j < s.length) : gtB (s.getD i zR) (s.getD j zR) = false := by
  rw [getD_at (by omega), getD_at hj]
  exact List.pairwise_iff_getElem.1 h i j (by omega) hj hij

theorem ins_ahead {out : List Rc} (h : Srt out) (r : Rc) {x : Rc} (hx : x ∈ out.take (pos r out out.length)) : gtB x r = false := by
  obtain ⟨i, h1, h2, rfl⟩ := mem_take_at hx
  have hp := pos_ahead r out out.length (by omega)
  have hl := pos_le r out out.length
  rcases Nat.lt_or_ge i (pos r out out.length - 1) with h3 | h3
  · exact gtB_trans (h.at h3 (by omega)) hp
  · obtain rfl : i = pos r out out.length - 1 := by omega
    exact hp
theorem ins_behind {out : List Rc} (r : Rc) {x : Rc} (hx : x ∈ out.drop (pos r out out.length)) : gtB x r = true := by
  obtain ⟨i, h1, h2, rfl⟩ := mem_drop_at hx
  exact pos_behind r out out.length i h1 h2
theorem gtB_asymm {a b : Rc} (h : gtB a b = true) : gtB b a = false := by rw [gtB_false]; rw [gtB_true] at h; omega

theorem ins_srt {out : List Rc} (h : Srt out) (r : Rc) : Srt (insR out r) := by
  unfold insR Srt
  rw [List.pairwise_append]
  refine ⟨h.take _, ?_, ?_⟩
  · rw [List.pairwise_cons]
    exact ⟨fun x hx => gtB_asymm (ins_behind r hx), h.drop _⟩
  · intro x hx y hy
    rcases List.mem_cons.1 hy with rfl | hy
    · exact ins_ahead h _ hx
    · exact gtB_trans (ins_ahead h r hx) (gtB_asymm (ins_behind r hy))

theorem srt_nil : Srt [] := List.Pairwise.nil
theorem foldl_srt (l : List Rc) : ∀ out, Srt out → Srt (l.foldl insR out) := by
  induction l with
  | nil => intro out h; exact h
  | cons r t ih => intro out h; exact ih _ (ins_srt h r)
theorem sort_srt (l : List Rc) : Srt (sortR l) := foldl_srt l [] srt_nil

theorem ins_length (out : List Rc) (r : Rc) : (insR out r).length = out.length + 1 := by
  unfold insR
  have := pos_le r out out.length
  simp; omega
theorem foldl_length (l : List Rc) : ∀ out, (l.foldl insR out).length = out.length + l.length := by
  induction l with
  | nil => intro out; simp
  | cons r t ih => intro out; rw [List.foldl_cons, ih, ins_length]; simp; omega
theorem sort_length (l : List Rc) : (sortR l).length = l.length := by unfold sortR; rw [foldl_length]; simp

/-- Of one permission of a shop. -/
def key (a b : Int) (r : Rc) : Bool := r.sh == a && r.au == b
theorem key_true {a b : Int} {r : Rc} : key a b r = true ↔ r.sh = a ∧ r.au = b := by unfold key; simp
theorem key_gt {a b : Int} {r x : Rc} (h : key a b r = true) (hx : gtB x r = true) : key a b x = false := by
  rw [key_true] at h
  rw [gtB_true] at hx
  cases hk : key a b x
  · rfl
  · rw [key_true] at hk; omega

theorem ins_filter (out : List Rc) (r : Rc) (a b : Int) : (insR out r).filter (key a b) = out.filter (key a b) ++ [r].filter (key a b) := by
  unfold insR
  rw [List.filter_append, List.filter_cons]
  by_cases hk : key a b r = true
  · rw [if_pos hk]
    have h0 : (out.drop (pos r out out.length)).filter (key a b) = [] := List.filter_eq_nil_iff.2 fun x hx => by rw [key_gt hk (ins_behind r hx)]; simp
    have h1 : out.filter (key a b) = (out.take (pos r out out.length)).filter (key a b) := by
      conv => lhs; rw [← List.take_append_drop (pos r out out.length) out, List.filter_append, h0, List.append_nil]
    rw [h0, h1]; simp [hk]
  · rw [if_neg hk, ← List.filter_append, List.take_append_drop]; simp [hk]
theorem foldl_filter (l : List Rc) (a b : Int) : ∀ out, (l.foldl insR out).filter (key a b) = out.filter (key a b) ++ l.filter (key a b) := by
  induction l with
  | nil => intro out; simp
  | cons r t ih => intro out; rw [List.foldl_cons, ih, ins_filter, List.append_assoc, ← List.filter_append]; rfl
theorem sort_filter (l : List Rc) (a b : Int) : (sortR l).filter (key a b) = l.filter (key a b) := by unfold sortR; rw [foldl_filter]; rfl

/-- In order, and each permission's as they came: there is but one such list. -/
theorem srt_one : ∀ {s t : List Rc}, Srt s → Srt t → (∀ a b, s.filter (key a b) = t.filter (key a b)) → s = t := by
  intro s
  induction s with
  | nil =>
    intro t _ _ h
    cases t with
    | nil => rfl
    | cons y t' =>
      have := h y.sh y.au
      rw [List.filter_cons, if_pos (key_true.2 ⟨rfl, rfl⟩)] at this
      cases this
  | cons x s' ih =>
    intro t hs ht h
    cases t with
    | nil =>
      have := h x.sh x.au
      rw [List.filter_cons, if_pos (key_true.2 ⟨rfl, rfl⟩)] at this
      cases this
    | cons y t' =>
      have hs' := List.pairwise_cons.1 hs
      have ht' := List.pairwise_cons.1 ht
      have hy : y ∈ x :: s' := by
        have h1 := h y.sh y.au
        have h2 : y ∈ (y :: t').filter (key y.sh y.au) := List.mem_filter.2 ⟨List.mem_cons_self, key_true.2 ⟨rfl, rfl⟩⟩
        rw [← h1] at h2
        exact (List.mem_filter.1 h2).1
      have hx : x ∈ y :: t' := by
        have h1 := h x.sh x.au
        have h2 : x ∈ (x :: s').filter (key x.sh x.au) := List.mem_filter.2 ⟨List.mem_cons_self, key_true.2 ⟨rfl, rfl⟩⟩
        rw [h1] at h2
        exact (List.mem_filter.1 h2).1
      have g1 : gtB x y = false := by
        rcases List.mem_cons.1 hy with h1 | h1
        · rw [h1, gtB_false]; omega
        · exact hs'.1 y h1
      have g2 : gtB y x = false := by
        rcases List.mem_cons.1 hx with h1 | h1
        · rw [h1, gtB_false]; omega
        · exact ht'.1 x h1
      have hk : x.sh = y.sh ∧ x.au = y.au := by
        rw [gtB_false] at g1 g2; omega
      have h1 := h x.sh x.au
      rw [List.filter_cons, if_pos (key_true.2 ⟨rfl, rfl⟩), List.filter_cons, if_pos (key_true.2 ⟨hk.1.symm, hk.2.symm⟩)] at h1
      obtain ⟨rfl, -⟩ := List.cons.inj h1
      congr 1
      refine ih hs'.2 ht'.2 fun a b => ?_
      have h2 := h a b
      rw [List.filter_cons, List.filter_cons] at h2
      split at h2
      · exact (List.cons.inj h2).2
      · exact h2

theorem sort_of_srt {s : List Rc} (h : Srt s) : sortR s = s := srt_one (sort_srt s) h (sort_filter s)
theorem sort_sort (l : List Rc) : sortR (sortR l) = sortR l := sort_of_srt (sort_srt l)
theorem sort_eq {l s : List Rc} (h : Srt s) (hf : ∀ a b, s.filter (key a b) = l.filter (key a b)) : s = sortR l := srt_one h (sort_srt l) fun a b => by rw [hf, sort_filter]
theorem srt_iff {s : List Rc} : Srt s ↔ sortR s = s := ⟨sort_of_srt, fun h => by rw [← h]; exact sort_srt s⟩

/-! ### Sums over records -/
def sumBy (f : Rc → Int) : List Rc → Int
  | [] => 0
  | r :: t => f r + sumBy f t
theorem sumBy_append (f : Rc → Int) (a b : List Rc) : sumBy f (a ++ b) = sumBy f a + sumBy f b := by
  induction a with
  | nil => simp [sumBy]
  | cons r t ih => simp only [List.cons_append, sumBy, ih]; omega
theorem sumBy_ins (f : Rc → Int) (out : List Rc) (r : Rc) : sumBy f (insR out r) = sumBy f out + f r := by
  unfold insR
  conv => rhs; rw [← List.take_append_drop (pos r out out.length) out]
  rw [sumBy_append, sumBy_append, sumBy]; omega
theorem sumBy_foldl (f : Rc → Int) (l : List Rc) : ∀ out, sumBy f (l.foldl insR out) = sumBy f out + sumBy f l := by
  induction l with
  | nil => intro out; simp [sumBy]
  | cons r t ih => intro out; rw [List.foldl_cons, ih, sumBy_ins, sumBy]; omega
theorem sumBy_sort (f : Rc → Int) (l : List Rc) : sumBy f (sortR l) = sumBy f l := by unfold sortR; rw [sumBy_foldl]; simp [sumBy]
theorem sumBy_step (f : Rc → Int) {L : List Rc} {j : Nat} (hj : j < L.length) : sumBy f (L.take (j + 1)) = sumBy f (L.take j) + f (L.getD j zR) := by
  rw [take_at hj, sumBy_append]; simp [sumBy]
theorem sumBy_bound {f : Rc → Int} {c : Int} {L : List Rc} (hf : ∀ r ∈ L, -c ≤ f r ∧ f r ≤ c) : -(c * L.length) ≤ sumBy f L ∧ sumBy f L ≤ c * L.length := by
  induction L with
  | nil => simp [sumBy]
  | cons r t ih =>
    have h1 := ih fun x hx => hf x (List.mem_cons_of_mem _ hx)
    have h2 := hf r List.mem_cons_self
    simp only [sumBy, List.length_cons, Int.natCast_add, Int.natCast_one, Int.mul_add, Int.mul_one]
    omega

/-- How a kind counts. -/
def sgn (k : Int) : Int := if k = 2 ∨ k = 3 then 1 else if k = 5 ∨ k = 7 then -1 else 0
def netF (shop : Int) (r : Rc) : Int := if r.sh = shop then r.m * sgn r.k else 0
def net (shop : Int) (l : List Rc) : Int := sumBy (netF shop) l
theorem net_sort (shop : Int) (l : List Rc) : net shop (sortR l) = net shop l := sumBy_sort _ _

theorem mem_sort {l : List Rc} {r : Rc} : r ∈ sortR l ↔ r ∈ l := by
  have h : ∀ (x : Rc) (L : List Rc), x ∈ L ↔ x ∈ L.filter (key x.sh x.au) := fun x L => by
    rw [List.mem_filter]; exact ⟨fun h => ⟨h, key_true.2 ⟨rfl, rfl⟩⟩, fun h => h.1⟩
  rw [h, sort_filter, ← h]
theorem Right.sort {l : List Rc} (h : Right l) : Right (sortR l) := ⟨by rw [sort_length]; exact h.few, fun r hr => h.each r (mem_sort.1 hr)⟩
end Go.Proofs.Ytodkcagingnelab.Dy
