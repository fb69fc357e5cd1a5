import Derived.Test.YtofcnebekmjdoaaGreatDoorQaa
set_option maxHeartbeats 4000000
set_option maxRecDepth 100000
namespace Go.Proofs.YtofcnebekmjdoaaGreatDoor.Bn
open RowKit Gn
abbrev Ak := Nat → Nat
def relab (lab : Ak) (n j : Nat) : Ak := fun k => if k < n then lab k else j
theorem Ab {lab : Ak} {n j k : Nat} (h : k < n) : relab lab n j k = lab k := if_pos h
theorem Ar {lab : Ak} {n j k : Nat} (h : n ≤ k) : relab lab n j k = j := if_neg (by omega)
structure De (lab : Ak) (j : Nat) (w w' : World) : Prop where
 os : w'.os = w.os
 tape : w'.tape = w.tape
 output : w'.output = w.output
 size : w.heap.size ≤ w'.heap.size
 block : ∀ k, k < w.heap.size → (j = 0 ∨ lab k ≠ j) → w'.heap[k]? = w.heap[k]?
theorem Bi {lab : Ak} {j : Nat} {w w' : World} (h : Below w.heap.size w w') : De lab j w w' := ⟨h.os, h.tape, h.output, h.size, fun k hk _ => h.block k hk⟩
theorem In {lab : Ak} {j : Nat} (w : World) (p : Addr) (v : Value) (h : lab p.block = j) (hj : j ≠ 0) : De lab j w (w.setCell p v) :=
 have hb := (Below.refl 0 w).setCell (p := p) (Nat.zero_le _) v
 ⟨hb.os, hb.tape, hb.output, by simp, fun k _ hl => heap_setCell_other _ _ _ _ (by rintro rfl; rcases hl with hl | hl; exact hj hl; exact hl h)⟩
theorem Hv {lab : Ak} {j : Nat} {w w' : World} {row : Option Nat} (h : w.grownBy w' row) (hr : ∀ k, row = some k → lab k = j) (hj : j ≠ 0) : De lab j w w' :=
 ⟨h.os, h.tape, h.output, h.size, fun k hk hl => h.block k hk (by rintro rfl; rcases hl with hl | hl; exact hj hl; exact hl (hr k rfl))⟩
theorem De.trans {lab : Ak} {j : Nat} {a b c : World} (h : De lab j a b) (h2 : De lab j b c) : De lab j a c :=
 ⟨h2.os.trans h.os, h2.tape.trans h.tape, h2.output.trans h.output, Nat.le_trans h.size h2.size, fun k hk hl => (h2.block k (Nat.lt_of_lt_of_le hk h.size) hl).trans (h.block k hk hl)⟩
theorem De.refl (lab : Ak) (j : Nat) (w : World) : De lab j w w := ⟨rfl, rfl, rfl, Nat.le_refl _, fun _ _ _ => rfl⟩
theorem De.drew {lab : Ak} {j : Nat} {w w' : World} (h : De lab j w w') : De lab j w w'.drew :=
 have hb := (Below.refl 0 w').drew
 ⟨hb.os.trans h.os, hb.tape.trans h.tape, hb.output.trans h.output, h.size, h.block⟩
structure Hj (w : World) (lab : Ak) (w' : World) (lab' : Ak) : Prop where
 ext : ∀ k, k < w.heap.size → lab' k = lab k
 os : w'.os = w.os
 tape : w'.tape = w.tape
 output : w'.output = w.output
 size : w.heap.size ≤ w'.heap.size
 block : ∀ k, k < w.heap.size → (lab k = 0 ∨ 8 < lab k) → w'.heap[k]? = w.heap[k]?
theorem Gr {lab : Ak} {j : Nat} {w w' : World} (h : De lab j w w') (hj : j ≤ 8) : Hj w lab w' (relab lab w.heap.size j) :=
 ⟨fun k hk => Ab hk, h.os, h.tape, h.output, h.size, fun k hk hl => h.block k hk (by omega)⟩
theorem Ac {lab : Ak} {w w' : World} (h : Below w.heap.size w w') : Hj w lab w' (relab lab w.heap.size 0) := Gr (Bi h) (by decide)
theorem Hj.refl (w : World) (lab : Ak) : Hj w lab w lab := ⟨fun _ _ => rfl, rfl, rfl, rfl, Nat.le_refl _, fun _ _ _ => rfl⟩
theorem Hj.trans {w w1 w2 : World} {lab lab1 lab2 : Ak} (h : Hj w lab w1 lab1) (h2 : Hj w1 lab1 w2 lab2) : Hj w lab w2 lab2 :=
 ⟨fun k hk => (h2.ext k (Nat.lt_of_lt_of_le hk h.size)).trans (h.ext k hk), h2.os.trans h.os, h2.tape.trans h.tape, h2.output.trans h.output, Nat.le_trans h.size h2.size, fun k hk hl => (h2.block k (Nat.lt_of_lt_of_le hk h.size) (by rw [h.ext k hk]; exact hl)).trans (h.block k hk hl)⟩
theorem Hj.drew {w w1 : World} {lab lab1 : Ak} (h : Hj w lab w1 lab1) : Hj w lab w1.drew lab1 :=
 have hb := (Below.refl 0 w1).drew
 ⟨h.ext, hb.os.trans h.os, hb.tape.trans h.tape, hb.output.trans h.output, h.size, h.block⟩
theorem Hj.at {w w1 : World} {lab lab1 : Ak} (h : Hj w lab w1 lab1) {k : Nat} {o : Obj} (hk : w.heap[k]? = some o) (hl : lab k = 0) : w1.heap[k]? = some o := (h.block k (lt_of_block hk) (Or.inl hl)).trans hk
theorem Hj.zero {w w1 : World} {lab lab1 : Ak} (h : Hj w lab w1 lab1) {k : Nat} (hk : k < w.heap.size) (hl : lab k = 0) : lab1 k = 0 := (h.ext k hk).trans hl
theorem Hj.below {w w1 : World} {lab lab1 : Ak} (h : Hj w lab w1 lab1) {base : Nat} (hb : base ≤ w.heap.size) (hi : ∀ k, 1 ≤ lab k → lab k ≤ 8 → base ≤ k) : Below base w w1 :=
 ⟨h.os, h.tape, h.output, h.size, fun k hk => h.block k (by omega) (by
  rcases Nat.eq_zero_or_pos (lab k) with h0 | h0
  ·exact Or.inl h0
  ·rcases Nat.lt_or_ge 8 (lab k) with h8 | h8
   ·exact Or.inr h8
   ·have := hi k h0 h8; omega)⟩
variable {α : Type}
def Ap (K : Am α) (lab : Ak) (w : World) (v : Value) (L : List α) (j : Nat) : Prop :=
 ∃ a cap, v = .slice a L.length cap ∧ Lies K w a cap L ∧ ∀ ad, a = some ad → L ≠ [] → lab ad.block = j
theorem lies_lt {K : Am α} {w : World} {a : Option Addr} {cap : Nat} {L : List α} (h : Lies K w a cap L) (hn : L ≠ []) : ∀ ad, a = some ad → ad.block < w.heap.size := by
 intro ad ha
 rcases h.at' with h0 | ⟨b, off, h1, h2, -⟩
 ·exact absurd h0 hn
 ·rw [h1] at ha; cases ha; exact h2
theorem lies_empty {K : Am α} {w w' : World} {a : Option Addr} {cap : Nat} {L : List α} (h : Lies K w a cap L) (h0 : L = []) : Lies K w' a cap L := ⟨h.len, h.nil, Or.inl h0⟩
theorem Ap.move {K : Am α} {lab : Ak} {w w' : World} {v : Value} {L : List α} {i j : Nat} (h : Ap K lab w v L i) (ho : De lab j w w') (hij : j = 0 ∨ i ≠ j) : Ap K (relab lab w.heap.size j) w' v L i := by
 obtain ⟨a, cap, hv, hl, hb⟩ := h
 by_cases h0 : L = []
 ·exact ⟨a, cap, hv, lies_empty hl h0, fun _ _ hn => absurd h0 hn⟩
 ·refine ⟨a, cap, hv, hl.keep ho.size fun ad ha hlt => ho.block _ hlt ?_, fun ad ha _ => ?_⟩
  ·rw [hb ad ha h0]; exact hij
  ·rw [Ab (lies_lt hl h0 ad ha)]; exact hb ad ha h0
theorem Ap.stay {K : Am α} {lab : Ak} {w w' : World} {v : Value} {L : List α} {i j : Nat} (h : Ap K lab w v L i) (ho : De lab j w w') (hij : j = 0 ∨ i ≠ j) : Ap K lab w' v L i := by
 obtain ⟨a, cap, hv, hl, hb⟩ := h
 by_cases h0 : L = []
 ·exact ⟨a, cap, hv, lies_empty hl h0, fun _ _ hn => absurd h0 hn⟩
 ·refine ⟨a, cap, hv, hl.keep ho.size fun ad ha hlt => ho.block _ hlt ?_, hb⟩
  rw [hb ad ha h0]; exact hij
theorem Ap.lies {K : Am α} {lab : Ak} {w : World} {v : Value} {L : List α} {i : Nat} (h : Ap K lab w v L i) : ∃ a cap, v = .slice a L.length cap ∧ Lies K w a cap L := by
 obtain ⟨a, cap, hv, hl, -⟩ := h
 exact ⟨a, cap, hv, hl⟩
theorem ap_nil (K : Am α) (lab : Ak) (w : World) (j : Nat) : Ap K lab w (.slice none 0 0) [] j := ⟨none, 0, rfl, lies_nil K w, fun _ h => by cases h⟩
theorem ap_new {K : Am α} {lab : Ak} {n j : Nat} {w' : World} {v : Value} {L : List α} {a : Option Addr} {cap : Nat} (hv : v = .slice a L.length cap) (hl : Lies K w' a cap L) (hp : Past n a) : Ap K (relab lab n j) w' v L j :=
 ⟨a, cap, hv, hl, fun ad ha _ => Ar (hp ad ha)⟩
theorem ap_row {K : Am α} {e : TypeId} {lab : Ak} {n j : Nat} {w' : World} {v : Value} {L : List α} (h : Row K e w' n v L) : Ap K (relab lab n j) w' v L j := by
 obtain ⟨a, cap, hv, hl, hp, -⟩ := h.lies
 exact ap_new hv hl hp
structure Tp (K : Am α) (e : TypeId) (lab : Ak) (base : Nat) (w : World) (v : Value) (L : List α) (j : Nat) : Prop where
 row : Row K e w base v L
 own : L ≠ [] → w.ownsRow base e K.size v L.length (K.flat L)
 lab : ∀ k, v.ownBlock = some k → lab k = j
theorem owns_keep {K : Am α} {e : TypeId} {w w' : World} {base : Nat} {v : Value} {L : List α} (h : w.ownsRow base e K.size v L.length (K.flat L)) (hk : ∀ k, v.ownBlock = some k → k < w.heap.size → w'.heap[k]? = w.heap[k]?) : w'.ownsRow base e K.size v L.length (K.flat L) := by
 refine ⟨h.1, ?_⟩
 rcases h.2 with h0 | ⟨g, cap, cur, rfl, hg, hh, r⟩
 ·exact Or.inl h0
 ·exact Or.inr ⟨g, cap, cur, rfl, hg, (hk g rfl (lt_of_block hh)).trans hh, r⟩
theorem Tp.move {K : Am α} {e : TypeId} {lab : Ak} {base : Nat} {w w' : World} {v : Value} {L : List α} {i j : Nat} (h : Tp K e lab base w v L i) (ho : De lab j w w') (hij : j = 0 ∨ i ≠ j) : Tp K e (relab lab w.heap.size j) base w' v L i :=
 ⟨h.row.keep ho.size fun k hk hlt => ho.block k hlt (by rw [h.lab k hk]; exact hij), fun hn => owns_keep (h.own hn) fun k hk hlt => ho.block k hlt (by rw [h.lab k hk]; exact hij), fun k hk => by rw [Ab (h.row.block_lt k hk).2]; exact h.lab k hk⟩
theorem Tp.stay {K : Am α} {e : TypeId} {lab : Ak} {base : Nat} {w w' : World} {v : Value} {L : List α} {i j : Nat} (h : Tp K e lab base w v L i) (ho : De lab j w w') (hij : j = 0 ∨ i ≠ j) : Tp K e lab base w' v L i :=
 ⟨h.row.keep ho.size fun k hk hlt => ho.block k hlt (by rw [h.lab k hk]; exact hij), fun hn => owns_keep (h.own hn) fun k hk hlt => ho.block k hlt (by rw [h.lab k hk]; exact hij), h.lab⟩
theorem tp_nil {K : Am α} {e : TypeId} {lab : Ak} {base : Nat} {w : World} {j : Nat} : Tp K e lab base w (.slice none 0 0) [] j := ⟨.nil, fun h => absurd rfl h, fun _ h => by cases h⟩
theorem Tp.grow {K : Am α} {e : TypeId} {lab : Ak} {base : Nat} {w w' : World} {v v' : Value} {L L' : List α} {j : Nat} (h : Tp K e lab base w v L j) (hr : Row K e w' base v' L') (hn : L' ≠ [] → w'.ownsRow base e K.size v' L'.length (K.flat L')) (ha : ∀ k, v'.ownBlock = some k → v.ownBlock = some k ∨ w.heap.size ≤ k) : Tp K e (relab lab w.heap.size j) base w' v' L' j :=
 ⟨hr, hn, fun k hk => by
  rcases ha k hk with h1 | h1
  ·rw [Ab (h.row.block_lt k h1).2]; exact h.lab k h1
  ·exact Ar h1⟩
theorem Tp.ap {K : Am α} {e : TypeId} {lab : Ak} {base : Nat} {w : World} {v : Value} {L : List α} {j : Nat} (h : Tp K e lab base w v L j) : Ap K lab w v L j := by
 rcases h.row with ⟨rfl, rfl⟩ | h1 | ⟨g, rfl, hg, hl, hlt⟩
 ·exact ap_nil K lab w j
 ·rcases h1.2 with ⟨rfl, hn⟩ | ⟨g, cap, cur, rfl, r⟩
  ·have hL : L = [] := List.eq_nil_of_length_eq_zero hn
   subst hL
   exact ap_nil K lab w j
  ·obtain ⟨a, cap', hv, hl, -, -⟩ := (Row.own _ L h1).lies
   obtain ⟨rfl, -, rfl⟩ := Value.slice.inj hv
   exact ⟨_, _, rfl, hl, fun ad ha _ => by cases ha; exact h.lab g rfl⟩
 ·exact ⟨_, _, rfl, hl, fun ad ha _ => by cases ha; exact h.lab g rfl⟩
theorem Tp.below {K : Am α} {e : TypeId} {lab : Ak} {base : Nat} {w w' : World} {v : Value} {L : List α} {j : Nat} (h : Tp K e lab base w v L j) {B : Nat} {w0 : World} (hb : Below B w0 w) (hg : w.grownBy w' v.ownBlock) (h1 : B ≤ base) (h2 : B ≤ w.heap.size) : Below B w0 w' := Cv hb hg h.row h1 h2
def Bl (w : World) (g : Nat) : Nat → List Value → World
 | _, [] => w
 | p, x :: r => Bl (w.setCell ⟨g, p, none⟩ x) g (p + 1) r
theorem putAll_size (w : World) (g p : Nat) (l : List Value) : (Bl w g p l).heap.size = w.heap.size := by
 induction l generalizing w p with
 | nil => rfl
 | cons x r ih => rw [Bl, ih]; simp
theorem Bg (w : World) (g p k : Nat) (l : List Value) (h : k ≠ g) : (Bl w g p l).heap[k]? = w.heap[k]? := by
 induction l generalizing w p with
 | nil => rfl
 | cons x r ih => rw [Bl, ih]; exact heap_setCell_other _ _ _ _ h
theorem Fu (l : List Value) : ∀ (w : World) (g : Nat) (A M B : List Value) (t : TypeId), M.length = l.length → w.heap[g]? = some (.cells (A ++ (M ++ B)).toArray t) → (Bl w g A.length l).heap[g]? = some (.cells (A ++ (l ++ B)).toArray t) := by
 induction l with
 | nil =>
  intro w g A M B t hm h
  obtain rfl := List.eq_nil_of_length_eq_zero hm
  exact h
 | cons x r ih =>
  intro w g A M B t hm h
  cases M with
  | nil => simp at hm
  | cons y M =>
   have h1 := heap_setCell_same w g A.length _ _ x h
   have e : (A ++ (y :: M ++ B)).toArray.setIfInBounds A.length x = ((A ++ [x]) ++ (M ++ B)).toArray := by
    simp
   have h2 : (w.setCell ⟨g, A.length, none⟩ x).heap[g]? = some (.cells ((A ++ [x]) ++ (M ++ B)).toArray t) := by rw [← e]; exact h1
   have h3 := ih _ g (A ++ [x]) M B t (by simpa using hm) h2
   rw [Bl]
   simpa using h3
theorem flat_parts (K : Am α) {L : List α} {i : Nat} {x0 : α} (h : L[i]? = some x0) : K.flat L = K.flat (L.take i) ++ (K.cells x0 ++ K.flat (L.drop (i + 1))) := by
 have hi := (List.getElem?_eq_some_iff.1 h).1
 have hx : L = L.take i ++ x0 :: L.drop (i + 1) := by
  have := (List.getElem?_eq_some_iff.1 h).2
  rw [← this, ← List.drop_eq_getElem_cons hi, List.take_append_drop]
 conv => lhs; rw [hx, K.flat_append, K.flat_cons]
theorem flat_set (K : Am α) {L : List α} {i : Nat} (hi : i < L.length) (x : α) : K.flat (L.set i x) = K.flat (L.take i) ++ (K.cells x ++ K.flat (L.drop (i + 1))) := by
 have h : (L.set i x)[i]? = some x := by simp [hi]
 rw [flat_parts K h]
 simp [List.take_set_of_le, List.drop_set_of_lt]
theorem Row.put {K : Am α} {e : TypeId} {w : World} {base : Nat} {v : Value} {L : List α} (h : w.ownsRow base e K.size v L.length (K.flat L)) {i : Nat} (hi : i < L.length) :
  ∃ g cap, v = .slice (some ⟨g, 0, none⟩) L.length cap ∧ base ≤ g ∧ g < w.heap.size ∧ L.length ≤ cap ∧ (∀ p, w.frozen? ⟨g, p, none⟩ = false) ∧
   ∀ x, (Bl w g (i * K.size) (K.cells x)).ownsRow base e K.size v (L.set i x).length (K.flat (L.set i x)) := by
 rcases h.2 with ⟨-, hn⟩ | ⟨g, cap, cur, hv, hg, hh, hn, hm, hc, hx⟩
 ·omega
 ·refine ⟨g, cap, hv, hg, lt_of_block hh, hn, fun p => by simp [World.frozen?, hh], fun x => ?_⟩
  have hx0 : L[i]? = some L[i] := by simp [hi]
  have hsplit : cur.toList = K.flat (L.take i) ++ (K.cells L[i] ++ (K.flat (L.drop (i + 1)) ++ cur.toList.drop (L.length * K.size))) := by
   have h1 : cur.toList = cur.toList.take (L.length * K.size) ++ cur.toList.drop (L.length * K.size) := (List.take_append_drop _ _).symm
   conv => lhs; rw [h1, hx, flat_parts K hx0]
   simp
  have hA : i * K.size = (K.flat (L.take i)).length := by rw [K.flat_length, List.length_take, Nat.min_eq_left (by omega)]
  have hh' : w.heap[g]? = some (.cells (K.flat (L.take i) ++ (K.cells L[i] ++ (K.flat (L.drop (i + 1)) ++ cur.toList.drop (L.length * K.size)))).toArray e) := by
   rw [← hsplit]; simpa using hh
  have h2 := Fu (K.cells x) w g _ _ _ e (by rw [K.len, K.len]) hh'
  rw [← hA] at h2
  refine ⟨?_, Or.inr ⟨g, cap, _, by rw [List.length_set]; exact hv, hg, h2, by rw [List.length_set]; exact hn, hm, ?_, ?_⟩⟩
  ·rw [K.flat_length]
  ·rw [← hc, ← Array.length_toList (xs := cur)]
   conv => rhs; rw [hsplit]
   simp [K.len]
  ·rw [List.length_set, flat_set K hi]
   have hl : (K.flat (L.take i) ++ (K.cells x ++ K.flat (L.drop (i + 1)))).length = L.length * K.size := by
    rw [← flat_set K hi, K.flat_length, List.length_set]
   rw [← List.append_assoc (K.cells x), ← List.append_assoc]
   rw [List.take_left' hl]
end Go.Proofs.YtofcnebekmjdoaaGreatDoor.Bn
namespace Go.Proofs.YtofcnebekmjdoaaGreatDoor.Bk
def inTot (s : Int) : Bool := decide (-1000000000000 ≤ s) && decide (s ≤ 1000000000000)
def inR (e : Int × Int) : Bool := decide (0 ≤ e.1) && decide (e.1 < 58) && inTot e.2
theorem inTot_true {s : Int} : inTot s = true ↔ -1000000000000 ≤ s ∧ s ≤ 1000000000000 := by simp [inTot]
theorem inR_true {e : Int × Int} : inR e = true ↔ 0 ≤ e.1 ∧ e.1 < 58 ∧ -1000000000000 ≤ e.2 ∧ e.2 ≤ 1000000000000 := by
 simp [inR, inTot_true, and_assoc]
def getE (L : List (Int × Int)) (acc : Int) : Int :=
 match L with
 | [] => 0
 | e :: r => if e.1 = acc then e.2 else getE r acc
theorem getE_none {L : List (Int × Int)} {acc : Int} (h : ∀ j, j < L.length → (L.getD j (0, 0)).1 ≠ acc) : getE L acc = 0 := by
 induction L with
 | nil => rfl
 | cons e r ih =>
  have h0 := h 0 (by simp)
  simp at h0
  simp only [getE, if_neg h0]
  exact ih fun j hj => by have := h (j + 1) (by simpa using hj); simpa using this
theorem drop_at {L : List (Int × Int)} {k : Nat} (hk : k < L.length) : L.drop k = L.getD k (0, 0) :: L.drop (k + 1) := by
 rw [List.drop_eq_getElem_cons hk]; simp [List.getD, hk]
def wrongGo (prev : Option Int) (i : Nat) (Gz : Int) : List (Int × Int) → Int × Int
 | [] => if Gz = 0 then (0, 0) else (8, 0)
 | e :: r => if inR e = false then (3, i) else if e.2 = 0 then (2, i) else
   match prev with
   | none => wrongGo (some e.1) (i + 1) (Gz + e.2) r
   | some p => if e.1 ≤ p then (2, i) else wrongGo (some e.1) (i + 1) (Gz + e.2) r
def wrong (L : List (Int × Int)) : Int × Int := wrongGo none 0 0 L
def prevOf (L : List (Int × Int)) (k : Nat) : Option Int := if k = 0 then none else some (L.getD (k - 1) (0, 0)).1
structure Good (L : List (Int × Int)) (k : Nat) (t : Int) : Prop where
 left : wrong L = wrongGo (prevOf L k) k t (L.drop k)
 few : k ≤ 58
 last : 0 < k → (k : Int) ≤ (L.getD (k - 1) (0, 0)).1 + 1 ∧ (L.getD (k - 1) (0, 0)).1 < 58
 lo : -1000000000000 * (k : Int) ≤ t
 hi : t ≤ 1000000000000 * (k : Int)
theorem good_zero (L : List (Int × Int)) : Good L 0 0 := ⟨rfl, by omega, by omega, by omega, by omega⟩
theorem Good.range {L : List (Int × Int)} {k : Nat} {t : Int} (g : Good L k t) (hk : k < L.length) (h : inR (L.getD k (0, 0)) = false) : wrong L = (3, (k : Int)) := by
 rw [g.left, drop_at hk]; simp only [wrongGo, h, if_pos]
theorem Good.zero {L : List (Int × Int)} {k : Nat} {t : Int} (g : Good L k t) (hk : k < L.length) (h : inR (L.getD k (0, 0)) = true) (h2 : (L.getD k (0, 0)).2 = 0) : wrong L = (2, (k : Int)) := by
 rw [g.left, drop_at hk]; simp only [wrongGo, h, h2, if_pos]; simp
theorem Good.order {L : List (Int × Int)} {k : Nat} {t : Int} (g : Good L k t) (hk : k < L.length) (h : inR (L.getD k (0, 0)) = true) (h2 : (L.getD k (0, 0)).2 ≠ 0) (h0 : 0 < k)
  (h3 : (L.getD k (0, 0)).1 ≤ (L.getD (k - 1) (0, 0)).1) : wrong L = (2, (k : Int)) := by
 have hp : prevOf L k = some (L.getD (k - 1) (0, 0)).1 := by unfold prevOf; rw [if_neg (by omega)]
 rw [g.left, drop_at hk, hp]; simp only [wrongGo, h, if_neg h2, if_pos h3]; simp
theorem Good.next {L : List (Int × Int)} {k : Nat} {t : Int} (g : Good L k t) (hk : k < L.length) (h : inR (L.getD k (0, 0)) = true) (h2 : (L.getD k (0, 0)).2 ≠ 0)
  (h3 : 0 < k → (L.getD (k - 1) (0, 0)).1 < (L.getD k (0, 0)).1) : Good L (k + 1) (t + (L.getD k (0, 0)).2) := by
 obtain ⟨r1, r2, r3, r4⟩ := inR_true.1 h
 have hl := g.last
 refine ⟨?_, ?_, fun _ => ?_, ?_, ?_⟩
 ·have hp : prevOf L (k + 1) = some (L.getD k (0, 0)).1 := by unfold prevOf; rw [if_neg (by omega)]; rfl
  rw [g.left, drop_at hk, hp]
  by_cases h0 : k = 0
  ·have hp : prevOf L k = none := by unfold prevOf; rw [if_pos h0]
   rw [hp]; simp only [wrongGo, h, if_neg h2]; simp
  ·have hp : prevOf L k = some (L.getD (k - 1) (0, 0)).1 := by unfold prevOf; rw [if_neg h0]
   have := h3 (by omega)
   rw [hp]; simp only [wrongGo, h, if_neg h2, if_neg (show ¬ (L.getD k (0, 0)).1 ≤ (L.getD (k - 1) (0, 0)).1 by omega)]; simp
 ·by_cases h0 : k = 0
  ·omega
  ·have := h3 (by omega); have := hl (by omega); omega
 ·by_cases h0 : k = 0
  ·subst h0; show ((0 + 1 : Nat) : Int) ≤ (L.getD 0 (0, 0)).1 + 1 ∧ (L.getD 0 (0, 0)).1 < 58; omega
  ·have := h3 (by omega); have := hl (by omega); show ((k + 1 : Nat) : Int) ≤ (L.getD k (0, 0)).1 + 1 ∧ (L.getD k (0, 0)).1 < 58; omega
 ·have := g.lo; omega
 ·have := g.hi; omega
theorem Good.fit {L : List (Int × Int)} {t : Int} {k : Nat} (g : Good L k t) (hk : L.length ≤ k) (h : t ≠ 0) : wrong L = (8, 0) := by
 rw [g.left, List.drop_eq_nil_of_le hk]; simp [wrongGo, h]
theorem Good.done {L : List (Int × Int)} {t : Int} {k : Nat} (g : Good L k t) (hk : L.length ≤ k) (h : t = 0) : wrong L = (0, 0) := by
 rw [g.left, List.drop_eq_nil_of_le hk]; simp [wrongGo, h]
def upd (f : Nat → Int) (i : Nat) (v : Int) : Nat → Int := fun j => if j = i then v else f j
def Ho (f : Nat → Int) (n : Nat) : List (Int × Int) := ((List.range n).filter fun k => f k != 0).map fun (k : Nat) => ((k : Int), f k)
theorem listE_hit (f : Nat → Int) (k : Nat) (h : f k ≠ 0) : Ho f (k + 1) = Ho f k ++ [((k : Int), f k)] := by
 simp [Ho, List.range_succ, List.filter_append, h]
theorem listE_miss (f : Nat → Int) (k : Nat) (h : f k = 0) : Ho f (k + 1) = Ho f k := by
 simp [Ho, List.range_succ, List.filter_append, h]
theorem listE_le (f : Nat → Int) (k : Nat) : (Ho f k).length ≤ k := by
 have := List.length_filter_le (fun k => f k != 0) (List.range k)
 simpa [Ho] using this
def entGo (t : Int) : List (Int × Int) → Int
 | [] => if t = 0 then 0 else 8
 | e :: r => if inR e = false then 3 else entGo (t + e.2) r
def wrongEs (E : List (Int × Int)) : Int := if 10 < E.length then 5 else entGo 0 E
structure GoodE (E : List (Int × Int)) (k : Nat) (t : Int) : Prop where
 left : entGo 0 E = entGo t (E.drop k)
 lo : -1000000000000 * (k : Int) ≤ t
 hi : t ≤ 1000000000000 * (k : Int)
theorem goodE_zero (E : List (Int × Int)) : GoodE E 0 0 := ⟨rfl, by omega, by omega⟩
theorem GoodE.range {L : List (Int × Int)} {k : Nat} {t : Int} (g : GoodE L k t) (hk : k < L.length) (h : inR (L.getD k (0, 0)) = false) : entGo 0 L = 3 := by
 rw [g.left, drop_at hk]; simp only [entGo, h, if_pos]
theorem GoodE.next {L : List (Int × Int)} {k : Nat} {t : Int} (g : GoodE L k t) (hk : k < L.length) (h : inR (L.getD k (0, 0)) = true) : GoodE L (k + 1) (t + (L.getD k (0, 0)).2) := by
 obtain ⟨r1, r2, r3, r4⟩ := inR_true.1 h
 refine ⟨?_, ?_, ?_⟩
 ·rw [g.left, drop_at hk]; simp only [entGo, h]; simp
 ·have := g.lo; omega
 ·have := g.hi; omega
theorem GoodE.fit {L : List (Int × Int)} {t : Int} {k : Nat} (g : GoodE L k t) (hk : L.length ≤ k) (h : t ≠ 0) : entGo 0 L = 8 := by
 rw [g.left, List.drop_eq_nil_of_le hk]; simp [entGo, h]
theorem GoodE.done {L : List (Int × Int)} {t : Int} {k : Nat} (g : GoodE L k t) (hk : L.length ≤ k) (h : t = 0) : entGo 0 L = 0 := by
 rw [g.left, List.drop_eq_nil_of_le hk]; simp [entGo, h]
theorem wrongEs_many {E : List (Int × Int)} (h : 10 < E.length) : wrongEs E = 5 := by unfold wrongEs; rw [if_pos h]
theorem wrongEs_few {E : List (Int × Int)} (h : E.length ≤ 10) : wrongEs E = entGo 0 E := by unfold wrongEs; rw [if_neg (by omega)]
theorem entGo_ok {t : Int} {E : List (Int × Int)} : entGo t E = 0 ↔ (∀ e ∈ E, inR e = true) ∧ t + (E.map (·.2)).sum = 0 := by
 induction E generalizing t with
 | nil => simp [entGo]
 | cons e r ih =>
  cases h : inR e with
  | false => simp [entGo, h]
  | true =>
   have h1 : entGo t (e :: r) = entGo (t + e.2) r := by simp [entGo, h]
   rw [h1, ih]
   simp [h, Int.add_assoc]
theorem wrongEs_ok {E : List (Int × Int)} : wrongEs E = 0 ↔ E.length ≤ 10 ∧ (∀ e ∈ E, inR e = true) ∧ (E.map (·.2)).sum = 0 := by
 by_cases h : 10 < E.length
 ·simp [wrongEs_many h]; omega
 ·rw [wrongEs_few (by omega), entGo_ok]; simp; omega
structure Right (L : List (Int × Int)) : Prop where
 all : ∀ e ∈ L, inR e = true ∧ e.2 ≠ 0
 rise : L.Pairwise fun a b => a.1 < b.1
 fit : (L.map (·.2)).sum = 0
theorem wrongGo_ok {p : Option Int} {i : Nat} {t : Int} {L : List (Int × Int)} :
  (wrongGo p i t L).1 = 0 ↔ (∀ e ∈ L, inR e = true ∧ e.2 ≠ 0) ∧ (L.Pairwise fun a b => a.1 < b.1) ∧ (∀ q, p = some q → ∀ e ∈ L, q < e.1) ∧ t + (L.map (·.2)).sum = 0 := by
 induction L generalizing p i t with
 | nil => by_cases h : t = 0 <;> simp [wrongGo, h]
 | cons e r ih =>
  cases h : inR e with
  | false => simp [wrongGo, h]
  | true =>
   by_cases h2 : e.2 = 0
   ·simp [wrongGo, h, h2]
   ·have tail : (wrongGo (some e.1) (i + 1) (t + e.2) r).1 = 0 ↔ (∀ x ∈ e :: r, inR x = true ∧ x.2 ≠ 0) ∧ ((e :: r).Pairwise fun a b => a.1 < b.1) ∧ t + ((e :: r).map (·.2)).sum = 0 := by
     rw [ih, List.pairwise_cons, List.map_cons, List.sum_cons]
     constructor
     ·rintro ⟨a1, a2, a3, a4⟩
      refine ⟨fun x hx => ?_, ⟨fun x hx => a3 e.1 rfl x hx, a2⟩, by omega⟩
      rcases List.mem_cons.1 hx with hx | hx
      ·rw [hx]; exact ⟨h, h2⟩
      ·exact a1 x hx
     ·rintro ⟨a1, ⟨a2, a3⟩, a4⟩
      exact ⟨fun x hx => a1 x (List.mem_cons_of_mem _ hx), a3, fun q hq x hx => by cases hq; exact a2 x hx, by omega⟩
    cases p with
    | none =>
     simp only [wrongGo, h, if_neg h2]
     simp only [Bool.true_eq_false, if_false]
     rw [tail]
     constructor
     ·rintro ⟨a1, a2, a3⟩; exact ⟨a1, a2, fun q hq => (by cases hq), a3⟩
     ·rintro ⟨a1, a2, _, a3⟩; exact ⟨a1, a2, a3⟩
    | some q =>
     by_cases h3 : e.1 ≤ q
     ·simp only [wrongGo, h, if_neg h2, if_pos h3]
      constructor
      ·intro hc; simp at hc
      ·rintro ⟨_, _, a3, _⟩
       have := a3 q rfl e (by simp)
       omega
     ·simp only [wrongGo, h, if_neg h2, if_neg h3]
      simp only [Bool.true_eq_false, if_false]
      rw [tail]
      constructor
      ·rintro ⟨a1, a2, a3⟩
       refine ⟨a1, a2, fun y hy x hx => ?_, a3⟩
       cases hy
       rcases List.mem_cons.1 hx with hx | hx
       ·rw [hx]; omega
       ·rw [List.pairwise_cons] at a2
        have := a2.1 x hx
        omega
      ·rintro ⟨a1, a2, _, a3⟩; exact ⟨a1, a2, a3⟩
theorem wrong_ok {L : List (Int × Int)} : (wrong L).1 = 0 ↔ Right L := by
 unfold wrong
 rw [wrongGo_ok]
 constructor
 ·rintro ⟨h1, h2, -, h4⟩; exact ⟨h1, h2, by simpa using h4⟩
 ·rintro ⟨h1, h2, h4⟩; exact ⟨h1, h2, by simp, by simpa using h4⟩
theorem rise_le {L : List (Int × Int)} {c : Int} (hc : c ≤ 58) (h1 : ∀ e ∈ L, c ≤ e.1 ∧ e.1 < 58) (h2 : L.Pairwise fun a b => a.1 < b.1) : (L.length : Int) + c ≤ 58 := by
 induction L generalizing c with
 | nil => simpa using hc
 | cons e r ih =>
  rw [List.pairwise_cons] at h2
  have he := h1 e (by simp)
  have := ih (c := c + 1) (by omega) (fun x hx => ⟨by have := h2.1 x hx; omega, (h1 x (by simp [hx])).2⟩) h2.2
  simp; omega
theorem Right.few {L : List (Int × Int)} (h : Right L) : L.length ≤ 58 := by
 have := rise_le (c := 0) (by omega) (fun e he => by have := inR_true.1 (h.all e he).1; omega) h.rise
 omega
def zeroF : Nat → Int := fun _ => 0
def addL (f : Nat → Int) : List (Int × Int) → (Nat → Int)
 | [] => f
 | e :: r => addL (upd f e.1.toNat (f e.1.toNat + e.2)) r
def addAll (f : Nat → Int) : List (Int × Int) → Option (Nat → Int)
 | [] => some f
 | e :: r => if inTot (f e.1.toNat + e.2) then addAll (upd f e.1.toNat (f e.1.toNat + e.2)) r else none
def post (l E : List (Int × Int)) : List (Int × Int) × Int :=
 if (wrong l).1 ≠ 0 then ([], (wrong l).1) else if wrongEs E ≠ 0 then ([], wrongEs E) else
  match addAll (addL zeroF l) E with
  | none => ([], 4)
  | some f => (Ho f 58, 0)
theorem post_wrong {l E : List (Int × Int)} (h : (wrong l).1 ≠ 0) : post l E = ([], (wrong l).1) := by unfold post; rw [if_pos h]
theorem post_entries {l E : List (Int × Int)} (h : (wrong l).1 = 0) (h2 : wrongEs E ≠ 0) : post l E = ([], wrongEs E) := by unfold post; rw [if_neg (by simp [h]), if_pos h2]
theorem post_much {l E : List (Int × Int)} (h : (wrong l).1 = 0) (h2 : wrongEs E = 0) (h3 : addAll (addL zeroF l) E = none) : post l E = ([], 4) := by
 unfold post; rw [if_neg (by simp [h]), if_neg (by simp [h2]), h3]
theorem post_done {l E : List (Int × Int)} {f : Nat → Int} (h : (wrong l).1 = 0) (h2 : wrongEs E = 0) (h3 : addAll (addL zeroF l) E = some f) : post l E = (Ho f 58, 0) := by
 unfold post; rw [if_neg (by simp [h]), if_neg (by simp [h2]), h3]
structure AddL (l : List (Int × Int)) (k : Nat) (g : Nat → Int) : Prop where
 left : addL zeroF l = addL g (l.drop k)
 small : ∀ i, -1000000000000 * (k : Int) ≤ g i ∧ g i ≤ 1000000000000 * (k : Int)
theorem upd_small {f : Nat → Int} {i : Nat} {v c d : Int} (h : ∀ i, -c ≤ f i ∧ f i ≤ c) (hv : -d ≤ v ∧ v ≤ d) (hd : 0 ≤ d) : ∀ j, -(c + d) ≤ upd f i (f i + v) j ∧ upd f i (f i + v) j ≤ c + d := by
 intro j
 unfold upd
 have := h i
 have := h j
 split <;> omega
theorem addL_zero (l : List (Int × Int)) : AddL l 0 zeroF := ⟨rfl, fun i => by simp [zeroF]⟩
theorem AddL.next {l : List (Int × Int)} {k : Nat} {g : Nat → Int} (h : AddL l k g) (hk : k < l.length) (hr : inR (l.getD k (0, 0)) = true) :
  AddL l (k + 1) (upd g (l.getD k (0, 0)).1.toNat (g (l.getD k (0, 0)).1.toNat + (l.getD k (0, 0)).2)) := by
 obtain ⟨r1, r2, r3, r4⟩ := inR_true.1 hr
 refine ⟨by rw [h.left, drop_at hk]; rfl, fun i => ?_⟩
 have := upd_small (f := g) (i := (l.getD k (0, 0)).1.toNat) (v := (l.getD k (0, 0)).2) (c := 1000000000000 * (k : Int)) (d := 1000000000000) (fun i => by have := h.small i; omega) (by omega) (by omega) i
 omega
theorem AddL.done {l : List (Int × Int)} {k : Nat} {g : Nat → Int} (h : AddL l k g) (hk : l.length ≤ k) : addL zeroF l = g := by
 rw [h.left, List.drop_eq_nil_of_le hk]; rfl
structure AddAll (f : Nat → Int) (E : List (Int × Int)) (k : Nat) (g : Nat → Int) : Prop where
 left : addAll f E = addAll g (E.drop k)
 small : ∀ i, -1000000000000 * (58 + (k : Int)) ≤ g i ∧ g i ≤ 1000000000000 * (58 + (k : Int))
theorem addAll_zero {f : Nat → Int} (E : List (Int × Int)) (h : ∀ i, -58000000000000 ≤ f i ∧ f i ≤ 58000000000000) : AddAll f E 0 f := ⟨rfl, fun i => by have := h i; omega⟩
theorem AddAll.next {f : Nat → Int} {E : List (Int × Int)} {k : Nat} {g : Nat → Int} (h : AddAll f E k g) (hk : k < E.length) (hr : inR (E.getD k (0, 0)) = true)
  (ht : inTot (g (E.getD k (0, 0)).1.toNat + (E.getD k (0, 0)).2) = true) :
  AddAll f E (k + 1) (upd g (E.getD k (0, 0)).1.toNat (g (E.getD k (0, 0)).1.toNat + (E.getD k (0, 0)).2)) := by
 obtain ⟨r1, r2, r3, r4⟩ := inR_true.1 hr
 refine ⟨by rw [h.left, drop_at hk]; simp only [addAll, ht, if_pos], fun i => ?_⟩
 have := upd_small (f := g) (i := (E.getD k (0, 0)).1.toNat) (v := (E.getD k (0, 0)).2) (c := 1000000000000 * (58 + (k : Int))) (d := 1000000000000) (fun i => by have := h.small i; omega) (by omega) (by omega) i
 omega
theorem AddAll.much {f : Nat → Int} {E : List (Int × Int)} {k : Nat} {g : Nat → Int} (h : AddAll f E k g) (hk : k < E.length)
  (ht : inTot (g (E.getD k (0, 0)).1.toNat + (E.getD k (0, 0)).2) = false) : addAll f E = none := by
 rw [h.left, drop_at hk]; simp only [addAll, ht]; simp
theorem AddAll.done {f : Nat → Int} {E : List (Int × Int)} {k : Nat} {g : Nat → Int} (h : AddAll f E k g) (hk : E.length ≤ k) : addAll f E = some g := by
 rw [h.left, List.drop_eq_nil_of_le hk]; rfl
theorem getD_mem {L : List (Int × Int)} {k : Nat} (hk : k < L.length) : L.getD k (0, 0) ∈ L := by
 simp [List.getD, hk]
