import Derived.Test.YtofcnebekmjdoaaGreatDoorKae
import Derived.Test.YtofcnebekmjdoaaGreatDoorKai
set_option maxHeartbeats 4000000
set_option maxRecDepth 100000
namespace Go.Proofs.YtofcnebekmjdoaaGreatDoor.Gn
open Go.ChangeShapes Go.WideShapes Go.ChangeAt Go.RowKit
theorem at_some {α : Type} {xs : List α} {n i : Nat} (h : xs.length = n) (hi : i < n) : ∃ y, xs[i]? = some y := ⟨xs[i], List.getElem?_eq_getElem (by omega)⟩
theorem field_int {H : Type} {enc : TypeId × Value → H} {W : World} {base : Nat} {spare : Nat → Bool} {held : Bool} {n i : Nat} {v : Value} {xs : List (DataW H × List MemPlace)} {m : Nat}
  (h : DataW.trod enc Tryz.prog W base spare held n 3 [v] = xs[i]?) (hl : xs.length = m) (hi : i < m) : ∃ k : Int, v = .int .i64 k ∧ -9223372036854775808 ≤ k ∧ k ≤ 9223372036854775807 := by
 obtain ⟨y, hy⟩ := at_some hl hi
 obtain ⟨k, e, _, hw⟩ := DataW.trod_int Tryz.underlying3 (h.trans hy)
 exact ⟨k, by simpa using e, wf_i64 hw⟩
theorem open_list {α : Type} (dflt : α) {H : Type} {enc : TypeId × Value → H} {W : World} {base : Nat} {spare : Nat → Bool} {held : Bool} (K : Kind α) (good : α → Prop) {t e : TypeId} (ht : Tryz.prog.underlying t = some (.slice e)) (hc : Tryz.prog.cellsOf e = K.size)
  (hel : ∀ n cs x, DataW.trod enc Tryz.prog W base spare held n e cs = some x → ∃ y : α, cs = K.cells y ∧ good y)
  {fuel : Nat} {a : Option Addr} {len cap : Nat} {x : DataW H × List MemPlace} (h : DataW.trod enc Tryz.prog W base spare held fuel t [.slice a len cap] = some x) :
  ∃ L : List α, len = L.length ∧ Lies K W a cap L ∧ (∀ y ∈ L, good y) ∧ (L.length = 0 ∨ ∃ es sp, x.1 = .slice es sp ∧ es.length = L.length) := by
 rcases Go.Deep.open_slice ht h with ⟨hcs, -⟩ | ⟨ad, l, c, m, n, D, Pl, hcs, -, hl, hm, hmm, hx, hD⟩
 ·simp at hcs
  obtain ⟨rfl, rfl, rfl⟩ := hcs
  exact ⟨[], rfl, lies_nil K W, (fun _ h => by cases h), Or.inl rfl⟩
 ·simp at hcs
  obtain ⟨rfl, rfl, rfl⟩ := hcs
  have hlm : len ≤ m := by rw [hmm]; split <;> omega
  have each : ∀ i, i < len → ∃ y : α, good y ∧ ∀ j u, (K.cells y)[j]? = some u → W.cell? (ad.add (i * K.size + j)) = some u := fun i hi => by
   obtain ⟨cs, h1, h2⟩ := hD i (by omega)
   obtain ⟨y, rfl, hg⟩ := hel _ _ _ h2
   obtain ⟨_, hlen, hcell⟩ := World.cells?_some h1
   refine ⟨y, hg, fun j u hj => ?_⟩
   have hj' : j < K.size := by have := (List.getElem?_eq_some_iff.1 hj).1; rwa [K.len] at this
   have := hcell j (by omega)
   rw [Go.Deep.add_add, hc] at this
   rw [this]; exact hj
  obtain ⟨F, hF⟩ := @Go.Deep.choose_lt α ⟨dflt⟩ _ _ each
  have hlen : ((List.range len).map F).length = len := by simp
  refine ⟨(List.range len).map F, hlen.symm, ⟨by rw [hlen]; omega, (fun h => by cases h), ?_⟩, ?_, Or.inr ⟨_, _, by rw [hx], by simp⟩⟩
  ·by_cases h0 : len = 0
   ·subst h0; exact Or.inl rfl
   right
   have hne : ∃ u, (K.cells (F 0))[0]? = some u := at_some (K.len (F 0)) K.pos
   obtain ⟨u0, hu0⟩ := hne
   have hF0 := (hF 0 (by omega)).2 0 u0 hu0
   obtain ⟨b, off, spot⟩ := ad
   have hs : spot = none := by simpa [Addr.add] using World.cell?_spot hF0
   subst hs
   refine ⟨b, off, rfl, ?_, fun j u hj => ?_⟩
   ·rw [addr_add] at hF0; exact World.block_lt_of_cell? W _ hF0
   ·have hjl : j < len * K.size := by
     have := (List.getElem?_eq_some_iff.1 hj).1
     rw [K.flat_length, hlen] at this; exact this
    have hi : j / K.size < len := Nat.div_lt_of_lt_mul (by rw [Nat.mul_comm]; exact hjl)
    have hdm := Nat.div_add_mod j K.size
    have hat : ((List.range len).map F)[j / K.size]? = some (F (j / K.size)) := by simp [hi]
    have hmod : j % K.size < K.size := Nat.mod_lt _ K.pos
    obtain ⟨v, hv⟩ := at_some (K.len (F (j / K.size))) hmod
    have hj2 := K.flat_at hat hv
    have he : j / K.size * K.size + j % K.size = j := by rw [Nat.mul_comm]; exact hdm
    rw [he, hj] at hj2
    cases hj2
    have := (hF _ hi).2 _ _ hv
    rw [he, addr_add] at this
    exact this
  ·intro y hy
   obtain ⟨i, hi, rfl⟩ := List.mem_map.1 hy
   exact (hF i (List.mem_range.1 hi)).1
end Go.Proofs.YtofcnebekmjdoaaGreatDoor.Gn
namespace Go.Proofs.YtofcnebekmjdoaaGreatDoor.Bk
structure Gave (acc : Int) (E : List (Int × Int)) (k : Nat) (s : Int) : Prop where
 left : given acc E = s + given acc (E.drop k)
 lo : -1000000000000 * (k : Int) ≤ s
 hi : s ≤ 1000000000000 * (k : Int)
theorem Gave.done {acc : Int} {E : List (Int × Int)} {k : Nat} {s : Int} (h : Gave acc E k s) (hk : E.length ≤ k) : given acc E = s := by
 rw [h.left, List.drop_eq_nil_of_le hk]; simp [given]
end Go.Proofs.YtofcnebekmjdoaaGreatDoor.Bk
namespace Go.Proofs.YtofcnebekmjdoaaGreatDoor.Au
theorem Au.same {a b : Au} (h1 : a.card = b.card) (h2 : a.shop = b.shop) (h3 : a.sum = b.sum) (h4 : a.cap = b.cap) (h5 : a.ref = b.ref) (h6 : a.dis = b.dis) (h7 : a.till = b.till) (h8 : a.shut = b.shut) : a = b := by
 cases a; cases b; simp only at h1 h2 h3 h4 h5 h6 h7 h8; subst h1 h2 h3 h4 h5 h6 h7 h8; rfl
end Go.Proofs.YtofcnebekmjdoaaGreatDoor.Au
namespace Go.Proofs.YtofcnebekmjdoaaGreatDoor.Dy
def sgn (k : Int) : Int := if k = 2 ∨ k = 3 then 1 else if k = 5 ∨ k = 7 then -1 else 0
def netF (shop : Int) (r : Rc) : Int := if r.sh = shop then r.m * sgn r.k else 0
def net (shop : Int) (l : List Rc) : Int := sumBy (netF shop) l
end Go.Proofs.YtofcnebekmjdoaaGreatDoor.Dy
namespace Go.Proofs.YtofcnebekmjdoaaGreatDoor.Bk
open Go.RowKit
theorem AnswersN.plain {w w' : World} {r : List (Int × Int) × Int} {e : Ending} (h : AnswersN w r e w') : Answers w r e w' := by
 obtain ⟨a, cap, h1, h2, -, -, h3⟩ := h
 exact ⟨a, cap, h1, h2, h3⟩
end Go.Proofs.YtofcnebekmjdoaaGreatDoor.Bk
namespace Go.Proofs.YtofcnebekmjdoaaGreatDoor.St
open Go.RowKit Go.Proofs.YtofcnebekmjdoaaGreatDoor.Gn
variable {w W W' : World} {n : Int} {v1 v2 : Value} {t : Ad}
theorem Gi.one (h : Gi w n v1 v2 t W) (u : Value) : Gi w n u v2 t (W.setCell ⟨w.heap.size, 1, none⟩ u) := by
 refine ⟨h.bel.setCell (by simp) _, ?_, (heap_setCell_other _ _ _ _ (by simp)).trans h.tb, (heap_setCell_other _ _ _ _ (by simp)).trans h.res⟩
 have := heap_setCell_same W w.heap.size 1 _ _ u h.box
 simpa [dob] using this
end Go.Proofs.YtofcnebekmjdoaaGreatDoor.St
