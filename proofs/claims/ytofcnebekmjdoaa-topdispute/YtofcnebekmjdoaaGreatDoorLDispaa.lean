import Derived.Test.YtofcnebekmjdoaaGreatDoorKad
import Derived.Test.YtofcnebekmjdoaaGreatDoorKai
set_option maxHeartbeats 4000000
set_option maxRecDepth 100000
namespace Go.Proofs.YtofcnebekmjdoaaGreatDoor.Bk
theorem getE_first {L : List (Int × Int)} {acc : Int} {k : Nat} (hk : k < L.length) (h : ∀ j, j < k → (L.getD j (0, 0)).1 ≠ acc) (h1 : (L.getD k (0, 0)).1 = acc) : getE L acc = (L.getD k (0, 0)).2 := by
 induction L generalizing k with
 | nil => simp at hk
 | cons e r ih =>
  cases k with
  | zero => simp at h1; simp [getE, h1]
  | succ k =>
   have h0 := h 0 (by omega)
   simp at h0
   simp only [getE, if_neg h0]
   have := ih (k := k) (by simpa using hk) (fun j hj => by have := h (j + 1) (by omega); simpa using this) (by simpa using h1)
   rw [this]; simp
end Go.Proofs.YtofcnebekmjdoaaGreatDoor.Bk
namespace Go.Proofs.YtofcnebekmjdoaaGreatDoor.Au
theorem Au.same {a b : Au} (h1 : a.card = b.card) (h2 : a.shop = b.shop) (h3 : a.sum = b.sum) (h4 : a.cap = b.cap) (h5 : a.ref = b.ref) (h6 : a.dis = b.dis) (h7 : a.till = b.till) (h8 : a.shut = b.shut) : a = b := by
 cases a; cases b; simp only at h1 h2 h3 h4 h5 h6 h7 h8; subst h1 h2 h3 h4 h5 h6 h7 h8; rfl
end Go.Proofs.YtofcnebekmjdoaaGreatDoor.Au
namespace Go.Proofs.YtofcnebekmjdoaaGreatDoor.Dy
def sgn (k : Int) : Int := if k = 2 ∨ k = 3 then 1 else if k = 5 ∨ k = 7 then -1 else 0
def netF (shop : Int) (r : Rc) : Int := if r.sh = shop then r.m * sgn r.k else 0
def net (shop : Int) (l : List Rc) : Int := sumBy (netF shop) l
end Go.Proofs.YtofcnebekmjdoaaGreatDoor.Dy
namespace Go.Proofs.YtofcnebekmjdoaaGreatDoor.Bk
open Go.RowKit
theorem getf_any (x1 x2 : Int) (c : Nat) (acc : Int) (w : World) (hc : w.cell? ⟨c, 0, none⟩ = some (.int .i64 acc)) (hcl : c < w.heap.size) :
  Calls Tryz.prog 57 #[.agg #[.int .i64 x1, .int .i64 x2], .pointer (some ⟨c, 0, none⟩)] w fun e w' => e = .returned (.bool (x1 == acc)) ∧ Below w.heap.size w w' := by
 have hc1 : ∀ o, (w.alloc o).cell? ⟨c, 0, none⟩ = some (.int .i64 acc) := fun o => by rw [World.cell?_alloc_past _ _ _ hcl]; exact hc
 go_enter Tryz.func57, Tryz.ntmps57
 go_wp2
 go_ret
 exact ⟨rfl, (Below.refl _ _).alloc (Nat.le_refl _) _⟩
theorem indexFunc_any (a : Option Addr) (cap : Nat) (L : List (Int × Int)) (c : Nat) (acc : Int) (w : World) (hL : Ents w a L) (hc : w.cell? ⟨c, 0, none⟩ = some (.int .i64 acc)) (hcl : c < w.heap.size) :
  Calls Tryz.prog 56 #[.slice a L.length cap, .func (.func 57) #[] #[.pointer (some ⟨c, 0, none⟩)]] w fun e w' =>
   ∃ r : Int, e = .returned (.int .i64 r) ∧ Below w.heap.size w w' ∧
    ((r = -1 ∧ ∀ j, j < L.length → (L.getD j (0, 0)).1 ≠ acc) ∨ (∃ k : Nat, r = k ∧ k < L.length ∧ (L.getD k (0, 0)).1 = acc ∧ ∀ j, j < k → (L.getD j (0, 0)).1 ≠ acc)) := by
 obtain ⟨hm, hL⟩ := hL
 unfold maxLen at hm
 go_enter Tryz.func56, Tryz.ntmps56
 go_wp2
 go_loopw [8] (fun i wr => ∃ k : Nat, k ≤ L.length ∧ i = .int .i64 k ∧ Below w.heap.size w wr ∧ Hid (∀ j, j < k → (L.getD j (0, 0)).1 ≠ acc)) (fun i _ => L.length - (intOf i).toNat)
 case atStart => exact ⟨0, Nat.zero_le _, rfl, Below.refl _ _, fun j hj => absurd hj (Nat.not_lt_zero _)⟩
 case round =>
  obtain ⟨k, hk, rfl, hb, hno⟩ := hrel
  by_cases hlt : k < L.length
  ·rcases hL with rfl | ⟨b, off, rfl, hbl, hcell⟩
   ·simp at hlt
   obtain ⟨c1, c2⟩ := hcell k hlt
   have hlt' : (k : Int) < L.length := by omega
   have e1 := (hb.cell (p := ⟨b, off + k * 2, none⟩) hbl).trans c1
   have e2 := (hb.cell (p := ⟨b, off + k * 2 + 1, none⟩) hbl).trans c2
   have e3 := (hb.cell (p := ⟨c, 0, none⟩) hcl).trans hc
   have hsz := hb.size
   clear c1 c2 hcell
   generalize hx1 : (L.getD k (0, 0)).1 = x1 at *
   generalize (L.getD k (0, 0)).2 = x2 at *
   have Hx1 : Hid ((L.getD k (0, 0)).1 = x1) := hx1
   clear hx1
   by_cases hq : x1 = acc
   ·have hq' : (x1 == acc) = true := by simpa using hq
    have Hq : Hid (x1 = acc) := hq
    clear hq
    go_wp2_with (go_at_call 57; refine (getf_any _ _ _ acc _ e3 (by omega)).mono ?_; rintro e w' ⟨rfl, hb1⟩)
    go_ret
    exact ⟨_, rfl, hb.trans (hb1.mono hsz), Or.inr ⟨k, rfl, hlt, Hx1.out.trans Hq.out, hno.out⟩⟩
   ·have hq' : (x1 == acc) = false := by simpa using hq
    have Hq : Hid (¬ x1 = acc) := hq
    clear hq
    go_wp2_with (go_at_call 57; refine (getf_any _ _ _ acc _ e3 (by omega)).mono ?_; rintro e w' ⟨rfl, hb1⟩)
    go_roundw
    case rel =>
     refine ⟨k + 1, by omega, by go_num, hb.trans (hb1.mono hsz), fun j hj => ?_⟩
     by_cases hjk : j = k
     ·subst hjk; rw [Hx1.out]; exact Hq.out
     ·exact hno.out j (by omega)
    case measure => simp [intOf]; omega
  ·go_wp2
   go_ret
   exact ⟨_, rfl, hb, Or.inl ⟨rfl, fun j hj => hno.out j (by omega)⟩⟩
theorem get_any (a : Option Addr) (cap : Nat) (L : List (Int × Int)) (acc : Int) (w : World) (hL : Ents w a L) :
  Calls Tryz.prog 25 #[.slice a L.length cap, .int .i64 acc] w fun e w' => e = .returned (.int .i64 (getE L acc)) ∧ Below w.heap.size w w' := by
 have hmf : ∀ (fn : Fn) (first cap : Array Value) (w : World), (Instr.makeFunc fn first cap).run Tryz.prog w = .ok (.func fn first cap) w := fun _ _ _ _ => rfl
 have b1 : Below w.heap.size w (w.alloc (.cells #[.int .i64 acc] 3)) := (Below.refl _ _).alloc (Nat.le_refl _) _
 have hL1 := hL.below b1
 have hc1 : (w.alloc (.cells #[.int .i64 acc] 3)).cell? ⟨w.heap.size, 0, none⟩ = some (.int .i64 acc) := by
  rw [World.cell?_alloc_at _ _ _ _ rfl]; rfl
 obtain ⟨hm, hL2⟩ := hL
 unfold maxLen at hm
 go_enter Tryz.func25, Tryz.ntmps25
 go_wp2_with fail
 refine (indexFunc_any a cap L w.heap.size acc _ hL1 hc1 (by simp)).mono ?_
 rintro e w1 ⟨r, rfl, hb, hr⟩
 have bb := b1.trans (hb.mono (by simp))
 rcases hr with ⟨rfl, hno⟩ | ⟨k, rfl, hlt, hq, hno⟩
 ·have HG : Hid (getE L acc = 0) := getE_none hno
  clear hno hL1 hL2
  go_wp2
  go_ret
  exact ⟨ret_int HG.out.symm, bb⟩
 ·have HG : Hid (getE L acc = (L.getD k (0, 0)).2) := getE_first hlt hno hq
  rcases hL2 with rfl | ⟨b, off, rfl, hbl, hcell⟩
  ·simp at hlt
  obtain ⟨c1, c2⟩ := hcell k hlt
  have hlt' : (k : Int) < L.length := by omega
  have e2 := (bb.cell (p := ⟨b, off + k * 2 + 1, none⟩) hbl).trans c2
  clear c1 c2 hcell hno hq hL1
  generalize (L.getD k (0, 0)).2 = x2 at *
  go_wp2
  go_ret
  exact ⟨ret_int HG.out.symm, bb⟩
end Go.Proofs.YtofcnebekmjdoaaGreatDoor.Bk
namespace Go.Proofs.YtofcnebekmjdoaaGreatDoor.St
open Go.RowKit Go.Proofs.YtofcnebekmjdoaaGreatDoor.Gn
variable {w W W' : World} {n : Int} {v1 v2 : Value} {t : Ad}
theorem Gi.one (h : Gi w n v1 v2 t W) (u : Value) : Gi w n u v2 t (W.setCell ⟨w.heap.size, 1, none⟩ u) := by
 refine ⟨h.bel.setCell (by simp) _, ?_, (heap_setCell_other _ _ _ _ (by simp)).trans h.tb, (heap_setCell_other _ _ _ _ (by simp)).trans h.res⟩
 have := heap_setCell_same W w.heap.size 1 _ _ u h.box
 simpa [dob] using this
end Go.Proofs.YtofcnebekmjdoaaGreatDoor.St
