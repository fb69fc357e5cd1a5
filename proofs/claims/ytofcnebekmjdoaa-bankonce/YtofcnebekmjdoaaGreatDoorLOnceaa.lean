import Derived.Test.YtofcnebekmjdoaaGreatDoorKae
import Derived.Test.YtofcnebekmjdoaaGreatDoorKai
import Derived.Test.YtofcnebekmjdoaaGreatDoorKaj
set_option maxHeartbeats 4000000
set_option maxRecDepth 100000
namespace Go.Proofs.YtofcnebekmjdoaaGreatDoor.Gn
open Go.ChangeShapes Go.WideShapes Go.ChangeAt Go.RowKit
theorem at_some {α : Type} {xs : List α} {n i : Nat} (h : xs.length = n) (hi : i < n) : ∃ y, xs[i]? = some y := ⟨xs[i], List.getElem?_eq_getElem (by omega)⟩
theorem field_int {H : Type} {enc : TypeId × Value → H} {W : World} {base : Nat} {spare : Nat → Bool} {held : Bool} {n i : Nat} {v : Value} {xs : List (DataW H × List MemPlace)} {m : Nat}
  (h : DataW.trod enc Tryz.prog W base spare held n 3 [v] = xs[i]?) (hl : xs.length = m) (hi : i < m) : ∃ k : Int, v = .int .i64 k ∧ -9223372036854775808 ≤ k ∧ k ≤ 9223372036854775807 := by
 obtain ⟨y, hy⟩ := at_some hl hi
 obtain ⟨k, e, _, hw⟩ := DataW.trod_int Tryz.underlying3 (h.trans hy)
 exact ⟨k, by simpa using e, wf_i64 hw⟩
theorem open_list {α : Type} (dflt : α) {H : Type} {enc : TypeId × Value → H} {W : World} {base : Nat} {spare : Nat → Bool} {held : Bool} (K : Kind α) (good : α → Prop) {t e : TypeId} (ht : Tryz.prog.underlying t = some (.slice e)) (hc : Tryz.prog.cellsOf e = K.size)
  (hel : ∀ n cs x, DataW.trod enc Tryz.prog W base spare held n e cs = some x → ∃ y : α, cs = K.cells y ∧ good y)
  {fuel : Nat} {a : Option Addr} {len cap : Nat} {x : DataW H × List MemPlace} (h : DataW.trod enc Tryz.prog W base spare held fuel t [.slice a len cap] = some x) :
  ∃ L : List α, len = L.length ∧ Lies K W a cap L ∧ (∀ y ∈ L, good y) ∧ (L.length = 0 ∨ ∃ es sp, x.1 = .slice es sp ∧ es.length = L.length) := by
 rcases Go.Deep.open_slice ht h with ⟨hcs, -⟩ | ⟨ad, l, c, m, n, D, Pl, hcs, -, hl, hm, hmm, hx, hD⟩
 ·simp at hcs
  obtain ⟨rfl, rfl, rfl⟩ := hcs
  exact ⟨[], rfl, lies_nil K W, (fun _ h => by cases h), Or.inl rfl⟩
 ·simp at hcs
  obtain ⟨rfl, rfl, rfl⟩ := hcs
  have hlm : len ≤ m := by rw [hmm]; split <;> omega
  have each : ∀ i, i < len → ∃ y : α, good y ∧ ∀ j u, (K.cells y)[j]? = some u → W.cell? (ad.add (i * K.size + j)) = some u := fun i hi => by
   obtain ⟨cs, h1, h2⟩ := hD i (by omega)
   obtain ⟨y, rfl, hg⟩ := hel _ _ _ h2
   obtain ⟨_, hlen, hcell⟩ := World.cells?_some h1
   refine ⟨y, hg, fun j u hj => ?_⟩
   have hj' : j < K.size := by have := (List.getElem?_eq_some_iff.1 hj).1; rwa [K.len] at this
   have := hcell j (by omega)
   rw [Go.Deep.add_add, hc] at this
   rw [this]; exact hj
  obtain ⟨F, hF⟩ := @Go.Deep.choose_lt α ⟨dflt⟩ _ _ each
  have hlen : ((List.range len).map F).length = len := by simp
  refine ⟨(List.range len).map F, hlen.symm, ⟨by rw [hlen]; omega, (fun h => by cases h), ?_⟩, ?_, Or.inr ⟨_, _, by rw [hx], by simp⟩⟩
  ·by_cases h0 : len = 0
   ·subst h0; exact Or.inl rfl
   right
   have hne : ∃ u, (K.cells (F 0))[0]? = some u := at_some (K.len (F 0)) K.pos
   obtain ⟨u0, hu0⟩ := hne
   have hF0 := (hF 0 (by omega)).2 0 u0 hu0
   obtain ⟨b, off, spot⟩ := ad
   have hs : spot = none := by simpa [Addr.add] using World.cell?_spot hF0
   subst hs
   refine ⟨b, off, rfl, ?_, fun j u hj => ?_⟩
   ·rw [addr_add] at hF0; exact World.block_lt_of_cell? W _ hF0
   ·have hjl : j < len * K.size := by
     have := (List.getElem?_eq_some_iff.1 hj).1
     rw [K.flat_length, hlen] at this; exact this
    have hi : j / K.size < len := Nat.div_lt_of_lt_mul (by rw [Nat.mul_comm]; exact hjl)
    have hdm := Nat.div_add_mod j K.size
    have hat : ((List.range len).map F)[j / K.size]? = some (F (j / K.size)) := by simp [hi]
    have hmod : j % K.size < K.size := Nat.mod_lt _ K.pos
    obtain ⟨v, hv⟩ := at_some (K.len (F (j / K.size))) hmod
    have hj2 := K.flat_at hat hv
    have he : j / K.size * K.size + j % K.size = j := by rw [Nat.mul_comm]; exact hdm
    rw [he, hj] at hj2
    cases hj2
    have := (hF _ hi).2 _ _ hv
    rw [he, addr_add] at this
    exact this
  ·intro y hy
   obtain ⟨i, hi, rfl⟩ := List.mem_map.1 hy
   exact (hF i (List.mem_range.1 hi)).1
end Go.Proofs.YtofcnebekmjdoaaGreatDoor.Gn
namespace Go.Proofs.YtofcnebekmjdoaaGreatDoor.Bk
structure Gave (acc : Int) (E : List (Int × Int)) (k : Nat) (s : Int) : Prop where
 left : given acc E = s + given acc (E.drop k)
 lo : -1000000000000 * (k : Int) ≤ s
 hi : s ≤ 1000000000000 * (k : Int)
theorem Gave.done {acc : Int} {E : List (Int × Int)} {k : Nat} {s : Int} (h : Gave acc E k s) (hk : E.length ≤ k) : given acc E = s := by
 rw [h.left, List.drop_eq_nil_of_le hk]; simp [given]
end Go.Proofs.YtofcnebekmjdoaaGreatDoor.Bk
namespace Go.Proofs.YtofcnebekmjdoaaGreatDoor.Dy
def sgn (k : Int) : Int := if k = 2 ∨ k = 3 then 1 else if k = 5 ∨ k = 7 then -1 else 0
def netF (shop : Int) (r : Rc) : Int := if r.sh = shop then r.m * sgn r.k else 0
def net (shop : Int) (l : List Rc) : Int := sumBy (netF shop) l
end Go.Proofs.YtofcnebekmjdoaaGreatDoor.Dy
namespace Go.Proofs.YtofcnebekmjdoaaGreatDoor.Bk
open Go.RowKit
theorem AnswersN.plain {w w' : World} {r : List (Int × Int) × Int} {e : Ending} (h : AnswersN w r e w') : Answers w r e w' := by
 obtain ⟨a, cap, h1, h2, -, -, h3⟩ := h
 exact ⟨a, cap, h1, h2, h3⟩
end Go.Proofs.YtofcnebekmjdoaaGreatDoor.Bk
namespace Go.Proofs.YtofcnebekmjdoaaGreatDoor.St
open Go.RowKit Go.Proofs.YtofcnebekmjdoaaGreatDoor.Gn
variable {w W W' : World} {n : Int} {v1 v2 : Value} {t : Ad}
theorem Gi.one (h : Gi w n v1 v2 t W) (u : Value) : Gi w n u v2 t (W.setCell ⟨w.heap.size, 1, none⟩ u) := by
 refine ⟨h.bel.setCell (by simp) _, ?_, (heap_setCell_other _ _ _ _ (by simp)).trans h.tb, (heap_setCell_other _ _ _ _ (by simp)).trans h.res⟩
 have := heap_setCell_same W w.heap.size 1 _ _ u h.box
 simpa [dob] using this
end Go.Proofs.YtofcnebekmjdoaaGreatDoor.St
namespace Go.Proofs.YtofcnebekmjdoaaGreatDoor.Gn
open Go.RowKit
theorem kB_flat (L : List Int) : kB.flat L = L.map fun x => Value.int .u8 x := by
 induction L with
 | nil => rfl
 | cons x r ih => rw [kB.flat_cons, ih]; rfl
def strOf (L : List Int) : ByteArray := L.foldl (fun r n => r.push (UInt8.ofNat n.toNat)) ByteArray.empty
theorem run_string_of {P : Program} {w : World} {src dst e : TypeId} (hs : P.underlying src = some (.slice e)) (he : P.underlying e = some (.int .u8)) (hd : P.underlying dst = some .string)
  {a : Option Addr} {cap : Nat} {L : List Int} (h : Lies kB w a cap L) : (convert src dst (.slice a L.length cap)).run P w = .ok (.string (strOf L)) w := by
 rw [run_convert_bytes_string w src dst e a L.length cap hs he hd]
 cases a with
 | none =>
  have h0 := h.none_nil
  subst h0
  rfl
 | some ad =>
  have hl := run_loadCells_list (P := P) w ad (L.map (Value.int .u8)) (fun j v hj => h.cells j v (by rw [kB_flat]; exact hj))
  rw [List.length_map] at hl
  exact run_bytesToString w ad L.length cap L hl
end Go.Proofs.YtofcnebekmjdoaaGreatDoor.Gn
namespace Go.Proofs.YtofcnebekmjdoaaGreatDoor.St
open Go.RowKit Go.Proofs.YtofcnebekmjdoaaGreatDoor.Gn
theorem same_any (n : Int) (v1 v2 u1 u2 : Value) (U : List Int) (A : List Ad) (w : World) (h1 : At kI w v1 U) (h2 : At kA w v2 A) (h3 : At kI w u1 U) (h4 : At kA w u2 A) :
  Calls Tryz.prog 50 #[dv n v1 v2, dv n u1 u2] w fun e w' => e = .returned (.bool true) ∧ Below w.heap.size w w' := by
 have hm1 := h1.len
 have hm2 := h2.len
 unfold maxLen at hm1 hm2
 obtain ⟨a1, c1, rfl, hl1⟩ := h1
 obtain ⟨a2, c2, rfl, hl2⟩ := h2
 obtain ⟨a3, c3, rfl, hl3⟩ := h3
 obtain ⟨a4, c4, rfl, hl4⟩ := h4
 have P1 : ((w.alloc (dob n (.slice a1 U.length c1) (.slice a2 A.length c2))).alloc (dob n (.slice a3 U.length c3) (.slice a4 A.length c4))).heap[w.heap.size]? = some (dob n (.slice a1 U.length c1) (.slice a2 A.length c2)) := by rw [Below.heap_alloc _ _ _ (by simp), heap_alloc_at _ _ _ rfl]
 have P2 : ((w.alloc (dob n (.slice a1 U.length c1) (.slice a2 A.length c2))).alloc (dob n (.slice a3 U.length c3) (.slice a4 A.length c4))).heap[w.heap.size + 1]? = some (dob n (.slice a3 U.length c3) (.slice a4 A.length c4)) := heap_alloc_at _ _ _ (by simp)
 have hb0 : Below w.heap.size w ((w.alloc (dob n (.slice a1 U.length c1) (.slice a2 A.length c2))).alloc (dob n (.slice a3 U.length c3) (.slice a4 A.length c4))) := (below_alloc _ _).alloc (by simp) _
 have hz0 : w.heap.size + 1 < ((w.alloc (dob n (.slice a1 U.length c1) (.slice a2 A.length c2))).alloc (dob n (.slice a3 U.length c3) (.slice a4 A.length c4))).heap.size := by simp
 unfold dob at P1 P2 hb0 hz0
 unfold dv
 go_enter Tryz.func50, Tryz.ntmps50
 go_upto_region 1 with fail
 generalize (w.alloc (.cells #[.int .i64 n, .slice a1 U.length c1, .slice a2 A.length c2] 38)).alloc (.cells #[.int .i64 n, .slice a3 U.length c3, .slice a4 A.length c4] 38) = W0 at *
 obtain ⟨B0, B1, B2⟩ := dob_cells P1
 obtain ⟨D0, D1, D2⟩ := dob_cells P2
 go_wp2
 go_loopw [33] (fun i wr => ∃ k : Nat, k ≤ U.length ∧ i = .int .i64 k ∧ Below W0.heap.size W0 wr) (fun i _ => U.length - (intOf i).toNat)
 case atStart => exact ⟨0, Nat.zero_le _, rfl, Below.refl _ _⟩
 case round =>
  obtain ⟨k, hk, rfl, hb⟩ := hrel
  generalize wr = W at *
  have hbw : Below w.heap.size w W := hb0.trans (hb.mono hb0.size)
  obtain ⟨B0', B1', B2'⟩ := dob_cells ((hb.block _ (by omega)).trans P1)
  obtain ⟨D0', D1', D2'⟩ := dob_cells ((hb.block _ (by omega)).trans P2)
  clear B0 B1 B2 D0 D1 D2
  by_cases hlt : k < U.length
  ·have hlt' : (k : Int) < U.length := by omega
   obtain ⟨b, off, rfl, hbl, e1⟩ := int_cell (hl1.below hbw) hlt
   obtain ⟨b2, off2, rfl, hbl2, f1⟩ := int_cell (hl3.below hbw) hlt
   generalize U.getD k 0 = t at *
   go_wp2
   go_quiet (fail)
   go_wp2
   go_roundw
   case rel => exact ⟨k + 1, by omega, by go_num, below_drewN hb _⟩
   case measure => simp [intOf]; omega
  ·go_wp2
   go_loopw [51] (fun i wr => ∃ k : Nat, k ≤ A.length ∧ i = .int .i64 k ∧ Below W0.heap.size W0 wr) (fun i _ => A.length - (intOf i).toNat)
   case atStart => exact ⟨0, Nat.zero_le _, rfl, hb⟩
   case round =>
    clear B0' B1' B2' D0' D1' D2' hb hbw
    obtain ⟨k, hk, rfl, hb⟩ := hrel
    generalize wr = W at *
    have hbw : Below w.heap.size w W := hb0.trans (hb.mono hb0.size)
    obtain ⟨B0', B1', B2'⟩ := dob_cells ((hb.block _ (by omega)).trans P1)
    obtain ⟨D0', D1', D2'⟩ := dob_cells ((hb.block _ (by omega)).trans P2)
    by_cases hlt : k < A.length
    ·have hlt' : (k : Int) < A.length := by omega
     obtain ⟨b, off, rfl, hbl, e1, e2, e3, e4⟩ := ad_cells (hl2.below hbw) hlt
     obtain ⟨b2, off2, rfl, hbl2, f1, f2, f3, f4⟩ := ad_cells (hl4.below hbw) hlt
     generalize A.getD k zA = t at *
     go_wp2
     go_quiet (fail)
     go_wp2
     go_roundw
     case rel => exact ⟨k + 1, by omega, by go_num, below_drewN hb _⟩
     case measure => simp [intOf]; omega
    ·go_wp2
     go_ret
     exact ⟨rfl, hbw⟩
end Go.Proofs.YtofcnebekmjdoaaGreatDoor.St
namespace Go.Proofs.YtofcnebekmjdoaaGreatDoor.Dy
open Go.RowKit Go.Proofs.YtofcnebekmjdoaaGreatDoor.Gn
theorem same_any (L : List Rc) (v v2 : Value) (w : World) (h : At kR w v L) (h2 : At kR w v2 L) :
  Calls Tryz.prog 34 #[v, v2] w fun e w' => e = .returned (.bool true) ∧ Below w.heap.size w w' := by
 have hm := h.len
 unfold maxLen at hm
 obtain ⟨a, c, rfl, hl⟩ := h
 obtain ⟨a2, c2, rfl, hl2⟩ := h2
 go_enter Tryz.func34, Tryz.ntmps34
 go_wp2
 go_loopw [13] (fun i wr => ∃ k : Nat, k ≤ L.length ∧ i = .int .i64 k ∧ Below w.heap.size w wr) (fun i _ => L.length - (intOf i).toNat)
 case atStart => exact ⟨0, Nat.zero_le _, rfl, Below.refl _ _⟩
 case round =>
  obtain ⟨k, hk, rfl, hb⟩ := hrel
  generalize wr = W at *
  by_cases hlt : k < L.length
  ·have hlt' : (k : Int) < L.length := by omega
   obtain ⟨b, off, rfl, hbl, e1, e2, e3, e4⟩ := rc_cells (hl.below hb) hlt
   obtain ⟨b2, off2, rfl, hbl2, f1, f2, f3, f4⟩ := rc_cells (hl2.below hb) hlt
   generalize L.getD k zR = t at *
   go_wp2
   go_quiet (fail)
   go_wp2
   go_roundw
   case rel => exact ⟨k + 1, by omega, by go_num, below_drewN hb _⟩
   case measure => simp [intOf]; omega
  ·go_wp2
   go_ret
   exact ⟨rfl, hb⟩
end Go.Proofs.YtofcnebekmjdoaaGreatDoor.Dy
namespace Go.Proofs.YtofcnebekmjdoaaGreatDoor.Bk
open Go.RowKit
theorem sameB_any (a : Option Addr) (cap : Nat) (L : List (Int × Int)) (a2 : Option Addr) (cap2 : Nat) (w : World) (hl : Ents w a L) (hE : Ents w a2 L) :
  Calls Tryz.prog 51 #[.slice a L.length cap, .slice a2 L.length cap2] w fun e w' => e = .returned (.bool true) ∧ Below w.heap.size w w' := by
 obtain ⟨hm, hl⟩ := hl
 obtain ⟨-, hE⟩ := hE
 unfold maxLen at hm
 go_enter Tryz.func51, Tryz.ntmps51
 go_wp2
 go_loopw [13] (fun i wr => ∃ k : Nat, k ≤ L.length ∧ i = .int .i64 k ∧ Below w.heap.size w wr) (fun i _ => L.length - (intOf i).toNat)
 case atStart => exact ⟨0, Nat.zero_le _, rfl, Below.refl _ _⟩
 case round =>
  obtain ⟨k, hk, rfl, hb⟩ := hrel
  by_cases hlt : k < L.length
  ·rcases hl with rfl | ⟨b, off, rfl, hbl, hcell⟩
   ·simp at hlt
   rcases hE with rfl | ⟨b2, off2, rfl, hbl2, hcell2⟩
   ·simp at hlt
   obtain ⟨c1, c2⟩ := hcell k hlt
   obtain ⟨c3, c4⟩ := hcell2 k hlt
   have hlt' : (k : Int) < L.length := by omega
   have e1 := (hb.cell (p := ⟨b, off + k * 2, none⟩) hbl).trans c1
   have e2 := (hb.cell (p := ⟨b, off + k * 2 + 1, none⟩) hbl).trans c2
   have e3 := (hb.cell (p := ⟨b2, off2 + k * 2, none⟩) hbl2).trans c3
   have e4 := (hb.cell (p := ⟨b2, off2 + k * 2 + 1, none⟩) hbl2).trans c4
   clear c1 c2 c3 c4 hcell hcell2
   generalize (L.getD k (0, 0)).1 = x1 at *
   generalize (L.getD k (0, 0)).2 = x2 at *
   go_wp2
   go_quiet (fail)
   go_wp2
   go_roundw
   case rel => exact ⟨k + 1, by omega, by go_num, below_drewN hb _⟩
   case measure => simp [intOf]; omega
  ·go_wp2
   go_ret
   exact ⟨rfl, hb⟩
end Go.Proofs.YtofcnebekmjdoaaGreatDoor.Bk
namespace Go.Proofs.YtofcnebekmjdoaaGreatDoor.Po
open Go.RowKit Go.Proofs.YtofcnebekmjdoaaGreatDoor.Gn
theorem same_any (s : Se) (a : Option Addr) (cap : Nat) (a2 : Option Addr) (cap2 : Nat) (w : World) (hl : Lies kT w a cap s.kept) (hE : Lies kT w a2 cap2 s.kept) :
  Calls Tryz.prog 53 #[sv s a cap, sv s a2 cap2] w fun e w' => e = .returned (.bool true) ∧ Below w.heap.size w w' := by
 have hm := hl.len
 unfold maxLen at hm
 have P1 : ((w.alloc (so s a cap)).alloc (so s a2 cap2)).heap[w.heap.size]? = some (so s a cap) := by rw [Below.heap_alloc _ _ _ (by simp), heap_alloc_at _ _ _ rfl]
 have P2 : ((w.alloc (so s a cap)).alloc (so s a2 cap2)).heap[w.heap.size + 1]? = some (so s a2 cap2) := heap_alloc_at _ _ _ (by simp)
 have hb0 : Below w.heap.size w ((w.alloc (so s a cap)).alloc (so s a2 cap2)) := (below_alloc _ _).alloc (by simp) _
 have hz0 : w.heap.size + 1 < ((w.alloc (so s a cap)).alloc (so s a2 cap2)).heap.size := by simp
 unfold so at P1 P2 hb0 hz0
 unfold sv
 go_enter Tryz.func53, Tryz.ntmps53
 go_upto_region 1 with fail
 generalize (w.alloc (.cells #[.int .i64 s.sent, .slice a s.kept.length cap] 31)).alloc (.cells #[.int .i64 s.sent, .slice a2 s.kept.length cap2] 31) = W0 at *
 obtain ⟨B0, B1⟩ := so_cells P1
 obtain ⟨D0, D1⟩ := so_cells P2
 go_wp2
 go_loopw [23] (fun i wr => ∃ k : Nat, k ≤ s.kept.length ∧ i = .int .i64 k ∧ Below W0.heap.size W0 wr) (fun i _ => s.kept.length - (intOf i).toNat)
 case atStart => exact ⟨0, Nat.zero_le _, rfl, Below.refl _ _⟩
 case round =>
  obtain ⟨k, hk, rfl, hb⟩ := hrel
  generalize wr = W at *
  have hbw : Below w.heap.size w W := hb0.trans (hb.mono hb0.size)
  by_cases hlt : k < s.kept.length
  ·have hlt' : (k : Int) < s.kept.length := by omega
   obtain ⟨b, off, rfl, hbl, e1, e2, e3, e4⟩ := tr_cells (hl.below hbw) hlt
   obtain ⟨b2, off2, rfl, hbl2, f1, f2, f3, f4⟩ := tr_cells (hE.below hbw) hlt
   obtain ⟨B0', B1'⟩ := so_cells ((hb.block _ (by omega)).trans P1)
   obtain ⟨D0', D1'⟩ := so_cells ((hb.block _ (by omega)).trans P2)
   clear B0 B1 D0 D1
   generalize s.kept.getD k zeroT = t at *
   go_wp2
   go_quiet (fail)
   go_wp2
   go_roundw
   case rel => exact ⟨k + 1, by omega, by go_num, below_drewN hb _⟩
   case measure => simp [intOf]; omega
  ·go_wp2
   go_ret
   exact ⟨rfl, hbw⟩
end Go.Proofs.YtofcnebekmjdoaaGreatDoor.Po
