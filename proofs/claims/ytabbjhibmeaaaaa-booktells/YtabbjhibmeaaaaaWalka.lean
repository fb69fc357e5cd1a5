/- The walks of the small functions of book: inTotal, inRange, Get, and the document's Get. -/
import Derived.Test.YtabbjhibmeaaaaaChecked
import Derived.Test.YtabbjhibmeaaaaaMath
import Derived.WalkKit
import Derived.WalkSpells
import Derived.WalkLawsBesides
namespace Go.Proofs.Ytabbjhibmeaaaaa
open Go.RowKit

/-- A slice of entries, as it lies in memory. -/
def Ents (w : World) (a : Option Addr) (L : List (Int × Int)) : Prop :=
  L.length ≤ maxLen ∧ (L = [] ∨ ∃ b off, a = some ⟨b, off, none⟩ ∧ b < w.heap.size ∧ ∀ i, i < L.length →
    w.cell? ⟨b, off + i * 2, none⟩ = some (.int .i64 (L.getD i (0, 0)).1) ∧ w.cell? ⟨b, off + i * 2 + 1, none⟩ = some (.int .i64 (L.getD i (0, 0)).2))

theorem Ents.below {w w' : World} {a : Option Addr} {L : List (Int × Int)} (h : Ents w a L) (hb : Below w.heap.size w w') : Ents w' a L := by
  obtain ⟨h1, h2⟩ := h
  refine ⟨h1, ?_⟩
  rcases h2 with h2 | ⟨b, off, ha, hlt, hc⟩
  · exact Or.inl h2
  · refine Or.inr ⟨b, off, ha, Nat.lt_of_lt_of_le hlt hb.size, fun i hi => ?_⟩
    obtain ⟨c1, c2⟩ := hc i hi
    exact ⟨(hb.cell (p := ⟨b, off + i * 2, none⟩) hlt).trans c1, (hb.cell (p := ⟨b, off + i * 2 + 1, none⟩) hlt).trans c2⟩

theorem ret_bool {a b : Bool} (h : a = b) : Ending.returned (.bool a) = .returned (.bool b) := by rw [h]
theorem ret_int {k : IntKind} {a b : Int} (h : a = b) : Ending.returned (.int k a) = .returned (.int k b) := by rw [h]
theorem hid {p : Prop} (h : p) : Hid p := h

set_option maxHeartbeats 400000 in
theorem inTotal_any (s : Int) (w : World) :
    Calls Try.prog 21 #[.int .i64 s] w fun e w' => e = .returned (.bool (inTot s)) ∧ w' = w := by
  unfold inTot
  by_cases h1 : -1000000000000 ≤ s <;> by_cases h2 : s ≤ 1000000000000
  all_goals
    go_enter Try.func21, Try.ntmps21
    go_wp2
    go_ret
    simp [h1, h2]

set_option maxHeartbeats 400000 in
theorem inRange_any (x : Int × Int) (w : World) :
    Calls Try.prog 16 #[.agg #[.int .i64 x.1, .int .i64 x.2]] w fun e w' => e = .returned (.bool (inR x)) ∧ Below w.heap.size w w' := by
  obtain ⟨a, s⟩ := x
  have key : ∀ p q r : Bool, decide (0 ≤ a) = p → decide (a < 58) = q → inTot s = r → inR (a, s) = (p && q && r) := by
    rintro p q r rfl rfl rfl; rfl
  generalize inR (a, s) = u at key ⊢
  have b0 : Below w.heap.size w (w.alloc (.cells #[.int .i64 a, .int .i64 s] 35)) := (Below.refl _ _).alloc (Nat.le_refl _) _
  by_cases h1 : 0 ≤ a
  · by_cases h2 : a < 58
    · have hu : Hid (u = inTot s) := hid (by have := key true true _ (by simpa using h1) (by simpa using h2) rfl; simpa using this)
      clear key
      go_enter Try.func16, Try.ntmps16
      go_wp2_with (go_at_call 21; refine (inTotal_any _ _).mono ?_; rintro e w' ⟨rfl, rfl⟩)
      go_ret
      exact ⟨ret_bool hu.out.symm, b0⟩
    · have hu : Hid (u = false) := hid (by have := key true false _ (by simpa using h1) (by simpa using h2) rfl; simpa using this)
      clear key
      go_enter Try.func16, Try.ntmps16
      go_wp2_with (go_at_call 21; refine (inTotal_any _ _).mono ?_; rintro e w' ⟨rfl, rfl⟩)
      go_ret
      exact ⟨ret_bool hu.out.symm, b0⟩
  · have hu : Hid (u = false) := hid (by have := key false _ _ (by simpa using h1) rfl rfl; simpa using this)
    clear key
    go_enter Try.func16, Try.ntmps16
    go_wp2_with (go_at_call 21; refine (inTotal_any _ _).mono ?_; rintro e w' ⟨rfl, rfl⟩)
    go_ret
    exact ⟨ret_bool hu.out.symm, b0⟩

set_option maxHeartbeats 400000 in
theorem getf_any (x1 x2 : Int) (c : Nat) (acc : Int) (w : World) (hc : w.cell? ⟨c, 0, none⟩ = some (.int .i64 acc)) (hcl : c < w.heap.size) :
    Calls Try.prog 18 #[.agg #[.int .i64 x1, .int .i64 x2], .pointer (some ⟨c, 0, none⟩)] w fun e w' => e = .returned (.bool (x1 == acc)) ∧ Below w.heap.size w w' := by
  have hc1 : ∀ o, (w.alloc o).cell? ⟨c, 0, none⟩ = some (.int .i64 acc) := fun o => by rw [World.cell?_alloc_past _ _ _ hcl]; exact hc
  go_enter Try.func18, Try.ntmps18
  go_wp2
  go_ret
  exact ⟨rfl, (Below.refl _ _).alloc (Nat.le_refl _) _⟩

set_option maxHeartbeats 400000 in
theorem indexFunc_any (a : Option Addr) (cap : Nat) (L : List (Int × Int)) (c : Nat) (acc : Int) (w : World) (hL : Ents w a L) (hc : w.cell? ⟨c, 0, none⟩ = some (.int .i64 acc)) (hcl : c < w.heap.size) :
    Calls Try.prog 17 #[.slice a L.length cap, .func (.func 18) #[] #[.pointer (some ⟨c, 0, none⟩)]] w fun e w' =>
      ∃ r : Int, e = .returned (.int .i64 r) ∧ Below w.heap.size w w' ∧
        ((r = -1 ∧ ∀ j, j < L.length → (L.getD j (0, 0)).1 ≠ acc) ∨ (∃ k : Nat, r = k ∧ k < L.length ∧ (L.getD k (0, 0)).1 = acc ∧ ∀ j, j < k → (L.getD j (0, 0)).1 ≠ acc)) := by
  obtain ⟨hm, hL⟩ := hL
  unfold maxLen at hm
  go_enter Try.func17, Try.ntmps17
  go_wp2
  go_loopw [8] (fun i wr => ∃ k : Nat, k ≤ L.length ∧ i = .int .i64 k ∧ Below w.heap.size w wr ∧ Hid (∀ j, j < k → (L.getD j (0, 0)).1 ≠ acc)) (fun i _ => L.length - (intOf i).toNat)
  case atStart => exact ⟨0, Nat.zero_le _, rfl, Below.refl _ _, fun j hj => absurd hj (Nat.not_lt_zero _)⟩
  case round =>
    obtain ⟨k, hk, rfl, hb, hno⟩ := hrel
    by_cases hlt : k < L.length
    · rcases hL with rfl | ⟨b, off, rfl, hbl, hcell⟩
      · simp at hlt
      obtain ⟨c1, c2⟩ := hcell k hlt
      have hlt' : (k : Int) < L.length := by omega
      have e1 := (hb.cell (p := ⟨b, off + k * 2, none⟩) hbl).trans c1
      have e2 := (hb.cell (p := ⟨b, off + k * 2 + 1, none⟩) hbl).trans c2
      have e3 := (hb.cell (p := ⟨c, 0, none⟩) hcl).trans hc
      have hsz := hb.size
      clear c1 c2 hcell
      generalize hx1 : (L.getD k (0, 0)).1 = x1 at *
      generalize (L.getD k (0, 0)).2 = x2 at *
      have Hx1 : Hid ((L.getD k (0, 0)).1 = x1) := hx1
      clear hx1
      by_cases hq : x1 = acc
      · have hq' : (x1 == acc) = true := by simpa using hq
        have Hq : Hid (x1 = acc) := hq
        clear hq
        go_wp2_with (go_at_call 18; refine (getf_any _ _ _ acc _ e3 (by omega)).mono ?_; rintro e w' ⟨rfl, hb1⟩)
        go_ret
        exact ⟨_, rfl, hb.trans (hb1.mono hsz), Or.inr ⟨k, rfl, hlt, Hx1.out.trans Hq.out, hno.out⟩⟩
      · have hq' : (x1 == acc) = false := by simpa using hq
        have Hq : Hid (¬ x1 = acc) := hq
        clear hq
        go_wp2_with (go_at_call 18; refine (getf_any _ _ _ acc _ e3 (by omega)).mono ?_; rintro e w' ⟨rfl, hb1⟩)
        go_roundw
        case rel =>
          refine ⟨k + 1, by omega, by go_num, hb.trans (hb1.mono hsz), fun j hj => ?_⟩
          by_cases hjk : j = k
          · subst hjk; rw [Hx1.out]; exact Hq.out
          · exact hno.out j (by omega)
        case measure => simp [intOf]; omega
    · go_wp2
      go_ret
      exact ⟨_, rfl, hb, Or.inl ⟨rfl, fun j hj => hno.out j (by omega)⟩⟩
end Go.Proofs.Ytabbjhibmeaaaaa
