/- The walk of the law CardForced. -/
import Derived.Test.YtdifndnogpcbkabCardf
namespace Go.Proofs.Ytdifndnogpcbkab
open Go.RowKit

/-- What the walk holds on to: the card that came in, and all that is elder. -/
structure One (w : World) (c : Ca) (a : Option Addr) (cap : Nat) (W : World) : Prop where
  bel : Below w.heap.size w W
  box : CardAt W w.heap.size c a cap

theorem One.on {w W W' : World} {c : Ca} {a : Option Addr} {cap : Nat} (h : One w c a cap W) (hb : Below W.heap.size W W') : One w c a cap W' :=
  ⟨h.bel.trans (hb.mono h.bel.size), h.box.on hb⟩
theorem One.alloc {w W : World} {c : Ca} {a : Option Addr} {cap : Nat} (h : One w c a cap W) (o : Obj) : One w c a cap (W.alloc o) := h.on (below_alloc W o)
theorem one_new {w : World} {c : Ca} {a : Option Addr} {cap : Nat} (hL : Lies w a cap c.u) : One w c a cap (w.alloc (co c a cap)) := ⟨below_alloc _ _, card_new w c a cap hL⟩

set_option maxHeartbeats 2000000 in
theorem forced_any (c : Ca) (a : Option Addr) (cap : Nat) (s : Int) (w : World) (hL : Lies w a cap c.u) :
    Calls Try.prog 5 #[cv c a cap, .int .i64 s] w fun e w' => e = .returned (.bool true) ∧ Below w.heap.size w w' := by
  have I0 := one_new hL
  unfold cv
  go_enter Try.func5, Try.ntmps5
  go_wp2_with fail
  refine (alive_any _).mono ?_
  rintro e w1 ⟨rfl, hb1⟩
  have I1 := I0.on hb1
  clear I0 hb1
  obtain ⟨C0, C1, C2, C3, C4, C5⟩ := I1.box.cells
  go_wp2_with fail
  refine (force_any c a cap s _ I1.box.lies).mono ?_
  rintro e w2 ⟨a2, cap2, rfl, hl2, hb2⟩
  have I2 := I1.on hb2
  clear C0 C1 C2 C3 C4 C5 I1 hb2
  unfold cv
  by_cases h0 : (forceC c s).2 = 0
  rotate_left
  · have hne : ((forceC c s).2 != 0) = true := by simpa using h0
    have hz := force_not h0
    clear h0
    rw [hz] at hl2 ⊢
    have HL2 := hid (hl2.below (below_alloc w2 (co zeroC a2 cap2)))
    generalize (forceC c s).2 = r at *
    go_wp2_with (go_at_call 8; refine (sameC_any zeroC a2 cap2 none 0 _ HL2.out (lies_nil _)).mono ?_; rintro e w3 ⟨rfl, hb3⟩)
    go_ret
    exact ⟨rfl, ((I2.alloc _).on hb3).bel⟩
  have hne : ((forceC c s).2 != 0) = false := by simpa using h0
  obtain ⟨R, s1, s2, hz⟩ := force_zero h0
  clear h0
  rw [hz] at hl2 ⊢
  have m1 := R.h1
  have m2 := R.h2
  clear R hz
  dsimp only at hl2 ⊢
  generalize (forceC c s).2 = r at *
  have I3 := fun o => I2.alloc o
  have I4 := fun o o' => (I3 o).alloc o'
  have C0 := fun o o' => (I4 o o').box.cells.1
  have C1 := fun o o' => (I4 o o').box.cells.2.1
  have C2 := fun o o' => (I4 o o').box.cells.2.2.1
  have C3 := fun o o' => (I4 o o').box.cells.2.2.2.1
  have C4 := fun o o' => (I4 o o').box.cells.2.2.2.2.1
  have C5 := fun o o' => (I4 o o').box.cells.2.2.2.2.2
  have HA := hid fun o o' => (I4 o o').box.lies
  have HB := hid fun o o' => (hl2.below (below_alloc w2 o)).below (below_alloc (w2.alloc o) o')
  have HI := hid I4
  clear I2 I3 I4 hl2
  go_wp2_with (go_at_call 8; refine (sameC_any c a2 cap2 a cap _ (HB.out _ _) (HA.out _ _)).mono ?_; rintro e w3 ⟨rfl, hb3⟩)
  go_ret
  exact ⟨rfl, ((HI.out _ _).on hb3).bel⟩
end Go.Proofs.Ytdifndnogpcbkab
