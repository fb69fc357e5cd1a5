/- The walk of the law CardShifts. -/
import Derived.Test.YtdifndnogpcbkabCardg
import Derived.Test.YtdifndnogpcbkabCardd
namespace Go.Proofs.Ytdifndnogpcbkab
open Go.RowKit

theorem far_not {a b : Int} (h : ¬ far a b) : -1000000000000 ≤ a ∧ a ≤ 1000000000000 ∧ -1000000000000 ≤ b ∧ b ≤ 1000000000000 := by unfold far at h; omega

set_option maxHeartbeats 4000000 in
theorem shifts_any (c : Ca) (a : Option Addr) (cap : Nat) (sa sb sm sn : Int) (w : World) (hL : Lies w a cap c.u) :
    Calls Try.prog 4 #[cv c a cap, .int .i64 sa, .int .i64 sb, .int .i64 sm, .int .i64 sn] w fun e w' => e = .returned (.bool true) ∧ Below w.heap.size w w' := by
  have I0 := one_new hL
  unfold cv
  go_enter Try.func4, Try.ntmps4
  go_wp2_with fail
  refine (alive_any _).mono ?_
  rintro e w1 ⟨rfl, hb1⟩
  have I1 := I0.on hb1
  clear I0 hb1
  obtain ⟨C0, C1, C2, C3, C4, C5⟩ := I1.box.cells
  go_wp2_with fail
  refine (shift_any c a cap sa sm _ I1.box.lies).mono ?_
  rintro e w2 ⟨a2, cap2, rfl, hl2, hb2⟩
  have I2 := I1.on hb2
  clear C0 C1 C2 C3 C4 C5 I1 hb2
  by_cases h0 : (shiftC c sa sm).2 = 0
  rotate_left
  · have hne : ((shiftC c sa sm).2 != 0) = true := by simpa using h0
    clear h0
    generalize (shiftC c sa sm).2 = r at *
    generalize (shiftC c sa sm).1 = x at *
    unfold cv
    go_wp2
    go_ret
    exact ⟨rfl, (I2.alloc _).bel⟩
  have hne : ((shiftC c sa sm).2 != 0) = false := by simpa using h0
  obtain ⟨s1, s2, s3, s4⟩ := far_not (shift_zero h0).2.1
  have HB := hid (shift_back h0)
  have HT := hid (fun (h : (shiftC (shiftC c sa sm).1 sb sn).2 = 0) => shift_two (m := sm) (n := sn) h0 h)
  clear h0
  generalize (shiftC c sa sm).2 = r at *
  generalize (shiftC c sa sm).1 = x at *
  unfold cv
  have X2 := card_new w2 x a2 cap2 hl2
  have I3 := I2.alloc (co x a2 cap2)
  clear I2 hl2
  go_wp2_with fail
  refine (shift_any x a2 cap2 (-sa) (-sm) _ X2.lies).mono ?_
  rw [HB.out]
  rintro e w3 ⟨a3, cap3, rfl, hl3, hb3⟩
  have I4 := fun o => (I3.on hb3).alloc o
  have X4 := fun o => (X2.on hb3).alloc o
  have L4 := fun o => hl3.below (below_alloc w3 o)
  clear I3 X2 hb3 hl3
  unfold cv
  dsimp only
  have C0 := fun o => (I4 o).box.cells.1
  have C1 := fun o => (I4 o).box.cells.2.1
  have C2 := fun o => (I4 o).box.cells.2.2.1
  have C3 := fun o => (I4 o).box.cells.2.2.2.1
  have C4 := fun o => (I4 o).box.cells.2.2.2.2.1
  have C5 := fun o => (I4 o).box.cells.2.2.2.2.2
  go_wp2_with fail
  refine (sameC_any c a3 cap3 a cap _ (L4 _) (I4 _).box.lies).mono ?_
  rintro e w4 ⟨rfl, hb4⟩
  have I5 := (I4 _).on hb4
  have X5 := (X4 _).on hb4
  generalize w2.heap.size = B at *
  clear C0 C1 C2 C3 C4 C5 I4 X4 L4 hb4
  obtain ⟨C0, C1, C2, C3, C4, C5⟩ := X5.cells
  go_wp2_with fail
  refine (shift_any x a2 cap2 sb sn _ X5.lies).mono ?_
  rintro e w5 ⟨a5, cap5, rfl, hl5, hb5⟩
  have I6 := I5.on hb5
  clear C0 C1 C2 C3 C4 C5 I5 X5 hb5
  by_cases h0 : (shiftC x sb sn).2 = 0
  rotate_left
  · have hne2 : ((shiftC x sb sn).2 != 0) = true := by simpa using h0
    clear h0 HT
    generalize (shiftC x sb sn).2 = r2 at *
    generalize (shiftC x sb sn).1 = y at *
    unfold cv
    go_wp2
    go_ret
    exact ⟨rfl, (I6.alloc _).bel⟩
  have hne2 : ((shiftC x sb sn).2 != 0) = false := by simpa using h0
  obtain ⟨s5, s6, s7, s8⟩ := far_not (shift_zero h0).2.1
  have HT2 := hid (HT.out h0)
  rw [h0]
  clear HT HB
  have HZ := hid h0
  clear h0
  rw [HZ.out] at hne2
  have Y6 := card_new w5 (shiftC x sb sn).1 a5 cap5 hl5
  have I7 := I6.alloc (co (shiftC x sb sn).1 a5 cap5)
  clear I6 hl5
  unfold cv
  generalize hy : shiftC x sb sn = Y at *
  clear hy
  obtain ⟨y, ry⟩ := Y
  dsimp only at *
  have hzy := HZ.out
  subst hzy
  clear HZ
  obtain ⟨C0, C1, C2, C3, C4, C5⟩ := I7.box.cells
  unfold co at C0 C1 C2 C3 C4 C5
  go_wp2_with fail
  refine (shift_any c a cap (sa + sb) (sm + sn) _ I7.box.lies).mono ?_
  rintro e w6 ⟨a6, cap6, rfl, hl6, hb6⟩
  have I8 := fun o => (I7.on hb6).alloc o
  have Y8 := fun o => (Y6.on hb6).alloc o
  have L8 := fun o => hl6.below (below_alloc w6 o)
  clear C0 C1 C2 C3 C4 C5 I7 Y6 hb6 hl6
  unfold cv
  generalize w5.heap.size = D at *
  generalize shiftC c (sa + sb) (sm + sn) = Z at *
  obtain ⟨z, rz⟩ := Z
  dsimp only at *
  by_cases h3 : rz = 3
  · subst h3
    clear HT2
    have HI := hid I8
    clear I8 Y8 L8
    go_wp2
    go_ret
    exact ⟨rfl, (HI.out _).bel⟩
  · have he := HT2.out.resolve_left h3
    obtain ⟨rfl, rfl⟩ := Prod.mk.inj he
    clear HT2 h3 he
    have C0 := fun o => (Y8 o).cells.1
    have C1 := fun o => (Y8 o).cells.2.1
    have C2 := fun o => (Y8 o).cells.2.2.1
    have C3 := fun o => (Y8 o).cells.2.2.2.1
    have C4 := fun o => (Y8 o).cells.2.2.2.2.1
    have C5 := fun o => (Y8 o).cells.2.2.2.2.2
    go_wp2_with fail
    refine (sameC_any z a5 cap5 a6 cap6 _ (Y8 _).lies (L8 _)).mono ?_
    rintro e w7 ⟨rfl, hb7⟩
    have I9 := (I8 _).on hb7
    clear C0 C1 C2 C3 C4 C5 I8 Y8 L8 hb7
    go_wp2
    go_ret
    exact ⟨rfl, I9.bel⟩
end Go.Proofs.Ytdifndnogpcbkab
