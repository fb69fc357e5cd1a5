/- The walk of wrongAdd. -/
import Derived.Test.YtdifndnogpcbkaaWalkc
namespace Go.Proofs.Ytdifndnogpcbkaa
open Go.RowKit

theorem wrongAdd_pace {p : Pa} {L : List (Int × Int)} {x : Int × Int} (h : wrongP p ≠ 0) : wrongAdd p L x = wrongP p := by unfold wrongAdd; rw [if_pos h]
theorem wrongAdd_uses {p : Pa} {L : List (Int × Int)} {x : Int × Int} (h : wrongP p = 0) (h2 : (uses L).1 ≠ 0) : wrongAdd p L x = (uses L).1 := by unfold wrongAdd; rw [if_neg (by simpa using h), if_pos h2]
theorem wrongAdd_x {p : Pa} {L : List (Int × Int)} {x : Int × Int} (h : wrongP p = 0) (h2 : (uses L).1 = 0) (h3 : inU x = false) : wrongAdd p L x = 3 := by
  unfold wrongAdd; rw [if_neg (by simpa using h), if_neg (by simpa using h2), if_pos h3]
theorem wrongAdd_form {p : Pa} {L : List (Int × Int)} {x : Int × Int} (h : wrongP p = 0) (h2 : (uses L).1 = 0) (h3 : inU x = true) (h4 : 0 < L.length ∧ x.1 < (L.getD (L.length - 1) (0, 0)).1) : wrongAdd p L x = 2 := by
  unfold wrongAdd; rw [if_neg (by simpa using h), if_neg (by simpa using h2), if_neg (by simpa using h3), if_pos h4]
theorem wrongAdd_none {p : Pa} {L : List (Int × Int)} {x : Int × Int} (h : wrongP p = 0) (h2 : (uses L).1 = 0) (h3 : inU x = true) (h4 : ¬ (0 < L.length ∧ x.1 < (L.getD (L.length - 1) (0, 0)).1)) : wrongAdd p L x = 0 := by
  unfold wrongAdd; rw [if_neg (by simpa using h), if_neg (by simpa using h2), if_neg (by simpa using h3), if_neg h4]

/-- Behind a call: the two boxes' cells, and all that is elder. -/
theorem boxes {w w1 : World} {p : Pa} {x : Int × Int}
    (hb : Below ((w.alloc (.cells #[.int .i64 p.t, .int .i64 p.c, .int .i64 p.s] 55)).alloc (.cells #[.int .i64 x.1, .int .i64 x.2] 58)).heap.size ((w.alloc (.cells #[.int .i64 p.t, .int .i64 p.c, .int .i64 p.s] 55)).alloc (.cells #[.int .i64 x.1, .int .i64 x.2] 58)) w1) :
    Below w.heap.size w w1 ∧ w.heap.size + 1 < w1.heap.size ∧ w1.heap[w.heap.size]? = some (.cells #[.int .i64 p.t, .int .i64 p.c, .int .i64 p.s] 55) ∧ w1.heap[w.heap.size + 1]? = some (.cells #[.int .i64 x.1, .int .i64 x.2] 58) := by
  have s1 := hb.size
  simp only [World.size_alloc] at s1
  have b1 : Below w.heap.size w ((w.alloc (.cells #[.int .i64 p.t, .int .i64 p.c, .int .i64 p.s] 55)).alloc (.cells #[.int .i64 x.1, .int .i64 x.2] 58)) := ((Below.refl _ _).alloc (Nat.le_refl _) _).alloc (by simp) _
  refine ⟨b1.trans (hb.mono (by simp; omega)), by omega, ?_, ?_⟩
  · rw [hb.block _ (by simp; omega), Below.heap_alloc _ _ _ (by simp)]
    show (w.heap.push _)[w.heap.size]? = _
    rw [Array.getElem?_push_size]
  · rw [hb.block _ (by simp)]
    have : w.heap.size + 1 = (w.alloc (.cells #[.int .i64 p.t, .int .i64 p.c, .int .i64 p.s] 55)).heap.size := by simp
    rw [this]
    show (Array.push _ _)[_]? = _
    rw [Array.getElem?_push_size]

theorem use_cells {w : World} {b : Nat} {x : Int × Int} (h : w.heap[b]? = some (.cells #[.int .i64 x.1, .int .i64 x.2] 58)) : w.cell? ⟨b, 0, none⟩ = some (.int .i64 x.1) ∧ w.cell? ⟨b, 1, none⟩ = some (.int .i64 x.2) := by
  constructor <;> simp [World.cell?, h]
theorem pace_cells {w : World} {b : Nat} {p : Pa} (h : w.heap[b]? = some (.cells #[.int .i64 p.t, .int .i64 p.c, .int .i64 p.s] 55)) :
    w.cell? ⟨b, 0, none⟩ = some (.int .i64 p.t) ∧ w.cell? ⟨b, 1, none⟩ = some (.int .i64 p.c) ∧ w.cell? ⟨b, 2, none⟩ = some (.int .i64 p.s) := by
  refine ⟨?_, ?_, ?_⟩ <;> simp [World.cell?, h]

set_option maxHeartbeats 2000000 in
theorem wrongAdd_any (p : Pa) (a : Option Addr) (cap : Nat) (L : List (Int × Int)) (x : Int × Int) (w : World) (hL : Ents w a L) :
    Calls Try.prog 69 #[pv p, .slice a L.length cap, uv x] w fun e w' => e = .returned (.int .i64 (wrongAdd p L x)) ∧ Below w.heap.size w w' := by
  unfold pv uv
  by_cases h1 : wrongP p = 0
  rotate_left
  · have HW := hid (wrongAdd_pace (L := L) (x := x) h1)
    have hne : (wrongP p != 0) = true := by simpa using h1
    clear h1
    go_enter Try.func69, Try.ntmps69
    go_wp2_with fail
    refine (wrong_any p _).mono ?_
    rintro e w1 ⟨rfl, hb1⟩
    obtain ⟨bb, -, -, -⟩ := boxes hb1
    generalize wrongP p = r at *
    go_wp2
    go_ret
    exact ⟨ret_int HW.out.symm, bb⟩
  have hne : (wrongP p != 0) = false := by simpa using h1
  by_cases h2 : (uses L).1 = 0
  rotate_left
  · have HW := hid (wrongAdd_uses (L := L) (x := x) h1 h2)
    have hne2 : ((uses L).1 != 0) = true := by simpa using h2
    clear h1 h2
    go_enter Try.func69, Try.ntmps69
    go_wp2_with fail
    refine (wrong_any p _).mono ?_
    rintro e w1 ⟨rfl, hb1⟩
    obtain ⟨bb, hs1, -, -⟩ := boxes hb1
    generalize wrongP p = r at *
    have hL1 := hL.below bb
    go_wp2_with fail
    refine (uses_any a cap L _ hL1).mono ?_
    rintro e w2 ⟨rfl, hb2⟩
    generalize (uses L).1 = r1 at *
    generalize (uses L).2 = r2 at *
    have bb2 : Below w.heap.size w w2 := bb.trans (hb2.mono bb.size)
    go_wp2
    go_ret
    exact ⟨ret_int HW.out.symm, bb2.alloc bb2.size _⟩
  have hne2 : ((uses L).1 != 0) = false := by simpa using h2
  have H3 := hid (wrongAdd_x (L := L) (x := x) h1 h2)
  have H4 := hid (wrongAdd_form (L := L) (x := x) h1 h2)
  have H5 := hid (wrongAdd_none (L := L) (x := x) h1 h2)
  clear h1 h2
  go_enter Try.func69, Try.ntmps69
  go_wp2_with fail
  refine (wrong_any p _).mono ?_
  rintro e w1 ⟨rfl, hb1⟩
  obtain ⟨bb, hs1, -, hx1⟩ := boxes hb1
  generalize wrongP p = r at *
  have hL1 := hL.below bb
  clear hL
  go_wp2_with fail
  refine (uses_any a cap L _ hL1).mono ?_
  rintro e w2 ⟨rfl, hb2⟩
  generalize (uses L).1 = r1 at *
  generalize (uses L).2 = r2 at *
  have bb2 : ∀ o, Below w.heap.size w (w2.alloc o) := fun o => (bb.trans (hb2.mono bb.size)).alloc (by have := hb2.size; omega) o
  have hx2 : ∀ o, (w2.alloc o).heap[w.heap.size + 1]? = some (.cells #[.int .i64 x.1, .int .i64 x.2] 58) := fun o => by
    rw [Below.heap_alloc _ _ _ (by have := hb2.size; omega), hb2.block _ hs1]; exact hx1
  have X0 := fun o => (use_cells (hx2 o)).1
  have X1 := fun o => (use_cells (hx2 o)).2
  have hL2 : ∀ o, Ents (w2.alloc o) a L := fun o => (hL1.below hb2).below ((Below.refl _ _).alloc (Nat.le_refl _) o)
  have hs2 := hb2.size
  clear hb1 hb2 bb hL1
  go_wp2_with fail
  refine (inRange_any x _).mono ?_
  rintro e w3 ⟨rfl, hb3⟩
  have bb3 : Below w.heap.size w w3 := (bb2 _).trans (hb3.mono (by simp; omega))
  have hs3 := hb3.size
  simp only [World.size_alloc] at hs3
  have hx3 := (hb3.block _ (by simp; omega)).trans (hx2 _)
  obtain ⟨Y0, Y1⟩ := use_cells hx3
  have hL3 := (hL2 _).below hb3
  clear bb2 hx2 X0 X1 hL2 hb3 hx3
  cases hx : inU x with
  | false =>
    have HW := hid (H3.out hx)
    clear H3 H4 H5
    go_wp2
    go_ret
    exact ⟨ret_int HW.out.symm, bb3⟩
  | true =>
    obtain ⟨hm, hL⟩ := hL3
    unfold maxLen at hm
    by_cases h0 : L.length = 0
    · have HW := hid (H5.out hx (by omega))
      have hk0 : decide (0 < L.length) = false := decide_eq_false (by omega)
      clear H3 H4 H5 hL h0
      go_wp2
      go_quiet (fail)
      go_wp2
      go_ret
      exact ⟨ret_int HW.out.symm, below_drewN bb3 _⟩
    · have hk0 : decide (0 < L.length) = true := decide_eq_true (by omega)
      have hk1 : 0 < L.length := by omega
      rcases hL with rfl | ⟨b, off, rfl, hbl, hcell⟩
      · simp at hk1
      obtain ⟨c1, c2⟩ := hcell (L.length - 1) (by omega)
      clear hcell c2
      have H4' := hid (fun h => H4.out hx ⟨hk1, h⟩)
      have H5' := hid (fun (h : (L.getD (L.length - 1) (0, 0)).1 ≤ x.1) => H5.out hx (by omega))
      generalize (L.getD (L.length - 1) (0, 0)).1 = pv at *
      by_cases hq : x.1 < pv
      · have HW := hid (H4'.out hq)
        clear H3 H4 H5 h0 H4' H5'
        go_wp2
        go_quiet (fail)
        go_wp2
        go_ret
        exact ⟨ret_int HW.out.symm, below_drewN bb3 _⟩
      · have HW := hid (H5'.out (by omega))
        have hq' : pv ≤ x.1 := by omega
        clear H3 H4 H5 h0 H4' H5' hq
        go_wp2
        go_quiet (fail)
        go_wp2
        go_ret
        exact ⟨ret_int HW.out.symm, below_drewN bb3 _⟩
end Go.Proofs.Ytdifndnogpcbkaa
