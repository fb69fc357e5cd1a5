/- The order of records: the walks of isNaN, Compare, Or, order. -/
import Derived.Test.YtodkcagingnelabDyCell
namespace Go.Proofs.Ytodkcagingnelab.Dy
open Go.RowKit Go.Proofs.Ytodkcagingnelab.Gn

def cmpI (a b : Int) : Int := if a < b then -1 else if b < a then 1 else 0
def orI (x y : Int) : Int := if x ≠ 0 then x else y
def ordR (a b : Rc) : Int := orI (cmpI a.sh b.sh) (cmpI a.au b.au)
theorem ord_neg {a b : Rc} : ordR a b < 0 ↔ gtB b a = true := by
  rw [gtB_true]
  unfold ordR orI cmpI
  grind
theorem ord_pos {a b : Rc} : ¬ ordR a b < 0 ↔ gtB b a = false := by rw [ord_neg]; simp

set_option maxHeartbeats 400000 in
theorem isNaN_any (x : Int) (w : World) : Calls Try.prog 91 #[.int .i64 x] w fun e w' => e = .returned (.bool false) ∧ w' = w := by
  have h : (x != x) = false := by simp
  go_enter Try.func91, Try.ntmps91
  go_wp2
  go_ret
  simp

set_option maxHeartbeats 400000 in
theorem compare_any (x y : Int) (w : World) : Calls Try.prog 86 #[.int .i64 x, .int .i64 y] w fun e w' => e = .returned (.int .i64 (cmpI x y)) ∧ w' = w := by
  have key : ∀ r, cmpI x y = r → Hid (cmpI x y = r) := fun r h => h
  by_cases h1 : x < y
  · have hu := key (-1) (by unfold cmpI; rw [if_pos h1])
    clear key
    go_enter Try.func86, Try.ntmps86
    go_wp2_with (go_at_call 91; refine (isNaN_any _ _).mono ?_; rintro e w' ⟨rfl, rfl⟩)
    go_ret
    exact ⟨ret_int hu.out.symm, rfl⟩
  by_cases h2 : y < x
  · have hu := key 1 (by unfold cmpI; rw [if_neg h1, if_pos h2])
    clear key
    go_enter Try.func86, Try.ntmps86
    go_wp2_with (go_at_call 91; refine (isNaN_any _ _).mono ?_; rintro e w' ⟨rfl, rfl⟩)
    go_ret
    exact ⟨ret_int hu.out.symm, rfl⟩
  · have hu := key 0 (by unfold cmpI; rw [if_neg h1, if_neg h2])
    clear key
    go_enter Try.func86, Try.ntmps86
    go_wp2_with (go_at_call 91; refine (isNaN_any _ _).mono ?_; rintro e w' ⟨rfl, rfl⟩)
    go_ret
    exact ⟨ret_int hu.out.symm, rfl⟩

set_option maxHeartbeats 800000 in
theorem or_any (b c : Nat) (x y : Int) (w : World) (hx : w.cell? ⟨b, 0, none⟩ = some (.int .i64 x)) (hy : w.cell? ⟨b, 1, none⟩ = some (.int .i64 y)) :
    Calls Try.prog 85 #[.slice (some ⟨b, 0, none⟩) 2 c] w fun e w' => e = .returned (.int .i64 (orI x y)) ∧ w' = w := by
  have key : ∀ r, orI x y = r → Hid (orI x y = r) := fun r h => h
  go_enter Try.func85, Try.ntmps85
  go_wp2
  go_loopw [8] (fun i wr => ∃ k : Nat, k ≤ 2 ∧ i = .int .i64 k ∧ wr = w ∧ Hid (1 ≤ k → x = 0) ∧ Hid (2 ≤ k → y = 0)) (fun i _ => 2 - (intOf i).toNat)
  case atStart => exact ⟨0, by omega, rfl, rfl, fun h => absurd h (by decide), fun h => absurd h (by decide)⟩
  case round =>
    obtain ⟨k, hk, rfl, rfl, h1, h2⟩ := hrel
    obtain rfl | rfl | rfl : k = 0 ∨ k = 1 ∨ k = 2 := by omega
    · by_cases h0 : x = 0
      · have g0 : (x == 0) = true := by simpa using h0
        have g0' : (x != 0) = false := by simpa using h0
        have H : Hid (x = 0) := h0
        clear h0
        go_wp2
        go_roundw
        case rel => exact ⟨1, by omega, rfl, trivial, fun _ => H.out, fun h => absurd h (by decide)⟩
        case measure => decide
      · have hu := key x (by unfold orI; rw [if_pos h0])
        have g0 : (x == 0) = false := by simpa using h0
        have g0' : (x != 0) = true := by simpa using h0
        clear h0
        go_wp2
        go_ret
        exact ⟨ret_int hu.out.symm, rfl⟩
    · have hx0 : x = 0 := h1.out (by omega)
      by_cases h0 : y = 0
      · have g0 : (y == 0) = true := by simpa using h0
        have g0' : (y != 0) = false := by simpa using h0
        have H : Hid (y = 0) := h0
        have HX : Hid (x = 0) := hx0
        clear h0
        go_wp2
        go_roundw
        case rel => exact ⟨2, by omega, rfl, trivial, fun _ => HX.out, fun _ => H.out⟩
        case measure => decide
      · have hu := key y (by unfold orI; rw [if_neg (by simpa using hx0)])
        have g0 : (y == 0) = false := by simpa using h0
        have g0' : (y != 0) = true := by simpa using h0
        clear h0
        go_wp2
        go_ret
        exact ⟨ret_int hu.out.symm, rfl⟩
    · have hu := key 0 (by unfold orI; rw [h1.out (by omega), h2.out (by omega)]; rfl)
      go_wp2
      go_ret
      exact ⟨ret_int hu.out.symm, rfl⟩

set_option maxHeartbeats 1600000 in
theorem order_any (a b : Rc) (w : World) : Calls Try.prog 73 #[rv a, rv b] w fun e w' => e = .returned (.int .i64 (ordR a b)) ∧ Below w.heap.size w w' := by
  obtain ⟨a1, a2, a3, a4⟩ := a
  obtain ⟨b1, b2, b3, b4⟩ := b
  unfold rv ordR
  dsimp only
  go_enter Try.func73, Try.ntmps73
  go_upto_region 1 with fail
  have hb0 : Below w.heap.size w ((w.alloc (.cells #[.int .i64 a1, .int .i64 a2, .int .i64 a3, .int .i64 a4] 87)).alloc (.cells #[.int .i64 b1, .int .i64 b2, .int .i64 b3, .int .i64 b4] 87)) := bel_alloc (bel_alloc (Below.refl _ _) _) _
  have c1 : ((w.alloc (.cells #[.int .i64 a1, .int .i64 a2, .int .i64 a3, .int .i64 a4] 87)).alloc (.cells #[.int .i64 b1, .int .i64 b2, .int .i64 b3, .int .i64 b4] 87)).cell? ⟨w.heap.size, 0, none⟩ = some (.int .i64 a1) := by simp
  have c2 : ((w.alloc (.cells #[.int .i64 a1, .int .i64 a2, .int .i64 a3, .int .i64 a4] 87)).alloc (.cells #[.int .i64 b1, .int .i64 b2, .int .i64 b3, .int .i64 b4] 87)).cell? ⟨w.heap.size, 1, none⟩ = some (.int .i64 a2) := by simp
  have c3 : ((w.alloc (.cells #[.int .i64 a1, .int .i64 a2, .int .i64 a3, .int .i64 a4] 87)).alloc (.cells #[.int .i64 b1, .int .i64 b2, .int .i64 b3, .int .i64 b4] 87)).cell? ⟨w.heap.size + 1, 0, none⟩ = some (.int .i64 b1) := by simp
  have c4 : ((w.alloc (.cells #[.int .i64 a1, .int .i64 a2, .int .i64 a3, .int .i64 a4] 87)).alloc (.cells #[.int .i64 b1, .int .i64 b2, .int .i64 b3, .int .i64 b4] 87)).cell? ⟨w.heap.size + 1, 1, none⟩ = some (.int .i64 b2) := by simp
  have hs : ((w.alloc (.cells #[.int .i64 a1, .int .i64 a2, .int .i64 a3, .int .i64 a4] 87)).alloc (.cells #[.int .i64 b1, .int .i64 b2, .int .i64 b3, .int .i64 b4] 87)).heap.size = w.heap.size + 2 := by simp
  generalize (w.alloc (.cells #[.int .i64 a1, .int .i64 a2, .int .i64 a3, .int .i64 a4] 87)).alloc (.cells #[.int .i64 b1, .int .i64 b2, .int .i64 b3, .int .i64 b4] 87) = W at *
  have d1 : ∀ o, (W.alloc o).cell? ⟨w.heap.size, 0, none⟩ = some (.int .i64 a1) := fun o => by rw [World.cell?_alloc_past _ _ _ (show w.heap.size < W.heap.size by omega)]; exact c1
  have d2 : ∀ o, (W.alloc o).cell? ⟨w.heap.size, 1, none⟩ = some (.int .i64 a2) := fun o => by rw [World.cell?_alloc_past _ _ _ (show w.heap.size < W.heap.size by omega)]; exact c2
  have d3 : ∀ o, (W.alloc o).cell? ⟨w.heap.size + 1, 0, none⟩ = some (.int .i64 b1) := fun o => by rw [World.cell?_alloc_past _ _ _ (show w.heap.size + 1 < W.heap.size by omega)]; exact c3
  have d4 : ∀ o, (W.alloc o).cell? ⟨w.heap.size + 1, 1, none⟩ = some (.int .i64 b2) := fun o => by rw [World.cell?_alloc_past _ _ _ (show w.heap.size + 1 < W.heap.size by omega)]; exact c4
  clear hs
  have hsz := hb0.size
  go_region_held3 (fun w' => w'.cell? ⟨w.heap.size, 0, none⟩ = some (.int .i64 a1) ∧ w'.cell? ⟨w.heap.size, 1, none⟩ = some (.int .i64 a2) ∧ w'.cell? ⟨w.heap.size + 1, 0, none⟩ = some (.int .i64 b1) ∧ w'.cell? ⟨w.heap.size + 1, 1, none⟩ = some (.int .i64 b2)) (first | exact ⟨c1, c2, c3, c4⟩ | exact ⟨d1 _, d2 _, d3 _, d4 _⟩)
    (first
    | (go_at_call 86; refine (compare_any _ _ _).mono ?_; rintro e w' ⟨rfl, rfl⟩)
    | (go_at_call 85; refine (or_any _ _ (cmpI a1 b1) (cmpI a2 b2) _ (by simp) (by simp)).mono ?_; rintro e w' ⟨rfl, rfl⟩))
  all_goals
    go_wp2_with fail
    go_ret
    exact ⟨rfl, (hb0.alloc (by omega) _).drew⟩
end Go.Proofs.Ytodkcagingnelab.Dy
