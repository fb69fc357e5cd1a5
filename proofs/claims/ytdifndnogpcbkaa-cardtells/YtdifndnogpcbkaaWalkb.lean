/- The walk of the meter: the closure that is told of uses, one behind the other. -/
import Derived.Test.YtdifndnogpcbkaaWalka
namespace Go.Proofs.Ytdifndnogpcbkaa
open Go.RowKit

/-- The meter's three blocks: the pace, how many, how much. -/
structure Meter (w : World) (B : Nat) (p : Pa) (n s : Int) : Prop where
  pace : w.heap[B]? = some (.cells #[.int .i64 p.t, .int .i64 p.c, .int .i64 p.s] 55 (0, 0))
  count : w.heap[B + 1]? = some (.cells #[.int .i64 n] 3 (0, 0))
  sum : w.heap[B + 2]? = some (.cells #[.int .i64 s] 3 (0, 0))

theorem Meter.lt {w : World} {B : Nat} {p : Pa} {n s : Int} (h : Meter w B p n s) : B + 2 < w.heap.size := lt_of_block h.sum
theorem Meter.below {w w' : World} {B C : Nat} {p : Pa} {n s : Int} (h : Meter w B p n s) (hb : Below C w w') (hC : B + 2 < C) : Meter w' B p n s :=
  ⟨(hb.block _ (by omega)).trans h.pace, (hb.block _ (by omega)).trans h.count, (hb.block _ hC).trans h.sum⟩

theorem heap_alloc_at (w : World) (o : Obj) (k : Nat) (h : k = w.heap.size) : (w.alloc o).heap[k]? = some o := by
  subst h
  show (w.heap.push _)[w.heap.size]? = _
  rw [Array.getElem?_push_size]

set_option maxHeartbeats 400000 in
theorem meter_any (p : Pa) (w : World) :
    Calls Try.prog 70 #[pv p] w fun e w' => e = .returned (.func (.func 81) #[] #[.pointer (some ⟨w.heap.size + 1, 0, none⟩), .pointer (some ⟨w.heap.size + 2, 0, none⟩), .pointer (some ⟨w.heap.size, 0, none⟩)]) ∧
      Meter w' w.heap.size p 0 0 ∧ Below w.heap.size w w' := by
  have hmf : ∀ (fn : Fn) (first cap : Array Value) (w : World), (Instr.makeFunc fn first cap).run Try.prog w = .ok (.func fn first cap) w := fun _ _ _ _ => rfl
  unfold pv
  go_enter Try.func70, Try.ntmps70
  go_wp2
  go_ret
  refine ⟨rfl, ⟨?_, ?_, ?_⟩, (((Below.refl _ _).alloc (Nat.le_refl _) _).alloc (by simp) _).alloc (by simp; omega) _⟩
  · rw [Below.heap_alloc _ _ _ (by simp; omega), Below.heap_alloc _ _ _ (by simp), heap_alloc_at _ _ _ rfl]
  · rw [Below.heap_alloc _ _ _ (by simp), heap_alloc_at _ _ _ (by simp)]
  · rw [heap_alloc_at _ _ _ (by simp)]

set_option maxHeartbeats 1000000 in
theorem within_any (x : Int × Int) (B : Nat) (p : Pa) (n s : Int) (w : World) (hM : Meter w B p n s) (n1 : 0 ≤ n) (n2 : n ≤ 100) (s1 : 0 ≤ s) (s2 : s ≤ 1000000000) (x1 : 0 ≤ x.2) (x2 : x.2 ≤ 1000000) :
    Calls Try.prog 81 #[uv x, .pointer (some ⟨B + 1, 0, none⟩), .pointer (some ⟨B + 2, 0, none⟩), .pointer (some ⟨B, 0, none⟩)] w fun e w' =>
      e = .returned (.bool (decide (n + 1 ≤ p.c) && decide (s + x.2 ≤ p.s))) ∧ Meter w' B p (n + 1) (s + x.2) ∧ Below B w w' := by
  have hlt := hM.lt
  have HM := hid hM
  have C1 : w.cell? ⟨B + 1, 0, none⟩ = some (.int .i64 n) := cell_of_one hM.count
  have F1 : w.frozen? ⟨B + 1, 0, none⟩ = false := free_of_one hM.count
  have C2 : w.cell? ⟨B + 2, 0, none⟩ = some (.int .i64 s) := cell_of_one hM.sum
  have F2 : w.frozen? ⟨B + 2, 0, none⟩ = false := free_of_one hM.sum
  have P1 : w.cell? ⟨B, 1, none⟩ = some (.int .i64 p.c) := by simp [World.cell?, hM.pace]
  have P2 : w.cell? ⟨B, 2, none⟩ = some (.int .i64 p.s) := by simp [World.cell?, hM.pace]
  clear hM
  have d1 : ∀ o, (w.alloc o).cell? ⟨B + 1, 0, none⟩ = some (.int .i64 n) := fun o => (World.cell?_alloc_past _ _ _ (by omega)).trans C1
  have d2 : ∀ o, (w.alloc o).frozen? ⟨B + 1, 0, none⟩ = false := fun o => (World.frozen?_alloc_past _ _ _ (by omega)).trans F1
  have d3 : ∀ o, (w.alloc o).cell? ⟨B + 2, 0, none⟩ = some (.int .i64 s) := fun o => (World.cell?_alloc_past _ _ _ (by omega)).trans C2
  have d4 : ∀ o, (w.alloc o).frozen? ⟨B + 2, 0, none⟩ = false := fun o => (World.frozen?_alloc_past _ _ _ (by omega)).trans F2
  have hB : B < w.heap.size := by omega
  have d5 : ∀ o, (w.alloc o).cell? ⟨B, 1, none⟩ = some (.int .i64 p.c) := fun o => (World.cell?_alloc_past _ _ _ hB).trans P1
  have d6 : ∀ o, (w.alloc o).cell? ⟨B, 2, none⟩ = some (.int .i64 p.s) := fun o => (World.cell?_alloc_past _ _ _ hB).trans P2
  have HB : ∀ v u o, Hid (Below B w (((w.alloc o).setCell ⟨B + 1, 0, none⟩ v).setCell ⟨B + 2, 0, none⟩ u)) := fun v u o => (((Below.refl B w).alloc (by omega) _).setCell (by simp) _).setCell (by simp) _
  have HN : ∀ n' s' o, Hid (Meter (((w.alloc o).setCell ⟨B + 1, 0, none⟩ (.int .i64 n')).setCell ⟨B + 2, 0, none⟩ (.int .i64 s')) B p n' s') := fun n' s' o => by
    refine ⟨?_, ?_, ?_⟩
    · rw [Below.heap_setCell _ _ _ _ (by simp), Below.heap_setCell _ _ _ _ (by simp), Below.heap_alloc _ _ _ hB]; exact HM.out.pace
    · rw [Below.heap_setCell _ _ _ _ (by simp)]; exact one_setCell (by rw [Below.heap_alloc _ _ _ (by omega)]; exact HM.out.count)
    · exact one_setCell (by rw [Below.heap_setCell _ _ _ _ (by simp), Below.heap_alloc _ _ _ (by omega)]; exact HM.out.sum)
  clear C1 F1 C2 F2 P1 P2
  unfold uv
  by_cases h1 : n + 1 ≤ p.c <;> by_cases h2 : s + x.2 ≤ p.s
  all_goals
    go_enter Try.func81, Try.ntmps81
    go_wp2
    go_ret
    exact ⟨ret_bool (by simp [h1, h2]), (HN _ _ _).out, (HB _ _ _).out⟩
end Go.Proofs.Ytdifndnogpcbkaa
