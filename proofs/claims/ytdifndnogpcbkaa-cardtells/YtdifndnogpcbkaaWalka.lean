/- The walks of the small functions of pace: what is wrong with a pace, a use in range, the two closures. -/
import Derived.Test.YtdifndnogpcbkaaChecked
import Derived.Test.YtdifndnogpcbkaaMath
import Derived.WalkKit
import Derived.WalkSpells
import Derived.WalkLawsBesides
import Derived.WalkSmall
import Derived.Deep.QuietTactic
import Derived.BigQuiet
namespace Go.Proofs.Ytdifndnogpcbkaa
open Go.RowKit

/-- A pace, as a value. -/
def pv (p : Pa) : Value := .agg #[.int .i64 p.t, .int .i64 p.c, .int .i64 p.s]
/-- A use, as a value. -/
def uv (u : Int × Int) : Value := .agg #[.int .i64 u.1, .int .i64 u.2]

/-- A slice of uses, as it lies in memory. -/
def Ents (w : World) (a : Option Addr) (L : List (Int × Int)) : Prop :=
  L.length ≤ maxLen ∧ (L = [] ∨ ∃ b off, a = some ⟨b, off, none⟩ ∧ b < w.heap.size ∧ ∀ i, i < L.length →
    w.cell? ⟨b, off + i * 2, none⟩ = some (.int .i64 (L.getD i (0, 0)).1) ∧ w.cell? ⟨b, off + i * 2 + 1, none⟩ = some (.int .i64 (L.getD i (0, 0)).2))

theorem Ents.below {w w' : World} {a : Option Addr} {L : List (Int × Int)} (h : Ents w a L) (hb : Below w.heap.size w w') : Ents w' a L := by
  obtain ⟨h1, h2⟩ := h
  refine ⟨h1, ?_⟩
  rcases h2 with h2 | ⟨b, off, ha, hlt, hc⟩
  · exact Or.inl h2
  · refine Or.inr ⟨b, off, ha, Nat.lt_of_lt_of_le hlt hb.size, fun i hi => ?_⟩
    obtain ⟨c1, c2⟩ := hc i hi
    exact ⟨(hb.cell (p := ⟨b, off + i * 2, none⟩) hlt).trans c1, (hb.cell (p := ⟨b, off + i * 2 + 1, none⟩) hlt).trans c2⟩

theorem ret_bool {a b : Bool} (h : a = b) : Ending.returned (.bool a) = .returned (.bool b) := by rw [h]
theorem ret_int {k : IntKind} {a b : Int} (h : a = b) : Ending.returned (.int k a) = .returned (.int k b) := by rw [h]
theorem hid {p : Prop} (h : p) : Hid p := h

/-- The ways through Wrong. -/
theorem wrongP_ways (p : Pa) :
    (p.t < 1 ∧ Hid (wrongP p = 3)) ∨ (1 ≤ p.t ∧ 1000000 < p.t ∧ Hid (wrongP p = 3)) ∨
    (1 ≤ p.t ∧ p.t ≤ 1000000 ∧ p.c < 0 ∧ Hid (wrongP p = 3)) ∨ (1 ≤ p.t ∧ p.t ≤ 1000000 ∧ 0 ≤ p.c ∧ 30 < p.c ∧ Hid (wrongP p = 3)) ∨
    (1 ≤ p.t ∧ p.t ≤ 1000000 ∧ 0 ≤ p.c ∧ p.c ≤ 30 ∧ p.s < 0 ∧ Hid (wrongP p = 3)) ∨
    (1 ≤ p.t ∧ p.t ≤ 1000000 ∧ 0 ≤ p.c ∧ p.c ≤ 30 ∧ 0 ≤ p.s ∧ 1000000000000 < p.s ∧ Hid (wrongP p = 3)) ∨
    (1 ≤ p.t ∧ p.t ≤ 1000000 ∧ 0 ≤ p.c ∧ p.c ≤ 30 ∧ 0 ≤ p.s ∧ p.s ≤ 1000000000000 ∧ Hid (wrongP p = 0)) := by
  have y : (p.t < 1 ∨ 1000000 < p.t ∨ p.c < 0 ∨ 30 < p.c ∨ p.s < 0 ∨ 1000000000000 < p.s) → Hid (wrongP p = 3) := fun h => by unfold Hid wrongP; rw [if_pos h]
  have n : ¬ (p.t < 1 ∨ 1000000 < p.t ∨ p.c < 0 ∨ 30 < p.c ∨ p.s < 0 ∨ 1000000000000 < p.s) → Hid (wrongP p = 0) := fun h => by unfold Hid wrongP; rw [if_neg h]
  by_cases h1 : p.t < 1
  · exact Or.inl ⟨h1, y (by omega)⟩
  by_cases h2 : 1000000 < p.t
  · exact Or.inr (Or.inl ⟨by omega, h2, y (by omega)⟩)
  by_cases h3 : p.c < 0
  · exact Or.inr (Or.inr (Or.inl ⟨by omega, by omega, h3, y (by omega)⟩))
  by_cases h4 : 30 < p.c
  · exact Or.inr (Or.inr (Or.inr (Or.inl ⟨by omega, by omega, by omega, h4, y (by omega)⟩)))
  by_cases h5 : p.s < 0
  · exact Or.inr (Or.inr (Or.inr (Or.inr (Or.inl ⟨by omega, by omega, by omega, by omega, h5, y (by omega)⟩))))
  by_cases h6 : 1000000000000 < p.s
  · exact Or.inr (Or.inr (Or.inr (Or.inr (Or.inr (Or.inl ⟨by omega, by omega, by omega, by omega, by omega, h6, y (by omega)⟩)))))
  · exact Or.inr (Or.inr (Or.inr (Or.inr (Or.inr (Or.inr ⟨by omega, by omega, by omega, by omega, by omega, by omega, n (by omega)⟩)))))

set_option maxHeartbeats 2000000 in
theorem wrong_any (p : Pa) (w : World) :
    Calls Try.prog 36 #[pv p] w fun e w' => e = .returned (.int .i64 (wrongP p)) ∧ Below w.heap.size w w' := by
  unfold pv
  have b0 : ∀ o, Below w.heap.size w (w.alloc o) := fun o => (Below.refl _ _).alloc (Nat.le_refl _) _
  rcases wrongP_ways p with ⟨h1, H⟩ | ⟨h1, h2, H⟩ | ⟨h1, h2, h3, H⟩ | ⟨h1, h2, h3, h4, H⟩ | ⟨h1, h2, h3, h4, h5, H⟩ | ⟨h1, h2, h3, h4, h5, h6, H⟩ | ⟨h1, h2, h3, h4, h5, h6, H⟩
  all_goals
    go_enter Try.func36, Try.ntmps36
    go_wp2
    go_ret
    exact ⟨ret_int H.out.symm, b0 _⟩

/-- The ways through inRange. -/
theorem inU_ways (x : Int × Int) :
    (x.1 < 0 ∧ Hid (inU x = false)) ∨ (0 ≤ x.1 ∧ 1000000 < x.1 ∧ Hid (inU x = false)) ∨ (0 ≤ x.1 ∧ x.1 ≤ 1000000 ∧ x.2 < 0 ∧ Hid (inU x = false)) ∨
    (0 ≤ x.1 ∧ x.1 ≤ 1000000 ∧ 0 ≤ x.2 ∧ 1000000 < x.2 ∧ Hid (inU x = false)) ∨ (0 ≤ x.1 ∧ x.1 ≤ 1000000 ∧ 0 ≤ x.2 ∧ x.2 ≤ 1000000 ∧ Hid (inU x = true)) := by
  have y : ¬ (0 ≤ x.1 ∧ x.1 ≤ 1000000 ∧ 0 ≤ x.2 ∧ x.2 ≤ 1000000) → Hid (inU x = false) := fun h => by
    cases hu : inU x with
    | false => exact rfl
    | true => exact absurd (inU_true.1 hu) h
  by_cases h1 : x.1 < 0
  · exact Or.inl ⟨h1, y (by omega)⟩
  by_cases h2 : 1000000 < x.1
  · exact Or.inr (Or.inl ⟨by omega, h2, y (by omega)⟩)
  by_cases h3 : x.2 < 0
  · exact Or.inr (Or.inr (Or.inl ⟨by omega, by omega, h3, y (by omega)⟩))
  by_cases h4 : 1000000 < x.2
  · exact Or.inr (Or.inr (Or.inr (Or.inl ⟨by omega, by omega, by omega, h4, y (by omega)⟩)))
  · exact Or.inr (Or.inr (Or.inr (Or.inr ⟨by omega, by omega, by omega, by omega, inU_true.2 ⟨by omega, by omega, by omega, by omega⟩⟩)))

set_option maxHeartbeats 1000000 in
theorem inRange_any (x : Int × Int) (w : World) :
    Calls Try.prog 67 #[uv x] w fun e w' => e = .returned (.bool (inU x)) ∧ Below w.heap.size w w' := by
  unfold uv
  have b0 : ∀ o, Below w.heap.size w (w.alloc o) := fun o => (Below.refl _ _).alloc (Nat.le_refl _) _
  rcases inU_ways x with ⟨h1, H⟩ | ⟨h1, h2, H⟩ | ⟨h1, h2, h3, H⟩ | ⟨h1, h2, h3, h4, H⟩ | ⟨h1, h2, h3, h4, H⟩
  all_goals
    go_enter Try.func67, Try.ntmps67
    go_wp2
    go_ret
    exact ⟨ret_bool (by first | exact H.out.symm | (rw [H.out]; simp; omega)), b0 _⟩

/-! ### The window -/
set_option maxHeartbeats 400000 in
theorem counts_any (x : Int × Int) (c : Nat) (o : Int) (w : World) (hc : w.cell? ⟨c, 0, none⟩ = some (.int .i64 o)) (hcl : c < w.heap.size) :
    Calls Try.prog 80 #[uv x, .pointer (some ⟨c, 0, none⟩)] w fun e w' => e = .returned (.bool (decide (o < x.1))) ∧ Below w.heap.size w w' := by
  have hc1 : ∀ o', (w.alloc o').cell? ⟨c, 0, none⟩ = some (.int .i64 o) := fun o' => by rw [World.cell?_alloc_past _ _ _ hcl]; exact hc
  unfold uv
  by_cases h : o < x.1
  all_goals
    go_enter Try.func80, Try.ntmps80
    go_wp2
    go_ret
    exact ⟨ret_bool (by simp [h]), (Below.refl _ _).alloc (Nat.le_refl _) _⟩

set_option maxHeartbeats 400000 in
theorem window_any (p : Pa) (time : Int) (w : World) (h1 : 1 ≤ p.t) (h2 : p.t ≤ 1000000) (h3 : 0 ≤ time) (h4 : time ≤ 1000000) :
    Calls Try.prog 68 #[pv p, .int .i64 time] w fun e w' => ∃ c, e = .returned (.func (.func 80) #[] #[.pointer (some ⟨c, 0, none⟩)]) ∧ w.heap.size ≤ c ∧ c < w'.heap.size ∧
      w'.cell? ⟨c, 0, none⟩ = some (.int .i64 (time - p.t)) ∧ Below w.heap.size w w' := by
  have hmf : ∀ (fn : Fn) (first cap : Array Value) (w : World), (Instr.makeFunc fn first cap).run Try.prog w = .ok (.func fn first cap) w := fun _ _ _ _ => rfl
  unfold pv
  go_enter Try.func68, Try.ntmps68
  go_wp2
  go_ret
  exact ⟨w.heap.size + 1, rfl, by omega, by simp, by simp, ((Below.refl _ _).alloc (Nat.le_refl _) _).alloc (by simp) _⟩

end Go.Proofs.Ytdifndnogpcbkaa
