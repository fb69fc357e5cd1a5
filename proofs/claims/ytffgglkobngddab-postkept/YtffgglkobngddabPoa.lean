/- Transfers and senders in memory; the walks of the small functions of post. -/
import Derived.Test.YtffgglkobngddabChecked
import Derived.Test.YtffgglkobngddabPoMath
import Derived.Test.YtffgglkobngddabGn
import Derived.Deep.QuietTactic
import Derived.BigQuiet
namespace Go.Proofs.Ytffgglkobngddab.Po
open Go.RowKit Go.Proofs.Ytffgglkobngddab.Gn

/-- A transfer, as a value, as cells, as a block. -/
def tv (t : Tr) : Value := .agg #[.int .i64 t.n, .int .i64 t.k, .int .i64 t.a, .int .i64 t.s]
def tob (t : Tr) : Obj := .cells #[.int .i64 t.n, .int .i64 t.k, .int .i64 t.a, .int .i64 t.s] 42
def kT : Kind Tr where
  cells := fun t => [.int .i64 t.n, .int .i64 t.k, .int .i64 t.a, .int .i64 t.s]
  size := 4
  len := fun _ => rfl
  one := fun x u hu => by simp at hu; rcases hu with rfl | rfl | rfl | rfl <;> rfl
  pos := by decide

theorem infoT : (Try.prog.info? 42).map (fun i => (i.zero, i.size, i.bytes)) = some (some (.agg #[.int .i64 0, .int .i64 0, .int .i64 0, .int .i64 0]), 4, 32) := by kernel_rfl
theorem elemT : Elem Try.prog kT 38 42 32 := by
  obtain ⟨i, h1, h2, h3, h4⟩ := info_parts infoT
  exact ⟨Try.underlying38, i, _, h1, h2, h3, h4, rfl⟩

/-- The cells of a transfer of a list. -/
theorem tr_cells {w : World} {a : Option Addr} {cap : Nat} {L : List Tr} (h : Lies kT w a cap L) {i : Nat} (hi : i < L.length) :
    ∃ b off, a = some ⟨b, off, none⟩ ∧ b < w.heap.size ∧ w.cell? ⟨b, off + i * 4, none⟩ = some (.int .i64 (L.getD i zeroT).n) ∧ w.cell? ⟨b, off + i * 4 + 1, none⟩ = some (.int .i64 (L.getD i zeroT).k) ∧
      w.cell? ⟨b, off + i * 4 + 2, none⟩ = some (.int .i64 (L.getD i zeroT).a) ∧ w.cell? ⟨b, off + i * 4 + 3, none⟩ = some (.int .i64 (L.getD i zeroT).s) := by
  obtain ⟨b, off, ha, hb, hc⟩ := h.elem (i := i) (x := L.getD i zeroT) (by simp [List.getD, hi])
  exact ⟨b, off, ha, hb, hc 0 _ rfl, hc 1 _ rfl, hc 2 _ rfl, hc 3 _ rfl⟩

theorem tob_cells {W : World} {b : Nat} {t : Tr} (hb : W.heap[b]? = some (tob t)) :
    W.cell? ⟨b, 0, none⟩ = some (.int .i64 t.n) ∧ W.cell? ⟨b, 1, none⟩ = some (.int .i64 t.k) ∧ W.cell? ⟨b, 2, none⟩ = some (.int .i64 t.a) ∧ W.cell? ⟨b, 3, none⟩ = some (.int .i64 t.s) := by
  unfold tob at hb
  refine ⟨?_, ?_, ?_, ?_⟩ <;> simp [World.cell?, hb]

/-- A sender, as a value, as a block. -/
def sv (s : Se) (a : Option Addr) (cap : Nat) : Value := .agg #[.int .i64 s.sent, .slice a s.kept.length cap]
def so (s : Se) (a : Option Addr) (cap : Nat) : Obj := .cells #[.int .i64 s.sent, .slice a s.kept.length cap] 40
theorem so_cells {W : World} {b : Nat} {s : Se} {a : Option Addr} {cap : Nat} (hb : W.heap[b]? = some (so s a cap)) : W.cell? ⟨b, 0, none⟩ = some (.int .i64 s.sent) ∧ W.cell? ⟨b, 1, none⟩ = some (.slice a s.kept.length cap) := by
  unfold so at hb
  refine ⟨?_, ?_⟩ <;> simp [World.cell?, hb]
theorem so_free {W : World} {b : Nat} {s : Se} {a : Option Addr} {cap : Nat} (hb : W.heap[b]? = some (so s a cap)) : W.frozen? ⟨b, 0, none⟩ = false ∧ W.frozen? ⟨b, 1, none⟩ = false := by
  unfold so at hb
  refine ⟨?_, ?_⟩ <;> simp [World.frozen?, hb]

theorem ret_bool {a b : Bool} (h : a = b) : Ending.returned (.bool a) = .returned (.bool b) := by rw [h]
theorem ret_int {k : IntKind} {a b : Int} (h : a = b) : Ending.returned (.int k a) = .returned (.int k b) := by rw [h]
theorem hid {p : Prop} (h : p) : Hid p := h

/-! ### numbers -/
set_option maxHeartbeats 400000 in
theorem numbers_any (m : Int) (w : World) :
    Calls Try.prog 32 #[.int .i64 m] w fun e w' => e = .returned (.func (.func 41) #[] #[.pointer (some ⟨w.heap.size, 0, none⟩)]) ∧ w' = w.alloc (.cells #[.int .i64 m] 3) := by
  have hmf : ∀ (fn : Fn) (first cap : Array Value) (w : World), (Instr.makeFunc fn first cap).run Try.prog w = .ok (.func fn first cap) w := fun _ _ _ _ => rfl
  go_enter Try.func32, Try.ntmps32
  go_wp2
  go_ret
  exact ⟨rfl, rfl⟩

set_option maxHeartbeats 400000 in
theorem number_any (c : Nat) (m : Int) (w : World) (hc : w.heap[c]? = some (.cells #[.int .i64 m] 3)) (h1 : -1000000000 ≤ m) (h2 : m ≤ 1000000000) :
    Calls Try.prog 41 #[.pointer (some ⟨c, 0, none⟩)] w fun e w' => e = .returned (.int .i64 (m + 1)) ∧ w' = w.setCell ⟨c, 0, none⟩ (.int .i64 (m + 1)) := by
  have C1 : w.cell? ⟨c, 0, none⟩ = some (.int .i64 m) := cell_of_one hc
  have F1 : w.frozen? ⟨c, 0, none⟩ = false := free_of_one hc
  clear hc
  go_enter Try.func41, Try.ntmps41
  go_wp2
  go_ret
  exact ⟨rfl, rfl⟩

/-! ### wrongTransfer -/
theorem wrongT_ways (t : Tr) (m : Int) :
    ((t.k != 1) = true ∧ (t.k != 2) = true ∧ (t.k != 3) = true ∧ Hid (wrongT t m = 1)) ∨
    (((t.k != 1) = false ∨ ((t.k != 1) = true ∧ (t.k != 2) = false) ∨ ((t.k != 1) = true ∧ (t.k != 2) = true ∧ (t.k != 3) = false)) ∧
      ((t.a < 0 ∧ Hid (wrongT t m = 3)) ∨ (0 ≤ t.a ∧ 30 ≤ t.a ∧ Hid (wrongT t m = 3)) ∨ (0 ≤ t.a ∧ t.a < 30 ∧ t.s < 1 ∧ Hid (wrongT t m = 3)) ∨ (0 ≤ t.a ∧ t.a < 30 ∧ 1 ≤ t.s ∧ 1000000 < t.s ∧ Hid (wrongT t m = 3)) ∨
       (0 ≤ t.a ∧ t.a < 30 ∧ 1 ≤ t.s ∧ t.s ≤ 1000000 ∧ (t.n != m) = true ∧ Hid (wrongT t m = 2)) ∨ (0 ≤ t.a ∧ t.a < 30 ∧ 1 ≤ t.s ∧ t.s ≤ 1000000 ∧ (t.n != m) = false ∧ Hid (wrongT t m = 0)))) := by
  by_cases hk : noKind t.k
  · exact Or.inl ⟨by simpa using hk.1, by simpa using hk.2.1, by simpa using hk.2.2, by unfold Hid wrongT; rw [if_pos hk]⟩
  right
  have k' : ((t.k != 1) = false ∨ ((t.k != 1) = true ∧ (t.k != 2) = false) ∨ ((t.k != 1) = true ∧ (t.k != 2) = true ∧ (t.k != 3) = false)) := by
    unfold noKind at hk
    by_cases h1 : t.k = 1
    · exact Or.inl (by simpa using h1)
    by_cases h2 : t.k = 2
    · exact Or.inr (Or.inl ⟨by simpa using h1, by simpa using h2⟩)
    by_cases h3 : t.k = 3
    · exact Or.inr (Or.inr ⟨by simpa using h1, by simpa using h2, by simpa using h3⟩)
    · exact absurd ⟨h1, h2, h3⟩ hk
  refine ⟨k', ?_⟩
  have y : far t.a t.s → Hid (wrongT t m = 3) := fun h => by unfold Hid wrongT; rw [if_neg hk, if_pos h]
  by_cases h1 : t.a < 0
  · exact Or.inl ⟨h1, y (by unfold far; omega)⟩
  by_cases h2 : 30 ≤ t.a
  · exact Or.inr (Or.inl ⟨by omega, h2, y (by unfold far; omega)⟩)
  by_cases h3 : t.s < 1
  · exact Or.inr (Or.inr (Or.inl ⟨by omega, by omega, h3, y (by unfold far; omega)⟩))
  by_cases h4 : 1000000 < t.s
  · exact Or.inr (Or.inr (Or.inr (Or.inl ⟨by omega, by omega, by omega, h4, y (by unfold far; omega)⟩)))
  have hf : ¬ far t.a t.s := by unfold far; omega
  by_cases h5 : t.n = m
  · exact Or.inr (Or.inr (Or.inr (Or.inr (Or.inr ⟨by omega, by omega, by omega, by omega, by simpa using h5, by unfold Hid wrongT; rw [if_neg hk, if_neg hf, if_neg (by simpa using h5)]⟩))))
  · exact Or.inr (Or.inr (Or.inr (Or.inr (Or.inl ⟨by omega, by omega, by omega, by omega, by simpa using h5, by unfold Hid wrongT; rw [if_neg hk, if_neg hf, if_pos h5]⟩))))

set_option maxHeartbeats 2000000 in
theorem wrongTransfer_any (t : Tr) (m : Int) (w : World) :
    Calls Try.prog 33 #[tv t, .int .i64 m] w fun e w' => e = .returned (.int .i64 (wrongT t m)) ∧ Below w.heap.size w w' := by
  unfold tv
  have b0 : ∀ o, Below w.heap.size w (w.alloc o) := below_alloc w
  rcases wrongT_ways t m with ⟨h1, h2, h3, H⟩ | ⟨hk, h⟩
  · go_enter Try.func33, Try.ntmps33
    go_wp2
    go_ret
    exact ⟨ret_int H.out.symm, b0 _⟩
  · rcases hk with k1 | ⟨k1, k2⟩ | ⟨k1, k2, k3⟩ <;> rcases h with ⟨h1, H⟩ | ⟨h1, h2, H⟩ | ⟨h1, h2, h3, H⟩ | ⟨h1, h2, h3, h4, H⟩ | ⟨h1, h2, h3, h4, h5, H⟩ | ⟨h1, h2, h3, h4, h5, H⟩
    all_goals
      go_enter Try.func33, Try.ntmps33
      go_wp2
      go_ret
      exact ⟨ret_int H.out.symm, b0 _⟩

/-! ### above -/
set_option maxHeartbeats 400000 in
theorem above_any (seen : Int) (w : World) :
    Calls Try.prog 36 #[.int .i64 seen] w fun e w' => e = .returned (.func (.func 42) #[] #[.pointer (some ⟨w.heap.size, 0, none⟩)]) ∧ w' = w.alloc (.cells #[.int .i64 seen] 3) := by
  have hmf : ∀ (fn : Fn) (first cap : Array Value) (w : World), (Instr.makeFunc fn first cap).run Try.prog w = .ok (.func fn first cap) w := fun _ _ _ _ => rfl
  go_enter Try.func36, Try.ntmps36
  go_wp2
  go_ret
  exact ⟨rfl, rfl⟩

set_option maxHeartbeats 400000 in
theorem stays_any (t : Tr) (c : Nat) (seen : Int) (w : World) (hc : w.heap[c]? = some (.cells #[.int .i64 seen] 3)) :
    Calls Try.prog 42 #[tv t, .pointer (some ⟨c, 0, none⟩)] w fun e w' => e = .returned (.bool (decide (seen < t.n))) ∧ Below w.heap.size w w' := by
  have hcl : c < w.heap.size := lt_of_block hc
  have hc1 : ∀ o', (w.alloc o').cell? ⟨c, 0, none⟩ = some (.int .i64 seen) := fun o' => by rw [World.cell?_alloc_past _ _ _ hcl]; exact cell_of_one hc
  clear hc
  unfold tv
  by_cases h : seen < t.n
  all_goals
    go_enter Try.func42, Try.ntmps42
    go_wp2
    go_ret
    exact ⟨ret_bool (by simp [h]), below_alloc _ _⟩
end Go.Proofs.Ytffgglkobngddab.Po
