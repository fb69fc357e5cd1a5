/- Advices and stands in memory; the walks of the small functions of stand. -/
import Derived.Test.YtmhcdiimamadfabChecked
import Derived.Test.YtmhcdiimamadfabStMath
import Derived.Test.YtmhcdiimamadfabGn
import Derived.Test.YtmhcdiimamadfabGnInt
import Derived.Deep.QuietTactic
import Derived.BigQuiet
import Derived.Deep.RegionWith
import Derived.Deep.RegionLaw
import Derived.Deep.CutRange
import Derived.Deep.RegionHeld3
namespace Go.Proofs.Ytmhcdiimamadfab.St
open Go.RowKit Go.Proofs.Ytmhcdiimamadfab.Gn

/-- An advice, as a value, as cells, as a block. -/
def av (a : Ad) : Value := .agg #[.int .i64 a.c, .int .i64 a.s, .int .i64 a.m, .int .i64 a.t]
def aob (a : Ad) : Obj := .cells #[.int .i64 a.c, .int .i64 a.s, .int .i64 a.m, .int .i64 a.t] 63
def kA : Kind Ad where
  cells := fun a => [.int .i64 a.c, .int .i64 a.s, .int .i64 a.m, .int .i64 a.t]
  size := 4
  len := fun _ => rfl
  one := fun x u hu => by simp at hu; rcases hu with rfl | rfl | rfl | rfl <;> rfl
  pos := by decide

theorem infoA : (Try.prog.info? 63).map (fun i => (i.zero, i.size, i.bytes)) = some (some (.agg #[.int .i64 0, .int .i64 0, .int .i64 0, .int .i64 0]), 4, 32) := by kernel_rfl
theorem infoI : (Try.prog.info? 3).map (fun i => (i.zero, i.size, i.bytes)) = some (some (.int .i64 0), 1, 8) := by kernel_rfl
theorem elemA : Elem Try.prog kA 59 63 32 := by
  obtain ⟨i, h1, h2, h3, h4⟩ := info_parts infoA
  exact ⟨Try.underlying59, i, _, h1, h2, h3, h4, rfl⟩
theorem elemI : Elem Try.prog kI 58 3 8 := by
  obtain ⟨i, h1, h2, h3, h4⟩ := info_parts infoI
  exact ⟨Try.underlying58, i, _, h1, h2, h3, h4, rfl⟩

/-- What make lays. -/
theorem make_ints (n : Nat) (h : n ≤ 1000000) (w : World) : (Instr.makeSlice 58 (.int .i64 (n : Int)) (.int .i64 (n : Int))).run Try.prog w = .ok (.slice (some ⟨w.heap.size, 0, none⟩) n n) (w.alloc (.cells (madeCells #[.int .i64 0] n) 3)) :=
  run_make_row' 58 3 (.int .i64 0) 8 Try.underlying58 infoI rfl .i64 .i64 n (by omega) (by omega) w

/-- The cells of an advice of a list. -/
theorem ad_cells {w : World} {a : Option Addr} {cap : Nat} {L : List Ad} (h : Lies kA w a cap L) {i : Nat} (hi : i < L.length) :
    ∃ b off, a = some ⟨b, off, none⟩ ∧ b < w.heap.size ∧ w.cell? ⟨b, off + i * 4, none⟩ = some (.int .i64 (L.getD i zA).c) ∧ w.cell? ⟨b, off + i * 4 + 1, none⟩ = some (.int .i64 (L.getD i zA).s) ∧
      w.cell? ⟨b, off + i * 4 + 2, none⟩ = some (.int .i64 (L.getD i zA).m) ∧ w.cell? ⟨b, off + i * 4 + 3, none⟩ = some (.int .i64 (L.getD i zA).t) := by
  obtain ⟨b, off, ha, hb, hc⟩ := h.elem (i := i) (x := L.getD i zA) (by simp [List.getD, hi])
  exact ⟨b, off, ha, hb, hc 0 _ rfl, hc 1 _ rfl, hc 2 _ rfl, hc 3 _ rfl⟩

theorem aob_cells {W : World} {b : Nat} {t : Ad} (hb : W.heap[b]? = some (aob t)) :
    W.cell? ⟨b, 0, none⟩ = some (.int .i64 t.c) ∧ W.cell? ⟨b, 1, none⟩ = some (.int .i64 t.s) ∧ W.cell? ⟨b, 2, none⟩ = some (.int .i64 t.m) ∧ W.cell? ⟨b, 3, none⟩ = some (.int .i64 t.t) := by
  unfold aob at hb
  refine ⟨?_, ?_, ?_, ?_⟩ <;> simp [World.cell?, hb]
theorem aob_free {W : World} {b : Nat} {t : Ad} (hb : W.heap[b]? = some (aob t)) :
    W.frozen? ⟨b, 0, none⟩ = false ∧ W.frozen? ⟨b, 1, none⟩ = false ∧ W.frozen? ⟨b, 2, none⟩ = false ∧ W.frozen? ⟨b, 3, none⟩ = false := by
  unfold aob at hb
  refine ⟨?_, ?_, ?_, ?_⟩ <;> simp [World.frozen?, hb]

/-- A stand, as a value, as a block; v1, v2: its slices. -/
def dv (n : Int) (v1 v2 : Value) : Value := .agg #[.int .i64 n, v1, v2]
def dob (n : Int) (v1 v2 : Value) : Obj := .cells #[.int .i64 n, v1, v2] 61
theorem dob_cells {W : World} {b : Nat} {n : Int} {v1 v2 : Value} (hb : W.heap[b]? = some (dob n v1 v2)) : W.cell? ⟨b, 0, none⟩ = some (.int .i64 n) ∧ W.cell? ⟨b, 1, none⟩ = some v1 ∧ W.cell? ⟨b, 2, none⟩ = some v2 := by
  unfold dob at hb
  refine ⟨?_, ?_, ?_⟩ <;> simp [World.cell?, hb]
theorem dob_free {W : World} {b : Nat} {n : Int} {v1 v2 : Value} (hb : W.heap[b]? = some (dob n v1 v2)) : W.frozen? ⟨b, 0, none⟩ = false ∧ W.frozen? ⟨b, 1, none⟩ = false ∧ W.frozen? ⟨b, 2, none⟩ = false := by
  unfold dob at hb
  refine ⟨?_, ?_, ?_⟩ <;> simp [World.frozen?, hb]
/-- A stand that is written anew into its block. -/
def put3 (W : World) (b : Nat) (n : Int) (v1 v2 : Value) : World := ((W.setCell ⟨b, 0, none⟩ (.int .i64 n)).setCell ⟨b, 1, none⟩ v1).setCell ⟨b, 2, none⟩ v2
theorem put3_same {W : World} {b : Nat} {n : Int} {v1 v2 : Value} (h : W.heap[b]? = some (dob n v1 v2)) (n' : Int) (u1 u2 : Value) : (put3 W b n' u1 u2).heap[b]? = some (dob n' u1 u2) := by
  have h1 := heap_setCell_same W b 0 _ _ (.int .i64 n') h
  have h2 := heap_setCell_same _ b 1 _ _ u1 h1
  have h3 := heap_setCell_same _ b 2 _ _ u2 h2
  unfold put3
  rw [h3]; simp [dob]
theorem put3_other (W : World) (b k : Nat) (n' : Int) (u1 u2 : Value) (h : k ≠ b) : (put3 W b n' u1 u2).heap[k]? = W.heap[k]? := by
  unfold put3
  rw [heap_setCell_other _ ⟨b, 2, none⟩ _ _ h, heap_setCell_other _ ⟨b, 1, none⟩ _ _ h, heap_setCell_other _ ⟨b, 0, none⟩ _ _ h]
theorem put3_size (W : World) (b : Nat) (n' : Int) (u1 u2 : Value) : (put3 W b n' u1 u2).heap.size = W.heap.size := by simp [put3]
theorem put3_below {B : Nat} {w W : World} (hb : Below B w W) (b : Nat) (h : B ≤ b) (n' : Int) (u1 u2 : Value) : Below B w (put3 W b n' u1 u2) := by
  have h0 : B ≤ (⟨b, 0, none⟩ : Addr).block := h
  have h1 : B ≤ (⟨b, 1, none⟩ : Addr).block := h
  have h2 : B ≤ (⟨b, 2, none⟩ : Addr).block := h
  exact ((hb.setCell h0 _).setCell h1 _).setCell h2 _
theorem put3_row {α : Type} {K : Kind α} {W : World} {e : TypeId} {base : Nat} {v : Value} {L : List α} (h : Row K e W base v L) (b : Nat) (hb : ∀ k, v.ownBlock = some k → k ≠ b) (n' : Int) (u1 u2 : Value) : Row K e (put3 W b n' u1 u2) base v L :=
  h.keep (by rw [put3_size]; exact Nat.le_refl _) fun k hk _ => put3_other W b k n' u1 u2 (hb k hk)

theorem ret_bool {a b : Bool} (h : a = b) : Ending.returned (.bool a) = .returned (.bool b) := by rw [h]
theorem ret_int {k : IntKind} {a b : Int} (h : a = b) : Ending.returned (.int k a) = .returned (.int k b) := by rw [h]
theorem hid {p : Prop} (h : p) : Hid p := h
theorem bel_alloc {W X : World} (h : Below W.heap.size W X) (o : Obj) : Below W.heap.size W (X.alloc o) := h.alloc h.size o

/-- Not in one block. -/
def Ap (u v : Value) : Prop := ∀ k, u.ownBlock = some k → v.ownBlock = some k → False
theorem Ap.symm {u v : Value} (h : Ap u v) : Ap v u := fun k h1 h2 => h k h2 h1
theorem ap_nil (v : Value) : Ap (.slice none 0 0) v := fun k h => by cases h

theorem Row.set {α : Type} {K : Kind α} {e : TypeId} {w : World} {base : Nat} {v : Value} {L : List α} (h : Row K e w base v L) (p : Addr) (hp : p.block < base) (u : Value) : Row K e (w.setCell p u) base v L :=
  h.keep (by simp) fun k hk _ => heap_setCell_other _ _ _ _ (by have := (h.block_lt k hk).1; omega)
theorem Row.set_ne {α : Type} {K : Kind α} {e : TypeId} {w : World} {base : Nat} {v : Value} {L : List α} (h : Row K e w base v L) (p : Addr) (hp : ∀ k, v.ownBlock = some k → k ≠ p.block) (u : Value) : Row K e (w.setCell p u) base v L :=
  h.keep (by simp) fun k hk _ => heap_setCell_other _ _ _ _ (hp k hk)
theorem row_at {α : Type} {K : Kind α} {e : TypeId} {W : World} {base : Nat} {v : Value} {L : List α} (h : Row K e W base v L) : ∃ a cap, v = .slice a L.length cap ∧ Row K e W base (.slice a L.length cap) L ∧ Lies K W a cap L := by
  obtain ⟨a, cap, rfl, hl, -, -⟩ := h.lies
  exact ⟨a, cap, rfl, h, hl⟩

/-- A slice value that lies in memory as a list. -/
def At {α : Type} (K : Kind α) (W : World) (v : Value) (L : List α) : Prop := ∃ a cap, v = .slice a L.length cap ∧ Lies K W a cap L
theorem At.below {α : Type} {K : Kind α} {W W' : World} {v : Value} {L : List α} (h : At K W v L) (hb : Below W.heap.size W W') : At K W' v L := by
  obtain ⟨a, cap, rfl, hl⟩ := h
  exact ⟨a, cap, rfl, hl.below hb⟩
theorem At.drew {α : Type} {K : Kind α} {W : World} {v : Value} {L : List α} (h : At K W v L) : At K W.drew v L := by
  obtain ⟨a, cap, rfl, hl⟩ := h
  exact ⟨a, cap, rfl, hl.drew⟩
theorem At.len {α : Type} {K : Kind α} {W : World} {v : Value} {L : List α} (h : At K W v L) : L.length ≤ maxLen := by
  obtain ⟨a, cap, rfl, hl⟩ := h
  exact hl.len
theorem Row.at {α : Type} {K : Kind α} {e : TypeId} {W : World} {base : Nat} {v : Value} {L : List α} (h : Row K e W base v L) : At K W v L := by
  obtain ⟨a, cap, h1, -, h2⟩ := row_at h
  exact ⟨a, cap, h1, h2⟩
theorem at_nil {α : Type} (K : Kind α) (W : World) : At K W (.slice none 0 0) [] := ⟨none, 0, rfl, lies_nil K W⟩

/-- What New and Give answer: a stand whose lists the call has made, and an error's number. -/
def AnswersD (w : World) (r : Sd × Int) (e : Ending) (w' : World) : Prop :=
  ∃ v1 v2, e = .returned (.tuple #[dv r.1.cap v1 v2, .int .i64 r.2]) ∧ Row kI 3 w' w.heap.size v1 r.1.used ∧ Row kA 63 w' w.heap.size v2 r.1.adv ∧ Below w.heap.size w w'

/-! ### isLimit and the document's sum -/
theorem lim_ways (n : Int) : (n < 0 ∧ Hid (limB n = false)) ∨ (0 ≤ n ∧ 1000000 < n ∧ Hid (limB n = false)) ∨ (0 ≤ n ∧ n ≤ 1000000 ∧ Hid (limB n = true)) := by
  by_cases h1 : n < 0
  · exact Or.inl ⟨h1, limB_false (fun h => by have := h.1; omega)⟩
  by_cases h2 : 1000000 < n
  · exact Or.inr (Or.inl ⟨by omega, h2, limB_false (fun h => by have := h.2; omega)⟩)
  · exact Or.inr (Or.inr ⟨by omega, by omega, limB_true ⟨by omega, by omega⟩⟩)

set_option maxHeartbeats 400000 in
theorem isLimit_any (n : Int) (w : World) : Calls Try.prog 49 #[.int .i64 n] w fun e w' => e = .returned (.bool (limB n)) ∧ w' = w := by
  rcases lim_ways n with ⟨h1, H⟩ | ⟨h1, h2, H⟩ | ⟨h1, h2, H⟩
  all_goals
    go_enter Try.func49, Try.ntmps49
    go_wp2
    go_ret
    exact ⟨ret_bool (by first | exact H.out.symm | (rw [H.out]; apply decide_eq_false; omega) | (rw [H.out]; apply decide_eq_true; omega)), rfl⟩

set_option maxHeartbeats 400000 in
theorem sum_any (n : Int) (w : World) : Calls Try.prog 50 #[.int .i64 n] w fun e w' => e = .returned (.bool (limB n)) ∧ w' = w := by
  rcases lim_ways n with ⟨h1, H⟩ | ⟨h1, h2, H⟩ | ⟨h1, h2, H⟩
  all_goals
    go_enter Try.func50, Try.ntmps50
    go_wp2
    go_ret
    exact ⟨ret_bool (by first | exact H.out.symm | (rw [H.out]; apply decide_eq_false; omega) | (rw [H.out]; apply decide_eq_true; omega)), rfl⟩

/-! ### isAdvice -/
theorem fits_ways (a : Ad) (n : Int) :
    (a.c < 0 ∧ Hid (fitsB a n = false)) ∨ (0 ≤ a.c ∧ n ≤ a.c ∧ Hid (fitsB a n = false)) ∨ (0 ≤ a.c ∧ a.c < n ∧ a.s < 0 ∧ Hid (fitsB a n = false)) ∨ (0 ≤ a.c ∧ a.c < n ∧ 0 ≤ a.s ∧ 8 ≤ a.s ∧ Hid (fitsB a n = false)) ∨
    (0 ≤ a.c ∧ a.c < n ∧ 0 ≤ a.s ∧ a.s < 8 ∧ a.m < 1 ∧ Hid (fitsB a n = false)) ∨ (0 ≤ a.c ∧ a.c < n ∧ 0 ≤ a.s ∧ a.s < 8 ∧ 1 ≤ a.m ∧ 1000000 < a.m ∧ Hid (fitsB a n = false)) ∨
    (0 ≤ a.c ∧ a.c < n ∧ 0 ≤ a.s ∧ a.s < 8 ∧ 1 ≤ a.m ∧ a.m ≤ 1000000 ∧ a.t < 0 ∧ Hid (fitsB a n = false)) ∨ (0 ≤ a.c ∧ a.c < n ∧ 0 ≤ a.s ∧ a.s < 8 ∧ 1 ≤ a.m ∧ a.m ≤ 1000000 ∧ 0 ≤ a.t ∧ 1000000 < a.t ∧ Hid (fitsB a n = false)) ∨
    (0 ≤ a.c ∧ a.c < n ∧ 0 ≤ a.s ∧ a.s < 8 ∧ 1 ≤ a.m ∧ a.m ≤ 1000000 ∧ 0 ≤ a.t ∧ a.t ≤ 1000000 ∧ Hid (fitsB a n = true)) := by
  by_cases h1 : a.c < 0
  · exact Or.inl ⟨h1, fitsB_false fun h => by have := h.1; omega⟩
  by_cases h2 : n ≤ a.c
  · exact Or.inr (Or.inl ⟨by omega, h2, fitsB_false fun h => by have := h.2.1; omega⟩)
  by_cases h3 : a.s < 0
  · exact Or.inr (Or.inr (Or.inl ⟨by omega, by omega, h3, fitsB_false fun h => by have := h.2.2.1; omega⟩))
  by_cases h4 : 8 ≤ a.s
  · exact Or.inr (Or.inr (Or.inr (Or.inl ⟨by omega, by omega, by omega, h4, fitsB_false fun h => by have := h.2.2.2.1; omega⟩)))
  by_cases h5 : a.m < 1
  · exact Or.inr (Or.inr (Or.inr (Or.inr (Or.inl ⟨by omega, by omega, by omega, by omega, h5, fitsB_false fun h => by have := h.2.2.2.2.1; omega⟩))))
  by_cases h6 : 1000000 < a.m
  · exact Or.inr (Or.inr (Or.inr (Or.inr (Or.inr (Or.inl ⟨by omega, by omega, by omega, by omega, by omega, h6, fitsB_false fun h => by have := h.2.2.2.2.2.1; omega⟩)))))
  by_cases h7 : a.t < 0
  · exact Or.inr (Or.inr (Or.inr (Or.inr (Or.inr (Or.inr (Or.inl ⟨by omega, by omega, by omega, by omega, by omega, by omega, h7, fitsB_false fun h => by have := h.2.2.2.2.2.2.1; omega⟩))))))
  by_cases h8 : 1000000 < a.t
  · exact Or.inr (Or.inr (Or.inr (Or.inr (Or.inr (Or.inr (Or.inr (Or.inl ⟨by omega, by omega, by omega, by omega, by omega, by omega, by omega, h8, fitsB_false fun h => by have := h.2.2.2.2.2.2.2; omega⟩)))))))
  exact Or.inr (Or.inr (Or.inr (Or.inr (Or.inr (Or.inr (Or.inr (Or.inr ⟨by omega, by omega, by omega, by omega, by omega, by omega, by omega, by omega, fitsB_true ⟨by omega, by omega, by omega, by omega, by omega, by omega, by omega, by omega⟩⟩)))))))

set_option maxHeartbeats 2000000 in
theorem isAdvice_any (a : Ad) (n : Int) (w : World) :
    Calls Try.prog 51 #[av a, .int .i64 n] w fun e w' => e = .returned (.bool (fitsB a n)) ∧ Below w.heap.size w w' := by
  unfold av
  have b0 : ∀ o, Below w.heap.size w (w.alloc o) := below_alloc w
  rcases fits_ways a n with ⟨h1, H⟩ | ⟨h1, h2, H⟩ | ⟨h1, h2, h3, H⟩ | ⟨h1, h2, h3, h4, H⟩ | ⟨h1, h2, h3, h4, h5, H⟩ | ⟨h1, h2, h3, h4, h5, h6, H⟩ | ⟨h1, h2, h3, h4, h5, h6, h7, H⟩ | ⟨h1, h2, h3, h4, h5, h6, h7, h8, H⟩ | ⟨h1, h2, h3, h4, h5, h6, h7, h8, H⟩
  all_goals
    go_enter Try.func51, Try.ntmps51
    go_wp2
    go_ret
    exact ⟨ret_bool (by first | exact H.out.symm | (rw [H.out]; apply decide_eq_false; omega) | (rw [H.out]; apply decide_eq_true; omega)), b0 _⟩
end Go.Proofs.Ytmhcdiimamadfab.St
