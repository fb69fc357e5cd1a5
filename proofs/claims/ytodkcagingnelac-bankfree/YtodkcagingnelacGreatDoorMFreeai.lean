import Derived.Test.YtodkcagingnelacGreatDoorChecked
import Derived.Deep.QuietTactic
import Derived.BigQuiet
import Derived.Deep.RegionWith
import Derived.Deep.RegionLaw
import Derived.Deep.CutRange
import Derived.Deep.RegionHeld3
import Derived.Test.YtodkcagingnelacGreatDoorMFreeaa
import Derived.Test.YtodkcagingnelacGreatDoorMFreead
import Derived.Test.YtodkcagingnelacGreatDoorMFreeah
namespace Go.Proofs.YtodkcagingnelacGreatDoor.St
open Go.RowKit Go.Proofs.YtodkcagingnelacGreatDoor.Gn
/-- An advice, as a value, as cells, as a block. -/
def av (a : Ad) : Value := .agg #[.int .i64 a.c, .int .i64 a.s, .int .i64 a.m, .int .i64 a.t]
def aob (a : Ad) : Obj := .cells #[.int .i64 a.c, .int .i64 a.s, .int .i64 a.m, .int .i64 a.t] 118
def kA : Kind Ad where
  cells := fun a => [.int .i64 a.c, .int .i64 a.s, .int .i64 a.m, .int .i64 a.t]
  size := 4
  len := fun _ => rfl
  one := fun x u hu => by simp at hu; rcases hu with rfl | rfl | rfl | rfl <;> rfl
  pos := by decide
theorem infoA : (Tryz.prog.info? 118).map (fun i => (i.zero, i.size, i.bytes)) = some (some (.agg #[.int .i64 0, .int .i64 0, .int .i64 0, .int .i64 0]), 4, 32) := by kernel_rfl
theorem infoI : (Tryz.prog.info? 3).map (fun i => (i.zero, i.size, i.bytes)) = some (some (.int .i64 0), 1, 8) := by kernel_rfl
theorem elemA : Elem Tryz.prog kA 36 118 32 := by
  obtain ⟨i, h1, h2, h3, h4⟩ := info_parts infoA
  exact ⟨Tryz.underlying36, i, _, h1, h2, h3, h4, rfl⟩
theorem elemI : Elem Tryz.prog kI 27 3 8 := by
  obtain ⟨i, h1, h2, h3, h4⟩ := info_parts infoI
  exact ⟨Tryz.underlying27, i, _, h1, h2, h3, h4, rfl⟩
/-- What make lays. -/
theorem make_ints (n : Nat) (h : n ≤ 1000000) (w : World) : (Instr.makeSlice 27 (.int .i64 (n : Int)) (.int .i64 (n : Int))).run Tryz.prog w = .ok (.slice (some ⟨w.heap.size, 0, none⟩) n n) (w.alloc (.cells (madeCells #[.int .i64 0] n) 3)) :=
  run_make_row' 27 3 (.int .i64 0) 8 Tryz.underlying27 infoI rfl .i64 .i64 n (by omega) (by omega) w
/-- The cells of an advice of a list. -/
theorem ad_cells {w : World} {a : Option Addr} {cap : Nat} {L : List Ad} (h : Lies kA w a cap L) {i : Nat} (hi : i < L.length) :
    ∃ b off, a = some ⟨b, off, none⟩ ∧ b < w.heap.size ∧ w.cell? ⟨b, off + i * 4, none⟩ = some (.int .i64 (L.getD i zA).c) ∧ w.cell? ⟨b, off + i * 4 + 1, none⟩ = some (.int .i64 (L.getD i zA).s) ∧
      w.cell? ⟨b, off + i * 4 + 2, none⟩ = some (.int .i64 (L.getD i zA).m) ∧ w.cell? ⟨b, off + i * 4 + 3, none⟩ = some (.int .i64 (L.getD i zA).t) := by
  obtain ⟨b, off, ha, hb, hc⟩ := h.elem (i := i) (x := L.getD i zA) (by simp [List.getD, hi])
  exact ⟨b, off, ha, hb, hc 0 _ rfl, hc 1 _ rfl, hc 2 _ rfl, hc 3 _ rfl⟩
theorem aob_cells {W : World} {b : Nat} {t : Ad} (hb : W.heap[b]? = some (aob t)) :
    W.cell? ⟨b, 0, none⟩ = some (.int .i64 t.c) ∧ W.cell? ⟨b, 1, none⟩ = some (.int .i64 t.s) ∧ W.cell? ⟨b, 2, none⟩ = some (.int .i64 t.m) ∧ W.cell? ⟨b, 3, none⟩ = some (.int .i64 t.t) := by
  unfold aob at hb
  refine ⟨?_, ?_, ?_, ?_⟩ <;> simp [World.cell?, hb]
/-- A stand, as a value, as a block; v1, v2: its slices. -/
def dv (n : Int) (v1 v2 : Value) : Value := .agg #[.int .i64 n, v1, v2]
def dob (n : Int) (v1 v2 : Value) : Obj := .cells #[.int .i64 n, v1, v2] 38
theorem dob_cells {W : World} {b : Nat} {n : Int} {v1 v2 : Value} (hb : W.heap[b]? = some (dob n v1 v2)) : W.cell? ⟨b, 0, none⟩ = some (.int .i64 n) ∧ W.cell? ⟨b, 1, none⟩ = some v1 ∧ W.cell? ⟨b, 2, none⟩ = some v2 := by
  unfold dob at hb
  refine ⟨?_, ?_, ?_⟩ <;> simp [World.cell?, hb]
theorem dob_free {W : World} {b : Nat} {n : Int} {v1 v2 : Value} (hb : W.heap[b]? = some (dob n v1 v2)) : W.frozen? ⟨b, 0, none⟩ = false ∧ W.frozen? ⟨b, 1, none⟩ = false ∧ W.frozen? ⟨b, 2, none⟩ = false := by
  unfold dob at hb
  refine ⟨?_, ?_, ?_⟩ <;> simp [World.frozen?, hb]
/-- A stand that is written anew into its block. -/
def put3 (W : World) (b : Nat) (n : Int) (v1 v2 : Value) : World := ((W.setCell ⟨b, 0, none⟩ (.int .i64 n)).setCell ⟨b, 1, none⟩ v1).setCell ⟨b, 2, none⟩ v2
theorem put3_same {W : World} {b : Nat} {n : Int} {v1 v2 : Value} (h : W.heap[b]? = some (dob n v1 v2)) (n' : Int) (u1 u2 : Value) : (put3 W b n' u1 u2).heap[b]? = some (dob n' u1 u2) := by
  have h1 := heap_setCell_same W b 0 _ _ (.int .i64 n') h
  have h2 := heap_setCell_same _ b 1 _ _ u1 h1
  have h3 := heap_setCell_same _ b 2 _ _ u2 h2
  unfold put3
  rw [h3]; simp [dob]
theorem put3_other (W : World) (b k : Nat) (n' : Int) (u1 u2 : Value) (h : k ≠ b) : (put3 W b n' u1 u2).heap[k]? = W.heap[k]? := by
  unfold put3
  rw [heap_setCell_other _ ⟨b, 2, none⟩ _ _ h, heap_setCell_other _ ⟨b, 1, none⟩ _ _ h, heap_setCell_other _ ⟨b, 0, none⟩ _ _ h]
theorem put3_size (W : World) (b : Nat) (n' : Int) (u1 u2 : Value) : (put3 W b n' u1 u2).heap.size = W.heap.size := by simp [put3]
theorem put3_below {B : Nat} {w W : World} (hb : Below B w W) (b : Nat) (h : B ≤ b) (n' : Int) (u1 u2 : Value) : Below B w (put3 W b n' u1 u2) := by
  have h0 : B ≤ (⟨b, 0, none⟩ : Addr).block := h
  have h1 : B ≤ (⟨b, 1, none⟩ : Addr).block := h
  have h2 : B ≤ (⟨b, 2, none⟩ : Addr).block := h
  exact ((hb.setCell h0 _).setCell h1 _).setCell h2 _
theorem ret_bool {a b : Bool} (h : a = b) : Ending.returned (.bool a) = .returned (.bool b) := by rw [h]
theorem ret_int {k : IntKind} {a b : Int} (h : a = b) : Ending.returned (.int k a) = .returned (.int k b) := by rw [h]
theorem hid {p : Prop} (h : p) : Hid p := h
theorem bel_alloc {W X : World} (h : Below W.heap.size W X) (o : Obj) : Below W.heap.size W (X.alloc o) := h.alloc h.size o
/-- Not in one block. -/
def Ap (u v : Value) : Prop := ∀ k, u.ownBlock = some k → v.ownBlock = some k → False
theorem Ap.symm {u v : Value} (h : Ap u v) : Ap v u := fun k h1 h2 => h k h2 h1
theorem ap_nil (v : Value) : Ap (.slice none 0 0) v := fun k h => by cases h
theorem Row.set {α : Type} {K : Kind α} {e : TypeId} {w : World} {base : Nat} {v : Value} {L : List α} (h : Row K e w base v L) (p : Addr) (hp : p.block < base) (u : Value) : Row K e (w.setCell p u) base v L :=
  h.keep (by simp) fun k hk _ => heap_setCell_other _ _ _ _ (by have := (h.block_lt k hk).1; omega)
theorem Row.set_ne {α : Type} {K : Kind α} {e : TypeId} {w : World} {base : Nat} {v : Value} {L : List α} (h : Row K e w base v L) (p : Addr) (hp : ∀ k, v.ownBlock = some k → k ≠ p.block) (u : Value) : Row K e (w.setCell p u) base v L :=
  h.keep (by simp) fun k hk _ => heap_setCell_other _ _ _ _ (hp k hk)
theorem row_at {α : Type} {K : Kind α} {e : TypeId} {W : World} {base : Nat} {v : Value} {L : List α} (h : Row K e W base v L) : ∃ a cap, v = .slice a L.length cap ∧ Row K e W base (.slice a L.length cap) L ∧ Lies K W a cap L := by
  obtain ⟨a, cap, rfl, hl, -, -⟩ := h.lies
  exact ⟨a, cap, rfl, h, hl⟩
/-- A slice value that lies in memory as a list. -/
def At {α : Type} (K : Kind α) (W : World) (v : Value) (L : List α) : Prop := ∃ a cap, v = .slice a L.length cap ∧ Lies K W a cap L
theorem At.below {α : Type} {K : Kind α} {W W' : World} {v : Value} {L : List α} (h : At K W v L) (hb : Below W.heap.size W W') : At K W' v L := by
  obtain ⟨a, cap, rfl, hl⟩ := h
  exact ⟨a, cap, rfl, hl.below hb⟩
theorem At.drew {α : Type} {K : Kind α} {W : World} {v : Value} {L : List α} (h : At K W v L) : At K W.drew v L := by
  obtain ⟨a, cap, rfl, hl⟩ := h
  exact ⟨a, cap, rfl, hl.drew⟩
theorem At.len {α : Type} {K : Kind α} {W : World} {v : Value} {L : List α} (h : At K W v L) : L.length ≤ maxLen := by
  obtain ⟨a, cap, rfl, hl⟩ := h
  exact hl.len
theorem Row.at {α : Type} {K : Kind α} {e : TypeId} {W : World} {base : Nat} {v : Value} {L : List α} (h : Row K e W base v L) : At K W v L := by
  obtain ⟨a, cap, h1, -, h2⟩ := row_at h
  exact ⟨a, cap, h1, h2⟩
/-- What New and Give answer: a stand whose lists the call has made, and an error's number. -/
def AnswersD (w : World) (r : Sd × Int) (e : Ending) (w' : World) : Prop :=
  ∃ v1 v2, e = .returned (.tuple #[dv r.1.cap v1 v2, .int .i64 r.2]) ∧ Row kI 3 w' w.heap.size v1 r.1.used ∧ Row kA 118 w' w.heap.size v2 r.1.adv ∧ Below w.heap.size w w'
theorem lim_ways (n : Int) : (n < 0 ∧ Hid (limB n = false)) ∨ (0 ≤ n ∧ 1000000 < n ∧ Hid (limB n = false)) ∨ (0 ≤ n ∧ n ≤ 1000000 ∧ Hid (limB n = true)) := by
  by_cases h1 : n < 0
  · exact Or.inl ⟨h1, limB_false (fun h => by have := h.1; omega)⟩
  by_cases h2 : 1000000 < n
  · exact Or.inr (Or.inl ⟨by omega, h2, limB_false (fun h => by have := h.2; omega)⟩)
  · exact Or.inr (Or.inr ⟨by omega, by omega, limB_true ⟨by omega, by omega⟩⟩)
set_option maxHeartbeats 400000 in
theorem isLimit_any (n : Int) (w : World) : Calls Tryz.prog 59 #[.int .i64 n] w fun e w' => e = .returned (.bool (limB n)) ∧ w' = w := by
  rcases lim_ways n with ⟨h1, H⟩ | ⟨h1, h2, H⟩ | ⟨h1, h2, H⟩
  all_goals
    go_enter Tryz.func59, Tryz.ntmps59
    go_wp2
    go_ret
    exact ⟨ret_bool (by first | exact H.out.symm | (rw [H.out]; apply decide_eq_false; omega) | (rw [H.out]; apply decide_eq_true; omega)), rfl⟩
theorem fits_ways (a : Ad) (n : Int) :
    (a.c < 0 ∧ Hid (fitsB a n = false)) ∨ (0 ≤ a.c ∧ n ≤ a.c ∧ Hid (fitsB a n = false)) ∨ (0 ≤ a.c ∧ a.c < n ∧ a.s < 0 ∧ Hid (fitsB a n = false)) ∨ (0 ≤ a.c ∧ a.c < n ∧ 0 ≤ a.s ∧ 8 ≤ a.s ∧ Hid (fitsB a n = false)) ∨
    (0 ≤ a.c ∧ a.c < n ∧ 0 ≤ a.s ∧ a.s < 8 ∧ a.m < 1 ∧ Hid (fitsB a n = false)) ∨ (0 ≤ a.c ∧ a.c < n ∧ 0 ≤ a.s ∧ a.s < 8 ∧ 1 ≤ a.m ∧ 1000000 < a.m ∧ Hid (fitsB a n = false)) ∨
    (0 ≤ a.c ∧ a.c < n ∧ 0 ≤ a.s ∧ a.s < 8 ∧ 1 ≤ a.m ∧ a.m ≤ 1000000 ∧ a.t < 0 ∧ Hid (fitsB a n = false)) ∨ (0 ≤ a.c ∧ a.c < n ∧ 0 ≤ a.s ∧ a.s < 8 ∧ 1 ≤ a.m ∧ a.m ≤ 1000000 ∧ 0 ≤ a.t ∧ 1000000 < a.t ∧ Hid (fitsB a n = false)) ∨
    (0 ≤ a.c ∧ a.c < n ∧ 0 ≤ a.s ∧ a.s < 8 ∧ 1 ≤ a.m ∧ a.m ≤ 1000000 ∧ 0 ≤ a.t ∧ a.t ≤ 1000000 ∧ Hid (fitsB a n = true)) := by
  by_cases h1 : a.c < 0
  · exact Or.inl ⟨h1, fitsB_false fun h => by have := h.1; omega⟩
  by_cases h2 : n ≤ a.c
  · exact Or.inr (Or.inl ⟨by omega, h2, fitsB_false fun h => by have := h.2.1; omega⟩)
  by_cases h3 : a.s < 0
  · exact Or.inr (Or.inr (Or.inl ⟨by omega, by omega, h3, fitsB_false fun h => by have := h.2.2.1; omega⟩))
  by_cases h4 : 8 ≤ a.s
  · exact Or.inr (Or.inr (Or.inr (Or.inl ⟨by omega, by omega, by omega, h4, fitsB_false fun h => by have := h.2.2.2.1; omega⟩)))
  by_cases h5 : a.m < 1
  · exact Or.inr (Or.inr (Or.inr (Or.inr (Or.inl ⟨by omega, by omega, by omega, by omega, h5, fitsB_false fun h => by have := h.2.2.2.2.1; omega⟩))))
  by_cases h6 : 1000000 < a.m
  · exact Or.inr (Or.inr (Or.inr (Or.inr (Or.inr (Or.inl ⟨by omega, by omega, by omega, by omega, by omega, h6, fitsB_false fun h => by have := h.2.2.2.2.2.1; omega⟩)))))
  by_cases h7 : a.t < 0
  · exact Or.inr (Or.inr (Or.inr (Or.inr (Or.inr (Or.inr (Or.inl ⟨by omega, by omega, by omega, by omega, by omega, by omega, h7, fitsB_false fun h => by have := h.2.2.2.2.2.2.1; omega⟩))))))
  by_cases h8 : 1000000 < a.t
  · exact Or.inr (Or.inr (Or.inr (Or.inr (Or.inr (Or.inr (Or.inr (Or.inl ⟨by omega, by omega, by omega, by omega, by omega, by omega, by omega, h8, fitsB_false fun h => by have := h.2.2.2.2.2.2.2; omega⟩)))))))
  exact Or.inr (Or.inr (Or.inr (Or.inr (Or.inr (Or.inr (Or.inr (Or.inr ⟨by omega, by omega, by omega, by omega, by omega, by omega, by omega, by omega, fitsB_true ⟨by omega, by omega, by omega, by omega, by omega, by omega, by omega, by omega⟩⟩)))))))
set_option maxHeartbeats 2000000 in
theorem isAdvice_any (a : Ad) (n : Int) (w : World) :
    Calls Tryz.prog 60 #[av a, .int .i64 n] w fun e w' => e = .returned (.bool (fitsB a n)) ∧ Below w.heap.size w w' := by
  unfold av
  have b0 : ∀ o, Below w.heap.size w (w.alloc o) := below_alloc w
  rcases fits_ways a n with ⟨h1, H⟩ | ⟨h1, h2, H⟩ | ⟨h1, h2, h3, H⟩ | ⟨h1, h2, h3, h4, H⟩ | ⟨h1, h2, h3, h4, h5, H⟩ | ⟨h1, h2, h3, h4, h5, h6, H⟩ | ⟨h1, h2, h3, h4, h5, h6, h7, H⟩ | ⟨h1, h2, h3, h4, h5, h6, h7, h8, H⟩ | ⟨h1, h2, h3, h4, h5, h6, h7, h8, H⟩
  all_goals
    go_enter Tryz.func60, Tryz.ntmps60
    go_wp2
    go_ret
    exact ⟨ret_bool (by first | exact H.out.symm | (rw [H.out]; apply decide_eq_false; omega) | (rw [H.out]; apply decide_eq_true; omega)), b0 _⟩
end Go.Proofs.YtodkcagingnelacGreatDoor.St
namespace Go.Proofs.YtodkcagingnelacGreatDoor.St
open Go.RowKit Go.Proofs.YtodkcagingnelacGreatDoor.Gn
theorem new_ways (limit cards : Int) :
    (cards < 0 ∧ Hid (newD limit cards = (zD, 5))) ∨ (0 ≤ cards ∧ 8 < cards ∧ Hid (newD limit cards = (zD, 5))) ∨
    (0 ≤ cards ∧ cards ≤ 8 ∧ Hid (limB limit = false) ∧ Hid (newD limit cards = (zD, 3))) ∨
    (∃ n : Nat, cards = n ∧ n ≤ 8 ∧ Hid (limB limit = true) ∧ Hid (newD limit cards = (⟨limit, List.replicate n 0, []⟩, 0))) := by
  by_cases h1 : cards < 0
  · exact Or.inl ⟨h1, new_many (Or.inl h1)⟩
  by_cases h2 : 8 < cards
  · exact Or.inr (Or.inl ⟨by omega, h2, new_many (Or.inr h2)⟩)
  by_cases h3 : Lim limit
  · refine Or.inr (Or.inr (Or.inr ⟨cards.toNat, by omega, by omega, limB_true h3, ?_⟩))
    exact new_ok (by omega) h3
  · exact Or.inr (Or.inr (Or.inl ⟨by omega, by omega, limB_false h3, new_range (by omega) h3⟩))
set_option maxHeartbeats 2000000 in
theorem new_any (limit cards : Int) (w : World) : Calls Tryz.prog 69 #[.int .i64 limit, .int .i64 cards] w (AnswersD w (newD limit cards)) := by
  have b0 : Below w.heap.size w (w.alloc (dob 0 (.slice none 0 0) (.slice none 0 0))) := below_alloc w _
  have hB : (w.alloc (dob 0 (.slice none 0 0) (.slice none 0 0))).heap[w.heap.size]? = some (dob 0 (.slice none 0 0) (.slice none 0 0)) := heap_alloc_at _ _ _ rfl
  unfold dob at b0 hB
  have bad : ∀ (r : Int) (w' : World), Hid (newD limit cards = (zD, r)) → Below w.heap.size w w' → AnswersD w (newD limit cards) (.returned (.tuple #[.agg #[.int .i64 0, .slice none 0 0, .slice none 0 0], .int .i64 r])) w' := fun r w' h hb => by
    rw [h.out]; exact ⟨_, _, rfl, .nil, .nil, hb⟩
  rcases new_ways limit cards with ⟨h1, H⟩ | ⟨h1, h2, H⟩ | ⟨h1, h2, h3, H⟩ | ⟨n, rfl, h2, h3, H⟩
  · go_enter Tryz.func69, Tryz.ntmps69
    go_wp2
    refine bodyPost_ret (v := .tuple #[.agg #[.int .i64 0, .slice none 0 0, .slice none 0 0], .int .i64 5]) (by simp [results, Tryz.results69, go_sem]; try rfl) rfl (bad _ _ H ?_)
    repeat refine Below.setCell ?_ (by simp) _
    exact b0
  · go_enter Tryz.func69, Tryz.ntmps69
    go_wp2
    refine bodyPost_ret (v := .tuple #[.agg #[.int .i64 0, .slice none 0 0, .slice none 0 0], .int .i64 5]) (by simp [results, Tryz.results69, go_sem]; try rfl) rfl (bad _ _ H ?_)
    repeat refine Below.setCell ?_ (by simp) _
    exact b0
  · go_enter Tryz.func69, Tryz.ntmps69
    go_wp2_with (go_at_call 59; refine (isLimit_any _ _).mono ?_; rw [h3.out]; rintro e w' ⟨rfl, rfl⟩)
    refine bodyPost_ret (v := .tuple #[.agg #[.int .i64 0, .slice none 0 0, .slice none 0 0], .int .i64 3]) (by simp [results, Tryz.results69, go_sem]; try rfl) rfl (bad _ _ H ?_)
    repeat refine Below.setCell ?_ (by simp) _
    exact b0
  · have hmk := make_ints n (by omega)
    have hn0 : (0 : Int) ≤ (n : Int) := by omega
    have hn8 : (n : Int) ≤ 8 := by omega
    go_enter Tryz.func69, Tryz.ntmps69
    go_wp2_with (go_at_call 59; refine (isLimit_any _ _).mono ?_; rw [h3.out]; rintro e w' ⟨rfl, rfl⟩)
    have hI := ints_made (w.alloc (dob limit (.slice (some ⟨w.heap.size + 1, 0, none⟩) n n) (.slice none 0 0))) 3 n
    refine bodyPost_ret (v := .tuple #[.agg #[.int .i64 limit, .slice (some ⟨w.heap.size + 1, 0, none⟩) n n, .slice none 0 0], .int .i64 0]) (by simp [results, Tryz.results69, go_sem]; try rfl) rfl ?_
    rw [H.out]
    refine ⟨_, _, rfl, ?_, .nil, ((below_alloc _ _).alloc (by simp) _)⟩
    have := hI.row w.heap.size (by simp) (by simp [maxLen]; omega)
    simpa [dob] using this
/-- What own holds on to: the stand's box, and the result. -/
structure Ow (w : World) (n : Int) (v1 v2 : Value) (W : World) : Prop where
  bel : Below w.heap.size w W
  box : W.heap[w.heap.size]? = some (dob n v1 v2)
  res : W.heap[w.heap.size + 1]? = some (dob 0 (.slice none 0 0) (.slice none 0 0))
theorem Ow.lt {w : World} {n : Int} {v1 v2 : Value} {W : World} (h : Ow w n v1 v2 W) : w.heap.size + 1 < W.heap.size := lt_of_block h.res
theorem Ow.on {w : World} {n : Int} {v1 v2 : Value} {W W' : World} (h : Ow w n v1 v2 W) (hb : Below W.heap.size W W') : Ow w n v1 v2 W' :=
  ⟨h.bel.trans (hb.mono h.bel.size), (hb.block _ (lt_of_block h.box)).trans h.box, (hb.block _ (lt_of_block h.res)).trans h.res⟩
theorem ow_new (w : World) (n : Int) (v1 v2 : Value) : Ow w n v1 v2 ((w.alloc (dob n v1 v2)).alloc (dob 0 (.slice none 0 0) (.slice none 0 0))) :=
  ⟨(below_alloc _ _).alloc (by simp) _, by rw [Below.heap_alloc _ _ _ (by simp), heap_alloc_at _ _ _ rfl], heap_alloc_at _ _ _ (by simp)⟩
theorem Ow.one {w : World} {n : Int} {v1 v2 : Value} {W : World} (h : Ow w n v1 v2 W) (u : Value) : Ow w n u v2 (W.setCell ⟨w.heap.size, 1, none⟩ u) := by
  refine ⟨h.bel.setCell (by simp) _, ?_, (heap_setCell_other _ _ _ _ (by simp)).trans h.res⟩
  have := heap_setCell_same W w.heap.size 1 _ _ u h.box
  simpa [dob] using this
theorem Ow.two {w : World} {n : Int} {v1 v2 : Value} {W : World} (h : Ow w n v1 v2 W) (u : Value) : Ow w n v1 u (W.setCell ⟨w.heap.size, 2, none⟩ u) := by
  refine ⟨h.bel.setCell (by simp) _, ?_, (heap_setCell_other _ _ _ _ (by simp)).trans h.res⟩
  have := heap_setCell_same W w.heap.size 2 _ _ u h.box
  simpa [dob] using this
/-- What own answers. -/
def Owned (w : World) (s : Sd) (e : Ending) (w' : World) : Prop :=
  ∃ u1 u2, e = .returned (dv s.cap u1 u2) ∧ Row kI 3 w' w.heap.size u1 s.used ∧ (s.used ≠ [] → w'.ownsRow w.heap.size 3 kI.size u1 s.used.length (kI.flat s.used)) ∧ Row kA 118 w' w.heap.size u2 s.adv ∧ Ap u1 u2 ∧ Below w.heap.size w w'
theorem own_keep {w w' : World} {base : Nat} {e : TypeId} {size n : Nat} {v : Value} {xs : List Value} (h : w.ownsRow base e size v n xs) (hk : ∀ k, v.ownBlock = some k → w'.heap[k]? = w.heap[k]?) : w'.ownsRow base e size v n xs := by
  refine ⟨h.1, ?_⟩
  rcases h.2 with h0 | ⟨g, cap, cur, rfl, hg, hh, r⟩
  · exact Or.inl h0
  · exact Or.inr ⟨g, cap, cur, rfl, hg, (hk g rfl).trans hh, r⟩
theorem own_mono {w : World} {base base' : Nat} {e : TypeId} {size n : Nat} {v : Value} {xs : List Value} (h : w.ownsRow base e size v n xs) (hb : base' ≤ base) : w.ownsRow base' e size v n xs := by
  refine ⟨h.1, ?_⟩
  rcases h.2 with h0 | ⟨g, cap, cur, rfl, hg, r⟩
  · exact Or.inl h0
  · exact Or.inr ⟨g, cap, cur, rfl, Nat.le_trans hb hg, r⟩
set_option maxHeartbeats 2000000 in
theorem own_any (s : Sd) (v1 v2 : Value) (w : World) (h1 : At kI w v1 s.used) (h2 : At kA w v2 s.adv) (hu : s.used.length ≤ 8) (ha : s.adv.length ≤ 20) :
    Calls Tryz.prog 156 #[dv s.cap v1 v2] w (Owned w s) := by
  obtain ⟨a1, c1, rfl, hl1⟩ := h1
  obtain ⟨a2, c2, rfl, hl2⟩ := h2
  have O0 := ow_new w s.cap (.slice a1 s.used.length c1) (.slice a2 s.adv.length c2)
  unfold dob at O0
  unfold dv
  go_enter Tryz.func156, Tryz.ntmps156
  go_upto_region 1 with fail
  generalize (w.alloc (.cells #[.int .i64 s.cap, .slice a1 s.used.length c1, .slice a2 s.adv.length c2] 38)).alloc (.cells #[.int .i64 0, .slice none 0 0, .slice none 0 0] 38) = W0 at *
  obtain ⟨C0, C1, C2⟩ := dob_cells O0.box
  have hz0 := O0.lt
  go_wp2_with (at_builtin; refine wpList_append elemI _ rfl _ _ rfl (w.heap.size + 2) _ [] rfl .nil a1 s.used.length c1 s.used rfl rfl (hl1.below O0.bel) ?c3 ?c4 ?c5 ?_)
  case c3 => simp [maxLen]; omega
  case c4 => simp; omega
  case c5 => omega
  intro v' w3 hrow hgrow hat hown
  have hb3 : Below W0.heap.size W0 w3 := below_grown (L := []) (Below.refl _ _) hgrow (.nil : Row kI 3 W0 W0.heap.size (.slice none 0 0) []) (Nat.le_refl _) (Nat.le_refl _)
  have O3 := O0.on hb3
  clear O0 hb3 hgrow C0 C1 C2 hat
  obtain ⟨a3, c3, rfl, -, -⟩ := row_at hrow
  obtain ⟨C0, C1, C2⟩ := dob_cells O3.box
  obtain ⟨F0, F1, F2⟩ := dob_free O3.box
  go_upto_region 2 with fail
  have O4 := O3.one (.slice a3 s.used.length c3)
  have hrow4 := Row.set hrow ⟨w.heap.size, 1, none⟩ (by simp <;> omega) (.slice a3 s.used.length c3)
  have hown4 : s.used ≠ [] → (w3.setCell ⟨w.heap.size, 1, none⟩ (.slice a3 s.used.length c3)).ownsRow (w.heap.size + 2) 3 kI.size (.slice a3 s.used.length c3) s.used.length (kI.flat s.used) := fun hne => own_keep (hown hne) fun k hk => heap_setCell_other _ _ _ _ (by have := ((hown hne).lt k hk).1; simp <;> omega)
  clear O3 hrow hown C0 C1 C2 F0 F1 F2
  generalize w3.setCell ⟨w.heap.size, 1, none⟩ (.slice a3 s.used.length c3) = W4 at *
  obtain ⟨C0, C1, C2⟩ := dob_cells O4.box
  have hz4 := O4.lt
  go_wp2_with (at_builtin; refine wpList_append elemA _ rfl _ _ rfl W4.heap.size _ [] rfl .nil a2 s.adv.length c2 s.adv rfl rfl (hl2.below O4.bel) ?c3 ?c4 ?c5 ?_)
  case c3 => simp [maxLen]; omega
  case c4 => simp; omega
  case c5 => omega
  intro v5 w5 hrow5 hgrow5 _ _
  have hb5 : Below W4.heap.size W4 w5 := below_grown (L := []) (Below.refl _ _) hgrow5 (.nil : Row kA 118 W4 W4.heap.size (.slice none 0 0) []) (Nat.le_refl _) (Nat.le_refl _)
  have O5 := O4.on hb5
  have hr1 := hrow4.below hb5
  have ho1 : s.used ≠ [] → w5.ownsRow (w.heap.size + 2) 3 kI.size (.slice a3 s.used.length c3) s.used.length (kI.flat s.used) := fun hne => own_keep (hown4 hne) fun k hk => hb5.block _ ((hown4 hne).lt k hk).2
  have hap : Ap (.slice a3 s.used.length c3) v5 := fun k k1 k2 => by have := (hrow4.block_lt k k1).2; have := (hrow5.block_lt k k2).1; omega
  have hr2 := hrow5.mono (base' := w.heap.size + 2) (by omega)
  clear O4 hb5 hgrow5 C0 C1 C2 hrow4 hown4 hrow5
  obtain ⟨a5, c5, rfl, -, -⟩ := row_at hr2
  obtain ⟨C0, C1, C2⟩ := dob_cells O5.box
  obtain ⟨F0, F1, F2⟩ := dob_free O5.box
  go_upto_region 3 with fail
  have O6 := O5.two (.slice a5 s.adv.length c5)
  have hr3 := Row.set hr1 ⟨w.heap.size, 2, none⟩ (by simp <;> omega) (.slice a5 s.adv.length c5)
  have hr4 := Row.set hr2 ⟨w.heap.size, 2, none⟩ (by simp <;> omega) (.slice a5 s.adv.length c5)
  have ho2 : s.used ≠ [] → (w5.setCell ⟨w.heap.size, 2, none⟩ (.slice a5 s.adv.length c5)).ownsRow (w.heap.size + 2) 3 kI.size (.slice a3 s.used.length c3) s.used.length (kI.flat s.used) := fun hne => own_keep (ho1 hne) fun k hk => heap_setCell_other _ _ _ _ (by have := ((ho1 hne).lt k hk).1; simp <;> omega)
  clear O5 hr1 hr2 ho1 C0 C1 C2 F0 F1 F2
  generalize w5.setCell ⟨w.heap.size, 2, none⟩ (.slice a5 s.adv.length c5) = W6 at *
  obtain ⟨C0, C1, C2⟩ := dob_cells O6.box
  obtain ⟨R0, R1, R2⟩ := dob_cells O6.res
  obtain ⟨E0, E1, E2⟩ := dob_free O6.res
  go_wp2
  refine bodyPost_ret (v := .agg #[.int .i64 s.cap, .slice a3 s.used.length c3, .slice a5 s.adv.length c5]) (by simp [results, Tryz.results156, go_sem, R0, R1, R2]; try rfl) rfl ⟨_, _, rfl, ?_, ?_, ?_, hap, ?_⟩
  · refine Row.mono (base := w.heap.size + 2) ?_ (by omega)
    repeat refine Row.set ?_ _ (by simp) _
    exact hr3
  · intro hne
    refine own_mono (base := w.heap.size + 2) ?_ (by omega)
    exact own_keep (ho2 hne) fun k hk => by
      have := ((ho2 hne).lt k hk).1
      repeat refine (heap_setCell_other _ _ _ _ (by simp <;> omega)).trans ?_
      rfl
  · refine Row.mono (base := w.heap.size + 2) ?_ (by omega)
    repeat refine Row.set ?_ _ (by simp) _
    exact hr4
  · repeat refine Below.setCell ?_ (by simp) _
    exact O6.bel
end Go.Proofs.YtodkcagingnelacGreatDoor.St
