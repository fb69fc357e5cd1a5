/- Cards in memory; the walks of the small functions of card, of Wrong, of Free and of own. -/
import Derived.Test.YtdifndnogpcbkaaWalkg
import Derived.Test.YtdifndnogpcbkaaMathc
import Derived.Laws.AppendOwnNone
namespace Go.Proofs.Ytdifndnogpcbkaa
open Go.RowKit

/-- A slice of uses as it lies in memory, of whatever capacity; none at all has none. -/
structure Lies (w : World) (a : Option Addr) (cap : Nat) (L : List (Int × Int)) : Prop where
  ents : Ents w a L
  nil : a = none → cap = 0

theorem Lies.below {w w' : World} {a : Option Addr} {cap : Nat} {L : List (Int × Int)} (h : Lies w a cap L) (hb : Below w.heap.size w w') : Lies w' a cap L := ⟨h.ents.below hb, h.nil⟩
theorem Lies.none_nil {w : World} {cap : Nat} {L : List (Int × Int)} (h : Lies w none cap L) : L = [] := by
  rcases h.ents.2 with h | ⟨b, off, h, -⟩
  · exact h
  · cases h
theorem lies_nil (w : World) : Lies w none 0 [] := ⟨⟨by simp [maxLen], Or.inl rfl⟩, fun _ => rfl⟩

/-- The list lies behind that. -/
def Past (B : Nat) (a : Option Addr) : Prop := ∀ ad, a = some ad → B ≤ ad.block

theorem lies_of_owns {w : World} {base : Nat} {v : Value} {L : List (Int × Int)} (h : w.ownsRow base 58 2 v L.length (flat L)) : ∃ a cap, v = .slice a L.length cap ∧ Lies w a cap L ∧ Past base a := by
  obtain ⟨a, cap, hv, -, -, hE⟩ := ents_of_owns h
  rcases h.2 with ⟨h0, -⟩ | ⟨g, cap', cur, h0, hg, -⟩
  · rw [hv] at h0
    obtain ⟨rfl, -, rfl⟩ := Value.slice.inj h0
    exact ⟨none, 0, hv, ⟨hE, fun _ => rfl⟩, fun _ h => by cases h⟩
  · rw [hv] at h0
    obtain ⟨rfl, -, -⟩ := Value.slice.inj h0
    exact ⟨_, cap, hv, ⟨hE, fun h => by cases h⟩, fun _ h => by cases h; exact hg⟩

theorem Lies.set {w : World} {a : Option Addr} {cap : Nat} {L : List (Int × Int)} (h : Lies w a cap L) {B : Nat} (hp : Past B a) {p : Addr} (hb : p.block < B) (v : Value) : Lies (w.setCell p v) a cap L := by
  refine ⟨⟨h.ents.1, ?_⟩, h.nil⟩
  rcases h.ents.2 with h0 | ⟨b, off, ha, hlt, hc⟩
  · exact Or.inl h0
  · have hq := hp _ ha
    refine Or.inr ⟨b, off, ha, by simpa using hlt, fun i hi => ?_⟩
    have far : ∀ o, (w.setCell p v).cell? ⟨b, o, none⟩ = w.cell? ⟨b, o, none⟩ := fun o => World.cell?_setCell_other _ _ _ _ (fun h => by subst h; dsimp only at hq hb; omega)
    rw [far, far]
    exact hc i hi

theorem flat_length (L : List (Int × Int)) : (flat L).length = L.length * 2 := by
  induction L with
  | nil => rfl
  | cons e r ih => simp only [flat, List.flatMap_cons, List.length_append, List.length_cons, List.length_nil] at ih ⊢; omega
theorem flat_at (M : List (Int × Int)) : ∀ i, i < M.length → (flat M)[i * 2]? = some (.int .i64 (M.getD i (0, 0)).1) ∧ (flat M)[i * 2 + 1]? = some (.int .i64 (M.getD i (0, 0)).2) := by
  induction M with
  | nil => intro i hi; simp at hi
  | cons e r ih =>
    intro i hi
    cases i with
    | zero => simp [flat]
    | succ i =>
      have := ih i (by simpa using hi)
      have e1 : (i + 1) * 2 = i * 2 + 1 + 1 := by omega
      rw [e1]
      simpa [flat] using this
theorem flat_one (L : List (Int × Int)) : ∀ u ∈ flat L, u.oneCell' = true := by
  intro u hu
  simp [flat] at hu
  obtain ⟨a, b, -, rfl | rfl⟩ := hu <;> rfl

theorem addr_add (b off j : Nat) : (⟨b, off, none⟩ : Addr).add j = ⟨b, off + j, none⟩ := by
  unfold Addr.add; by_cases hj : j = 0 <;> simp [hj]

/-- The cells of a list of uses, one behind the other. -/
theorem ents_flat {w : World} {ad : Addr} {L : List (Int × Int)} (h : Ents w (some ad) L) : ∀ j u, (flat L)[j]? = some u → w.cell? (ad.add j) = some u := by
  intro j u hj
  rcases h.2 with rfl | ⟨b, off, ha, -, hc⟩
  · simp [flat] at hj
  · cases ha
    have hlt : j < L.length * 2 := by
      have := (List.getElem?_eq_some_iff.1 hj).1
      rw [flat_length] at this; exact this
    rw [addr_add]
    obtain ⟨k1, k2⟩ := flat_at L (j / 2) (by omega)
    obtain ⟨c1, c2⟩ := hc (j / 2) (by omega)
    rcases Nat.mod_two_eq_zero_or_one j with hm | hm
    · have e : j / 2 * 2 = j := by omega
      rw [e] at k1 c1
      rw [k1] at hj; cases hj; exact c1
    · have e : j / 2 * 2 + 1 = j := by omega
      have e' : off + j / 2 * 2 + 1 = off + j := by omega
      rw [e] at k2
      rw [e'] at c2
      rw [k2] at hj; cases hj; exact c2

/-- A card, as a value. -/
def cv (c : Ca) (a : Option Addr) (cap : Nat) : Value := .agg #[.int .i64 c.m, .int .i64 c.h, .int .i64 c.p.t, .int .i64 c.p.c, .int .i64 c.p.s, .slice a c.u.length cap]
/-- A card, as a block. -/
def co (c : Ca) (a : Option Addr) (cap : Nat) : Obj := .cells #[.int .i64 c.m, .int .i64 c.h, .int .i64 c.p.t, .int .i64 c.p.c, .int .i64 c.p.s, .slice a c.u.length cap] 69

/-- A block that holds a card. -/
structure CardAt (W : World) (b : Nat) (c : Ca) (a : Option Addr) (cap : Nat) : Prop where
  block : W.heap[b]? = some (co c a cap)
  lies : Lies W a cap c.u

theorem CardAt.lt {W : World} {b : Nat} {c : Ca} {a : Option Addr} {cap : Nat} (h : CardAt W b c a cap) : b < W.heap.size := lt_of_block h.block
theorem CardAt.on {W W' : World} {b : Nat} {c : Ca} {a : Option Addr} {cap : Nat} (h : CardAt W b c a cap) (hb : Below W.heap.size W W') : CardAt W' b c a cap :=
  ⟨(hb.block _ h.lt).trans h.block, h.lies.below hb⟩
theorem CardAt.alloc {W : World} {b : Nat} {c : Ca} {a : Option Addr} {cap : Nat} (h : CardAt W b c a cap) (o : Obj) : CardAt (W.alloc o) b c a cap := h.on (below_alloc W o)
theorem co_cells {W : World} {b : Nat} {c : Ca} {a : Option Addr} {cap : Nat} (hb : W.heap[b]? = some (co c a cap)) :
    W.cell? ⟨b, 0, none⟩ = some (.int .i64 c.m) ∧ W.cell? ⟨b, 1, none⟩ = some (.int .i64 c.h) ∧ W.cell? ⟨b, 2, none⟩ = some (.int .i64 c.p.t) ∧ W.cell? ⟨b, 3, none⟩ = some (.int .i64 c.p.c) ∧
    W.cell? ⟨b, 4, none⟩ = some (.int .i64 c.p.s) ∧ W.cell? ⟨b, 5, none⟩ = some (.slice a c.u.length cap) := by
  unfold co at hb
  refine ⟨?_, ?_, ?_, ?_, ?_, ?_⟩ <;> simp [World.cell?, hb]
theorem co_free {W : World} {b : Nat} {c : Ca} {a : Option Addr} {cap : Nat} (hb : W.heap[b]? = some (co c a cap)) :
    W.frozen? ⟨b, 0, none⟩ = false ∧ W.frozen? ⟨b, 1, none⟩ = false ∧ W.frozen? ⟨b, 2, none⟩ = false ∧ W.frozen? ⟨b, 3, none⟩ = false ∧ W.frozen? ⟨b, 4, none⟩ = false ∧ W.frozen? ⟨b, 5, none⟩ = false := by
  unfold co at hb
  refine ⟨?_, ?_, ?_, ?_, ?_, ?_⟩ <;> simp [World.frozen?, hb]
theorem CardAt.cells {W : World} {b : Nat} {c : Ca} {a : Option Addr} {cap : Nat} (h : CardAt W b c a cap) :
    W.cell? ⟨b, 0, none⟩ = some (.int .i64 c.m) ∧ W.cell? ⟨b, 1, none⟩ = some (.int .i64 c.h) ∧ W.cell? ⟨b, 2, none⟩ = some (.int .i64 c.p.t) ∧ W.cell? ⟨b, 3, none⟩ = some (.int .i64 c.p.c) ∧
    W.cell? ⟨b, 4, none⟩ = some (.int .i64 c.p.s) ∧ W.cell? ⟨b, 5, none⟩ = some (.slice a c.u.length cap) := co_cells h.block
theorem card_new (w : World) (c : Ca) (a : Option Addr) (cap : Nat) (h : Lies w a cap c.u) : CardAt (w.alloc (co c a cap)) w.heap.size c a cap :=
  ⟨heap_alloc_at _ _ _ rfl, h.below (below_alloc _ _)⟩

def isT (n : Int) : Bool := decide (-1000000000000 ≤ n) && decide (n ≤ 1000000000000)

set_option maxHeartbeats 400000 in
theorem isTotal_any (n : Int) (w : World) :
    Calls Try.prog 71 #[.int .i64 n] w fun e w' => e = .returned (.bool (isT n)) ∧ w' = w := by
  unfold isT
  by_cases h1 : -1000000000000 ≤ n <;> by_cases h2 : n ≤ 1000000000000
  all_goals
    go_enter Try.func71, Try.ntmps71
    go_wp2
    go_ret
    simp [h1, h2]

def isOne (n : Int) : Bool := decide (1 ≤ n) && decide (n ≤ 1000000)

set_option maxHeartbeats 400000 in
theorem isSum_any (n : Int) (w : World) :
    Calls Try.prog 72 #[.int .i64 n] w fun e w' => e = .returned (.bool (isOne n)) ∧ w' = w := by
  unfold isOne
  by_cases h1 : 1 ≤ n <;> by_cases h2 : n ≤ 1000000
  all_goals
    go_enter Try.func72, Try.ntmps72
    go_wp2
    go_ret
    simp [h1, h2]

theorem isT_true {n : Int} : isT n = true ↔ -1000000000000 ≤ n ∧ n ≤ 1000000000000 := by simp [isT]
theorem isT_false {n : Int} : isT n = false ↔ n < -1000000000000 ∨ 1000000000000 < n := by
  rw [← Bool.not_eq_true, isT_true]; omega
theorem isOne_true {n : Int} : isOne n = true ↔ 1 ≤ n ∧ n ≤ 1000000 := by simp [isOne]
theorem isOne_false {n : Int} : isOne n = false ↔ n < 1 ∨ 1000000 < n := by
  rw [← Bool.not_eq_true, isOne_true]; omega

/-- The ways through the first test of Wrong. -/
theorem off_ways (m h : Int) :
    (isT m = false ∧ Hid (off m h)) ∨ (isT m = true ∧ isT h = false ∧ Hid (off m h)) ∨ (isT m = true ∧ isT h = true ∧ h < 0 ∧ Hid (off m h)) ∨ (isT m = true ∧ isT h = true ∧ 0 ≤ h ∧ Hid (¬ off m h)) := by
  cases h1 : isT m with
  | false => exact Or.inl ⟨rfl, by have := isT_false.1 h1; unfold Hid off; omega⟩
  | true =>
    cases h2 : isT h with
    | false => exact Or.inr (Or.inl ⟨rfl, rfl, by have := isT_false.1 h2; unfold Hid off; omega⟩)
    | true =>
      have := isT_true.1 h1
      have := isT_true.1 h2
      by_cases h3 : h < 0
      · exact Or.inr (Or.inr (Or.inl ⟨rfl, rfl, h3, by unfold Hid off; omega⟩))
      · exact Or.inr (Or.inr (Or.inr ⟨rfl, rfl, by omega, by unfold Hid off; omega⟩))

/-- Behind the box. -/
theorem cbox {w w1 : World} {c : Ca} {a : Option Addr} {cap : Nat} (h : Lies w a cap c.u) (hb : Below (w.alloc (co c a cap)).heap.size (w.alloc (co c a cap)) w1) :
    Below w.heap.size w w1 ∧ CardAt w1 w.heap.size c a cap :=
  ⟨(below_alloc _ _).trans (hb.mono (by simp)), (card_new w c a cap h).on hb⟩

theorem fieldFault (x y : Int) (w : World) : (Instr.field 25 (.agg #[.int .i64 x, .int .i64 y]) 0).run Try.prog w = .ok (.int .i64 x) w := by kernel_rfl

set_option maxHeartbeats 2000000 in
theorem cwrong_any (c : Ca) (a : Option Addr) (cap : Nat) (w : World) (hL : Lies w a cap c.u) :
    Calls Try.prog 46 #[cv c a cap] w fun e w' => e = .returned (.int .i64 (wrongC c)) ∧ Below w.heap.size w w' := by
  unfold cv
  have b0 : ∀ o, Below w.heap.size w (w.alloc o) := below_alloc w
  rcases off_ways c.m c.h with ⟨h1, H⟩ | ⟨h1, h2, H⟩ | ⟨h1, h2, h3, H⟩ | ⟨h1, h2, h3, H⟩
  · have HW := hid (wrongC_off H.out)
    go_enter Try.func46, Try.ntmps46
    go_wp2_with (go_at_call 71; refine (isTotal_any _ _).mono ?_; rintro e w1 ⟨rfl, rfl⟩; rw [h1])
    go_ret
    exact ⟨ret_int HW.out.symm, b0 _⟩
  · have HW := hid (wrongC_off H.out)
    go_enter Try.func46, Try.ntmps46
    go_wp2_with (go_at_call 71; refine (isTotal_any _ _).mono ?_; rintro e w1 ⟨rfl, rfl⟩; first | rw [h1] | rw [h2])
    go_ret
    exact ⟨ret_int HW.out.symm, b0 _⟩
  · have HW := hid (wrongC_off H.out)
    go_enter Try.func46, Try.ntmps46
    go_wp2_with (go_at_call 71; refine (isTotal_any _ _).mono ?_; rintro e w1 ⟨rfl, rfl⟩; first | rw [h1] | rw [h2])
    go_ret
    exact ⟨ret_int HW.out.symm, b0 _⟩
  by_cases hp : wrongP c.p = 0
  · have HW := hid (wrongC_uses H.out hp)
    have hfd := fieldFault
    go_enter Try.func46, Try.ntmps46
    go_wp2_with (first
      | (go_at_call 71; refine (isTotal_any _ _).mono ?_; rintro e w1 ⟨rfl, rfl⟩; first | rw [h1] | rw [h2])
      | (go_at_call 36; refine (wrong_any c.p _).mono ?_; rintro e w1 ⟨rfl, hb1⟩; rw [hp]; obtain ⟨bb, hc⟩ := cbox hL hb1; obtain ⟨-, -, -, -, -, C5⟩ := hc.cells; have hL1 := hc.lies.ents; clear hb1 hc)
      | (go_at_call 38; refine (uses_any a cap c.u _ hL1).mono ?_; rintro e w2 ⟨rfl, hb2⟩))
    go_ret
    exact ⟨ret_int HW.out.symm, bb.trans (hb2.mono bb.size)⟩
  · have HW := hid (wrongC_pace H.out hp)
    have hne : (wrongP c.p != 0) = true := by simpa using hp
    clear hp
    go_enter Try.func46, Try.ntmps46
    go_wp2_with (first
      | (go_at_call 71; refine (isTotal_any _ _).mono ?_; rintro e w1 ⟨rfl, rfl⟩; first | rw [h1] | rw [h2])
      | (go_at_call 36; refine (wrong_any c.p _).mono ?_; rintro e w1 ⟨rfl, hb1⟩; obtain ⟨bb, -⟩ := cbox hL hb1; generalize wrongP c.p = r at *; clear hb1))
    go_ret
    exact ⟨ret_int HW.out.symm, bb⟩

set_option maxHeartbeats 400000 in
theorem free_any (c : Ca) (a : Option Addr) (cap : Nat) (w : World) (h1 : -1000000000000 ≤ c.m) (h2 : c.m ≤ 1000000000000) (h3 : 0 ≤ c.h) (h4 : c.h ≤ 1000000000000) :
    Calls Try.prog 48 #[cv c a cap] w fun e w' => e = .returned (.int .i64 (c.m - c.h)) ∧ Below w.heap.size w w' := by
  unfold cv
  go_enter Try.func48, Try.ntmps48
  go_wp2
  go_ret
  exact ⟨rfl, below_alloc _ _⟩

end Go.Proofs.Ytdifndnogpcbkaa
