/- Slices of ints: lists that lie in memory, rows of a call's own that are written to, what make lays. No program here. -/
import Derived.Test.YtmhcdiimamadfabGn
import Derived.Deep.OwnRows
namespace Go.Proofs.Ytmhcdiimamadfab.Gn
open Go.RowKit

def kI : Kind Int where
  cells := fun x => [.int .i64 x]
  size := 1
  len := fun _ => rfl
  one := fun x u hu => by simp at hu; subst hu; rfl
  pos := by decide

theorem kI_flat (L : List Int) : kI.flat L = L.map fun x => Value.int .i64 x := by
  induction L with
  | nil => rfl
  | cons x r ih => rw [kI.flat_cons, ih]; rfl

theorem int_cell {w : World} {a : Option Addr} {cap : Nat} {L : List Int} (h : Lies kI w a cap L) {i : Nat} (hi : i < L.length) :
    ∃ b off, a = some ⟨b, off, none⟩ ∧ b < w.heap.size ∧ w.cell? ⟨b, off + i, none⟩ = some (.int .i64 (L.getD i 0)) := by
  obtain ⟨b, off, ha, hb, hc⟩ := h.elem (i := i) (x := L.getD i 0) (by simp [List.getD, hi])
  refine ⟨b, off, ha, hb, ?_⟩
  have := hc 0 _ rfl
  simpa [kI] using this

/-- Block b holds these ints, and nothing else. -/
def Ints (w : World) (e : TypeId) (b : Nat) (L : List Int) : Prop := w.heap[b]? = some (.cells (L.map fun x => Value.int .i64 x).toArray e)

theorem Ints.lt {w : World} {e : TypeId} {b : Nat} {L : List Int} (h : Ints w e b L) : b < w.heap.size := lt_of_block h
theorem Ints.cell {w : World} {e : TypeId} {b : Nat} {L : List Int} (h : Ints w e b L) {i : Nat} (hi : i < L.length) : w.cell? ⟨b, i, none⟩ = some (.int .i64 (L.getD i 0)) := by
  unfold Ints at h
  simp [World.cell?, h, hi, List.getD]
theorem Ints.free {w : World} {e : TypeId} {b : Nat} {L : List Int} (h : Ints w e b L) (i : Nat) : w.frozen? ⟨b, i, none⟩ = false := by
  unfold Ints at h
  simp [World.frozen?, h]
theorem Ints.set {w : World} {e : TypeId} {b : Nat} {L : List Int} (h : Ints w e b L) (i : Nat) (x : Int) : Ints (w.setCell ⟨b, i, none⟩ (.int .i64 x)) e b (L.set i x) := by
  unfold Ints at h ⊢
  rw [heap_setCell_same w b i _ _ _ h]
  simp
theorem Ints.keep {w w' : World} {e : TypeId} {b : Nat} {L : List Int} (h : Ints w e b L) (hk : w'.heap[b]? = w.heap[b]?) : Ints w' e b L := hk.trans h
theorem Ints.below {w w' : World} {e : TypeId} {b : Nat} {L : List Int} (h : Ints w e b L) (hb : Below w.heap.size w w') : Ints w' e b L := (hb.block _ h.lt).trans h
theorem Ints.alloc {w : World} {e : TypeId} {b : Nat} {L : List Int} (h : Ints w e b L) (o : Obj) : Ints (w.alloc o) e b L := h.below (below_alloc w o)
theorem ints_made (w : World) (e : TypeId) (n : Nat) : Ints (w.alloc (.cells (madeCells #[.int .i64 0] n) e)) e w.heap.size (List.replicate n 0) := by
  unfold Ints
  rw [heap_alloc_at _ _ _ rfl]
  congr 2
  apply Array.toList_inj.1
  rw [toList_madeCells_one]
  simp

theorem Ints.owns {w : World} {e : TypeId} {b : Nat} {L : List Int} (h : Ints w e b L) (base : Nat) (hb : base ≤ b) (hm : L.length ≤ maxLen) : w.ownsRow base e kI.size (.slice (some ⟨b, 0, none⟩) L.length L.length) L.length (kI.flat L) := by
  have hlt := h.lt
  refine ⟨?_, Or.inr ⟨b, L.length, (L.map fun x => Value.int .i64 x).toArray, rfl, hb, h, Nat.le_refl _, hm, by simp [kI], ?_⟩⟩
  · rw [kI.flat_length]
  · rw [kI_flat]; simp only [kI, Nat.mul_one]; rw [List.take_of_length_le (by simp)]
theorem Ints.row {w : World} {e : TypeId} {b : Nat} {L : List Int} (h : Ints w e b L) (base : Nat) (hb : base ≤ b) (hm : L.length ≤ maxLen) : Row kI e w base (.slice (some ⟨b, 0, none⟩) L.length L.length) L := .own _ _ (h.owns base hb hm)

/-- A store into a row of the call's own. -/
theorem own_put {w : World} {e : TypeId} {base : Nat} {v : Value} {L : List Int} (h : w.ownsRow base e kI.size v L.length (kI.flat L)) {i : Nat} (hi : i < L.length) :
    ∃ g cap, v = .slice (some ⟨g, 0, none⟩) L.length cap ∧ base ≤ g ∧ g < w.heap.size ∧ L.length ≤ cap ∧ w.cell? ⟨g, i, none⟩ = some (.int .i64 (L.getD i 0)) ∧ w.frozen? ⟨g, i, none⟩ = false ∧
      ∀ x, (w.setCell ⟨g, i, none⟩ (.int .i64 x)).ownsRow base e kI.size v (L.set i x).length (kI.flat (L.set i x)) := by
  obtain ⟨a, cap, hv, hl, hp, hn, hlt⟩ := lies_of_owns h
  rcases h.2 with ⟨-, h0⟩ | ⟨g, cap', cur, hv', hg, hh, hnc, hm, hc, hx⟩
  · omega
  · subst hv'
    obtain ⟨b, off, ha, -, hcell⟩ := int_cell hl hi
    obtain ⟨h1, -, h3⟩ := Value.slice.inj hv
    subst h1
    cases ha
    rw [Nat.zero_add] at hcell
    refine ⟨g, cap', rfl, hg, lt_of_block hh, hnc, hcell, by simp [World.frozen?, hh], fun x => ?_⟩
    have := (World.ownsRow.stored (w := w) h i (.int .i64 x)).1
    rw [kI_flat] at this
    rw [kI_flat, List.length_set, List.map_set]
    exact this
end Go.Proofs.Ytmhcdiimamadfab.Gn
