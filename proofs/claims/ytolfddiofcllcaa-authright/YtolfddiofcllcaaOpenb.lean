/- A slice of steps that came in reads as a list of pairs of numbers. -/
import Derived.Test.YtolfddiofcllcaaOpen
import Derived.Test.YtolfddiofcllcaaWalkj
import Derived.Deep.SlicePairs
namespace Go.Proofs.Ytolfddiofcllcaa
open Go.ChangeShapes Go.WideShapes Go.ChangeAt Go.RowKit

theorem cells49 : Try.prog.cellsOf 49 = 2 := by kernel_rfl

theorem lt_of_cell {w : World} {a : Addr} {v : Value} (h : w.cell? a = some v) : a.block < w.heap.size := by
  rcases Nat.lt_or_ge a.block w.heap.size with hl | hl
  · exact hl
  · unfold World.cell? at h; rw [Array.getElem?_eq_none hl] at h; cases h

/-- The slice that came in is a list of steps. -/
theorem open_steps {H : Type} {enc : TypeId × Value → H} {W : World} {base : Nat} {spare : Nat → Bool} {held : Bool} {a : Option Addr} {len cap : Nat} {d : DataW H} {p : List MemPlace}
    (h : DataW.Trod enc Try.prog W base spare held 47 (.slice a len cap) d p) : ∃ L : List (Int × Int), len = L.length ∧ Ents W a L := by
  obtain ⟨fuel, hf⟩ := h
  rcases Go.Deep.open_slice_pairs Try.underlying47 Try.underlying49 cells49 rfl rfl cells3 cells3 hf with ⟨hcs, _⟩ | ⟨x, l, c, m, n, V0, V1, D0, D1, P0, P1, hcs, _, hl, hm, hmm, _, hx⟩
  · simp [Value.cells] at hcs
    obtain ⟨rfl, rfl, rfl⟩ := hcs
    exact ⟨[], rfl, by simp [maxLen], Or.inl rfl⟩
  · simp [Value.cells] at hcs
    obtain ⟨rfl, rfl, rfl⟩ := hcs
    have hlm : len ≤ m := by rw [hmm]; split <;> omega
    have each : ∀ i, i < len → ∃ q : Int × Int, W.cell? (x.add (i * 2)) = some (.int .i64 q.1) ∧ W.cell? (x.add (i * 2 + 1)) = some (.int .i64 q.2) := fun i hi => by
      obtain ⟨c0, c1, t0, t1⟩ := hx i (by omega)
      obtain ⟨u0, e0, _, _⟩ := DataW.trod_int Try.underlying3 t0
      obtain ⟨u1, e1, _, _⟩ := DataW.trod_int Try.underlying3 t1
      simp at e0 e1
      exact ⟨(u0, u1), by rw [c0, e0], by rw [c1, e1]⟩
    obtain ⟨F, hF⟩ := Go.Deep.choose_lt each
    refine ⟨(List.range len).map F, by simp, by simp; omega, ?_⟩
    by_cases h0 : len = 0
    · subst h0; exact Or.inl rfl
    right
    have hF0 := (hF 0 (by omega)).1
    obtain ⟨b, off, spot⟩ := x
    have hs : spot = none := by simpa [Addr.add] using World.cell?_spot hF0
    subst hs
    refine ⟨b, off, rfl, by simpa [Addr.add] using lt_of_cell hF0, fun i hi => ?_⟩
    have hi' : i < len := by simpa using hi
    obtain ⟨c0, c1⟩ := hF i hi'
    have hg : ((List.range len).map F).getD i (0, 0) = F i := by simp [List.getD, hi']
    rw [hg]
    have ad : ∀ j, (⟨b, off, none⟩ : Addr).add j = ⟨b, off + j, none⟩ := fun j => by
      unfold Addr.add; by_cases hj : j = 0 <;> simp [hj]
    rw [ad] at c0 c1
    exact ⟨c0, c1⟩
end Go.Proofs.Ytolfddiofcllcaa
