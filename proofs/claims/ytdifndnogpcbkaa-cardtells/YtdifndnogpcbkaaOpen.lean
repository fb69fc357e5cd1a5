/- A pace that came in reads as three numbers, a use as two, a slice of uses as a list of pairs of numbers. -/
import Derived.Test.YtdifndnogpcbkaaRows
import Derived.Test.YtdifndnogpcbkaaWalka
import Derived.ProofKit
import Derived.OpenShut
import Derived.ChangeOld
import Derived.SizedLaws
import Derived.Deep.SlicePairs
namespace Go.Proofs.Ytdifndnogpcbkaa
open Go.ChangeShapes Go.WideShapes Go.ChangeAt Go.RowKit

theorem own : ownKnob Try.prog.godebug = none := by kernel_rfl
theorem laidOut : laidOutB Try.prog = true := by kernel_rfl
theorem cellsPace : Try.prog.cellsOf 55 = 3 := by kernel_rfl
theorem cellsUse : Try.prog.cellsOf 58 = 2 := by kernel_rfl
theorem cellsInt : Try.prog.cellsOf 3 = 1 := by kernel_rfl
theorem bytesUse : Try.prog.bytesOf 58 = 16 := by kernel_rfl

theorem array3 {α : Type} {cs : Array α} (h : cs.size = 3) : ∃ c0 c1 c2, cs = #[c0, c1, c2] := by
  obtain ⟨l⟩ := cs
  match l, h with
  | [c0, c1, c2], _ => exact ⟨c0, c1, c2, rfl⟩
theorem array2 {α : Type} {cs : Array α} (h : cs.size = 2) : ∃ c0 c1, cs = #[c0, c1] := by
  obtain ⟨l⟩ := cs
  match l, h with
  | [c0, c1], _ => exact ⟨c0, c1, rfl⟩

theorem at_some {α : Type} {xs : List α} {n i : Nat} (h : xs.length = n) (hi : i < n) : ∃ y, xs[i]? = some y := ⟨xs[i], List.getElem?_eq_getElem (by omega)⟩

theorem field_int {H : Type} {enc : TypeId × Value → H} {W : World} {base : Nat} {spare : Nat → Bool} {held : Bool} {n i : Nat} {v : Value} {xs : List (DataW H × List MemPlace)} {m : Nat}
    (h : DataW.trod enc Try.prog W base spare held n 3 [v] = xs[i]?) (hl : xs.length = m) (hi : i < m) : ∃ k : Int, v = .int .i64 k := by
  obtain ⟨y, hy⟩ := at_some hl hi
  obtain ⟨k, e, _⟩ := DataW.trod_int Try.underlying3 (h.trans hy)
  exact ⟨k, by simpa using e⟩

/-- The value that came in is a pace. -/
theorem open_pace {H : Type} {enc : TypeId × Value → H} {W : World} {base b0 : Nat} {r : Reach} {spare : Nat → Bool} {held : Bool} {v : Value} {d : DataW H} {p : List MemPlace}
    (hv : Value.okWide Try.prog W r b0 55 v) (h : DataW.Trod enc Try.prog W base spare held 55 v d p) : ∃ a : Pa, v = pv a := by
  obtain ⟨cs, rfl, hsz⟩ := okWide_struct Try.underlying55 hv
  obtain ⟨c0, c1, c2, rfl⟩ := array3 (hsz.trans cellsPace)
  obtain ⟨fuel, hf⟩ := h
  obtain ⟨xs, n, -, -, -, hlen, hF⟩ := DataW.trod_struct Try.underlying55 hf
  have hlen' : xs.length = 3 := hlen
  have g0 := hF 0 _ rfl
  have g1 := hF 1 _ rfl
  have g2 := hF 2 _ rfl
  simp only [Value.cells] at g0 g1 g2
  obtain ⟨x0, rfl⟩ := field_int g0 hlen' (by omega)
  obtain ⟨x1, rfl⟩ := field_int g1 hlen' (by omega)
  obtain ⟨x2, rfl⟩ := field_int g2 hlen' (by omega)
  exact ⟨⟨x0, x1, x2⟩, rfl⟩

/-- The value that came in is a use. -/
theorem open_use {H : Type} {enc : TypeId × Value → H} {W : World} {base b0 : Nat} {r : Reach} {spare : Nat → Bool} {held : Bool} {v : Value} {d : DataW H} {p : List MemPlace}
    (hv : Value.okWide Try.prog W r b0 58 v) (h : DataW.Trod enc Try.prog W base spare held 58 v d p) : ∃ a : Int × Int, v = uv a := by
  obtain ⟨cs, rfl, hsz⟩ := okWide_struct Try.underlying58 hv
  obtain ⟨c0, c1, rfl⟩ := array2 (hsz.trans cellsUse)
  obtain ⟨fuel, hf⟩ := h
  obtain ⟨xs, n, -, -, -, hlen, hF⟩ := DataW.trod_struct Try.underlying58 hf
  have hlen' : xs.length = 2 := hlen
  have g0 := hF 0 _ rfl
  have g1 := hF 1 _ rfl
  simp only [Value.cells] at g0 g1
  obtain ⟨x0, rfl⟩ := field_int g0 hlen' (by omega)
  obtain ⟨x1, rfl⟩ := field_int g1 hlen' (by omega)
  exact ⟨(x0, x1), rfl⟩

theorem lt_of_cell {w : World} {a : Addr} {v : Value} (h : w.cell? a = some v) : a.block < w.heap.size := by
  rcases Nat.lt_or_ge a.block w.heap.size with hl | hl
  · exact hl
  · unfold World.cell? at h; rw [Array.getElem?_eq_none hl] at h; cases h

/-- The slice that came in is a list of uses; how its reading looks. -/
theorem open_uses_sized {H : Type} {enc : TypeId × Value → H} {W : World} {base : Nat} {spare : Nat → Bool} {held : Bool} {a : Option Addr} {len cap : Nat} {d : DataW H} {p : List MemPlace}
    (h : DataW.Trod enc Try.prog W base spare held 56 (.slice a len cap) d p) : ∃ L : List (Int × Int), len = L.length ∧ Ents W a L ∧ (L.length = 0 ∨ ∃ es sp, d = .slice es sp ∧ es.length = L.length) := by
  obtain ⟨fuel, hf⟩ := h
  rcases Go.Deep.open_slice_pairs Try.underlying56 Try.underlying58 cellsUse rfl rfl cellsInt cellsInt hf with ⟨hcs, _⟩ | ⟨x, l, c, m, n, V0, V1, D0, D1, P0, P1, hcs, _, hl, hm, hmm, hd, hx⟩
  · simp [Value.cells] at hcs
    obtain ⟨rfl, rfl, rfl⟩ := hcs
    exact ⟨[], rfl, ⟨by simp [maxLen], Or.inl rfl⟩, Or.inl rfl⟩
  · simp [Value.cells] at hcs
    obtain ⟨rfl, rfl, rfl⟩ := hcs
    have hlm : len ≤ m := by rw [hmm]; split <;> omega
    have each : ∀ i, i < len → ∃ q : Int × Int, W.cell? (x.add (i * 2)) = some (.int .i64 q.1) ∧ W.cell? (x.add (i * 2 + 1)) = some (.int .i64 q.2) := fun i hi => by
      obtain ⟨c0, c1, t0, t1⟩ := hx i (by omega)
      obtain ⟨u0, e0, _, _⟩ := DataW.trod_int Try.underlying3 t0
      obtain ⟨u1, e1, _, _⟩ := DataW.trod_int Try.underlying3 t1
      simp at e0 e1
      exact ⟨(u0, u1), by rw [c0, e0], by rw [c1, e1]⟩
    obtain ⟨F, hF⟩ := Go.Deep.choose_lt each
    refine ⟨(List.range len).map F, by simp, ⟨by simp; omega, ?_⟩, Or.inr ⟨_, _, (Prod.mk.inj hd).1, by simp⟩⟩
    by_cases h0 : len = 0
    · subst h0; exact Or.inl rfl
    right
    have hF0 := (hF 0 (by omega)).1
    obtain ⟨b, off, spot⟩ := x
    have hs : spot = none := by simpa [Addr.add] using World.cell?_spot hF0
    subst hs
    refine ⟨b, off, rfl, by simpa [Addr.add] using lt_of_cell hF0, fun i hi => ?_⟩
    have hi' : i < len := by simpa using hi
    obtain ⟨c0, c1⟩ := hF i hi'
    have hg : ((List.range len).map F).getD i (0, 0) = F i := by simp [List.getD, hi']
    rw [hg]
    have ad : ∀ j, (⟨b, off, none⟩ : Addr).add j = ⟨b, off + j, none⟩ := fun j => by
      unfold Addr.add; by_cases hj : j = 0 <;> simp [hj]
    rw [ad] at c0 c1
    exact ⟨c0, c1⟩

theorem open_uses {H : Type} {enc : TypeId × Value → H} {W : World} {base : Nat} {spare : Nat → Bool} {held : Bool} {a : Option Addr} {len cap : Nat} {d : DataW H} {p : List MemPlace}
    (h : DataW.Trod enc Try.prog W base spare held 56 (.slice a len cap) d p) : ∃ L : List (Int × Int), len = L.length ∧ Ents W a L := by
  obtain ⟨L, h1, h2, -⟩ := open_uses_sized h
  exact ⟨L, h1, h2⟩
end Go.Proofs.Ytdifndnogpcbkaa
