/- A permission that came in reads as seven numbers and a sign. -/
import Derived.Test.YtolfddiofcllcaaRows
import Derived.Test.YtolfddiofcllcaaWalka
import Derived.ProofKit
import Derived.OpenShut
import Derived.ChangeOld
namespace Go.Proofs.Ytolfddiofcllcaa
open Go.ChangeShapes Go.WideShapes Go.ChangeAt Go.RowKit

theorem own : ownKnob Try.prog.godebug = none := by kernel_rfl
theorem laidOut : laidOutB Try.prog = true := by kernel_rfl
theorem cells39 : Try.prog.cellsOf 39 = 8 := by kernel_rfl
theorem cells3 : Try.prog.cellsOf 3 = 1 := by kernel_rfl
theorem cells4 : Try.prog.cellsOf 4 = 1 := by kernel_rfl

theorem array8 {α : Type} {cs : Array α} (h : cs.size = 8) : ∃ c0 c1 c2 c3 c4 c5 c6 c7, cs = #[c0, c1, c2, c3, c4, c5, c6, c7] := by
  obtain ⟨l⟩ := cs
  match l, h with
  | [c0, c1, c2, c3, c4, c5, c6, c7], _ => exact ⟨c0, c1, c2, c3, c4, c5, c6, c7, rfl⟩

theorem at_some {α : Type} {xs : List α} {n i : Nat} (h : xs.length = n) (hi : i < n) : ∃ y, xs[i]? = some y := ⟨xs[i], List.getElem?_eq_getElem (by omega)⟩

theorem field_int {H : Type} {enc : TypeId × Value → H} {W : World} {base : Nat} {spare : Nat → Bool} {held : Bool} {n i : Nat} {v : Value} {xs : List (DataW H × List MemPlace)} {m : Nat}
    (h : DataW.trod enc Try.prog W base spare held n 3 [v] = xs[i]?) (hl : xs.length = m) (hi : i < m) : ∃ k : Int, v = .int .i64 k := by
  obtain ⟨y, hy⟩ := at_some hl hi
  obtain ⟨k, e, _⟩ := DataW.trod_int Try.underlying3 (h.trans hy)
  exact ⟨k, by simpa using e⟩

theorem field_bool {H : Type} {enc : TypeId × Value → H} {W : World} {base : Nat} {spare : Nat → Bool} {held : Bool} {n i : Nat} {v : Value} {xs : List (DataW H × List MemPlace)} {m : Nat}
    (h : DataW.trod enc Try.prog W base spare held n 4 [v] = xs[i]?) (hl : xs.length = m) (hi : i < m) : ∃ k : Bool, v = .bool k := by
  obtain ⟨y, hy⟩ := at_some hl hi
  obtain ⟨k, e, _⟩ := DataW.trod_bool Try.underlying4 (h.trans hy)
  exact ⟨k, by simpa using e⟩

/-- The value that came in is a permission. -/
theorem open_auth {H : Type} {enc : TypeId × Value → H} {W : World} {base b0 : Nat} {r : Reach} {spare : Nat → Bool} {held : Bool} {v : Value} {d : DataW H} {p : List MemPlace}
    (hv : Value.okWide Try.prog W r b0 39 v) (h : DataW.Trod enc Try.prog W base spare held 39 v d p) : ∃ a : Au, v = av a := by
  obtain ⟨cs, rfl, hsz⟩ := okWide_struct Try.underlying39 hv
  obtain ⟨c0, c1, c2, c3, c4, c5, c6, c7, rfl⟩ := array8 (hsz.trans cells39)
  obtain ⟨fuel, hf⟩ := h
  obtain ⟨xs, n, -, -, -, hlen, hF⟩ := DataW.trod_struct Try.underlying39 hf
  have hlen' : xs.length = 8 := hlen
  have g0 := hF 0 _ rfl
  have g1 := hF 1 _ rfl
  have g2 := hF 2 _ rfl
  have g3 := hF 3 _ rfl
  have g4 := hF 4 _ rfl
  have g5 := hF 5 _ rfl
  have g6 := hF 6 _ rfl
  have g7 := hF 7 _ rfl
  simp only [Value.cells] at g0 g1 g2 g3 g4 g5 g6 g7
  obtain ⟨x0, rfl⟩ := field_int g0 hlen' (by omega)
  obtain ⟨x1, rfl⟩ := field_int g1 hlen' (by omega)
  obtain ⟨x2, rfl⟩ := field_int g2 hlen' (by omega)
  obtain ⟨x3, rfl⟩ := field_int g3 hlen' (by omega)
  obtain ⟨x4, rfl⟩ := field_int g4 hlen' (by omega)
  obtain ⟨x5, rfl⟩ := field_int g5 hlen' (by omega)
  obtain ⟨x6, rfl⟩ := field_int g6 hlen' (by omega)
  obtain ⟨x7, rfl⟩ := field_bool g7 hlen' (by omega)
  exact ⟨⟨x0, x1, x2, x3, x4, x5, x6, x7⟩, rfl⟩
end Go.Proofs.Ytolfddiofcllcaa
