/- A slice of things that are done, which came in, reads as a list of triples of numbers. -/
import Derived.Test.YtffgglkobngddabRows
import Derived.Test.YtffgglkobngddabGnOpen
import Derived.Test.YtffgglkobngddabPom
namespace Go.Proofs.Ytffgglkobngddab.Po
open Go.ChangeShapes Go.WideShapes Go.ChangeAt Go.RowKit Go.Proofs.Ytffgglkobngddab.Gn

theorem cellsAct : Try.prog.cellsOf 55 = 3 := by kernel_rfl

theorem open_act {H : Type} {enc : TypeId × Value → H} {W : World} {base : Nat} {spare : Nat → Bool} {held : Bool} (n : Nat) (cs : List Value) (x : DataW H × List MemPlace)
    (h : DataW.trod enc Try.prog W base spare held n 55 cs = some x) : ∃ t : Ac, cs = kA.cells t ∧ True := by
  obtain ⟨xs, m, -, -, hcl, hlen, hF⟩ := DataW.trod_struct Try.underlying55 h
  rw [cellsAct] at hcl
  match cs, hcl with
  | [c0, c1, c2], _ =>
    have hlen' : xs.length = 3 := hlen
    have g0 := hF 0 _ rfl
    have g1 := hF 1 _ rfl
    have g2 := hF 2 _ rfl
    obtain ⟨x0, rfl, -⟩ := field_int (v := c0) g0 hlen' (by omega)
    obtain ⟨x1, rfl, -⟩ := field_int (v := c1) g1 hlen' (by omega)
    obtain ⟨x2, rfl, -⟩ := field_int (v := c2) g2 hlen' (by omega)
    exact ⟨⟨x0, x1, x2⟩, rfl, trivial⟩

theorem open_acts {H : Type} {enc : TypeId × Value → H} {W : World} {base : Nat} {spare : Nat → Bool} {held : Bool} {a : Option Addr} {len cap : Nat} {d : DataW H} {p : List MemPlace}
    (h : DataW.Trod enc Try.prog W base spare held 53 (.slice a len cap) d p) : ∃ L : List Ac, len = L.length ∧ Lies kA W a cap L := by
  obtain ⟨fuel, hf⟩ := h
  obtain ⟨L, h1, h2, -, -⟩ := open_list zeroA kA (fun _ => True) Try.underlying53 cellsAct open_act hf
  exact ⟨L, h1, h2⟩
end Go.Proofs.Ytffgglkobngddab.Po
