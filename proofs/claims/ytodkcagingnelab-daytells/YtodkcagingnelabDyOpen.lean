/- A record that came in reads as four numbers, a slice of records as a list, a slice of bytes as a list of bytes. -/
import Derived.Test.YtodkcagingnelabRows
import Derived.Test.YtodkcagingnelabGnOpen
import Derived.Test.YtodkcagingnelabDym
namespace Go.Proofs.Ytodkcagingnelab.Dy
open Go.ChangeShapes Go.WideShapes Go.ChangeAt Go.RowKit Go.Proofs.Ytodkcagingnelab.Gn

theorem cellsRecord : Try.prog.cellsOf 87 = 4 := by kernel_rfl
theorem cellsByte : Try.prog.cellsOf 5 = 1 := by kernel_rfl

set_option maxRecDepth 100000 in
theorem open_rc {H : Type} {enc : TypeId × Value → H} {W : World} {base : Nat} {spare : Nat → Bool} {held : Bool} (n : Nat) (cs : List Value) (x : DataW H × List MemPlace)
    (h : DataW.trod enc Try.prog W base spare held n 87 cs = some x) : ∃ t : Rc, cs = kR.cells t ∧ True := by
  obtain ⟨xs, m, -, -, hcl, hlen, hF⟩ := DataW.trod_struct Try.underlying87 h
  rw [cellsRecord] at hcl
  match cs, hcl with
  | [c0, c1, c2, c3], _ =>
    have hlen' : xs.length = 4 := hlen
    have g0 := hF 0 _ rfl
    have g1 := hF 1 _ rfl
    have g2 := hF 2 _ rfl
    have g3 := hF 3 _ rfl
    obtain ⟨x0, rfl, -⟩ := field_int (v := c0) g0 hlen' (by omega)
    obtain ⟨x1, rfl, -⟩ := field_int (v := c1) g1 hlen' (by omega)
    obtain ⟨x2, rfl, -⟩ := field_int (v := c2) g2 hlen' (by omega)
    obtain ⟨x3, rfl, -⟩ := field_int (v := c3) g3 hlen' (by omega)
    exact ⟨⟨x0, x1, x2, x3⟩, rfl, trivial⟩

set_option maxRecDepth 100000 in
theorem open_recs {H : Type} {enc : TypeId × Value → H} {W : World} {base : Nat} {spare : Nat → Bool} {held : Bool} {a : Option Addr} {len cap : Nat} {d : DataW H} {p : List MemPlace}
    (h : DataW.Trod enc Try.prog W base spare held 74 (.slice a len cap) d p) : ∃ L : List Rc, len = L.length ∧ Lies kR W a cap L := by
  obtain ⟨fuel, hf⟩ := h
  obtain ⟨L, h1, h2, -, -⟩ := open_list zR kR (fun _ => True) Try.underlying74 cellsRecord open_rc hf
  exact ⟨L, h1, h2⟩
end Go.Proofs.Ytodkcagingnelab.Dy
