/- A slice of records that came in, and how its reading looks. -/
import Derived.Test.YtodkcagingnelabDyOpen
namespace Go.Proofs.Ytodkcagingnelab.Dy
open Go.ChangeShapes Go.WideShapes Go.ChangeAt Go.RowKit Go.Proofs.Ytodkcagingnelab.Gn

theorem bytesRecord : Try.prog.bytesOf 87 = 32 := by kernel_rfl
set_option maxRecDepth 100000 in
theorem open_recs_sized {H : Type} {enc : TypeId × Value → H} {W : World} {base : Nat} {spare : Nat → Bool} {held : Bool} {a : Option Addr} {len cap : Nat} {d : DataW H} {p : List MemPlace}
    (h : DataW.Trod enc Try.prog W base spare held 74 (.slice a len cap) d p) : ∃ L : List Rc, len = L.length ∧ Lies kR W a cap L ∧ (L.length = 0 ∨ ∃ es sp, d = .slice es sp ∧ es.length = L.length) := by
  obtain ⟨fuel, hf⟩ := h
  obtain ⟨L, h1, h2, -, h4⟩ := open_list zR kR (fun _ => True) Try.underlying74 cellsRecord open_rc hf
  exact ⟨L, h1, h2, h4⟩
end Go.Proofs.Ytodkcagingnelab.Dy
