/- A slice of bytes that came in reads as a list of bytes, within its room. -/
import Derived.Test.YtodkcagingnelabDyOpen
namespace Go.Proofs.Ytodkcagingnelab.Dy
open Go.ChangeShapes Go.WideShapes Go.ChangeAt Go.RowKit Go.Proofs.Ytodkcagingnelab.Gn

theorem wf_u8 {k : Int} (h : (Lit.int .u8 k).wf = true) : 0 ≤ k ∧ k ≤ 255 := by
  simp [Lit.wf, IntKind.min, IntKind.max, IntKind.signed, IntKind.bits] at h
  omega
set_option maxRecDepth 100000 in
theorem open_byte {H : Type} {enc : TypeId × Value → H} {W : World} {base : Nat} {spare : Nat → Bool} {held : Bool} (n : Nat) (cs : List Value) (x : DataW H × List MemPlace)
    (h : DataW.trod enc Try.prog W base spare held n 5 cs = some x) : ∃ t : Int, cs = kB.cells t ∧ (0 ≤ t ∧ t ≤ 255) := by
  obtain ⟨k, e, _, hw⟩ := DataW.trod_int Try.underlying5 h
  exact ⟨k, e, wf_u8 hw⟩
set_option maxRecDepth 100000 in
theorem open_bytes {H : Type} {enc : TypeId × Value → H} {W : World} {base : Nat} {spare : Nat → Bool} {held : Bool} {a : Option Addr} {len cap : Nat} {d : DataW H} {p : List MemPlace}
    (h : DataW.Trod enc Try.prog W base spare held 75 (.slice a len cap) d p) : ∃ L : List Int, len = L.length ∧ (Lies kB W a cap L ∧ Byt L ∧ L.length ≤ cap) := by
  obtain ⟨fuel, hf⟩ := h
  have hcap : len ≤ cap := by
    rcases Go.Deep.open_slice Try.underlying75 hf with ⟨hcs, -⟩ | ⟨ad, l, c, m, n, D, Pl, hcs, -, hl, -⟩
    · cases hcs; exact Nat.le_refl _
    · cases hcs; exact hl
  obtain ⟨L, h1, h2, h3, -⟩ := open_list (0 : Int) kB (fun t => 0 ≤ t ∧ t ≤ 255) Try.underlying75 cellsByte open_byte hf
  exact ⟨L, h1, h2, h3, by omega⟩
end Go.Proofs.Ytodkcagingnelab.Dy
