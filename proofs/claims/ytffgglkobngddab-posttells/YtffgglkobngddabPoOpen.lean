/- A transfer that came in reads as four numbers, a sender as a number and a list of transfers. -/
import Derived.Test.YtffgglkobngddabRows
import Derived.Test.YtffgglkobngddabGnOpen
import Derived.Test.YtffgglkobngddabPof
namespace Go.Proofs.Ytffgglkobngddab.Po
open Go.ChangeShapes Go.WideShapes Go.ChangeAt Go.RowKit Go.Proofs.Ytffgglkobngddab.Gn

theorem cellsTransfer : Try.prog.cellsOf 42 = 4 := by kernel_rfl
theorem cellsSender : Try.prog.cellsOf 40 = 2 := by kernel_rfl
theorem cellsTransfers : Try.prog.cellsOf 38 = 1 := by kernel_rfl

/-- Its number fits. -/
def FitT (t : Tr) : Prop := -9223372036854775808 ≤ t.n ∧ t.n ≤ 9223372036854775807

theorem open_tr {H : Type} {enc : TypeId × Value → H} {W : World} {base : Nat} {spare : Nat → Bool} {held : Bool} (n : Nat) (cs : List Value) (x : DataW H × List MemPlace)
    (h : DataW.trod enc Try.prog W base spare held n 42 cs = some x) : ∃ t : Tr, cs = kT.cells t ∧ FitT t := by
  obtain ⟨xs, m, -, -, hcl, hlen, hF⟩ := DataW.trod_struct Try.underlying42 h
  rw [cellsTransfer] at hcl
  match cs, hcl with
  | [c0, c1, c2, c3], _ =>
    have hlen' : xs.length = 4 := hlen
    have g0 := hF 0 _ rfl
    have g1 := hF 1 _ rfl
    have g2 := hF 2 _ rfl
    have g3 := hF 3 _ rfl
    obtain ⟨x0, rfl, hx⟩ := field_int (v := c0) g0 hlen' (by omega)
    obtain ⟨x1, rfl, -⟩ := field_int (v := c1) g1 hlen' (by omega)
    obtain ⟨x2, rfl, -⟩ := field_int (v := c2) g2 hlen' (by omega)
    obtain ⟨x3, rfl, -⟩ := field_int (v := c3) g3 hlen' (by omega)
    exact ⟨⟨x0, x1, x2, x3⟩, rfl, hx⟩

theorem open_transfer {H : Type} {enc : TypeId × Value → H} {W : World} {base b0 : Nat} {r : Reach} {spare : Nat → Bool} {held : Bool} {v : Value} {d : DataW H} {p : List MemPlace}
    (hv : Value.okWide Try.prog W r b0 42 v) (h : DataW.Trod enc Try.prog W base spare held 42 v d p) : ∃ t : Tr, v = tv t := by
  obtain ⟨cs, rfl, hsz⟩ := okWide_struct Try.underlying42 hv
  obtain ⟨fuel, hf⟩ := h
  obtain ⟨t, ht, -⟩ := open_tr _ _ _ hf
  refine ⟨t, ?_⟩
  unfold tv
  congr 1
  apply Array.toList_inj.1
  simpa [kT, Value.cells] using ht

theorem open_sender {H : Type} {enc : TypeId × Value → H} {W : World} {base b0 : Nat} {r : Reach} {spare : Nat → Bool} {held : Bool} {v : Value} {d : DataW H} {p : List MemPlace}
    (hv : Value.okWide Try.prog W r b0 40 v) (h : DataW.Trod enc Try.prog W base spare held 40 v d p) : ∃ (s : Se) (a : Option Addr) (cap : Nat), v = sv s a cap ∧ Lies kT W a cap s.kept ∧ Fit s.kept := by
  obtain ⟨cs, rfl, hsz⟩ := okWide_struct Try.underlying40 hv
  obtain ⟨c0, c1, rfl⟩ : ∃ c0 c1, cs = #[c0, c1] := by
    obtain ⟨l⟩ := cs
    have hl : l.length = 2 := hsz.trans cellsSender
    match l, hl with
    | [c0, c1], _ => exact ⟨c0, c1, rfl⟩
  obtain ⟨fuel, hf⟩ := h
  obtain ⟨xs, n, -, -, -, hlen, hF⟩ := DataW.trod_struct Try.underlying40 hf
  have hlen' : xs.length = 2 := hlen
  have g0 := hF 0 _ rfl
  have g1 : DataW.trod enc Try.prog W base spare held n 38 (List.take (Try.prog.cellsOf 38) (List.drop 1 [c0, c1])) = xs[1]? := hF 1 _ rfl
  simp only [Value.cells] at g0
  rw [cellsTransfers] at g1
  have g1 : DataW.trod enc Try.prog W base spare held n 38 [c1] = xs[1]? := g1
  obtain ⟨x0, rfl, -⟩ := field_int (v := c0) g0 hlen' (by omega)
  obtain ⟨y1, hy1⟩ := at_some hlen' (show 1 < 2 by omega)
  have e1 := g1.trans hy1
  have hs : ∃ a len cap, c1 = .slice a len cap := by
    rcases Go.Deep.open_slice Try.underlying38 e1 with ⟨hcs, -⟩ | ⟨ad, l, c, m, n, D, Pl, hcs, -⟩
    · exact ⟨none, 0, 0, by simpa using hcs⟩
    · exact ⟨some ad, l, c, by simpa using hcs⟩
  obtain ⟨a, len, cap, rfl⟩ := hs
  obtain ⟨L, rfl, hL, hg, -⟩ := open_list zeroT kT FitT Try.underlying38 cellsTransfer open_tr e1
  exact ⟨⟨x0, L⟩, a, cap, rfl, hL, hg⟩
end Go.Proofs.Ytffgglkobngddab.Po
