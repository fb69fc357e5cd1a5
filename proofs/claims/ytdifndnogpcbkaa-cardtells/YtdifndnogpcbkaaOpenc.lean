/- A card that came in reads as five numbers and a list of pairs of numbers. -/
import Derived.Test.YtdifndnogpcbkaaOpen
import Derived.Test.YtdifndnogpcbkaaCarda
namespace Go.Proofs.Ytdifndnogpcbkaa
open Go.ChangeShapes Go.WideShapes Go.ChangeAt Go.RowKit

theorem cellsCard : Try.prog.cellsOf 69 = 6 := by kernel_rfl
theorem cellsUses : Try.prog.cellsOf 56 = 1 := by kernel_rfl

theorem array6 {α : Type} {cs : Array α} (h : cs.size = 6) : ∃ c0 c1 c2 c3 c4 c5, cs = #[c0, c1, c2, c3, c4, c5] := by
  obtain ⟨l⟩ := cs
  match l, h with
  | [c0, c1, c2, c3, c4, c5], _ => exact ⟨c0, c1, c2, c3, c4, c5, rfl⟩

/-- The value that came in is a card. -/
theorem open_card {H : Type} {enc : TypeId × Value → H} {W : World} {base b0 : Nat} {r : Reach} {spare : Nat → Bool} {held : Bool} {v : Value} {d : DataW H} {p : List MemPlace}
    (hv : Value.okWide Try.prog W r b0 69 v) (h : DataW.Trod enc Try.prog W base spare held 69 v d p) : ∃ (c : Ca) (a : Option Addr) (cap : Nat), v = cv c a cap ∧ Lies W a cap c.u := by
  obtain ⟨cs, rfl, hsz⟩ := okWide_struct Try.underlying69 hv
  obtain ⟨c0, c1, c2, c3, c4, c5, rfl⟩ := array6 (hsz.trans cellsCard)
  obtain ⟨fuel, hf⟩ := h
  obtain ⟨xs, n, -, -, -, hlen, hF⟩ := DataW.trod_struct Try.underlying69 hf
  have hlen' : xs.length = 4 := hlen
  have g0 := hF 0 _ rfl
  have g1 := hF 1 _ rfl
  have g2 : DataW.trod enc Try.prog W base spare held n 55 (List.take (Try.prog.cellsOf 55) (List.drop 2 [c0, c1, c2, c3, c4, c5])) = xs[2]? := hF 2 _ rfl
  have g3 : DataW.trod enc Try.prog W base spare held n 56 (List.take (Try.prog.cellsOf 56) (List.drop 5 [c0, c1, c2, c3, c4, c5])) = xs[3]? := hF 3 _ rfl
  simp only [Value.cells] at g0 g1
  rw [cellsPace] at g2
  rw [cellsUses] at g3
  have g2 : DataW.trod enc Try.prog W base spare held n 55 [c2, c3, c4] = xs[2]? := g2
  have g3 : DataW.trod enc Try.prog W base spare held n 56 [c5] = xs[3]? := g3
  obtain ⟨x0, rfl⟩ := field_int g0 hlen' (by omega)
  obtain ⟨x1, rfl⟩ := field_int g1 hlen' (by omega)
  obtain ⟨y2, hy2⟩ := at_some hlen' (show 2 < 4 by omega)
  obtain ⟨y3, hy3⟩ := at_some hlen' (show 3 < 4 by omega)
  obtain ⟨zs, m, -, -, -, hzl, hZ⟩ := DataW.trod_struct Try.underlying55 (g2.trans hy2)
  have hzl' : zs.length = 3 := hzl
  have k0 := hZ 0 _ rfl
  have k1 := hZ 1 _ rfl
  have k2 := hZ 2 _ rfl
  obtain ⟨x2, rfl⟩ := field_int (v := c2) k0 hzl' (by omega)
  obtain ⟨x3, rfl⟩ := field_int (v := c3) k1 hzl' (by omega)
  obtain ⟨x4, rfl⟩ := field_int (v := c4) k2 hzl' (by omega)
  have e3 : DataW.trod enc Try.prog W base spare held n 56 [c5] = some y3 := g3.trans hy3
  have hs : ∃ a len cap, c5 = .slice a len cap ∧ (a = none → cap = 0) := by
    rcases Go.Deep.open_slice_pairs Try.underlying56 Try.underlying58 cellsUse rfl rfl cellsInt cellsInt e3 with ⟨hcs, -⟩ | ⟨x, l, c, -, -, -, -, -, -, -, -, hcs, -⟩
    · exact ⟨none, 0, 0, by simpa using hcs, fun _ => rfl⟩
    · exact ⟨some x, l, c, by simpa using hcs, fun h => by cases h⟩
  obtain ⟨a, len, cap, rfl, hn⟩ := hs
  obtain ⟨L, rfl, hL⟩ := open_uses (a := a) (len := len) (cap := cap) (d := y3.1) (p := y3.2) ⟨n, e3⟩
  exact ⟨⟨x0, x1, ⟨x2, x3, x4⟩, L⟩, a, cap, rfl, hL, hn⟩
end Go.Proofs.Ytdifndnogpcbkaa
