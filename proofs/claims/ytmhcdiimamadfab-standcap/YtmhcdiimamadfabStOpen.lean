/- An advice that came in reads as four numbers, a stand as a number and two lists, a slice of advices as a list. -/
import Derived.Test.YtmhcdiimamadfabRows
import Derived.Test.YtmhcdiimamadfabGnOpen
import Derived.Test.YtmhcdiimamadfabSta
namespace Go.Proofs.Ytmhcdiimamadfab.St
open Go.ChangeShapes Go.WideShapes Go.ChangeAt Go.RowKit Go.Proofs.Ytmhcdiimamadfab.Gn

theorem cellsAdvice : Try.prog.cellsOf 63 = 4 := by kernel_rfl
theorem cellsStand : Try.prog.cellsOf 61 = 3 := by kernel_rfl
theorem cellsAdvices : Try.prog.cellsOf 59 = 1 := by kernel_rfl
theorem cellsInts : Try.prog.cellsOf 58 = 1 := by kernel_rfl

theorem open_ad {H : Type} {enc : TypeId × Value → H} {W : World} {base : Nat} {spare : Nat → Bool} {held : Bool} (n : Nat) (cs : List Value) (x : DataW H × List MemPlace)
    (h : DataW.trod enc Try.prog W base spare held n 63 cs = some x) : ∃ t : Ad, cs = kA.cells t ∧ True := by
  obtain ⟨xs, m, -, -, hcl, hlen, hF⟩ := DataW.trod_struct Try.underlying63 h
  rw [cellsAdvice] at hcl
  match cs, hcl with
  | [c0, c1, c2, c3], _ =>
    have hlen' : xs.length = 4 := hlen
    have g0 := hF 0 _ rfl
    have g1 := hF 1 _ rfl
    have g2 := hF 2 _ rfl
    have g3 := hF 3 _ rfl
    obtain ⟨x0, rfl, -⟩ := field_int (v := c0) g0 hlen' (by omega)
    obtain ⟨x1, rfl, -⟩ := field_int (v := c1) g1 hlen' (by omega)
    obtain ⟨x2, rfl, -⟩ := field_int (v := c2) g2 hlen' (by omega)
    obtain ⟨x3, rfl, -⟩ := field_int (v := c3) g3 hlen' (by omega)
    exact ⟨⟨x0, x1, x2, x3⟩, rfl, trivial⟩

theorem open_num {H : Type} {enc : TypeId × Value → H} {W : World} {base : Nat} {spare : Nat → Bool} {held : Bool} (n : Nat) (cs : List Value) (x : DataW H × List MemPlace)
    (h : DataW.trod enc Try.prog W base spare held n 3 cs = some x) : ∃ t : Int, cs = kI.cells t ∧ True := by
  obtain ⟨k, e, _, _⟩ := DataW.trod_int Try.underlying3 h
  exact ⟨k, e, trivial⟩

theorem open_advice {H : Type} {enc : TypeId × Value → H} {W : World} {base b0 : Nat} {r : Reach} {spare : Nat → Bool} {held : Bool} {v : Value} {d : DataW H} {p : List MemPlace}
    (hv : Value.okWide Try.prog W r b0 63 v) (h : DataW.Trod enc Try.prog W base spare held 63 v d p) : ∃ t : Ad, v = av t := by
  obtain ⟨cs, rfl, hsz⟩ := okWide_struct Try.underlying63 hv
  obtain ⟨fuel, hf⟩ := h
  obtain ⟨t, ht, -⟩ := open_ad _ _ _ hf
  refine ⟨t, ?_⟩
  unfold av
  congr 1
  apply Array.toList_inj.1
  simpa [kA, Value.cells] using ht

theorem open_advices {H : Type} {enc : TypeId × Value → H} {W : World} {base : Nat} {spare : Nat → Bool} {held : Bool} {a : Option Addr} {len cap : Nat} {d : DataW H} {p : List MemPlace}
    (h : DataW.Trod enc Try.prog W base spare held 59 (.slice a len cap) d p) : ∃ L : List Ad, len = L.length ∧ Lies kA W a cap L := by
  obtain ⟨fuel, hf⟩ := h
  obtain ⟨L, h1, h2, -, -⟩ := open_list zA kA (fun _ => True) Try.underlying59 cellsAdvice open_ad hf
  exact ⟨L, h1, h2⟩

theorem open_stand {H : Type} {enc : TypeId × Value → H} {W : World} {base b0 : Nat} {r : Reach} {spare : Nat → Bool} {held : Bool} {v : Value} {d : DataW H} {p : List MemPlace}
    (hv : Value.okWide Try.prog W r b0 61 v) (h : DataW.Trod enc Try.prog W base spare held 61 v d p) : ∃ (s : Sd) (v1 v2 : Value), v = dv s.cap v1 v2 ∧ At kI W v1 s.used ∧ At kA W v2 s.adv := by
  obtain ⟨cs, rfl, hsz⟩ := okWide_struct Try.underlying61 hv
  obtain ⟨c0, c1, c2, rfl⟩ : ∃ c0 c1 c2, cs = #[c0, c1, c2] := by
    obtain ⟨l⟩ := cs
    have hl : l.length = 3 := hsz.trans cellsStand
    match l, hl with
    | [c0, c1, c2], _ => exact ⟨c0, c1, c2, rfl⟩
  obtain ⟨fuel, hf⟩ := h
  obtain ⟨xs, n, -, -, -, hlen, hF⟩ := DataW.trod_struct Try.underlying61 hf
  have hlen' : xs.length = 3 := hlen
  have g0 := hF 0 _ rfl
  have g1 : DataW.trod enc Try.prog W base spare held n 58 (List.take (Try.prog.cellsOf 58) (List.drop 1 [c0, c1, c2])) = xs[1]? := hF 1 _ rfl
  have g2 : DataW.trod enc Try.prog W base spare held n 59 (List.take (Try.prog.cellsOf 59) (List.drop 2 [c0, c1, c2])) = xs[2]? := hF 2 _ rfl
  simp only [Value.cells] at g0
  rw [cellsInts] at g1
  rw [cellsAdvices] at g2
  have g1 : DataW.trod enc Try.prog W base spare held n 58 [c1] = xs[1]? := g1
  have g2 : DataW.trod enc Try.prog W base spare held n 59 [c2] = xs[2]? := g2
  obtain ⟨x0, rfl, -⟩ := field_int (v := c0) g0 hlen' (by omega)
  obtain ⟨y1, hy1⟩ := at_some hlen' (show 1 < 3 by omega)
  obtain ⟨y2, hy2⟩ := at_some hlen' (show 2 < 3 by omega)
  have e1 := g1.trans hy1
  have e2 := g2.trans hy2
  have hs1 : ∃ a len cap, c1 = .slice a len cap := by
    rcases Go.Deep.open_slice Try.underlying58 e1 with ⟨hcs, -⟩ | ⟨ad, l, c, m, n, D, Pl, hcs, -⟩
    · exact ⟨none, 0, 0, by simpa using hcs⟩
    · exact ⟨some ad, l, c, by simpa using hcs⟩
  have hs2 : ∃ a len cap, c2 = .slice a len cap := by
    rcases Go.Deep.open_slice Try.underlying59 e2 with ⟨hcs, -⟩ | ⟨ad, l, c, m, n, D, Pl, hcs, -⟩
    · exact ⟨none, 0, 0, by simpa using hcs⟩
    · exact ⟨some ad, l, c, by simpa using hcs⟩
  obtain ⟨a1, len1, cap1, rfl⟩ := hs1
  obtain ⟨a2, len2, cap2, rfl⟩ := hs2
  obtain ⟨U, rfl, hU, -, -⟩ := open_list (0 : Int) kI (fun _ => True) Try.underlying58 cellsInt open_num e1
  obtain ⟨L, rfl, hL, -, -⟩ := open_list zA kA (fun _ => True) Try.underlying59 cellsAdvice open_ad e2
  exact ⟨⟨x0, U, L⟩, _, _, rfl, ⟨a1, cap1, rfl, hU⟩, ⟨a2, cap2, rfl, hL⟩⟩
end Go.Proofs.Ytmhcdiimamadfab.St
