import Derived.Test.YtofcnebekmjdoaaGreatDoorKbu
import Derived.Test.YtofcnebekmjdoaaGreatDoorLOnceab
set_option maxHeartbeats 4000000
set_option maxRecDepth 100000
namespace Go.Proofs.YtofcnebekmjdoaaGreatDoor.Bn
open Go.ChangeShapes Go.WideShapes Go.ChangeAt Go.RowKit Go.Proofs.YtofcnebekmjdoaaGreatDoor.Gn
theorem cellsPace : Tryz.prog.cellsOf 58 = 3 := by kernel_rfl
theorem cellsDo : Tryz.prog.cellsOf 74 = 6 := by kernel_rfl
theorem cellsSetup : Tryz.prog.cellsOf 24 = 3 := by kernel_rfl
theorem cellsPaces : Tryz.prog.cellsOf 22 = 1 := by kernel_rfl
theorem six {l : List Value} (h : l.length = 6) : ∃ a b c d e f, l = [a, b, c, d, e, f] := by
 match l, h with
 | [a, b, c, d, e, f], _ => exact ⟨a, b, c, d, e, f, rfl⟩
theorem open_pa {H : Type} {enc : TypeId × Value → H} {W : World} {base : Nat} {spare : Nat → Bool} {held : Bool} (n : Nat) (cs : List Value) (x : DataW H × List MemPlace)
  (h : DataW.trod enc Tryz.prog W base spare held n 58 cs = some x) : ∃ p : Pa, cs = kPa.cells p ∧ True := by
 obtain ⟨xs, m, -, -, hcl, hlen, hF⟩ := DataW.trod_struct Tryz.underlying58 h
 rw [cellsPace] at hcl
 obtain ⟨c0, c1, c2, rfl⟩ := three hcl
 have hlen' : xs.length = 3 := hlen
 have g0 := hF 0 _ rfl
 have g1 := hF 1 _ rfl
 have g2 := hF 2 _ rfl
 obtain ⟨x0, rfl, -⟩ := field_int (v := c0) g0 hlen' (by omega)
 obtain ⟨x1, rfl, -⟩ := field_int (v := c1) g1 hlen' (by omega)
 obtain ⟨x2, rfl, -⟩ := field_int (v := c2) g2 hlen' (by omega)
 exact ⟨⟨x0, x1, x2⟩, rfl, trivial⟩
theorem open_do {H : Type} {enc : TypeId × Value → H} {W : World} {base : Nat} {spare : Nat → Bool} {held : Bool} (n : Nat) (cs : List Value) (x : DataW H × List MemPlace)
  (h : DataW.trod enc Tryz.prog W base spare held n 74 cs = some x) : ∃ d : Dd, cs = kDd.cells d ∧ FitD d := by
 obtain ⟨xs, m, -, -, hcl, hlen, hF⟩ := DataW.trod_struct Tryz.underlying74 h
 rw [cellsDo] at hcl
 obtain ⟨c0, c1, c2, c3, c4, c5, rfl⟩ := six hcl
 have hlen' : xs.length = 6 := hlen
 have g0 := hF 0 _ rfl
 have g1 := hF 1 _ rfl
 have g2 := hF 2 _ rfl
 have g3 := hF 3 _ rfl
 have g4 := hF 4 _ rfl
 have g5 := hF 5 _ rfl
 obtain ⟨x0, rfl, hx⟩ := field_int (v := c0) g0 hlen' (by omega)
 obtain ⟨x1, rfl, -⟩ := field_int (v := c1) g1 hlen' (by omega)
 obtain ⟨x2, rfl, -⟩ := field_int (v := c2) g2 hlen' (by omega)
 obtain ⟨x3, rfl, -⟩ := field_int (v := c3) g3 hlen' (by omega)
 obtain ⟨x4, rfl, -⟩ := field_int (v := c4) g4 hlen' (by omega)
 obtain ⟨x5, rfl, -⟩ := field_int (v := c5) g5 hlen' (by omega)
 exact ⟨⟨x0, x1, x2, x3, x4, x5⟩, rfl, hx⟩
theorem open_dos {H : Type} {enc : TypeId × Value → H} {W : World} {base : Nat} {spare : Nat → Bool} {held : Bool} {a : Option Addr} {len cap : Nat} {d : DataW H} {p : List MemPlace}
  (h : DataW.Trod enc Tryz.prog W base spare held 25 (.slice a len cap) d p) : ∃ l : List Dd, len = l.length ∧ Gn.Lies kDd W a cap l ∧ ∀ d ∈ l, FitD d := by
 obtain ⟨fuel, hf⟩ := h
 obtain ⟨L, h1, h2, h3, -⟩ := open_list (⟨0, 0, 0, 0, 0, 0⟩ : Dd) kDd FitD Tryz.underlying25 cellsDo open_do hf
 exact ⟨L, h1, h2, h3⟩
theorem open_setup {H : Type} {enc : TypeId × Value → H} {W : World} {base b0 : Nat} {r : Reach} {spare : Nat → Bool} {held : Bool} {v : Value} {d : DataW H} {p : List MemPlace}
  (hv : Value.okWide Tryz.prog W r b0 24 v) (h : DataW.Trod enc Tryz.prog W base spare held 24 v d p) : ∃ (ps : List Pa) (a : Option Addr) (cap : Nat) (shops c : Int), v = suv (.slice a ps.length cap) shops c ∧ Gn.Lies kPa W a cap ps := by
 obtain ⟨cs, rfl, hsz⟩ := okWide_struct Tryz.underlying24 hv
 obtain ⟨c0, c1, c2, rfl⟩ : ∃ c0 c1 c2, cs = #[c0, c1, c2] := by
  obtain ⟨l⟩ := cs
  obtain ⟨c0, c1, c2, rfl⟩ := three (l := l) (hsz.trans cellsSetup)
  exact ⟨c0, c1, c2, rfl⟩
 obtain ⟨fuel, hf⟩ := h
 obtain ⟨xs, n, -, -, -, hlen, hF⟩ := DataW.trod_struct Tryz.underlying24 hf
 have hlen' : xs.length = 3 := hlen
 have g0 : DataW.trod enc Tryz.prog W base spare held n 22 (List.take (Tryz.prog.cellsOf 22) (List.drop 0 [c0, c1, c2])) = xs[0]? := hF 0 _ rfl
 have g1 := hF 1 _ rfl
 have g2 := hF 2 _ rfl
 simp only [Value.cells] at g1 g2
 rw [cellsPaces] at g0
 have g0 : DataW.trod enc Tryz.prog W base spare held n 22 [c0] = xs[0]? := g0
 obtain ⟨x1, rfl, -⟩ := field_int (v := c1) g1 hlen' (by omega)
 obtain ⟨x2, rfl, -⟩ := field_int (v := c2) g2 hlen' (by omega)
 obtain ⟨y1, hy1⟩ := at_some hlen' (show 0 < 3 by omega)
 have e1 := g0.trans hy1
 have hs : ∃ a len cap, c0 = .slice a len cap := by
  rcases Go.Deep.open_slice Tryz.underlying22 e1 with ⟨hcs, -⟩ | ⟨ad, l, c, m, n, D, Pl, hcs, -⟩
  ·exact ⟨none, 0, 0, by simpa using hcs⟩
  ·exact ⟨some ad, l, c, by simpa using hcs⟩
 obtain ⟨a, len, cap, rfl⟩ := hs
 obtain ⟨L, rfl, hL, -, -⟩ := open_list (⟨0, 0, 0⟩ : Pa) kPa (fun _ => True) Tryz.underlying22 cellsPace open_pa e1
 exact ⟨L, a, cap, x1, x2, rfl, hL⟩
open Go.RowKit Go.Proofs.YtofcnebekmjdoaaGreatDoor.Gn Go.Maps
def psA : List Pa := [⟨10, 5, 1000⟩]
def ddA : List Dd := [⟨0, 1, 0, 0, 0, 100⟩, ⟨0, 2, 0, 0, 0, 60⟩, ⟨0, 3, 0, 0, 2, 40⟩, ⟨0, 5, 0, 0, 0, 0⟩, ⟨0, 6, 1, 0, 0, 0⟩]
theorem setup_any (w : World) : Calls Tryz.prog 54 #[] w fun e w' => ∃ a c, e = .returned (suv (.slice a 1 c) 1 30) ∧ Gn.Lies kPa w' a c psA ∧ Below w.heap.size w w' := by
 go_enter Tryz.func54, Tryz.ntmps54
 go_wp2_with fail
 have e1 := below_alloc w (.cells #[.slice (some ⟨w.heap.size + 1, 0, none⟩) 1 1, .int .i64 1, .int .i64 30] 24)
 have e2 := below_alloc (w.alloc (.cells #[.slice (some ⟨w.heap.size + 1, 0, none⟩) 1 1, .int .i64 1, .int .i64 30] 24)) (.cells #[.int .i64 10, .int .i64 5, .int .i64 1000] 58)
 have hp : Gn.Lies kPa ((w.alloc (.cells #[.slice (some ⟨w.heap.size + 1, 0, none⟩) 1 1, .int .i64 1, .int .i64 30] 24)).alloc (.cells #[.int .i64 10, .int .i64 5, .int .i64 1000] 58)) (some ⟨w.heap.size + 1, 0, none⟩) 1 psA := lies_one (K := kPa) (x := ⟨10, 5, 1000⟩) (cs := #[.int .i64 10, .int .i64 5, .int .i64 1000]) (heap_alloc_at _ _ _ (by simp)) rfl _
 have hs : ((w.alloc (.cells #[.slice (some ⟨w.heap.size + 1, 0, none⟩) 1 1, .int .i64 1, .int .i64 30] 24)).alloc (.cells #[.int .i64 10, .int .i64 5, .int .i64 1000] 58)).heap[w.heap.size]? = some (suo (.slice (some ⟨w.heap.size + 1, 0, none⟩) 1 1) 1 30) := (e2.block _ (by simp)).trans (heap_alloc_at _ _ _ rfl)
 have hb := e1.trans (e2.mono (by simp))
 obtain ⟨s0, s1, s2⟩ := sul_cells hs
 generalize (w.alloc (.cells #[.slice (some ⟨w.heap.size + 1, 0, none⟩) 1 1, .int .i64 1, .int .i64 30] 24)).alloc (.cells #[.int .i64 10, .int .i64 5, .int .i64 1000] 58) = X at *
 exact bodyPost_ret (v := suv (.slice (some ⟨w.heap.size + 1, 0, none⟩) 1 1) 1 30) (by unfold suv; simp [results, Tryz.results54, go_sem, s0, s1, s2]; try rfl) rfl ⟨_, _, rfl, hp, hb⟩
theorem lies_blk {α : Type} {K : Kind α} {w : World} {b : Nat} {L : List α} {t : TypeId} {cs : Array Value} (h : w.heap[b]? = some (.cells cs t)) (hc : cs.toList = K.flat L) (hl : L.length ≤ maxLen) (c : Nat) : Gn.Lies K w (some ⟨b, 0, none⟩) c L := by
 refine ⟨hl, (fun h => by cases h), Or.inr ⟨b, 0, rfl, lt_of_block h, fun j u hj => ?_⟩⟩
 rw [← hc] at hj
 rw [Nat.zero_add, cell_of_row w b j cs t _ h]
 simpa using hj
theorem got_box (w : World) (zs : Array Value) (hz : zs.size = 19) (b : Bank) (v : Vs) (f : Int × Int) :
  ((w.alloc (.cells zs 43)).alloc (.cells #[.int .i64 0, .int .i64 0] 47)).there w.heap.size 0 (cellsK b v).size ∧
  (((w.alloc (.cells zs 43)).alloc (.cells #[.int .i64 0, .int .i64 0] 47)).setCells w.heap.size 0 (cellsK b v).toList).heap[w.heap.size + 1]? = some (fo (0, 0)) ∧
  (((((w.alloc (.cells zs 43)).alloc (.cells #[.int .i64 0, .int .i64 0] 47)).setCells w.heap.size 0 (cellsK b v).toList).setCell ⟨w.heap.size + 1, 0, none⟩ (.int .i64 f.1)).setCell ⟨w.heap.size + 1, 1, none⟩ (.int .i64 f.2)).heap[w.heap.size]? = some (bko b v) ∧
  (((((w.alloc (.cells zs 43)).alloc (.cells #[.int .i64 0, .int .i64 0] 47)).setCells w.heap.size 0 (cellsK b v).toList).setCell ⟨w.heap.size + 1, 0, none⟩ (.int .i64 f.1)).setCell ⟨w.heap.size + 1, 1, none⟩ (.int .i64 f.2)).heap[w.heap.size + 1]? = some (fo f) ∧
  Below w.heap.size w (((((w.alloc (.cells zs 43)).alloc (.cells #[.int .i64 0, .int .i64 0] 47)).setCells w.heap.size 0 (cellsK b v).toList).setCell ⟨w.heap.size + 1, 0, none⟩ (.int .i64 f.1)).setCell ⟨w.heap.size + 1, 1, none⟩ (.int .i64 f.2)) := by
 have e1 := below_alloc w (.cells zs 43)
 have e2 := below_alloc (w.alloc (.cells zs 43)) (.cells #[.int .i64 0, .int .i64 0] 47)
 have h0 : ((w.alloc (.cells zs 43)).alloc (.cells #[.int .i64 0, .int .i64 0] 47)).heap[w.heap.size]? = some (.cells zs 43) := (e2.block _ (by simp)).trans (heap_alloc_at _ _ _ rfl)
 have h1 : ((w.alloc (.cells zs 43)).alloc (.cells #[.int .i64 0, .int .i64 0] 47)).heap[w.heap.size + 1]? = some (fo (0, 0)) := heap_alloc_at _ _ _ (by simp)
 have hb := e1.trans (e2.mono (by simp))
 refine ⟨there_blk h0 (by rw [hz]; exact Nat.le_refl 19), ?_⟩
 rw [putAll_cells]
 have g0 : (putAll ((w.alloc (.cells zs 43)).alloc (.cells #[.int .i64 0, .int .i64 0] 47)) w.heap.size 0 (cellsK b v).toList).heap[w.heap.size]? = some (bko b v) := by
  have := putAll_same (cellsK b v).toList ((w.alloc (.cells zs 43)).alloc (.cells #[.int .i64 0, .int .i64 0] 47)) w.heap.size [] zs.toList [] 43 (by simp [hz]; rfl) (by rw [h0]; simp)
  refine Eq.trans this ?_
  unfold bko
  simp
 have g1 := (putAll_other ((w.alloc (.cells zs 43)).alloc (.cells #[.int .i64 0, .int .i64 0] 47)) w.heap.size 0 (w.heap.size + 1) (cellsK b v).toList (by omega)).trans h1
 have hbY := below_putAll hb w.heap.size 0 (cellsK b v).toList (Nat.le_refl _)
 generalize putAll ((w.alloc (.cells zs 43)).alloc (.cells #[.int .i64 0, .int .i64 0] 47)) w.heap.size 0 (cellsK b v).toList = Y at *
 exact ⟨g1, (heap_setCell_other _ _ _ _ (by simp)).trans ((heap_setCell_other _ _ _ _ (by simp)).trans g0), fo_put g1, (hbY.setCell (p := ⟨w.heap.size + 1, 0, none⟩) (by simp) _).setCell (p := ⟨w.heap.size + 1, 1, none⟩) (by simp) _⟩
theorem alive_plain : (playR psA 1 30 ddA).2.2 = (0, 0) ∧ (playR psA 1 30 ddA).2.1 = [(0, 0), (0, 0), (0, 0), (0, 0), (0, 0)] ∧ (playR psA 1 30 ddA).1.due = [40] ∧ (playR psA 1 30 ddA).1.cards.map (fun c => (c.m, c.h)) = [(60, 20)] := ⟨by kernel_rfl, by kernel_rfl, by kernel_rfl, by kernel_rfl⟩
theorem alive_facts {w w' : World} {v : Vs} {cs : List CV} {ds : List DV} {va : Value} (SH : Shows w (playR psA 1 30 ddA).1 v cs ds) (AP : Ap kAn (fun _ => 0) w va (playR psA 1 30 ddA).2.1 0) (hb : Below w.heap.size w w') :
  ∃ z1 o1 c1 z2 o2 c2 z3 o3 c3, va = .slice (some ⟨z1, o1, none⟩) 5 c1 ∧ w'.cell? ⟨z1, o1 + 8, none⟩ = some (.int .i64 0) ∧ v.d = .slice (some ⟨z2, o2, none⟩) 1 c2 ∧ w'.cell? ⟨z2, o2, none⟩ = some (.int .i64 40) ∧ v.c = .slice (some ⟨z3, o3, none⟩) 1 c3 ∧ w'.cell? ⟨z3, o3, none⟩ = some (.int .i64 60) ∧ w'.cell? ⟨z3, o3 + 1, none⟩ = some (.int .i64 20) := by
 obtain ⟨-, p2, p3, p4⟩ := alive_plain
 rw [p2] at AP
 have SH' := SH.below hb
 have hd := SH'.due
 have hc := SH'.cards
 have hcs := SH'.csv
 rw [p3] at hd
 have hcm : cs.map (fun x => (x.c.m, x.c.h)) = [(60, 20)] := by rw [← p4, ← hcs, List.map_map]; rfl
 obtain ⟨x, rfl⟩ : ∃ x, cs = [x] := by
  cases cs with
  | nil => simp at hcm
  | cons x r => cases r with
   | nil => exact ⟨x, rfl⟩
   | cons y r => simp at hcm
 simp at hcm
 obtain ⟨a1, c1, h1, l1⟩ := AP.lies
 obtain ⟨a2, c2, h2, l2⟩ := hd.lies
 obtain ⟨a3, c3, h3, l3⟩ := hc.lies
 obtain ⟨z1, o1, rfl, -, f1⟩ := (l1.below hb).elem (i := 4) (x := (0, 0)) rfl
 obtain ⟨z2, o2, rfl, -, f2⟩ := l2.elem (i := 0) (x := 40) rfl
 obtain ⟨z3, o3, rfl, -, f3⟩ := l3.elem (i := 0) (x := x) rfl
 refine ⟨z1, o1, c1, z2, o2, c2, z3, o3, c3, h1, f1 0 _ rfl, h2, by simpa using f2 0 _ rfl, h3, ?_, ?_⟩
 ·have := f3 0 _ rfl
  simpa [hcm.1] using this
 ·have := f3 1 _ rfl
  simpa [hcm.2] using this
theorem alive_any (w : World) (O : Oth w) : Calls Tryz.prog 23 #[] w fun e w' => e = .returned (.bool true) ∧ Below w.heap.size w w' := by
 have hS := setup_any w
 have hP := fun (W : World) (a : Option Addr) (c : Nat) (al : Option Addr) (h : Gn.Lies kPa W a c psA) (hd : Gn.Lies kDd W al 5 ddA) (hO : Oth W) => play_any psA a c 1 30 al 5 ddA W h hd (by intro d hd; simp [ddA] at hd; rcases hd with rfl | rfl | rfl | rfl | rfl <;> exact ⟨by decide, by decide⟩) hO
 have hF := fun (W W' : World) (v : Vs) (cs : List CV) (ds : List DV) (va : Value) (SH : Shows W (playR psA 1 30 ddA).1 v cs ds) (AP : Ap kAn (fun _ => 0) W va (playR psA 1 30 ddA).2.1 0) (hb : Below W.heap.size W W') => alive_facts SH AP hb
 have hf := alive_plain.1
 generalize playR psA 1 30 ddA = r at *
 have hl1 : psA.length = 1 := rfl
 have hl2 : ddA.length = 5 := rfl
 rw [hl1, hl2] at hP
 unfold suv at hS hP
 unfold Plays at hP
 rw [hf] at hP
 clear hf hl1 hl2
 obtain ⟨b, A, f⟩ := r
 dsimp only at hP hF
 simp only [bkv_cells] at hP
 unfold Dy.fv at hP
 go_enter Tryz.func23, Tryz.ntmps23
 go_upto_region 1 with fail
 go_upto_region 2 with fail
 refine hS.mono ?_
 rintro _ w1 ⟨a, c, rfl, hl, hb1⟩
 have e1 := below_alloc w1 (.cells #[.int .i64 0, .int .i64 1, .int .i64 0, .int .i64 0, .int .i64 0, .int .i64 100, .int .i64 0, .int .i64 2, .int .i64 0, .int .i64 0, .int .i64 0, .int .i64 60, .int .i64 0, .int .i64 3, .int .i64 0, .int .i64 0, .int .i64 2, .int .i64 40, .int .i64 0, .int .i64 5, .int .i64 0, .int .i64 0, .int .i64 0, .int .i64 0, .int .i64 0, .int .i64 6, .int .i64 1, .int .i64 0, .int .i64 0, .int .i64 0] 74)
 have hd1 : Gn.Lies kDd (w1.alloc (.cells #[.int .i64 0, .int .i64 1, .int .i64 0, .int .i64 0, .int .i64 0, .int .i64 100, .int .i64 0, .int .i64 2, .int .i64 0, .int .i64 0, .int .i64 0, .int .i64 60, .int .i64 0, .int .i64 3, .int .i64 0, .int .i64 0, .int .i64 2, .int .i64 40, .int .i64 0, .int .i64 5, .int .i64 0, .int .i64 0, .int .i64 0, .int .i64 0, .int .i64 0, .int .i64 6, .int .i64 1, .int .i64 0, .int .i64 0, .int .i64 0] 74)) (some ⟨w1.heap.size, 0, none⟩) 5 ddA := lies_blk (K := kDd) (L := ddA) (heap_alloc_at _ _ _ rfl) (by kernel_rfl) (by simp [ddA, maxLen]) _
 have hP1 := hP _ _ _ _ (hl.below e1) hd1 (O.keep ((e1.block 0 (Nat.lt_of_lt_of_le O.lt hb1.size)).trans (hb1.block 0 O.lt)))
 have hb2 : Below w.heap.size w (w1.alloc (.cells #[.int .i64 0, .int .i64 1, .int .i64 0, .int .i64 0, .int .i64 0, .int .i64 100, .int .i64 0, .int .i64 2, .int .i64 0, .int .i64 0, .int .i64 0, .int .i64 60, .int .i64 0, .int .i64 3, .int .i64 0, .int .i64 0, .int .i64 2, .int .i64 40, .int .i64 0, .int .i64 5, .int .i64 0, .int .i64 0, .int .i64 0, .int .i64 0, .int .i64 0, .int .i64 6, .int .i64 1, .int .i64 0, .int .i64 0, .int .i64 0] 74)) := hb1.trans (e1.mono hb1.size)
 clear hP hS hl hd1 e1
 go_upto_region 2 with (first
  | (go_at_call 18; refine hP1.mono ?_; rintro _ w2 ⟨v, cs, ds, va, rfl, SH, AP, hb3⟩; obtain ⟨G1, G2, G3, G4, G5⟩ := got_box w2 #[.int .i64 0, .bool false, .slice none 0 0, .slice none 0 0, .slice none 0 0, .int .i64 0, .slice none 0 0, .int .i64 0, .slice none 0 0, .int .i64 0, .int .i64 0, .slice none 0 0, .slice none 0 0, .int .i64 0, .slice none 0 0, .slice none 0 0, .slice none 0 0, .slice none 0 0, .slice none 0 0] rfl b v (0, 0); have hF1 := hF _ _ _ _ _ _ SH AP G5; replace G3 := bko_cells G3; obtain ⟨t0, t1, t2, t3⟩ := fo_cells G2; obtain ⟨y0, y1, y2, y3⟩ := fo_cells G4; have hone := hid SH.one; have hinf : Hid ((Tryz.prog.info? 43).map (·.size) = some (cellsK b v).size) := hid infoK; have hb4 : Below w.heap.size w _ := (hb2.trans (hb3.mono hb2.size)).trans (G5.mono ((hb2.trans (hb3.mono hb2.size)).size)); dsimp only at t0 t1 y0 y1 G3 hb4 hF1; clear G4 G5 SH AP G2 hP1 hF; generalize cellsK b v = cc at *)
  | (refine wpList_store_mid rfl 43 _ _ rfl w2.heap.size 0 cc rfl rfl G1 hinf.out hone.out ?_))
 generalize ((((w2.alloc (.cells #[.int .i64 0, .bool false, .slice none 0 0, .slice none 0 0, .slice none 0 0, .int .i64 0, .slice none 0 0, .int .i64 0, .slice none 0 0, .int .i64 0, .int .i64 0, .slice none 0 0, .slice none 0 0, .int .i64 0, .slice none 0 0, .slice none 0 0, .slice none 0 0, .slice none 0 0, .slice none 0 0] 43)).alloc (.cells #[.int .i64 0, .int .i64 0] 47)).setCells w2.heap.size 0 cc.toList).setCell ⟨w2.heap.size + 1, 0, none⟩ (.int .i64 0)).setCell ⟨w2.heap.size + 1, 1, none⟩ (.int .i64 0) = Z at *
 obtain ⟨-, -, c2, c3, -⟩ := G3
 obtain ⟨z1, o1, c1', z2, o2, c2', z3, o3, c3', rfl, f1, hvd, f2, hvc, f3, f4⟩ := hF1
 rw [hvd] at c3
 rw [hvc] at c2
 clear hvd hvc G1 t0 t1 t2 t3 hb3 hb2
 go_wp2_with fail
 exact bodyPost_ret (results_tmp Tryz.results23 _ _ _) rfl ⟨rfl, hb4⟩
open Go.Proofs.YtofcnebekmjdoaaGreatDoor
def Named (b : Bank) (acc : Int) : Prop := acc = 0 ∨ acc = 1 ∨ acc = 2 ∨ (10 ≤ acc ∧ acc < 10 + b.cards.length) ∨ (50 ≤ acc ∧ acc < 50 + b.due.length)
def outD (b : Bank) (d : Dd) : Int := if (doB b d).2.1 = 0 then (if d.kind = 1 then -d.sum else if d.kind = 11 then b.dueOf d.n else 0) else 0
structure Accts (b x : Bank) (o : Int) : Prop where
 out : Bk.getE x.book 0 = Bk.getE b.book 0 + o
 none : ∀ acc, ¬ Named b acc → Bk.getE x.book acc = Bk.getE b.book acc
 cards : x.cards.length = b.cards.length
 due : x.due.length = b.due.length
theorem accts_same {b x : Bank} (h1 : x.book = b.book) (h2 : x.cards.length = b.cards.length) (h3 : x.due.length = b.due.length) : Accts b x 0 := ⟨by rw [h1]; omega, fun acc _ => by rw [h1], h2, h3⟩
theorem accts_move {b x : Bank} {src dst n : Int} (h : (moveB b.book src dst n).2 = 0) (h1 : x.book = (moveB b.book src dst n).1) (hs : Named b src) (hd : Named b dst) (h2 : x.cards.length = b.cards.length) (h3 : x.due.length = b.due.length) :
  Accts b x ((if src = 0 then -n else 0) + (if dst = 0 then n else 0)) := by
 obtain ⟨-, m2⟩ := moveB_zero h
 refine ⟨by rw [h1, m2]; omega, fun acc ha => ?_, h2, h3⟩
 rw [h1, m2, if_neg (show ¬ src = acc from fun e => ha (e ▸ hs)), if_neg (show ¬ dst = acc from fun e => ha (e ▸ hd))]; omega
theorem accts_in {b x : Bank} {src dst n : Int} (h : (moveB b.book src dst n).2 = 0) (h1 : x.book = (moveB b.book src dst n).1) (hs : Named b src) (hd : Named b dst) (s0 : src ≠ 0) (d0 : dst ≠ 0) (h2 : x.cards.length = b.cards.length) (h3 : x.due.length = b.due.length) : Accts b x 0 := by
 have := accts_move h h1 hs hd h2 h3
 rwa [if_neg s0, if_neg d0] at this
theorem load_accts {b : Bank} {d : Dd} (h : (loadB b d).2 = 0) : Accts b (loadB b d).1 (-d.sum) := by
 unfold loadB at h ⊢
 split at h
 ·cases h
 rename_i h1
 rw [if_neg h1]
 split at h
 ·cases h
 rename_i h2
 rw [if_neg h2]
 split at h
 ·rename_i h3; exact absurd h h3
 rename_i h3
 rw [if_neg h3]
 split at h
 ·rename_i h4; exact absurd h h4
 rename_i h4
 rw [if_neg h4]
 have := accts_move (x := { b with cards := b.cards.set d.n.toNat (shiftC (b.card d.n) 0 d.sum).1, book := (moveB b.book 0 (10 + d.n) d.sum).1 }) (Decidable.not_not.1 h4) rfl (Or.inl rfl) (by unfold Named; omega) (by simp) rfl
 rwa [if_pos rfl, if_neg (by omega), Int.add_zero] at this
theorem pay_accts {b : Bank} {d : Dd} (h : (payB b d).2 = 0) : Accts b (payB b d).1 (b.dueOf d.n) := by
 unfold payB at h ⊢
 split at h
 ·cases h
 rename_i h1
 rw [if_neg h1]
 split at h
 ·cases h
 rename_i h2
 rw [if_neg h2]
 split at h
 ·rename_i h3; exact absurd h h3
 rename_i h3
 rw [if_neg h3]
 have := accts_move (x := { b with due := b.due.set d.n.toNat 0, book := (moveB b.book (50 + d.n) 0 (b.dueOf d.n)).1 }) (Decidable.not_not.1 h3) rfl (by unfold Named; omega) (Or.inl rfl) rfl (by simp)
 rwa [if_neg (by omega), if_pos rfl, Int.zero_add] at this
theorem move_accts {b : Bank} {d : Dd} (I : Inv b) (h : (moveD b d).2 = 0) : Accts b (moveD b d).1 0 := by
 unfold moveD at h ⊢
 split at h
 ·cases h
 rename_i q1
 rw [if_neg q1]
 split at h
 ·cases h
 rename_i q2
 rw [if_neg q2]
 split at h
 ·rename_i q; exact absurd h q
 rename_i q3
 rw [if_neg q3]
 split at h
 ·cases h
 rename_i q4
 rw [if_neg q4]
 split at h
 ·rename_i q; exact absurd h q
 rename_i q5
 rw [if_neg q5]
 split at h
 ·rename_i q; exact absurd h q
 rename_i q6
 rw [if_neg q6]
 split at h
 ·rename_i q; exact absurd h q
 rename_i q7
 rw [if_neg q7]
 split at h
 ·cases h
 rename_i q8
 rw [if_neg q8]
 replace q6 : (bookBy b.book (b.auth d.n) d.mv d.sum).2 = 0 := Decidable.not_not.1 q6
 obtain ⟨r1, -, r3, r4⟩ := I.held.auth (k := d.n) (by omega) (by omega)
 have hc0 : 0 ≤ (b.auth d.n).card := r1.2.2.2.2.1.1
 have hs0 : 0 ≤ (b.auth d.n).shop := r1.2.2.2.2.2.1.1
 have e1 : (moveAll b d).book = (bookBy b.book (b.auth d.n) d.mv d.sum).1 := rfl
 have e2 : (moveAll b d).cards.length = b.cards.length := by simp [moveAll]
 have e3 : (moveAll b d).due.length = b.due.length := by simp [moveAll]
 have nc : Named b (10 + (b.auth d.n).card) := by unfold Named; omega
 have ns : Named b (50 + (b.auth d.n).shop) := by unfold Named; omega
 have n1 : Named b 1 := Or.inr (Or.inl rfl)
 have n2 : Named b 2 := Or.inr (Or.inr (Or.inl rfl))
 unfold bookBy at q6 e1
 split at q6
 ·rename_i k; rw [if_pos k] at e1
  exact accts_in q6 e1 nc n1 (by omega) (by omega) e2 e3
 rename_i k; rw [if_neg k] at e1
 split at q6
 ·rename_i k; rw [if_pos k] at e1
  exact accts_in q6 e1 ns n1 (by omega) (by omega) e2 e3
 rename_i k; rw [if_neg k] at e1
 split at q6
 ·rename_i k; rw [if_pos k] at e1
  exact accts_in q6 e1 n2 nc (by omega) (by omega) e2 e3
 rename_i k; rw [if_neg k] at e1
 split at q6
 ·rename_i k; rw [if_pos k] at e1
  exact accts_in q6 e1 nc n2 (by omega) (by omega) e2 e3
 rename_i k; rw [if_neg k] at e1
 exact accts_same e1 e2 e3
theorem arrive_accts {b : Bank} {d : Dd} {lost : Bool} (I : Inv b) (h : (arriveB b d lost).2 = 0) : Accts b (arriveB b d lost).1 0 := by
 unfold arriveB at h ⊢
 by_cases h1 : d.n < 0 ∨ 1 < d.n
 ·rw [if_pos h1] at h; cases h
 rw [if_neg h1] at h ⊢
 generalize sideOf d.n = i at *
 cases hw : b.way i with
 | nil => rw [hw] at h; cases h
 | cons p r =>
  rw [hw] at h
  dsimp only at h ⊢
  cases lost with
  | true => rw [if_pos rfl]; exact accts_same rfl rfl rfl
  | false =>
   rw [if_neg (by simp)] at h ⊢
   have hp := I.sent.ways i p (by rw [hw]; exact List.mem_cons_self)
   unfold arriveAt at h ⊢
   by_cases h2 : 0 ≤ p.seen
   ·rw [if_pos h2] at h ⊢
    split at h
    ·rename_i h3; exact absurd h h3
    rename_i h3
    rw [if_neg h3]
    exact accts_same rfl rfl rfl
   ·rw [if_neg h2] at h ⊢
    by_cases h3 : p.t.n ≠ b.seen i + 1 ∨ 1000000 ≤ b.seen i
    ·rw [if_pos h3]; exact accts_same rfl rfl rfl
    ·rw [if_neg h3] at h ⊢
     have ht : p.t ∈ (b.snd (!i)).kept := by
      rcases hp with ⟨-, g1 | g1⟩ | ⟨g1, -⟩
      ·omega
      ·exact g1
      ·omega
     have hin := kept_in I (!i) p.t ht
     obtain ⟨r1, -, r3, r4⟩ := I.held.auth hin.1 hin.2
     have hc0 : 0 ≤ (b.auth p.t.a).card := r1.2.2.2.2.1.1
     have hs0 : 0 ≤ (b.auth p.t.a).shop := r1.2.2.2.2.2.1.1
     have nc : Named b (10 + (b.auth p.t.a).card) := by unfold Named; omega
     have ns : Named b (50 + (b.auth p.t.a).shop) := by unfold Named; omega
     have n1 : Named b 1 := Or.inr (Or.inl rfl)
     have n2 : Named b 2 := Or.inr (Or.inr (Or.inl rfl))
     unfold comes at h ⊢
     by_cases k1 : p.t.k = 1
     ·rw [if_pos k1] at h ⊢
      split at h
      ·rename_i q; exact absurd h q
      rename_i q
      rw [if_neg q]
      exact accts_in (Decidable.not_not.1 q) rfl n1 ns (by omega) (by omega) rfl (by simp)
     rw [if_neg k1] at h ⊢
     by_cases k2 : p.t.k = 2
     ·rw [if_pos k2] at h ⊢
      split at h
      ·rename_i q; exact absurd h q
      rename_i q
      rw [if_neg q]
      split at h
      ·rename_i q2; exact absurd h q2
      rename_i q2
      rw [if_neg q2]
      exact accts_in (Decidable.not_not.1 q2) rfl n1 nc (by omega) (by omega) (by simp) rfl
     rw [if_neg k2] at h ⊢
     by_cases k3 : p.t.k = 3
     ·rw [if_pos k3] at h ⊢
      split at h
      ·rename_i q; exact absurd h q
      rename_i q
      rw [if_neg q]
      exact accts_in (Decidable.not_not.1 q) rfl ns n2 (by omega) (by omega) rfl (by simp)
     rw [if_neg k3]
     exact accts_same rfl rfl rfl
theorem fold_len {α : Type} (f : List Ca → α → List Ca) (hf : ∀ cs a, (f cs a).length = cs.length) (L : List α) : ∀ cs, (L.foldl f cs).length = cs.length := by
 induction L with
 | nil => intro cs; rfl
 | cons x r ih => intro cs; rw [List.foldl_cons, ih, hf]
theorem shut_cards (b : Bank) : (shutB b).cards.length = b.cards.length := fold_len _ (fun cs a => by simp [lateC]) _ _
theorem do_accts {b : Bank} {d : Dd} (I : Inv b) : Accts b (doB b d).1 (outD b d) := by
 by_cases h : (doB b d).2.1 = 0
 case neg =>
  have : outD b d = 0 := by unfold outD; rw [if_neg h]
  rw [doB_refused b d h, this]; exact accts_same rfl rfl rfl
 have ho : outD b d = (if d.kind = 1 then -d.sum else if d.kind = 11 then b.dueOf d.n else 0) := by unfold outD; rw [if_pos h]
 rw [ho]
 clear ho
 unfold doB at h ⊢
 by_cases k1 : d.kind = 1
 ·rw [if_pos k1] at h ⊢
  rw [if_pos k1]
  exact load_accts h
 rw [if_neg k1] at h ⊢
 rw [if_neg k1]
 by_cases k11 : d.kind = 11
 ·rw [if_neg (by omega), if_neg (by omega), if_neg (by omega), if_neg (by omega), if_neg (by omega), if_neg (by omega), if_neg (by omega), if_neg (by omega), if_neg (by omega), if_pos k11] at h ⊢
  rw [if_pos k11]
  exact pay_accts h
 have h0 : (if d.kind = 11 then b.dueOf d.n else (0 : Int)) = 0 := if_neg k11
 rw [h0]
 clear h0
 split at h
 ·rename_i e; rw [if_pos e]
  unfold askB askDown askUp
  repeat' split
  all_goals exact accts_same rfl (by simp) rfl
 rename_i e; rw [if_neg e]
 split at h
 ·rename_i e; rw [if_pos e]; exact move_accts I h
 rename_i e; rw [if_neg e]
 split at h
 ·rename_i e; rw [if_pos e]
  unfold two tickB
  split
  ·exact accts_same rfl rfl rfl
  split
  ·exact accts_same rfl rfl rfl
  ·exact accts_same rfl (shut_cards _) rfl
 rename_i e; rw [if_neg e]
 split at h
 ·rename_i e; rw [if_pos e]
  unfold two sendB
  repeat' split
  all_goals exact accts_same rfl rfl rfl
 rename_i e; rw [if_neg e]
 split at h
 ·rename_i e; rw [if_pos e]; exact arrive_accts I h
 rename_i e; rw [if_neg e]
 split at h
 ·rename_i e; rw [if_pos e]; exact arrive_accts I h
 rename_i e; rw [if_neg e]
 split at h
 ·rename_i e; rw [if_pos e]
  unfold two downB
  repeat' split
  all_goals exact accts_same rfl rfl rfl
 rename_i e; rw [if_neg e]
 split at h
 ·rename_i e; rw [if_pos e]
  unfold two upB
  split
  ·exact accts_same rfl ((shut_cards _).trans (fold_len _ (fun cs a => by simp [forceL]) _ _)) rfl
  ·exact accts_same rfl rfl rfl
 rename_i e; rw [if_neg e]
 split at h
 ·rename_i e; rw [if_pos e]; exact accts_same rfl rfl rfl
 rename_i e; rw [if_neg e, if_neg k11]
 exact accts_same rfl rfl rfl
open Go.Proofs.YtofcnebekmjdoaaGreatDoor
structure Still (b x : Bank) : Prop where
 plain : Plain b x
 cards : x.cards.length = b.cards.length
 due : x.due.length = b.due.length
 cb : ∀ k, k < b.cards.length → cbal k x = cbal k b
 db : ∀ k, bal k x = bal k b
 out : Bk.getE x.book 0 = Bk.getE b.book 0
theorem Still.trans {a b c : Bank} (h : Still a b) (h2 : Still b c) : Still a c :=
 ⟨⟨h2.plain.auths.trans h.plain.auths, h2.plain.time.trans h.plain.time, h2.plain.down.trans h.plain.down, h2.plain.stand.trans h.plain.stand, h2.plain.today.trans h.plain.today, h2.plain.days.trans h.plain.days⟩, h2.cards.trans h.cards, h2.due.trans h.due,
  fun k hk => (h2.cb k (by rw [h.cards]; exact hk)).trans (h.cb k hk), fun k => (h2.db k).trans (h.db k), h2.out.trans h.out⟩
def dMove (mv n sum : Int) : Dd := ⟨0, 3, n, 0, mv, sum⟩
theorem put_ok {s : Po.Se} {t : Po.Tr} (R : Po.Right s) (h1 : s.kept.length < 40) (h2 : s.sent < 1000000) (hk : 1 ≤ t.k ∧ t.k ≤ 3) (ha : 0 ≤ t.a ∧ t.a < 30) (hs : 1 ≤ t.s ∧ t.s ≤ 1000000) : (Po.putS s t).2 = 0 := by
 have R2 : Po.Right (Po.outS s t) := by
  refine ⟨by simp [Po.outS]; omega, ?_, by simp [Po.outS]; omega, ?_⟩
  ·have := R.lo
   simp [Po.outS]; omega
  ·intro i x hx
   unfold Po.outS at hx ⊢
   dsimp only at hx ⊢
   rw [List.length_append, List.length_singleton]
   by_cases hi : i < s.kept.length
   ·rw [List.getElem?_append_left hi] at hx
    obtain ⟨e1, e2, e3⟩ := R.each i x hx
    exact ⟨e1, e2, by omega⟩
   ·rw [List.getElem?_append_right (by omega)] at hx
    have hi2 : i = s.kept.length := by
     have := (List.getElem?_eq_some_iff.1 hx).1
     simp at this; omega
    subst hi2
    simp at hx
    subst hx
    refine ⟨?_, ?_, ?_⟩
    ·show ¬ Po.noKind t.k
     unfold Po.noKind; omega
    ·show ¬ Po.far t.a t.s
     unfold Po.far; omega
    ·show s.sent + 1 = _
     omega
 rw [Po.putS_ok (Po.wrongS_ok.2 R) (Po.wrongS_ok.2 R2)]
theorem move_done {K : Nat} {b : Bank} {mv n sum : Int} (I : Inv b) (B : Bound K b) (hK : K ≤ 400) (hd : b.down = false) (h0 : 0 ≤ n) (h1 : n < b.auths.length) (he : Au.mvErr (b.auth n) mv sum = 0) (hf : ¬ (mv = 1 ∧ (b.card (b.auth n).card).m - (b.card (b.auth n).card).h < sum))
  (hk : ∀ i, (b.snd i).kept.length < 40) (hs : ∀ i, (b.snd i).sent < 1000000) (ht : b.today.length < 100) : doB b (dMove mv n sum) = (moveAll b (dMove mv n sum), 0, 0) := by
 have q1 : ¬ ((dMove mv n sum).n < 0 ∨ (b.auths.length : Int) ≤ (dMove mv n sum).n) := by show ¬ (n < 0 ∨ (b.auths.length : Int) ≤ n); omega
 have N := nums_of (d := dMove mv n sum) I B hK q1 he
 obtain ⟨g1, g2, -, -⟩ := go_in I B hK N
 have may := N.may
 have n1 : 1 ≤ sum := may.2.2.2.2.1
 have n2 : sum ≤ 1000000 := may.2.2.2.2.2.1
 have hfew := I.held.few
 have hp : ∀ (i : Bool) (k : Int), 1 ≤ k → k ≤ 3 → (Po.putS (b.snd i) ⟨0, k, n, sum⟩).2 = 0 := fun i k a1 a2 => put_ok (I.sent.right i) (hk i) (hs i) ⟨a1, a2⟩ ⟨h0, by show n < 30; omega⟩ ⟨n1, n2⟩
 have g3 : (sendBy b.snd (dMove mv n sum).mv (dMove mv n sum).n (dMove mv n sum).sum).2 = 0 := by
  unfold sendBy dMove
  dsimp only
  repeat' split
  ·exact hp _ _ (by decide) (by decide)
  ·exact hp _ _ (by decide) (by decide)
  ·exact hp _ _ (by decide) (by decide)
  ·rfl
 have e3 : doB b (dMove mv n sum) = two (moveD b (dMove mv n sum)) := by
  unfold doB
  rw [if_neg (by show ¬ ((3 : Int) = 1); decide), if_neg (by show ¬ ((3 : Int) = 2); decide), if_pos (show (dMove mv n sum).kind = 3 from rfl)]
 rw [e3]
 unfold moveD two
 have he' : ¬ (Au.mvErr (b.auth (dMove mv n sum).n) (dMove mv n sum).mv (dMove mv n sum).sum ≠ 0) := fun h => h he
 have hf' : ¬ ((dMove mv n sum).mv = 1 ∧ (b.card (b.auth (dMove mv n sum).n).card).m - (b.card (b.auth (dMove mv n sum).n).card).h < (dMove mv n sum).sum) := hf
 rw [if_neg (by rw [hd]; decide), if_neg q1, if_neg he', if_neg hf', if_neg (fun h => h g1), if_neg (fun h => h g2), if_neg (fun h => h g3), if_neg (by omega)]
open Go.RowKit Go.Proofs.YtofcnebekmjdoaaGreatDoor.Gn Go.Maps
theorem infoDd : (Tryz.prog.info? 74).map (fun i => (i.zero, i.size, i.bytes)) = some (some (.agg #[.int .i64 0, .int .i64 0, .int .i64 0, .int .i64 0, .int .i64 0, .int .i64 0]), 6, 48) := by kernel_rfl
theorem elemDd : Elem Tryz.prog kDd 25 74 48 := by
 obtain ⟨i, h1, h2, h3, h4⟩ := info_parts infoDd
 exact ⟨Tryz.underlying25, i, _, h1, h2, h3, h4, rfl⟩
open Go.Proofs.YtofcnebekmjdoaaGreatDoor
theorem loads_no {b : Bank} {d : Dd} (h : d.kind ≠ 1) (k : Nat) : loads b d k = 0 := by unfold loads; rw [if_neg (fun x => h x.1)]
theorem pays_no {b : Bank} {d : Dd} (h : d.kind ≠ 11) (k : Nat) : paysOut b d k = 0 := by unfold paysOut; rw [if_neg (fun x => h x.1)]
theorem out_no {b : Bank} {d : Dd} (h : d.kind ≠ 1) (h2 : d.kind ≠ 11) : outD b d = 0 := by unfold outD; simp only [if_neg h, if_neg h2, ite_self]
theorem put_sizes {s : Po.Se} {t : Po.Tr} (h : (Po.putS s t).2 = 0) : (Po.putS s t).1.kept.length = s.kept.length + 1 ∧ (Po.putS s t).1.sent = s.sent + 1 := by
 rw [(put_zero h).1]; simp [Po.outS]
theorem send_sizes {sd : Bool → Po.Se} {k a n : Int} (h : (sendBy sd k a n).2 = 0) (i : Bool) : ((sendBy sd k a n).1 i).kept.length ≤ (sd i).kept.length + sends k ∧ ((sendBy sd k a n).1 i).sent ≤ (sd i).sent + 1 := by
 have key : ∀ (j : Bool) (t : Po.Tr), (Po.putS (sd j) t).2 = 0 → (upd sd j (Po.putS (sd j) t).1 i).kept.length ≤ (sd i).kept.length + 1 ∧ (upd sd j (Po.putS (sd j) t).1 i).sent ≤ (sd i).sent + 1 := by
  intro j t h
  have := put_sizes h
  unfold upd
  split
  ·rename_i e; subst e; omega
  ·omega
 unfold sendBy at h ⊢
 by_cases q1 : k = 2 ∨ k = 3
 ·rw [if_pos q1] at h ⊢; unfold sends; rw [if_pos (by omega)]; exact key _ _ h
 rw [if_neg q1] at h ⊢
 by_cases q2 : k = 5
 ·rw [if_pos q2] at h ⊢; unfold sends; rw [if_pos (by omega)]; exact key _ _ h
 rw [if_neg q2] at h ⊢
 by_cases q3 : k = 7
 ·rw [if_pos q3] at h ⊢; unfold sends; rw [if_pos (by omega)]; exact key _ _ h
 rw [if_neg q3]
 dsimp only
 omega
theorem Got.step {b : Bank} {K M : Nat} {T c s has : Int} {a : Au.Au} (G : Got b K M T c s has a) (hM : M ≤ 20) (hK : K ≤ 90) {mv n : Int} (he : Au.mvErr a mv n = 0) (h1 : mv ≠ 1) : doB b (dMove mv 0 n) = (moveAll b (dMove mv 0 n), 0, 0) ∧ Got (doB b (dMove mv 0 n)).1 (K + 1) (M + sends mv) T c s has (Au.step a mv n) := by
 have hau : b.auth 0 = a := by unfold Bank.auth; rw [G.auths]; rfl
 have hc01 := G.c01
 have hs01 := G.s01
 have e := move_done (mv := mv) (n := 0) (sum := n) G.inv G.bound (by omega) G.down (by decide) (by rw [G.auths]; simp) (by rw [hau]; exact he) (fun h => h1 h.1) (fun i => by have := G.kept i; omega) (fun i => by have := G.sent i; omega) (by have := G.today; omega)
 refine ⟨e, ?_⟩
 have I2 := do_inv (d := dMove mv 0 n) G.inv
 have B2 := do_bound (d := dMove mv 0 n) G.inv G.bound
 have A2 := do_accts (d := dMove mv 0 n) G.inv
 have c2 := do_cbal (d := dMove mv 0 n) G.inv c.toNat (by rw [G.cards]; omega)
 have d2 := fun k => do_bal (d := dMove mv 0 n) G.inv k
 rw [loads_no (by show (3 : Int) ≠ 1; decide)] at c2
 have A2o := A2.out
 rw [out_no (by show (3 : Int) ≠ 1; decide) (by show (3 : Int) ≠ 11; decide)] at A2o
 have may := Au.mvErr_zero.1 he
 have n1 : 1 ≤ n := may.2.2.2.2.1
 have n2 : n ≤ 1000000 := may.2.2.2.2.2.1
 have hsend : (sendBy b.snd mv 0 n).2 = 0 := by
  have hp : ∀ (i : Bool) (k : Int), 1 ≤ k → k ≤ 3 → (Po.putS (b.snd i) ⟨0, k, 0, n⟩).2 = 0 := fun i k a1 a2 => put_ok (G.inv.sent.right i) (by have := G.kept i; omega) (by have := G.sent i; omega) ⟨a1, a2⟩ ⟨by show (0 : Int) ≤ 0; decide, by show (0 : Int) < 30; decide⟩ ⟨n1, n2⟩
  unfold sendBy
  repeat' split
  ·exact hp _ _ (by decide) (by decide)
  ·exact hp _ _ (by decide) (by decide)
  ·exact hp _ _ (by decide) (by decide)
  ·rfl
 obtain ⟨-, -, t3, t4, -⟩ := step_right may
 have cb := G.cb
 have out := G.out
 refine ⟨I2, B2, ?_, by rw [e]; exact G.time, ?_, by rw [A2.cards, G.cards], by rw [A2.due, G.due], by omega, fun k hk hn => ?_, fun k => ?_, by omega, fun i => ?_, fun i => ?_, fun i => ?_, ?_, by rw [t3, G.card], by rw [t4, G.shop], hc01, hs01⟩
 ·rw [e]; exact G.down
 ·rw [e]
  show b.auths.set 0 (Au.step (b.auth 0) mv n) = _
  rw [hau, G.auths]; rfl
 ·rw [do_cbal (d := dMove mv 0 n) G.inv k (by rw [G.cards]; exact hk), loads_no (by show (3 : Int) ≠ 1; decide), G.ob k hk hn]; rfl
 ·rw [d2, pays_no (by show (3 : Int) ≠ 11; decide), G.db]; rfl
 ·rw [e]; exact G.way i
 ·rw [e]
  show ((sendBy b.snd mv 0 n).1 i).kept.length ≤ M + sends mv
  have := (send_sizes hsend i).1
  have := G.kept i
  omega
 ·rw [e]
  show ((sendBy b.snd mv 0 n).1 i).sent ≤ ((K + 1 : Nat) : Int)
  have := (send_sizes hsend i).2
  have := G.sent i
  omega
 ·rw [e]
  show (b.today ++ [_]).length ≤ K + 1
  have := G.today
  rw [List.length_append, List.length_singleton]; omega
open Go.Proofs.YtofcnebekmjdoaaGreatDoor
def given (count : Int) (i : Nat) : Nat := min i count.toNat
theorem cellsInt : Tryz.prog.cellsOf 3 = 1 := by kernel_rfl
theorem open_one {H : Type} {enc : TypeId × Value → H} {W : World} {base : Nat} {spare : Nat → Bool} {held : Bool} (n : Nat) (cs : List Value) (x : DataW H × List MemPlace)
  (h : DataW.trod enc Tryz.prog W base spare held n 3 cs = some x) : ∃ t : Int, cs = kI.cells t ∧ (-9223372036854775808 ≤ t ∧ t ≤ 9223372036854775807) := by
 obtain ⟨k, e, _, hw⟩ := DataW.trod_int Tryz.underlying3 h
 exact ⟨k, e, Gn.wf_i64 hw⟩
theorem open_ints {H : Type} {enc : TypeId × Value → H} {W : World} {base : Nat} {spare : Nat → Bool} {held : Bool} {a : Option Addr} {len cap : Nat} {d : DataW H} {p : List MemPlace}
  (h : DataW.Trod enc Tryz.prog W base spare held 27 (.slice a len cap) d p) : ∃ l : List Int, len = l.length ∧ Gn.Lies kI W a cap l ∧ ∀ n ∈ l, -9223372036854775808 ≤ n ∧ n ≤ 9223372036854775807 := by
 obtain ⟨fuel, hf⟩ := h
 obtain ⟨L, h1, h2, h3, -⟩ := open_list (0 : Int) kI (fun t => -9223372036854775808 ≤ t ∧ t ≤ 9223372036854775807) Tryz.underlying27 cellsInt open_one hf
 exact ⟨L, h1, h2, h3⟩
open Go.Proofs.YtofcnebekmjdoaaGreatDoor
def dayD (n : Int) : Dd := if 0 < n then dMove 2 0 n else dMove 5 0 (-(max n (-1000000)))
theorem Got.more {b : Bank} {K M K2 M2 : Nat} {T c s has : Int} {a : Au.Au} (G : Got b K M T c s has a) (hK : K ≤ K2) (hM : M ≤ M2) : Got b K2 M2 T c s has a :=
 ⟨G.inv, G.bound.mono hK, G.down, G.time, G.auths, G.cards, G.due, G.cb, G.ob, G.db, G.out, G.way, fun i => Nat.le_trans (G.kept i) hM, fun i => by have := G.sent i; omega, Nat.le_trans G.today hK, G.card, G.shop, G.c01, G.s01⟩
theorem move_no {b : Bank} {mv n : Int} (hd : b.down = false) (ha : b.auths.length = 1) (he : Au.mvErr (b.auth 0) mv n ≠ 0) : (doB b (dMove mv 0 n)).1 = b := by
 refine doB_refused b _ ?_
 show (moveD b (dMove mv 0 n)).2 ≠ 0
 unfold moveD
 rw [if_neg (by rw [hd]; simp), if_neg (by show ¬ ((0 : Int) < 0 ∨ _ ≤ (0 : Int)); rw [ha]; omega), if_pos (show Au.mvErr (b.auth (dMove mv 0 n).n) (dMove mv 0 n).mv (dMove mv 0 n).sum ≠ 0 from he)]
 exact he
structure Dt (b : Bank) (K M : Nat) (has : Int) (a : Au.Au) : Prop where
 got : Got b K M 0 0 1 has a
 one : Dy.net 1 b.today = a.cap - a.ref
 zero : Dy.net 0 b.today = 0
 days : b.days = []
theorem Dt.step {b : Bank} {K M : Nat} {has : Int} {a : Au.Au} (D : Dt b K M has a) (hM : M ≤ 20) (hK : K ≤ 90) {mv : Int} (n : Int) (hmv : mv = 2 ∨ mv = 5) : ∃ a', Dt (doB b (dMove mv 0 n)).1 (K + 1) (M + 1) has a' := by
 have hau : b.auth 0 = a := by unfold Bank.auth; rw [D.got.auths]; rfl
 by_cases he : Au.mvErr a mv n = 0
 ·obtain ⟨e, G⟩ := D.got.step hM hK he (by omega)
  have ht : (doB b (dMove mv 0 n)).1.today = b.today ++ [⟨1, 0, mv, n⟩] := by
   rw [e]
   show b.today ++ [⟨(b.auth 0).shop, 0, mv, n⟩] = _
   rw [hau, D.got.shop]
  refine ⟨Au.step a mv n, G.more (Nat.le_refl _) (by unfold sends; split <;> omega), ?_, ?_, by rw [e]; exact D.days⟩
  ·have h1 := D.one
   unfold Dy.net at h1 ⊢
   rw [ht, Dy.sumBy_append, h1]
   rcases hmv with rfl | rfl
   ·simp [Dy.sumBy, Dy.netF, Dy.sgn, Au.step]; omega
   ·simp [Dy.sumBy, Dy.netF, Dy.sgn, Au.step]; omega
  ·have h1 := D.zero
   unfold Dy.net at h1 ⊢
   rw [ht, Dy.sumBy_append, h1]
   simp [Dy.sumBy, Dy.netF]
 ·rw [move_no D.got.down (by rw [D.got.auths]; rfl) (by rw [hau]; exact he)]
  exact ⟨a, D.got.more (by omega) (by omega), D.one, D.zero, D.days⟩
theorem Dt.all {has : Int} (l : List Int) : ∀ {b : Bank} {K M : Nat} {a : Au.Au}, Dt b K M has a → K + l.length ≤ 90 → M + l.length ≤ 20 → ∃ a', Dt (run b (l.map dayD)) (K + l.length) (M + l.length) has a' := by
 induction l with
 | nil => intro b K M a D _ _; exact ⟨a, D⟩
 | cons n r ih =>
  intro b K M a D h1 h2
  rw [List.length_cons] at h1 h2
  have h3 : ∃ a', Dt (doB b (dayD n)).1 (K + 1) (M + 1) has a' := by
   unfold dayD
   split
   ·exact D.step (by omega) (by omega) _ (Or.inl rfl)
   ·exact D.step (by omega) (by omega) _ (Or.inr rfl)
  obtain ⟨a', D'⟩ := h3
  obtain ⟨a2, D2⟩ := ih D' (by omega) (by omega)
  refine ⟨a2, ?_⟩
  rw [List.map_cons, run_cons, List.length_cons, show K + (r.length + 1) = K + 1 + r.length by omega, show M + (r.length + 1) = M + 1 + r.length by omega]
  exact D2
end Go.Proofs.YtofcnebekmjdoaaGreatDoor.Bn
