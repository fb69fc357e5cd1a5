/- A table of eight numbers, made as a map of the keys 1 to 8, and looked up. -/
import Derived.Test.YtolfddiofcllcaaWalke
import Derived.Maps.OwnOps
namespace Go.Proofs.Ytolfddiofcllcaa
open Go.RowKit Go.Maps

theorem law3 : Keyed Try.prog 3 := int_keyed Try.underlying3
theorem zero3 (w : World) : (zeroValue 3).run Try.prog w = .ok (.int .i64 0) w := by kernel_rfl

def tab (v1 v2 v3 v4 v5 v6 v7 v8 k : Int) : Int :=
  if k = 1 then v1 else if k = 2 then v2 else if k = 3 then v3 else if k = 4 then v4 else if k = 5 then v5 else if k = 6 then v6 else if k = 7 then v7 else v8

abbrev OwnsN (w : World) (b n : Nat) (D : DataW Unit) : Prop := w.ownsMap Try.prog 3 (plainElem Try.prog 3) b n D

/-- One more entry. -/
theorem ins {W w : World} {b n : Nat} {D : DataW Unit} (h : OwnsN w b n D) (hW : Below b W w) (hn : n ≤ 8) {x v : Int} (hx : 1 ≤ x ∧ x ≤ 8) (hv : -1000000 ≤ v ∧ v ≤ 1000000) :
    ∃ w', (Instr.mapUpdate 63 (.map (some b)) (.int .i64 x) (.int .i64 v)).run Try.prog w = .ok () w' ∧ Below b W w' ∧ OwnsN w' b (n + 1) (D.put (.int .i64 x) (.lit (.int .i64 v))) := by
  obtain ⟨w', h1, h2, h3⟩ := h.update (t := 63) (e := 3) law3 Try.underlying63 (by unfold maxLen; omega) (keyOf_int_mk Try.underlying3 (WalkArith.wf_i64 (n := x) (by omega))) (plainElem_int Try.underlying3 (WalkArith.wf_i64 (n := v) (by omega)))
  exact ⟨w', h1, hW.grown h3 (Nat.le_of_lt h.lt) (fun k hk => by cases hk; exact Nat.le_refl _), h2⟩

theorem tab_reads (v1 v2 v3 v4 v5 v6 v7 v8 k : Int) (h1 : 1 ≤ k) (h2 : k ≤ 8) :
    ((((((((((DataW.map [] : DataW Unit).put (.int .i64 1) (.lit (.int .i64 v1))).put (.int .i64 2) (.lit (.int .i64 v2))).put (.int .i64 3) (.lit (.int .i64 v3))).put (.int .i64 4) (.lit (.int .i64 v4))).put (.int .i64 5) (.lit (.int .i64 v5))).put (.int .i64 6) (.lit (.int .i64 v6))).put (.int .i64 7) (.lit (.int .i64 v7))).put (.int .i64 8) (.lit (.int .i64 v8))).atKey (.int .i64 k) (.lit (.int .i64 0))) = .lit (.int .i64 (tab v1 v2 v3 v4 v5 v6 v7 v8 k)) := by
  rcases kinds h1 h2 with rfl | rfl | rfl | rfl | rfl | rfl | rfl | rfl <;> kernel_rfl

theorem map8 (w : World) (v1 v2 v3 v4 v5 v6 v7 v8 k : Int) (h1 : 1 ≤ k) (h2 : k ≤ 8)
    (r1 : -1000000 ≤ v1 ∧ v1 ≤ 1000000) (r2 : -1000000 ≤ v2 ∧ v2 ≤ 1000000) (r3 : -1000000 ≤ v3 ∧ v3 ≤ 1000000) (r4 : -1000000 ≤ v4 ∧ v4 ≤ 1000000)
    (r5 : -1000000 ≤ v5 ∧ v5 ≤ 1000000) (r6 : -1000000 ≤ v6 ∧ v6 ≤ 1000000) (r7 : -1000000 ≤ v7 ∧ v7 ≤ 1000000) (r8 : -1000000 ≤ v8 ∧ v8 ≤ 1000000) :
    ∃ wa wb wc wd we wf wg wh : World,
      ((Instr.mapUpdate 63 (.map (some w.heap.size)) (.int .i64 1) (.int .i64 v1)).run Try.prog (w.alloc (.map #[] 0)) = .ok () wa ∧ Below w.heap.size w wa) ∧
      ((Instr.mapUpdate 63 (.map (some w.heap.size)) (.int .i64 2) (.int .i64 v2)).run Try.prog wa = .ok () wb ∧ Below w.heap.size w wb) ∧
      ((Instr.mapUpdate 63 (.map (some w.heap.size)) (.int .i64 3) (.int .i64 v3)).run Try.prog wb = .ok () wc ∧ Below w.heap.size w wc) ∧
      ((Instr.mapUpdate 63 (.map (some w.heap.size)) (.int .i64 4) (.int .i64 v4)).run Try.prog wc = .ok () wd ∧ Below w.heap.size w wd) ∧
      ((Instr.mapUpdate 63 (.map (some w.heap.size)) (.int .i64 5) (.int .i64 v5)).run Try.prog wd = .ok () we ∧ Below w.heap.size w we) ∧
      ((Instr.mapUpdate 63 (.map (some w.heap.size)) (.int .i64 6) (.int .i64 v6)).run Try.prog we = .ok () wf ∧ Below w.heap.size w wf) ∧
      ((Instr.mapUpdate 63 (.map (some w.heap.size)) (.int .i64 7) (.int .i64 v7)).run Try.prog wf = .ok () wg ∧ Below w.heap.size w wg) ∧
      ((Instr.mapUpdate 63 (.map (some w.heap.size)) (.int .i64 8) (.int .i64 v8)).run Try.prog wg = .ok () wh ∧ Below w.heap.size w wh) ∧
      (Instr.lookup 63 (.map (some w.heap.size)) (.int .i64 k) false).run Try.prog wh = .ok (.int .i64 (tab v1 v2 v3 v4 v5 v6 v7 v8 k)) wh := by
  have o0 : OwnsN (w.alloc (.map #[] 0)) w.heap.size 0 (.map []) := World.ownsMap_made w Try.prog 3 (plainElem Try.prog 3)
  obtain ⟨wa, ea, ba, oa⟩ := ins o0 (below1 w _) (by omega) (x := 1) (by omega) r1
  obtain ⟨wb, eb, bb, ob⟩ := ins oa ba (by omega) (x := 2) (by omega) r2
  obtain ⟨wc, ec, bc, oc⟩ := ins ob bb (by omega) (x := 3) (by omega) r3
  obtain ⟨wd, ed, bd, od⟩ := ins oc bc (by omega) (x := 4) (by omega) r4
  obtain ⟨we, ee, be, oe⟩ := ins od bd (by omega) (x := 5) (by omega) r5
  obtain ⟨wf, ef, bf, of⟩ := ins oe be (by omega) (x := 6) (by omega) r6
  obtain ⟨wg, eg, bg, og⟩ := ins of bf (by omega) (x := 7) (by omega) r7
  obtain ⟨wh, eh, bh, oh⟩ := ins og bg (by omega) (x := 8) (by omega) r8
  obtain ⟨c, hrun, hat, -⟩ := oh.lookup_int (t := 63) law3 Try.underlying63 Try.underlying3 (zero3 _) (keyOf_int_mk Try.underlying3 (WalkArith.wf_i64 (n := k) (by omega)))
  rw [tab_reads v1 v2 v3 v4 v5 v6 v7 v8 k h1 h2] at hat
  have hc : tab v1 v2 v3 v4 v5 v6 v7 v8 k = c := by simpa using hat
  rw [hc]
  exact ⟨wa, wb, wc, wd, we, wf, wg, wh, ⟨ea, ba⟩, ⟨eb, bb⟩, ⟨ec, bc⟩, ⟨ed, bd⟩, ⟨ee, be⟩, ⟨ef, bf⟩, ⟨eg, bg⟩, ⟨eh, bh⟩, hrun⟩
end Go.Proofs.Ytolfddiofcllcaa
