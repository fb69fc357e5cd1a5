/- The walk of the document's Net: a table made as a map. -/
import Derived.Test.YtodkcagingnelabDyj
import Derived.Maps.OwnOps
namespace Go.Proofs.Ytodkcagingnelab.Dy
open Go.RowKit Go.Maps Go.Proofs.Ytodkcagingnelab.Gn

theorem law3 : Keyed Try.prog 3 := int_keyed Try.underlying3
theorem zero3 (w : World) : (zeroValue 3).run Try.prog w = .ok (.int .i64 0) w := by kernel_rfl
abbrev OwnsN (w : World) (b n : Nat) (D : DataW Unit) : Prop := w.ownsMap Try.prog 3 (plainElem Try.prog 3) b n D
theorem ins {W w : World} {b n : Nat} {D : DataW Unit} (h : OwnsN w b n D) (hW : Below b W w) (hn : n ≤ 8) {x v : Int} (hx : 1 ≤ x ∧ x ≤ 8) (hv : -1000000 ≤ v ∧ v ≤ 1000000) :
    ∃ w', (Instr.mapUpdate 114 (.map (some b)) (.int .i64 x) (.int .i64 v)).run Try.prog w = .ok () w' ∧ Below b W w' ∧ OwnsN w' b (n + 1) (D.put (.int .i64 x) (.lit (.int .i64 v))) := by
  obtain ⟨w', h1, h2, h3⟩ := h.update (t := 114) (e := 3) law3 Try.underlying114 (by unfold maxLen; omega) (keyOf_int_mk Try.underlying3 (WalkArith.wf_i64 (n := x) (by omega))) (plainElem_int Try.underlying3 (WalkArith.wf_i64 (n := v) (by omega)))
  exact ⟨w', h1, hW.grown h3 (Nat.le_of_lt h.lt) (fun k hk => by cases hk; exact Nat.le_refl _), h2⟩
theorem tab_reads (k : Int) (h1 : 1 ≤ k) (h2 : k ≤ 8) :
    ((((((DataW.map [] : DataW Unit).put (.int .i64 2) (.lit (.int .i64 1))).put (.int .i64 3) (.lit (.int .i64 1))).put (.int .i64 5) (.lit (.int .i64 (-1)))).put (.int .i64 7) (.lit (.int .i64 (-1)))).atKey (.int .i64 k) (.lit (.int .i64 0))) = .lit (.int .i64 (sgn k)) := by
  obtain rfl | rfl | rfl | rfl | rfl | rfl | rfl | rfl : k = 1 ∨ k = 2 ∨ k = 3 ∨ k = 4 ∨ k = 5 ∨ k = 6 ∨ k = 7 ∨ k = 8 := by omega
  all_goals kernel_rfl
theorem map4 (w : World) (k : Int) (h1 : 1 ≤ k) (h2 : k ≤ 8) :
    ∃ wa wb wc wd : World,
      ((Instr.mapUpdate 114 (.map (some w.heap.size)) (.int .i64 2) (.int .i64 1)).run Try.prog (w.alloc (.map #[] 0)) = .ok () wa ∧ Below w.heap.size w wa) ∧
      ((Instr.mapUpdate 114 (.map (some w.heap.size)) (.int .i64 3) (.int .i64 1)).run Try.prog wa = .ok () wb ∧ Below w.heap.size w wb) ∧
      ((Instr.mapUpdate 114 (.map (some w.heap.size)) (.int .i64 5) (.int .i64 (-1))).run Try.prog wb = .ok () wc ∧ Below w.heap.size w wc) ∧
      ((Instr.mapUpdate 114 (.map (some w.heap.size)) (.int .i64 7) (.int .i64 (-1))).run Try.prog wc = .ok () wd ∧ Below w.heap.size w wd) ∧
      (Instr.lookup 114 (.map (some w.heap.size)) (.int .i64 k) false).run Try.prog wd = .ok (.int .i64 (sgn k)) wd := by
  have o0 : OwnsN (w.alloc (.map #[] 0)) w.heap.size 0 (.map []) := World.ownsMap_made w Try.prog 3 (plainElem Try.prog 3)
  obtain ⟨wa, ea, ba, oa⟩ := ins o0 (below_alloc w _) (by omega) (x := 2) (by omega) (v := 1) (by omega)
  obtain ⟨wb, eb, bb, ob⟩ := ins oa ba (by omega) (x := 3) (by omega) (v := 1) (by omega)
  obtain ⟨wc, ec, bc, oc⟩ := ins ob bb (by omega) (x := 5) (by omega) (v := -1) (by omega)
  obtain ⟨wd, ed, bd, od⟩ := ins oc bc (by omega) (x := 7) (by omega) (v := -1) (by omega)
  obtain ⟨c, hrun, hat, -⟩ := od.lookup_int (t := 114) law3 Try.underlying114 Try.underlying3 (zero3 _) (keyOf_int_mk Try.underlying3 (WalkArith.wf_i64 (n := k) (by omega)))
  rw [tab_reads k h1 h2] at hat
  have hc : sgn k = c := by simpa using hat
  rw [hc]
  exact ⟨wa, wb, wc, wd, ⟨ea, ba⟩, ⟨eb, bb⟩, ⟨ec, bc⟩, ⟨ed, bd⟩, hrun⟩
theorem kind_right {L : List Rc} (h : Right L) {k : Nat} (hk : k < L.length) : 1 ≤ (L.getD k zR).k ∧ (L.getD k zR).k ≤ 8 := by
  have := (h.each _ (getD_mem hk)).1
  unfold noKind at this; omega

set_option maxHeartbeats 2000000 in
theorem refNet_any (L : List Rc) (v : Value) (shop : Int) (w : World) (h : At kR w v L) (hR : Right L) :
    Calls Try.prog 48 #[v, .int .i64 shop] w fun e w' => e = .returned (.int .i64 (net shop L)) ∧ Below w.heap.size w w' := by
  have hm := h.len
  unfold maxLen at hm
  obtain ⟨a, c, rfl, hl⟩ := h
  go_enter Try.func48, Try.ntmps48
  go_wp2
  go_loopw [10, 5] (fun i s wr => ∃ (k : Nat) (x : Int), k ≤ L.length ∧ i = .int .i64 k ∧ s = .int .i64 x ∧ Hid (x = net shop (L.take k)) ∧ Below w.heap.size w wr) (fun i _ _ => L.length - (intOf i).toNat)
  case atStart => exact ⟨0, 0, Nat.zero_le _, rfl, rfl, rfl, Below.refl _ _⟩
  case round =>
    obtain ⟨k, x, hk, rfl, rfl, hx, hb⟩ := hrel
    by_cases hlt : k < L.length
    · have hlt' : (k : Int) < L.length := by omega
      obtain ⟨b, off, rfl, hbl, e1, e2, e3, e4⟩ := rc_cells (hl.below hb) hlt
      have hs := each_small hR hlt
      have hkr := kind_right hR hlt
      have hn1 := net_small hR shop (k := k) hk
      have hst : net shop (L.take (k + 1)) = net shop (L.take k) + netF shop (L.getD k zR) := sumBy_step _ hlt
      rw [← hx.out] at hn1 hst
      generalize L.getD k zR = r at *
      obtain ⟨sh, au, kk, m⟩ := r
      dsimp only at e1 e2 e3 e4 hs hkr
      unfold netF at hst
      dsimp only at hst
      by_cases hq : sh = shop
      · rw [if_pos hq] at hst
        have hq' : (sh == shop) = true := by simpa using hq
        have hpr : -1000000 ≤ m * sgn kk ∧ m * sgn kk ≤ 1000000 := by
          refine ⟨?_, ?_⟩ <;> (obtain ⟨hu, -⟩ | ⟨hu, -⟩ | ⟨hu, -⟩ := sgn_ways kk <;> rw [hu.out] <;> omega)
        have w1 : IntKind.i64.wrap (m * sgn kk) = m * sgn kk := wrap64' (by omega) (by omega)
        have w2 : IntKind.i64.wrap (x + m * sgn kk) = x + m * sgn kk := wrap64' (by omega) (by omega)
        have hE : Hid (x + m * sgn kk = net shop (L.take (k + 1))) := hid hst.symm
        clear hst hq hpr
        have hmm := @run_makeMap Try.prog
        go_upto_region 6 with fail
        have hb2 := bel_alloc hb (.cells #[.int .i64 sh, .int .i64 au, .int .i64 kk, .int .i64 m] 87)
        have C2 : (wr.alloc (.cells #[.int .i64 sh, .int .i64 au, .int .i64 kk, .int .i64 m] 87)).cell? ⟨wr.heap.size, 2, none⟩ = some (.int .i64 kk) := by simp
        have C3 : (wr.alloc (.cells #[.int .i64 sh, .int .i64 au, .int .i64 kk, .int .i64 m] 87)).cell? ⟨wr.heap.size, 3, none⟩ = some (.int .i64 m) := by simp
        have hzz : wr.heap.size < (wr.alloc (.cells #[.int .i64 sh, .int .i64 au, .int .i64 kk, .int .i64 m] 87)).heap.size := by simp
        generalize wr.alloc (.cells #[.int .i64 sh, .int .i64 au, .int .i64 kk, .int .i64 m] 87) = W1 at *
        obtain ⟨wa, wb, wc, wd, ⟨ea, ba⟩, ⟨eb, bb⟩, ⟨ec, bc⟩, ⟨ed, bd⟩, hrun⟩ := map4 W1 kk hkr.1 hkr.2
        have C2d := (bd.cell (p := ⟨wr.heap.size, 2, none⟩) hzz).trans C2
        have hb3 := hb2.trans (bd.mono hb2.size)
        generalize sgn kk = s at *
        go_wp2_with fail
        go_roundw
        case rel => exact ⟨k + 1, x + m * s, by omega, by go_num, rfl, hE, hb3⟩
        case measure => simp [intOf]; omega
      · rw [if_neg hq] at hst
        have hq' : (sh == shop) = false := by simpa using hq
        have Hst := hid hst
        clear hst hq
        go_wp2_with fail
        go_roundw
        case rel => exact ⟨k + 1, x, by omega, by go_num, rfl, by have := Hst.out; exact hid (by omega), by repeat (first | exact hb | refine Below.drew ?_ | refine bel_alloc ?_ _)⟩
        case measure => simp [intOf]; omega
    · have hE : Hid (x = net shop L) := by rw [hx.out, List.take_of_length_le (by omega)]; exact hid rfl
      go_wp2
      go_ret
      exact ⟨ret_int hE.out, hb⟩
end Go.Proofs.Ytodkcagingnelab.Dy
