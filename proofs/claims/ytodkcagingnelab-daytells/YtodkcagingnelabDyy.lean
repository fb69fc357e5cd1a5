/- The walk of the document's Bytes. -/
import Derived.Test.YtodkcagingnelabDyn
import Derived.Test.YtodkcagingnelabDyu
import Derived.Test.YtodkcagingnelabDyw
namespace Go.Proofs.Ytodkcagingnelab.Dy
open Go.RowKit Go.Proofs.Ytodkcagingnelab.Gn

theorem liesB {α : Type} {K : Kind α} {w : World} {b : Nat} {L : List α} {t : TypeId} {cs : Array Value} (h : w.heap[b]? = some (.cells cs t)) (hc : cs.toList = K.flat L) (hl : L.length ≤ maxLen) (c : Nat) : Lies K w (some ⟨b, 0, none⟩) c L := by
  refine ⟨hl, (fun h => by cases h), Or.inr ⟨b, 0, rfl, lt_of_block h, fun j u hj => ?_⟩⟩
  rw [← hc] at hj
  rw [Nat.zero_add, cell_of_row w b j cs t _ h]
  simpa using hj

theorem Byx.on {w W W' : World} {a : Option Addr} {cap : Nat} {S : List Rc} {u : Value} {C : List Int} {Z : Nat} {r : Rc} (h : Byx w W a cap S u C Z r) (hb : Below W.heap.size W W') : Byx w W' a cap S u C Z r :=
  ⟨h.toByw.on hb, (hb.block _ (lt_of_block h.box)).trans h.box, h.nez⟩

theorem enc_cells (r : Rc) : (#[.int .u8 r.sh, .int .u8 r.au, .int .u8 r.k, .int .u8 (r.m / 65536), .int .u8 (r.m / 256 % 256), .int .u8 (r.m % 256)] : Array Value).toList = kB.flat (enc r) := rfl
theorem tot_cells (n : Int) : (#[.int .u8 (n / 16777216), .int .u8 (n / 65536 % 256), .int .u8 (n / 256 % 256), .int .u8 (n % 256)] : Array Value).toList = kB.flat (tot4 n) := rfl

set_option maxRecDepth 10000 in
set_option maxHeartbeats 4000000 in
theorem refBytes_any (L : List Rc) (v : Value) (w : World) (h : At kR w v L) : Calls Try.prog 41 #[v] w (AnswersB w (bytesR L)) := by
  have b0 : Below w.heap.size w (w.alloc (.cells #[.int .i64 0, .int .i64 0] 44)) := below_alloc _ _
  have hR0 : (w.alloc (.cells #[.int .i64 0, .int .i64 0] 44)).heap[w.heap.size]? = some (.cells #[.int .i64 0, .int .i64 0] 44) := heap_alloc_at _ _ _ rfl
  have hz0 : w.heap.size < (w.alloc (.cells #[.int .i64 0, .int .i64 0] 44)).heap.size := by simp
  have hh := h
  obtain ⟨a0, c0, rfl, hl⟩ := h
  by_cases hw : (wrongL L).1 = 0
  case neg =>
    have hE := hid (bytes_bad hw)
    have hw' : ((wrongL L).1 != 0) = true := by simpa using hw
    have hWr : ∀ X : World, Below w.heap.size w X → Calls Try.prog 43 #[.slice a0 L.length c0] X fun e w' => e = .returned (.agg #[.int .i64 (wrongL L).1, .int .i64 (wrongL L).2]) ∧ Below X.heap.size X w' := fun X hX => refWrong_any L _ X (hh.below hX)
    have hE2 : Hid (bytesR L = ([], ((wrongL L).1, (wrongL L).2))) := by rw [hE.out]; exact hid rfl
    clear hw hE
    generalize (wrongL L).1 = e1 at *
    generalize (wrongL L).2 = e2 at *
    go_enter Try.func41, Try.ntmps41
    go_upto_region 1 with fail
    generalize w.alloc (.cells #[.int .i64 0, .int .i64 0] 44) = W0 at *
    go_upto_region 3 with (go_at_call 43; refine (hWr _ b0).mono ?_; rintro e w1 ⟨rfl, hb1⟩)
    have hR1 := (hb1.block _ hz0).trans hR0
    have hz1 : w.heap.size < w1.heap.size := Nat.lt_of_lt_of_le hz0 hb1.size
    have hbw : Below w.heap.size w (w1.alloc (.cells #[.int .i64 e1, .int .i64 e2] 44)) := bel_alloc (b0.trans (hb1.mono b0.size)) _
    have hR2 : (w1.alloc (.cells #[.int .i64 e1, .int .i64 e2] 44)).heap[w.heap.size]? = some (.cells #[.int .i64 0, .int .i64 0] 44) := (heap_alloc_old _ _ hz1).trans hR1
    have C0 : (w1.alloc (.cells #[.int .i64 e1, .int .i64 e2] 44)).cell? ⟨w1.heap.size, 0, none⟩ = some (.int .i64 e1) := by simp
    have C1 : (w1.alloc (.cells #[.int .i64 e1, .int .i64 e2] 44)).cell? ⟨w1.heap.size, 1, none⟩ = some (.int .i64 e2) := by simp
    obtain ⟨r0, r1, f0, f1⟩ := res_cells hR2
    have hne : w.heap.size ≠ w1.heap.size := by omega
    have hne' : w1.heap.size ≠ w.heap.size := by omega
    generalize w1.alloc (.cells #[.int .i64 e1, .int .i64 e2] 44) = W2 at *
    generalize w1.heap.size = Z at *
    go_region
    all_goals
      go_wp2_with fail
      refine bodyPost_ret (v := .tuple #[.slice none 0 0, .agg #[.int .i64 e1, .int .i64 e2]]) (by simp [results, Try.results41, go_sem, r0, r1]; try rfl) rfl ?_
      rw [hE2.out]
      refine ⟨_, rfl, .nil, ?_⟩
      repeat (first | exact hbw | refine Below.drew ?_ | refine Below.setCell ?_ (by simp) _)
  case pos =>
    have hR := wrong_ok.1 hw
    have hE := hid (bytes_ok hw)
    have hwz := wrong_zero hw
    have hWr : ∀ X : World, Below w.heap.size w X → Calls Try.prog 43 #[.slice a0 L.length c0] X fun e w' => e = .returned (.agg #[.int .i64 0, .int .i64 0]) ∧ Below X.heap.size X w' := fun X hX => by
      have := refWrong_any L _ X (hh.below hX); rw [hwz] at this; exact this
    have hfew := hR.few
    have HR := hid hR
    have hfew' : L.length * 32 ≤ 140737488355328 := by omega
    have hconv : IntKind.u8.wrap (L.length : Int) = L.length := by
      simp [IntKind.wrap, IntKind.bits, IntKind.signed]; omega
    clear hw hwz hR
    go_enter Try.func41, Try.ntmps41
    go_upto_region 1 with fail
    generalize w.alloc (.cells #[.int .i64 0, .int .i64 0] 44) = W0 at *
    go_upto_region 4 with (go_at_call 43; refine (hWr _ b0).mono ?_; rintro e w1 ⟨rfl, hb1⟩)
    have hR1 := (hb1.block _ hz0).trans hR0
    have hz1 : w.heap.size < w1.heap.size := Nat.lt_of_lt_of_le hz0 hb1.size
    have hbw : Below w.heap.size w (w1.alloc (.cells #[.int .i64 0, .int .i64 0] 44)) := bel_alloc (b0.trans (hb1.mono b0.size)) _
    have hR2 : (w1.alloc (.cells #[.int .i64 0, .int .i64 0] 44)).heap[w.heap.size]? = some (.cells #[.int .i64 0, .int .i64 0] 44) := (heap_alloc_old _ _ hz1).trans hR1
    generalize w1.alloc (.cells #[.int .i64 0, .int .i64 0] 44) = W2 at *
    have hz2 := lt_of_block hR2
    clear hb1 hR1 hz1 hR0 hz0 b0
    go_upto_region 5 with fail
    have hl3 : Lies kB (W2.alloc (.cells #[.int .u8 (L.length : Int)] 5)) (some ⟨W2.heap.size, 0, none⟩) 1 [(L.length : Int)] := lies_one (heap_alloc_at _ _ _ rfl) rfl 1
    have hsz3 : W2.heap.size < (W2.alloc (.cells #[.int .u8 (L.length : Int)] 5)).heap.size := by simp
    have hr3 : Row kB 5 (W2.alloc (.cells #[.int .u8 (L.length : Int)] 5)) (w.heap.size + 1) (.slice (some ⟨W2.heap.size, 0, none⟩) 1 1) [(L.length : Int)] := .full W2.heap.size [(L.length : Int)] (by omega) hl3 hsz3
    have hbw3 : Below w.heap.size w (W2.alloc (.cells #[.int .u8 (L.length : Int)] 5)) := bel_alloc hbw _
    have hR3 : (W2.alloc (.cells #[.int .u8 (L.length : Int)] 5)).heap[w.heap.size]? = some (.cells #[.int .i64 0, .int .i64 0] 44) := (heap_alloc_old _ _ hz2).trans hR2
    generalize W2.alloc (.cells #[.int .u8 (L.length : Int)] 5) = W3 at *
    generalize W2.heap.size = Y at *
    clear hl3
    go_wp2_with (go_at_call 46; refine (refSorted_any L _ _ (hh.below hbw3) hfew').mono ?_; rintro e w4 ⟨v4, rfl, hr4, hb4⟩; obtain ⟨a4, c4, rfl, hl4, hp4, hlt4⟩ := hr4.lies)
    have B0 : Byw w w4 a4 c4 (sortR L) (.slice (some ⟨Y, 0, none⟩) 1 1) [(L.length : Int)] := ⟨hbw3.trans (hb4.mono (by have := lt_of_block hR3; omega)), (hb4.block _ (lt_of_block hR3)).trans hR3, hl4, hlt4, hr3.below hb4, fun ad had hk => by
      have h1 := hp4 ad had
      have h2 := (hr3.block_lt _ hk).2
      omega⟩
    clear hl4 hp4 hlt4 hb4 hr3 hbw3 hR3 hR2 hbw hz2 hsz3 hr4
    have hsl : (sortR L).length ≤ 100 := by rw [sort_length]; exact hfew
    have hSr := hid HR.out.sort
    have hst : Hid (total L = sumBy Rc.m (sortR L)) := hid (sumBy_sort _ _).symm
    obtain ⟨S, hS⟩ : ∃ S, Hid (sortR L = S) := ⟨_, rfl⟩
    rw [hS.out] at B0 hsl hSr hst ⊢
    have htot := total_small HR.out
    go_loopw [22, 5, 6] (fun i u s wr => ∃ k : Nat, k ≤ S.length ∧ i = .int .i64 k ∧ s = .int .i64 (sumBy Rc.m (S.take k)) ∧ Byw w wr a4 c4 S u ((L.length : Int) :: (S.take k).flatMap enc)) (fun i _ _ _ => S.length - (intOf i).toNat)
    case atStart => exact ⟨0, Nat.zero_le _, rfl, by simp [sumBy], by simpa using B0⟩
    case round =>
      clear B0
      obtain ⟨k, hk, rfl, rfl, B0⟩ := hrel
      have hCl : Hid (((L.length : Int) :: (S.take k).flatMap enc).length = 1 + 6 * k) := by rw [List.length_cons, flat_length, List.length_take]; exact hid (by omega)
      by_cases hlt : k < S.length
      · have hlt' : (k : Int) < S.length := by omega
        obtain ⟨b, off, rfl, hbl, e1, e2, e3, e4⟩ := rc_cells B0.lies hlt
        have hgood := hSr.out.each _ (getD_mem hlt)
        have hnew : Hid (((L.length : Int) :: (S.take (k + 1)).flatMap enc) = ((L.length : Int) :: (S.take k).flatMap enc) ++ enc (S.getD k zR)) := by rw [take_at hlt]; exact hid (by simp)
        have hsum := hid (sumBy_step Rc.m hlt)
        have hsm : 0 ≤ sumBy Rc.m (S.take k) ∧ sumBy Rc.m (S.take k) ≤ 100000000 := total_small ⟨by have := hSr.out.few; simp; omega, fun r hr => hSr.out.each r (List.mem_of_mem_take hr)⟩
        generalize (L.length : Int) :: (S.take k).flatMap enc = C at *
        generalize sumBy Rc.m (S.take k) = t at *
        generalize S.getD k zR = r at *
        have X0 := B0.take r
        unfold rob at X0
        go_upto_region 9 with fail
        generalize wr.alloc (.cells #[.int .i64 r.sh, .int .i64 r.au, .int .i64 r.k, .int .i64 r.m] 87) = W1 at *
        generalize wr.heap.size = Z at *
        clear e1 e2 e3 e4 B0
        obtain ⟨g0, g1, g2, g3⟩ := rob_cells X0.box
        have hq := X0.big
        have f1 := hgood.1
        have f2 := hgood.2
        unfold noKind at f1
        unfold far at f2
        have X0' := X0.on (below_alloc W1 (.cells #[.int .u8 r.sh, .int .u8 r.au, .int .u8 r.k, .int .u8 (r.m / 65536), .int .u8 (r.m / 256 % 256), .int .u8 (r.m % 256)] 5))
        have hC6 : C.length ≤ 601 := by have := hCl.out; omega
        have hlB : Lies kB (W1.alloc (.cells #[.int .u8 r.sh, .int .u8 r.au, .int .u8 r.k, .int .u8 (r.m / 65536), .int .u8 (r.m / 256 % 256), .int .u8 (r.m % 256)] 5)) (some ⟨W1.heap.size, 0, none⟩) 6 (enc r) := liesB (heap_alloc_at _ _ _ rfl) (enc_cells r) (by simp [enc_length, maxLen]) 6
        have q1 : C.length + (enc r).length ≤ maxLen := by rw [enc_length]; simp [maxLen]; omega
        have q2 : (C.length + (enc r).length) * 1 ≤ 140737488355328 := by rw [enc_length]; omega
        have q3 : w.heap.size + 1 ≤ (W1.alloc (.cells #[.int .u8 r.sh, .int .u8 r.au, .int .u8 r.k, .int .u8 (r.m / 65536), .int .u8 (r.m / 256 % 256), .int .u8 (r.m % 256)] 5)).heap.size := by simp; omega
        go_upto_region 10 with (at_builtin; refine wpList_append elemB _ rfl _ _ rfl (w.heap.size + 1) _ C rfl X0'.row (some ⟨W1.heap.size, 0, none⟩) 6 6 (enc r) rfl rfl hlB q1 q2 q3 ?_; intro v2 w2 hrow2 hg2 hat2 _)
        have X1 := X0'.grow hrow2 hg2 hat2
        obtain ⟨p0, p1, p2, p3⟩ := rob_cells X1.box
        have hE4 : Hid (C ++ enc r = (L.length : Int) :: (S.take (k + 1)).flatMap enc) := hid hnew.out.symm
        have hT : Hid (t + r.m = sumBy Rc.m (S.take (k + 1))) := hid hsum.out.symm
        clear X0 X0' hrow2 hg2 hat2 g0 g1 g2 g3 hnew hsum
        go_wp2_with fail
        go_roundw
        case rel => exact ⟨k + 1, by omega, by go_num, by rw [hT.out], by rw [← hE4.out]; exact X1.toByw⟩
        case measure => simp [intOf]; omega
      · have hke : k = S.length := by omega
        subst hke
        rw [List.take_length] at B0 hCl
        have hfin : Hid (((L.length : Int) :: S.flatMap enc) ++ tot4 (total L) = fileB L) := by rw [← hS.out]; exact hid rfl
        rw [List.take_length, ← hst.out]
        generalize total L = tt at *
        generalize (L.length : Int) :: S.flatMap enc = C at *
        have hC6 : C.length ≤ 601 := by have := hCl.out; omega
        have hq := B0.big
        have B0' := B0.on (below_alloc wr (.cells #[.int .u8 (tt / 16777216), .int .u8 (tt / 65536 % 256), .int .u8 (tt / 256 % 256), .int .u8 (tt % 256)] 5))
        obtain ⟨t1, t2⟩ := htot
        have hlB : Lies kB (wr.alloc (.cells #[.int .u8 (tt / 16777216), .int .u8 (tt / 65536 % 256), .int .u8 (tt / 256 % 256), .int .u8 (tt % 256)] 5)) (some ⟨wr.heap.size, 0, none⟩) 4 (tot4 tt) := liesB (heap_alloc_at _ _ _ rfl) (tot_cells tt) (by simp [tot4, maxLen]) 4
        have q1 : C.length + (tot4 tt).length ≤ maxLen := by simp [tot4, maxLen]; omega
        have q2 : (C.length + (tot4 tt).length) * 1 ≤ 140737488355328 := by simp [tot4]; omega
        have q3 : w.heap.size + 1 ≤ (wr.alloc (.cells #[.int .u8 (tt / 16777216), .int .u8 (tt / 65536 % 256), .int .u8 (tt / 256 % 256), .int .u8 (tt % 256)] 5)).heap.size := by simp; omega
        go_wp2_with (at_builtin; refine wpList_append elemB _ rfl _ _ rfl (w.heap.size + 1) _ C rfl B0'.row (some ⟨wr.heap.size, 0, none⟩) 4 4 (tot4 tt) rfl rfl hlB q1 q2 q3 ?_; intro v6 w6 hr6 hg6 ha6 _; have B2 := B0'.grow hr6 hg6 ha6; obtain ⟨r0, r1, f0, f1⟩ := res_cells B2.res)
        refine bodyPost_ret (v := .tuple #[v6, .agg #[.int .i64 0, .int .i64 0]]) (by simp [results, Try.results41, go_sem, r0, r1]; try rfl) rfl ?_
        rw [hE.out]
        refine ⟨v6, rfl, ?_, (B2.bel.setCell (Nat.le_refl _) _).setCell (Nat.le_refl _) _⟩
        have hr7 := B2.row
        rw [hfin.out] at hr7
        refine (hr7.keep (by simp) fun k hk _ => ?_).mono (by omega)
        have := (hr7.block_lt k hk).1
        rw [heap_setCell_other _ ⟨w.heap.size, 1, none⟩ _ _ (by simp; omega), heap_setCell_other _ ⟨w.heap.size, 0, none⟩ _ _ (by simp; omega)]
end Go.Proofs.Ytodkcagingnelab.Dy
