/- The walk of post's Wrong. -/
import Derived.Test.YtffgglkobngddabPoa
import Derived.Deep.RegionWith
import Derived.Deep.RegionLaw
import Derived.Deep.CutRange
namespace Go.Proofs.Ytffgglkobngddab.Po
open Go.RowKit Go.Proofs.Ytffgglkobngddab.Gn

/-- What Wrong holds on to: the sender's box, the result, the number's box. -/
structure Wr (w : World) (s : Se) (a : Option Addr) (cap : Nat) (c : Nat) (m : Int) (W : World) : Prop where
  bel : Below w.heap.size w W
  box : W.heap[w.heap.size]? = some (so s a cap)
  res : W.heap[w.heap.size + 1]? = some (.cells #[.int .i64 0, .int .i64 0] 44)
  num : W.heap[c]? = some (.cells #[.int .i64 m] 3)
  lt : w.heap.size + 1 < c

theorem Wr.on {w : World} {s : Se} {a : Option Addr} {cap c : Nat} {m : Int} {W W' : World} (h : Wr w s a cap c m W) (hb : Below W.heap.size W W') : Wr w s a cap c m W' :=
  ⟨h.bel.trans (hb.mono h.bel.size), (hb.block _ (lt_of_block h.box)).trans h.box, (hb.block _ (lt_of_block h.res)).trans h.res, (hb.block _ (lt_of_block h.num)).trans h.num, h.lt⟩
theorem Wr.step {w : World} {s : Se} {a : Option Addr} {cap c : Nat} {m : Int} {W : World} (h : Wr w s a cap c m W) (m' : Int) : Wr w s a cap c m' (W.setCell ⟨c, 0, none⟩ (.int .i64 m')) := by
  have l := h.lt
  exact ⟨h.bel.setCell (by simp; omega) _, (Below.heap_setCell _ _ _ _ (by simp; omega)).trans h.box, (Below.heap_setCell _ _ _ _ (by simp; omega)).trans h.res, one_setCell h.num, l⟩
theorem fault_cells {W : World} {b : Nat} {x y : Int} (h : W.heap[b]? = some (.cells #[.int .i64 x, .int .i64 y] 44)) :
    W.cell? ⟨b, 0, none⟩ = some (.int .i64 x) ∧ W.cell? ⟨b, 1, none⟩ = some (.int .i64 y) ∧ W.frozen? ⟨b, 0, none⟩ = false ∧ W.frozen? ⟨b, 1, none⟩ = false := by
  refine ⟨?_, ?_, ?_, ?_⟩ <;> simp [World.cell?, World.frozen?, h]

theorem numbers_at (m : Int) (w : World) :
    Calls Try.prog 32 #[.int .i64 m] w fun e w' => ∃ c, e = .returned (.func (.func 41) #[] #[.pointer (some ⟨c, 0, none⟩)]) ∧ c = w.heap.size ∧ w' = w.alloc (.cells #[.int .i64 m] 3) :=
  (numbers_any m w).mono fun _ _ ⟨h1, h2⟩ => ⟨_, h1, rfl, h2⟩

set_option maxHeartbeats 2000000 in
theorem wrong_any (s : Se) (a : Option Addr) (cap : Nat) (w : World) (hL : Lies kT w a cap s.kept) :
    Calls Try.prog 16 #[sv s a cap] w fun e w' => e = .returned (.agg #[.int .i64 (wrongS s).1, .int .i64 (wrongS s).2]) ∧ Below w.heap.size w w' := by
  have hm := hL.len
  unfold maxLen at hm
  unfold sv
  have b1 : ∀ o o', Below w.heap.size w ((w.alloc o).alloc o') := fun o o' => (below_alloc _ _).alloc (by simp) _
  by_cases hf : 40 < s.kept.length
  · have HG := hid (wrongS_many hf)
    have hf' : (40 : Int) < s.kept.length := by omega
    go_enter Try.func16, Try.ntmps16
    go_wp2
    refine bodyPost_ret (v := .agg #[.int .i64 5, .int .i64 0]) (by simp [results, Try.results16, go_sem]; try rfl) rfl ⟨?_, ?_⟩
    · rw [HG.out]
    · repeat refine Below.setCell ?_ (by simp) _
      exact b1 _ _
  have hf0 : s.kept.length ≤ 40 := by omega
  have hf' : (s.kept.length : Int) ≤ 40 := by omega
  clear hf
  by_cases h1 : s.sent < s.kept.length
  · have HG := hid (wrongS_range hf0 (Or.inl h1))
    go_enter Try.func16, Try.ntmps16
    go_wp2
    refine bodyPost_ret (v := .agg #[.int .i64 3, .int .i64 0]) (by simp [results, Try.results16, go_sem]; try rfl) rfl ⟨?_, ?_⟩
    · rw [HG.out]
    · repeat refine Below.setCell ?_ (by simp) _
      exact b1 _ _
  have h1' : (s.kept.length : Int) ≤ s.sent := by omega
  clear h1
  by_cases h2 : 1000000 < s.sent
  · have HG := hid (wrongS_range hf0 (Or.inr h2))
    go_enter Try.func16, Try.ntmps16
    go_wp2
    refine bodyPost_ret (v := .agg #[.int .i64 3, .int .i64 0]) (by simp [results, Try.results16, go_sem]; try rfl) rfl ⟨?_, ?_⟩
    · rw [HG.out]
    · repeat refine Below.setCell ?_ (by simp) _
      exact b1 _ _
  have h2' : s.sent ≤ 1000000 := by omega
  clear h2
  go_enter Try.func16, Try.ntmps16
  go_wp2_with fail
  refine (numbers_at _ _).mono ?_
  rintro e w1 ⟨c, rfl, hc, rfl⟩
  have W0 : Wr w s a cap c (s.sent - s.kept.length) (((w.alloc (so s a cap)).alloc (.cells #[.int .i64 0, .int .i64 0] 44)).alloc (.cells #[.int .i64 (s.sent - s.kept.length)] 3)) := by
    have e2 : c = w.heap.size + 2 := by simpa using hc
    refine ⟨(b1 _ _).alloc (by simp; omega) _, ?_, ?_, heap_alloc_at _ _ _ (by simp; omega), by omega⟩
    · rw [Below.heap_alloc _ _ _ (by simp; omega), Below.heap_alloc _ _ _ (by simp), heap_alloc_at _ _ _ rfl]
    · rw [Below.heap_alloc _ _ _ (by simp), heap_alloc_at _ _ _ (by simp)]
  unfold so at W0
  clear hc b1
  generalize ((w.alloc (.cells #[.int .i64 s.sent, .slice a s.kept.length cap] 40)).alloc (.cells #[.int .i64 0, .int .i64 0] 44)).alloc (.cells #[.int .i64 (s.sent - s.kept.length)] 3) = w1 at *
  obtain ⟨B0, B1⟩ := so_cells W0.box
  go_wp2
  go_loopw [34] (fun i wr => ∃ (k : Nat), k ≤ s.kept.length ∧ i = .int .i64 k ∧ Hid (Good s k) ∧ Wr w s a cap c (s.sent - s.kept.length + k) wr) (fun i _ => s.kept.length - (intOf i).toNat)
  case atStart => exact ⟨0, Nat.zero_le _, rfl, good_zero hf0 h1' h2', by simpa using W0⟩
  case round =>
    obtain ⟨k, hk, rfl, hg, hw⟩ := hrel
    clear W0 B0 B1
    generalize wr = W at *
    obtain ⟨R0, R1, F0, F1⟩ := fault_cells hw.res
    by_cases hlt : k < s.kept.length
    · have hlt' : (k : Int) < s.kept.length := by omega
      obtain ⟨b, off, rfl, hbl, e1, e2, e3, e4⟩ := tr_cells (hL.below hw.bel) hlt
      have hW := hw.on (below_alloc W (tob (s.kept.getD k zeroT)))
      have HB := hid (fun h => hg.out.bad hlt h)
      have HN := hid (fun h => hg.out.next hlt h)
      clear hg R0 R1 F0 F1
      generalize s.kept.getD k zeroT = t at *
      go_upto_region 9 with fail
      have hT : (W.alloc (tob t)).heap[W.heap.size]? = some (tob t) := heap_alloc_at _ _ _ rfl
      unfold tob at hW hT
      have hcW := lt_of_block hw.num
      clear e1 e2 e3 e4 hw
      generalize W.alloc (.cells #[.int .i64 t.n, .int .i64 t.k, .int .i64 t.a, .int .i64 t.s] 42) = W1 at *
      obtain ⟨T0, T1, T2, T3⟩ := tob_cells hT
      have far : ∀ j, ∀ v, (W1.drew.setCell ⟨c, 0, none⟩ v).cell? ⟨W.heap.size, j, none⟩ = W1.cell? ⟨W.heap.size, j, none⟩ := fun j v => World.cell?_of_block (w := W1) (a := ⟨W.heap.size, j, none⟩) ((heap_setCell_other _ _ _ _ (by simp; omega)).trans rfl)
      have hnum := hW.num
      go_cut [6] from 39 to 43 (fun v wc => v = .int .i64 (wrongT t (s.sent - s.kept.length + 1 + k)) ∧ Wr w s (some ⟨b, off, none⟩) cap c (s.sent - s.kept.length + 1 + k) wc)
      case first =>
        go_region_with (first
          | (go_at_call 41; refine (number_any c (s.sent - s.kept.length + k) _ ?_ (by omega) (by omega)).mono ?_; exact hnum; rintro e w2 ⟨rfl, rfl⟩)
          | (go_at_call 33; refine (wrongTransfer_any t _ _).mono ?_; rintro e w3 ⟨rfl, hb3⟩))
        all_goals (go_wp2_with fail; go_meet; rw [show s.sent - s.kept.length + 1 + (k : Int) = s.sent - s.kept.length + k + 1 by omega]; exact ⟨rfl, (hW.step _).on (((Below.refl _ _).drew).trans hb3)⟩)
      case rest =>
        obtain ⟨rfl, hw⟩ := hcut
        clear hW hT T0 T1 T2 T3 far hnum
        generalize wc = W2 at *
        obtain ⟨R0, R1, F0, F1⟩ := fault_cells hw.res
        by_cases h0 : wrongT t (s.sent - s.kept.length + 1 + k) = 0
        · have HG := hid (HN.out h0)
          have hne : (wrongT t (s.sent - s.kept.length + 1 + k) != 0) = false := by simpa using h0
          clear h0 HB HN
          generalize wrongT t (s.sent - s.kept.length + 1 + k) = r at *
          go_wp2
          go_roundw
          case rel => exact ⟨k + 1, by omega, by go_num, HG, by rw [show s.sent - s.kept.length + ((k + 1 : Nat) : Int) = s.sent - s.kept.length + 1 + k by omega]; exact hw⟩
          case measure => simp [intOf]; omega
        · have HG := hid (HB.out h0)
          have hne : (wrongT t (s.sent - s.kept.length + 1 + k) != 0) = true := by simpa using h0
          clear h0 HB HN
          generalize wrongT t (s.sent - s.kept.length + 1 + k) = r at *
          have bb := hw.bel
          go_wp2
          refine bodyPost_ret (v := .agg #[.int .i64 r, .int .i64 k]) (by simp [results, Try.results16, go_sem, R0, R1]; try rfl) rfl ⟨?_, ?_⟩
          · rw [HG.out]
          · repeat refine Below.setCell ?_ (by simp) _
            exact bb
    · have HG := hid (hg.out.done (by omega))
      clear hg
      have bb := hw.bel
      go_wp2
      refine bodyPost_ret (v := .agg #[.int .i64 0, .int .i64 0]) (by simp [results, Try.results16, go_sem, R0, R1]; try rfl) rfl ⟨?_, ?_⟩
      · rw [HG.out]
      · repeat refine Below.setCell ?_ (by simp) _
        exact bb
end Go.Proofs.Ytffgglkobngddab.Po
