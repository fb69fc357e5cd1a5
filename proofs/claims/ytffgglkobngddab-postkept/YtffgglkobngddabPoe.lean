/- The walk of Back. -/
import Derived.Test.YtffgglkobngddabPod
namespace Go.Proofs.Ytffgglkobngddab.Po
open Go.RowKit Go.Proofs.Ytffgglkobngddab.Gn

/-- What Back holds on to: the sender's box, the result. -/
structure Bx (w : World) (s : Se) (a : Option Addr) (cap : Nat) (W : World) : Prop where
  bel : Below w.heap.size w W
  box : W.heap[w.heap.size]? = some (so s a cap)
  res : W.heap[w.heap.size + 1]? = some (so zeroS none 0)

theorem Bx.on {w : World} {s : Se} {a : Option Addr} {cap : Nat} {W W' : World} (h : Bx w s a cap W) (hb : Below W.heap.size W W') : Bx w s a cap W' :=
  ⟨h.bel.trans (hb.mono h.bel.size), (hb.block _ (lt_of_block h.box)).trans h.box, (hb.block _ (lt_of_block h.res)).trans h.res⟩
theorem Bx.lt {w : World} {s : Se} {a : Option Addr} {cap : Nat} {W : World} (h : Bx w s a cap W) : w.heap.size + 1 < W.heap.size := lt_of_block h.res
theorem bx_new {w : World} (s : Se) (a : Option Addr) (cap : Nat) : Bx w s a cap ((w.alloc (so s a cap)).alloc (so zeroS none 0)) := by
  refine ⟨(below_alloc _ _).alloc (by simp) _, ?_, heap_alloc_at _ _ _ (by simp)⟩
  rw [Below.heap_alloc _ _ _ (by simp), heap_alloc_at _ _ _ rfl]
theorem Bx.kept {w : World} {s : Se} {a : Option Addr} {cap : Nat} {W : World} (h : Bx w s a cap W) (L : List Tr) (a' : Option Addr) (cap' : Nat) : Bx w ⟨s.sent, L⟩ a' cap' (W.setCell ⟨w.heap.size, 1, none⟩ (.slice a' L.length cap')) := by
  refine ⟨h.bel.setCell (by simp) _, ?_, (heap_setCell_other _ _ _ _ (by simp)).trans h.res⟩
  have := heap_setCell_same W w.heap.size 1 _ _ (.slice a' L.length cap') h.box
  simpa [so] using this

set_option maxHeartbeats 4000000 in
theorem back_any (s : Se) (a : Option Addr) (cap : Nat) (seen : Int) (w : World) (hL : Lies kT w a cap s.kept) :
    Calls Try.prog 21 #[sv s a cap, .int .i64 seen] w (AnswersS w (backS s seen)) := by
  have P0 := bx_new (w := w) s a cap
  have hL0 := hL.below P0.bel
  unfold sv
  go_enter Try.func21, Try.ntmps21
  go_wp2_with fail
  refine (wrong_any s a cap _ hL0).mono ?_
  rintro e w1 ⟨rfl, hb1⟩
  have P1 := P0.on hb1
  clear P0 hb1 hL0
  by_cases h0 : (wrongS s).1 = 0
  rotate_left
  · have HP := hid (backS_bad (seen := seen) h0)
    have hne : ((wrongS s).1 != 0) = true := by simpa using h0
    clear h0
    generalize (wrongS s).1 = r1 at *
    generalize (wrongS s).2 = r2 at *
    go_upto_region 3 with fail
    have P2 := P1.on (below_alloc w1 (.cells #[.int .i64 r1, .int .i64 r2] 44))
    have hF : (w1.alloc (.cells #[.int .i64 r1, .int .i64 r2] 44)).heap[w1.heap.size]? = some (.cells #[.int .i64 r1, .int .i64 r2] 44) := heap_alloc_at _ _ _ rfl
    have hl := P1.lt
    clear P1
    generalize w1.alloc (.cells #[.int .i64 r1, .int .i64 r2] 44) = W at *
    obtain ⟨R0, R1⟩ := so_cells P2.res
    obtain ⟨E0, E1⟩ := so_free P2.res
    obtain ⟨G0, G1, -, -⟩ := fault_cells hF
    generalize w1.heap.size = f at *
    have hn1 : w.heap.size + 1 ≠ f := by omega
    have hn2 : f ≠ w.heap.size + 1 := by omega
    go_region
    all_goals
      go_wp2
      refine bodyPost_ret (v := .tuple #[.agg #[.int .i64 0, .slice none 0 0], .int .i64 r1]) (by simp [results, Try.results21, go_sem, R0, R1]; try rfl) rfl ?_
      unfold AnswersS
      rw [HP.out]
      refine ⟨.slice none 0 0, rfl, .nil, ?_⟩
      refine Below.drew ?_
      repeat refine Below.setCell ?_ (by simp) _
      exact P2.bel
  have HP1 := hid (backS_range (seen := seen) h0)
  have HP2 := hid (backS_ok (seen := seen) h0)
  have R := wrongS_ok.1 h0
  have q1 := R.few
  have hne : ((wrongS s).1 != 0) = false := by simpa using h0
  clear h0
  generalize (wrongS s).1 = r1 at *
  generalize (wrongS s).2 = r2 at *
  go_upto_region 4 with fail
  have P2 := P1.on (below_alloc w1 (.cells #[.int .i64 r1, .int .i64 r2] 44))
  clear P1
  generalize w1.alloc (.cells #[.int .i64 r1, .int .i64 r2] 44) = W at *
  obtain ⟨B0, B1⟩ := so_cells P2.box
  obtain ⟨R0, R1⟩ := so_cells P2.res
  obtain ⟨E0, E1⟩ := so_free P2.res
  by_cases h1 : seen < 0
  · have HP := hid (HP1.out (Or.inl h1))
    clear HP1 HP2
    go_wp2
    refine bodyPost_ret (v := .tuple #[.agg #[.int .i64 0, .slice none 0 0], .int .i64 3]) (by simp [results, Try.results21, go_sem, R0, R1]; try rfl) rfl ?_
    unfold AnswersS
    rw [HP.out]
    refine ⟨.slice none 0 0, rfl, .nil, ?_⟩
    repeat refine Below.setCell ?_ (by simp) _
    exact P2.bel
  have h1' : 0 ≤ seen := by omega
  by_cases h2 : s.sent < seen
  · have HP := hid (HP1.out (Or.inr h2))
    clear HP1 HP2 h1
    go_wp2
    refine bodyPost_ret (v := .tuple #[.agg #[.int .i64 0, .slice none 0 0], .int .i64 3]) (by simp [results, Try.results21, go_sem, R0, R1]; try rfl) rfl ?_
    unfold AnswersS
    rw [HP.out]
    refine ⟨.slice none 0 0, rfl, .nil, ?_⟩
    repeat refine Below.setCell ?_ (by simp) _
    exact P2.bel
  have HP := hid (HP2.out (by omega))
  have h2' : seen ≤ s.sent := by omega
  clear HP1 HP2 h1 h2 R0 R1 E0 E1
  go_upto_region 6 with fail
  have hsz0 : w.heap.size < W.heap.size := by have := P2.lt; omega
  have hLW := hL.below P2.bel
  have BA : ∀ o, (W.alloc o).cell? ⟨w.heap.size, 1, none⟩ = some (.slice a s.kept.length cap) := fun o => (World.cell?_alloc_past _ _ _ hsz0).trans B1
  go_cut [] from 24 to 30 (fun wc => ∃ a' cap', Bx w ⟨s.sent, those seen s.kept⟩ a' cap' wc ∧ Row kT 42 wc (w.heap.size + 2) (.slice a' (those seen s.kept).length cap') (those seen s.kept))
  case first =>
    go_region_with (first
      | (go_at_call 36; refine (above_any seen _).mono ?_; rintro e w2 ⟨rfl, rfl⟩)
      | (go_at_call 35; refine (those_any a cap s.kept W.heap.size seen _ ?_ ?_ q1).mono ?_; exact (hLW.alloc _).drew; exact heap_alloc_at W _ _ rfl; rintro e w3 ⟨v3, rfl, hown3, hb3⟩
         have hb4 : Below W.heap.size W w3 := ((below_alloc W _).drew).trans (hb3.mono (by show W.heap.size ≤ (W.heap.push _).size; simp))
         have hown4 := hown3.mono (base' := W.heap.size) (by show W.heap.size ≤ (W.heap.push _).size; simp)
         obtain ⟨a3, cap3, rfl, -, -, -⟩ := hown3.lies
         have P4 := P2.on hb4
         obtain ⟨C0, C1⟩ := so_cells P4.box
         obtain ⟨F0, F1⟩ := so_free P4.box
         clear hb3 hb4))
    all_goals (go_wp2_with fail; go_meet; exact ⟨a3, cap3, P4.kept _ a3 cap3, Row.set (hown4.mono (base' := w.heap.size + 2) (by have := P2.lt; omega)) ⟨w.heap.size, 1, none⟩ (by show w.heap.size < _; omega) _⟩)
  case rest =>
    obtain ⟨a', cap', P4, hown⟩ := hcut
    clear P2 B0 B1 BA hsz0 hLW
    generalize wc = W4 at *
    generalize those seen s.kept = O at *
    obtain ⟨B0, B1⟩ := so_cells P4.box
    obtain ⟨R0, R1⟩ := so_cells P4.res
    obtain ⟨E0, E1⟩ := so_free P4.res
    go_wp2
    refine bodyPost_ret (v := .tuple #[.agg #[.int .i64 s.sent, .slice a' O.length cap'], .int .i64 0]) (by simp [results, Try.results21, go_sem, R0, R1]; try rfl) rfl ?_
    unfold AnswersS
    rw [HP.out]
    refine ⟨_, rfl, ?_, ?_⟩
    · refine Row.mono (base := w.heap.size + 2) ?_ (by omega)
      repeat refine Row.set ?_ _ (by simp) _
      exact hown
    · repeat refine Below.setCell ?_ (by simp) _
      exact P4.bel
end Go.Proofs.Ytffgglkobngddab.Po
