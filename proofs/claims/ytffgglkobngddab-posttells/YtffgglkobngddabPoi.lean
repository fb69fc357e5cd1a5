/- The walk of the document's Back. -/
import Derived.Test.YtffgglkobngddabPof
namespace Go.Proofs.Ytffgglkobngddab.Po
open Go.RowKit Go.Proofs.Ytffgglkobngddab.Gn

/-- What the loop of the document's Back holds on to: besides, the sender that is answered. -/
structure Bo (w : World) (s : Se) (a : Option Addr) (cap : Nat) (D : Nat) (L : List Tr) (a' : Option Addr) (cap' : Nat) (W : World) : Prop where
  bx : Bx w s a cap W
  out : W.heap[D]? = some (so ⟨s.sent, L⟩ a' cap')
  row : Row kT 42 W (D + 1) (.slice a' L.length cap') L
  lt : w.heap.size + 1 < D

theorem Bo.on {w : World} {s : Se} {a : Option Addr} {cap D : Nat} {L : List Tr} {a' : Option Addr} {cap' : Nat} {W W' : World} (h : Bo w s a cap D L a' cap' W) (hb : Below W.heap.size W W') : Bo w s a cap D L a' cap' W' :=
  ⟨h.bx.on hb, (hb.block _ (lt_of_block h.out)).trans h.out, h.row.below hb, h.lt⟩

/-- One more, and stored. -/
theorem Bo.more {w : World} {s : Se} {a : Option Addr} {cap D : Nat} {L M : List Tr} {a' : Option Addr} {cap' : Nat} {W W' : World} (h : Bo w s a cap D L a' cap' W) (hg : W.grownBy W' (Value.ownBlock (.slice a' L.length cap'))) {a3 : Option Addr} {cap3 : Nat} (hr : Row kT 42 W' (D + 1) (.slice a3 M.length cap3) M) :
    Bo w s a cap D M a3 cap3 (W'.setCell ⟨D, 1, none⟩ (.slice a3 M.length cap3)) := by
  have l1 := h.lt
  have l2 := lt_of_block h.out
  have hb : Below (D + 1) W W' := below_grown (Below.refl _ _) hg h.row (Nat.le_refl _) (by omega)
  have o' := (hb.block _ (by omega)).trans h.out
  refine ⟨⟨(h.bx.bel.trans (hb.mono (by omega))).setCell (by simp; omega) _, ?_, ?_⟩, ?_, hr.keep (by simp) fun k hk _ => heap_setCell_other _ _ _ _ (by have := (hr.block_lt k hk).1; simp; omega), l1⟩
  · exact (heap_setCell_other _ _ _ _ (by simp; omega)).trans ((hb.block _ (by omega)).trans h.bx.box)
  · exact (heap_setCell_other _ _ _ _ (by simp; omega)).trans ((hb.block _ (by omega)).trans h.bx.res)
  · have := heap_setCell_same W' D 1 _ _ (.slice a3 M.length cap3) o'
    simpa [so] using this

set_option maxHeartbeats 4000000 in
theorem refBack_any (s : Se) (a : Option Addr) (cap : Nat) (seen : Int) (w : World) (hL : Lies kT w a cap s.kept) (hfit : Fit s.kept) :
    Calls Try.prog 22 #[sv s a cap, .int .i64 seen] w (AnswersS w (backS s seen)) := by
  have P0 := bx_new (w := w) s a cap
  have hL0 := hL.below P0.bel
  unfold sv
  go_enter Try.func22, Try.ntmps22
  go_wp2_with fail
  refine (refWrong_any s a cap _ hL0 hfit).mono ?_
  rintro e w1 ⟨rfl, hb1⟩
  have P1 := P0.on hb1
  clear P0 hb1 hL0
  by_cases h0 : (wrongS s).1 = 0
  rotate_left
  · have HP := hid (backS_bad (seen := seen) h0)
    have hne : ((wrongS s).1 != 0) = true := by simpa using h0
    clear h0
    generalize (wrongS s).1 = r1 at *
    generalize (wrongS s).2 = r2 at *
    go_upto_region 3 with fail
    have P2 := P1.on (below_alloc w1 (.cells #[.int .i64 r1, .int .i64 r2] 44))
    have hF : (w1.alloc (.cells #[.int .i64 r1, .int .i64 r2] 44)).heap[w1.heap.size]? = some (.cells #[.int .i64 r1, .int .i64 r2] 44) := heap_alloc_at _ _ _ rfl
    have hl := P1.lt
    clear P1
    generalize w1.alloc (.cells #[.int .i64 r1, .int .i64 r2] 44) = W at *
    obtain ⟨R0, R1⟩ := so_cells P2.res
    obtain ⟨E0, E1⟩ := so_free P2.res
    obtain ⟨G0, G1, -, -⟩ := fault_cells hF
    generalize w1.heap.size = f at *
    have hn1 : w.heap.size + 1 ≠ f := by omega
    have hn2 : f ≠ w.heap.size + 1 := by omega
    go_region
    all_goals
      go_wp2
      refine bodyPost_ret (v := .tuple #[.agg #[.int .i64 0, .slice none 0 0], .int .i64 r1]) (by simp [results, Try.results22, go_sem, R0, R1]; try rfl) rfl ?_
      unfold AnswersS
      rw [HP.out]
      refine ⟨.slice none 0 0, rfl, .nil, ?_⟩
      refine Below.drew ?_
      repeat refine Below.setCell ?_ (by simp) _
      exact P2.bel
  have HP1 := hid (backS_range (seen := seen) h0)
  have HP2 := hid (backS_ok (seen := seen) h0)
  have R := wrongS_ok.1 h0
  have q1 := R.few
  have hne : ((wrongS s).1 != 0) = false := by simpa using h0
  clear h0
  generalize (wrongS s).1 = r1 at *
  generalize (wrongS s).2 = r2 at *
  go_upto_region 4 with fail
  have P2 := P1.on (below_alloc w1 (.cells #[.int .i64 r1, .int .i64 r2] 44))
  clear P1
  generalize w1.alloc (.cells #[.int .i64 r1, .int .i64 r2] 44) = W at *
  obtain ⟨B0, B1⟩ := so_cells P2.box
  obtain ⟨R0, R1⟩ := so_cells P2.res
  obtain ⟨E0, E1⟩ := so_free P2.res
  by_cases h1 : seen < 0
  · have HP := hid (HP1.out (Or.inl h1))
    clear HP1 HP2
    go_wp2
    refine bodyPost_ret (v := .tuple #[.agg #[.int .i64 0, .slice none 0 0], .int .i64 3]) (by simp [results, Try.results22, go_sem, R0, R1]; try rfl) rfl ?_
    unfold AnswersS
    rw [HP.out]
    refine ⟨.slice none 0 0, rfl, .nil, ?_⟩
    repeat refine Below.setCell ?_ (by simp) _
    exact P2.bel
  have h1' : 0 ≤ seen := by omega
  by_cases h2 : s.sent < seen
  · have HP := hid (HP1.out (Or.inr h2))
    clear HP1 HP2 h1
    go_wp2
    refine bodyPost_ret (v := .tuple #[.agg #[.int .i64 0, .slice none 0 0], .int .i64 3]) (by simp [results, Try.results22, go_sem, R0, R1]; try rfl) rfl ?_
    unfold AnswersS
    rw [HP.out]
    refine ⟨.slice none 0 0, rfl, .nil, ?_⟩
    repeat refine Below.setCell ?_ (by simp) _
    exact P2.bel
  have HP := hid (HP2.out (by omega))
  have h2' : seen ≤ s.sent := by omega
  clear HP1 HP2 h1 h2 R0 R1 E0 E1
  have hl2 := P2.lt
  have O0 : Bo w s a cap W.heap.size [] none 0 (W.alloc (so ⟨s.sent, []⟩ none 0)) := ⟨P2.on (below_alloc _ _), heap_alloc_at _ _ _ rfl, .nil, hl2⟩
  unfold so at O0
  go_upto_region 7 with fail
  simp only [List.length_nil] at O0
  have hD : W.heap.size < (W.alloc (.cells #[.int .i64 s.sent, .slice none 0 0] 40)).heap.size := by simp
  generalize W.alloc (.cells #[.int .i64 s.sent, .slice none 0 0] 40) = W1 at *
  generalize W.heap.size = D at *
  clear B0 B1 P2
  obtain ⟨B0, B1⟩ := so_cells O0.bx.box
  go_wp2
  go_loopw [33] (fun i wr => ∃ (k : Nat) (a' : Option Addr) (cap' : Nat), k ≤ s.kept.length ∧ i = .int .i64 k ∧ Bo w s a cap D (those seen (s.kept.take k)) a' cap' wr) (fun i _ => s.kept.length - (intOf i).toNat)
  case atStart => exact ⟨0, none, 0, Nat.zero_le _, rfl, O0⟩
  case round =>
    obtain ⟨k, a', cap', hk, rfl, hO⟩ := hrel
    clear O0 B0 B1
    generalize wr = W at *
    by_cases hlt : k < s.kept.length
    · have hlt' : (k : Int) < s.kept.length := by omega
      obtain ⟨b, off, rfl, hbl, e1, e2, e3, e4⟩ := tr_cells (hL.below hO.bx.bel) hlt
      have HH := hid (those_hit (seen := seen) hlt)
      have HM := hid (those_miss (seen := seen) hlt)
      have hle := those_take_le seen s.kept k
      generalize s.kept.getD k zeroT = t at *
      have hO1 := hO.on (below_alloc W (tob t))
      have hT : (W.alloc (tob t)).heap[W.heap.size]? = some (tob t) := heap_alloc_at _ _ _ rfl
      go_upto_region 10 with fail
      unfold tob at hO1 hT
      clear e1 e2 e3 e4 hO
      generalize W.alloc (.cells #[.int .i64 t.n, .int .i64 t.k, .int .i64 t.a, .int .i64 t.s] 42) = W2 at *
      obtain ⟨T0, T1, T2, T3⟩ := tob_cells hT
      by_cases hq : seen < t.n
      · have HH' := hid (HH.out hq)
        clear HH HM
        obtain ⟨D0, D1⟩ := so_cells hO1.out
        have lD := lt_of_block hO1.out
        generalize those seen (s.kept.take k) = L at *
        go_wp2_with (at_builtin; refine wpList_append elemT _ rfl _ _ rfl (D + 1) _ _ rfl (hO1.row.alloc _) (some ⟨W2.heap.size, 0, none⟩) 1 1 [t] rfl rfl (lies_one (heap_alloc_at _ _ _ rfl) rfl _) ?c3 ?c4 ?c5 ?_)
        case c3 => simp [maxLen]; omega
        case c4 => first | omega | (simp; omega)
        case c5 => first | omega | (simp; omega)
        intro v' w3 hown' hgrow _ _
        rw [← HH'.out] at hown'
        obtain ⟨M, hM⟩ : ∃ M, Hid (those seen (s.kept.take (k + 1)) = M) := ⟨_, rfl⟩
        rw [hM.out] at hown'
        obtain ⟨a3, cap3, rfl, -, -, -⟩ := hown'.lies
        have hO3 := (hO1.on (below_alloc W2 _)).more hgrow hown'
        have hlD : D < w3.heap.size := by have := hgrow.size; simp at this; omega
        have hb3 : Below (D + 1) W2 w3 := below_grown ((Below.refl _ _).alloc (by omega) _) hgrow (hO1.row.alloc _) (Nat.le_refl _) (by simp; omega)
        have hD3 := (hb3.block _ (by omega)).trans hO1.out
        obtain ⟨X0, X1⟩ := so_cells hD3
        obtain ⟨Y0, Y1⟩ := so_free hD3
        clear hgrow hO1 D0 D1 T0 T1 T2 T3 hT hb3 HH'
        go_wp2
        go_roundw
        case rel => exact ⟨k + 1, a3, cap3, by omega, by go_num, by rw [hM.out]; exact hO3⟩
        case measure => simp [intOf]; omega
      · have HM' := hid (HM.out hq)
        clear HH HM
        go_wp2
        go_roundw
        case rel => exact ⟨k + 1, a', cap', by omega, by go_num, by rw [HM'.out]; exact hO1⟩
        case measure => simp [intOf]; omega
    · have HA := hid (those_all (seen := seen) (L := s.kept) (k := k) (by omega))
      rw [HA.out] at hO
      clear HA
      generalize those seen s.kept = O at *
      obtain ⟨B0, B1⟩ := so_cells hO.out
      obtain ⟨R0, R1⟩ := so_cells hO.bx.res
      obtain ⟨E0, E1⟩ := so_free hO.bx.res
      have lD := hO.lt
      go_wp2
      refine bodyPost_ret (v := .tuple #[.agg #[.int .i64 s.sent, .slice a' O.length cap'], .int .i64 0]) (by simp [results, Try.results22, go_sem, R0, R1]; try rfl) rfl ?_
      unfold AnswersS
      rw [HP.out]
      refine ⟨_, rfl, ?_, ?_⟩
      · refine Row.mono (base := w.heap.size + 2) ?_ (by omega)
        repeat refine Row.set ?_ _ (by simp) _
        exact hO.row.mono (by omega)
      · repeat refine Below.setCell ?_ (by simp) _
        exact hO.bx.bel
end Go.Proofs.Ytffgglkobngddab.Po
