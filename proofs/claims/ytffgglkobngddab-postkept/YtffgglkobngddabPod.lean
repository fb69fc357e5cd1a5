/- The walk of Put. -/
import Derived.Test.YtffgglkobngddabPoc
namespace Go.Proofs.Ytffgglkobngddab.Po
open Go.RowKit Go.Proofs.Ytffgglkobngddab.Gn

/-- What Put and Back answer: a sender whose list the call has made, and an error's number. -/
def AnswersS (w : World) (r : Se × Int) (e : Ending) (w' : World) : Prop :=
  ∃ v, e = .returned (.tuple #[.agg #[.int .i64 r.1.sent, v], .int .i64 r.2]) ∧ Row kT 42 w' w.heap.size v r.1.kept ∧ Below w.heap.size w w'

/-- What Put holds on to: the sender's box, the transfer's, the result. -/
structure Pu (w : World) (s : Se) (a : Option Addr) (cap : Nat) (t : Tr) (W : World) : Prop where
  bel : Below w.heap.size w W
  box : W.heap[w.heap.size]? = some (so s a cap)
  tb : W.heap[w.heap.size + 1]? = some (tob t)
  res : W.heap[w.heap.size + 2]? = some (so zeroS none 0)

theorem Pu.on {w : World} {s : Se} {a : Option Addr} {cap : Nat} {t : Tr} {W W' : World} (h : Pu w s a cap t W) (hb : Below W.heap.size W W') : Pu w s a cap t W' :=
  ⟨h.bel.trans (hb.mono h.bel.size), (hb.block _ (lt_of_block h.box)).trans h.box, (hb.block _ (lt_of_block h.tb)).trans h.tb, (hb.block _ (lt_of_block h.res)).trans h.res⟩
theorem Pu.lt {w : World} {s : Se} {a : Option Addr} {cap : Nat} {t : Tr} {W : World} (h : Pu w s a cap t W) : w.heap.size + 2 < W.heap.size := lt_of_block h.res

theorem pu_new {w : World} (s : Se) (a : Option Addr) (cap : Nat) (t : Tr) : Pu w s a cap t (((w.alloc (so s a cap)).alloc (tob t)).alloc (so zeroS none 0)) := by
  refine ⟨((below_alloc _ _).alloc (by simp) _).alloc (by simp; omega) _, ?_, ?_, heap_alloc_at _ _ _ (by simp)⟩
  · rw [Below.heap_alloc _ _ _ (by simp; omega), Below.heap_alloc _ _ _ (by simp), heap_alloc_at _ _ _ rfl]
  · rw [Below.heap_alloc _ _ _ (by simp), heap_alloc_at _ _ _ (by simp)]

theorem tob_free {W : World} {b : Nat} {t : Tr} (hb : W.heap[b]? = some (tob t)) :
    W.frozen? ⟨b, 0, none⟩ = false ∧ W.frozen? ⟨b, 1, none⟩ = false ∧ W.frozen? ⟨b, 2, none⟩ = false ∧ W.frozen? ⟨b, 3, none⟩ = false := by
  unfold tob at hb
  refine ⟨?_, ?_, ?_, ?_⟩ <;> simp [World.frozen?, hb]

set_option maxHeartbeats 2000000 in
theorem put_bad (s : Se) (a : Option Addr) (cap : Nat) (t : Tr) (w : World) (hL : Lies kT w a cap s.kept) (h0 : (wrongS s).1 ≠ 0) :
    Calls Try.prog 18 #[sv s a cap, tv t] w (AnswersS w (putS s t)) := by
  have P0 := pu_new (w := w) s a cap t
  have hL0 := hL.below P0.bel
  have HP := hid (putS_bad (t := t) h0)
  have hne : ((wrongS s).1 != 0) = true := by simpa using h0
  unfold sv tv
  go_enter Try.func18, Try.ntmps18
  go_wp2_with fail
  refine (wrong_any s a cap _ hL0).mono ?_
  rintro e w1 ⟨rfl, hb1⟩
  have P1 := P0.on hb1
  clear P0 hb1 h0 hL0
  generalize (wrongS s).1 = r1 at *
  generalize (wrongS s).2 = r2 at *
  go_upto_region 3 with fail
  have P2 := P1.on (below_alloc w1 (.cells #[.int .i64 r1, .int .i64 r2] 44))
  have hF : (w1.alloc (.cells #[.int .i64 r1, .int .i64 r2] 44)).heap[w1.heap.size]? = some (.cells #[.int .i64 r1, .int .i64 r2] 44) := heap_alloc_at _ _ _ rfl
  have hl := P1.lt
  clear P1
  generalize w1.alloc (.cells #[.int .i64 r1, .int .i64 r2] 44) = W at *
  obtain ⟨R0, R1⟩ := so_cells P2.res
  obtain ⟨E0, E1⟩ := so_free P2.res
  obtain ⟨G0, G1, -, -⟩ := fault_cells hF
  generalize w1.heap.size = f at *
  have hn1 : w.heap.size + 2 ≠ f := by omega
  have hn2 : f ≠ w.heap.size + 2 := by omega
  go_region
  all_goals
    go_wp2
    refine bodyPost_ret (v := .tuple #[.agg #[.int .i64 0, .slice none 0 0], .int .i64 r1]) (by simp [results, Try.results18, go_sem, R0, R1]; try rfl) rfl ?_
    unfold AnswersS
    rw [HP.out]
    refine ⟨.slice none 0 0, rfl, .nil, ?_⟩
    refine Below.drew ?_
    repeat refine Below.setCell ?_ (by simp <;> omega) _
    exact P2.bel

theorem Pu.num {w : World} {s : Se} {a : Option Addr} {cap : Nat} {t : Tr} {W : World} (h : Pu w s a cap t W) (n : Int) : Pu w s a cap ⟨n, t.k, t.a, t.s⟩ (W.setCell ⟨w.heap.size + 1, 0, none⟩ (.int .i64 n)) := by
  refine ⟨h.bel.setCell (by simp) _, (heap_setCell_other _ _ _ _ (by simp)).trans h.box, ?_, (heap_setCell_other _ _ _ _ (by simp)).trans h.res⟩
  have := heap_setCell_same W (w.heap.size + 1) 0 _ _ (.int .i64 n) h.tb
  simpa [tob] using this
theorem Pu.kept {w : World} {s : Se} {a : Option Addr} {cap : Nat} {t : Tr} {W : World} (h : Pu w s a cap t W) (L : List Tr) (a' : Option Addr) (cap' : Nat) : Pu w ⟨s.sent, L⟩ a' cap' t (W.setCell ⟨w.heap.size, 1, none⟩ (.slice a' L.length cap')) := by
  refine ⟨h.bel.setCell (by simp) _, ?_, (heap_setCell_other _ _ _ _ (by simp)).trans h.tb, (heap_setCell_other _ _ _ _ (by simp)).trans h.res⟩
  have := heap_setCell_same W w.heap.size 1 _ _ (.slice a' L.length cap') h.box
  simpa [so] using this
theorem Pu.sent {w : World} {s : Se} {a : Option Addr} {cap : Nat} {t : Tr} {W : World} (h : Pu w s a cap t W) (n : Int) : Pu w ⟨n, s.kept⟩ a cap t (W.setCell ⟨w.heap.size, 0, none⟩ (.int .i64 n)) := by
  refine ⟨h.bel.setCell (by simp) _, ?_, (heap_setCell_other _ _ _ _ (by simp)).trans h.tb, (heap_setCell_other _ _ _ _ (by simp)).trans h.res⟩
  have := heap_setCell_same W w.heap.size 0 _ _ (.int .i64 n) h.box
  simpa [so] using this

theorem Row.set {K : Kind Tr} {e : TypeId} {w : World} {base : Nat} {v : Value} {L : List Tr} (h : Row K e w base v L) (p : Addr) (hp : p.block < base) (u : Value) : Row K e (w.setCell p u) base v L :=
  h.keep (by simp) fun k hk _ => heap_setCell_other _ _ _ _ (by have := (h.block_lt k hk).1; omega)

set_option maxHeartbeats 4000000 in
theorem put_good (s : Se) (a : Option Addr) (cap : Nat) (t : Tr) (w : World) (hL : Lies kT w a cap s.kept) (h0 : (wrongS s).1 = 0) :
    Calls Try.prog 18 #[sv s a cap, tv t] w (AnswersS w (putS s t)) := by
  have P0 := pu_new (w := w) s a cap t
  have hL0 := hL.below P0.bel
  have HP1 := hid (putS_out (t := t) h0)
  have HP2 := hid (putS_ok (t := t) h0)
  have R := wrongS_ok.1 h0
  have q1 := R.few
  have q2 : 0 ≤ s.sent := by have := R.lo; omega
  have q3 := R.hi
  have hne : ((wrongS s).1 != 0) = false := by simpa using h0
  unfold sv tv
  go_enter Try.func18, Try.ntmps18
  go_wp2_with fail
  refine (wrong_any s a cap _ hL0).mono ?_
  rintro e w1 ⟨rfl, hb1⟩
  have P1 := P0.on hb1
  clear P0 hb1 h0 hL0
  generalize (wrongS s).1 = r1 at *
  generalize (wrongS s).2 = r2 at *
  go_upto_region 4 with fail
  have P2 := P1.on (below_alloc w1 (.cells #[.int .i64 r1, .int .i64 r2] 44))
  clear P1
  generalize w1.alloc (.cells #[.int .i64 r1, .int .i64 r2] 44) = W at *
  obtain ⟨B0, B1⟩ := so_cells P2.box
  obtain ⟨T0, T1, T2, T3⟩ := tob_cells P2.tb
  obtain ⟨G0, G1, G2, G3⟩ := tob_free P2.tb
  go_upto_region 5 with fail
  have P3 := P2.num (s.sent + 1)
  clear B0 B1 T0 T1 T2 T3 G0 G1 G2 G3 P2
  generalize W.setCell ⟨w.heap.size + 1, 0, none⟩ (.int .i64 (s.sent + 1)) = W at *
  have hn : (⟨s.sent + 1, t.k, t.a, t.s⟩ : Tr) = nextT s t := rfl
  rw [hn] at P3
  clear hn
  obtain ⟨O, hO⟩ : ∃ O, Hid (O = s.kept ++ [nextT s t]) := ⟨_, rfl⟩
  go_cut [] from 20 to 27 (fun wc => ∃ a' cap', Pu w ⟨s.sent, O⟩ a' cap' (nextT s t) wc ∧ Row kT 42 wc (w.heap.size + 3) (.slice a' O.length cap') O)
  case first =>
    have hLW := hL.below P3.bel
    have hsz := P3.lt
    have hsz0 : w.heap.size < W.heap.size := by omega
    obtain ⟨B0, B1⟩ := so_cells P3.box
    have BA : ∀ o, (W.alloc o).cell? ⟨w.heap.size, 1, none⟩ = some (.slice a s.kept.length cap) := fun o => (World.cell?_alloc_past _ _ _ hsz0).trans B1
    obtain ⟨T0, T1, T2, T3⟩ := tob_cells P3.tb
    go_region_law (first
      | (refine step_append elemT _ rfl (.const (.slice none 0 0)) (.tmp 21) rfl W.heap.size (.slice none 0 0) [] rfl .nil a s.kept.length cap s.kept (by simp [Act.eval]) rfl hLW.drew (by simp [maxLen]; omega) (by simp; omega) (Nat.le_refl _) ?_
         intro v1 w2 hown hgrow _ _
         have hb2 : Below W.heap.size W w2 := below_grown (L := []) ((Below.refl _ _).drew) hgrow (.nil : Row kT 42 W.drew W.heap.size (.slice none 0 0) []) (Nat.le_refl _) (Nat.le_refl _)
         obtain ⟨T0', T1', T2', T3'⟩ := tob_cells (P3.on hb2).tb
         rw [List.nil_append] at hown
         clear hgrow)
      | (refine step_append elemT _ rfl (.const (.slice none 0 0)) (.tmp 21) rfl W.heap.size (.slice none 0 0) [] rfl .nil a s.kept.length cap s.kept (by simp [Act.eval]) rfl (hLW.alloc _).drew (by simp [maxLen]; omega) (by simp; omega) (by show W.heap.size ≤ (W.heap.push _).size; simp) ?_
         intro v1 w2 hown hgrow _ _
         have hb2 : Below W.heap.size W w2 := below_grown (L := []) ((below_alloc W _).drew) hgrow (.nil : Row kT 42 _ W.heap.size (.slice none 0 0) []) (Nat.le_refl _) (by show W.heap.size ≤ (W.heap.push _).size; simp)
         have hn2 := (hgrow.block W.heap.size (by show W.heap.size < (W.heap.push _).size; simp) (by simp [Value.ownBlock])).trans (heap_alloc_at W _ _ rfl)
         rw [List.nil_append] at hown
         clear hgrow)
      | (refine step_append elemT _ rfl (.tmp 22) (.tmp 24) rfl W.heap.size v1 s.kept (by simp [Act.eval]) (hown.alloc _) (some ⟨w2.heap.size, 0, none⟩) 1 1 [nextT s t] (by simp [Act.eval]) rfl (lies_one (heap_alloc_at _ _ _ rfl) rfl _) (by simp [maxLen]; omega) (by simp; omega) (by have := hb2.size; simp; omega) ?_
         intro v3 w3 hown3 hgrow _ _
         have hb3 : Below W.heap.size W w3 := below_grown (hb2.alloc hb2.size _) hgrow (hown.alloc _) (Nat.le_refl _) (by have := hb2.size; simp; omega)
         have P4 := P3.on hb3
         rw [← hO.out] at hown3
         obtain ⟨a3, cap3, rfl, -, -, -⟩ := hown3.lies
         obtain ⟨C0, C1⟩ := so_cells P4.box
         obtain ⟨F0, F1⟩ := so_free P4.box
         clear hgrow hown hb2)
      | (refine step_append elemT _ rfl (.tmp 22) (.tmp 24) rfl W.heap.size v1 s.kept (by simp [Act.eval]) hown (some ⟨W.heap.size, 0, none⟩) 1 1 [nextT s t] (by simp [Act.eval]) rfl (lies_one hn2 rfl _) (by simp [maxLen]; omega) (by simp; omega) hb2.size ?_
         intro v3 w3 hown3 hgrow _ _
         have hb3 : Below W.heap.size W w3 := below_grown hb2 hgrow hown (Nat.le_refl _) hb2.size
         have P4 := P3.on hb3
         rw [← hO.out] at hown3
         obtain ⟨a3, cap3, rfl, -, -, -⟩ := hown3.lies
         obtain ⟨C0, C1⟩ := so_cells P4.box
         obtain ⟨F0, F1⟩ := so_free P4.box
         clear hgrow hown hb2))
    all_goals (go_wp2_with fail; go_meet; exact ⟨a3, cap3, P4.kept _ a3 cap3, Row.set (hown3.mono (by omega)) ⟨w.heap.size, 1, none⟩ (by simp <;> omega) _⟩)
  case rest =>
    obtain ⟨a', cap', P4, hown⟩ := hcut
    clear P3
    generalize wc = W4 at *
    have HO : Hid (outS s t = ⟨s.sent + 1, O⟩) := hid (by rw [hO.out]; rfl)
    have hTn : (nextT s t).n = s.sent + 1 := rfl
    obtain ⟨B0, B1⟩ := so_cells P4.box
    obtain ⟨F0, F1⟩ := so_free P4.box
    obtain ⟨T0, T1, T2, T3⟩ := tob_cells P4.tb
    rw [hTn] at T0
    go_upto_region 7 with fail
    have P5 := P4.sent (s.sent + 1)
    have hown5 := Row.set hown ⟨w.heap.size, 0, none⟩ (by simp <;> omega) (.int .i64 (s.sent + 1))
    clear B0 B1 F0 F1 T0 T1 T2 T3 P4 hown
    generalize W4.setCell ⟨w.heap.size, 0, none⟩ (.int .i64 (s.sent + 1)) = W5 at *
    have hl5 : Lies kT W5 a' cap' O := by
      obtain ⟨a3, cap3, h3, hl, -, -⟩ := hown5.lies
      obtain ⟨rfl, -, rfl⟩ := Value.slice.inj h3
      exact hl
    rw [← HO.out] at P5
    have hl6 : Lies kT W5 a' cap' (outS s t).kept := by rw [HO.out]; exact hl5
    have hown6 : Row kT 42 W5 (w.heap.size + 3) (.slice a' (outS s t).kept.length cap') (outS s t).kept := by rw [HO.out]; exact hown5
    clear hl5 hown5 HO hTn hO
    generalize outS s t = o at *
    obtain ⟨B0, B1⟩ := so_cells P5.box
    go_wp2_with fail
    refine (wrong_any o a' cap' _ hl6).mono ?_
    rintro e w6 ⟨rfl, hb6⟩
    have P6 := P5.on hb6
    have hown7 := hown6.below hb6
    clear P5 hb6 hown6 hl6 B0 B1
    by_cases h0 : (wrongS o).1 = 0
    · have HP := hid (HP2.out h0)
      have hne2 : ((wrongS o).1 != 0) = false := by simpa using h0
      clear h0 HP1 HP2
      generalize (wrongS o).1 = x1 at *
      generalize (wrongS o).2 = x2 at *
      have P7 := P6.on (below_alloc w6 (.cells #[.int .i64 x1, .int .i64 x2] 44))
      have hown8 := hown7.alloc (.cells #[.int .i64 x1, .int .i64 x2] 44)
      obtain ⟨B0, B1⟩ := so_cells P7.box
      obtain ⟨R0, R1⟩ := so_cells P7.res
      obtain ⟨E0, E1⟩ := so_free P7.res
      go_upto_region 10 with fail
      generalize w6.alloc (.cells #[.int .i64 x1, .int .i64 x2] 44) = W7 at *
      go_wp2
      refine bodyPost_ret (v := .tuple #[.agg #[.int .i64 o.sent, .slice a' o.kept.length cap'], .int .i64 0]) (by simp [results, Try.results18, go_sem, R0, R1]; try rfl) rfl ?_
      unfold AnswersS
      rw [HP.out]
      refine ⟨_, rfl, ?_, ?_⟩
      · refine Row.mono (base := w.heap.size + 3) ?_ (by omega)
        repeat refine Row.set ?_ _ (by simp) _
        exact hown8
      · repeat refine Below.setCell ?_ (by simp <;> omega) _
        exact P7.bel
    · have HP := hid (HP1.out h0)
      have hne2 : ((wrongS o).1 != 0) = true := by simpa using h0
      clear h0 HP1 HP2
      generalize (wrongS o).1 = x1 at *
      generalize (wrongS o).2 = x2 at *
      have P7 := P6.on (below_alloc w6 (.cells #[.int .i64 x1, .int .i64 x2] 44))
      have hF : (w6.alloc (.cells #[.int .i64 x1, .int .i64 x2] 44)).heap[w6.heap.size]? = some (.cells #[.int .i64 x1, .int .i64 x2] 44) := heap_alloc_at _ _ _ rfl
      have hl := P6.lt
      go_upto_region 9 with fail
      generalize w6.alloc (.cells #[.int .i64 x1, .int .i64 x2] 44) = W7 at *
      obtain ⟨R0, R1⟩ := so_cells P7.res
      obtain ⟨E0, E1⟩ := so_free P7.res
      obtain ⟨G0, G1, -, -⟩ := fault_cells hF
      clear P6 hown7
      generalize w6.heap.size = f at *
      have hn1 : w.heap.size + 2 ≠ f := by omega
      have hn2 : f ≠ w.heap.size + 2 := by omega
      go_region
      all_goals
        go_wp2
        refine bodyPost_ret (v := .tuple #[.agg #[.int .i64 0, .slice none 0 0], .int .i64 x1]) (by simp [results, Try.results18, go_sem, R0, R1]; try rfl) rfl ?_
        unfold AnswersS
        rw [HP.out]
        refine ⟨.slice none 0 0, rfl, .nil, ?_⟩
        refine Below.drew ?_
        repeat refine Below.setCell ?_ (by simp <;> omega) _
        exact P7.bel

theorem put_any (s : Se) (a : Option Addr) (cap : Nat) (t : Tr) (w : World) (hL : Lies kT w a cap s.kept) :
    Calls Try.prog 18 #[sv s a cap, tv t] w (AnswersS w (putS s t)) := by
  by_cases h0 : (wrongS s).1 = 0
  · exact put_good s a cap t w hL h0
  · exact put_bad s a cap t w hL h0
end Go.Proofs.Ytffgglkobngddab.Po
