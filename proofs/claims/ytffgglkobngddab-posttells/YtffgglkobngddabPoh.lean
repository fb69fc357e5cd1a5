/- The walk of the document's Put. -/
import Derived.Test.YtffgglkobngddabPof
import Derived.Test.YtffgglkobngddabPog
import Derived.Deep.RegionHeld3
namespace Go.Proofs.Ytffgglkobngddab.Po
open Go.RowKit Go.Proofs.Ytffgglkobngddab.Gn

theorem bel_alloc {W X : World} (h : Below W.heap.size W X) (o : Obj) : Below W.heap.size W (X.alloc o) := h.alloc h.size o
theorem row_empty {α : Type} (K : Kind α) (e : TypeId) {w : World} {base g : Nat} (h1 : base ≤ g) (h2 : g < w.heap.size) : Row K e w base (.slice (some ⟨g, 0, none⟩) 0 0) [] :=
  .full g [] h1 ⟨by simp [maxLen], (fun h => by cases h), Or.inl rfl⟩ h2

theorem with_fact {T Q : Prop} (h : T) (k : T → Q) : Q := k h
theorem own_slice (g n c : Nat) : (Value.slice (some ⟨g, 0, none⟩) n c).ownBlock = some g := rfl
theorem so_put {X : World} {B : Nat} {s : Se} {a : Option Addr} {cap : Nat} (h : X.heap[B]? = some (so s a cap)) (n : Int) (L : List Tr) (a' : Option Addr) (cap' : Nat) :
    ((X.setCell ⟨B, 0, none⟩ (.int .i64 n)).setCell ⟨B, 1, none⟩ (.slice a' L.length cap')).heap[B]? = some (so ⟨n, L⟩ a' cap') := by
  have h1 := heap_setCell_same X B 0 _ _ (.int .i64 n) h
  have h2 := heap_setCell_same _ B 1 _ _ (.slice a' L.length cap') h1
  rw [h2]; simp [so]
theorem Row.set_ne {K : Kind Tr} {e : TypeId} {w : World} {base : Nat} {v : Value} {L : List Tr} (h : Row K e w base v L) (p : Addr) (hp : ∀ k, v.ownBlock = some k → k ≠ p.block) (u : Value) : Row K e (w.setCell p u) base v L :=
  h.keep (by simp) fun k hk _ => heap_setCell_other _ _ _ _ (hp k hk)

/-- What the loads of the document's Put read. -/
theorem Pu.held {w : World} {s : Se} {a : Option Addr} {cap : Nat} {t : Tr} {W X : World} (h : Pu w s a cap t W) (hb : Below W.heap.size W X) :
    X.cell? ⟨w.heap.size + 1, 0, none⟩ = some (.int .i64 t.n) ∧ X.cell? ⟨w.heap.size + 1, 1, none⟩ = some (.int .i64 t.k) ∧ X.cell? ⟨w.heap.size + 1, 2, none⟩ = some (.int .i64 t.a) ∧ X.cell? ⟨w.heap.size + 1, 3, none⟩ = some (.int .i64 t.s) ∧
    X.cell? ⟨w.heap.size, 1, none⟩ = some (.slice a s.kept.length cap) := by
  obtain ⟨h0, h1, h2, h3⟩ := tob_cells (h.on hb).tb
  exact ⟨h0, h1, h2, h3, (so_cells (h.on hb).box).2⟩

set_option maxHeartbeats 2000000 in
theorem refPut_bad (s : Se) (a : Option Addr) (cap : Nat) (t : Tr) (w : World) (hL : Lies kT w a cap s.kept) (hfit : Fit s.kept) (h0 : (wrongS s).1 ≠ 0) :
    Calls Try.prog 19 #[sv s a cap, tv t] w (AnswersS w (putS s t)) := by
  have P0 := pu_new (w := w) s a cap t
  have hL0 := hL.below P0.bel
  have HP := hid (putS_bad (t := t) h0)
  have hne : ((wrongS s).1 != 0) = true := by simpa using h0
  unfold sv tv
  go_enter Try.func19, Try.ntmps19
  go_wp2_with fail
  refine (refWrong_any s a cap _ hL0 hfit).mono ?_
  rintro e w1 ⟨rfl, hb1⟩
  have P1 := P0.on hb1
  clear P0 hb1 h0 hL0
  generalize (wrongS s).1 = r1 at *
  generalize (wrongS s).2 = r2 at *
  go_upto_region 3 with fail
  have P2 := P1.on (below_alloc w1 (.cells #[.int .i64 r1, .int .i64 r2] 44))
  have hF : (w1.alloc (.cells #[.int .i64 r1, .int .i64 r2] 44)).heap[w1.heap.size]? = some (.cells #[.int .i64 r1, .int .i64 r2] 44) := heap_alloc_at _ _ _ rfl
  have hl := P1.lt
  clear P1
  generalize w1.alloc (.cells #[.int .i64 r1, .int .i64 r2] 44) = W at *
  obtain ⟨R0, R1⟩ := so_cells P2.res
  obtain ⟨E0, E1⟩ := so_free P2.res
  obtain ⟨G0, G1, -, -⟩ := fault_cells hF
  generalize w1.heap.size = f at *
  have hn1 : w.heap.size + 2 ≠ f := by omega
  have hn2 : f ≠ w.heap.size + 2 := by omega
  go_region
  all_goals
    go_wp2
    refine bodyPost_ret (v := .tuple #[.agg #[.int .i64 0, .slice none 0 0], .int .i64 r1]) (by simp [results, Try.results19, go_sem, R0, R1]; try rfl) rfl ?_
    unfold AnswersS
    rw [HP.out]
    refine ⟨.slice none 0 0, rfl, .nil, ?_⟩
    refine Below.drew ?_
    repeat refine Below.setCell ?_ (by simp <;> omega) _
    exact P2.bel

set_option maxHeartbeats 4000000 in
theorem refPut_good (s : Se) (a : Option Addr) (cap : Nat) (t : Tr) (w : World) (hL : Lies kT w a cap s.kept) (hfit : Fit s.kept) (h0 : (wrongS s).1 = 0) :
    Calls Try.prog 19 #[sv s a cap, tv t] w (AnswersS w (putS s t)) := by
  have P0 := pu_new (w := w) s a cap t
  have hL0 := hL.below P0.bel
  have HP1 := hid (putS_out (t := t) h0)
  have HP2 := hid (putS_ok (t := t) h0)
  have R := wrongS_ok.1 h0
  have q1 := R.few
  have q2 : 0 ≤ s.sent := by have := R.lo; omega
  have q3 := R.hi
  have hne : ((wrongS s).1 != 0) = false := by simpa using h0
  unfold sv tv
  go_enter Try.func19, Try.ntmps19
  go_wp2_with fail
  refine (refWrong_any s a cap _ hL0 hfit).mono ?_
  rintro e w1 ⟨rfl, hb1⟩
  have P1 := P0.on hb1
  clear P0 hb1 h0 hL0
  generalize (wrongS s).1 = r1 at *
  generalize (wrongS s).2 = r2 at *
  go_upto_region 4 with fail
  have P2 := P1.on (below_alloc w1 (.cells #[.int .i64 r1, .int .i64 r2] 44))
  clear P1
  generalize w1.alloc (.cells #[.int .i64 r1, .int .i64 r2] 44) = W at *
  obtain ⟨B0, B1⟩ := so_cells P2.box
  obtain ⟨T0, T1, T2, T3⟩ := tob_cells P2.tb
  obtain ⟨G0, G1, G2, G3⟩ := tob_free P2.tb
  go_upto_region 5 with fail
  have P3 := P2.num (s.sent + 1)
  clear B0 B1 T0 T1 T2 T3 G0 G1 G2 G3 P2
  generalize W.setCell ⟨w.heap.size + 1, 0, none⟩ (.int .i64 (s.sent + 1)) = W at *
  have hn : (⟨s.sent + 1, t.k, t.a, t.s⟩ : Tr) = nextT s t := rfl
  rw [hn] at P3
  clear hn
  have hT0 : Hid ((nextT s t).n = s.sent + 1) := rfl
  obtain ⟨O, hO⟩ : ∃ O, Hid (O = s.kept ++ [nextT s t]) := ⟨_, rfl⟩
  go_cut [7] from 21 to 31 (fun p wc => ∃ B a' cap', p = .pointer (some ⟨B, 0, none⟩) ∧ w.heap.size + 2 < B ∧ Pu w s a cap (nextT s t) wc ∧ wc.heap[B]? = some (so ⟨s.sent + 1, O⟩ a' cap') ∧ Row kT 42 wc (w.heap.size + 3) (.slice a' O.length cap') O)
  case first =>
    have hLW := hL.below P3.bel
    have hsz := P3.lt
    have hsz0 : w.heap.size < W.heap.size := by omega
    generalize nextT s t = y at *
    go_region_held3 (fun X => X.cell? ⟨w.heap.size + 1, 0, none⟩ = some (.int .i64 y.n) ∧ X.cell? ⟨w.heap.size + 1, 1, none⟩ = some (.int .i64 y.k) ∧ X.cell? ⟨w.heap.size + 1, 2, none⟩ = some (.int .i64 y.a) ∧ X.cell? ⟨w.heap.size + 1, 3, none⟩ = some (.int .i64 y.s) ∧
        X.cell? ⟨w.heap.size, 1, none⟩ = some (.slice a s.kept.length cap))
      ((refine P3.held ?_; repeat (first | exact hb3 | exact hb2 | exact Below.refl _ _ | refine Below.drew ?_ | refine bel_alloc ?_ _ | refine Below.setCell ?_ (by first | omega | (simp; done) | (simp; omega)) _)))
      (first
        | (refine step_append elemT _ rfl (.tmp 23) (.tmp 25) rfl W.heap.size (.slice (some ⟨_, 0, none⟩) 0 0) [] rfl (row_empty kT _ (by first | omega | (simp; done) | (simp; omega)) (by first | omega | (simp; done) | (simp; omega))) a s.kept.length cap s.kept rfl rfl (by repeat (first | exact hLW | refine Lies.drew ?_ | refine Lies.alloc ?_ _)) (by simp [maxLen]; omega) (by simp; omega) (by first | omega | (simp; done) | (simp; omega)) ?_
           intro v1 w2 hown hgrow hat _
           have hb2 := below_grown (B := W.heap.size) (w := W) (by repeat (first | exact Below.refl _ _ | refine Below.drew ?_ | refine bel_alloc ?_ _)) hgrow (row_empty kT 42 (base := W.heap.size) (by first | omega | (simp; done) | (simp; omega)) (by first | omega | (simp; done) | (simp; omega))) (Nat.le_refl _) (by first | omega | (simp; done) | (simp; omega))
           rw [List.nil_append] at hown
           have hz2 := hgrow.size
           simp only [own_slice, Option.some.injEq] at hat
           try simp at hz2
           try simp at hat
           have hlt1 := hown.block_lt)
        | (refine step_append elemT _ rfl (.tmp 26) (.tmp 28) rfl W.heap.size v1 s.kept rfl (by repeat (first | exact hown | refine Row.drew ?_ | refine Row.alloc ?_ _)) _ 1 1 [y] rfl rfl (lies_one (by repeat (first | exact heap_alloc_at _ _ _ (by first | omega | (simp; done) | (simp; omega)) | refine (Below.heap_alloc _ _ _ (by first | omega | (simp; done) | (simp; omega))).trans ?_ | refine (hgrow.block _ (by first | omega | (simp; done) | (simp; omega)) (by simp only [own_slice, ne_eq, Option.some.injEq]; omega)).trans ?_ | rw [heap_drew])) rfl _) (by simp [maxLen]; omega) (by simp; omega) (by have := hb2.size; simp <;> omega) ?_
           intro v3 w3 hown3 hgrow3 hat3 _
           have hb3 := below_grown (K := kT) (e := 42) (base := W.heap.size) (L := s.kept) (B := W.heap.size) (w := W) (by repeat (first | exact hb2 | refine Below.drew ?_ | refine bel_alloc ?_ _)) hgrow3 (by repeat (first | exact hown | refine Row.drew ?_ | refine Row.alloc ?_ _)) (Nat.le_refl _) (by have := hb2.size; simp <;> omega)
           rw [← hO.out] at hown3
           have hz3 := hgrow3.size
           have hlt3 := hown3.block_lt
           try simp at hz3
           try simp only [World.size_alloc] at hat3
           obtain ⟨a3, cap3, rfl, -, -, -⟩ := hown3.lies
           try (refine with_fact (T := w3.heap[W.heap.size]? = some (so zeroS none 0)) ?_ (fun z0 => ?_); (focus ((repeat (first | exact heap_alloc_at _ _ _ (by first | omega | (simp; done) | (simp; omega)) | refine (Below.heap_alloc _ _ _ (by first | omega | (simp; done) | (simp; omega))).trans ?_ | refine (hgrow3.block _ (by first | omega | (simp; done) | (simp; omega)) (by intro h; have q1 := hat _ h.symm; have q2 := (hlt1 _ h.symm).2; omega)).trans ?_ | refine (hgrow.block _ (by first | omega | (simp; done) | (simp; omega)) (by simp only [own_slice, ne_eq, Option.some.injEq]; omega)).trans ?_ | rw [heap_drew])); done)); obtain ⟨y0, y0'⟩ := so_cells z0; obtain ⟨x0, x0'⟩ := so_free z0)
           try (refine with_fact (T := w3.heap[W.heap.size + 1]? = some (so zeroS none 0)) ?_ (fun z1 => ?_); (focus ((repeat (first | exact heap_alloc_at _ _ _ (by first | omega | (simp; done) | (simp; omega)) | refine (Below.heap_alloc _ _ _ (by first | omega | (simp; done) | (simp; omega))).trans ?_ | refine (hgrow3.block _ (by first | omega | (simp; done) | (simp; omega)) (by intro h; have q1 := hat _ h.symm; have q2 := (hlt1 _ h.symm).2; omega)).trans ?_ | refine (hgrow.block _ (by first | omega | (simp; done) | (simp; omega)) (by simp only [own_slice, ne_eq, Option.some.injEq]; omega)).trans ?_ | rw [heap_drew])); done)); obtain ⟨y1, y1'⟩ := so_cells z1; obtain ⟨x1, x1'⟩ := so_free z1)
           try (refine with_fact (T := w3.heap[W.heap.size + 1 + 1]? = some (so zeroS none 0)) ?_ (fun z2 => ?_); (focus ((repeat (first | exact heap_alloc_at _ _ _ (by first | omega | (simp; done) | (simp; omega)) | refine (Below.heap_alloc _ _ _ (by first | omega | (simp; done) | (simp; omega))).trans ?_ | refine (hgrow3.block _ (by first | omega | (simp; done) | (simp; omega)) (by intro h; have q1 := hat _ h.symm; have q2 := (hlt1 _ h.symm).2; omega)).trans ?_ | refine (hgrow.block _ (by first | omega | (simp; done) | (simp; omega)) (by simp only [own_slice, ne_eq, Option.some.injEq]; omega)).trans ?_ | rw [heap_drew])); done)); obtain ⟨y2, y2'⟩ := so_cells z2; obtain ⟨x2, x2'⟩ := so_free z2)
           try (refine with_fact (T := w3.heap[w2.heap.size]? = some (so zeroS none 0)) ?_ (fun z3 => ?_); (focus ((repeat (first | exact heap_alloc_at _ _ _ (by first | omega | (simp; done) | (simp; omega)) | refine (Below.heap_alloc _ _ _ (by first | omega | (simp; done) | (simp; omega))).trans ?_ | refine (hgrow3.block _ (by first | omega | (simp; done) | (simp; omega)) (by intro h; have q1 := hat _ h.symm; have q2 := (hlt1 _ h.symm).2; omega)).trans ?_ | refine (hgrow.block _ (by first | omega | (simp; done) | (simp; omega)) (by simp only [own_slice, ne_eq, Option.some.injEq]; omega)).trans ?_ | rw [heap_drew])); done)); obtain ⟨y3, y3'⟩ := so_cells z3; obtain ⟨x3, x3'⟩ := so_free z3)
           try (refine with_fact (T := w3.heap[w2.heap.size + 1]? = some (so zeroS none 0)) ?_ (fun z4 => ?_); (focus ((repeat (first | exact heap_alloc_at _ _ _ (by first | omega | (simp; done) | (simp; omega)) | refine (Below.heap_alloc _ _ _ (by first | omega | (simp; done) | (simp; omega))).trans ?_ | refine (hgrow3.block _ (by first | omega | (simp; done) | (simp; omega)) (by intro h; have q1 := hat _ h.symm; have q2 := (hlt1 _ h.symm).2; omega)).trans ?_ | refine (hgrow.block _ (by first | omega | (simp; done) | (simp; omega)) (by simp only [own_slice, ne_eq, Option.some.injEq]; omega)).trans ?_ | rw [heap_drew])); done)); obtain ⟨y4, y4'⟩ := so_cells z4; obtain ⟨x4, x4'⟩ := so_free z4)))
    all_goals
      go_wp2_with fail
      go_meet
      rw [← hT0.out]
      first
        | exact ⟨_, a3, cap3, rfl, by show w.heap.size + 2 < w3.heap.size; have := hb3.size; omega, P3.on (bel_alloc hb3 _), heap_alloc_at _ _ _ rfl, (hown3.mono (by omega)).alloc _⟩
        | (refine ⟨_, a3, cap3, rfl, ?_, P3.on ?_, so_put (s := zeroS) (a := none) (cap := 0) ?_ _ _ _ _, Row.mono (base := W.heap.size) ?_ (by omega)⟩
           · first | omega | (simp; done) | (simp; omega)
           · repeat (first | exact hb3 | refine Below.setCell ?_ (by first | omega | (simp; done) | (simp; omega)) _ | refine Below.drew ?_ | refine bel_alloc ?_ _)
           · assumption
           · refine Row.set_ne (Row.set_ne ?_ _ ?_ _) _ ?_ _
             · repeat (first | exact hown3 | refine Row.drew ?_ | refine Row.alloc ?_ _)
             all_goals
               intro k hk
               have q' := (hlt3 k hk).2
               rcases hat3 k hk with q | q
               · have q1 := hat k q
                 have q2 := (hlt1 k q).2
                 first | omega | (simp; omega)
               · first | omega | (simp; omega))
  case rest =>
    obtain ⟨B, a', cap', rfl, hB, P4, hS, hown⟩ := hcut
    clear P3
    generalize wc = W4 at *
    have hl5 : Lies kT W4 a' cap' O := by
      obtain ⟨a3, cap3, h3, hl, -, -⟩ := hown.lies
      obtain ⟨rfl, -, rfl⟩ := Value.slice.inj h3
      exact hl
    have HO : Hid (outS s t = ⟨s.sent + 1, O⟩) := hid (by rw [hO.out]; rfl)
    rw [← HO.out] at hS
    have hl6 : Lies kT W4 a' cap' (outS s t).kept := by rw [HO.out]; exact hl5
    have hfo : Fit (outS s t).kept := by
      intro u hu
      have hu' : u ∈ s.kept ++ [nextT s t] := hu
      rcases List.mem_append.1 hu' with h | h
      · exact hfit u h
      · simp at h; subst h; simp only [nextT]; omega
    have hown6 : Row kT 42 W4 (w.heap.size + 3) (.slice a' (outS s t).kept.length cap') (outS s t).kept := by rw [HO.out]; exact hown
    clear hl5 hown HO hO hT0
    generalize outS s t = o at *
    obtain ⟨B0, B1⟩ := so_cells hS
    go_wp2_with fail
    refine (refWrong_any o a' cap' _ hl6 hfo).mono ?_
    rintro e w6 ⟨rfl, hb6⟩
    have P6 := P4.on hb6
    have hown7 := hown6.below hb6
    have hS6 := (hb6.block _ (lt_of_block hS)).trans hS
    clear P4 hb6 hown6 hl6 B0 B1 hS
    by_cases h0 : (wrongS o).1 = 0
    · have HP := hid (HP2.out h0)
      have hne2 : ((wrongS o).1 != 0) = false := by simpa using h0
      clear h0 HP1 HP2
      generalize (wrongS o).1 = x1 at *
      generalize (wrongS o).2 = x2 at *
      have P7 := P6.on (below_alloc w6 (.cells #[.int .i64 x1, .int .i64 x2] 44))
      have hown8 := hown7.alloc (.cells #[.int .i64 x1, .int .i64 x2] 44)
      have hS7 := (Below.heap_alloc w6 (.cells #[.int .i64 x1, .int .i64 x2] 44) _ (lt_of_block hS6)).trans hS6
      obtain ⟨B0, B1⟩ := so_cells hS7
      obtain ⟨R0, R1⟩ := so_cells P7.res
      obtain ⟨E0, E1⟩ := so_free P7.res
      go_upto_region 9 with fail
      generalize w6.alloc (.cells #[.int .i64 x1, .int .i64 x2] 44) = W7 at *
      go_wp2
      refine bodyPost_ret (v := .tuple #[.agg #[.int .i64 o.sent, .slice a' o.kept.length cap'], .int .i64 0]) (by simp [results, Try.results19, go_sem, R0, R1]; try rfl) rfl ?_
      unfold AnswersS
      rw [HP.out]
      refine ⟨_, rfl, ?_, ?_⟩
      · refine Row.mono (base := w.heap.size + 3) ?_ (by omega)
        repeat refine Row.set ?_ _ (by simp) _
        exact hown8
      · repeat refine Below.setCell ?_ (by simp <;> omega) _
        exact P7.bel
    · have HP := hid (HP1.out h0)
      have hne2 : ((wrongS o).1 != 0) = true := by simpa using h0
      clear h0 HP1 HP2
      generalize (wrongS o).1 = x1 at *
      generalize (wrongS o).2 = x2 at *
      have P7 := P6.on (below_alloc w6 (.cells #[.int .i64 x1, .int .i64 x2] 44))
      have hF : (w6.alloc (.cells #[.int .i64 x1, .int .i64 x2] 44)).heap[w6.heap.size]? = some (.cells #[.int .i64 x1, .int .i64 x2] 44) := heap_alloc_at _ _ _ rfl
      have hl := P6.lt
      go_upto_region 8 with fail
      generalize w6.alloc (.cells #[.int .i64 x1, .int .i64 x2] 44) = W7 at *
      obtain ⟨R0, R1⟩ := so_cells P7.res
      obtain ⟨E0, E1⟩ := so_free P7.res
      obtain ⟨G0, G1, -, -⟩ := fault_cells hF
      clear P6 hown7
      generalize w6.heap.size = f at *
      have hn1 : w.heap.size + 2 ≠ f := by omega
      have hn2 : f ≠ w.heap.size + 2 := by omega
      go_region
      all_goals
        go_wp2
        refine bodyPost_ret (v := .tuple #[.agg #[.int .i64 0, .slice none 0 0], .int .i64 x1]) (by simp [results, Try.results19, go_sem, R0, R1]; try rfl) rfl ?_
        unfold AnswersS
        rw [HP.out]
        refine ⟨.slice none 0 0, rfl, .nil, ?_⟩
        refine Below.drew ?_
        repeat refine Below.setCell ?_ (by simp <;> omega) _
        exact P7.bel

theorem refPut_any (s : Se) (a : Option Addr) (cap : Nat) (t : Tr) (w : World) (hL : Lies kT w a cap s.kept) (hfit : Fit s.kept) :
    Calls Try.prog 19 #[sv s a cap, tv t] w (AnswersS w (putS s t)) := by
  by_cases h0 : (wrongS s).1 = 0
  · exact refPut_good s a cap t w hL hfit h0
  · exact refPut_bad s a cap t w hL hfit h0
end Go.Proofs.Ytffgglkobngddab.Po
