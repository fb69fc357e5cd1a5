/- The walk of the document's Give, where something is given. -/
import Derived.Test.YtmhcdiimamadfabStd
import Derived.Test.YtmhcdiimamadfabStg
namespace Go.Proofs.Ytmhcdiimamadfab.St
open Go.RowKit Go.Proofs.Ytmhcdiimamadfab.Gn

theorem row_empty {α : Type} (K : Kind α) (e : TypeId) {w : World} {base g : Nat} (h1 : base ≤ g) (h2 : g < w.heap.size) : Row K e w base (.slice (some ⟨g, 0, none⟩) 0 0) [] :=
  .full g [] h1 ⟨by simp [maxLen], (fun h => by cases h), Or.inl rfl⟩ h2
/-- What the loads of the document's Give read. -/
theorem Gi.held {w W : World} {n : Int} {v1 v2 : Value} {t : Ad} (h : Gi w n v1 v2 t W) :
    W.cell? ⟨w.heap.size + 1, 0, none⟩ = some (.int .i64 t.c) ∧ W.cell? ⟨w.heap.size + 1, 1, none⟩ = some (.int .i64 t.s) ∧ W.cell? ⟨w.heap.size + 1, 2, none⟩ = some (.int .i64 t.m) ∧ W.cell? ⟨w.heap.size + 1, 3, none⟩ = some (.int .i64 t.t) := aob_cells h.tb
theorem own_slice (g n c : Nat) : (Value.slice (some ⟨g, 0, none⟩) n c).ownBlock = some g := rfl


set_option maxRecDepth 10000 in
set_option maxHeartbeats 8000000 in
theorem refGive_good (s : Sd) (v1 v2 : Value) (t : Ad) (w : World) (h1 : At kI w v1 s.used) (h2 : At kA w v2 s.adv) (hw : wrongD s = 0) (h20 : s.adv.length ≠ 20) (hf : Fits t s.used.length) :
    Calls Try.prog 34 #[dv s.cap v1 v2, av t] w (AnswersD w (giveD s t)) := by
  have G0 := gi_new w s.cap v1 v2 t
  have hh1 := h1
  have hh2 := h2
  obtain ⟨a1, c1, rfl, hl1⟩ := h1
  obtain ⟨a2, c2, rfl, hl2⟩ := h2
  have R := right_of hw
  have u8 := R.u8
  have a20 := R.a20
  have HW := hid hw
  have hff := hid hf
  have h20' : (s.adv.length : Int) < 20 := by omega
  obtain ⟨f1, f2, f3, f4, f5, f6, f7, f8⟩ := hf
  have f4' : t.s ≤ 7 := by omega
  have HL := hid (limB_true (n := t.m) ⟨by omega, f6⟩)
  have HGF := hid (fun h => give_funds HW.out h20 hff.out h)
  have HGO := hid (fun h => give_ok HW.out h20 hff.out h)
  obtain ⟨tc, ts, tm, tt⟩ := t
  dsimp only at f1 f2 f3 f4 f4' f5 f6 f7 f8 HL
  obtain ⟨j, rfl⟩ : ∃ j : Nat, tc = (j : Int) := ⟨_, (Int.toNat_of_nonneg f1).symm⟩
  have hj : j < s.used.length := by omega
  have hx := (R.fit j hj).1
  have hx1 := (R.fit j hj).2
  have hx0 := (R.adv.small a20 (j : Int) s.adv.length).1
  rw [List.take_length] at hx0
  have hc2 := R.lim.2
  rw [← hx] at hx1 hx0
  clear hx hff
  unfold moreD at HGO
  dsimp only [Int.toNat_natCast] at HGF HGO
  unfold dob aob at G0
  unfold dv av
  go_enter Try.func34, Try.ntmps34
  go_upto_region 1 with fail
  dsimp only at G0 ⊢
  generalize ((w.alloc (.cells #[.int .i64 s.cap, .slice a1 s.used.length c1, .slice a2 s.adv.length c2] 61)).alloc (.cells #[.int .i64 j, .int .i64 ts, .int .i64 tm, .int .i64 tt] 63)).alloc (.cells #[.int .i64 0, .slice none 0 0, .slice none 0 0] 61) = W0 at *
  obtain ⟨C0, C1, C2⟩ := dob_cells G0.box
  go_wp2_with fail
  refine (refWrong_any s _ _ _ (hh1.below G0.bel) (hh2.below G0.bel)).mono ?_
  rw [hw]
  rintro e w1 ⟨rfl, hb1⟩
  have G1 := G0.on hb1
  clear C0 C1 C2 G0 hb1 hw
  obtain ⟨b, off, rfl, hbl, e1⟩ := int_cell (hl1.below G1.bel) hj
  obtain ⟨C0, C1, C2⟩ := dob_cells G1.box
  obtain ⟨T0, T1, T2, T3⟩ := aob_cells G1.tb
  dsimp only at T0 T1 T2 T3
  go_wp2_with (go_at_call 50; refine (sum_any _ _).mono ?_; rw [HL.out]; rintro e w1 ⟨rfl, rfl⟩; go_upto_region 8 with fail)
  clear C0 C1 C2 T0 T1 T2 T3
  have hjf : decide (s.used.length ≤ j) = false := decide_eq_false (by omega)
  simp only [hjf, Bool.or_false]
  clear hjf
  go_cut [72] from 61 to 73 (fun v wc => v = .bool (decide (s.cap < s.used.getD j 0 + tm)) ∧ Gi w s.cap (.slice (some ⟨b, off, none⟩) s.used.length c1) (.slice a2 s.adv.length c2) ⟨j, ts, tm, tt⟩ wc)
  case first =>
    obtain ⟨C0, C1, C2⟩ := dob_cells G1.box
    obtain ⟨T0, T1, T2, T3⟩ := aob_cells G1.tb
    generalize s.used.getD j 0 = x at *
    go_quiet (fail)
    go_wp2_with fail
    go_meet
    exact ⟨rfl, G1.on (below_drewN (Below.refl _ _) _)⟩
  case rest =>
    obtain ⟨rfl, G3⟩ := hcut
    generalize wc = W3 at *
    clear G1 e1
    by_cases hfu : s.cap < s.used.getD j 0 + tm
    · have HG := hid (HGF.out hfu)
      clear HGF HGO
      obtain ⟨R0, R1, R2⟩ := dob_cells G3.res
      obtain ⟨E0, E1, E2⟩ := dob_free G3.res
      go_wp2
      refine bodyPost_ret (v := .tuple #[.agg #[.int .i64 0, .slice none 0 0, .slice none 0 0], .int .i64 10]) (by simp [results, Try.results34, go_sem, R0, R1, R2]; try rfl) rfl (bad_ret HG.out ?_)
      repeat refine Below.setCell ?_ (by simp <;> omega) _
      exact G3.bel
    · have HG := hid (HGO.out (by omega))
      clear HGF HGO
      obtain ⟨O, hO⟩ : ∃ O, Hid (O = s.adv ++ [(⟨j, ts, tm, tt⟩ : Ad)]) := ⟨_, rfl⟩
      rw [← hO.out] at HG
      have hz3 := G3.lt
      have hGa := G3.on (below_alloc W3 (.cells #[] 3))
      have hza : (W3.alloc (.cells #[] 3)).heap.size = W3.heap.size + 1 := by simp
      have hla := hl1.below hGa.bel
      obtain ⟨C0, C1, C2⟩ := dob_cells hGa.box
      obtain ⟨C0', C1', C2'⟩ := dob_cells G3.box
      go_wp2_with (at_builtin; refine wpList_append elemI _ rfl _ _ rfl (w.heap.size + 3) _ [] rfl (row_empty kI _ hz3 (by simp)) (some ⟨b, off, none⟩) s.used.length c1 s.used rfl rfl hla ?c3 ?c4 ?c5 ?_)
      case c3 => simp [maxLen]; omega
      case c4 => first | omega | (simp; omega)
      case c5 => first | omega | (simp; omega)
      intro v4 w4 hrow4 hgrow4 hat4 hown4
      have hne : ¬ s.used = [] := by intro h0; rw [h0] at hj; simp at hj
      have hown4 := hown4 hne
      have hb4 : Below W3.heap.size (W3.alloc (.cells #[] 3)) w4 := (Below.refl _ _).grown hgrow4 (by simp) (fun k hk => by cases hk; exact Nat.le_refl _)
      have G4 := hGa.on3 (hb4.mono hz3)
      clear C0 C1 C2 C0' C1' C2' hGa hza hla G3 hgrow4 hat4
      obtain ⟨b1, d1, rfl, -, -⟩ := row_at hrow4
      obtain ⟨C0, C1, C2⟩ := dob_cells G4.box
      obtain ⟨F0, F1, F2⟩ := dob_free G4.box
      go_upto_region 11 with fail
      have G5 := G4.one (.slice b1 s.used.length d1)
      have hown5 : (w4.setCell ⟨w.heap.size, 1, none⟩ (.slice b1 s.used.length d1)).ownsRow (w.heap.size + 3) 3 kI.size (.slice b1 s.used.length d1) s.used.length (kI.flat s.used) := own_keep hown4 fun k hk => heap_setCell_other _ _ _ _ (by have := (hown4.lt k hk).1; simp <;> omega)
      clear C0 C1 C2 F0 F1 F2 G4 hown4 hrow4
      generalize w4.setCell ⟨w.heap.size, 1, none⟩ (.slice b1 s.used.length d1) = W5 at *
      go_cut [] from 79 to 93 (fun wc => Gi w s.cap (.slice b1 s.used.length d1) (.slice a2 s.adv.length c2) ⟨j, ts, tm, tt⟩ wc ∧ Row kI 3 wc (w.heap.size + 3) (.slice b1 s.used.length d1) (s.used.set j (s.used.getD j 0 + tm)))
      case first =>
        obtain ⟨g, cap', hv, hg, hgl, -, X0, X1, hst⟩ := own_put hown5 hj
        obtain ⟨rfl, -, -⟩ := Value.slice.inj hv
        obtain ⟨C0, C1, C2⟩ := dob_cells G5.box
        obtain ⟨T0, T1, T2, T3⟩ := aob_cells G5.tb
        have hst1 : Row kI 3 _ (w.heap.size + 3) _ _ := .own _ _ (hst (s.used.getD j 0 + tm))
        have hG8 := G5.on3 ((Below.refl (w.heap.size + 3) W5).setCell (show w.heap.size + 3 ≤ (⟨g, j, none⟩ : Addr).block from hg) (.int .i64 (s.used.getD j 0 + tm)))
        dsimp only at T0 T1 T2 T3
        clear hst G5 hv hown5
        generalize s.used.getD j 0 = x at *
        go_region
        all_goals
          go_wp2_with fail
          go_meet
          exact ⟨hG8.on (Below.refl _ _).drew, hst1.below (Below.refl _ _).drew⟩
      case rest =>
        obtain ⟨G8, hT8⟩ := hcut
        generalize wc = W8 at *
        clear G5 hown5
        generalize hU : s.used.set j (s.used.getD j 0 + tm) = U at *
        go_upto_region 12 with fail
        go_cut [] from 93 to 101 (fun wc => ∃ b6 d6, Gi w s.cap (.slice b1 s.used.length d1) (.slice b6 O.length d6) ⟨j, ts, tm, tt⟩ wc ∧ Row kI 3 wc (w.heap.size + 3) (.slice b1 s.used.length d1) U ∧ Row kA 63 wc (w.heap.size + 3) (.slice b6 O.length d6) O)
        case first =>
          have hLW := hl2.below G8.bel
          have hsz := G8.lt
          have hB8 := hid G8
          have hsz0 : w.heap.size < W8.heap.size := by omega
          obtain ⟨C0, C1, C2⟩ := dob_cells G8.box
          have CA : ∀ o, (W8.alloc o).cell? ⟨w.heap.size, 2, none⟩ = some (.slice a2 s.adv.length c2) := fun o => (World.cell?_alloc_past _ _ _ hsz0).trans C2
          have CB : ∀ o o', ((W8.alloc o).alloc o').cell? ⟨w.heap.size, 2, none⟩ = some (.slice a2 s.adv.length c2) := fun o o' => (World.cell?_alloc_past _ _ _ (by simp; omega)).trans (CA o)
          obtain ⟨T0, T1, T2, T3⟩ := G8.held
          dsimp only at T0 T1 T2 T3
          have hsz1 : w.heap.size + 1 < W8.heap.size := by omega
          have TA : ∀ o, (W8.alloc o).cell? ⟨w.heap.size + 1, 0, none⟩ = some (.int .i64 j) ∧ (W8.alloc o).cell? ⟨w.heap.size + 1, 1, none⟩ = some (.int .i64 ts) ∧ (W8.alloc o).cell? ⟨w.heap.size + 1, 2, none⟩ = some (.int .i64 tm) ∧ (W8.alloc o).cell? ⟨w.heap.size + 1, 3, none⟩ = some (.int .i64 tt) := fun o => (hB8.out.on (below_alloc _ o)).held
          have TA0 := fun o => (TA o).1
          have TA1 := fun o => (TA o).2.1
          have TA2 := fun o => (TA o).2.2.1
          have TA3 := fun o => (TA o).2.2.2
          clear TA
          go_region_law
            (first
              | (refine step_append elemA _ rfl (.tmp 93) (.tmp 95) rfl W8.heap.size (.slice (some ⟨_, 0, none⟩) 0 0) [] rfl (row_empty kA _ (by first | omega | (simp; done) | (simp; omega)) (by first | omega | (simp; done) | (simp; omega))) a2 s.adv.length c2 s.adv rfl rfl (by repeat (first | exact hLW | refine Lies.drew ?_ | refine Lies.alloc ?_ _)) (by simp [maxLen]; omega) (by simp; omega) (by first | omega | (simp; done) | (simp; omega)) ?_
                 intro v1 w2 hown hgrow hat _
                 have hb2 := below_grown (B := W8.heap.size) (w := W8) (by repeat (first | exact Below.refl _ _ | refine Below.drew ?_ | refine bel_alloc ?_ _)) hgrow (row_empty kA 63 (base := W8.heap.size) (by first | omega | (simp; done) | (simp; omega)) (by first | omega | (simp; done) | (simp; omega))) (Nat.le_refl _) (by first | omega | (simp; done) | (simp; omega))
                 rw [List.nil_append] at hown
                 have hz2 := hgrow.size
                 simp only [own_slice, Option.some.injEq] at hat
                 try simp at hz2
                 try simp at hat
                 have hlt1 := hown.block_lt
                 obtain ⟨T0', T1', T2', T3'⟩ := (hB8.out.on hb2).held
                 dsimp only at T0' T1' T2' T3')
              | (refine step_append elemA _ rfl (.tmp 96) (.tmp 98) rfl W8.heap.size v1 s.adv rfl (by repeat (first | exact hown | refine Row.drew ?_ | refine Row.alloc ?_ _)) _ 1 1 [⟨j, ts, tm, tt⟩] rfl rfl (lies_one (by repeat (first | exact heap_alloc_at _ _ _ (by first | omega | (simp; done) | (simp; omega)) | refine (Below.heap_alloc _ _ _ (by first | omega | (simp; done) | (simp; omega))).trans ?_ | refine (hgrow.block _ (by first | omega | (simp; done) | (simp; omega)) (by simp only [own_slice, ne_eq, Option.some.injEq]; omega)).trans ?_ | rw [heap_drew])) rfl _) (by simp [maxLen]; omega) (by simp; omega) (by have := hb2.size; simp <;> omega) ?_
                 intro v3 w3 hown3 hgrow3 hat3 _
                 have hb3 := below_grown (K := kA) (e := 63) (base := W8.heap.size) (L := s.adv) (B := W8.heap.size) (w := W8) (by repeat (first | exact hb2 | refine Below.drew ?_ | refine bel_alloc ?_ _)) hgrow3 (by repeat (first | exact hown | refine Row.drew ?_ | refine Row.alloc ?_ _)) (Nat.le_refl _) (by have := hb2.size; simp <;> omega)
                 rw [← hO.out] at hown3
                 obtain ⟨a3, cap3, rfl, -, -, -⟩ := hown3.lies
                 have G9 := hB8.out.on hb3
                 obtain ⟨x0, x1, x2⟩ := dob_cells G9.box
                 obtain ⟨z0, z1, z2⟩ := dob_free G9.box))
          all_goals
            go_wp2_with fail
            go_meet
            exact ⟨a3, cap3, G9.two _, Row.set (hT8.below hb3) ⟨w.heap.size, 2, none⟩ (by simp <;> omega) _, Row.set (hown3.mono hsz) ⟨w.heap.size, 2, none⟩ (by simp <;> omega) _⟩
        case rest =>
          obtain ⟨b6, d6, G9, hT9, hA9⟩ := hcut
          generalize wc = W9 at *
          clear G8 hT8
          obtain ⟨C0, C1, C2⟩ := dob_cells G9.box
          obtain ⟨R0, R1, R2⟩ := dob_cells G9.res
          obtain ⟨E0, E1, E2⟩ := dob_free G9.res
          go_wp2
          refine bodyPost_ret (v := .tuple #[.agg #[.int .i64 s.cap, .slice b1 s.used.length d1, .slice b6 O.length d6], .int .i64 0]) (by simp [results, Try.results34, go_sem, R0, R1, R2]; try rfl) rfl ?_
          rw [HG.out]
          refine ⟨_, _, rfl, ?_, ?_, ?_⟩
          · refine Row.mono (base := w.heap.size + 3) ?_ (by omega)
            repeat refine Row.set ?_ _ (by simp) _
            exact hT9
          · refine Row.mono (base := w.heap.size + 3) ?_ (by omega)
            repeat refine Row.set ?_ _ (by simp) _
            exact hA9
          · repeat refine Below.setCell ?_ (by simp <;> omega) _
            exact G9.bel
end Go.Proofs.Ytmhcdiimamadfab.St
