/- The walk of the law CardTells. -/
import Derived.Test.YtdifndnogpcbkaaCardk
import Derived.Test.YtdifndnogpcbkaaCardl
import Derived.Test.YtdifndnogpcbkaaCardn
import Derived.Deep.RegionHeld3
namespace Go.Proofs.Ytdifndnogpcbkaa
open Go.RowKit

set_option maxRecDepth 100000 in
set_option maxHeartbeats 8000000 in
theorem tells_any (c : Ca) (a : Option Addr) (cap : Nat) (s t dh dm : Int) (w : World) (hL : Lies w a cap c.u) :
    Calls Try.prog 14 #[cv c a cap, .int .i64 s, .int .i64 t, .int .i64 dh, .int .i64 dm] w fun e w' => e = .returned (.bool true) ∧ Below w.heap.size w w' := by
  have hI := one_new hL
  unfold cv
  go_enter Try.func14, Try.ntmps14
  go_upto_region 1 with fail
  unfold co at hI
  generalize w.alloc _ = w0 at *
  go_cut [34] from 15 to 34 (fun r wc => r = .bool false ∧ One w c a cap wc)
  case first =>
    by_cases h0 : wrongC c = 0
    · have R := wrongC_ok.1 h0
      have m1 := R.h1
      have m2 := R.h2
      have m3 := R.m1
      have m4 := R.m2
      have hwr : IntKind.i64.wrap (c.m - c.h) = c.m - c.h := wrap64 (by omega) (by omega)
      have hg : (wrongC c == 0) = true := by simpa using h0
      clear R
      have H0 := hid h0
      clear h0
      go_region_held3 (fun w' => w'.cell? ⟨w.heap.size, 0, none⟩ = some (.int .i64 c.m) ∧ w'.cell? ⟨w.heap.size, 1, none⟩ = some (.int .i64 c.h) ∧ w'.cell? ⟨w.heap.size, 2, none⟩ = some (.int .i64 c.p.t) ∧ w'.cell? ⟨w.heap.size, 3, none⟩ = some (.int .i64 c.p.c) ∧
          w'.cell? ⟨w.heap.size, 4, none⟩ = some (.int .i64 c.p.s) ∧ w'.cell? ⟨w.heap.size, 5, none⟩ = some (.slice a c.u.length cap)) (exact hI.held rfl rfl rfl rfl)
        (first
          | (go_at_call 46; refine (cwrong_any c a cap _ ?_).mono ?_; exact hI.lies rfl rfl rfl rfl; rintro e w1 ⟨rfl, hb⟩; have hI := One.call hb hI rfl rfl rfl rfl; clear hb)
          | (go_at_call 47; refine (refCWrong_any c a cap _ ?_).mono ?_; exact hI.lies rfl rfl rfl rfl; rintro e w1 ⟨rfl, hb⟩; have hI := One.call hb hI rfl rfl rfl rfl; clear hb)
          | (go_at_call 48; refine (free_any c a cap _ m3 m4 m1 m2).mono ?_; rintro e w1 ⟨rfl, hb⟩; have hI := One.call hb hI rfl rfl rfl rfl; clear hb))
      all_goals (go_wp2_with fail; go_meet; exact ⟨by simp, hI.same rfl rfl rfl rfl⟩)
    · have hg : (wrongC c == 0) = false := by simpa using h0
      have H0 := hid h0
      clear h0
      refine wp_region_held_drew (S := (fun w' => w'.cell? ⟨w.heap.size, 0, none⟩ = some (.int .i64 c.m) ∧ w'.cell? ⟨w.heap.size, 1, none⟩ = some (.int .i64 c.h) ∧ w'.cell? ⟨w.heap.size, 2, none⟩ = some (.int .i64 c.p.t) ∧ w'.cell? ⟨w.heap.size, 3, none⟩ = some (.int .i64 c.p.c) ∧ w'.cell? ⟨w.heap.size, 4, none⟩ = some (.int .i64 c.p.s) ∧ w'.cell? ⟨w.heap.size, 5, none⟩ = some (.slice a c.u.length cap))) (by kernel_rfl) (hI.held rfl rfl rfl rfl) (fun hS => ?_)
      refine wpAnyH_take (i := 0) (v := .agg #[.int .i64 c.m, .int .i64 c.h, .int .i64 c.p.t, .int .i64 c.p.c, .int .i64 c.p.s, .slice a c.u.length cap]) rfl (by kernel_rfl) (by kernel_rfl) (by kernel_rfl) (fun _ _ _ h => h) (Or.inl ⟨by kernel_rfl, ?_⟩) hS ?_
      · intro w' hS'; obtain ⟨C0, C1, C2, C3, C4, C5⟩ := hS'; go_simp
      refine wpAnyH_take (i := 2) (v := .agg #[.int .i64 c.m, .int .i64 c.h, .int .i64 c.p.t, .int .i64 c.p.c, .int .i64 c.p.s, .slice a c.u.length cap]) rfl (by kernel_rfl) (by kernel_rfl) (by kernel_rfl) (fun _ _ _ h => h) (Or.inl ⟨by kernel_rfl, ?_⟩) hS ?_
      · intro w' hS'; obtain ⟨C0, C1, C2, C3, C4, C5⟩ := hS'; go_simp
      try simp only [List.getElem_toArray, List.getElem_cons_zero, List.getElem_cons_succ, Act.put, List.setIfInBounds_toArray, List.set_cons_zero, List.set_cons_succ]
      refine wpAnyH_ready (rs := [1]) (by kernel_rfl) (by simp) ?_
      refine AllReadyH.cons rfl (fun K hK => ?_) AllReadyH.nil
      go_simp
      refine (cwrong_any c a cap _ ?_).mono ?_
      · exact hI.lies rfl rfl rfl rfl
      rintro e w1 ⟨rfl, hb⟩
      have hI := One.call hb hI rfl rfl rfl rfl
      clear hb
      go_simp
      refine hK.out _ _ (hI.held rfl rfl rfl rfl) (fun hS => ?_)
      clear hK K
      try simp only [List.getElem_toArray, List.getElem_cons_zero, List.getElem_cons_succ, Act.put, List.setIfInBounds_toArray, List.set_cons_zero, List.set_cons_succ]
      refine wpAnyH_ready (rs := [3]) (by kernel_rfl) (by simp) ?_
      refine AllReadyH.cons rfl (fun K hK => ?_) AllReadyH.nil
      go_simp
      refine (refCWrong_any c a cap _ ?_).mono ?_
      · exact hI.lies rfl rfl rfl rfl
      rintro e w1 ⟨rfl, hb⟩
      have hI := One.call hb hI rfl rfl rfl rfl
      clear hb
      go_simp
      refine hK.out _ _ (hI.held rfl rfl rfl rfl) (fun hS => ?_)
      clear hK K
      refine wpAnyH_take (i := 4) (v := .bool false) rfl (by kernel_rfl) (by kernel_rfl) (by kernel_rfl) (fun _ _ _ h => h) (Or.inl ⟨by kernel_rfl, ?_⟩) hS ?_
      · intro w' _; go_simp
      refine wpAnyH_take (i := 5) (v := .bool false) rfl (by kernel_rfl) (by kernel_rfl) (by kernel_rfl) (fun _ _ _ h => h) (Or.inl ⟨by kernel_rfl, ?_⟩) hS ?_
      · intro w' _; go_simp
      refine wpAnyH_take (i := 6) (v := .agg #[.int .i64 c.m, .int .i64 c.h, .int .i64 c.p.t, .int .i64 c.p.c, .int .i64 c.p.s, .slice a c.u.length cap]) rfl (by kernel_rfl) (by kernel_rfl) (by kernel_rfl) (fun _ _ _ h => h) (Or.inl ⟨by kernel_rfl, ?_⟩) hS ?_
      · intro w' hS'; obtain ⟨C0, C1, C2, C3, C4, C5⟩ := hS'; go_simp
      try simp only [List.getElem_toArray, List.getElem_cons_zero, List.getElem_cons_succ, Act.put, List.setIfInBounds_toArray, List.set_cons_zero, List.set_cons_succ]
      refine wpAnyH_ready (rs := [7]) (by kernel_rfl) (by simp) ?_
      refine AllReadyH.cons rfl (fun K hK => ?_) AllReadyH.nil
      go_simp
      refine (refCWrong_any c a cap _ ?_).mono ?_
      · exact hI.lies rfl rfl rfl rfl
      rintro e w1 ⟨rfl, hb⟩
      have hI := One.call hb hI rfl rfl rfl rfl
      clear hb
      go_simp
      refine hK.out _ _ (hI.held rfl rfl rfl rfl) (fun hS => ?_)
      clear hK K
      refine wpAnyH_take (i := 8) (v := .bool false) rfl (by kernel_rfl) (by kernel_rfl) (by kernel_rfl) (fun _ _ _ h => h) (Or.inl ⟨by kernel_rfl, ?_⟩) hS ?_
      · intro w' _; go_simp
      refine wpAnyH_take (i := 9) (v := .bool false) rfl (by kernel_rfl) (by kernel_rfl) (by kernel_rfl) (fun _ _ _ h => h) (Or.inl ⟨by kernel_rfl, ?_⟩) hS ?_
      · intro w' _; go_simp
      refine wpAnyH_take (i := 10) (v := undef) rfl (by kernel_rfl) (by kernel_rfl) (by kernel_rfl) (fun _ _ _ h => h) (Or.inr ⟨by kernel_rfl, rfl⟩) hS ?_
      refine wpAnyH_take (i := 11) (v := undef) rfl (by kernel_rfl) (by kernel_rfl) (by kernel_rfl) (fun _ _ _ h => h) (Or.inr ⟨by kernel_rfl, rfl⟩) hS ?_
      refine wpAnyH_take (i := 12) (v := undef) rfl (by kernel_rfl) (by kernel_rfl) (by kernel_rfl) (fun _ _ _ h => h) (Or.inr ⟨by kernel_rfl, rfl⟩) hS ?_
      refine wpAnyH_take (i := 13) (v := undef) rfl (by kernel_rfl) (by kernel_rfl) (by kernel_rfl) (fun _ _ _ h => h) (Or.inr ⟨by kernel_rfl, rfl⟩) hS ?_
      refine wpAnyH_take (i := 14) (v := undef) rfl (by kernel_rfl) (by kernel_rfl) (by kernel_rfl) (fun _ _ _ h => h) (Or.inr ⟨by kernel_rfl, rfl⟩) hS ?_
      refine wpAnyH_take (i := 15) (v := undef) rfl (by kernel_rfl) (by kernel_rfl) (by kernel_rfl) (fun _ _ _ h => h) (Or.inr ⟨by kernel_rfl, rfl⟩) hS ?_
      refine wpAnyH_take (i := 16) (v := undef) rfl (by kernel_rfl) (by kernel_rfl) (by kernel_rfl) (fun _ _ _ h => h) (Or.inr ⟨by kernel_rfl, rfl⟩) hS ?_
      refine wpAnyH_take (i := 17) (v := undef) rfl (by kernel_rfl) (by kernel_rfl) (by kernel_rfl) (fun _ _ _ h => h) (Or.inr ⟨by kernel_rfl, rfl⟩) hS ?_
      refine wpAnyH_take (i := 18) (v := .bool false) rfl (by kernel_rfl) (by kernel_rfl) (by kernel_rfl) (fun _ _ _ h => h) (Or.inl ⟨by kernel_rfl, ?_⟩) hS ?_
      · intro w' _; go_simp
      refine wpAnyH_take (i := 19) (v := .bool false) rfl (by kernel_rfl) (by kernel_rfl) (by kernel_rfl) (fun _ _ _ h => h) (Or.inl ⟨by kernel_rfl, ?_⟩) hS ?_
      · intro w' _; go_simp
      try simp only [List.getElem_toArray, List.getElem_cons_zero, List.getElem_cons_succ, Act.put, List.setIfInBounds_toArray, List.set_cons_zero, List.set_cons_succ]
      refine wpAnyH_done (by kernel_rfl) ?_ _
      go_wp2_with fail
      go_meet
      exact ⟨rfl, hI.same rfl rfl rfl rfl⟩
  case rest =>
    obtain ⟨rfl, I1⟩ := hcut
    clear hI
    generalize wc = w1 at *
    obtain ⟨C0, C1, C2, C3, C4, C5⟩ := I1.box.cells
    go_wp2_with fail
    refine (allow_any c a cap s t _ I1.box.lies).mono ?_
    rintro e w2 ⟨a1, cap1, rfl, hl1, hb1⟩
    have I2 := I1.on hb1
    clear C0 C1 C2 C3 C4 C5 I1 hb1
    have X2 := card_new w2 (allowC c s t).1 a1 cap1 hl1
    have I3 := I2.alloc (co (allowC c s t).1 a1 cap1)
    have hB : w.heap.size < w2.heap.size := I2.box.lt
    clear I2 hl1
    unfold cv
    obtain ⟨C0, C1, C2, C3, C4, C5⟩ := I3.box.cells
    unfold co at C0 C1 C2 C3 C4 C5
    go_wp2_with fail
    refine (refAllow_any c a cap s t _ I3.box.lies).mono ?_
    rintro e w3 ⟨a2, cap2, rfl, hl2, hb2⟩
    have X3 := X2.on hb2
    have T : Tri w c a cap w2.heap.size w3.heap.size (allowC c s t).1 a1 cap1 (allowC c s t).1 a2 cap2 (w3.alloc (co (allowC c s t).1 a2 cap2)) :=
      ⟨(I3.on hb2).alloc _, (X3.alloc _).block, (card_new w3 _ a2 cap2 hl2).block, hB, X3.lt⟩
    have hl1 := (X3.alloc (co (allowC c s t).1 a2 cap2)).lies
    have hl2 := hl2.below (below_alloc w3 (co (allowC c s t).1 a2 cap2))
    clear C0 C1 C2 C3 C4 C5 X2 X3 I3 hb2 hB
    unfold cv
    generalize allowC c s t = R at *
    obtain ⟨x, r⟩ := R
    dsimp only at *
    obtain ⟨C0, C1, C2, C3, C4, C5⟩ := co_cells T.xb
    obtain ⟨D0, D1, D2, D3, D4, D5⟩ := co_cells T.yb
    go_upto_region 5 with fail
    unfold co at T hl1 hl2 C0 C1 C2 C3 C4 C5 D0 D1 D2 D3 D4 D5
    generalize w3.alloc _ = w4 at *
    generalize w2.heap.size = B at *
    generalize w3.heap.size = D at *
    go_wp2_with fail
    refine (sameC_any x a1 cap1 a2 cap2 _ hl1 hl2).mono ?_
    rintro e w5 ⟨rfl, hb5⟩
    have T := T.on hb5
    clear C0 C1 C2 C3 C4 C5 D0 D1 D2 D3 D4 D5 hl1 hl2 hb5
    -- the second part
    obtain ⟨C0, C1, C2, C3, C4, C5⟩ := T.one.box.cells
    go_wp2_with fail
    refine (force_all c a cap s _ T.one.box.lies).mono ?_
    rintro e w61 ⟨p6, k6, rfl, hl6, ht6, hb6⟩
    have lx6 := T.ltx
    have ly6 := T.lty
    have lw6 := T.lt
    have T61 := T.on hb6
    clear C0 C1 C2 C3 C4 C5 T hb6
    unfold cv
    generalize hR6 : forceC c s = R6 at *
    have HR6 := hid hR6
    clear hR6
    obtain ⟨x6, r6⟩ := R6
    dsimp only at *
    obtain ⟨C0, C1, C2, C3, C4, C5⟩ := co_cells T61.xb
    obtain ⟨F0, F1, F2, F3, F4, F5⟩ := co_free T61.xb
    go_upto_region 8 with fail
    have T62 := T61.putx hL x6 p6 k6
    have hm6 := put6_tied hL hl6 ht6 T61.one.bel B lx6 (Nat.le_of_lt lw6) x6 p6 k6
    unfold put6 at T62 hm6
    generalize (((((w61.setCell ⟨B, 0, none⟩ (.int .i64 x6.m)).setCell ⟨B, 1, none⟩ (.int .i64 x6.h)).setCell ⟨B, 2, none⟩ (.int .i64 x6.p.t)).setCell ⟨B, 3, none⟩ (.int .i64 x6.p.c)).setCell ⟨B, 4, none⟩ (.int .i64 x6.p.s)).setCell ⟨B, 5, none⟩ (.slice p6 x6.u.length k6) = w62 at *
    clear C0 C1 C2 C3 C4 C5 F0 F1 F2 F3 F4 F5 T61 hl6
    obtain ⟨C0, C1, C2, C3, C4, C5⟩ := T62.one.box.cells
    go_wp2_with fail
    refine (refForce_all c a cap s _ T62.one.box.lies).mono ?_
    rw [HR6.out]
    rintro e w63 ⟨q6, l6, rfl, hl6, hu6, hb6⟩
    have ly62 := T62.lty
    have T63 := T62.on hb6
    have hm6 := hm6.below hb6
    have lv6 := Nat.lt_trans T62.lt T62.lt2
    clear C0 C1 C2 C3 C4 C5 T62 hb6
    unfold cv
    dsimp only at *
    obtain ⟨C0, C1, C2, C3, C4, C5⟩ := co_cells T63.yb
    obtain ⟨F0, F1, F2, F3, F4, F5⟩ := co_free T63.yb
    go_upto_region 9 with fail
    have T64 := T63.puty hL x6 q6 l6
    have hx6 := put6_tied hL hm6 ht6 T63.one.bel D ly6 (Nat.le_of_lt lv6) x6 q6 l6
    have hy6 := put6_tied hL hl6 hu6 T63.one.bel D ly62 (Nat.le_of_lt lv6) x6 q6 l6
    unfold put6 at T64 hx6 hy6
    generalize (((((w63.setCell ⟨D, 0, none⟩ (.int .i64 x6.m)).setCell ⟨D, 1, none⟩ (.int .i64 x6.h)).setCell ⟨D, 2, none⟩ (.int .i64 x6.p.t)).setCell ⟨D, 3, none⟩ (.int .i64 x6.p.c)).setCell ⟨D, 4, none⟩ (.int .i64 x6.p.s)).setCell ⟨D, 5, none⟩ (.slice q6 x6.u.length l6) = w64 at *
    clear C0 C1 C2 C3 C4 C5 F0 F1 F2 F3 F4 F5 T63 hl6 hm6 ht6 hu6 lx6 ly6 ly62 lw6 lv6 HR6
    obtain ⟨C0, C1, C2, C3, C4, C5⟩ := co_cells T64.xb
    obtain ⟨D0, D1, D2, D3, D4, D5⟩ := co_cells T64.yb
    go_wp2_with fail
    refine (sameC_any x6 p6 k6 q6 l6 _ hx6 hy6).mono ?_
    rintro e w65 ⟨rfl, hb6⟩
    have T65 := T64.on hb6
    clear C0 C1 C2 C3 C4 C5 D0 D1 D2 D3 D4 D5 hx6 hy6 hb6 T64
    -- the third part
    obtain ⟨C0, C1, C2, C3, C4, C5⟩ := T65.one.box.cells
    go_wp2_with fail
    refine (shift_all c a cap dh dm _ T65.one.box.lies).mono ?_
    rintro e w71 ⟨p7, k7, rfl, hl7, ht7, hb7⟩
    have lx7 := T65.ltx
    have ly7 := T65.lty
    have lw7 := T65.lt
    have T71 := T65.on hb7
    clear C0 C1 C2 C3 C4 C5 T65 hb7
    unfold cv
    generalize hR7 : shiftC c dh dm = R7 at *
    have HR7 := hid hR7
    clear hR7
    obtain ⟨x7, r7⟩ := R7
    dsimp only at *
    obtain ⟨C0, C1, C2, C3, C4, C5⟩ := co_cells T71.xb
    obtain ⟨F0, F1, F2, F3, F4, F5⟩ := co_free T71.xb
    go_upto_region 12 with fail
    have T72 := T71.putx hL x7 p7 k7
    have hm7 := put6_tied hL hl7 ht7 T71.one.bel B lx7 (Nat.le_of_lt lw7) x7 p7 k7
    unfold put6 at T72 hm7
    generalize (((((w71.setCell ⟨B, 0, none⟩ (.int .i64 x7.m)).setCell ⟨B, 1, none⟩ (.int .i64 x7.h)).setCell ⟨B, 2, none⟩ (.int .i64 x7.p.t)).setCell ⟨B, 3, none⟩ (.int .i64 x7.p.c)).setCell ⟨B, 4, none⟩ (.int .i64 x7.p.s)).setCell ⟨B, 5, none⟩ (.slice p7 x7.u.length k7) = w72 at *
    clear C0 C1 C2 C3 C4 C5 F0 F1 F2 F3 F4 F5 T71 hl7
    obtain ⟨C0, C1, C2, C3, C4, C5⟩ := T72.one.box.cells
    go_wp2_with fail
    refine (refShift_all c a cap dh dm _ T72.one.box.lies).mono ?_
    rw [HR7.out]
    rintro e w73 ⟨q7, l7, rfl, hl7, hu7, hb7⟩
    have ly72 := T72.lty
    have T73 := T72.on hb7
    have hm7 := hm7.below hb7
    have lv7 := Nat.lt_trans T72.lt T72.lt2
    clear C0 C1 C2 C3 C4 C5 T72 hb7
    unfold cv
    dsimp only at *
    obtain ⟨C0, C1, C2, C3, C4, C5⟩ := co_cells T73.yb
    obtain ⟨F0, F1, F2, F3, F4, F5⟩ := co_free T73.yb
    go_upto_region 13 with fail
    have T74 := T73.puty hL x7 q7 l7
    have hx7 := put6_tied hL hm7 ht7 T73.one.bel D ly7 (Nat.le_of_lt lv7) x7 q7 l7
    have hy7 := put6_tied hL hl7 hu7 T73.one.bel D ly72 (Nat.le_of_lt lv7) x7 q7 l7
    unfold put6 at T74 hx7 hy7
    generalize (((((w73.setCell ⟨D, 0, none⟩ (.int .i64 x7.m)).setCell ⟨D, 1, none⟩ (.int .i64 x7.h)).setCell ⟨D, 2, none⟩ (.int .i64 x7.p.t)).setCell ⟨D, 3, none⟩ (.int .i64 x7.p.c)).setCell ⟨D, 4, none⟩ (.int .i64 x7.p.s)).setCell ⟨D, 5, none⟩ (.slice q7 x7.u.length l7) = w74 at *
    clear C0 C1 C2 C3 C4 C5 F0 F1 F2 F3 F4 F5 T73 hl7 hm7 ht7 hu7 lx7 ly7 ly72 lw7 lv7 HR7
    obtain ⟨C0, C1, C2, C3, C4, C5⟩ := co_cells T74.xb
    obtain ⟨D0, D1, D2, D3, D4, D5⟩ := co_cells T74.yb
    go_wp2_with fail
    refine (sameC_any x7 p7 k7 q7 l7 _ hx7 hy7).mono ?_
    rintro e w75 ⟨rfl, hb7⟩
    have T75 := T74.on hb7
    clear C0 C1 C2 C3 C4 C5 D0 D1 D2 D3 D4 D5 hx7 hy7 hb7 T74
    go_wp2
    go_ret
    exact ⟨rfl, T75.one.bel⟩
end Go.Proofs.Ytdifndnogpcbkaa
