import Derived.Test.YtofcnebekmjdoaaGreatDoorLOncead
import Derived.Test.YtofcnebekmjdoaaGreatDoorLOnceae
set_option maxHeartbeats 4000000
set_option maxRecDepth 100000
namespace Go.Proofs.YtofcnebekmjdoaaGreatDoor.Bn
open Go.RowKit Go.Proofs.YtofcnebekmjdoaaGreatDoor.Gn Go.Maps
structure Tw2 (w wr : World) (base : Nat) (v1 v2 : Value) (L1 L2 : List Dd) : Prop where
 r1 : Row kDd 74 wr base v1 L1
 r2 : Row kDd 74 wr base v2 L2
 ap : ∀ j, v1.ownBlock = some j → v2.ownBlock ≠ some j
 bel : Below base w wr
 size : base ≤ wr.heap.size
theorem Tw2.on {w wr X : World} {base : Nat} {v1 v2 : Value} {L1 L2 : List Dd} (h : Tw2 w wr base v1 v2 L1 L2) (hb : Below wr.heap.size wr X) : Tw2 w X base v1 v2 L1 L2 :=
 ⟨h.r1.below hb, h.r2.below hb, h.ap, h.bel.trans (hb.mono h.size), Nat.le_trans h.size hb.size⟩
theorem Tw2.grow1 {w X w2 : World} {base : Nat} {v1 v2 v' : Value} {L1 L2 L' : List Dd} (h : Tw2 w X base v1 v2 L1 L2) (hr : Row kDd 74 w2 base v' L') (hg : X.grownBy w2 v1.ownBlock) (hat : ∀ j, v'.ownBlock = some j → v1.ownBlock = some j ∨ X.heap.size ≤ j) : Tw2 w w2 base v' v2 L' L2 :=
 ⟨hr, h.r2.grown hg (fun k hk e => h.ap k e hk), fun j hj e => by
  rcases hat j hj with q | q
  ·exact h.ap j q e
  ·have := (h.r2.block_lt _ e).2
   omega, below_grown h.bel hg h.r1 (Nat.le_refl _) h.size, Nat.le_trans h.size hg.size⟩
theorem Tw2.grow2 {w X w2 : World} {base : Nat} {v1 v2 v' : Value} {L1 L2 L' : List Dd} (h : Tw2 w X base v1 v2 L1 L2) (hr : Row kDd 74 w2 base v' L') (hg : X.grownBy w2 v2.ownBlock) (hat : ∀ j, v'.ownBlock = some j → v2.ownBlock = some j ∨ X.heap.size ≤ j) : Tw2 w w2 base v1 v' L1 L' :=
 ⟨h.r1.grown hg (fun k hk e => h.ap k hk e), hr, fun j hj e => by
  rcases hat j e with q | q
  ·exact h.ap j hj q
  ·have := (h.r1.block_lt _ hj).2
   omega, below_grown h.bel hg h.r2 (Nat.le_refl _) h.size, Nat.le_trans h.size hg.size⟩
theorem once_law (ps : List Pa) (shops cap : Int) {m all : List Dd} (S : Sd m all) (hm : m.length ≤ 60) :
  ((playR ps shops cap m).2.2.1 ≠ 0 → (playR ps shops cap all).2.2 = (playR ps shops cap m).2.2) ∧ ((playR ps shops cap m).2.2.1 = 0 → (playR ps shops cap m).2.2 = (0, 0)) ∧
  ((playR ps shops cap m).2.2.1 = 0 → (playR ps shops cap all).2.2.1 ≠ 0 → (playR ps shops cap all).2.2 = (5, 0)) ∧
  ((playR ps shops cap m).2.2.1 = 0 → (playR ps shops cap all).2.2.1 = 0 → (playR ps shops cap all).1 = (playR ps shops cap m).1 ∧ (playR ps shops cap m).2.1.length = m.length ∧ (playR ps shops cap all).2.1.length = all.length ∧
   ∀ i, i < all.length → ∃ j, j < m.length ∧ (all.getD i zD).id = (j : Int) + 1 ∧ (playR ps shops cap all).2.1.getD i (0, 0) = (playR ps shops cap m).2.1.getD j (0, 0)) := by
 by_cases h1 : (setErr ps shops cap).1 ≠ 0
 ·have e : ∀ l, playR ps shops cap l = (zB, [], setErr ps shops cap) := fun l => by unfold playR; rw [if_pos h1]
  rw [e, e]
  exact ⟨fun _ => rfl, fun h => absurd h h1, fun h => absurd h h1, fun h => absurd h h1⟩
 have em : playR ps shops cap m = ((playL (startB ps shops.toNat cap) m).1, (playL (startB ps shops.toNat cap) m).2.map (·.2), (0, 0)) := by unfold playR; rw [if_neg h1, if_neg (by omega)]
 rw [em]
 refine ⟨fun h => absurd rfl h, fun _ => rfl, fun _ h => ?_, fun _ h => ?_⟩
 ·unfold playR at h ⊢
  rw [if_neg h1] at h ⊢
  split
  ·rfl
  ·rename_i q
   rw [if_neg q] at h
   exact absurd rfl h
 ·obtain ⟨-, -, ea⟩ := playR_ok h
  rw [ea]
  refine ⟨((S.like _).bank).symm, by rw [List.length_map, log_len], by rw [List.length_map, log_len], fun i hi => ?_⟩
  obtain ⟨j, q1, q2, q3⟩ := S.tell (startB ps shops.toNat cap) hi
  exact ⟨j, q1, q2, q3⟩
theorem bankOnce_any (ps : List Pa) (a : Option Addr) (c : Nat) (shops cap : Int) (al : Option Addr) (cl : Nat) (l : List Dd) (ag : Option Addr) (cg : Nat) (again : List Int) (w : World) (hl : Gn.Lies kPa w a c ps) (hd : Gn.Lies kDd w al cl l) (_ : ∀ d ∈ l, FitD d) (hi : Gn.Lies kI w ag cg again) (_ : ∀ n ∈ again, -9223372036854775808 ≤ n ∧ n ≤ 9223372036854775807) (O : Oth w) :
  Calls Tryz.prog 7 #[suv (.slice a ps.length c) shops cap, .slice al l.length cl, .slice ag again.length cg] w fun e w' => e = .returned (.bool true) ∧ Below w.heap.size w w' := by
 have hmx := hd.len
 unfold maxLen at hmx
 have hmx2 := hi.len
 unfold maxLen at hmx2
 have e1 := below_alloc w (suo (.slice a ps.length c) shops cap)
 have hs0 : (w.alloc (suo (.slice a ps.length c) shops cap)).heap[w.heap.size]? = some (suo (.slice a ps.length c) shops cap) := heap_alloc_at _ _ _ rfl
 have hA := alive_any (w.alloc (suo (.slice a ps.length c) shops cap)) (O.keep (e1.block 0 O.lt))
 unfold suo at hs0 e1 hA
 have zw := lt_of_block hs0
 unfold suv
 go_enter Tryz.func7, Tryz.ntmps7
 go_upto_region 1 with fail
 generalize w.alloc (.cells #[.slice a ps.length c, .int .i64 shops, .int .i64 cap] 24) = W at *
 go_upto_region 2 with fail
 refine hA.mono ?_
 rintro _ w1 ⟨rfl, hb1⟩
 clear hA
 have hbw : Below w.heap.size w w1 := e1.trans (hb1.mono e1.size)
 have hs1 : w1.heap[w.heap.size]? = some (suo (.slice a ps.length c) shops cap) := (hb1.block _ zw).trans hs0
 clear e1 hb1 hs0 zw
 go_upto_region 3 with fail
 by_cases c1 : 60 < (l.length : Int)
 ·go_wp2_with fail
  exact bodyPost_ret (results_tmp Tryz.results7 _ _ _) rfl ⟨rfl, hbw⟩
 by_cases c2 : 20 < (again.length : Int)
 ·go_wp2_with fail
  exact bodyPost_ret (results_tmp Tryz.results7 _ _ _) rfl ⟨rfl, hbw⟩
 obtain ⟨base, hbase⟩ : ∃ n, n = w1.heap.size := ⟨_, rfl⟩
 have T0 : Tw2 w1 w1 base (.slice none 0 0) (.slice none 0 0) [] [] := ⟨Row.nil, Row.nil, (fun j h => by cases h), by rw [hbase]; exact Below.refl _ _, by omega⟩
 go_upto_region 7 with fail
 go_loopw [33, 7, 8] (fun i a1 a2 wr => ∃ (k : Nat) (m all : List Dd), k ≤ l.length ∧ i = .int .i64 k ∧ Tw2 w1 wr base a1 a2 m all ∧ Hid (Sd m all ∧ m.length = k ∧ all.length ≤ 21 * k)) (fun i _ _ _ => l.length - (intOf i).toNat)
 case atStart => exact ⟨0, [], [], Nat.zero_le _, rfl, T0, hid ⟨sd_nil, rfl, Nat.zero_le _⟩⟩
 case round =>
  clear T0
  obtain ⟨k, m, all, hk, rfl, T, hSd⟩ := hrel
  obtain ⟨S0, hml, hal⟩ := hSd.out
  by_cases hlt : k < l.length
  ·have hlt' : (k : Int) < l.length := by omega
   have hbr : Below w.heap.size w wr := hbw.trans (T.bel.mono (by rw [hbase]; exact hbw.size))
   obtain ⟨z, off, rfl, zlt, hcell⟩ := (hd.below hbr).elem (i := k) (x := l.getD k zD) (by simp [List.getD, hlt])
   have f0 := hcell 0 _ rfl
   have f1 := hcell 1 _ rfl
   have f2 := hcell 2 _ rfl
   have f3 := hcell 3 _ rfl
   have f4 := hcell 4 _ rfl
   have f5 := hcell 5 _ rfl
   simp only [Nat.add_zero] at f0
   dsimp only [kDd] at f0 f1 f2 f3 f4 f5
   have hN := S0.next (d := ⟨(k : Int) + 1, (l.getD k zD).kind, (l.getD k zD).n, (l.getD k zD).shop, (l.getD k zD).mv, (l.getD k zD).sum⟩) (by rw [hml])
   clear hcell
   generalize l.getD k zD = d at *
   obtain ⟨x1, x2, x3, x4, x5, x6⟩ := d
   dsimp only at f0 f1 f2 f3 f4 f5 hN
   have e5 := below_alloc wr (.cells #[.int .i64 ((k : Int) + 1), .int .i64 x2, .int .i64 x3, .int .i64 x4, .int .i64 x5, .int .i64 x6] 74)
   have hz5 : (wr.alloc (ddo (⟨(k : Int) + 1, x2, x3, x4, x5, x6⟩ : Dd))).heap[wr.heap.size]? = some (ddo (⟨(k : Int) + 1, x2, x3, x4, x5, x6⟩ : Dd)) := heap_alloc_at _ _ _ rfl
   have hv1 : ∀ j, u7.ownBlock = some j → j < wr.heap.size := fun j hj => (T.r1.block_lt _ hj).2
   have hv2 : ∀ j, u8.ownBlock = some j → j < wr.heap.size := fun j hj => (T.r2.block_lt _ hj).2
   have T5 := T.on e5
   replace hN := hid hN
   replace hml := hid hml
   unfold ddo at hz5
   go_upto_region 10 with fail
   generalize wr.alloc (.cells #[.int .i64 ((k : Int) + 1), .int .i64 x2, .int .i64 x3, .int .i64 x4, .int .i64 x5, .int .i64 x6] 74) = Y at *
   generalize wr.heap.size = zb at *
   have TD := T5.on ((Below.refl _ _).drew)
   have hzb : Y.drew.heap[zb]? = some (ddo (⟨(k : Int) + 1, x2, x3, x4, x5, x6⟩ : Dd)) := hz5
   have hml60 : m.length ≤ 60 := by rw [hml.out]; omega
   have hal9 : all.length ≤ 2000 := by omega
   clear f0 f1 f2 f3 f4 f5 T T5 e5 hz5 hbr zlt
   go_cut [7, 8] from 41 to 49 (fun a1 a2 wc => ∃ v1 v2, a1 = v1 ∧ a2 = v2 ∧ Tw2 w1 wc base v1 v2 (m ++ [(⟨(k : Int) + 1, x2, x3, x4, x5, x6⟩ : Dd)]) (all ++ [(⟨(k : Int) + 1, x2, x3, x4, x5, x6⟩ : Dd)]))
   case first =>
    refine wp_region_held_drew (S := (fun V => V.heap[zb]? = some (ddo (⟨(k : Int) + 1, x2, x3, x4, x5, x6⟩ : Dd)))) (by kernel_rfl) (hzb) (fun hS => ?_)
    generalize Y.drew = Yd at *
    refine wpAnyH_take (i := 0) (v := u7) rfl (by kernel_rfl) (by kernel_rfl) (by kernel_rfl) (fun _ _ _ h => h) (Or.inl ⟨by kernel_rfl, ?_⟩) hS ?_
    ·intro w' _; go_simp
    refine wpAnyH_take (i := 1) (v := .agg #[.int .i64 ((k : Int) + 1), .int .i64 x2, .int .i64 x3, .int .i64 x4, .int .i64 x5, .int .i64 x6]) rfl (by kernel_rfl) (by kernel_rfl) (by kernel_rfl) (fun _ _ _ h => h) (Or.inl ⟨by kernel_rfl, ?_⟩) hS ?_
    ·intro w' hS'; obtain ⟨e0, e1, e2, e3, e4, e5⟩ := ddo_cells (d := (⟨(k : Int) + 1, x2, x3, x4, x5, x6⟩ : Dd)) hS'; dsimp only at e0 e1 e2 e3 e4 e5; go_simp
    refine wpAnyH_take (i := 4) (v := u8) rfl (by kernel_rfl) (by kernel_rfl) (by kernel_rfl) (fun _ _ _ h => h) (Or.inl ⟨by kernel_rfl, ?_⟩) hS ?_
    ·intro w' _; go_simp
    refine wpAnyH_take (i := 5) (v := .agg #[.int .i64 ((k : Int) + 1), .int .i64 x2, .int .i64 x3, .int .i64 x4, .int .i64 x5, .int .i64 x6]) rfl (by kernel_rfl) (by kernel_rfl) (by kernel_rfl) (fun _ _ _ h => h) (Or.inl ⟨by kernel_rfl, ?_⟩) hS ?_
    ·intro w' hS'; obtain ⟨e0, e1, e2, e3, e4, e5⟩ := ddo_cells (d := (⟨(k : Int) + 1, x2, x3, x4, x5, x6⟩ : Dd)) hS'; dsimp only at e0 e1 e2 e3 e4 e5; go_simp
    try simp only [List.getElem_toArray, List.getElem_cons_zero, List.getElem_cons_succ, Act.put, List.setIfInBounds_toArray, List.set_cons_zero, List.set_cons_succ]
    try simp only [List.getElem_toArray, List.getElem_cons_zero, List.getElem_cons_succ, Act.put, List.setIfInBounds_toArray, List.set_cons_zero, List.set_cons_succ]
    refine wpAnyH_ready (rs := [2, 6]) (by kernel_rfl) (by simp) ?_
    refine AllReadyH.cons rfl (fun K hK => ?_) (AllReadyH.cons rfl (fun K hK => ?_) (AllReadyH.nil))
    ·go_simp
     have T1 := TD.on (below_alloc Yd (.cells #[.int .i64 ((k : Int) + 1), .int .i64 x2, .int .i64 x3, .int .i64 x4, .int .i64 x5, .int .i64 x6] 74))
     have S1 := ((below_alloc Yd (.cells #[.int .i64 ((k : Int) + 1), .int .i64 x2, .int .i64 x3, .int .i64 x4, .int .i64 x5, .int .i64 x6] 74)).block _ (lt_of_block hzb)).trans hzb
     have n1 : Gn.Lies kDd (Yd.alloc (.cells #[.int .i64 ((k : Int) + 1), .int .i64 x2, .int .i64 x3, .int .i64 x4, .int .i64 x5, .int .i64 x6] 74)) (some ⟨Yd.heap.size, 0, none⟩) 1 [(⟨(k : Int) + 1, x2, x3, x4, x5, x6⟩ : Dd)] := lies_blk (K := kDd) (L := [(⟨(k : Int) + 1, x2, x3, x4, x5, x6⟩ : Dd)]) (heap_alloc_at _ _ _ rfl) rfl (by simp [maxLen]) _
     refine hK.out _ _ S1 (fun hS => ?_)
     clear hK K
     have g1 : zb < Yd.heap.size := lt_of_block hzb
     generalize (Yd.alloc (.cells #[.int .i64 ((k : Int) + 1), .int .i64 x2, .int .i64 x3, .int .i64 x4, .int .i64 x5, .int .i64 x6] 74)) = V1 at *
     try simp only [List.getElem_toArray, List.getElem_cons_zero, List.getElem_cons_succ, Act.put, List.setIfInBounds_toArray, List.set_cons_zero, List.set_cons_succ]
     refine wpAnyH_ready (rs := [3, 6]) (by kernel_rfl) (by simp) ?_
     refine AllReadyH.cons rfl (fun K hK => ?_) (AllReadyH.cons rfl (fun K hK => ?_) (AllReadyH.nil))
     ·refine step_append elemDd _ rfl (.tmp 41) (.tmp 43) rfl base u7 m rfl T1.r1 _ 1 1 [(⟨(k : Int) + 1, x2, x3, x4, x5, x6⟩ : Dd)] rfl rfl n1 (by simp [maxLen]; omega) (by simp; omega) T1.size ?_
      intro v2 V2 hown hgrow hat hon
      have T2 := T1.grow1 hown hgrow hat
      have S2 := (hgrow.block _ (lt_of_block S1) (fun e => absurd (hv1 _ e.symm) (Nat.lt_irrefl _))).trans S1
      clear hown hgrow hat hon
      refine hK.out _ _ S2 (fun hS => ?_)
      clear hK K
      try simp only [List.getElem_toArray, List.getElem_cons_zero, List.getElem_cons_succ, Act.put, List.setIfInBounds_toArray, List.set_cons_zero, List.set_cons_succ]
      refine wpAnyH_ready (rs := [6]) (by kernel_rfl) (by simp) ?_
      refine AllReadyH.cons rfl (fun K hK => ?_) (AllReadyH.nil)
      go_simp
      have T3 := T2.on (below_alloc V2 (.cells #[.int .i64 ((k : Int) + 1), .int .i64 x2, .int .i64 x3, .int .i64 x4, .int .i64 x5, .int .i64 x6] 74))
      have S3 := ((below_alloc V2 (.cells #[.int .i64 ((k : Int) + 1), .int .i64 x2, .int .i64 x3, .int .i64 x4, .int .i64 x5, .int .i64 x6] 74)).block _ (lt_of_block S2)).trans S2
      have n3 : Gn.Lies kDd (V2.alloc (.cells #[.int .i64 ((k : Int) + 1), .int .i64 x2, .int .i64 x3, .int .i64 x4, .int .i64 x5, .int .i64 x6] 74)) (some ⟨V2.heap.size, 0, none⟩) 1 [(⟨(k : Int) + 1, x2, x3, x4, x5, x6⟩ : Dd)] := lies_blk (K := kDd) (L := [(⟨(k : Int) + 1, x2, x3, x4, x5, x6⟩ : Dd)]) (heap_alloc_at _ _ _ rfl) rfl (by simp [maxLen]) _
      refine hK.out _ _ S3 (fun hS => ?_)
      clear hK K
      have g3 : zb < V2.heap.size := lt_of_block S2
      generalize (V2.alloc (.cells #[.int .i64 ((k : Int) + 1), .int .i64 x2, .int .i64 x3, .int .i64 x4, .int .i64 x5, .int .i64 x6] 74)) = V3 at *
      try simp only [List.getElem_toArray, List.getElem_cons_zero, List.getElem_cons_succ, Act.put, List.setIfInBounds_toArray, List.set_cons_zero, List.set_cons_succ]
      refine wpAnyH_ready (rs := [7]) (by kernel_rfl) (by simp) ?_
      refine AllReadyH.cons rfl (fun K hK => ?_) (AllReadyH.nil)
      refine step_append elemDd _ rfl (.tmp 45) (.tmp 47) rfl base u8 all rfl T3.r2 _ 1 1 [(⟨(k : Int) + 1, x2, x3, x4, x5, x6⟩ : Dd)] rfl rfl n3 (by simp [maxLen]; omega) (by simp; omega) T3.size ?_
      intro v4 V4 hown hgrow hat hon
      have T4 := T3.grow2 hown hgrow hat
      have S4 := (hgrow.block _ (lt_of_block S3) (fun e => absurd (hv2 _ e.symm) (Nat.lt_irrefl _))).trans S3
      clear hown hgrow hat hon
      refine hK.out _ _ S4 (fun hS => ?_)
      clear hK K
      try simp only [List.getElem_toArray, List.getElem_cons_zero, List.getElem_cons_succ, Act.put, List.setIfInBounds_toArray, List.set_cons_zero, List.set_cons_succ]
      refine wpAnyH_ready (rs := [8]) (by kernel_rfl) (by simp) ?_
      refine AllReadyH.cons rfl (fun K hK => ?_) AllReadyH.nil
      go_simp
      refine hK.out _ _ S4 (fun hS => ?_)
      clear hK K
      try simp only [List.getElem_toArray, List.getElem_cons_zero, List.getElem_cons_succ, Act.put, List.setIfInBounds_toArray, List.set_cons_zero, List.set_cons_succ]
      refine wpAnyH_ready (rs := [9]) (by kernel_rfl) (by simp) ?_
      refine AllReadyH.cons rfl (fun K hK => ?_) AllReadyH.nil
      go_simp
      refine hK.out _ _ S4 (fun hS => ?_)
      clear hK K
      try simp only [List.getElem_toArray, List.getElem_cons_zero, List.getElem_cons_succ, Act.put, List.setIfInBounds_toArray, List.set_cons_zero, List.set_cons_succ]
      refine wpAnyH_done (by kernel_rfl) ?_ _
      go_wp2_with fail
      go_meet
      exact ⟨_, _, rfl, rfl, T4⟩
     ·go_simp
      have T5 := T1.on (below_alloc V1 (.cells #[.int .i64 ((k : Int) + 1), .int .i64 x2, .int .i64 x3, .int .i64 x4, .int .i64 x5, .int .i64 x6] 74))
      have S5 := ((below_alloc V1 (.cells #[.int .i64 ((k : Int) + 1), .int .i64 x2, .int .i64 x3, .int .i64 x4, .int .i64 x5, .int .i64 x6] 74)).block _ (lt_of_block S1)).trans S1
      have m5 := n1.below (below_alloc V1 (.cells #[.int .i64 ((k : Int) + 1), .int .i64 x2, .int .i64 x3, .int .i64 x4, .int .i64 x5, .int .i64 x6] 74))
      have n5 : Gn.Lies kDd (V1.alloc (.cells #[.int .i64 ((k : Int) + 1), .int .i64 x2, .int .i64 x3, .int .i64 x4, .int .i64 x5, .int .i64 x6] 74)) (some ⟨V1.heap.size, 0, none⟩) 1 [(⟨(k : Int) + 1, x2, x3, x4, x5, x6⟩ : Dd)] := lies_blk (K := kDd) (L := [(⟨(k : Int) + 1, x2, x3, x4, x5, x6⟩ : Dd)]) (heap_alloc_at _ _ _ rfl) rfl (by simp [maxLen]) _
      refine hK.out _ _ S5 (fun hS => ?_)
      clear hK K
      have g5 : zb < V1.heap.size := lt_of_block S1
      generalize (V1.alloc (.cells #[.int .i64 ((k : Int) + 1), .int .i64 x2, .int .i64 x3, .int .i64 x4, .int .i64 x5, .int .i64 x6] 74)) = V5 at *
      try simp only [List.getElem_toArray, List.getElem_cons_zero, List.getElem_cons_succ, Act.put, List.setIfInBounds_toArray, List.set_cons_zero, List.set_cons_succ]
      refine wpAnyH_ready (rs := [3]) (by kernel_rfl) (by simp) ?_
      refine AllReadyH.cons rfl (fun K hK => ?_) (AllReadyH.nil)
      refine step_append elemDd _ rfl (.tmp 41) (.tmp 43) rfl base u7 m rfl T5.r1 _ 1 1 [(⟨(k : Int) + 1, x2, x3, x4, x5, x6⟩ : Dd)] rfl rfl m5 (by simp [maxLen]; omega) (by simp; omega) T5.size ?_
      intro v6 V6 hown hgrow hat hon
      have T6 := T5.grow1 hown hgrow hat
      have S6 := (hgrow.block _ (lt_of_block S5) (fun e => absurd (hv1 _ e.symm) (Nat.lt_irrefl _))).trans S5
      have m6 := n5.grown hgrow (fun ad h e => by cases h; have q := hv1 _ e; have q2 := g5; dsimp only at q; omega)
      clear hown hgrow hat hon
      refine hK.out _ _ S6 (fun hS => ?_)
      clear hK K
      try simp only [List.getElem_toArray, List.getElem_cons_zero, List.getElem_cons_succ, Act.put, List.setIfInBounds_toArray, List.set_cons_zero, List.set_cons_succ]
      refine wpAnyH_ready (rs := [7]) (by kernel_rfl) (by simp) ?_
      refine AllReadyH.cons rfl (fun K hK => ?_) (AllReadyH.nil)
      refine step_append elemDd _ rfl (.tmp 45) (.tmp 47) rfl base u8 all rfl T6.r2 _ 1 1 [(⟨(k : Int) + 1, x2, x3, x4, x5, x6⟩ : Dd)] rfl rfl m6 (by simp [maxLen]; omega) (by simp; omega) T6.size ?_
      intro v7 V7 hown hgrow hat hon
      have T7 := T6.grow2 hown hgrow hat
      have S7 := (hgrow.block _ (lt_of_block S6) (fun e => absurd (hv2 _ e.symm) (Nat.lt_irrefl _))).trans S6
      clear hown hgrow hat hon
      refine hK.out _ _ S7 (fun hS => ?_)
      clear hK K
      try simp only [List.getElem_toArray, List.getElem_cons_zero, List.getElem_cons_succ, Act.put, List.setIfInBounds_toArray, List.set_cons_zero, List.set_cons_succ]
      refine wpAnyH_ready (rs := [8]) (by kernel_rfl) (by simp) ?_
      refine AllReadyH.cons rfl (fun K hK => ?_) AllReadyH.nil
      go_simp
      refine hK.out _ _ S7 (fun hS => ?_)
      clear hK K
      try simp only [List.getElem_toArray, List.getElem_cons_zero, List.getElem_cons_succ, Act.put, List.setIfInBounds_toArray, List.set_cons_zero, List.set_cons_succ]
      refine wpAnyH_ready (rs := [9]) (by kernel_rfl) (by simp) ?_
      refine AllReadyH.cons rfl (fun K hK => ?_) AllReadyH.nil
      go_simp
      refine hK.out _ _ S7 (fun hS => ?_)
      clear hK K
      try simp only [List.getElem_toArray, List.getElem_cons_zero, List.getElem_cons_succ, Act.put, List.setIfInBounds_toArray, List.set_cons_zero, List.set_cons_succ]
      refine wpAnyH_done (by kernel_rfl) ?_ _
      go_wp2_with fail
      go_meet
      exact ⟨_, _, rfl, rfl, T7⟩
    ·go_simp
     have T8 := TD.on (below_alloc Yd (.cells #[.int .i64 ((k : Int) + 1), .int .i64 x2, .int .i64 x3, .int .i64 x4, .int .i64 x5, .int .i64 x6] 74))
     have S8 := ((below_alloc Yd (.cells #[.int .i64 ((k : Int) + 1), .int .i64 x2, .int .i64 x3, .int .i64 x4, .int .i64 x5, .int .i64 x6] 74)).block _ (lt_of_block hzb)).trans hzb
     have n8 : Gn.Lies kDd (Yd.alloc (.cells #[.int .i64 ((k : Int) + 1), .int .i64 x2, .int .i64 x3, .int .i64 x4, .int .i64 x5, .int .i64 x6] 74)) (some ⟨Yd.heap.size, 0, none⟩) 1 [(⟨(k : Int) + 1, x2, x3, x4, x5, x6⟩ : Dd)] := lies_blk (K := kDd) (L := [(⟨(k : Int) + 1, x2, x3, x4, x5, x6⟩ : Dd)]) (heap_alloc_at _ _ _ rfl) rfl (by simp [maxLen]) _
     refine hK.out _ _ S8 (fun hS => ?_)
     clear hK K
     have g8 : zb < Yd.heap.size := lt_of_block hzb
     generalize (Yd.alloc (.cells #[.int .i64 ((k : Int) + 1), .int .i64 x2, .int .i64 x3, .int .i64 x4, .int .i64 x5, .int .i64 x6] 74)) = V8 at *
     try simp only [List.getElem_toArray, List.getElem_cons_zero, List.getElem_cons_succ, Act.put, List.setIfInBounds_toArray, List.set_cons_zero, List.set_cons_succ]
     refine wpAnyH_ready (rs := [2]) (by kernel_rfl) (by simp) ?_
     refine AllReadyH.cons rfl (fun K hK => ?_) (AllReadyH.nil)
     go_simp
     have T9 := T8.on (below_alloc V8 (.cells #[.int .i64 ((k : Int) + 1), .int .i64 x2, .int .i64 x3, .int .i64 x4, .int .i64 x5, .int .i64 x6] 74))
     have S9 := ((below_alloc V8 (.cells #[.int .i64 ((k : Int) + 1), .int .i64 x2, .int .i64 x3, .int .i64 x4, .int .i64 x5, .int .i64 x6] 74)).block _ (lt_of_block S8)).trans S8
     have m9 := n8.below (below_alloc V8 (.cells #[.int .i64 ((k : Int) + 1), .int .i64 x2, .int .i64 x3, .int .i64 x4, .int .i64 x5, .int .i64 x6] 74))
     have n9 : Gn.Lies kDd (V8.alloc (.cells #[.int .i64 ((k : Int) + 1), .int .i64 x2, .int .i64 x3, .int .i64 x4, .int .i64 x5, .int .i64 x6] 74)) (some ⟨V8.heap.size, 0, none⟩) 1 [(⟨(k : Int) + 1, x2, x3, x4, x5, x6⟩ : Dd)] := lies_blk (K := kDd) (L := [(⟨(k : Int) + 1, x2, x3, x4, x5, x6⟩ : Dd)]) (heap_alloc_at _ _ _ rfl) rfl (by simp [maxLen]) _
     refine hK.out _ _ S9 (fun hS => ?_)
     clear hK K
     have g9 : zb < V8.heap.size := lt_of_block S8
     generalize (V8.alloc (.cells #[.int .i64 ((k : Int) + 1), .int .i64 x2, .int .i64 x3, .int .i64 x4, .int .i64 x5, .int .i64 x6] 74)) = V9 at *
     try simp only [List.getElem_toArray, List.getElem_cons_zero, List.getElem_cons_succ, Act.put, List.setIfInBounds_toArray, List.set_cons_zero, List.set_cons_succ]
     refine wpAnyH_ready (rs := [3]) (by kernel_rfl) (by simp) ?_
     refine AllReadyH.cons rfl (fun K hK => ?_) (AllReadyH.nil)
     refine step_append elemDd _ rfl (.tmp 41) (.tmp 43) rfl base u7 m rfl T9.r1 _ 1 1 [(⟨(k : Int) + 1, x2, x3, x4, x5, x6⟩ : Dd)] rfl rfl n9 (by simp [maxLen]; omega) (by simp; omega) T9.size ?_
     intro v10 V10 hown hgrow hat hon
     have T10 := T9.grow1 hown hgrow hat
     have S10 := (hgrow.block _ (lt_of_block S9) (fun e => absurd (hv1 _ e.symm) (Nat.lt_irrefl _))).trans S9
     have m10 := m9.grown hgrow (fun ad h e => by cases h; have q := hv1 _ e; have q2 := g8; dsimp only at q; omega)
     clear hown hgrow hat hon
     refine hK.out _ _ S10 (fun hS => ?_)
     clear hK K
     try simp only [List.getElem_toArray, List.getElem_cons_zero, List.getElem_cons_succ, Act.put, List.setIfInBounds_toArray, List.set_cons_zero, List.set_cons_succ]
     refine wpAnyH_ready (rs := [7]) (by kernel_rfl) (by simp) ?_
     refine AllReadyH.cons rfl (fun K hK => ?_) (AllReadyH.nil)
     refine step_append elemDd _ rfl (.tmp 45) (.tmp 47) rfl base u8 all rfl T10.r2 _ 1 1 [(⟨(k : Int) + 1, x2, x3, x4, x5, x6⟩ : Dd)] rfl rfl m10 (by simp [maxLen]; omega) (by simp; omega) T10.size ?_
     intro v11 V11 hown hgrow hat hon
     have T11 := T10.grow2 hown hgrow hat
     have S11 := (hgrow.block _ (lt_of_block S10) (fun e => absurd (hv2 _ e.symm) (Nat.lt_irrefl _))).trans S10
     clear hown hgrow hat hon
     refine hK.out _ _ S11 (fun hS => ?_)
     clear hK K
     try simp only [List.getElem_toArray, List.getElem_cons_zero, List.getElem_cons_succ, Act.put, List.setIfInBounds_toArray, List.set_cons_zero, List.set_cons_succ]
     refine wpAnyH_ready (rs := [8]) (by kernel_rfl) (by simp) ?_
     refine AllReadyH.cons rfl (fun K hK => ?_) AllReadyH.nil
     go_simp
     refine hK.out _ _ S11 (fun hS => ?_)
     clear hK K
     try simp only [List.getElem_toArray, List.getElem_cons_zero, List.getElem_cons_succ, Act.put, List.setIfInBounds_toArray, List.set_cons_zero, List.set_cons_succ]
     refine wpAnyH_ready (rs := [9]) (by kernel_rfl) (by simp) ?_
     refine AllReadyH.cons rfl (fun K hK => ?_) AllReadyH.nil
     go_simp
     refine hK.out _ _ S11 (fun hS => ?_)
     clear hK K
     try simp only [List.getElem_toArray, List.getElem_cons_zero, List.getElem_cons_succ, Act.put, List.setIfInBounds_toArray, List.set_cons_zero, List.set_cons_succ]
     refine wpAnyH_done (by kernel_rfl) ?_ _
     go_wp2_with fail
     go_meet
     exact ⟨_, _, rfl, rfl, T11⟩
   case rest =>
    obtain ⟨v1, v2, rfl, rfl, T6⟩ := hcut
    clear TD hzb hv1 hv2 hal9
    have hml2 : Hid ((m ++ [(⟨(k : Int) + 1, x2, x3, x4, x5, x6⟩ : Dd)]).length = k + 1) := hid (by rw [List.length_append, hml.out]; rfl)
    have hal2 : (all ++ [(⟨(k : Int) + 1, x2, x3, x4, x5, x6⟩ : Dd)]).length ≤ 21 * k + 1 := by rw [List.length_append]; simp; omega
    generalize m ++ [(⟨(k : Int) + 1, x2, x3, x4, x5, x6⟩ : Dd)] = m' at *
    generalize all ++ [(⟨(k : Int) + 1, x2, x3, x4, x5, x6⟩ : Dd)] = all0 at *
    go_upto_region 12 with fail
    go_loopw [51, 8] (fun j a2 X => ∃ (q : Nat) (all' : List Dd), q ≤ again.length ∧ j = .int .i64 q ∧ Tw2 w1 X base u7 a2 m' all' ∧ Hid (Sd m' all' ∧ all'.length ≤ 21 * k + 1 + q)) (fun j _ _ => again.length - (intOf j).toNat)
    case atStart => exact ⟨0, all0, Nat.zero_le _, rfl, T6, hid ⟨hN.out, by omega⟩⟩
    case round =>
     clear T6 hal2 hN
     obtain ⟨q, all', hq, rfl, T7, hS7⟩ := hrel
     by_cases hql : q < again.length
     ·have hql' : (q : Int) < again.length := by omega
      have hbr : Below w.heap.size w wr := hbw.trans (T7.bel.mono (by rw [hbase]; exact hbw.size))
      obtain ⟨zi, oi, rfl, zilt, fi⟩ := int_cell (hi.below hbr) hql
      generalize again.getD q 0 = n at *
      by_cases n0 : n < 0
      ·go_wp2_with fail
       go_roundw
       case rel => exact ⟨q + 1, all', by omega, by go_num, T7, hid ⟨hS7.out.1, by have := hS7.out.2; omega⟩⟩
       case measure => simp [intOf]; omega
      by_cases n1 : (k : Int) < n
      ·go_wp2_with fail
       go_roundw
       case rel => exact ⟨q + 1, all', by omega, by go_num, T7, hid ⟨hS7.out.1, by have := hS7.out.2; omega⟩⟩
       case measure => simp [intOf]; omega
      by_cases n2 : n % 5 = (k : Int) % 5
      ·obtain ⟨nn, rfl⟩ : ∃ nn : Nat, n = nn := ⟨n.toNat, by omega⟩
       have hnk : nn < m'.length := by rw [hml2.out]; omega
       have hnk' : (nn : Int) < ((k + 1 : Nat) : Int) := by omega
       have hSa := hS7.out.1.again hnk
       have hla := hS7.out.2
       obtain ⟨a1, q1, e1, l1, -⟩ := T7.r1.lies
       rw [hml2.out] at e1
       subst e1
       obtain ⟨zm, om, rfl, -, hcell⟩ := l1.elem (i := nn) (x := m'.getD nn zD) (by simp [List.getD, hnk])
       have f0 := hcell 0 _ rfl
       have f1 := hcell 1 _ rfl
       have f2 := hcell 2 _ rfl
       have f3 := hcell 3 _ rfl
       have f4 := hcell 4 _ rfl
       have f5 := hcell 5 _ rfl
       simp only [Nat.add_zero] at f0
       dsimp only [kDd] at f0 f1 f2 f3 f4 f5
       generalize m'.getD nn zD = y at *
       obtain ⟨y1, y2, y3, y4, y5, y6⟩ := y
       dsimp only at f0 f1 f2 f3 f4 f5
       have e9 := below_alloc wr (.cells #[.int .i64 y1, .int .i64 y2, .int .i64 y3, .int .i64 y4, .int .i64 y5, .int .i64 y6] 74)
       have hone : Gn.Lies kDd (wr.alloc (.cells #[.int .i64 y1, .int .i64 y2, .int .i64 y3, .int .i64 y4, .int .i64 y5, .int .i64 y6] 74)) (some ⟨wr.heap.size, 0, none⟩) 1 [⟨y1, y2, y3, y4, y5, y6⟩] := lies_blk (K := kDd) (L := [⟨y1, y2, y3, y4, y5, y6⟩]) (heap_alloc_at _ _ _ rfl) rfl (by simp [maxLen]) _
       have T9 := T7.on e9
       have hrow := T9.r2
       have hsz := T9.size
       have hda : decide ((nn : Int) ≤ k) = true := decide_eq_true (by omega)
       clear l1 hcell T7 e9
       go_wp2_with (at_builtin; refine wpList_append elemDd _ rfl _ _ rfl base u8 all' rfl hrow _ 1 1 [⟨y1, y2, y3, y4, y5, y6⟩] rfl rfl hone (by simp [maxLen]; omega) (by simp; omega) hsz ?_; intro v2 w24 hown hgrow hat hon)
       have T10 := T9.grow2 hown hgrow hat
       go_roundw
       case rel => exact ⟨q + 1, _, by omega, by go_num, T10, hid ⟨hSa, by rw [List.length_append]; simp; omega⟩⟩
       case measure => simp [intOf]; omega
      ·go_wp2_with fail
       go_roundw
       case rel => exact ⟨q + 1, all', by omega, by go_num, T7, hid ⟨hS7.out.1, by have := hS7.out.2; omega⟩⟩
       case measure => simp [intOf]; omega
     ·obtain rfl : q = again.length := by omega
      have hge : ¬ ((again.length : Int) < again.length) := by omega
      go_wp2_with fail
      go_roundw
      case rel => exact ⟨k + 1, m', all', by omega, by go_num, T7, hid ⟨hS7.out.1, hml2.out, by have := hS7.out.2; omega⟩⟩
      case measure => simp [intOf]; omega
  ·obtain rfl : k = l.length := by omega
   have hge : ¬ ((l.length : Int) < l.length) := by omega
   have hbr : Below w.heap.size w wr := hbw.trans (T.bel.mono (by rw [hbase]; exact hbw.size))
   have LAW := once_law ps shops cap S0 (by rw [hml]; omega)
   have hal9 : all.length ≤ 2000 := by omega
   obtain ⟨a1, q1, e1, l1, -⟩ := T.r1.lies
   obtain ⟨a2, q2, e2, l2, -⟩ := T.r2.lies
   subst e1 e2
   have fm : ∀ d ∈ m, FitD d := fun d hd => by
    obtain ⟨j, hj, rfl⟩ := List.getElem_of_mem hd
    have := S0.ids j hj
    simp only [List.getD, List.getElem?_eq_getElem hj, Option.getD_some] at this
    unfold FitD
    omega
   have fa : ∀ d ∈ all, FitD d := fun d hd => by
    obtain ⟨i, hi', rfl⟩ := List.getElem_of_mem hd
    obtain ⟨j, hj, e⟩ := S0.mem i hi'
    simp only [List.getD, List.getElem?_eq_getElem hi', List.getElem?_eq_getElem hj, Option.getD_some] at e
    rw [e]
    exact fm _ (List.getElem_mem hj)
   have hP1 := play_any ps a c shops cap a1 q1 m wr (hl.below hbr) l1 fm (O.keep (hbr.block 0 O.lt))
   have hQ := fun (X : World) (h : Below wr.heap.size wr X) => play_any ps a c shops cap a2 q2 all X ((hl.below hbr).below h) (l2.below h) fa (O.keep ((h.block 0 (Nat.lt_of_lt_of_le O.lt hbr.size)).trans (hbr.block 0 O.lt)))
   have hsr : wr.heap[w.heap.size]? = some (suo (.slice a ps.length c) shops cap) := (T.bel.block _ (by rw [hbase]; exact lt_of_block hs1)).trans hs1
   unfold suv Plays at hP1 hQ
   simp only [bkv_cells] at hP1 hQ
   unfold Dy.fv at hP1 hQ
   generalize playR ps shops cap m = r1 at *
   generalize playR ps shops cap all = r2 at *
   obtain ⟨b, A, f⟩ := r1
   obtain ⟨b2, A2, f2⟩ := r2
   dsimp only at hP1 hQ LAW
   have hbw1 := hbr
   obtain ⟨s0, s1, s2⟩ := sul_cells hsr
   replace hml := hid hml
   have hmle : m.length ≤ 60 := by rw [hml.out]; omega
   clear T fm fa hs1 hl hd hi O hbw hSd
   go_upto_region 19 with (first
    | (go_at_call 18; refine hP1.mono ?_; rintro _ w2 ⟨v, cs, ds, va, rfl, SH, AP, hb3⟩; obtain ⟨G1, G2, G3, G4, G5⟩ := got_box w2 #[.int .i64 0, .bool false, .slice none 0 0, .slice none 0 0, .slice none 0 0, .int .i64 0, .slice none 0 0, .int .i64 0, .slice none 0 0, .int .i64 0, .int .i64 0, .slice none 0 0, .slice none 0 0, .int .i64 0, .slice none 0 0, .slice none 0 0, .slice none 0 0, .slice none 0 0, .slice none 0 0] rfl b v f; have BW : Bw w _ w2.heap.size b v cs ds := ⟨G3, SH.below G5, (hbw1.trans (hb3.mono hbw1.size)).trans (G5.mono ((hbw1.trans (hb3.mono hbw1.size)).size))⟩; have hg := G4; have hbZ := hb3.trans (G5.mono hb3.size); have APZ : ∃ aa ca, va = .slice aa A.length ca ∧ Gn.Lies kAn _ aa ca A := (by obtain ⟨aa, ca, h1, h2⟩ := AP.lies; exact ⟨aa, ca, h1, h2.below G5⟩); replace G3 := bko_cells G3; obtain ⟨t0, t1, t2, t3⟩ := fo_cells G2; obtain ⟨y0, y1, y2, y3⟩ := fo_cells G4; have hone := hid SH.one; have hinf : Hid ((Tryz.prog.info? 43).map (·.size) = some (cellsK b v).size) := hid infoK; have hb4 : Below w.heap.size w _ := (hbw1.trans (hb3.mono hbw1.size)).trans (G5.mono ((hbw1.trans (hb3.mono hbw1.size)).size)); dsimp only at t0 t1 y0 y1 G3 hb4; clear G4 G5 SH AP G2 hP1 s0 s1 s2 hbw1; generalize cellsK b v = cc at *)
    | (refine wpList_store_mid rfl 43 _ _ rfl w2.heap.size 0 cc rfl rfl G1 hinf.out hone.out ?_))
   generalize ((((w2.alloc (.cells #[.int .i64 0, .bool false, .slice none 0 0, .slice none 0 0, .slice none 0 0, .int .i64 0, .slice none 0 0, .int .i64 0, .slice none 0 0, .int .i64 0, .int .i64 0, .slice none 0 0, .slice none 0 0, .int .i64 0, .slice none 0 0, .slice none 0 0, .slice none 0 0, .slice none 0 0, .slice none 0 0] 43)).alloc (.cells #[.int .i64 0, .int .i64 0] 47)).setCells w2.heap.size 0 cc.toList).setCell ⟨w2.heap.size + 1, 0, none⟩ (.int .i64 f.1)).setCell ⟨w2.heap.size + 1, 1, none⟩ (.int .i64 f.2) = Z at *
   have hP2 := hQ Z hbZ
   have hsZ := (hbZ.block _ (lt_of_block hsr)).trans hsr
   obtain ⟨s0, s1, s2⟩ := sul_cells hsZ
   have hbw2 := BW.bel
   have l2Z := l2.below hbZ
   obtain ⟨aa, ca, rfl, lA⟩ := APZ
   clear G1 t0 t1 t2 t3 hb3 hone hinf y0 y1 y2 y3 G3 hb4 hQ hsr l1 l2 hbr
   go_upto_region 20 with (first
    | (go_at_call 18; refine hP2.mono ?_; rintro _ w3 ⟨v2, cs2, ds2, va2, rfl, SH, AP, hb3⟩; obtain ⟨E1, E2, E3, E4, E5⟩ := got_box w3 #[.int .i64 0, .bool false, .slice none 0 0, .slice none 0 0, .slice none 0 0, .int .i64 0, .slice none 0 0, .int .i64 0, .slice none 0 0, .int .i64 0, .int .i64 0, .slice none 0 0, .slice none 0 0, .int .i64 0, .slice none 0 0, .slice none 0 0, .slice none 0 0, .slice none 0 0, .slice none 0 0] rfl b2 v2 f2; have BW2 : Bw w _ w3.heap.size b2 v2 cs2 ds2 := ⟨E3, SH.below E5, (hbw2.trans (hb3.mono hbw2.size)).trans (E5.mono ((hbw2.trans (hb3.mono hbw2.size)).size))⟩; have hg2 := E4; have hbZ2 := hb3.trans (E5.mono hb3.size); have APZ2 : ∃ aa ca, va2 = .slice aa A2.length ca ∧ Gn.Lies kAn _ aa ca A2 := (by obtain ⟨aa, ca, h1, h2⟩ := AP.lies; exact ⟨aa, ca, h1, h2.below E5⟩); replace E3 := bko_cells E3; obtain ⟨t0, t1, t2, t3⟩ := fo_cells E2; obtain ⟨y0, y1, y2, y3⟩ := fo_cells E4; have hone := hid SH.one; have hinf : Hid ((Tryz.prog.info? 43).map (·.size) = some (cellsK b2 v2).size) := hid infoK; have hb5 : Below w.heap.size w _ := (hbw2.trans (hb3.mono hbw2.size)).trans (E5.mono ((hbw2.trans (hb3.mono hbw2.size)).size)); dsimp only at t0 t1 y0 y1 E3 hb5; clear E4 E5 SH AP E2 hP2 s0 s1 s2 hbw2; generalize cellsK b2 v2 = cc2 at *)
    | (refine wpList_store_mid rfl 43 _ _ rfl w3.heap.size 0 cc2 rfl rfl E1 hinf.out hone.out ?_))
   generalize ((((w3.alloc (.cells #[.int .i64 0, .bool false, .slice none 0 0, .slice none 0 0, .slice none 0 0, .int .i64 0, .slice none 0 0, .int .i64 0, .slice none 0 0, .int .i64 0, .int .i64 0, .slice none 0 0, .slice none 0 0, .int .i64 0, .slice none 0 0, .slice none 0 0, .slice none 0 0, .slice none 0 0, .slice none 0 0] 43)).alloc (.cells #[.int .i64 0, .int .i64 0] 47)).setCells w3.heap.size 0 cc2.toList).setCell ⟨w3.heap.size + 1, 0, none⟩ (.int .i64 f2.1)).setCell ⟨w3.heap.size + 1, 1, none⟩ (.int .i64 f2.2) = Z2 at *
   obtain ⟨ab, cb, rfl, lB⟩ := APZ2
   have hgV := (hbZ2.block _ (lt_of_block hg)).trans hg
   obtain ⟨p0, p1, -, -⟩ := fo_cells hgV
   obtain ⟨r0, r1, -, -⟩ := fo_cells hg2
   have BV := BW.below hbZ2
   have lAV := lA.below hbZ2
   have l2V := l2Z.below hbZ2
   clear E1 t0 t1 t2 t3 hb3 hone hinf y0 y1 y2 y3 E3 hb5 hsZ hg hgV hg2 lA l2Z BW
   obtain ⟨L1, L2, L3, L4⟩ := LAW
   by_cases hf : f.1 = 0
   case neg =>
    obtain rfl := L1 hf
    have hbf := BV.bel
    have hne : (f2.1 != 0) = true := by simpa using hf
    clear L1 L2 L3 L4 BV BW2 lAV l2V lB
    go_wp2_with fail
    exact bodyPost_ret (results_tmp Tryz.results7 _ _ _) rfl ⟨by simp, hbf⟩
   case pos =>
    obtain rfl := L2 hf
    by_cases hf2 : f2.1 = 0
    case neg =>
     obtain rfl := L3 hf hf2
     have hbf := BV.bel
     clear L1 L2 L3 L4 BV BW2 lAV l2V lB
     dsimp only at p0 p1 r0 r1
     go_wp2_with fail
     exact bodyPost_ret (results_tmp Tryz.results7 _ _ _) rfl ⟨by simp, hbf⟩
    case pos =>
     obtain ⟨hbb, hA1, hA2, hTell⟩ := L4 hf hf2
     subst hbb
     rw [hf2] at r0
     dsimp only at p0
     rw [hA1, hA2]
     replace hTell := hid hTell
     have hSm := fun (X : World) (h : Below Z2.heap.size Z2 X) => same_any b2 v v2 cs cs2 ds ds2 X (BV.below h).sh (BW2.below h).sh
     simp only [bkv_cells] at hSm
     replace hA1 := hid hA1
     replace hA2 := hid hA2
     clear L1 L2 L3 L4
     go_upto_region 23 with fail
     clear p0 p1 r0 r1
     go_loopw [110] (fun i X => ∃ k : Nat, k ≤ all.length ∧ i = .int .i64 k ∧ Below Z2.heap.size Z2 X) (fun i _ => all.length - (intOf i).toNat)
     case atStart => exact ⟨0, Nat.zero_le _, rfl, Below.refl _ _⟩
     case round =>
      obtain ⟨k, hk2, rfl, hbX⟩ := hrel
      by_cases hka : k < all.length
      ·have hka' : (k : Int) < all.length := by omega
       obtain ⟨j, hj, hid1, heq⟩ := hTell.out k hka
       have hj' : (j : Int) < m.length := by omega
       obtain ⟨z, off, rfl, zlt, hcell⟩ := (l2V.below hbX).elem (i := k) (x := all.getD k zD) (by simp [List.getD, hka])
       have f0 := hcell 0 _ rfl
       have f1 := hcell 1 _ rfl
       have f2' := hcell 2 _ rfl
       have f3 := hcell 3 _ rfl
       have f4 := hcell 4 _ rfl
       have f5 := hcell 5 _ rfl
       simp only [Nat.add_zero] at f0
       dsimp only [kDd] at f0 f1 f2' f3 f4 f5
       generalize all.getD k zD = d at *
       obtain ⟨x1, x2, x3, x4, x5, x6⟩ := d
       dsimp only at f0 f1 f2' f3 f4 f5 hid1
       subst hid1
       have e5 := below_alloc wr (.cells #[.int .i64 ((j : Int) + 1), .int .i64 x2, .int .i64 x3, .int .i64 x4, .int .i64 x5, .int .i64 x6] 74)
       have hz5 : (wr.alloc (ddo ⟨(j : Int) + 1, x2, x3, x4, x5, x6⟩)).heap[wr.heap.size]? = some (ddo ⟨(j : Int) + 1, x2, x3, x4, x5, x6⟩) := heap_alloc_at _ _ _ rfl
       have hbY := hbX.trans (e5.mono hbX.size)
       obtain ⟨zA', oA, e, -, hcA⟩ := (lAV.below hbY).elem (i := j) (x := A.getD j (0, 0)) (by simp [List.getD, show j < A.length by rw [hA1.out]; exact hj])
       subst e
       obtain ⟨zB', oB, e, -, hcB⟩ := (lB.below hbY).elem (i := k) (x := A2.getD k (0, 0)) (by simp [List.getD, show k < A2.length by rw [hA2.out]; exact hka])
       subst e
       rw [heq] at hcB
       have u0 := hcA 0 _ rfl
       have u1 := hcA 1 _ rfl
       have w0 := hcB 0 _ rfl
       have w1' := hcB 1 _ rfl
       simp only [Nat.add_zero] at u0 w0
       dsimp only [kAn] at u0 u1 w0 w1'
       generalize A.getD j (0, 0) = an at *
       have hsb : IntKind.i64.wrap ((j : Int) + 1 - 1) = (j : Int) := by rw [show (j : Int) + 1 - 1 = (j : Int) by omega]; exact wrap64' (by omega) (by omega)
       clear hcell hcA hcB heq
       unfold ddo at hz5
       go_upto_region 25 with fail
       generalize wr.alloc (.cells #[.int .i64 ((j : Int) + 1), .int .i64 x2, .int .i64 x3, .int .i64 x4, .int .i64 x5, .int .i64 x6] 74) = Y at *
       obtain ⟨d0, -⟩ := ddo_cells (d := ⟨(j : Int) + 1, x2, x3, x4, x5, x6⟩) hz5
       dsimp only at d0
       go_quiet (fail)
       go_wp2_with fail
       go_roundw
       case rel => exact ⟨k + 1, by omega, by go_num, below_drewN hbY _⟩
       case measure => simp [intOf]; omega
      ·obtain rfl : k = all.length := by omega
       have hge2 : ¬ ((all.length : Int) < all.length) := by omega
       have BX := BV.below hbX
       have BX2 := BW2.below hbX
       have hbf := BX.bel
       obtain ⟨dK, uK, rK⟩ := underK
       have r1 := bko_load BX.box
       have r2 := bko_load BX2.box
       have hSm1 := hSm _ hbX
       have hinl1 : Hid ((Tryz.prog.info? 43).map (·.size) = some (cellsK b2 v).toList.length) := hid infoK
       have hmk1 : Hid ((cellsK b2 v).toList.toArray = cellsK b2 v) := hid (by simp)
       have hinl2 : Hid ((Tryz.prog.info? 43).map (·.size) = some (cellsK b2 v2).toList.length) := hid infoK
       have hmk2 : Hid ((cellsK b2 v2).toList.toArray = cellsK b2 v2) := hid (by simp)
       clear hSm
       generalize cellsK b2 v = d1 at *
       generalize cellsK b2 v2 = d2 at *
       clear BX BX2 BV BW2
       go_wp2_with (first
        | (refine wpList_load_mid rfl 43 _ rfl w2.heap.size 0 rfl d1.toList dK r1 uK rK hinl1.out ?_; rw [hmk1.out])
        | (refine wpList_load_mid rfl 43 _ rfl w3.heap.size 0 rfl d2.toList dK r2 uK rK hinl2.out ?_; rw [hmk2.out])
        | (go_at_call 22; refine hSm1.mono ?_; rintro _ w5 ⟨rfl, hb6⟩))
       exact bodyPost_ret (results_tmp Tryz.results7 _ _ _) rfl ⟨rfl, hbf.trans (hb6.mono hbf.size)⟩
end Go.Proofs.YtofcnebekmjdoaaGreatDoor.Bn
