import Derived.Test.YtodkcagingnelacGreatDoorMFreebq
namespace Go.Proofs.YtodkcagingnelacGreatDoor.Bn
open Go.RowKit Go.Proofs.YtodkcagingnelacGreatDoor.Gn
set_option maxRecDepth 10000 in
set_option maxHeartbeats 1000000 in
theorem garrive_yes {K : Nat} (g base : Nat) (lab : Lab) (b : Bank) (tm : Value) (d : Dd) (i : Bool) (p : Pk) (r : List Pk) (w : World) (h : GoesF w g base lab b tm) (I : Inv b) (B : Bound K b) (hK : K ≤ 400) (hn : d.n = sideN i) (hr : b.way i = p :: r) :
    Calls Tryz.prog 94 #[.pointer (some ⟨g, 0, none⟩), .int .i64 d.n] w (DoneE w g base lab tm (arriveB b d false)) := by
  cases i with
  | false =>
    have hN := gnext_yes g base lab b tm false p r w h hr
    have hp : p ∈ b.way false := by rw [hr]; simp
    have hpl := arrive_plan I hp
    have hE : arriveB b d false = arriveAt b false p := by
      unfold arriveB
      rw [if_neg (by rw [hn]; decide), hn, show sideOf (sideN false) = false from rfl, hr]
      rfl
    rw [hE, hn]
    clear hE
    have s0 := I.sent.seen0 false
    obtain ⟨⟨n, kd, au, sm⟩, sn⟩ := p
    have hB := fun (X : World) (l : Lab) (hX : Goes X g base l (gone b false) tm) => gback g base l (gone b false) tm false sn X hX
    have hT : ∀ X : World, Calls Tryz.prog 129 #[.int .i64 (b.seen false), Po.tv ⟨n, kd, au, sm⟩] X fun e w' => e = .returned (.tuple #[.int .i64 (Po.took (b.seen false) n), .bool (Po.taken (b.seen false) n)]) ∧ Below X.heap.size X w' := fun X => Po.take_any _ _ X
    unfold Po.tv at hT
    dsimp only at hT
    have hgl := (lt_of_block (h.goes.hand.choose_spec.choose_spec.choose_spec).blk)
    unfold DoneP pkv sideN at hN
    unfold sideN at hB ⊢
    simp only [Bool.false_eq_true, if_false] at hN hB ⊢
    by_cases q1 : 0 ≤ sn
    · have hX : Hid (arriveP b false ⟨⟨n, kd, au, sm⟩, sn⟩ = backP (gone b false) false sn) := hid (by unfold arriveP backQ backP; rw [if_pos q1])
      rw [hX.out] at hpl
      replace hpl := hid hpl
      clear hT I B
      unfold Done at hB
      generalize backP (gone b false) false sn = R at *
      go_enter Tryz.func94, Tryz.ntmps94
      go_upto_region 2 with (go_at_call 95; refine hN.mono ?_; rintro e w1 ⟨rfl, lab1, G1, S1⟩)
      have hb1 := below_alloc w1 (pko ⟨⟨n, kd, au, sm⟩, sn⟩)
      have G2 := G1.below hb1
      have S2 := S1.trans (stp_below hb1)
      have hz : (w1.alloc (pko ⟨⟨n, kd, au, sm⟩, sn⟩)).heap[w1.heap.size]? = some (pko ⟨⟨n, kd, au, sm⟩, sn⟩) := heap_alloc_at _ _ _ rfl
      obtain ⟨e0, e1, e2, e3, e4⟩ := pko_cells hz
      unfold pko at G2 S2 e0 e1 e2 e3 e4
      dsimp only at G2 S2 e0 e1 e2 e3 e4
      generalize w1.alloc (.cells #[.int .i64 n, .int .i64 kd, .int .i64 au, .int .i64 sm, .int .i64 sn] 106) = W at *
      clear hb1 hz G1 S1
      go_wp2_with (go_at_call 128; refine (hB _ _ G2).mono ?_; rintro e w5 ⟨rfl, lab5, G5, S5⟩)
      go_ret
      exact Done.plan (x := R) ⟨rfl, _, G5, S2.trans S5⟩ hpl.out
    by_cases q2 : Po.taken (b.seen false) n = true
    · have hX : arriveP b false ⟨⟨n, kd, au, sm⟩, sn⟩ = takeP (came b false) ⟨n, kd, au, sm⟩ := by unfold arriveP; rw [if_neg q1, if_pos q2]
      obtain ⟨y1, y2, y3⟩ := Po.taken_true.1 q2
      have hkp := next_kept I hp q1 y3
      obtain ⟨a0, a1, a2, a3⟩ := kept_auth I hkp
      dsimp only at a0 a1 a2 a3
      obtain ⟨k, rfl⟩ : ∃ k : Nat, au = k := ⟨au.toNat, by omega⟩
      have hau := I.held.auths _ (getD_mem' zA (show k < b.auths.length by omega))
      have O : Okt (came b false) k sm := ⟨by show k < b.auths.length; omega, hau.1.2.2.2.2.1.1, hau.2.2.1, hau.1.2.2.2.2.2.1.1, hau.2.2.2, I.held.cards8, I.held.due8, fun j hj => due_small I B hK j hj, by omega, a3⟩
      have hTk := fun (X : World) (l : Lab) (hX : Goes X g base l (came b false) tm) => gtake g base l (came b false) tm n kd sm k X hX O
      have hsn : (decide (0 ≤ sn)) = false := decide_eq_false q1
      rw [hX] at hpl
      replace hpl := hid hpl
      rw [q2, Po.took_true q2] at hT
      clear hX hB I B hau O hkp q2 y3 hp
      unfold Done at hTk
      generalize hR : takeP (came b false) ⟨n, kd, (k : Int), sm⟩ = R at *
      clear hR
      go_enter Tryz.func94, Tryz.ntmps94
      go_upto_region 6 with (go_at_call 95; refine hN.mono ?_; rintro e w1 ⟨rfl, lab1, G1, S1⟩)
      have hb1 := below_alloc w1 (.cells #[.int .i64 n, .int .i64 kd, .int .i64 (k : Int), .int .i64 sm, .int .i64 sn] 106)
      have G2 := G1.below hb1
      have S2 := S1.trans (stp_below hb1)
      have hz : (w1.alloc (.cells #[.int .i64 n, .int .i64 kd, .int .i64 (k : Int), .int .i64 sm, .int .i64 sn] 106)).heap[w1.heap.size]? = some (pko ⟨⟨n, kd, (k : Int), sm⟩, sn⟩) := heap_alloc_at _ _ _ rfl
      have zg : w1.heap.size ≠ g := by have := S1.size; omega
      generalize w1.alloc (.cells #[.int .i64 n, .int .i64 kd, .int .i64 (k : Int), .int .i64 sm, .int .i64 sn] 106) = W at *
      generalize relab lab1 w1.heap.size 0 = lab2 at *
      generalize w1.heap.size = z at *
      clear hb1 G1 S1
      obtain ⟨v2, cs2, ds2, H2⟩ := G2
      obtain ⟨-, -, -, -, -, -, -, -, -, c9, -⟩ := blk_cells H2.blk
      have glt := lt_of_block H2.blk
      have zlt := lt_of_block hz
      have keep : ∀ X : World, Below W.heap.size W X → X.cell? ⟨g, 9, none⟩ = some (.int .i64 (b.seen false)) ∧ X.heap[z]? = some (pko ⟨⟨n, kd, (k : Int), sm⟩, sn⟩) := fun X hX => ⟨(hX.cell (p := ⟨g, 9, none⟩) glt).trans c9, (hX.block z zlt).trans hz⟩
      clear c9
      refine wp_region_held_drew (S := (fun X => X.cell? ⟨g, 9, none⟩ = some (.int .i64 (b.seen false)) ∧ X.heap[z]? = some (pko ⟨⟨n, kd, (k : Int), sm⟩, sn⟩))) (by kernel_rfl) (keep _ ((Below.refl _ _).drew)) (fun hS => ?_)
      refine wpAnyH_take (i := 0) (v := .pointer (some ⟨g, 0, none⟩)) rfl (by kernel_rfl) (by kernel_rfl) (by kernel_rfl) (fun _ _ _ h => h) (Or.inl ⟨by kernel_rfl, ?_⟩) hS ?_
      · intro w' _; go_simp
      refine wpAnyH_take (i := 1) (v := .int .i64 0) rfl (by kernel_rfl) (by kernel_rfl) (by kernel_rfl) (fun _ _ _ h => h) (Or.inl ⟨by kernel_rfl, ?_⟩) hS ?_
      · intro w' _; go_simp
      refine wpAnyH_take (i := 2) (v := .pointer (some ⟨g, 0, none⟩)) rfl (by kernel_rfl) (by kernel_rfl) (by kernel_rfl) (fun _ _ _ h => h) (Or.inl ⟨by kernel_rfl, ?_⟩) hS ?_
      · intro w' _; go_simp
      refine wpAnyH_take (i := 3) (v := .pointer (some ⟨g, 0, none⟩)) rfl (by kernel_rfl) (by kernel_rfl) (by kernel_rfl) (fun _ _ _ h => h) (Or.inl ⟨by kernel_rfl, ?_⟩) hS ?_
      · intro w' _; go_simp
      try simp only [List.getElem_toArray, List.getElem_cons_zero, List.getElem_cons_succ, Act.put, List.setIfInBounds_toArray, List.set_cons_zero, List.set_cons_succ]
      refine wpAnyH_take (i := 4) (v := .pointer (some ⟨g, 9, none⟩)) rfl (by kernel_rfl) (by kernel_rfl) (by kernel_rfl) (fun _ _ _ h => h) (Or.inl ⟨by kernel_rfl, ?_⟩) hS ?_
      · intro w' _; go_simp
      refine wpAnyH_take (i := 5) (v := .pointer (some ⟨g, 9, none⟩)) rfl (by kernel_rfl) (by kernel_rfl) (by kernel_rfl) (fun _ _ _ h => h) (Or.inl ⟨by kernel_rfl, ?_⟩) hS ?_
      · intro w' _; go_simp
      refine wpAnyH_take (i := 6) (v := .int .i64 (b.seen false)) rfl (by kernel_rfl) (by kernel_rfl) (by kernel_rfl) (fun _ _ _ h => h) (Or.inl ⟨by kernel_rfl, ?_⟩) hS ?_
      · intro w' hS'; obtain ⟨Q9, Qz⟩ := hS'; obtain ⟨e0, e1, e2, e3, e4⟩ := pko_cells Qz; dsimp only at e0 e1 e2 e3 e4; go_simp
      refine wpAnyH_take (i := 7) (v := .pointer (some ⟨z, 0, none⟩)) rfl (by kernel_rfl) (by kernel_rfl) (by kernel_rfl) (fun _ _ _ h => h) (Or.inl ⟨by kernel_rfl, ?_⟩) hS ?_
      · intro w' _; go_simp
      try simp only [List.getElem_toArray, List.getElem_cons_zero, List.getElem_cons_succ, Act.put, List.setIfInBounds_toArray, List.set_cons_zero, List.set_cons_succ]
      refine wpAnyH_take (i := 8) (v := .agg #[.int .i64 n, .int .i64 kd, .int .i64 (k : Int), .int .i64 sm]) rfl (by kernel_rfl) (by kernel_rfl) (by kernel_rfl) (fun _ _ _ h => h) (Or.inl ⟨by kernel_rfl, ?_⟩) hS ?_
      · intro w' hS'; obtain ⟨Q9, Qz⟩ := hS'; obtain ⟨e0, e1, e2, e3, e4⟩ := pko_cells Qz; dsimp only at e0 e1 e2 e3 e4; go_simp
      try simp only [List.getElem_toArray, List.getElem_cons_zero, List.getElem_cons_succ, Act.put, List.setIfInBounds_toArray, List.set_cons_zero, List.set_cons_succ]
      refine wpAnyH_ready (rs := [9]) (by kernel_rfl) (by simp) ?_
      refine AllReadyH.cons rfl (fun K hK => ?_) AllReadyH.nil
      go_simp
      refine (hT _).mono ?_
      rintro e wA ⟨rfl, hbA⟩
      have hbA : Below W.heap.size W wA := ((Below.refl _ _).drew).trans hbA
      go_simp
      refine hK.out _ _ (keep _ hbA) (fun hS => ?_)
      clear hK K
      refine wpAnyH_take (i := 10) (v := .tuple #[.int .i64 (b.seen false + 1), .bool true]) rfl (by kernel_rfl) (by kernel_rfl) (by kernel_rfl) (fun _ _ _ h => h) (Or.inl ⟨by kernel_rfl, ?_⟩) hS ?_
      · intro w' _; go_simp
      refine wpAnyH_take (i := 11) (v := .int .i64 (b.seen false + 1)) rfl (by kernel_rfl) (by kernel_rfl) (by kernel_rfl) (fun _ _ _ h => h) (Or.inl ⟨by kernel_rfl, ?_⟩) hS ?_
      · intro w' _; go_simp
      refine wpAnyH_take (i := 12) (v := .bool true) rfl (by kernel_rfl) (by kernel_rfl) (by kernel_rfl) (fun _ _ _ h => h) (Or.inl ⟨by kernel_rfl, ?_⟩) hS ?_
      · intro w' _; go_simp
      try simp only [List.getElem_toArray, List.getElem_cons_zero, List.getElem_cons_succ, Act.put, List.setIfInBounds_toArray, List.set_cons_zero, List.set_cons_succ]
      refine wpAnyH_ready (rs := [13]) (by kernel_rfl) (by simp) ?_
      refine AllReadyH.cons rfl (fun K hK => ?_) AllReadyH.nil
      go_simp
      refine hK.out _ _ (keep _ hbA) (fun hS => ?_)
      clear hK K
      try simp only [List.getElem_toArray, List.getElem_cons_zero, List.getElem_cons_succ, Act.put, List.setIfInBounds_toArray, List.set_cons_zero, List.set_cons_succ]
      refine wpAnyH_ready (rs := [14]) (by kernel_rfl) (by simp) ?_
      refine AllReadyH.cons rfl (fun K hK => ?_) AllReadyH.nil
      go_simp
      refine hK.out _ _ (keep _ hbA) (fun hS => ?_)
      clear hK K
      try simp only [List.getElem_toArray, List.getElem_cons_zero, List.getElem_cons_succ, Act.put, List.setIfInBounds_toArray, List.set_cons_zero, List.set_cons_succ]
      refine wpAnyH_done (by kernel_rfl) ?_ _
      have H3 := H2.below hbA
      have S3 := S2.trans (stp_below hbA)
      have hzA := (keep _ hbA).2
      obtain ⟨-, -, -, -, -, -, -, -, -, c9, -⟩ := blk_cells H3.blk
      have f9 := blk_free H3.blk 9
      have H4 := H3.put1 (b' := came b false) (H3.mem.plain _ _ _) (i := 9) (x := .int .i64 (b.seen false + 1)) rfl
      have S4 := S3.trans (stp_set (w := wA) H3.lb 9 (.int .i64 (b.seen false + 1)))
      have hz4 : (wA.setCell ⟨g, 9, none⟩ (.int .i64 (b.seen false + 1))).heap[z]? = some (pko ⟨⟨n, kd, (k : Int), sm⟩, sn⟩) := (heap_setCell_other _ _ _ _ zg).trans hzA
      have G4 := H4.goes
      clear H3 S3 hzA hbA H2 S2 hz keep hT H4
      go_upto_region 10 with fail
      clear c9 f9
      generalize wA.setCell ⟨g, 9, none⟩ (.int .i64 (b.seen false + 1)) = Y at *
      obtain ⟨e0, e1, e2, e3, e4⟩ := pko_cells hz4
      dsimp only at e0 e1 e2 e3 e4
      go_wp2_with (go_at_call 130; refine (hTk _ _ G4).mono ?_; rintro e w5 ⟨rfl, lab5, G5, S5⟩)
      go_ret
      exact Done.plan (x := R) ⟨rfl, _, G5, S4.trans S5⟩ hpl.out

    · have hX : arriveP b false ⟨⟨n, kd, au, sm⟩, sn⟩ = (gone b false, 0) := by unfold arriveP; rw [if_neg q1, if_neg q2]
      have q3 : Po.taken (b.seen false) n = false := by simpa using q2
      have hsn : (decide (0 ≤ sn)) = false := decide_eq_false q1
      rw [hX] at hpl
      replace hpl := hid hpl
      rw [q3, Po.took_false q3] at hT
      clear hX hB I B q2 q3 hp
      go_enter Tryz.func94, Tryz.ntmps94
      go_upto_region 6 with (go_at_call 95; refine hN.mono ?_; rintro e w1 ⟨rfl, lab1, G1, S1⟩)
      have hb1 := below_alloc w1 (.cells #[.int .i64 n, .int .i64 kd, .int .i64 au, .int .i64 sm, .int .i64 sn] 106)
      have G2 := G1.below hb1
      have S2 := S1.trans (stp_below hb1)
      have hz : (w1.alloc (.cells #[.int .i64 n, .int .i64 kd, .int .i64 au, .int .i64 sm, .int .i64 sn] 106)).heap[w1.heap.size]? = some (pko ⟨⟨n, kd, au, sm⟩, sn⟩) := heap_alloc_at _ _ _ rfl
      have zg : w1.heap.size ≠ g := by have := S1.size; omega
      generalize w1.alloc (.cells #[.int .i64 n, .int .i64 kd, .int .i64 au, .int .i64 sm, .int .i64 sn] 106) = W at *
      generalize relab lab1 w1.heap.size 0 = lab2 at *
      generalize w1.heap.size = z at *
      clear hb1 G1 S1
      obtain ⟨v2, cs2, ds2, H2⟩ := G2
      obtain ⟨-, -, -, -, -, -, -, -, -, c9, -⟩ := blk_cells H2.blk
      have glt := lt_of_block H2.blk
      have zlt := lt_of_block hz
      have keep : ∀ X : World, Below W.heap.size W X → X.cell? ⟨g, 9, none⟩ = some (.int .i64 (b.seen false)) ∧ X.heap[z]? = some (pko ⟨⟨n, kd, au, sm⟩, sn⟩) := fun X hX => ⟨(hX.cell (p := ⟨g, 9, none⟩) glt).trans c9, (hX.block z zlt).trans hz⟩
      clear c9
      refine wp_region_held_drew (S := (fun X => X.cell? ⟨g, 9, none⟩ = some (.int .i64 (b.seen false)) ∧ X.heap[z]? = some (pko ⟨⟨n, kd, au, sm⟩, sn⟩))) (by kernel_rfl) (keep _ ((Below.refl _ _).drew)) (fun hS => ?_)
      refine wpAnyH_take (i := 0) (v := .pointer (some ⟨g, 0, none⟩)) rfl (by kernel_rfl) (by kernel_rfl) (by kernel_rfl) (fun _ _ _ h => h) (Or.inl ⟨by kernel_rfl, ?_⟩) hS ?_
      · intro w' _; go_simp
      refine wpAnyH_take (i := 1) (v := .int .i64 0) rfl (by kernel_rfl) (by kernel_rfl) (by kernel_rfl) (fun _ _ _ h => h) (Or.inl ⟨by kernel_rfl, ?_⟩) hS ?_
      · intro w' _; go_simp
      refine wpAnyH_take (i := 2) (v := .pointer (some ⟨g, 0, none⟩)) rfl (by kernel_rfl) (by kernel_rfl) (by kernel_rfl) (fun _ _ _ h => h) (Or.inl ⟨by kernel_rfl, ?_⟩) hS ?_
      · intro w' _; go_simp
      refine wpAnyH_take (i := 3) (v := .pointer (some ⟨g, 0, none⟩)) rfl (by kernel_rfl) (by kernel_rfl) (by kernel_rfl) (fun _ _ _ h => h) (Or.inl ⟨by kernel_rfl, ?_⟩) hS ?_
      · intro w' _; go_simp
      try simp only [List.getElem_toArray, List.getElem_cons_zero, List.getElem_cons_succ, Act.put, List.setIfInBounds_toArray, List.set_cons_zero, List.set_cons_succ]
      refine wpAnyH_take (i := 4) (v := .pointer (some ⟨g, 9, none⟩)) rfl (by kernel_rfl) (by kernel_rfl) (by kernel_rfl) (fun _ _ _ h => h) (Or.inl ⟨by kernel_rfl, ?_⟩) hS ?_
      · intro w' _; go_simp
      refine wpAnyH_take (i := 5) (v := .pointer (some ⟨g, 9, none⟩)) rfl (by kernel_rfl) (by kernel_rfl) (by kernel_rfl) (fun _ _ _ h => h) (Or.inl ⟨by kernel_rfl, ?_⟩) hS ?_
      · intro w' _; go_simp
      refine wpAnyH_take (i := 6) (v := .int .i64 (b.seen false)) rfl (by kernel_rfl) (by kernel_rfl) (by kernel_rfl) (fun _ _ _ h => h) (Or.inl ⟨by kernel_rfl, ?_⟩) hS ?_
      · intro w' hS'; obtain ⟨Q9, Qz⟩ := hS'; obtain ⟨e0, e1, e2, e3, e4⟩ := pko_cells Qz; dsimp only at e0 e1 e2 e3 e4; go_simp
      refine wpAnyH_take (i := 7) (v := .pointer (some ⟨z, 0, none⟩)) rfl (by kernel_rfl) (by kernel_rfl) (by kernel_rfl) (fun _ _ _ h => h) (Or.inl ⟨by kernel_rfl, ?_⟩) hS ?_
      · intro w' _; go_simp
      try simp only [List.getElem_toArray, List.getElem_cons_zero, List.getElem_cons_succ, Act.put, List.setIfInBounds_toArray, List.set_cons_zero, List.set_cons_succ]
      refine wpAnyH_take (i := 8) (v := .agg #[.int .i64 n, .int .i64 kd, .int .i64 au, .int .i64 sm]) rfl (by kernel_rfl) (by kernel_rfl) (by kernel_rfl) (fun _ _ _ h => h) (Or.inl ⟨by kernel_rfl, ?_⟩) hS ?_
      · intro w' hS'; obtain ⟨Q9, Qz⟩ := hS'; obtain ⟨e0, e1, e2, e3, e4⟩ := pko_cells Qz; dsimp only at e0 e1 e2 e3 e4; go_simp
      try simp only [List.getElem_toArray, List.getElem_cons_zero, List.getElem_cons_succ, Act.put, List.setIfInBounds_toArray, List.set_cons_zero, List.set_cons_succ]
      refine wpAnyH_ready (rs := [9]) (by kernel_rfl) (by simp) ?_
      refine AllReadyH.cons rfl (fun K hK => ?_) AllReadyH.nil
      go_simp
      refine (hT _).mono ?_
      rintro e wA ⟨rfl, hbA⟩
      have hbA : Below W.heap.size W wA := ((Below.refl _ _).drew).trans hbA
      go_simp
      refine hK.out _ _ (keep _ hbA) (fun hS => ?_)
      clear hK K
      refine wpAnyH_take (i := 10) (v := .tuple #[.int .i64 (b.seen false), .bool false]) rfl (by kernel_rfl) (by kernel_rfl) (by kernel_rfl) (fun _ _ _ h => h) (Or.inl ⟨by kernel_rfl, ?_⟩) hS ?_
      · intro w' _; go_simp
      refine wpAnyH_take (i := 11) (v := .int .i64 (b.seen false)) rfl (by kernel_rfl) (by kernel_rfl) (by kernel_rfl) (fun _ _ _ h => h) (Or.inl ⟨by kernel_rfl, ?_⟩) hS ?_
      · intro w' _; go_simp
      refine wpAnyH_take (i := 12) (v := .bool false) rfl (by kernel_rfl) (by kernel_rfl) (by kernel_rfl) (fun _ _ _ h => h) (Or.inl ⟨by kernel_rfl, ?_⟩) hS ?_
      · intro w' _; go_simp
      try simp only [List.getElem_toArray, List.getElem_cons_zero, List.getElem_cons_succ, Act.put, List.setIfInBounds_toArray, List.set_cons_zero, List.set_cons_succ]
      refine wpAnyH_ready (rs := [13]) (by kernel_rfl) (by simp) ?_
      refine AllReadyH.cons rfl (fun K hK => ?_) AllReadyH.nil
      go_simp
      refine hK.out _ _ (keep _ hbA) (fun hS => ?_)
      clear hK K
      try simp only [List.getElem_toArray, List.getElem_cons_zero, List.getElem_cons_succ, Act.put, List.setIfInBounds_toArray, List.set_cons_zero, List.set_cons_succ]
      refine wpAnyH_ready (rs := [14]) (by kernel_rfl) (by simp) ?_
      refine AllReadyH.cons rfl (fun K hK => ?_) AllReadyH.nil
      go_simp
      refine hK.out _ _ (keep _ hbA) (fun hS => ?_)
      clear hK K
      try simp only [List.getElem_toArray, List.getElem_cons_zero, List.getElem_cons_succ, Act.put, List.setIfInBounds_toArray, List.set_cons_zero, List.set_cons_succ]
      refine wpAnyH_done (by kernel_rfl) ?_ _
      have G3 := (H2.below hbA).goes
      have S3 := S2.trans (stp_below hbA)
      go_wp2_with fail
      go_ret
      exact Done.plan (x := (gone b false, 0)) ⟨rfl, _, G3, S3⟩ hpl.out
  | true =>
    have hN := gnext_yes g base lab b tm true p r w h hr
    have hp : p ∈ b.way true := by rw [hr]; simp
    have hpl := arrive_plan I hp
    have hE : arriveB b d false = arriveAt b true p := by
      unfold arriveB
      rw [if_neg (by rw [hn]; decide), hn, show sideOf (sideN true) = true from rfl, hr]
      rfl
    rw [hE, hn]
    clear hE
    have s0 := I.sent.seen0 true
    obtain ⟨⟨n, kd, au, sm⟩, sn⟩ := p
    have hB := fun (X : World) (l : Lab) (hX : Goes X g base l (gone b true) tm) => gback g base l (gone b true) tm true sn X hX
    have hT : ∀ X : World, Calls Tryz.prog 129 #[.int .i64 (b.seen true), Po.tv ⟨n, kd, au, sm⟩] X fun e w' => e = .returned (.tuple #[.int .i64 (Po.took (b.seen true) n), .bool (Po.taken (b.seen true) n)]) ∧ Below X.heap.size X w' := fun X => Po.take_any _ _ X
    unfold Po.tv at hT
    dsimp only at hT
    have hgl := (lt_of_block (h.goes.hand.choose_spec.choose_spec.choose_spec).blk)
    unfold DoneP pkv sideN at hN
    unfold sideN at hB ⊢
    simp only [if_true] at hN hB ⊢
    by_cases q1 : 0 ≤ sn
    · have hX : Hid (arriveP b true ⟨⟨n, kd, au, sm⟩, sn⟩ = backP (gone b true) true sn) := hid (by unfold arriveP backQ backP; rw [if_pos q1])
      rw [hX.out] at hpl
      replace hpl := hid hpl
      clear hT I B
      unfold Done at hB
      generalize backP (gone b true) true sn = R at *
      go_enter Tryz.func94, Tryz.ntmps94
      go_upto_region 2 with (go_at_call 95; refine hN.mono ?_; rintro e w1 ⟨rfl, lab1, G1, S1⟩)
      have hb1 := below_alloc w1 (pko ⟨⟨n, kd, au, sm⟩, sn⟩)
      have G2 := G1.below hb1
      have S2 := S1.trans (stp_below hb1)
      have hz : (w1.alloc (pko ⟨⟨n, kd, au, sm⟩, sn⟩)).heap[w1.heap.size]? = some (pko ⟨⟨n, kd, au, sm⟩, sn⟩) := heap_alloc_at _ _ _ rfl
      obtain ⟨e0, e1, e2, e3, e4⟩ := pko_cells hz
      unfold pko at G2 S2 e0 e1 e2 e3 e4
      dsimp only at G2 S2 e0 e1 e2 e3 e4
      generalize w1.alloc (.cells #[.int .i64 n, .int .i64 kd, .int .i64 au, .int .i64 sm, .int .i64 sn] 106) = W at *
      clear hb1 hz G1 S1
      go_wp2_with (go_at_call 128; refine (hB _ _ G2).mono ?_; rintro e w5 ⟨rfl, lab5, G5, S5⟩)
      go_ret
      exact Done.plan (x := R) ⟨rfl, _, G5, S2.trans S5⟩ hpl.out
    by_cases q2 : Po.taken (b.seen true) n = true
    · have hX : arriveP b true ⟨⟨n, kd, au, sm⟩, sn⟩ = takeP (came b true) ⟨n, kd, au, sm⟩ := by unfold arriveP; rw [if_neg q1, if_pos q2]
      obtain ⟨y1, y2, y3⟩ := Po.taken_true.1 q2
      have hkp := next_kept I hp q1 y3
      obtain ⟨a0, a1, a2, a3⟩ := kept_auth I hkp
      dsimp only at a0 a1 a2 a3
      obtain ⟨k, rfl⟩ : ∃ k : Nat, au = k := ⟨au.toNat, by omega⟩
      have hau := I.held.auths _ (getD_mem' zA (show k < b.auths.length by omega))
      have O : Okt (came b true) k sm := ⟨by show k < b.auths.length; omega, hau.1.2.2.2.2.1.1, hau.2.2.1, hau.1.2.2.2.2.2.1.1, hau.2.2.2, I.held.cards8, I.held.due8, fun j hj => due_small I B hK j hj, by omega, a3⟩
      have hTk := fun (X : World) (l : Lab) (hX : Goes X g base l (came b true) tm) => gtake g base l (came b true) tm n kd sm k X hX O
      have hsn : (decide (0 ≤ sn)) = false := decide_eq_false q1
      rw [hX] at hpl
      replace hpl := hid hpl
      rw [q2, Po.took_true q2] at hT
      clear hX hB I B hau O hkp q2 y3 hp
      unfold Done at hTk
      generalize hR : takeP (came b true) ⟨n, kd, (k : Int), sm⟩ = R at *
      clear hR
      go_enter Tryz.func94, Tryz.ntmps94
      go_upto_region 6 with (go_at_call 95; refine hN.mono ?_; rintro e w1 ⟨rfl, lab1, G1, S1⟩)
      have hb1 := below_alloc w1 (.cells #[.int .i64 n, .int .i64 kd, .int .i64 (k : Int), .int .i64 sm, .int .i64 sn] 106)
      have G2 := G1.below hb1
      have S2 := S1.trans (stp_below hb1)
      have hz : (w1.alloc (.cells #[.int .i64 n, .int .i64 kd, .int .i64 (k : Int), .int .i64 sm, .int .i64 sn] 106)).heap[w1.heap.size]? = some (pko ⟨⟨n, kd, (k : Int), sm⟩, sn⟩) := heap_alloc_at _ _ _ rfl
      have zg : w1.heap.size ≠ g := by have := S1.size; omega
      generalize w1.alloc (.cells #[.int .i64 n, .int .i64 kd, .int .i64 (k : Int), .int .i64 sm, .int .i64 sn] 106) = W at *
      generalize relab lab1 w1.heap.size 0 = lab2 at *
      generalize w1.heap.size = z at *
      clear hb1 G1 S1
      obtain ⟨v2, cs2, ds2, H2⟩ := G2
      obtain ⟨-, -, -, -, -, -, -, -, -, -, c9, -⟩ := blk_cells H2.blk
      have glt := lt_of_block H2.blk
      have zlt := lt_of_block hz
      have keep : ∀ X : World, Below W.heap.size W X → X.cell? ⟨g, 10, none⟩ = some (.int .i64 (b.seen true)) ∧ X.heap[z]? = some (pko ⟨⟨n, kd, (k : Int), sm⟩, sn⟩) := fun X hX => ⟨(hX.cell (p := ⟨g, 10, none⟩) glt).trans c9, (hX.block z zlt).trans hz⟩
      clear c9
      refine wp_region_held_drew (S := (fun X => X.cell? ⟨g, 10, none⟩ = some (.int .i64 (b.seen true)) ∧ X.heap[z]? = some (pko ⟨⟨n, kd, (k : Int), sm⟩, sn⟩))) (by kernel_rfl) (keep _ ((Below.refl _ _).drew)) (fun hS => ?_)
      refine wpAnyH_take (i := 0) (v := .pointer (some ⟨g, 0, none⟩)) rfl (by kernel_rfl) (by kernel_rfl) (by kernel_rfl) (fun _ _ _ h => h) (Or.inl ⟨by kernel_rfl, ?_⟩) hS ?_
      · intro w' _; go_simp
      refine wpAnyH_take (i := 1) (v := .int .i64 1) rfl (by kernel_rfl) (by kernel_rfl) (by kernel_rfl) (fun _ _ _ h => h) (Or.inl ⟨by kernel_rfl, ?_⟩) hS ?_
      · intro w' _; go_simp
      refine wpAnyH_take (i := 2) (v := .pointer (some ⟨g, 0, none⟩)) rfl (by kernel_rfl) (by kernel_rfl) (by kernel_rfl) (fun _ _ _ h => h) (Or.inl ⟨by kernel_rfl, ?_⟩) hS ?_
      · intro w' _; go_simp
      refine wpAnyH_take (i := 3) (v := .pointer (some ⟨g, 0, none⟩)) rfl (by kernel_rfl) (by kernel_rfl) (by kernel_rfl) (fun _ _ _ h => h) (Or.inl ⟨by kernel_rfl, ?_⟩) hS ?_
      · intro w' _; go_simp
      try simp only [List.getElem_toArray, List.getElem_cons_zero, List.getElem_cons_succ, Act.put, List.setIfInBounds_toArray, List.set_cons_zero, List.set_cons_succ]
      refine wpAnyH_take (i := 4) (v := .pointer (some ⟨g, 9, none⟩)) rfl (by kernel_rfl) (by kernel_rfl) (by kernel_rfl) (fun _ _ _ h => h) (Or.inl ⟨by kernel_rfl, ?_⟩) hS ?_
      · intro w' _; go_simp
      refine wpAnyH_take (i := 5) (v := .pointer (some ⟨g, 10, none⟩)) rfl (by kernel_rfl) (by kernel_rfl) (by kernel_rfl) (fun _ _ _ h => h) (Or.inl ⟨by kernel_rfl, ?_⟩) hS ?_
      · intro w' _; go_simp
      refine wpAnyH_take (i := 6) (v := .int .i64 (b.seen true)) rfl (by kernel_rfl) (by kernel_rfl) (by kernel_rfl) (fun _ _ _ h => h) (Or.inl ⟨by kernel_rfl, ?_⟩) hS ?_
      · intro w' hS'; obtain ⟨Q9, Qz⟩ := hS'; obtain ⟨e0, e1, e2, e3, e4⟩ := pko_cells Qz; dsimp only at e0 e1 e2 e3 e4; go_simp
      refine wpAnyH_take (i := 7) (v := .pointer (some ⟨z, 0, none⟩)) rfl (by kernel_rfl) (by kernel_rfl) (by kernel_rfl) (fun _ _ _ h => h) (Or.inl ⟨by kernel_rfl, ?_⟩) hS ?_
      · intro w' _; go_simp
      try simp only [List.getElem_toArray, List.getElem_cons_zero, List.getElem_cons_succ, Act.put, List.setIfInBounds_toArray, List.set_cons_zero, List.set_cons_succ]
      refine wpAnyH_take (i := 8) (v := .agg #[.int .i64 n, .int .i64 kd, .int .i64 (k : Int), .int .i64 sm]) rfl (by kernel_rfl) (by kernel_rfl) (by kernel_rfl) (fun _ _ _ h => h) (Or.inl ⟨by kernel_rfl, ?_⟩) hS ?_
      · intro w' hS'; obtain ⟨Q9, Qz⟩ := hS'; obtain ⟨e0, e1, e2, e3, e4⟩ := pko_cells Qz; dsimp only at e0 e1 e2 e3 e4; go_simp
      try simp only [List.getElem_toArray, List.getElem_cons_zero, List.getElem_cons_succ, Act.put, List.setIfInBounds_toArray, List.set_cons_zero, List.set_cons_succ]
      refine wpAnyH_ready (rs := [9]) (by kernel_rfl) (by simp) ?_
      refine AllReadyH.cons rfl (fun K hK => ?_) AllReadyH.nil
      go_simp
      refine (hT _).mono ?_
      rintro e wA ⟨rfl, hbA⟩
      have hbA : Below W.heap.size W wA := ((Below.refl _ _).drew).trans hbA
      go_simp
      refine hK.out _ _ (keep _ hbA) (fun hS => ?_)
      clear hK K
      refine wpAnyH_take (i := 10) (v := .tuple #[.int .i64 (b.seen true + 1), .bool true]) rfl (by kernel_rfl) (by kernel_rfl) (by kernel_rfl) (fun _ _ _ h => h) (Or.inl ⟨by kernel_rfl, ?_⟩) hS ?_
      · intro w' _; go_simp
      refine wpAnyH_take (i := 11) (v := .int .i64 (b.seen true + 1)) rfl (by kernel_rfl) (by kernel_rfl) (by kernel_rfl) (fun _ _ _ h => h) (Or.inl ⟨by kernel_rfl, ?_⟩) hS ?_
      · intro w' _; go_simp
      refine wpAnyH_take (i := 12) (v := .bool true) rfl (by kernel_rfl) (by kernel_rfl) (by kernel_rfl) (fun _ _ _ h => h) (Or.inl ⟨by kernel_rfl, ?_⟩) hS ?_
      · intro w' _; go_simp
      try simp only [List.getElem_toArray, List.getElem_cons_zero, List.getElem_cons_succ, Act.put, List.setIfInBounds_toArray, List.set_cons_zero, List.set_cons_succ]
      refine wpAnyH_ready (rs := [13]) (by kernel_rfl) (by simp) ?_
      refine AllReadyH.cons rfl (fun K hK => ?_) AllReadyH.nil
      go_simp
      refine hK.out _ _ (keep _ hbA) (fun hS => ?_)
      clear hK K
      try simp only [List.getElem_toArray, List.getElem_cons_zero, List.getElem_cons_succ, Act.put, List.setIfInBounds_toArray, List.set_cons_zero, List.set_cons_succ]
      refine wpAnyH_ready (rs := [14]) (by kernel_rfl) (by simp) ?_
      refine AllReadyH.cons rfl (fun K hK => ?_) AllReadyH.nil
      go_simp
      refine hK.out _ _ (keep _ hbA) (fun hS => ?_)
      clear hK K
      try simp only [List.getElem_toArray, List.getElem_cons_zero, List.getElem_cons_succ, Act.put, List.setIfInBounds_toArray, List.set_cons_zero, List.set_cons_succ]
      refine wpAnyH_done (by kernel_rfl) ?_ _
      have H3 := H2.below hbA
      have S3 := S2.trans (stp_below hbA)
      have hzA := (keep _ hbA).2
      obtain ⟨-, -, -, -, -, -, -, -, -, -, c9, -⟩ := blk_cells H3.blk
      have f9 := blk_free H3.blk 10
      have H4 := H3.put1 (b' := came b true) (H3.mem.plain _ _ _) (i := 10) (x := .int .i64 (b.seen true + 1)) rfl
      have S4 := S3.trans (stp_set (w := wA) H3.lb 10 (.int .i64 (b.seen true + 1)))
      have hz4 : (wA.setCell ⟨g, 10, none⟩ (.int .i64 (b.seen true + 1))).heap[z]? = some (pko ⟨⟨n, kd, (k : Int), sm⟩, sn⟩) := (heap_setCell_other _ _ _ _ zg).trans hzA
      have G4 := H4.goes
      clear H3 S3 hzA hbA H2 S2 hz keep hT H4
      go_upto_region 10 with fail
      clear c9 f9
      generalize wA.setCell ⟨g, 10, none⟩ (.int .i64 (b.seen true + 1)) = Y at *
      obtain ⟨e0, e1, e2, e3, e4⟩ := pko_cells hz4
      dsimp only at e0 e1 e2 e3 e4
      go_wp2_with (go_at_call 130; refine (hTk _ _ G4).mono ?_; rintro e w5 ⟨rfl, lab5, G5, S5⟩)
      go_ret
      exact Done.plan (x := R) ⟨rfl, _, G5, S4.trans S5⟩ hpl.out

    · have hX : arriveP b true ⟨⟨n, kd, au, sm⟩, sn⟩ = (gone b true, 0) := by unfold arriveP; rw [if_neg q1, if_neg q2]
      have q3 : Po.taken (b.seen true) n = false := by simpa using q2
      have hsn : (decide (0 ≤ sn)) = false := decide_eq_false q1
      rw [hX] at hpl
      replace hpl := hid hpl
      rw [q3, Po.took_false q3] at hT
      clear hX hB I B q2 q3 hp
      go_enter Tryz.func94, Tryz.ntmps94
      go_upto_region 6 with (go_at_call 95; refine hN.mono ?_; rintro e w1 ⟨rfl, lab1, G1, S1⟩)
      have hb1 := below_alloc w1 (.cells #[.int .i64 n, .int .i64 kd, .int .i64 au, .int .i64 sm, .int .i64 sn] 106)
      have G2 := G1.below hb1
      have S2 := S1.trans (stp_below hb1)
      have hz : (w1.alloc (.cells #[.int .i64 n, .int .i64 kd, .int .i64 au, .int .i64 sm, .int .i64 sn] 106)).heap[w1.heap.size]? = some (pko ⟨⟨n, kd, au, sm⟩, sn⟩) := heap_alloc_at _ _ _ rfl
      have zg : w1.heap.size ≠ g := by have := S1.size; omega
      generalize w1.alloc (.cells #[.int .i64 n, .int .i64 kd, .int .i64 au, .int .i64 sm, .int .i64 sn] 106) = W at *
      generalize relab lab1 w1.heap.size 0 = lab2 at *
      generalize w1.heap.size = z at *
      clear hb1 G1 S1
      obtain ⟨v2, cs2, ds2, H2⟩ := G2
      obtain ⟨-, -, -, -, -, -, -, -, -, -, c9, -⟩ := blk_cells H2.blk
      have glt := lt_of_block H2.blk
      have zlt := lt_of_block hz
      have keep : ∀ X : World, Below W.heap.size W X → X.cell? ⟨g, 10, none⟩ = some (.int .i64 (b.seen true)) ∧ X.heap[z]? = some (pko ⟨⟨n, kd, au, sm⟩, sn⟩) := fun X hX => ⟨(hX.cell (p := ⟨g, 10, none⟩) glt).trans c9, (hX.block z zlt).trans hz⟩
      clear c9
      refine wp_region_held_drew (S := (fun X => X.cell? ⟨g, 10, none⟩ = some (.int .i64 (b.seen true)) ∧ X.heap[z]? = some (pko ⟨⟨n, kd, au, sm⟩, sn⟩))) (by kernel_rfl) (keep _ ((Below.refl _ _).drew)) (fun hS => ?_)
      refine wpAnyH_take (i := 0) (v := .pointer (some ⟨g, 0, none⟩)) rfl (by kernel_rfl) (by kernel_rfl) (by kernel_rfl) (fun _ _ _ h => h) (Or.inl ⟨by kernel_rfl, ?_⟩) hS ?_
      · intro w' _; go_simp
      refine wpAnyH_take (i := 1) (v := .int .i64 1) rfl (by kernel_rfl) (by kernel_rfl) (by kernel_rfl) (fun _ _ _ h => h) (Or.inl ⟨by kernel_rfl, ?_⟩) hS ?_
      · intro w' _; go_simp
      refine wpAnyH_take (i := 2) (v := .pointer (some ⟨g, 0, none⟩)) rfl (by kernel_rfl) (by kernel_rfl) (by kernel_rfl) (fun _ _ _ h => h) (Or.inl ⟨by kernel_rfl, ?_⟩) hS ?_
      · intro w' _; go_simp
      refine wpAnyH_take (i := 3) (v := .pointer (some ⟨g, 0, none⟩)) rfl (by kernel_rfl) (by kernel_rfl) (by kernel_rfl) (fun _ _ _ h => h) (Or.inl ⟨by kernel_rfl, ?_⟩) hS ?_
      · intro w' _; go_simp
      try simp only [List.getElem_toArray, List.getElem_cons_zero, List.getElem_cons_succ, Act.put, List.setIfInBounds_toArray, List.set_cons_zero, List.set_cons_succ]
      refine wpAnyH_take (i := 4) (v := .pointer (some ⟨g, 9, none⟩)) rfl (by kernel_rfl) (by kernel_rfl) (by kernel_rfl) (fun _ _ _ h => h) (Or.inl ⟨by kernel_rfl, ?_⟩) hS ?_
      · intro w' _; go_simp
      refine wpAnyH_take (i := 5) (v := .pointer (some ⟨g, 10, none⟩)) rfl (by kernel_rfl) (by kernel_rfl) (by kernel_rfl) (fun _ _ _ h => h) (Or.inl ⟨by kernel_rfl, ?_⟩) hS ?_
      · intro w' _; go_simp
      refine wpAnyH_take (i := 6) (v := .int .i64 (b.seen true)) rfl (by kernel_rfl) (by kernel_rfl) (by kernel_rfl) (fun _ _ _ h => h) (Or.inl ⟨by kernel_rfl, ?_⟩) hS ?_
      · intro w' hS'; obtain ⟨Q9, Qz⟩ := hS'; obtain ⟨e0, e1, e2, e3, e4⟩ := pko_cells Qz; dsimp only at e0 e1 e2 e3 e4; go_simp
      refine wpAnyH_take (i := 7) (v := .pointer (some ⟨z, 0, none⟩)) rfl (by kernel_rfl) (by kernel_rfl) (by kernel_rfl) (fun _ _ _ h => h) (Or.inl ⟨by kernel_rfl, ?_⟩) hS ?_
      · intro w' _; go_simp
      try simp only [List.getElem_toArray, List.getElem_cons_zero, List.getElem_cons_succ, Act.put, List.setIfInBounds_toArray, List.set_cons_zero, List.set_cons_succ]
      refine wpAnyH_take (i := 8) (v := .agg #[.int .i64 n, .int .i64 kd, .int .i64 au, .int .i64 sm]) rfl (by kernel_rfl) (by kernel_rfl) (by kernel_rfl) (fun _ _ _ h => h) (Or.inl ⟨by kernel_rfl, ?_⟩) hS ?_
      · intro w' hS'; obtain ⟨Q9, Qz⟩ := hS'; obtain ⟨e0, e1, e2, e3, e4⟩ := pko_cells Qz; dsimp only at e0 e1 e2 e3 e4; go_simp
      try simp only [List.getElem_toArray, List.getElem_cons_zero, List.getElem_cons_succ, Act.put, List.setIfInBounds_toArray, List.set_cons_zero, List.set_cons_succ]
      refine wpAnyH_ready (rs := [9]) (by kernel_rfl) (by simp) ?_
      refine AllReadyH.cons rfl (fun K hK => ?_) AllReadyH.nil
      go_simp
      refine (hT _).mono ?_
      rintro e wA ⟨rfl, hbA⟩
      have hbA : Below W.heap.size W wA := ((Below.refl _ _).drew).trans hbA
      go_simp
      refine hK.out _ _ (keep _ hbA) (fun hS => ?_)
      clear hK K
      refine wpAnyH_take (i := 10) (v := .tuple #[.int .i64 (b.seen true), .bool false]) rfl (by kernel_rfl) (by kernel_rfl) (by kernel_rfl) (fun _ _ _ h => h) (Or.inl ⟨by kernel_rfl, ?_⟩) hS ?_
      · intro w' _; go_simp
      refine wpAnyH_take (i := 11) (v := .int .i64 (b.seen true)) rfl (by kernel_rfl) (by kernel_rfl) (by kernel_rfl) (fun _ _ _ h => h) (Or.inl ⟨by kernel_rfl, ?_⟩) hS ?_
      · intro w' _; go_simp
      refine wpAnyH_take (i := 12) (v := .bool false) rfl (by kernel_rfl) (by kernel_rfl) (by kernel_rfl) (fun _ _ _ h => h) (Or.inl ⟨by kernel_rfl, ?_⟩) hS ?_
      · intro w' _; go_simp
      try simp only [List.getElem_toArray, List.getElem_cons_zero, List.getElem_cons_succ, Act.put, List.setIfInBounds_toArray, List.set_cons_zero, List.set_cons_succ]
      refine wpAnyH_ready (rs := [13]) (by kernel_rfl) (by simp) ?_
      refine AllReadyH.cons rfl (fun K hK => ?_) AllReadyH.nil
      go_simp
      refine hK.out _ _ (keep _ hbA) (fun hS => ?_)
      clear hK K
      try simp only [List.getElem_toArray, List.getElem_cons_zero, List.getElem_cons_succ, Act.put, List.setIfInBounds_toArray, List.set_cons_zero, List.set_cons_succ]
      refine wpAnyH_ready (rs := [14]) (by kernel_rfl) (by simp) ?_
      refine AllReadyH.cons rfl (fun K hK => ?_) AllReadyH.nil
      go_simp
      refine hK.out _ _ (keep _ hbA) (fun hS => ?_)
      clear hK K
      try simp only [List.getElem_toArray, List.getElem_cons_zero, List.getElem_cons_succ, Act.put, List.setIfInBounds_toArray, List.set_cons_zero, List.set_cons_succ]
      refine wpAnyH_done (by kernel_rfl) ?_ _
      have G3 := (H2.below hbA).goes
      have S3 := S2.trans (stp_below hbA)
      go_wp2_with fail
      go_ret
      exact Done.plan (x := (gone b true, 0)) ⟨rfl, _, G3, S3⟩ hpl.out
end Go.Proofs.YtodkcagingnelacGreatDoor.Bn
