import Derived.Test.YtodkcagingnelacGreatDoorMFreebj
import Derived.Test.YtodkcagingnelacGreatDoorMFreebm
namespace Go.Proofs.YtodkcagingnelacGreatDoor.Bn
open Go.RowKit Go.Proofs.YtodkcagingnelacGreatDoor.Gn
theorem Goes.time {w : World} {g base : Nat} {lab : Lab} {b : Bank} {tm : Value} (h : Goes w g base lab b tm) : w.cell? ⟨g, 0, none⟩ = some (.int .i64 b.time) := by
  obtain ⟨v, cs, ds, H⟩ := h
  exact (blk_cells H.blk).1
theorem Goes.down {w : World} {g base : Nat} {lab : Lab} {b : Bank} {tm : Value} (h : Goes w g base lab b tm) : w.cell? ⟨g, 1, none⟩ = some (.bool b.down) := by
  obtain ⟨v, cs, ds, H⟩ := h
  exact (blk_cells H.blk).2.1
theorem askDown_time (b : Bank) (d : Dd) : (askDown b d).1.time = b.time := by
  unfold askDown
  repeat' split
  all_goals rfl
set_option maxRecDepth 10000 in
set_option maxHeartbeats 4000000 in
theorem gask (g base : Nat) (lab : Lab) (b : Bank) (tm : Value) (d : Dd) (w : World) (h : Goes w g base lab b tm) (I : Inv b) :
    Calls Tryz.prog 90 #[.pointer (some ⟨g, 0, none⟩), ddv d] w (Done3 w g base lab tm (askB b d)) := by
  have hb0 := below_alloc w (ddo d)
  have G1 := h.below hb0
  have S1 := stp_below (lab := lab) hb0
  have D1 : Dz (w.alloc (ddo d)) (relab lab w.heap.size 0) w.heap.size d := ⟨heap_alloc_at _ _ _ rfl, relab_new (Nat.le_refl _)⟩
  have hd : b.down = true ∨ b.down = false := by cases b.down <;> simp
  have hfew := I.held.few
  have hcd := I.held.cards8
  have N0 : Hid (d.n < 0 ∨ (b.cards.length : Int) ≤ d.n ∨ d.shop < 0 ∨ (b.due.length : Int) ≤ d.shop → askB b d = (b, 6, 0)) := hid (fun q => by unfold askB; rw [if_pos q])
  have N1 : Hid (¬ (d.n < 0 ∨ (b.cards.length : Int) ≤ d.n ∨ d.shop < 0 ∨ (b.due.length : Int) ≤ d.shop) → b.down = true → askB b d = askDown b d) := hid (fun q q2 => by unfold askB; rw [if_neg q, if_pos q2])
  have N2 : Hid (¬ (d.n < 0 ∨ (b.cards.length : Int) ≤ d.n ∨ d.shop < 0 ∨ (b.due.length : Int) ≤ d.shop) → b.down = false → askB b d = askUp b d) := hid (fun q q2 => by unfold askB; rw [if_neg q, if_neg (by rw [q2]; simp)])
  have aS := fun (X : World) (l : Lab) (hX : Goes X g base l b tm) => gaskStand g base l b tm d X hX (by omega)
  have aC := fun (X : World) (l : Lab) (k : Nat) (hX : Goes X g base l b tm) (e : d.n = k) (hk : k < b.cards.length) => gaskCard g base l b tm d k X hX e hk (by omega)
  have htd := askDown_time b d
  have hC : ∀ X : World, Goes X g base (relab lab w.heap.size 0) b tm → _ := fun X hX => isCard_any g base (relab lab w.heap.size 0) b tm d.n X hX
  have hS : ∀ X : World, Goes X g base (relab lab w.heap.size 0) b tm → _ := fun X hX => isShop_any g base (relab lab w.heap.size 0) b tm d.shop X hX
  clear I hb0
  obtain ⟨d0, d1, d2, d3, d4, d5⟩ := ddo_cells D1.db
  obtain ⟨id, kind, n, shop, mv, sum⟩ := d
  unfold advOf at aS
  dsimp only at *
  unfold ddv
  unfold ddo at d0 d1 d2 d3 d4 d5 G1 S1
  by_cases q1 : n < 0 ∨ (b.cards.length : Int) ≤ n
  · have hE := hid (N0.out (by omega))
    rw [isIn_false.2 q1] at hC
    clear N0 N1 N2 aS aC htd q1
    go_enter Tryz.func90, Tryz.ntmps90
    go_wp2_with (first
      | (go_at_call 116; refine (hC _ G1).mono ?_; rintro e w1 ⟨rfl, rfl⟩)
      | (go_at_call 118; refine (hS _ G1).mono ?_; rintro e w1 ⟨rfl, rfl⟩))
    refine bodyPost_ret (v := .tuple #[.int .i64 0, .int .i64 6]) (by simp [results, Tryz.results90, go_sem]) rfl ?_
    unfold Done3
    rw [hE.out]
    exact ⟨rfl, _, G1, S1⟩
  rw [isIn_true.2 (by omega)] at hC
  by_cases q2 : shop < 0 ∨ (b.due.length : Int) ≤ shop
  · have hE := hid (N0.out (by omega))
    rw [isIn_false.2 q2] at hS
    clear N0 N1 N2 aS aC htd q1 q2
    go_enter Tryz.func90, Tryz.ntmps90
    go_wp2_with (first
      | (go_at_call 116; refine (hC _ G1).mono ?_; rintro e w1 ⟨rfl, rfl⟩)
      | (go_at_call 118; refine (hS _ G1).mono ?_; rintro e w1 ⟨rfl, rfl⟩))
    refine bodyPost_ret (v := .tuple #[.int .i64 0, .int .i64 6]) (by simp [results, Tryz.results90, go_sem]) rfl ?_
    unfold Done3
    rw [hE.out]
    exact ⟨rfl, _, G1, S1⟩
  rw [isIn_true.2 (by omega)] at hS
  obtain ⟨k, rfl⟩ : ∃ k : Nat, n = k := ⟨n.toNat, by omega⟩
  have hk : k < b.cards.length := by omega
  have g1 := G1.down
  have g0 := G1.time
  rcases hd with hd | hd
  · have hE := hid (N1.out (by omega) hd)
    rw [hd] at g1
    clear N0 N1 N2 aC q1 q2 hd
    rw [← hE.out] at aS htd
    unfold Done3 at aS
    generalize askB b ⟨id, kind, k, shop, mv, sum⟩ = R at *
    replace htd := hid htd
    go_enter Tryz.func90, Tryz.ntmps90
    go_upto_region 4 with (first
      | (go_at_call 116; refine (hC _ G1).mono ?_; rintro e w1 ⟨rfl, rfl⟩)
      | (go_at_call 118; refine (hS _ G1).mono ?_; rintro e w1 ⟨rfl, rfl⟩))
    generalize relab lab w.heap.size 0 = l1 at *
    unfold ddo at D1
    generalize w.alloc (.cells #[.int .i64 id, .int .i64 kind, .int .i64 (k : Int), .int .i64 shop, .int .i64 mv, .int .i64 sum] 74) = W at *
    clear hE hC hS
    have hLz : D6 W.drew w.heap.size id kind k shop mv sum ∧ W.drew.cell? ⟨g, 0, none⟩ = some (.int .i64 b.time) := ⟨ddo_six D1.drew.db, G1.drew.time⟩
    refine wp_region_held_drew (S := (fun X => D6 X w.heap.size id kind k shop mv sum ∧ X.cell? ⟨g, 0, none⟩ = some (.int .i64 b.time))) (by kernel_rfl) (hLz) (fun hS => ?_)
    refine wpAnyH_take (i := 0) (v := .pointer (some ⟨g, 0, none⟩)) rfl (by kernel_rfl) (by kernel_rfl) (by kernel_rfl) (fun _ _ _ h => h) (Or.inl ⟨by kernel_rfl, ?_⟩) hS ?_
    · intro w' _; go_simp
    refine wpAnyH_take (i := 1) (v := .pointer (some ⟨w.heap.size, 2, none⟩)) rfl (by kernel_rfl) (by kernel_rfl) (by kernel_rfl) (fun _ _ _ h => h) (Or.inl ⟨by kernel_rfl, ?_⟩) hS ?_
    · intro w' _; go_simp
    refine wpAnyH_take (i := 2) (v := .int .i64 (k : Int)) rfl (by kernel_rfl) (by kernel_rfl) (by kernel_rfl) (fun _ _ _ h => h) (Or.inl ⟨by kernel_rfl, ?_⟩) hS ?_
    · intro w' hS'; obtain ⟨Q6, Q0⟩ := hS'; obtain ⟨e0, e1, e2, e3, e4, e5⟩ := Q6.all; go_simp
    refine wpAnyH_take (i := 3) (v := .pointer (some ⟨w.heap.size, 3, none⟩)) rfl (by kernel_rfl) (by kernel_rfl) (by kernel_rfl) (fun _ _ _ h => h) (Or.inl ⟨by kernel_rfl, ?_⟩) hS ?_
    · intro w' _; go_simp
    try simp only [List.getElem_toArray, List.getElem_cons_zero, List.getElem_cons_succ, Act.put, List.setIfInBounds_toArray, List.set_cons_zero, List.set_cons_succ]
    refine wpAnyH_take (i := 4) (v := .int .i64 shop) rfl (by kernel_rfl) (by kernel_rfl) (by kernel_rfl) (fun _ _ _ h => h) (Or.inl ⟨by kernel_rfl, ?_⟩) hS ?_
    · intro w' hS'; obtain ⟨Q6, Q0⟩ := hS'; obtain ⟨e0, e1, e2, e3, e4, e5⟩ := Q6.all; go_simp
    refine wpAnyH_take (i := 5) (v := .pointer (some ⟨w.heap.size, 5, none⟩)) rfl (by kernel_rfl) (by kernel_rfl) (by kernel_rfl) (fun _ _ _ h => h) (Or.inl ⟨by kernel_rfl, ?_⟩) hS ?_
    · intro w' _; go_simp
    refine wpAnyH_take (i := 6) (v := .int .i64 sum) rfl (by kernel_rfl) (by kernel_rfl) (by kernel_rfl) (fun _ _ _ h => h) (Or.inl ⟨by kernel_rfl, ?_⟩) hS ?_
    · intro w' hS'; obtain ⟨Q6, Q0⟩ := hS'; obtain ⟨e0, e1, e2, e3, e4, e5⟩ := Q6.all; go_simp
    refine wpAnyH_take (i := 7) (v := .pointer (some ⟨g, 0, none⟩)) rfl (by kernel_rfl) (by kernel_rfl) (by kernel_rfl) (fun _ _ _ h => h) (Or.inl ⟨by kernel_rfl, ?_⟩) hS ?_
    · intro w' _; go_simp
    try simp only [List.getElem_toArray, List.getElem_cons_zero, List.getElem_cons_succ, Act.put, List.setIfInBounds_toArray, List.set_cons_zero, List.set_cons_succ]
    refine wpAnyH_take (i := 8) (v := .pointer (some ⟨g, 0, none⟩)) rfl (by kernel_rfl) (by kernel_rfl) (by kernel_rfl) (fun _ _ _ h => h) (Or.inl ⟨by kernel_rfl, ?_⟩) hS ?_
    · intro w' _; go_simp
    refine wpAnyH_take (i := 9) (v := .pointer (some ⟨g, 0, none⟩)) rfl (by kernel_rfl) (by kernel_rfl) (by kernel_rfl) (fun _ _ _ h => h) (Or.inl ⟨by kernel_rfl, ?_⟩) hS ?_
    · intro w' _; go_simp
    refine wpAnyH_take (i := 10) (v := .pointer (some ⟨g, 0, none⟩)) rfl (by kernel_rfl) (by kernel_rfl) (by kernel_rfl) (fun _ _ _ h => h) (Or.inl ⟨by kernel_rfl, ?_⟩) hS ?_
    · intro w' _; go_simp
    refine wpAnyH_take (i := 11) (v := .int .i64 b.time) rfl (by kernel_rfl) (by kernel_rfl) (by kernel_rfl) (fun _ _ _ h => h) (Or.inl ⟨by kernel_rfl, ?_⟩) hS ?_
    · intro w' hS'; obtain ⟨Q6, Q0⟩ := hS'; obtain ⟨e0, e1, e2, e3, e4, e5⟩ := Q6.all; go_simp
    try simp only [List.getElem_toArray, List.getElem_cons_zero, List.getElem_cons_succ, Act.put, List.setIfInBounds_toArray, List.set_cons_zero, List.set_cons_succ]
    refine wpAnyH_take (i := 12) (v := .agg #[.int .i64 (k : Int), .int .i64 shop, .int .i64 sum, .int .i64 b.time]) rfl (by kernel_rfl) (by kernel_rfl) (by kernel_rfl) (fun _ _ _ h => h) (Or.inl ⟨by kernel_rfl, ?_⟩) hS ?_
    · intro w' _; go_simp
    try simp only [List.getElem_toArray, List.getElem_cons_zero, List.getElem_cons_succ, Act.put, List.setIfInBounds_toArray, List.set_cons_zero, List.set_cons_succ]
    refine wpAnyH_ready (rs := [13]) (by kernel_rfl) (by simp) ?_
    refine AllReadyH.cons rfl (fun K hK => ?_) AllReadyH.nil
    go_simp
    refine (aS _ _ G1.drew).mono ?_
    rintro e w5 ⟨rfl, lab5, G5, S5⟩
    have D5 := D1.drew.on S5
    have t5 := G5.time
    rw [htd.out] at t5
    go_simp
    refine hK.out _ _ (⟨ddo_six D5.db, t5⟩) (fun hS => ?_)
    clear hK K
    refine wpAnyH_take (i := 14) (v := .int .i64 R.2.2) rfl (by kernel_rfl) (by kernel_rfl) (by kernel_rfl) (fun _ _ _ h => h) (Or.inl ⟨by kernel_rfl, ?_⟩) hS ?_
    · intro w' _; go_simp
    refine wpAnyH_take (i := 15) (v := .int .i64 R.2.1) rfl (by kernel_rfl) (by kernel_rfl) (by kernel_rfl) (fun _ _ _ h => h) (Or.inl ⟨by kernel_rfl, ?_⟩) hS ?_
    · intro w' _; go_simp
    try simp only [List.getElem_toArray, List.getElem_cons_zero, List.getElem_cons_succ, Act.put, List.setIfInBounds_toArray, List.set_cons_zero, List.set_cons_succ]
    refine wpAnyH_ready (rs := [16]) (by kernel_rfl) (by simp) ?_
    refine AllReadyH.cons rfl (fun K hK => ?_) AllReadyH.nil
    go_simp
    refine hK.out _ _ (⟨ddo_six D5.db, t5⟩) (fun hS => ?_)
    clear hK K
    try simp only [List.getElem_toArray, List.getElem_cons_zero, List.getElem_cons_succ, Act.put, List.setIfInBounds_toArray, List.set_cons_zero, List.set_cons_succ]
    refine wpAnyH_ready (rs := [17]) (by kernel_rfl) (by simp) ?_
    refine AllReadyH.cons rfl (fun K hK => ?_) AllReadyH.nil
    go_simp
    refine hK.out _ _ (⟨ddo_six D5.db, t5⟩) (fun hS => ?_)
    clear hK K
    try simp only [List.getElem_toArray, List.getElem_cons_zero, List.getElem_cons_succ, Act.put, List.setIfInBounds_toArray, List.set_cons_zero, List.set_cons_succ]
    refine wpAnyH_done (by kernel_rfl) ?_ _
    go_wp2_with fail
    refine bodyPost_ret (v := .tuple #[.int .i64 R.2.2, .int .i64 R.2.1]) (by simp [results, Tryz.results90, go_sem]) rfl ?_
    exact ⟨rfl, _, G5, S1.drew.trans S5⟩
  · have hE := hid (N2.out (by omega) hd)
    rw [hd] at g1
    clear N0 N1 N2 aS htd q1 q2 hd
    rw [← hE.out] at aC
    unfold Done3 at aC
    generalize askB b ⟨id, kind, k, shop, mv, sum⟩ = R at *
    go_enter Tryz.func90, Tryz.ntmps90
    go_wp2_with (first
      | (go_at_call 116; refine (hC _ G1).mono ?_; rintro e w1 ⟨rfl, rfl⟩)
      | (go_at_call 118; refine (hS _ G1).mono ?_; rintro e w1 ⟨rfl, rfl⟩)
      | (go_at_call 120; refine (aC _ _ k G1 rfl hk).mono ?_; rintro e w5 ⟨rfl, lab5, G5, S5⟩))
    refine bodyPost_ret (v := .tuple #[.int .i64 R.2.2, .int .i64 R.2.1]) (by simp [results, Tryz.results90, go_sem]) rfl ?_
    exact ⟨rfl, _, G5, S1.trans S5⟩
end Go.Proofs.YtodkcagingnelacGreatDoor.Bn
namespace Go.Proofs.YtodkcagingnelacGreatDoor.Bn
open Go.RowKit Go.Proofs.YtodkcagingnelacGreatDoor.Gn
/-- A file more. -/
theorem Hand.dayGrown {X0 w2 : World} {g base : Nat} {l1 : Lab} {b : Bank} {v : Vs} {cs : List CV} {ds : List DV} {tm : Value} (H1 : Hand X0 g base l1 b v cs ds tm) {a8 a2 a1 : Option Addr} {cap8 m1 m2 : Nat} {F : List Int} (hv8 : Hid (v.dy = .slice a8 ds.length cap8))
    (hown : Row kD 82 w2 base (.slice a2 (ds ++ [(⟨F, a1, m1⟩ : DV)]).length m2) (ds ++ [⟨F, a1, m1⟩])) (hgrow : (X0.alloc (.cells #[.slice a1 F.length m1] 82)).grownBy w2 (Value.slice a8 ds.length cap8).ownBlock)
    (hat : ∀ k, (Value.slice a2 (ds ++ [(⟨F, a1, m1⟩ : DV)]).length m2).ownBlock = some k → (Value.slice a8 ds.length cap8).ownBlock = some k ∨ (X0.alloc (.cells #[.slice a1 F.length m1] 82)).heap.size ≤ k)
    (hon : [(⟨F, a1, m1⟩ : DV)] ≠ [] → w2.ownsRow base 82 kD.size (.slice a2 (ds ++ [(⟨F, a1, m1⟩ : DV)]).length m2) (ds ++ [(⟨F, a1, m1⟩ : DV)]).length (kD.flat (ds ++ [⟨F, a1, m1⟩]))) (pF : Ap kB l1 X0 (.slice a1 F.length m1) F 0) :
    w2.heap[g]? = some (blkB b v tm) ∧ ∃ l3, Hand (w2.setCell ⟨g, 17, none⟩ (.slice a2 (ds ++ [(⟨F, a1, m1⟩ : DV)]).length m2)) g base l3 { b with days := (ds ++ [(⟨F, a1, m1⟩ : DV)]).map DV.l } { v with dy := .slice a2 (ds ++ [(⟨F, a1, m1⟩ : DV)]).length m2 } cs (ds ++ [⟨F, a1, m1⟩]) tm ∧ Stp X0 l1 (w2.setCell ⟨g, 17, none⟩ (.slice a2 (ds ++ [(⟨F, a1, m1⟩ : DV)]).length m2)) l3 := by
  have B2 := bel_alloc (Below.refl X0.heap.size X0) (.cells #[.slice a1 F.length m1] 82)
  have H2 := H1.below B2
  have pF2 := pF.stp (stp_below B2)
  have hT := H2.mem.days
  rw [hv8.out] at hT
  have ho := only_grown hgrow hT.lab (by decide)
  have hg2 := H2.appBlk ho (by decide)
  refine ⟨hg2, _, H2.app ho (by decide) (H2.mem.daysTo ho (hT.grow hown (fun _ => hon (by simp)) hat) (fun x hx => ?_)) (i := 17) (x := .slice a2 (ds ++ [(⟨F, a1, m1⟩ : DV)]).length m2) (by rfl), (stp_below B2).trans ((stp_only ho (by decide)).trans (stp_set (x := .slice a2 (ds ++ [(⟨F, a1, m1⟩ : DV)]).length m2) (i := 17) (by rw [relab_old (lt_of_block H2.blk)]; exact H2.lb)))⟩
  rcases List.mem_append.1 hx with hx | hx
  · exact H2.mem.files x hx
  · obtain rfl := List.mem_singleton.1 hx
    exact pF2
set_option maxRecDepth 10000 in
set_option maxHeartbeats 4000000 in
theorem gday (g base : Nat) (lab : Lab) (b : Bank) (tm : Value) (w : World) (h : Goes w g base lab b tm) (hR : Dy.Right b.today) (hdays : b.days.length ≤ 1000000) :
    Calls Tryz.prog 98 #[.pointer (some ⟨g, 0, none⟩)] w (Done w g base lab tm (dayB b)) := by
  obtain ⟨v, cs, ds, H⟩ := h
  have hE : Hid (dayB b = ({ b with days := b.days ++ [Dy.fileB b.today], today := [] }, 0)) := hid rfl
  have hB := Dy.bytes_any b.today v.td w H.mem.today.ap.lies
  rw [Dy.bytes_ok (Dy.wrong_ok.2 hR)] at hB
  obtain ⟨a7, cap7, hv7⟩ := H.mem.today.form
  obtain ⟨-, -, -, -, -, -, -, -, -, -, -, -, -, -, -, -, c16, c17, -⟩ := blk_cells H.blk
  rw [hv7] at c16 hB
  have hlen := H.mem.daysLen
  have hdsv := hid H.mem.dsv
  unfold Dy.AnswersB Dy.fv at hB
  dsimp only at hB
  generalize Dy.fileB b.today = F at *
  clear hR
  go_enter Tryz.func98, Tryz.ntmps98
  go_upto_region 4 with (go_at_call 133; refine hB.mono ?_; rintro e w1 ⟨v1, rfl, hr1, hb1⟩; obtain ⟨a1, m1, rfl, hl1, hp1, -⟩ := hr1.lies)
  have hbW := bel_alloc hb1 (.cells #[.int .i64 0, .int .i64 0] 47)
  have pF : Ap kB (relab lab w.heap.size 0) (w1.alloc (.cells #[.int .i64 0, .int .i64 0] 47)) (.slice a1 F.length m1) F 0 := ap_new rfl (hl1.alloc _) hp1
  have H1 := H.below hbW
  have S1 := stp_below (lab := lab) hbW
  generalize w1.alloc (.cells #[.int .i64 0, .int .i64 0] 47) = X0 at *
  generalize relab lab w.heap.size 0 = l1 at *
  clear hbW hb1 hr1 hl1 hp1 hB c16 c17 H
  obtain ⟨a8, cap8, hv8⟩ := H1.mem.days.form
  obtain ⟨-, -, -, -, -, -, -, -, -, -, -, -, -, -, -, -, c16, c17, -⟩ := blk_cells H1.blk
  rw [hv7] at c16
  rw [hv8] at c17
  have hrow := H1.mem.days.row
  rw [hv8] at hrow
  replace hv7 := hid hv7
  replace hv8 := hid hv8
  replace hlen := hid hlen
  have hl63 : ds.length ≤ 1000000 := by rw [hlen.out]; exact hdays
  have hbase : base ≤ X0.heap.size := H1.mem.lo
  have hone : Gn.Lies kD (X0.alloc (.cells #[.slice a1 F.length m1] 82)) (some ⟨X0.heap.size, 0, none⟩) 1 [⟨F, a1, m1⟩] := lies_one (K := kD) (x := ⟨F, a1, m1⟩) (cs := #[.slice a1 F.length m1]) (heap_alloc_at _ _ _ rfl) rfl _
  have hc2 : ds.length + [(⟨F, a1, m1⟩ : DV)].length ≤ maxLen := by simp [maxLen]; omega
  have hc3 : (ds.length + [(⟨F, a1, m1⟩ : DV)].length) * 24 ≤ 140737488355328 := by simp; omega
  have hc4 : base ≤ (X0.alloc (.cells #[.slice a1 F.length m1] 82)).heap.size := by simp; omega
  go_upto_region 5 with (at_builtin; refine wpList_append elemD _ rfl _ _ rfl base (.slice a8 ds.length cap8) ds rfl (hrow.alloc _) _ 1 1 [⟨F, a1, m1⟩] rfl rfl hone hc2 hc3 hc4 ?_; intro v2 w2 hown hgrow hat hon; obtain ⟨a2, m2, rfl, -, -, -⟩ := hown.lies; have D := H1.dayGrown hv8 hown hgrow hat hon pF; obtain ⟨hg2, l3, H3, S3'⟩ := D; obtain ⟨-, -, -, -, -, -, -, -, -, -, -, -, -, -, -, -, D16, D17, -⟩ := blk_cells hg2; have F17 := blk_free hg2 17; rw [hv7.out] at D16; rw [hv8.out] at D17)
  have S3 := S1.trans S3'
  clear S3' hgrow hat hon hown pF H1 S1 hrow hg2 hone hc2 hc3 hc4
  have hdv : (ds ++ [(⟨F, a1, m1⟩ : DV)]).map DV.l = b.days ++ [F] := by
    rw [List.map_append, hdsv.out]
    rfl
  rw [hdv] at H3
  rw [List.length_append] at H3 S3
  simp only [List.length_singleton] at H3 S3
  clear D16 D17 F17
  generalize w2.setCell ⟨g, 17, none⟩ (.slice a2 (ds.length + 1) m2) = W3 at *
  obtain ⟨-, -, -, -, -, -, -, -, -, -, -, -, -, -, -, -, E16, -⟩ := blk_cells H3.blk
  have hv9 : v.td = _ := hv7.out
  try dsimp only at E16
  rw [hv9] at E16
  have F16 := blk_free H3.blk 16
  have H4 := H3.put1 (b' := { b with days := b.days ++ [F], today := [] }) H3.mem.todayNil (i := 16) (x := .slice none 0 0) rfl
  have S4 := S3.trans (stp_set (w := W3) H3.lb 16 (.slice none 0 0))
  replace hv9 := hid hv9
  clear H3 S3
  go_wp2_with fail
  go_ret
  unfold Done
  rw [hE.out]
  exact ⟨rfl, _, H4.goes, S4⟩
end Go.Proofs.YtodkcagingnelacGreatDoor.Bn
