import Derived.Test.YtofcnebekmjdoaaGreatDoorQbg
set_option maxHeartbeats 4000000
set_option maxRecDepth 100000
namespace Go.Proofs.YtofcnebekmjdoaaGreatDoor.Bn
open RowKit Gn
theorem Ap.at {α : Type} {K : Am α} {lab : Ak} {w : World} {v : Value} {L : List α} {j : Nat} (h : Ap K lab w v L j) : St.At K w v L := h.lies
def dno (u : Int) (v1 v2 : Value) : Obj := .cells #[.int .i64 u, v1, v2] 38
theorem dno_cells {w : World} {z : Nat} {u : Int} {v1 v2 : Value} (h : w.heap[z]? = some (dno u v1 v2)) : w.cell? ⟨z, 0, none⟩ = some (.int .i64 u) ∧ w.cell? ⟨z, 1, none⟩ = some v1 ∧ w.cell? ⟨z, 2, none⟩ = some v2 := by
 unfold dno at h
 refine ⟨?_, ?_, ?_⟩ <;> simp [World.cell?, h]
theorem Dp.standPut {w : World} {g base : Nat} {lab : Ak} {b : Aa} {v : Vs} {cs : List CV} {ds : List DV} {tm : Value} (H : Dp w g base lab b v cs ds tm) {s : St.Sd} {v1 v2 : Value} (h1 : Ap kI lab w v1 s.used 0) (h2 : Ap St.kA lab w v2 s.adv 0) :
  ∃ lab', Dp (((w.setCell ⟨g, 13, none⟩ (.int .i64 s.cap)).setCell ⟨g, 14, none⟩ v1).setCell ⟨g, 15, none⟩ v2) g base lab' { b with stand := s } { v with us := v1, ad := v2 } cs ds tm ∧ Hj w lab (((w.setCell ⟨g, 13, none⟩ (.int .i64 s.cap)).setCell ⟨g, 14, none⟩ v1).setCell ⟨g, 15, none⟩ v2) lab' := by
 have H1 := H.mem.standTo h1 h2
 have l0 := lt_of_block H.blk
 have q1 : (w.setCell ⟨g, 13, none⟩ (.int .i64 s.cap)).heap[g]? = some (.cells ((Bm b v tm).setIfInBounds 13 (.int .i64 s.cap)) 98) := blk_put H.blk 13 _
 have l1 : relab lab w.heap.size 1 g = 1 := by rw [Ab l0]; exact H.lb
 have q2 := heap_setCell_same _ g 14 _ _ v1 q1
 have l2 : relab (relab lab w.heap.size 1) (w.setCell ⟨g, 13, none⟩ (.int .i64 s.cap)).heap.size 1 g = 1 := by rw [Ab (lt_of_block q1)]; exact l1
 have q3 := heap_setCell_same _ g 15 _ _ v2 q2
 refine ⟨_, ⟨((H1.gput H.lb 13 _).gput l1 14 _).gput l2 15 _, ?_, by rw [Ab (lt_of_block q2)]; exact l2⟩, ((Ee H.lb 13 _).trans (Ee l1 14 _)).trans (Ee l2 15 _)⟩
 rw [q3]
 rfl
theorem upK_end (b : Aa) : upK b b.stand.adv.length = { b with cards := b.stand.adv.foldl Du b.cards, auths := b.auths ++ b.stand.adv.map Hi } := by unfold upK; rw [List.take_length]
theorem honourP_zero {b b' : Aa} {x : St.Ad} (h : honourP b x = (b', 0)) : (Au.newA x.c x.s x.m x.t).2 = 0 ∧ (Ef (b.card x.c) x.m).2 = 0 := by
 unfold honourP at h
 by_cases q1 : (Au.newA x.c x.s x.m x.t).2 = 0
 ·rw [if_neg (by simpa using q1)] at h
  by_cases q2 : (Ef (b.card x.c) x.m).2 = 0
  ·exact ⟨q1, q2⟩
  ·rw [if_pos q2] at h; exact absurd (congrArg Prod.snd h) q2
 ·rw [if_pos q1] at h; exact absurd (congrArg Prod.snd h) q1
theorem upK_few (b : Aa) (k : Nat) : (upK b k).auths.length ≤ b.auths.length + b.stand.adv.length := by
 unfold upK; simp; omega
theorem gup (g base : Nat) (lab : Ak) (b : Aa) (tm : Value) (w : World) (h : Bu w g base lab b tm) (I : Cj b) : Calls Tryz.prog 104 #[.pointer (some ⟨g, 0, none⟩)] w (Bb w g base lab tm (upB b)) := by
 obtain ⟨v, cs, ds, H⟩ := h
 have c1 := (Ae H.blk).2.1
 have cad := (Ae H.blk).2.2.2.2.2.2.2.2.2.2.2.2.2.2.2.1
 cases hd : b.down with
 | false =>
  have hE : Hid (upB b = (b, 8)) := hid (by unfold upB; rw [if_neg (by rw [hd]; simp)])
  rw [hd] at c1
  clear cad
  go_enter Tryz.func104, Tryz.ntmps104
  go_wp2_with fail
  go_ret
  unfold Bb
  rw [hE.out]
  exact ⟨rfl, _, H.goes, Hj.refl _ _⟩
 | true =>
  rw [hd] at c1
  have hmid := hid (up_mid I hd)
  have hE : Hid (upB b = (shutB { b with cards := b.stand.adv.foldl Du b.cards, auths := b.auths ++ b.stand.adv.map Hi, down := false, stand := ⟨b.stand.cap, List.replicate b.cards.length 0, []⟩ }, 0)) := hid (by unfold upB; rw [if_pos hd])
  have hA := H.mem.adv
  obtain ⟨a0, cap0, hv0, hl0, hn0⟩ := hA
  have hA : Ap St.kA lab w (.slice a0 b.stand.adv.length cap0) b.stand.adv 0 := ⟨a0, cap0, rfl, hl0, hn0⟩
  rw [hv0] at cad
  have hlen : b.stand.adv.length ≤ 30 := by have := I.held.few; omega
  have G0 : Bu w g base lab (upK b 0) tm := by rw [upK_zero]; exact H.goes
  have HI := hid I
  have hEnd := hid (upK_end b)
  clear I H
  go_enter Tryz.func104, Tryz.ntmps104
  go_wp2_with fail
  go_loopw [22] (fun i wr => ∃ (k : Nat) (l : Ak), k ≤ b.stand.adv.length ∧ i = .int .i64 k ∧ Bu wr g base l (upK b k) tm ∧ Hj w lab wr l) (fun i _ => b.stand.adv.length - (intOf i).toNat)
  case atStart => exact ⟨0, lab, Nat.zero_le _, rfl, G0, Hj.refl _ _⟩
  case round =>
   clear G0
   obtain ⟨k, l, hk, rfl, G1, S1⟩ := hrel
   by_cases hlt : k < b.stand.adv.length
   ·have hlt' : (k : Int) < b.stand.adv.length := by omega
    obtain ⟨hst, ⟨hc0, hc1⟩, hcl⟩ := up_step HI.out hlt
    obtain ⟨hz1, hz2⟩ := honourP_zero hst
    have hfew : (upK b k).auths.length ≤ 30 := Nat.le_trans (upK_few b k) (by have := HI.out.held.few; omega)
    have A1 := hA.stp S1
    obtain ⟨z, off, ha, hlz, hel⟩ := A1.out.elem (i := k) (x := b.stand.adv.getD k zAd) (by simp [List.getD, hlt])
    obtain ⟨c, hc⟩ : ∃ c : Nat, (b.stand.adv.getD k zAd).c = c := ⟨_, (Int.toNat_of_nonneg hc0).symm⟩
    have GH := fun (X : World) (l' : Ak) (hX : Bu X g base l' (upK b k) tm) => ghonour g base l' (upK b k) tm (b.stand.adv.getD k zAd) c X hX hc (by rw [hcl]; omega) hfew hz1 hz2
    have e0 := hel 0 _ rfl
    have e1 := hel 1 _ rfl
    have e2 := hel 2 _ rfl
    have e3 := hel 3 _ rfl
    rw [hst] at GH
    subst ha
    clear hst hz1 hz2 hc hc0 hc1 hcl hel A1
    generalize b.stand.adv.getD k zAd = x at *
    have B2 := below_alloc wr (.cells #[.int .i64 x.c, .int .i64 x.s, .int .i64 x.m, .int .i64 x.t] 123)
    have G2 := G1.below B2
    have S2 := S1.trans (Ac (lab := l) B2)
    have GH2 := GH _ _ G2
    unfold Bb at GH2
    have hk1 : k + 1 ≤ b.stand.adv.length := hlt
    clear GH G1 S1 B2
    obtain ⟨r, hr⟩ : ∃ r, Hid (r = upK b (k + 1)) := ⟨_, rfl⟩
    rw [← hr.out] at GH2
    change wr.cell? ⟨z, off + k * 4, none⟩ = _ at e0
    change wr.cell? ⟨z, off + k * 4 + 1, none⟩ = _ at e1
    change wr.cell? ⟨z, off + k * 4 + 2, none⟩ = _ at e2
    change wr.cell? ⟨z, off + k * 4 + 3, none⟩ = _ at e3
    go_wp2_with (go_at_call 138; refine GH2.mono ?_; rintro e w5 ⟨rfl, lab5, G5, S5⟩)
    go_roundw
    case rel => rw [hr.out] at G5; exact ⟨k + 1, _, hk1, by go_num, G5, S2.trans S5⟩
    case measure => simp [intOf]; omega
   ·have hke : k = b.stand.adv.length := by omega
    subst hke
    rw [hEnd.out] at G1
    clear hEnd hA hl0 hn0
    have hcl := St.clear_ok (HI.out.held.stand).wrong
    have hsN := HI.out.held.standN
    rw [hsN] at hcl
    clear hlt hk HI c1 cad
    obtain ⟨v5, cs5, ds5, H5⟩ := G1
    obtain ⟨-, d1, -, -, -, -, -, -, -, -, -, -, -, d13, d14, d15, -⟩ := Ae H5.blk
    obtain ⟨u1, n1, hu1, -⟩ := H5.mem.used.lies
    obtain ⟨u2, n2, hu2, -⟩ := H5.mem.adv.lies
    have hC := St.clear_any b.stand v5.us v5.ad wr H5.mem.used.at H5.mem.adv.at
    dsimp only at d1 d13 d14 d15 hu1 hu2
    rw [hcl, hu1, hu2] at hC
    rw [hu1] at d14
    rw [hu2] at d15
    unfold St.AnswersC St.dv at hC
    dsimp only at hC
    replace hu1 := hid hu1
    replace hu2 := hid hu2
    clear hcl hsN hd hv0 hlen
    go_upto_region 13 with (go_at_call 139; refine hC.mono ?_; rintro e w6 ⟨v1, v2, v3, rfl, r1, r2, r3, hb6⟩; obtain ⟨a1, m1, rfl, hl1, hp1, -⟩ := r1.lies; obtain ⟨a2, m2, rfl, hl2, hp2, -⟩ := r2.lies)
    have hbW := bel_alloc hb6 (.cells #[.int .i64 b.stand.cap, .slice a1 b.cards.length m1, .slice a2 0 m2] 38)
    have hbx : (w6.alloc (.cells #[.int .i64 b.stand.cap, .slice a1 b.cards.length m1, .slice a2 0 m2] 38)).heap[w6.heap.size]? = some (dno b.stand.cap (.slice a1 b.cards.length m1) (.slice a2 0 m2)) := heap_alloc_at _ _ _ rfl
    have p1 : Ap kI (relab l wr.heap.size 0) (w6.alloc (.cells #[.int .i64 b.stand.cap, .slice a1 b.cards.length m1, .slice a2 0 m2] 38)) (.slice a1 b.cards.length m1) (List.replicate b.cards.length 0) 0 := ap_new (by rw [List.length_replicate]) (hl1.alloc _) hp1
    have p2 : Ap St.kA (relab l wr.heap.size 0) (w6.alloc (.cells #[.int .i64 b.stand.cap, .slice a1 b.cards.length m1, .slice a2 0 m2] 38)) (.slice a2 0 m2) [] 0 := ap_new rfl (hl2.alloc _) hp2
    have H6 := H5.below hbW
    have S6 := S1.trans (Ac hbW)
    clear hbW hl1 hl2 hp1 hp2 r1 r2 r3 hC d13 d14 d15 H5 S1
    generalize w6.alloc (.cells #[.int .i64 b.stand.cap, .slice a1 b.cards.length m1, .slice a2 0 m2] 38) = W6 at *
    generalize w6.heap.size = Z at *
    generalize relab l wr.heap.size 0 = l6 at *
    clear hb6
    obtain ⟨x0, x1, x2⟩ := dno_cells hbx
    obtain ⟨-, -, -, -, -, -, -, -, -, -, -, -, -, d13, d14, d15, -⟩ := Ae H6.blk
    rw [hu1.out] at d14
    rw [hu2.out] at d15
    dsimp only at d13
    have f13 := Bp H6.blk 13
    have f14 := Bp H6.blk 14
    have f15 := Bp H6.blk 15
    obtain ⟨l7, H7, S7⟩ := H6.standPut (s := ⟨b.stand.cap, List.replicate b.cards.length 0, []⟩) p1 p2
    have S8 := S6.trans S7
    clear S7 p1 p2 S6
    go_upto_region 14 with fail
    try dsimp only at H7 S8
    generalize ((W6.setCell ⟨g, 13, none⟩ (.int .i64 b.stand.cap)).setCell ⟨g, 14, none⟩ (.slice a1 b.cards.length m1)).setCell ⟨g, 15, none⟩ (.slice a2 0 m2) = W7 at *
    have f1 := Bp H7.blk 1
    have g1 := (Ae H7.blk).2.1
    clear d13 d14 d15
    have H8 := H7.put1 (b' := { b with cards := b.stand.adv.foldl Du b.cards, auths := b.auths ++ b.stand.adv.map Hi, down := false, stand := ⟨b.stand.cap, List.replicate b.cards.length 0, []⟩ }) (H7.mem.plain b.time false b.seen) (i := 1) (x := .bool false) rfl
    have S9 := S8.trans (Ee (w := W7) H7.lb 1 (.bool false))
    have hL := glate g base _ _ tm _ H8.goes hmid.out
    unfold Bb at hL
    clear H8 H7 S8 H6 f13 f14 f15 x0 x1 x2 hbx d1 hmid
    go_upto_region 15 with fail
    generalize W7.setCell ⟨g, 1, none⟩ (.bool false) = W8 at *
    go_wp2_with (go_at_call 133; refine hL.mono ?_; rintro e w9 ⟨rfl, lab9, G9, T9⟩)
    go_ret
    unfold Bb
    rw [hE.out]
    exact ⟨rfl, _, G9, S9.trans T9⟩
def Done3 (w : World) (g base : Nat) (lab : Ak) (tm : Value) (r : Aa × Int × Int) (e : Ending) (w' : World) : Prop := e = .returned (.tuple #[.int .i64 r.2.2, .int .i64 r.2.1]) ∧ ∃ lab', Bu w' g base lab' r.1 tm ∧ Hj w lab w' lab'
theorem past_less {n : Nat} {a : Option Addr} (h : Past (n + 1) a) : Past n a := fun ad had => Nat.le_of_succ_le (h ad had)
theorem dno_put {W : World} {z : Nat} {u0 u : Int} {x0 y0 x y : Value} (h : W.heap[z]? = some (dno u0 x0 y0)) : ((W.setCell ⟨z, 0, none⟩ (.int .i64 u)).setCell ⟨z, 1, none⟩ x).setCell ⟨z, 2, none⟩ y |>.heap[z]? = some (dno u x y) := by
 unfold dno at h ⊢
 have h0 := heap_setCell_same W z 0 _ _ (.int .i64 u) h
 have h1 := heap_setCell_same _ z 1 _ _ x h0
 have h2 := heap_setCell_same _ z 2 _ _ y h1
 rw [h2]; simp
theorem give_slices (s : St.Sd) (a1 a2 : Option Addr) (n1 n2 : Nat) (t : St.Ad) (w : World) (h1 : St.At kI w (.slice a1 s.used.length n1) s.used) (h2 : St.At St.kA w (.slice a2 s.adv.length n2) s.adv) :
  Calls Tryz.prog 153 #[.agg #[.int .i64 s.cap, .slice a1 s.used.length n1, .slice a2 s.adv.length n2], .agg #[.int .i64 t.c, .int .i64 t.s, .int .i64 t.m, .int .i64 t.t]] w fun e w' =>
   ∃ a1 m1 a2 m2, e = .returned (.tuple #[.agg #[.int .i64 (St.giveD s t).1.cap, .slice a1 (St.giveD s t).1.used.length m1, .slice a2 (St.giveD s t).1.adv.length m2], .int .i64 (St.giveD s t).2]) ∧ Gn.Lies kI w' a1 m1 (St.giveD s t).1.used ∧ Past w.heap.size a1 ∧ Gn.Lies St.kA w' a2 m2 (St.giveD s t).1.adv ∧ Past w.heap.size a2 ∧ Below w.heap.size w w' := by
 refine (St.give_any s _ _ t w h1 h2).mono ?_
 rintro e w' ⟨v1, v2, rfl, r1, r2, hb⟩
 obtain ⟨b1, m1, rfl, l1, p1, -⟩ := r1.lies
 obtain ⟨b2, m2, rfl, l2, p2, -⟩ := r2.lies
 exact ⟨b1, m1, b2, m2, rfl, l1, p1, l2, p2, hb⟩
theorem gaskStand (g base : Nat) (lab : Ak) (b : Aa) (tm : Value) (d : Dd) (w : World) (h : Bu w g base lab b tm) (h30 : b.auths.length + b.stand.adv.length ≤ 1000) :
  Calls Tryz.prog 126 #[.pointer (some ⟨g, 0, none⟩), .agg #[.int .i64 (Hs b d).c, .int .i64 (Hs b d).s, .int .i64 (Hs b d).m, .int .i64 (Hs b d).t]] w (Done3 w g base lab tm (Dx b d)) := by
 have N1 : Hid ((St.giveD b.stand (Hs b d)).2 ≠ 0 → Dx b d = (b, (if (St.giveD b.stand (Hs b d)).2 = 10 then 12 else (St.giveD b.stand (Hs b d)).2), 0)) := hid (fun q => by unfold Dx; rw [if_pos q])
 have N2 : Hid ((St.giveD b.stand (Hs b d)).2 = 0 → 30 ≤ b.auths.length + b.stand.adv.length → Dx b d = (b, 5, 0)) := hid (fun q q2 => by unfold Dx; rw [if_neg (by simpa using q), if_pos q2])
 have N3 : Hid ((St.giveD b.stand (Hs b d)).2 = 0 → ¬ 30 ≤ b.auths.length + b.stand.adv.length → Dx b d = ({ b with stand := (St.giveD b.stand (Hs b d)).1 }, 0, ((b.auths.length + b.stand.adv.length : Nat) : Int))) := hid (fun q q2 => by unfold Dx; rw [if_neg (by simpa using q), if_neg q2])
 generalize Dx b d = R at *
 generalize Hs b d = x at *
 obtain ⟨v, cs, ds, H⟩ := h
 have hb0 := below_alloc w (ado x)
 have H1 := H.below hb0
 have S1 := Ac (lab := lab) hb0
 have hbx : (w.alloc (ado x)).heap[w.heap.size]? = some (ado x) := heap_alloc_at _ _ _ rfl
 obtain ⟨t0, t1, t2, t3⟩ := ado_cells hbx
 unfold ado at H1 S1 t0 t1 t2 t3 hbx
 clear hb0 H
 obtain ⟨a4, cap4, hv4⟩ := H1.mem.auths.form
 obtain ⟨u1, n1, hu1, -⟩ := H1.mem.used.lies
 obtain ⟨u2, n2, hu2, -⟩ := H1.mem.adv.lies
 obtain ⟨-, -, -, -, d4, -, -, -, -, -, -, -, -, d13, d14, d15, -⟩ := Ae H1.blk
 have At1 := H1.mem.used.at
 have At2 := H1.mem.adv.at
 rw [hu1] at At1
 rw [hu2] at At2
 rw [hv4] at d4
 rw [hu1] at d14
 rw [hu2] at d15
 replace hu1 := hid hu1
 replace hu2 := hid hu2
 replace hv4 := hid hv4
 have hadd : IntKind.i64.wrap ((b.auths.length : Int) + b.stand.adv.length) = (b.auths.length : Int) + b.stand.adv.length := wrap64' (by omega) (by omega)
 go_enter Tryz.func126, Tryz.ntmps126
 go_upto_region 1 with fail
 generalize relab lab w.heap.size 0 = l1 at *
 generalize w.alloc (.cells #[.int .i64 x.c, .int .i64 x.s, .int .i64 x.m, .int .i64 x.t] 123) = W at *
 go_quiet (fail)
 have hq0 := below_drewN (Below.refl W.heap.size W) nq
 have H2 := H1.below hq0
 have S2 := S1.trans (Ac hq0)
 generalize W.drewN nq = X0 at *
 have hG : ∀ X : World, Below X0.heap.size X0 X → Calls Tryz.prog 153 #[.agg #[.int .i64 b.stand.cap, .slice u1 b.stand.used.length n1, .slice u2 b.stand.adv.length n2], .agg #[.int .i64 x.c, .int .i64 x.s, .int .i64 x.m, .int .i64 x.t]] X _ := fun X hX => give_slices b.stand u1 u2 n1 n2 x X ((At1.below hq0).below hX) ((At2.below hq0).below hX)
 have hzl := lt_of_block hbx
 have hgl := lt_of_block H1.blk
 have kp : ∀ X : World, Below X0.heap.size X0 X → X.cell? ⟨g, 13, none⟩ = some (.int .i64 b.stand.cap) ∧ X.cell? ⟨g, 14, none⟩ = some (.slice u1 b.stand.used.length n1) ∧ X.cell? ⟨g, 15, none⟩ = some (.slice u2 b.stand.adv.length n2) ∧ X.cell? ⟨w.heap.size, 0, none⟩ = some (.int .i64 x.c) ∧ X.cell? ⟨w.heap.size, 1, none⟩ = some (.int .i64 x.s) ∧ X.cell? ⟨w.heap.size, 2, none⟩ = some (.int .i64 x.m) ∧ X.cell? ⟨w.heap.size, 3, none⟩ = some (.int .i64 x.t) := fun X hX => by
  have hB : Below W.heap.size W X := hq0.trans (hX.mono hq0.size)
  exact ⟨(hB.cell (p := ⟨g, 13, none⟩) hgl).trans d13, (hB.cell (p := ⟨g, 14, none⟩) hgl).trans d14, (hB.cell (p := ⟨g, 15, none⟩) hgl).trans d15, (hB.cell (p := ⟨w.heap.size, 0, none⟩) hzl).trans t0, (hB.cell (p := ⟨w.heap.size, 1, none⟩) hzl).trans t1, (hB.cell (p := ⟨w.heap.size, 2, none⟩) hzl).trans t2, (hB.cell (p := ⟨w.heap.size, 3, none⟩) hzl).trans t3⟩
 clear hadd H1 S1 At1 At2 d4 d13 d14 d15 t0 t1 t2 t3 hbx hq0
 generalize relab l1 W.heap.size 0 = l2 at *
 obtain ⟨r1, hr1⟩ : ∃ r1, Hid (r1 = (St.giveD b.stand x).1) := ⟨_, rfl⟩
 obtain ⟨r2, hr2⟩ : ∃ r2, Hid (r2 = (St.giveD b.stand x).2) := ⟨_, rfl⟩
 rw [← hr1.out, ← hr2.out] at hG
 rw [← hr2.out] at N1 N2 N3
 rw [← hr1.out] at N3
 clear hr1 hr2
 go_upto_region 2 with fail
 go_cut [7, 8] from 23 to 32 (fun p q' wc => ∃ Z a1 m1 a2 m2, p = .pointer (some ⟨Z, 0, none⟩) ∧ q' = .int .i64 r2 ∧ X0.heap.size ≤ Z ∧ wc.heap[Z]? = some (dno r1.cap (.slice a1 r1.used.length m1) (.slice a2 r1.adv.length m2)) ∧ Gn.Lies kI wc a1 m1 r1.used ∧ Past X0.heap.size a1 ∧ Gn.Lies St.kA wc a2 m2 r1.adv ∧ Past X0.heap.size a2 ∧ Below X0.heap.size X0 wc)
 case first =>
  refine wp_region_held_drew (S := (fun X => X.cell? ⟨g, 13, none⟩ = some (.int .i64 b.stand.cap) ∧ X.cell? ⟨g, 14, none⟩ = some (.slice u1 b.stand.used.length n1) ∧ X.cell? ⟨g, 15, none⟩ = some (.slice u2 b.stand.adv.length n2) ∧ X.cell? ⟨w.heap.size, 0, none⟩ = some (.int .i64 x.c) ∧ X.cell? ⟨w.heap.size, 1, none⟩ = some (.int .i64 x.s) ∧ X.cell? ⟨w.heap.size, 2, none⟩ = some (.int .i64 x.m) ∧ X.cell? ⟨w.heap.size, 3, none⟩ = some (.int .i64 x.t))) (by kernel_rfl) (kp _ ((Below.refl _ _).drew)) (fun hS => ?_)
  refine tk 0 (.pointer (some ⟨g, 0, none⟩)) hS ?_ ?_
  ·intro w' _; go_simp
  refine tk 1 (.pointer (some ⟨g, 0, none⟩)) hS ?_ ?_
  ·intro w' _; go_simp
  refine tk 2 (.pointer (some ⟨g, 0, none⟩)) hS ?_ ?_
  ·intro w' _; go_simp
  refine tk 3 (.pointer (some ⟨g, 13, none⟩)) hS ?_ ?_
  ·intro w' _; go_simp
  try simp only [Act.put]
  refine tk 4 (.agg #[.int .i64 b.stand.cap, .slice u1 b.stand.used.length n1, .slice u2 b.stand.adv.length n2]) hS ?_ ?_
  ·intro w' hS'; obtain ⟨E1, E2, E3, E4, E5, E6, E7⟩ := hS'; go_simp
  refine tk 5 (.agg #[.int .i64 x.c, .int .i64 x.s, .int .i64 x.m, .int .i64 x.t]) hS ?_ ?_
  ·intro w' hS'; obtain ⟨E1, E2, E3, E4, E5, E6, E7⟩ := hS'; go_simp
  try simp only [Act.put]
  refine wpAnyH_ready (rs := [6, 10]) (by kernel_rfl) (by simp) ?_
  refine AllReadyH.cons rfl (fun K hK => ?_) (AllReadyH.cons rfl (fun K hK => ?_) AllReadyH.nil)
  ·go_simp
   refine (hG _ ((Below.refl _ _).drew)).mono ?_
   rintro e w5 ⟨a1, m1, a2, m2, rfl, hl1, hp1, hl2, hp2, hb5⟩
   have hb5 : Below X0.heap.size X0 w5 := ((Below.refl _ _).drew).trans hb5
   go_simp
   refine hK.out _ _ (kp _ hb5) (fun hS => ?_)
   clear hK K
   refine tk 7 (.tuple #[.agg #[.int .i64 r1.cap, .slice a1 r1.used.length m1, .slice a2 r1.adv.length m2], .int .i64 r2]) hS ?_ ?_
   ·intro w' _; go_simp
   refine tk 8 (.agg #[.int .i64 r1.cap, .slice a1 r1.used.length m1, .slice a2 r1.adv.length m2]) hS ?_ ?_
   ·intro w' _; go_simp
   refine tk 9 (.int .i64 r2) hS ?_ ?_
   ·intro w' _; go_simp
   try simp only [Act.put]
   refine rd 10 (.cons rfl (fun K hK => ?_) .nil)
   go_simp
   refine hK.out _ _ (kp _ (bel_alloc hb5 _)) (fun hS => ?_)
   clear hK K
   try simp only [nrm, Act.put]
   refine rd 11 (.cons rfl (fun K hK => ?_) .nil)
   go_simp
   refine hK.out _ _ (kp _ (bel_alloc hb5 _)) (fun hS => ?_)
   clear hK K
   try simp only [nrm, Act.put]
   refine rd 12 (.cons rfl (fun K hK => ?_) .nil)
   go_simp
   refine hK.out _ _ (kp _ (bel_alloc hb5 _)) (fun hS => ?_)
   clear hK K
   try simp only [nrm, Act.put]
   refine wpAnyH_done (by kernel_rfl) ?_ _
   go_wp2_with fail
   go_meet
   exact ⟨w5.heap.size, a1, m1, a2, m2, rfl, rfl, hb5.size, heap_alloc_at _ _ _ rfl, hl1.alloc _, hp1, hl2.alloc _, hp2, bel_alloc hb5 _⟩
  ·go_simp
   refine hK.out _ _ (kp _ (bel_alloc (Below.refl _ _) _).drew) (fun hS => ?_)
   clear hK K
   try simp only [nrm, Act.put]
   refine rd 6 (.cons rfl (fun K hK => ?_) .nil)
   go_simp
   refine (hG _ ((bel_alloc (Below.refl _ _) (.cells #[.int .i64 0, .slice none 0 0, .slice none 0 0] 38)).drew)).mono ?_
   rintro e w5 ⟨a1, m1, a2, m2, rfl, hl1, hp1, hl2, hp2, hb5⟩
   have hz1 : w5.heap[X0.heap.size]? = some (dno 0 (.slice none 0 0) (.slice none 0 0)) := (hb5.block _ (by simp)).trans (heap_alloc_at _ _ _ rfl)
   have hp1 : Past (X0.heap.size + 1) a1 := by simpa using hp1
   have hp2 : Past (X0.heap.size + 1) a2 := by simpa using hp2
   have hb5 : Below X0.heap.size X0 w5 := (bel_alloc (Below.refl _ _) (.cells #[.int .i64 0, .slice none 0 0, .slice none 0 0] 38)).drew.trans (hb5.mono (by simp))
   go_simp
   refine hK.out _ _ (kp _ hb5) (fun hS => ?_)
   clear hK K
   refine tk 7 (.tuple #[.agg #[.int .i64 r1.cap, .slice a1 r1.used.length m1, .slice a2 r1.adv.length m2], .int .i64 r2]) hS ?_ ?_
   ·intro w' _; go_simp
   refine tk 8 (.agg #[.int .i64 r1.cap, .slice a1 r1.used.length m1, .slice a2 r1.adv.length m2]) hS ?_ ?_
   ·intro w' _; go_simp
   refine tk 9 (.int .i64 r2) hS ?_ ?_
   ·intro w' _; go_simp
   obtain ⟨z0, z1, z2⟩ := dno_cells hz1
   have zf : ∀ p, w5.frozen? ⟨X0.heap.size, p, none⟩ = false := fun p => by unfold dno at hz1; simp [World.frozen?, hz1]
   have zf0 := zf 0
   have zf1 := zf 1
   have zf2 := zf 2
   try simp only [Act.put]
   refine rd 11 (.cons rfl (fun K hK => ?_) .nil)
   go_simp
   have hY8 := dno_put (u := r1.cap) (x := .slice a1 r1.used.length m1) (y := .slice a2 r1.adv.length m2) hz1
   have hbY : Below X0.heap.size X0 (((w5.setCell ⟨X0.heap.size, 0, none⟩ (.int .i64 r1.cap)).setCell ⟨X0.heap.size, 1, none⟩ (.slice a1 r1.used.length m1)).setCell ⟨X0.heap.size, 2, none⟩ (.slice a2 r1.adv.length m2)) := by repeat (first | refine Below.setCell ?_ (by first | (simp; done) | omega) _ | exact hb5)
   have hlY : Gn.Lies kI (((w5.setCell ⟨X0.heap.size, 0, none⟩ (.int .i64 r1.cap)).setCell ⟨X0.heap.size, 1, none⟩ (.slice a1 r1.used.length m1)).setCell ⟨X0.heap.size, 2, none⟩ (.slice a2 r1.adv.length m2)) a1 m1 r1.used := by repeat (first | exact hl1 | refine Gn.Lies.set ?_ hp1 (by simp) _)
   have hlZ : Gn.Lies St.kA (((w5.setCell ⟨X0.heap.size, 0, none⟩ (.int .i64 r1.cap)).setCell ⟨X0.heap.size, 1, none⟩ (.slice a1 r1.used.length m1)).setCell ⟨X0.heap.size, 2, none⟩ (.slice a2 r1.adv.length m2)) a2 m2 r1.adv := by repeat (first | exact hl2 | refine Gn.Lies.set ?_ hp2 (by simp) _)
   generalize (((w5.setCell ⟨X0.heap.size, 0, none⟩ (.int .i64 r1.cap)).setCell ⟨X0.heap.size, 1, none⟩ (.slice a1 r1.used.length m1)).setCell ⟨X0.heap.size, 2, none⟩ (.slice a2 r1.adv.length m2)) = Y at *
   refine hK.out _ _ (kp _ hbY) (fun hS => ?_)
   clear hK K
   try simp only [nrm, Act.put]
   refine rd 12 (.cons rfl (fun K hK => ?_) .nil)
   go_simp
   refine hK.out _ _ (kp _ hbY) (fun hS => ?_)
   clear hK K
   try simp only [nrm, Act.put]
   refine wpAnyH_done (by kernel_rfl) ?_ _
   go_wp2_with fail
   go_meet
   exact ⟨X0.heap.size, a1, m1, a2, m2, rfl, rfl, Nat.le_refl _, hY8, hlY, past_less hp1, hlZ, past_less hp2, hbY⟩
 case rest =>
  obtain ⟨Z, a1, m1, a2, m2, rfl, rfl, hZ, hZb, hl1, hp1, hl2, hp2, hbc⟩ := hcut
  clear kp hG
  have H3 := H2.below hbc
  have S3 := S2.trans (Ac hbc)
  have p1 : Ap kI (relab l2 X0.heap.size 0) wc (.slice a1 r1.used.length m1) r1.used 0 := ap_new rfl hl1 hp1
  have p2 : Ap St.kA (relab l2 X0.heap.size 0) wc (.slice a2 r1.adv.length m2) r1.adv 0 := ap_new rfl hl2 hp2
  clear hbc hl1 hl2 hp1 hp2 H2 S2
  generalize relab l2 X0.heap.size 0 = l3 at *
  generalize wc = W3 at *
  obtain ⟨x0, x1, x2⟩ := dno_cells hZb
  obtain ⟨-, -, -, -, -, -, -, -, -, -, -, -, -, d13, d14, d15, -⟩ := Ae H3.blk
  rw [hu1.out] at d14
  rw [hu2.out] at d15
  have f13 := Bp H3.blk 13
  have f14 := Bp H3.blk 14
  have f15 := Bp H3.blk 15
  by_cases q : r2 = 0
  case neg =>
   have hE := hid (N1.out q)
   clear N1 N2 N3 p1 p2
   have q' : (r2 != 0) = true := by simpa using q
   by_cases q10 : r2 = 10
   ·subst q10
    rw [if_pos rfl] at hE
    go_wp2_with fail
    refine bodyPost_ret (v := .tuple #[.int .i64 0, .int .i64 12]) (by simp [results, Tryz.results126, go_sem]) rfl ?_
    unfold Done3
    rw [hE.out]
    exact ⟨rfl, _, H3.goes, S3⟩
   ·have q10' : (r2 == 10) = false := by simpa using q10
    rw [if_neg q10] at hE
    clear q q10
    go_wp2_with fail
    refine bodyPost_ret (v := .tuple #[.int .i64 0, .int .i64 r2]) (by simp [results, Tryz.results126, go_sem]) rfl ?_
    unfold Done3
    rw [hE.out]
    exact ⟨rfl, _, H3.goes, S3⟩
  case pos =>
   subst q
   by_cases q30 : 30 ≤ b.auths.length + b.stand.adv.length
   ·have hE := hid (N2.out rfl q30)
    have q30' : (30 : Int) ≤ (b.auths.length : Int) + b.stand.adv.length := by omega
    clear N1 N2 N3 p1 p2
    go_wp2_with fail
    refine bodyPost_ret (v := .tuple #[.int .i64 0, .int .i64 5]) (by simp [results, Tryz.results126, go_sem]) rfl ?_
    unfold Done3
    rw [hE.out]
    exact ⟨rfl, _, H3.goes, S3⟩
   ·have hE := hid (N3.out rfl q30)
    have q30' : ¬ ((30 : Int) ≤ (b.auths.length : Int) + b.stand.adv.length) := by omega
    clear N1 N2 N3
    obtain ⟨l4, H4, S4⟩ := H3.standPut (s := r1) p1 p2
    have S5 := S3.trans S4
    clear S3 S4 p1 p2 H3
    go_wp2_with fail
    refine bodyPost_ret (v := .tuple #[.int .i64 ((b.auths.length : Int) + b.stand.adv.length), .int .i64 0]) (by simp [results, Tryz.results126, go_sem]) rfl ?_
    unfold Done3
    rw [hE.out]
    exact ⟨by rw [Int.natCast_add], _, H4.goes, S5⟩
