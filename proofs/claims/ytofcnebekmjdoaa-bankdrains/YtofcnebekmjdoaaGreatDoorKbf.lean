import Derived.Test.YtofcnebekmjdoaaGreatDoorKbe
set_option maxHeartbeats 4000000
set_option maxRecDepth 100000
namespace Go.Proofs.YtofcnebekmjdoaaGreatDoor.Bn
open Go.RowKit Go.Proofs.YtofcnebekmjdoaaGreatDoor.Gn
theorem gaskCard(g base:Nat)(lab:Lab)(b:Bank)(tm:Value)(d:Dd)(k:Nat)(w:World)(h:Goes w g base lab b tm)(hx:d.n=k)(hk:k<b.cards.length)(hfew:b.auths.length≤1000):
    Calls Tryz.prog 127 #[.pointer (some ⟨g,0,none⟩),.int .i64 d.n,.int .i64 d.shop,.int .i64 d.sum] w (Done3 w g base lab tm (askUp b d)):=by
  have N1:Hid ((Au.newA d.n d.shop d.sum b.time).2≠0→askUp b d=(b,(Au.newA d.n d.shop d.sum b.time).2,0)):=hid (fun q=>by unfold askUp;rw[if_pos q])
  have N2:Hid ((Au.newA d.n d.shop d.sum b.time).2=0→30≤b.auths.length→askUp b d=(b,5,0)):=hid (fun q q2=>by unfold askUp;rw[if_neg (by simpa using q),if_pos q2])
  have N3:Hid ((Au.newA d.n d.shop d.sum b.time).2=0→¬30≤b.auths.length→(allowC (b.card d.n) d.sum b.time).2≠0→askUp b d=(b,(allowC (b.card d.n) d.sum b.time).2,0)):=hid (fun q q2 q3=>by unfold askUp;rw[if_neg (by simpa using q),if_neg q2,if_pos q3])
  have N4:Hid ((Au.newA d.n d.shop d.sum b.time).2=0→¬30≤b.auths.length→(allowC (b.card d.n) d.sum b.time).2=0→askUp b d=({ b with cards:=b.cards.set k (allowC (b.card d.n) d.sum b.time).1,auths:=b.auths++[(Au.newA d.n d.shop d.sum b.time).1]},0,(b.auths.length:Int))):=hid (fun q q2 q3=>by unfold askUp;rw[if_neg (by simpa using q),if_neg q2,if_neg (by simpa using q3),hx,Int.toNat_natCast])
  generalize askUp b d=R at*
  obtain⟨v,cs,ds,H⟩:=h
  obtain⟨gc,cap,C,hcc⟩:=H.mem.card hk
  rw[←hx]at hcc
  have hlen:=H.mem.cardsLen
  have hk':k<cs.length:=by omega
  have hk2:(k :Int)<cs.length:=by omega
  have hN:∀X:World,Calls Tryz.prog 154 #[.int .i64 d.n,.int .i64 d.shop,.int .i64 d.sum,.int .i64 b.time] X fun e w'=>e=.returned (.tuple #[Au.av (Au.newA d.n d.shop d.sum b.time).1,.int .i64 (Au.newA d.n d.shop d.sum b.time).2])∧Below X.heap.size X w':=fun X=>Au.new_any _ _ _ _ X
  obtain⟨q,hq⟩:∃q,Hid (q =cs.getD k zCV):=⟨_,rfl⟩
  rw[←hq.out]at C hcc
  have hF:∀X:World,Gn.Lies kU X q.a q.cap q.c.u→Calls Tryz.prog 155 #[cv q.c q.a q.cap,.int .i64 d.sum,.int .i64 b.time] X (AnswersO X q.a q.c.u (allowC q.c d.sum b.time)):=fun X hX=>by
    refine(allow_new q.c q.a q.cap d.sum b.time X (lies_uses hX)).mono ?_
    rintro e w'⟨a,cap,he,hl,hp,hb⟩
    exact⟨a,cap,he,hl,Or.inl hp,hb⟩
  rw[←hcc]at N3 N4
  clear hcc
  obtain⟨id,kind,n,shop,mv,sum⟩:=d
  dsimp only at*
  subst hx
  obtain⟨y,hy⟩:∃y,Hid (y =(Au.newA (k :Int) shop sum b.time).1):=⟨_,rfl⟩
  obtain⟨y2,hy2⟩:∃y2,Hid (y2=(Au.newA (k :Int) shop sum b.time).2):=⟨_,rfl⟩
  obtain⟨r1,hr1⟩:∃r1,Hid (r1 =(allowC q.c sum b.time).1):=⟨_,rfl⟩
  obtain⟨r2,hr2⟩:∃r2,Hid (r2=(allowC q.c sum b.time).2):=⟨_,rfl⟩
  rw[←hy.out,←hy2.out]at hN
  unfold AnswersO at hF
  rw[←hr1.out,←hr2.out]at hF
  rw[←hy2.out]at N1 N2 N3 N4
  rw[←hr2.out]at N3 N4
  rw[←hy.out,←hr1.out]at N4
  clear hy hy2 hr1 hr2
  unfold cv at hF
  unfold Au.av at hN
  have c0:=(blk_cells H.blk).1
  by_cases qa:y2=0
  case neg=>
    have hE:=hid (N1.out qa)
    have qa':(y2 !=0)=true:=by simpa using qa
    clear N1 N2 N3 N4 C hF qa
    go_enter Tryz.func127,Tryz.ntmps127
    go_wp2_with(go_at_call 154;refine(hN _).mono ?_;rintro e w1⟨rfl,hb1⟩)
    refine bodyPost_ret (v:=.tuple #[.int .i64 0,.int .i64 y2]) (by simp[results,Tryz.results127,go_sem]) rfl ?_
    unfold Done3
    rw[hE.out]
    exact⟨rfl,_,(H.below (bel_alloc hb1 _)).goes,stp_below (bel_alloc hb1 _)⟩
  subst qa
  replace N2:=hid (N2.out rfl)
  replace N3:=hid (N3.out rfl)
  replace N4:=hid (N4.out rfl)
  clear N1 C
  go_enter Tryz.func127,Tryz.ntmps127
  go_upto_region 4 with(go_at_call 154;refine(hN _).mono ?_;rintro e w1⟨rfl,hb1⟩)
  have hb1':=bel_alloc hb1 (.cells #[.int .i64 y.card,.int .i64 y.shop,.int .i64 y.sum,.int .i64 y.cap,.int .i64 y.ref,.int .i64 y.dis,.int .i64 y.till,.bool y.shut] 66)
  have hyb: (w1.alloc (.cells #[.int .i64 y.card, .int .i64 y.shop, .int .i64 y.sum, .int .i64 y.cap, .int .i64 y.ref, .int .i64 y.dis, .int .i64 y.till, .bool y.shut] 66)).heap[w1.heap.size]? = some (auo y) := heap_alloc_at w1 (auo y) _ rfl
  have hYW : w.heap.size ≤ w1.heap.size := hb1.size
  generalize w1.alloc (.cells #[.int .i64 y.card, .int .i64 y.shop, .int .i64 y.sum, .int .i64 y.cap, .int .i64 y.ref, .int .i64 y.dis, .int .i64 y.till, .bool y.shut] 66) = X0 at *
  generalize w1.heap.size = ZA at *
  have H2 := H.below hb1'
  have S2 := stp_below (lab := lab) hb1'
  have Y2l : relab lab w.heap.size 0 ZA = 0 := relab_new hYW
  clear hb1 hb1' c0 H hN
  generalize relab lab w.heap.size 0 = lab2 at *
  obtain ⟨gc, cap, C, -⟩ := H2.mem.card hk
  rw [← hq.out] at C
  obtain ⟨c0, -, c2, -, c4, -⟩ := blk_cells H2.blk
  rw [C.val] at c2
  obtain ⟨a4, cap4, hv4⟩ := H2.mem.auths.form
  rw [hv4] at c4
  replace hv4 := hid hv4
  by_cases q30 : 30 ≤ b.auths.length
  case pos =>
    have hE := hid (N2.out q30)
    have q30' : (30 : Int) ≤ b.auths.length := by omega
    clear N2 N3 N4 hF
    go_wp2_with fail
    refine bodyPost_ret (v := .tuple #[.int .i64 0, .int .i64 5]) (by simp [results, Tryz.results127, go_sem]) rfl ?_
    unfold Done3
    rw [hE.out]
    exact ⟨rfl, _, H2.goes, S2⟩
  have q30' : ¬ ((30 : Int) ≤ b.auths.length) := by omega
  replace N3 := hid (N3.out q30)
  replace N4 := hid (N4.out q30)
  clear N2
  go_upto_region 6 with fail
  have hgl := lt_of_block H2.blk
  have hLq : Gn.Lies kU X0 q.a q.cap q.c.u := C.uses.out
  have kp : ∀ X : World, Below X0.heap.size X0 X → X.cell? ⟨g, 2, none⟩ = some (.slice (some ⟨gc, 0, none⟩) cs.length cap) ∧ X.cell? ⟨g, 0, none⟩ = some (.int .i64 b.time) ∧ X.cell? ⟨gc, k * 6, none⟩ = some (.int .i64 q.c.m) ∧ X.cell? ⟨gc, k * 6 + 1, none⟩ = some (.int .i64 q.c.h) ∧ X.cell? ⟨gc, k * 6 + 2, none⟩ = some (.int .i64 q.c.p.t) ∧ X.cell? ⟨gc, k * 6 + 3, none⟩ = some (.int .i64 q.c.p.c) ∧ X.cell? ⟨gc, k * 6 + 4, none⟩ = some (.int .i64 q.c.p.s) ∧ X.cell? ⟨gc, k * 6 + 5, none⟩ = some (.slice q.a q.c.u.length q.cap) := fun X hX =>
    ⟨(hX.cell (p := ⟨g, 2, none⟩) hgl).trans c2, (hX.cell (p := ⟨g, 0, none⟩) hgl).trans c0, (hX.cell (p := ⟨gc, k * 6, none⟩) C.lt).trans C.c0, (hX.cell (p := ⟨gc, k * 6 + 1, none⟩) C.lt).trans C.c1, (hX.cell (p := ⟨gc, k * 6 + 2, none⟩) C.lt).trans C.c2, (hX.cell (p := ⟨gc, k * 6 + 3, none⟩) C.lt).trans C.c3, (hX.cell (p := ⟨gc, k * 6 + 4, none⟩) C.lt).trans C.c4, (hX.cell (p := ⟨gc, k * 6 + 5, none⟩) C.lt).trans C.c5⟩
  go_cut [12, 11] from 35 to 52 (fun p q' wc => ∃ Z a' cap', p = .pointer (some ⟨Z, 0, none⟩) ∧ q' = .int .i64 r2 ∧ X0.heap.size ≤ Z ∧ wc.heap[Z]? = some (co r1 a' cap') ∧ Gn.Lies kU wc a' cap' r1.u ∧ Tied X0.heap.size q.a q.c.u a' r1.u ∧ Below X0.heap.size X0 wc)
  case first =>
    refine wp_region_held_drew (S := (fun X => X.cell? ⟨g, 2, none⟩ = some (.slice (some ⟨gc, 0, none⟩) cs.length cap) ∧ X.cell? ⟨g, 0, none⟩ = some (.int .i64 b.time) ∧ X.cell? ⟨gc, k * 6, none⟩ = some (.int .i64 q.c.m) ∧ X.cell? ⟨gc, k * 6 + 1, none⟩ = some (.int .i64 q.c.h) ∧ X.cell? ⟨gc, k * 6 + 2, none⟩ = some (.int .i64 q.c.p.t) ∧ X.cell? ⟨gc, k * 6 + 3, none⟩ = some (.int .i64 q.c.p.c) ∧ X.cell? ⟨gc, k * 6 + 4, none⟩ = some (.int .i64 q.c.p.s) ∧ X.cell? ⟨gc, k * 6 + 5, none⟩ = some (.slice q.a q.c.u.length q.cap))) (by kernel_rfl) (kp _ ((Below.refl _ _).drew)) (fun hS => ?_)
    refine tk 0 (.pointer (some ⟨g, 0, none⟩)) hS ?_ ?_
    · intro w' _; go_simp
    refine tk 1 (.pointer (some ⟨g, 0, none⟩)) hS ?_ ?_
    · intro w' _; go_simp
    refine tk 2 (.pointer (some ⟨g, 0, none⟩)) hS ?_ ?_
    · intro w' _; go_simp
    refine tk 3 (.pointer (some ⟨g, 2, none⟩)) hS ?_ ?_
    · intro w' _; go_simp
    try simp only [Act.put]
    refine tk 4 (.slice (some ⟨gc, 0, none⟩) cs.length cap) hS ?_ ?_
    · intro w' hS'; obtain ⟨E1, E2, k0, k1, k2, k3, k4, k5⟩ := hS'; go_simp
    refine tk 5 (.int .i64 (k : Int)) hS ?_ ?_
    · intro w' _; go_simp
    refine tk 6 (.pointer (some ⟨gc, k * 6, none⟩)) hS ?_ ?_
    · intro w' _; go_simp
    refine tk 7 (.agg #[.int .i64 q.c.m, .int .i64 q.c.h, .int .i64 q.c.p.t, .int .i64 q.c.p.c, .int .i64 q.c.p.s, .slice q.a q.c.u.length q.cap]) hS ?_ ?_
    · intro w' hS'; obtain ⟨E1, E2, k0, k1, k2, k3, k4, k5⟩ := hS'; go_simp
    try simp only [Act.put]
    refine tk 8 (.int .i64 sum) hS ?_ ?_
    · intro w' _; go_simp
    refine tk 9 (.pointer (some ⟨g, 0, none⟩)) hS ?_ ?_
    · intro w' _; go_simp
    refine tk 10 (.pointer (some ⟨g, 0, none⟩)) hS ?_ ?_
    · intro w' _; go_simp
    refine tk 11 (.pointer (some ⟨g, 0, none⟩)) hS ?_ ?_
    · intro w' _; go_simp
    try simp only [Act.put]
    refine tk 12 (.pointer (some ⟨g, 0, none⟩)) hS ?_ ?_
    · intro w' _; go_simp
    refine tk 13 (.int .i64 b.time) hS ?_ ?_
    · intro w' hS'; obtain ⟨E1, E2, k0, k1, k2, k3, k4, k5⟩ := hS'; go_simp
    try simp only [Act.put]
    refine wpAnyH_ready (rs := [14, 18]) (by kernel_rfl) (by simp) ?_
    refine AllReadyH.cons rfl (fun K hK => ?_) (AllReadyH.cons rfl (fun K hK => ?_) AllReadyH.nil)
    · go_simp
      refine (hF _ (hLq.below ((Below.refl _ _).drew))).mono ?_
      rintro e w5 ⟨a', cap', rfl, hl5, ht5, hb5⟩
      have hb5 : Below X0.heap.size X0 w5 := ((Below.refl _ _).drew).trans hb5
      go_simp
      refine hK.out _ _ (kp _ hb5) (fun hS => ?_)
      clear hK K
      refine tk 15 (.tuple #[.agg #[.int .i64 r1.m, .int .i64 r1.h, .int .i64 r1.p.t, .int .i64 r1.p.c, .int .i64 r1.p.s, .slice a' r1.u.length cap'], .int .i64 r2]) hS ?_ ?_
      · intro w' _; go_simp
      refine tk 16 (.agg #[.int .i64 r1.m, .int .i64 r1.h, .int .i64 r1.p.t, .int .i64 r1.p.c, .int .i64 r1.p.s, .slice a' r1.u.length cap']) hS ?_ ?_
      · intro w' _; go_simp
      refine tk 17 (.int .i64 r2) hS ?_ ?_
      · intro w' _; go_simp
      try simp only [Act.put]
      refine rd 18 (.cons rfl (fun K hK => ?_) .nil)
      go_simp
      refine hK.out _ _ (kp _ (bel_alloc hb5 _)) (fun hS => ?_)
      clear hK K
      try simp only [nrm, Act.put]
      refine rd 19 (.cons rfl (fun K hK => ?_) .nil)
      go_simp
      refine hK.out _ _ (kp _ (bel_alloc hb5 _)) (fun hS => ?_)
      clear hK K
      try simp only [nrm, Act.put]
      refine rd 20 (.cons rfl (fun K hK => ?_) .nil)
      go_simp
      refine hK.out _ _ (kp _ (bel_alloc hb5 _)) (fun hS => ?_)
      clear hK K
      try simp only [nrm, Act.put]
      refine wpAnyH_done (by kernel_rfl) ?_ _
      go_wp2_with fail
      go_meet
      exact ⟨w5.heap.size, a', cap', rfl, rfl, hb5.size, heap_alloc_at w5 (co r1 a' cap') _ rfl, (uses_lies hl5).alloc _, ht5, bel_alloc hb5 _⟩
    · go_simp
      refine hK.out _ _ (kp _ (bel_alloc (Below.refl _ _) _).drew) (fun hS => ?_)
      clear hK K
      try simp only [nrm, Act.put]
      refine rd 14 (.cons rfl (fun K hK => ?_) .nil)
      go_simp
      refine (hF _ (hLq.below ((bel_alloc (Below.refl _ _) (.cells #[.int .i64 0, .int .i64 0, .int .i64 0, .int .i64 0, .int .i64 0, .slice none 0 0] 61)).drew))).mono ?_
      rintro e w5 ⟨a', cap', rfl, hl5, ht5, hb5⟩
      have hz1 : w5.heap[X0.heap.size]? = some (co zeroC none 0) := (hb5.block _ (by simp)).trans (heap_alloc_at _ _ _ rfl)
      have ht5 : Tied (X0.heap.size + 1) q.a q.c.u a' r1.u := by simpa using ht5
      have hb5 : Below X0.heap.size X0 w5 := (bel_alloc (Below.refl _ _) (.cells #[.int .i64 0, .int .i64 0, .int .i64 0, .int .i64 0, .int .i64 0, .slice none 0 0] 61)).drew.trans (hb5.mono (by simp))
      go_simp
      refine hK.out _ _ (kp _ hb5) (fun hS => ?_)
      clear hK K
      refine tk 15 (.tuple #[.agg #[.int .i64 r1.m, .int .i64 r1.h, .int .i64 r1.p.t, .int .i64 r1.p.c, .int .i64 r1.p.s, .slice a' r1.u.length cap'], .int .i64 r2]) hS ?_ ?_
      · intro w' _; go_simp
      refine tk 16 (.agg #[.int .i64 r1.m, .int .i64 r1.h, .int .i64 r1.p.t, .int .i64 r1.p.c, .int .i64 r1.p.s, .slice a' r1.u.length cap']) hS ?_ ?_
      · intro w' _; go_simp
      refine tk 17 (.int .i64 r2) hS ?_ ?_
      · intro w' _; go_simp
      obtain ⟨z0, z1, z2, z3, z4, z5⟩ := co_cells hz1
      have zf : ∀ p, w5.frozen? ⟨X0.heap.size, p, none⟩ = false := fun p => by unfold co at hz1; simp [World.frozen?, hz1]
      have zf0 := zf 0
      have zf1 := zf 1
      have zf2 := zf 2
      have zf3 := zf 3
      have zf4 := zf 4
      have zf5 := zf 5
      try simp only [Act.put]
      refine rd 19 (.cons rfl (fun K hK => ?_) .nil)
      go_simp
      have hY8 := co_put (c := r1) (a := a') (cap := cap') hz1
      have hbY : Below X0.heap.size X0 ((((((w5.setCell ⟨X0.heap.size, 0, none⟩ (.int .i64 r1.m)).setCell ⟨X0.heap.size, 1, none⟩ (.int .i64 r1.h)).setCell ⟨X0.heap.size, 2, none⟩ (.int .i64 r1.p.t)).setCell ⟨X0.heap.size, 3, none⟩ (.int .i64 r1.p.c)).setCell ⟨X0.heap.size, 4, none⟩ (.int .i64 r1.p.s)).setCell ⟨X0.heap.size, 5, none⟩ (.slice a' r1.u.length cap')) := by repeat (first | refine Below.setCell ?_ (by first | (simp; done) | omega) _ | exact hb5)
      have hlY : Gn.Lies kU ((((((w5.setCell ⟨X0.heap.size, 0, none⟩ (.int .i64 r1.m)).setCell ⟨X0.heap.size, 1, none⟩ (.int .i64 r1.h)).setCell ⟨X0.heap.size, 2, none⟩ (.int .i64 r1.p.t)).setCell ⟨X0.heap.size, 3, none⟩ (.int .i64 r1.p.c)).setCell ⟨X0.heap.size, 4, none⟩ (.int .i64 r1.p.s)).setCell ⟨X0.heap.size, 5, none⟩ (.slice a' r1.u.length cap')) a' cap' r1.u := lies_store (uses_lies hl5) ht5 hLq (by simp) (fun k hk => by repeat (first | rw [heap_setCell_other _ _ _ _ hk]))
      generalize ((((((w5.setCell ⟨X0.heap.size, 0, none⟩ (.int .i64 r1.m)).setCell ⟨X0.heap.size, 1, none⟩ (.int .i64 r1.h)).setCell ⟨X0.heap.size, 2, none⟩ (.int .i64 r1.p.t)).setCell ⟨X0.heap.size, 3, none⟩ (.int .i64 r1.p.c)).setCell ⟨X0.heap.size, 4, none⟩ (.int .i64 r1.p.s)).setCell ⟨X0.heap.size, 5, none⟩ (.slice a' r1.u.length cap')) = Y at *
      refine hK.out _ _ (kp _ hbY) (fun hS => ?_)
      clear hK K
      try simp only [nrm, Act.put]
      refine rd 20 (.cons rfl (fun K hK => ?_) .nil)
      go_simp
      refine hK.out _ _ (kp _ hbY) (fun hS => ?_)
      clear hK K
      try simp only [nrm, Act.put]
      refine wpAnyH_done (by kernel_rfl) ?_ _
      go_wp2_with fail
      go_meet
      exact ⟨X0.heap.size, a', cap', rfl, rfl, Nat.le_refl _, hY8, hlY, tied_less ht5 (by omega), hbY⟩
  case rest =>
    obtain ⟨Z, a', cap', rfl, rfl, hZ, hZb, hZl, hZt, hbc⟩ := hcut
    clear kp hF c2 c0 c4
    have Y3 := (hbc.block _ (lt_of_block hyb)).trans hyb
    have H3 := H2.below hbc
    have S3 := S2.trans (stp_below hbc)
    have u3 := ap_tied C.uses hZl hZt
    have Y3l : relab lab2 X0.heap.size 0 ZA = 0 := by rw [relab_old (lt_of_block hyb)]; exact Y2l
    have Z3l : relab lab2 X0.heap.size 0 Z = 0 := relab_new hZ
    clear hbc hZ hZl hZt hyb hgl hLq C Y2l H2 S2
    generalize relab lab2 X0.heap.size 0 = lab3 at *
    generalize wc = W3 at *
    by_cases q2 : r2 = 0
    case neg =>
      have hE := hid (N3.out q2)
      have q2' : (r2 != 0) = true := by simpa using q2
      clear N3 N4 q2
      go_wp2_with fail
      refine bodyPost_ret (v := .tuple #[.int .i64 0, .int .i64 r2]) (by simp [results, Tryz.results127, go_sem]) rfl ?_
      unfold Done3
      rw [hE.out]
      exact ⟨rfl, _, H3.goes, S3⟩
    subst q2
    have hE := hid (N4.out rfl)
    clear N3 N4
    obtain ⟨gc, cap, C, -⟩ := H3.mem.card (k := k) hk
    rw [← hq.out] at C
    obtain ⟨-, -, c2, -⟩ := blk_cells H3.blk
    rw [C.val] at c2
    obtain ⟨q0, q1, q2, q3, q4, q5⟩ := (⟨C.c0, C.c1, C.c2, C.c3, C.c4, C.c5⟩ : _ ∧ _ ∧ _ ∧ _ ∧ _ ∧ _)
    obtain ⟨x0, x1, x2, x3, x4, x5⟩ := co_cells hZb
    have z0 := C.fz (k * 6)
    have z1 := C.fz (k * 6 + 1)
    have z2 := C.fz (k * 6 + 2)
    have z3 := C.fz (k * 6 + 3)
    have z4 := C.fz (k * 6 + 4)
    have z5 := C.fz (k * 6 + 5)
    have H4 := H3.cardPut C (y := ⟨r1, a', cap'⟩) u3
    have T4 := stp_putAll (w := W3) C.lb (by decide) (by decide) (k * 6) (kC.cells ⟨r1, a', cap'⟩)
    have S4 := S3.trans T4
    have Y4 := T4.at Y3 Y3l
    have Y4l := T4.zero (lt_of_block Y3) Y3l
    clear T4 S3 Y3 Y3l Z3l u3
    go_upto_region 9 with fail
    go_region
    all_goals
      replace H4 := H4.drew
      replace S4 := S4.drew
      replace Y4 : (putAll W3 gc (k * 6) (kC.cells ⟨r1, a', cap'⟩)).drew.heap[ZA]? = some (auo y) := by rw [heap_drew]; exact Y4
      obtain ⟨W4, hW4⟩ : ∃ W4, Hid (W4 = (putAll W3 gc (k * 6) (kC.cells ⟨r1, a', cap'⟩)).drew) := ⟨_, rfl⟩
      have hW4' := hW4
      rw [show kC.cells ⟨r1, a', cap'⟩ = [.int .i64 r1.m, .int .i64 r1.h, .int .i64 r1.p.t, .int .i64 r1.p.c, .int .i64 r1.p.s, .slice a' r1.u.length cap'] from rfl, putAll6] at hW4'
      rw [← hW4.out] at H4 S4 Y4
      try rw [← hW4'.out]
      clear hW4 hW4' q0 q1 q2 q3 q4 q5 x0 x1 x2 x3 x4 x5 z0 z1 z2 z3 z4 z5 c2 C H3 hZb
      obtain ⟨-, -, -, -, c4, -⟩ := blk_cells H4.blk
      have hv5 : v.a = .slice a4 b.auths.length cap4 := hv4.out
      try dsimp only at c4
      rw [hv5] at c4
      have hrow := H4.mem.auths.row
      have hoff := H4.off H4.mem.auths (by decide)
      try dsimp only at hrow hoff
      rw [hv5] at hrow hoff
      have hWb : base ≤ W4.heap.size := H4.mem.lo
      obtain ⟨y0, y1, y2, y3, y4, y5, y6, y7⟩ := (auo_cells Y4).all
      go_upto_region 10 with fail
      have CA : ∀ o, (W4.alloc o).cell? ⟨g, 4, none⟩ = some (.slice a4 b.auths.length cap4) := fun o => (World.cell?_alloc_past _ _ _ (lt_of_block H4.blk)).trans c4
      replace hv5 := hid hv5
      go_region_law
        (first
          | (refine step_append elemAu _ rfl (.tmp 69) (.tmp 71) rfl base (.slice a4 b.auths.length cap4) b.auths rfl (by repeat (first | exact hrow | refine Row.drew ?_ | refine Row.alloc ?_ _)) _ 1 1 [y] rfl rfl (lies_one (by repeat (first | exact heap_alloc_at _ _ _ (by first | omega | (simp; done) | (simp; omega)) | rw [heap_drew])) rfl _) (by simp [maxLen]; omega) (by simp; omega) (by first | omega | (simp; done) | (simp; omega)) ?_
             intro v1 w2 hown hgrow hat hon
             have B4 := (bel_alloc (Below.refl W4.heap.size W4) (.cells #[.int .i64 y.card, .int .i64 y.shop, .int .i64 y.sum, .int .i64 y.cap, .int .i64 y.ref, .int .i64 y.dis, .int .i64 y.till, .bool y.shut] 66)).drew
             have H5 := H4.below B4
             have S5 := S4.trans (stp_below B4)
             have hT := H5.mem.auths
             try dsimp only at hT
             rw [hv5.out] at hT
             have ho := only_grown hgrow hT.lab (by decide)
             have hg2 := H5.appBlk ho (by decide)
             have D4 := (blk_cells hg2).2.2.2.2.1
             try dsimp only at D4
             rw [hv5.out] at D4
             have F4 := blk_free hg2 4
             obtain ⟨a1, cap1, rfl, -, -, -⟩ := hown.lies
             have H6 := H5.app ho (by decide) (H5.mem.authsTo ho (hT.grow hown (fun _ => hon (by simp)) hat)) (i := 4) (x := .slice a1 (b.auths ++ [y]).length cap1) (by rfl)
             have S6 := S5.trans ((stp_only ho (by decide)).trans (stp_set (x := .slice a1 (b.auths ++ [y]).length cap1) (i := 4) (by rw [relab_old (lt_of_block H5.blk)]; exact H5.lb)))
             clear hT hgrow hat hon hown H5 S5 B4)
          | fail)
      all_goals
        rw [List.length_append] at H6 S6
        simp only [List.length_singleton] at H6 S6
        have g4 := (blk_cells H6.blk).2.2.2.2.1
        try dsimp only at g4
        clear S4 H4 CA y0 y1 y2 y3 y4 y5 y6 y7 D4 F4 c4 hrow hoff Y4 hg2 ho
        generalize w2.setCell ⟨g, 4, none⟩ (.slice a1 (b.auths.length + 1) cap1) = W6 at *
        go_wp2_with fail
        refine bodyPost_ret (v := .tuple #[.int .i64 ((b.auths.length : Int) + 1 - 1), .int .i64 0]) (by simp [results, Tryz.results127, go_sem]) rfl ?_
        unfold Done3
        rw [hE.out]
        exact ⟨by rw [Int.add_sub_cancel], _, H6.goes, S6⟩
end Go.Proofs.YtofcnebekmjdoaaGreatDoor.Bn
