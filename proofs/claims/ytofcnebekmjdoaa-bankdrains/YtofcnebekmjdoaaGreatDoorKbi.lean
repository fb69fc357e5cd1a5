import Derived.Test.YtofcnebekmjdoaaGreatDoorKbh
set_option maxHeartbeats 4000000
set_option maxRecDepth 100000
namespace Go.Proofs.YtofcnebekmjdoaaGreatDoor.Bn
open Go.RowKit Go.Proofs.YtofcnebekmjdoaaGreatDoor.Gn
theorem gmove_err (g base:Nat) (lab:Lab) (b:Bank) (tm:Value) (d:Dd) (w:World) (h:Goes w g base lab b tm) (O:Okm b d) (hdn:b.down=false) (k:Nat) (hk:d.n=k) (hkl:k<b.auths.length) (he:Au.mvErr (b.auths.getD k zA) d.mv d.sum≠0):
  Calls Tryz.prog 98 #[.pointer (some ⟨g,0,none⟩),ddv d] w (Done w g base lab tm (b,Au.mvErr (b.auths.getD k zA) d.mv d.sum)):=by
 obtain⟨v,cs,ds,H⟩:=h.hand
 have hmv:=Au.mv_no he
 have hM:∀X:World,Calls Tryz.prog 128 #[Au.av (b.auths.getD k zA),.int .i64 d.mv,.int .i64 d.sum] X fun e w'=>e=.returned (.tuple #[Au.av Au.none0,.int .i64 (Au.mvErr (b.auths.getD k zA) d.mv d.sum)])∧Below X.heap.size X w':=fun X=>by
  have :=Au.move_any (b.auths.getD k zA) d.mv d.sum X
  rw[hmv] at this
  exact this
 have hb0:=below_alloc w (ddo d)
 obtain⟨W,hWd⟩:∃W,Hid (W=w.alloc (ddo d)):=⟨_,rfl⟩
 rw[←hWd.out] at hb0
 have H1:=H.below hb0
 have S1:=stp_below (lab:=lab) hb0
 have D1:Dz W (relab lab w.heap.size 0) w.heap.size d:=⟨by rw[hWd.out];exact heap_alloc_at _ _ _ rfl,relab_new (Nat.le_refl _)⟩
 obtain⟨d0,d1,d2,d3,d4,d5⟩:=ddo_cells D1.db
 obtain⟨ga,cap,A⟩:=H1.mem.authAt hkl
 obtain⟨-,c1,-,-,c4,-⟩:=blk_cells H1.blk
 rw[A.val] at c4
 rw[hdn] at c1
 have hk2:(k :Int)<b.auths.length:=by omega
 have hkn:k≤1000:=by have :=O.n30;omega
 obtain⟨id,kind,n,shop,mv,sum⟩:=d
 dsimp only at*
 subst hk
 obtain⟨x,hx⟩:∃x,Hid (x=b.auths.getD k zA):=⟨_,rfl⟩
 obtain⟨y,hy⟩:∃y,Hid (y =Au.none0):=⟨_,rfl⟩
 obtain⟨er,her⟩:∃er,Hid (er =Au.mvErr (b.auths.getD k zA) mv sum):=⟨_,rfl⟩
 rw[←her.out] at he hM⊢
 have he':(er !=0)=true:=by simpa using he
 have A8:=A.cells
 rw[←hx.out] at A8
 rw[←hy.out,←hx.out] at hM
 clear hmv he
 unfold Au.av at hM
 have hgl:=lt_of_block H1.blk
 have hzl:=lt_of_block D1.db
 have keep:∀X:World,Below W.heap.size W X→(X.cell? ⟨g,4,none⟩=some (.slice (some ⟨ga,0,none⟩) b.auths.length cap))∧Au8 X ga (k *8) x∧X.cell? ⟨w.heap.size,2,none⟩=some (.int .i64 k)∧X.cell? ⟨w.heap.size,4,none⟩=some (.int .i64 mv)∧X.cell? ⟨w.heap.size,5,none⟩=some (.int .i64 sum):=fun X hX=>
  ⟨(hX.cell (p:=⟨g,4,none⟩) hgl).trans c4,A8.on (hX.block _ A.lt),(hX.cell (p:=⟨w.heap.size,2,none⟩) hzl).trans d2,(hX.cell (p:=⟨w.heap.size,4,none⟩) hzl).trans d4,(hX.cell (p:=⟨w.heap.size,5,none⟩) hzl).trans d5⟩
 unfold ddv
 have hWd2:=hWd
 unfold ddo at hWd2
 dsimp only at hWd2
 have g1:decide ((k:Int)<0)=false:=decide_eq_false (by omega)
 have g2:decide ((b.auths.length :Int)≤(k:Int))=false:=decide_eq_false (by omega)
 have g1':¬((k:Int)<0):=by omega
 have g2':¬((b.auths.length :Int)≤(k:Int)):=by omega
 go_enter Tryz.func98,Tryz.ntmps98
 go_upto_region 1 with fail
 rw[←hWd2.out]
 go_upto_region 3 with fail
 go_quiet (fail)
 have hq0:=below_drewN (Below.refl W.heap.size W) nq
 generalize W.drewN nq=X0 at*
 go_upto_region 5 with fail
 go_cut[5,6] from 26 to 42 (fun p q wc=>∃Z,p=.pointer (some ⟨Z,0,none⟩)∧q=.int .i64 er∧W.heap.size≤Z∧wc.heap[Z]?=some (auo y)∧Below W.heap.size W wc)
 case first=>
  refine wp_region_held_drew (S:=(fun X=>X.cell? ⟨g,4,none⟩=some (.slice (some ⟨ga,0,none⟩) b.auths.length cap)∧Au8 X ga (k *8) x∧X.cell? ⟨w.heap.size,2,none⟩=some (.int .i64 k)∧X.cell? ⟨w.heap.size,4,none⟩=some (.int .i64 mv)∧X.cell? ⟨w.heap.size,5,none⟩=some (.int .i64 sum))) (by kernel_rfl) (keep _ hq0.drew) (fun hS=>?_)
  refine tk 0 (.pointer (some ⟨g,0,none⟩)) hS ?_ ?_
  ·intro w' _;go_simp
  refine tk 1 (.pointer (some ⟨g,0,none⟩)) hS ?_ ?_
  ·intro w' _;go_simp
  refine tk 2 (.pointer (some ⟨g,0,none⟩)) hS ?_ ?_
  ·intro w' _;go_simp
  refine tk 3 (.pointer (some ⟨g,4,none⟩)) hS ?_ ?_
  ·intro w' _;go_simp
  try simp only[List.getElem_toArray,List.getElem_cons_zero,List.getElem_cons_succ,Act.put,List.setIfInBounds_toArray,List.set_cons_zero,List.set_cons_succ]
  refine tk 4 (.slice (some ⟨ga,0,none⟩) b.auths.length cap) hS ?_ ?_
  ·intro w' hS';obtain⟨C4,Q2,E2,E4,E5⟩:=hS';obtain⟨e0,e1,e2,e3,e4,e5,e6,e7⟩:=Q2.all;go_simp
  refine tk 5 (.pointer (some ⟨w.heap.size,2,none⟩)) hS ?_ ?_
  ·intro w' _;go_simp
  refine tk 6 (.int .i64 (k :Int)) hS ?_ ?_
  ·intro w' hS';obtain⟨C4,Q2,E2,E4,E5⟩:=hS';obtain⟨e0,e1,e2,e3,e4,e5,e6,e7⟩:=Q2.all;go_simp
  refine tk 7 (.pointer (some ⟨ga,k*8,none⟩)) hS ?_ ?_
  ·intro w' _;go_simp
  try simp only[List.getElem_toArray,List.getElem_cons_zero,List.getElem_cons_succ,Act.put,List.setIfInBounds_toArray,List.set_cons_zero,List.set_cons_succ]
  refine tk 8 (.agg #[.int .i64 x.card,.int .i64 x.shop,.int .i64 x.sum,.int .i64 x.cap,.int .i64 x.ref,.int .i64 x.dis,.int .i64 x.till,.bool x.shut]) hS ?_ ?_
  ·intro w' hS';obtain⟨C4,Q2,E2,E4,E5⟩:=hS';obtain⟨e0,e1,e2,e3,e4,e5,e6,e7⟩:=Q2.all;go_simp
  refine tk 9 (.pointer (some ⟨w.heap.size,4,none⟩)) hS ?_ ?_
  ·intro w' _;go_simp
  refine tk 10 (.int .i64 mv) hS ?_ ?_
  ·intro w' hS';obtain⟨C4,Q2,E2,E4,E5⟩:=hS';obtain⟨e0,e1,e2,e3,e4,e5,e6,e7⟩:=Q2.all;go_simp
  refine tk 11 (.pointer (some ⟨w.heap.size,5,none⟩)) hS ?_ ?_
  ·intro w' _;go_simp
  try simp only[List.getElem_toArray,List.getElem_cons_zero,List.getElem_cons_succ,Act.put,List.setIfInBounds_toArray,List.set_cons_zero,List.set_cons_succ]
  refine tk 12 (.int .i64 sum) hS ?_ ?_
  ·intro w' hS';obtain⟨C4,Q2,E2,E4,E5⟩:=hS';obtain⟨e0,e1,e2,e3,e4,e5,e6,e7⟩:=Q2.all;go_simp
  try simp only[List.getElem_toArray,List.getElem_cons_zero,List.getElem_cons_succ,Act.put,List.setIfInBounds_toArray,List.set_cons_zero,List.set_cons_succ]
  refine wpAnyH_ready (rs:=[13,17]) (by kernel_rfl) (by simp) ?_
  refine AllReadyH.cons rfl (fun K hK=>?_) (AllReadyH.cons rfl (fun K hK=>?_) AllReadyH.nil)
  ·go_simp
   refine (hM _).mono ?_
   rintro e w1⟨rfl,hb1⟩
   have hb1:Below W.heap.size W w1:=hq0.drew.trans (hb1.mono hq0.size)
   go_simp
   refine hK.out _ _ (keep _ hb1) (fun hS=>?_)
   clear hK K
   refine tk 14 (.tuple #[.agg #[.int .i64 y.card,.int .i64 y.shop,.int .i64 y.sum,.int .i64 y.cap,.int .i64 y.ref,.int .i64 y.dis,.int .i64 y.till,.bool y.shut],.int .i64 er]) hS ?_ ?_
   ·intro w' _;go_simp
   refine tk 15 (.agg #[.int .i64 y.card,.int .i64 y.shop,.int .i64 y.sum,.int .i64 y.cap,.int .i64 y.ref,.int .i64 y.dis,.int .i64 y.till,.bool y.shut]) hS ?_ ?_
   ·intro w' _;go_simp
   refine tk 16 (.int .i64 er) hS ?_ ?_
   ·intro w' _;go_simp
   try simp only[List.getElem_toArray,List.getElem_cons_zero,List.getElem_cons_succ,Act.put,List.setIfInBounds_toArray,List.set_cons_zero,List.set_cons_succ]
   refine rd 17 (.cons rfl (fun K hK=>?_) .nil)
   go_simp
   refine hK.out _ _ (keep _ (bel_alloc hb1 _)) (fun hS=>?_)
   clear hK K
   try simp only[List.getElem_toArray,List.getElem_cons_zero,List.getElem_cons_succ,Act.put,List.setIfInBounds_toArray,List.set_cons_zero,List.set_cons_succ]
   refine rd 18 (.cons rfl (fun K hK=>?_) .nil)
   go_simp
   refine hK.out _ _ (keep _ (bel_alloc hb1 _)) (fun hS=>?_)
   clear hK K
   try simp only[List.getElem_toArray,List.getElem_cons_zero,List.getElem_cons_succ,Act.put,List.setIfInBounds_toArray,List.set_cons_zero,List.set_cons_succ]
   refine rd 19 (.cons rfl (fun K hK=>?_) .nil)
   go_simp
   refine hK.out _ _ (keep _ (bel_alloc hb1 _)) (fun hS=>?_)
   clear hK K
   try simp only[List.getElem_toArray,List.getElem_cons_zero,List.getElem_cons_succ,Act.put,List.setIfInBounds_toArray,List.set_cons_zero,List.set_cons_succ]
   refine wpAnyH_done (by kernel_rfl) ?_ _
   go_wp2_with fail
   go_meet
   exact⟨w1.heap.size,rfl,rfl,hb1.size,heap_alloc_at w1 (auo y) _ rfl,bel_alloc hb1 _⟩
  ·go_simp
   refine hK.out _ _ (keep _ (bel_alloc hq0 _).drew) (fun hS=>?_)
   clear hK K
   try simp only[List.getElem_toArray,List.getElem_cons_zero,List.getElem_cons_succ,Act.put,List.setIfInBounds_toArray,List.set_cons_zero,List.set_cons_succ]
   refine rd 13 (.cons rfl (fun K hK=>?_) .nil)
   go_simp
   refine (hM _).mono ?_
   rintro e w1⟨rfl,hb1⟩
   have hz1:w1.heap[X0.heap.size]?=some (auo zA):=(hb1.block _ (by simp)).trans (heap_alloc_at _ _ _ rfl)
   have hb1:Below W.heap.size W w1:=(bel_alloc hq0 (.cells #[.int .i64 0,.int .i64 0,.int .i64 0,.int .i64 0,.int .i64 0,.int .i64 0,.int .i64 0,.bool false] 66)).drew.trans (hb1.mono (by have :=hq0.size;simp;omega))
   go_simp
   refine hK.out _ _ (keep _ hb1) (fun hS=>?_)
   clear hK K
   refine tk 14 (.tuple #[.agg #[.int .i64 y.card,.int .i64 y.shop,.int .i64 y.sum,.int .i64 y.cap,.int .i64 y.ref,.int .i64 y.dis,.int .i64 y.till,.bool y.shut],.int .i64 er]) hS ?_ ?_
   ·intro w' _;go_simp
   refine tk 15 (.agg #[.int .i64 y.card,.int .i64 y.shop,.int .i64 y.sum,.int .i64 y.cap,.int .i64 y.ref,.int .i64 y.dis,.int .i64 y.till,.bool y.shut]) hS ?_ ?_
   ·intro w' _;go_simp
   refine tk 16 (.int .i64 er) hS ?_ ?_
   ·intro w' _;go_simp
   have Z8:=(auo_cells hz1).all
   obtain⟨z0,z1,z2,z3,z4,z5,z6,z7⟩:=Z8
   have zf:∀p,w1.frozen? ⟨X0.heap.size,p,none⟩=false:=fun p=>by unfold auo at hz1;simp[World.frozen?,hz1]
   have zf0:=zf 0
   have zf1:=zf 1
   have zf2:=zf 2
   have zf3:=zf 3
   have zf4:=zf 4
   have zf5:=zf 5
   have zf6:=zf 6
   have zf7:=zf 7
   have hX0:W.heap.size≤X0.heap.size:=hq0.size
   try simp only[List.getElem_toArray,List.getElem_cons_zero,List.getElem_cons_succ,Act.put,List.setIfInBounds_toArray,List.set_cons_zero,List.set_cons_succ]
   refine rd 18 (.cons rfl (fun K hK=>?_) .nil)
   go_simp
   have hY8:=auo_put (a:=y) hz1
   have hbY:Below W.heap.size W ((((((((w1.setCell ⟨X0.heap.size,0,none⟩ (.int .i64 y.card)).setCell ⟨X0.heap.size,1,none⟩ (.int .i64 y.shop)).setCell ⟨X0.heap.size,2,none⟩ (.int .i64 y.sum)).setCell ⟨X0.heap.size,3,none⟩ (.int .i64 y.cap)).setCell ⟨X0.heap.size,4,none⟩ (.int .i64 y.ref)).setCell ⟨X0.heap.size,5,none⟩ (.int .i64 y.dis)).setCell ⟨X0.heap.size,6,none⟩ (.int .i64 y.till)).setCell ⟨X0.heap.size,7,none⟩ (.bool y.shut)):=(by repeat (first|refine Below.setCell ?_ (by first|(simp;omega)|(simp;done)|omega) _|refine Below.drew ?_|exact hb1))
   generalize ((((((((w1.setCell ⟨X0.heap.size,0,none⟩ (.int .i64 y.card)).setCell ⟨X0.heap.size,1,none⟩ (.int .i64 y.shop)).setCell ⟨X0.heap.size,2,none⟩ (.int .i64 y.sum)).setCell ⟨X0.heap.size,3,none⟩ (.int .i64 y.cap)).setCell ⟨X0.heap.size,4,none⟩ (.int .i64 y.ref)).setCell ⟨X0.heap.size,5,none⟩ (.int .i64 y.dis)).setCell ⟨X0.heap.size,6,none⟩ (.int .i64 y.till)).setCell ⟨X0.heap.size,7,none⟩ (.bool y.shut))=Y at*
   refine hK.out _ _ (keep _ hbY) (fun hS=>?_)
   clear hK K
   try simp only[List.getElem_toArray,List.getElem_cons_zero,List.getElem_cons_succ,Act.put,List.setIfInBounds_toArray,List.set_cons_zero,List.set_cons_succ]
   refine rd 19 (.cons rfl (fun K hK=>?_) .nil)
   go_simp
   refine hK.out _ _ (keep _ hbY) (fun hS=>?_)
   clear hK K
   try simp only[List.getElem_toArray,List.getElem_cons_zero,List.getElem_cons_succ,Act.put,List.setIfInBounds_toArray,List.set_cons_zero,List.set_cons_succ]
   refine wpAnyH_done (by kernel_rfl) ?_ _
   go_wp2_with fail
   go_meet
   exact⟨X0.heap.size,rfl,rfl,hX0,hY8,hbY⟩
 case rest=>
  obtain⟨Z,rfl,rfl,hZ,hZb,hbc⟩:=hcut
  clear keep hM c1 c4 d0 d1 d2 d3 d4 d5 hq0
  go_wp2_with fail
  go_ret
  exact⟨rfl,_,(H1.below hbc).goes,S1.trans (stp_below hbc)⟩
theorem gmove_funds (g base:Nat) (lab:Lab) (b:Bank) (tm:Value) (d:Dd) (w:World) (h:Goes w g base lab b tm) (O:Okm b d) (hdn:b.down=false) (k:Nat) (hk:d.n=k) (hkl:k<b.auths.length) (he:Au.mvErr (b.auths.getD k zA) d.mv d.sum=0)
  (hfree:(d.mv =1∧(b.card (b.auths.getD k zA).card).m-(b.card (b.auths.getD k zA).card).h<d.sum)):
  Calls Tryz.prog 98 #[.pointer (some ⟨g,0,none⟩),ddv d] w (Done w g base lab tm (b,10)):=by
 obtain ⟨v,cs,ds,H⟩:=h.hand
 have may:=Au.mvErr_zero.1 he
 obtain ⟨s1,s2,s3,s4,-⟩:=step_right may
 obtain ⟨o1,o2,o3⟩:=O.auths k hkl
 have wst:Au.wrongA (Au.step (b.auths.getD k zA) d.mv d.sum)=0:=Au.wrongA_ok.2 ⟨s1,s2⟩
 have hmv:=Au.mv_yes he
 have hM:∀X:World,Calls Tryz.prog 128 #[Au.av (b.auths.getD k zA),.int .i64 d.mv,.int .i64 d.sum] X fun e w'=>e=.returned (.tuple #[Au.av (Au.step (b.auths.getD k zA) d.mv d.sum),.int .i64 0])∧Below X.heap.size X w':=fun X=>by
  have :=Au.move_any (b.auths.getD k zA) d.mv d.sum X
  rw[hmv] at this
  exact this
 have hb0:=below_alloc w (ddo d)
 obtain ⟨W,hWd⟩:∃W,Hid (W =w.alloc (ddo d)):=⟨_,rfl⟩
 rw[←hWd.out] at hb0
 have H1:=H.below hb0
 have S1:=stp_below (lab:=lab) hb0
 have D1:Dz W (relab lab w.heap.size 0) w.heap.size d:=⟨by rw[hWd.out];exact heap_alloc_at _ _ _ rfl,relab_new (Nat.le_refl _)⟩
 obtain ⟨d0,d1,d2,d3,d4,d5⟩:=ddo_cells D1.db
 obtain ⟨ga,cap,A⟩:=H1.mem.authAt hkl
 obtain ⟨-,c1,-,-,c4,-⟩:=blk_cells H1.blk
 rw[A.val] at c4
 rw[hdn] at c1
 have hk2:(k :Int)<b.auths.length:=by omega
 have hkn:k≤1000:=by have :=O.n30;omega
 obtain ⟨id,kind,n,shop,mv,sum⟩:=d
 dsimp only at*
 subst hk
 obtain ⟨x,hx⟩:∃x,Hid (x =b.auths.getD k zA):=⟨_,rfl⟩
 obtain ⟨y,hy⟩:∃y,Hid (y =Au.step (b.auths.getD k zA) mv sum):=⟨_,rfl⟩
 have A8:=A.cells
 rw[←hx.out] at A8
 rw[←hy.out,←hx.out] at hM
 rw[←hy.out] at wst
 rw[←hy.out,←hx.out] at s3 s4
 replace s3:=hid s3
 replace s4:=hid s4
 unfold Au.av at hM
 have hgl:=lt_of_block H1.blk
 have hzl:=lt_of_block D1.db
 have keep:∀X:World,Below W.heap.size W X→(X.cell? ⟨g,4,none⟩=some (.slice (some ⟨ga,0,none⟩) b.auths.length cap))∧Au8 X ga (k*8) x∧X.cell? ⟨w.heap.size,2,none⟩=some (.int .i64 k)∧X.cell? ⟨w.heap.size,4,none⟩=some (.int .i64 mv)∧X.cell? ⟨w.heap.size,5,none⟩=some (.int .i64 sum):=fun X hX=>
  ⟨(hX.cell (p:=⟨g,4,none⟩) hgl).trans c4,A8.on (hX.block _ A.lt),(hX.cell (p:=⟨w.heap.size,2,none⟩) hzl).trans d2,(hX.cell (p:=⟨w.heap.size,4,none⟩) hzl).trans d4,(hX.cell (p:=⟨w.heap.size,5,none⟩) hzl).trans d5⟩
 unfold ddv
 have hWd2:=hWd
 unfold ddo at hWd2
 dsimp only at hWd2
 have g1:decide ((k:Int)<0)=false:=decide_eq_false (by omega)
 have g2:decide ((b.auths.length:Int)≤(k:Int))=false:=decide_eq_false (by omega)
 have g1':¬((k :Int)<0):=by omega
 have g2':¬((b.auths.length :Int)≤(k:Int)):=by omega
 replace hfree:=hid hfree
 go_enter Tryz.func98,Tryz.ntmps98
 go_upto_region 1 with fail
 rw[←hWd2.out]
 go_upto_region 3 with fail
 go_quiet (fail)
 have hq0:=below_drewN (Below.refl W.heap.size W) nq
 generalize W.drewN nq=X0 at*
 go_upto_region 5 with fail
 go_cut[5,6] from 26 to 42(fun p q wc=>∃Z,p=.pointer (some ⟨Z,0,none⟩)∧q=.int .i64 0∧W.heap.size≤Z∧wc.heap[Z]?=some (auo y)∧Below W.heap.size W wc)
 case first=>
  refine wp_region_held_drew (S:=(fun X=>X.cell? ⟨g,4,none⟩=some (.slice (some ⟨ga,0,none⟩) b.auths.length cap)∧Au8 X ga (k *8) x∧X.cell? ⟨w.heap.size,2,none⟩=some (.int .i64 k)∧X.cell? ⟨w.heap.size,4,none⟩=some (.int .i64 mv)∧X.cell? ⟨w.heap.size,5,none⟩=some (.int .i64 sum))) (by kernel_rfl) (keep _ hq0.drew) (fun hS=>?_)
  refine tk 0 (.pointer (some ⟨g,0,none⟩)) hS ?_ ?_
  ·intro w' _;go_simp
  refine tk 1 (.pointer (some ⟨g,0,none⟩)) hS ?_ ?_
  ·intro w' _;go_simp
  refine tk 2 (.pointer (some ⟨g,0,none⟩)) hS ?_ ?_
  ·intro w' _;go_simp
  refine tk 3 (.pointer (some ⟨g,4,none⟩)) hS ?_ ?_
  ·intro w' _;go_simp
  try simp only[List.getElem_toArray,List.getElem_cons_zero,List.getElem_cons_succ,Act.put,List.setIfInBounds_toArray,List.set_cons_zero,List.set_cons_succ]
  refine tk 4 (.slice (some ⟨ga,0,none⟩) b.auths.length cap) hS ?_ ?_
  ·intro w' hS';obtain ⟨C4,Q2,E2,E4,E5⟩:=hS';obtain ⟨e0,e1,e2,e3,e4,e5,e6,e7⟩:=Q2.all;go_simp
  refine tk 5 (.pointer (some ⟨w.heap.size,2,none⟩)) hS ?_ ?_
  ·intro w' _;go_simp
  refine tk 6 (.int .i64 (k:Int)) hS ?_ ?_
  ·intro w' hS';obtain ⟨C4,Q2,E2,E4,E5⟩:=hS';obtain ⟨e0,e1,e2,e3,e4,e5,e6,e7⟩:=Q2.all;go_simp
  refine tk 7 (.pointer (some ⟨ga,k*8,none⟩)) hS ?_ ?_
  ·intro w' _;go_simp
  try simp only[List.getElem_toArray,List.getElem_cons_zero,List.getElem_cons_succ,Act.put,List.setIfInBounds_toArray,List.set_cons_zero,List.set_cons_succ]
  refine tk 8 (.agg #[.int .i64 x.card,.int .i64 x.shop,.int .i64 x.sum,.int .i64 x.cap,.int .i64 x.ref,.int .i64 x.dis,.int .i64 x.till,.bool x.shut]) hS ?_ ?_
  ·intro w' hS';obtain ⟨C4,Q2,E2,E4,E5⟩:=hS';obtain ⟨e0,e1,e2,e3,e4,e5,e6,e7⟩:=Q2.all;go_simp
  refine tk 9 (.pointer (some ⟨w.heap.size,4,none⟩)) hS ?_ ?_
  ·intro w' _;go_simp
  refine tk 10 (.int .i64 mv) hS ?_ ?_
  ·intro w' hS';obtain ⟨C4,Q2,E2,E4,E5⟩:=hS';obtain ⟨e0,e1,e2,e3,e4,e5,e6,e7⟩:=Q2.all;go_simp
  refine tk 11 (.pointer (some ⟨w.heap.size,5,none⟩)) hS ?_ ?_
  ·intro w' _;go_simp
  try simp only[List.getElem_toArray,List.getElem_cons_zero,List.getElem_cons_succ,Act.put,List.setIfInBounds_toArray,List.set_cons_zero,List.set_cons_succ]
  refine tk 12 (.int .i64 sum) hS ?_ ?_
  ·intro w' hS';obtain ⟨C4,Q2,E2,E4,E5⟩:=hS';obtain ⟨e0,e1,e2,e3,e4,e5,e6,e7⟩:=Q2.all;go_simp
  try simp only[List.getElem_toArray,List.getElem_cons_zero,List.getElem_cons_succ,Act.put,List.setIfInBounds_toArray,List.set_cons_zero,List.set_cons_succ]
  refine wpAnyH_ready (rs:=[13,17]) (by kernel_rfl) (by simp) ?_
  refine AllReadyH.cons rfl (fun K hK=>?_) (AllReadyH.cons rfl (fun K hK=>?_) AllReadyH.nil)
  ·go_simp
   refine (hM _).mono ?_
   rintro e w1 ⟨rfl,hb1⟩
   have hb1:Below W.heap.size W w1:=hq0.drew.trans (hb1.mono hq0.size)
   go_simp
   refine hK.out _ _ (keep _ hb1) (fun hS=>?_)
   clear hK K
   refine tk 14 (.tuple #[.agg #[.int .i64 y.card,.int .i64 y.shop,.int .i64 y.sum,.int .i64 y.cap,.int .i64 y.ref,.int .i64 y.dis,.int .i64 y.till,.bool y.shut],.int .i64 0]) hS ?_ ?_
   ·intro w' _;go_simp
   refine tk 15 (.agg #[.int .i64 y.card,.int .i64 y.shop,.int .i64 y.sum,.int .i64 y.cap,.int .i64 y.ref,.int .i64 y.dis,.int .i64 y.till,.bool y.shut]) hS ?_ ?_
   ·intro w' _;go_simp
   refine tk 16 (.int .i64 0) hS ?_ ?_
   ·intro w' _;go_simp
   try simp only[List.getElem_toArray,List.getElem_cons_zero,List.getElem_cons_succ,Act.put,List.setIfInBounds_toArray,List.set_cons_zero,List.set_cons_succ]
   refine rd 17 (.cons rfl (fun K hK=>?_) .nil)
   go_simp
   refine hK.out _ _ (keep _ (bel_alloc hb1 _)) (fun hS=>?_)
   clear hK K
   try simp only[List.getElem_toArray,List.getElem_cons_zero,List.getElem_cons_succ,Act.put,List.setIfInBounds_toArray,List.set_cons_zero,List.set_cons_succ]
   refine rd 18 (.cons rfl (fun K hK=>?_) .nil)
   go_simp
   refine hK.out _ _ (keep _ (bel_alloc hb1 _)) (fun hS=>?_)
   clear hK K
   try simp only[List.getElem_toArray,List.getElem_cons_zero,List.getElem_cons_succ,Act.put,List.setIfInBounds_toArray,List.set_cons_zero,List.set_cons_succ]
   refine rd 19 (.cons rfl (fun K hK=>?_) .nil)
   go_simp
   refine hK.out _ _ (keep _ (bel_alloc hb1 _)) (fun hS=>?_)
   clear hK K
   try simp only[List.getElem_toArray,List.getElem_cons_zero,List.getElem_cons_succ,Act.put,List.setIfInBounds_toArray,List.set_cons_zero,List.set_cons_succ]
   refine wpAnyH_done (by kernel_rfl) ?_ _
   go_wp2_with fail
   go_meet
   exact ⟨w1.heap.size,rfl,rfl,hb1.size,heap_alloc_at w1 (auo y) _ rfl,bel_alloc hb1 _⟩
  ·go_simp
   refine hK.out _ _ (keep _ (bel_alloc hq0 _).drew) (fun hS=>?_)
   clear hK K
   try simp only[List.getElem_toArray,List.getElem_cons_zero,List.getElem_cons_succ,Act.put,List.setIfInBounds_toArray,List.set_cons_zero,List.set_cons_succ]
   refine rd 13 (.cons rfl (fun K hK=>?_) .nil)
   go_simp
   refine (hM _).mono ?_
   rintro e w1 ⟨rfl,hb1⟩
   have hz1:w1.heap[X0.heap.size]?=some (auo zA):=(hb1.block _ (by simp)).trans (heap_alloc_at _ _ _ rfl)
   have hb1:Below W.heap.size W w1:=(bel_alloc hq0 (.cells #[.int .i64 0,.int .i64 0,.int .i64 0,.int .i64 0,.int .i64 0,.int .i64 0,.int .i64 0,.bool false] 66)).drew.trans (hb1.mono (by have:= hq0.size;simp;omega))
   go_simp
   refine hK.out _ _ (keep _ hb1) (fun hS=>?_)
   clear hK K
   refine tk 14 (.tuple #[.agg #[.int .i64 y.card,.int .i64 y.shop,.int .i64 y.sum,.int .i64 y.cap,.int .i64 y.ref,.int .i64 y.dis,.int .i64 y.till,.bool y.shut],.int .i64 0]) hS ?_ ?_
   ·intro w' _;go_simp
   refine tk 15 (.agg #[.int .i64 y.card,.int .i64 y.shop,.int .i64 y.sum,.int .i64 y.cap,.int .i64 y.ref,.int .i64 y.dis,.int .i64 y.till,.bool y.shut]) hS ?_ ?_
   ·intro w' _;go_simp
   refine tk 16 (.int .i64 0) hS ?_ ?_
   ·intro w' _;go_simp
   have Z8:=(auo_cells hz1).all
   obtain ⟨z0,z1,z2,z3,z4,z5,z6,z7⟩:=Z8
   have zf:∀p,w1.frozen? ⟨X0.heap.size,p,none⟩=false:=fun p=>by unfold auo at hz1;simp[World.frozen?,hz1]
   have zf0:=zf 0
   have zf1:=zf 1
   have zf2:=zf 2
   have zf3:=zf 3
   have zf4:=zf 4
   have zf5:=zf 5
   have zf6:=zf 6
   have zf7:=zf 7
   have hX0:W.heap.size≤X0.heap.size:=hq0.size
   try simp only[List.getElem_toArray,List.getElem_cons_zero,List.getElem_cons_succ,Act.put,List.setIfInBounds_toArray,List.set_cons_zero,List.set_cons_succ]
   refine rd 18 (.cons rfl (fun K hK=>?_) .nil)
   go_simp
   have hY8:=auo_put (a:=y) hz1
   have hbY:Below W.heap.size W ((((((((w1.setCell ⟨X0.heap.size,0,none⟩ (.int .i64 y.card)).setCell ⟨X0.heap.size,1,none⟩ (.int .i64 y.shop)).setCell ⟨X0.heap.size,2,none⟩ (.int .i64 y.sum)).setCell ⟨X0.heap.size,3,none⟩ (.int .i64 y.cap)).setCell ⟨X0.heap.size,4,none⟩ (.int .i64 y.ref)).setCell ⟨X0.heap.size,5,none⟩ (.int .i64 y.dis)).setCell ⟨X0.heap.size,6,none⟩ (.int .i64 y.till)).setCell ⟨X0.heap.size,7,none⟩ (.bool y.shut)):=(by repeat (first|refine Below.setCell ?_ (by first|(simp;omega)|(simp;done)|omega) _|refine Below.drew ?_|exact hb1))
   generalize ((((((((w1.setCell ⟨X0.heap.size,0,none⟩ (.int .i64 y.card)).setCell ⟨X0.heap.size,1,none⟩ (.int .i64 y.shop)).setCell ⟨X0.heap.size,2,none⟩ (.int .i64 y.sum)).setCell ⟨X0.heap.size,3,none⟩ (.int .i64 y.cap)).setCell ⟨X0.heap.size,4,none⟩ (.int .i64 y.ref)).setCell ⟨X0.heap.size,5,none⟩ (.int .i64 y.dis)).setCell ⟨X0.heap.size,6,none⟩ (.int .i64 y.till)).setCell ⟨X0.heap.size,7,none⟩ (.bool y.shut))=Y at*
   refine hK.out _ _ (keep _ hbY) (fun hS=>?_)
   clear hK K
   try simp only[List.getElem_toArray,List.getElem_cons_zero,List.getElem_cons_succ,Act.put,List.setIfInBounds_toArray,List.set_cons_zero,List.set_cons_succ]
   refine rd 19 (.cons rfl (fun K hK=>?_) .nil)
   go_simp
   refine hK.out _ _ (keep _ hbY) (fun hS => ?_)
   clear hK K
   try simp only [List.getElem_toArray, List.getElem_cons_zero, List.getElem_cons_succ, Act.put, List.setIfInBounds_toArray, List.set_cons_zero, List.set_cons_succ]
   refine wpAnyH_done (by kernel_rfl) ?_ _
   go_wp2_with fail
   go_meet
   exact ⟨X0.heap.size, rfl, rfl, hX0, hY8, hbY⟩
 case rest =>
  obtain ⟨Z, rfl, rfl, hZ, hZb, hbc⟩ := hcut
  clear keep hM hmv c1 c4 d0 d1 d2 d3 d4 d5 hq0
  generalize wc = X at *
  have H2 := H1.below hbc
  have S2 := S1.trans (stp_below hbc)
  have D2 := D1.on (stp_below hbc)
  have A2 : Az X (relab (relab lab w.heap.size 0) W.heap.size 0) Z y := ⟨hZb, relab_new hZ⟩
  have hx3 : y.card = x.card := s3.out
  have hx4 : y.shop = x.shop := s4.out
  have o2' : y.card < b.cards.length := by rw [hx3, hx.out]; exact o2
  have o3' : y.shop < b.due.length := by rw [hx4, hx.out]; exact o3
  have rg := (Au.wrongA_ok.1 wst).1
  have y0 : 0 ≤ y.card := rg.2.2.2.2.1.1
  have y8 : y.card < 8 := rg.2.2.2.2.1.2
  have v0 : 0 ≤ y.shop := rg.2.2.2.2.2.1.1
  have v8 : y.shop < 8 := rg.2.2.2.2.2.1.2
  obtain ⟨c, hcn⟩ : ∃ c : Nat, Hid (y.card = c) := ⟨y.card.toNat, hid (by omega)⟩
  have hcl : c < b.cards.length := by have := hcn.out; omega
  have hfr2 : Hid (mv = 1 ∧ (b.card (c : Int)).m - (b.card (c : Int)).h < sum) := by rw [← hcn.out, hx3, hx.out]; exact hfree
  have mny := O.money c hcl
  have dd0 := O.due y.shop.toNat (by omega)
  have few := O.few
  have may2 := hid may
  have m1 : 1 ≤ mv := may.2.2.1
  have m8 : mv ≤ 8 := may.2.2.2.1
  have n1 : 1 ≤ sum := may.2.2.2.2.1
  have n2 : sum ≤ 1000000 := may.2.2.2.2.2.1
  replace hx3 := hid hx3
  replace hx4 := hid hx4
  clear he hfree may s1 s2 O
  go_upto_region 8 with fail
  go_cut [63] from 46 to 62 (fun p wc => p = .bool true ∧ Below X.heap.size X wc)
  case first =>
   obtain ⟨e0, e1, e2, e3, e4, e5⟩ := ddo_cells D2.db
   dsimp only at e0 e1 e2 e3 e4 e5
   by_cases hm1 : mv = 1
   ·subst hm1
    obtain ⟨gc, cap2, CI, hcc⟩ := H2.mem.card hcl
    have hlen := H2.mem.cardsLen
    have hcl2 : c < cs.length := by omega
    have hcl3 : (c : Int) < cs.length := by omega
    obtain ⟨-, -, g2c, -⟩ := blk_cells H2.blk
    rw [CI.val] at g2c
    have yc := (auo_cells A2.ab).c0
    rw [hcn.out] at yc
    have hq : (b.card (c : Int)).m - (b.card (c : Int)).h < sum := hfr2.out.2
    have hmn : -1000000000000 ≤ (b.card (c : Int)).m ∧ (b.card (c : Int)).m ≤ 1000000000000 ∧ 0 ≤ (b.card (c : Int)).h ∧ (b.card (c : Int)).h ≤ 1000000000000 := mny
    rw [← hcc] at hq hmn
    have hFr : ∀ Y : World, Calls Tryz.prog 32 #[cv (cs.getD c zCV).c (cs.getD c zCV).a (cs.getD c zCV).cap] Y fun e w' => e = .returned (.int .i64 ((cs.getD c zCV).c.m - (cs.getD c zCV).c.h)) ∧ Below Y.heap.size Y w' := fun Y => free_any _ _ _ Y hmn.1 hmn.2.1 hmn.2.2.1 hmn.2.2.2
    unfold cv at hFr
    clear hcc
    generalize cs.getD c zCV = q at *
    have hdf : decide (q.c.m - q.c.h < sum) = true := decide_eq_true hq
    have hgX := lt_of_block H2.blk
    have hzX := lt_of_block D2.db
    have hZX := lt_of_block A2.ab
    have kp8 : ∀ X' : World, Below X.heap.size X X' → X'.cell? ⟨w.heap.size, 4, none⟩ = some (.int .i64 1) ∧ X'.cell? ⟨w.heap.size, 5, none⟩ = some (.int .i64 sum) ∧ X'.cell? ⟨g, 2, none⟩ = some (.slice (some ⟨gc, 0, none⟩) cs.length cap2) ∧ X'.cell? ⟨gc, c * 6, none⟩ = some (.int .i64 q.c.m) ∧ X'.cell? ⟨gc, c * 6 + 1, none⟩ = some (.int .i64 q.c.h) ∧ X'.cell? ⟨gc, c * 6 + 2, none⟩ = some (.int .i64 q.c.p.t) ∧ X'.cell? ⟨gc, c * 6 + 3, none⟩ = some (.int .i64 q.c.p.c) ∧ X'.cell? ⟨gc, c * 6 + 4, none⟩ = some (.int .i64 q.c.p.s) ∧ X'.cell? ⟨gc, c * 6 + 5, none⟩ = some (.slice q.a q.c.u.length q.cap) ∧ X'.cell? ⟨Z, 0, none⟩ = some (.int .i64 (c : Int)) := fun Y hY =>
     ⟨(hY.cell (p := ⟨w.heap.size, 4, none⟩) hzX).trans e4, (hY.cell (p := ⟨w.heap.size, 5, none⟩) hzX).trans e5, (hY.cell (p := ⟨g, 2, none⟩) hgX).trans g2c, (hY.cell (p := ⟨gc, c * 6, none⟩) CI.lt).trans CI.c0, (hY.cell (p := ⟨gc, c * 6 + 1, none⟩) CI.lt).trans CI.c1, (hY.cell (p := ⟨gc, c * 6 + 2, none⟩) CI.lt).trans CI.c2, (hY.cell (p := ⟨gc, c * 6 + 3, none⟩) CI.lt).trans CI.c3, (hY.cell (p := ⟨gc, c * 6 + 4, none⟩) CI.lt).trans CI.c4, (hY.cell (p := ⟨gc, c * 6 + 5, none⟩) CI.lt).trans CI.c5, (hY.cell (p := ⟨Z, 0, none⟩) hZX).trans yc⟩
    clear e0 e1 e2 e3 e4 e5 CI g2c yc hlen
    refine wp_region_held_drew (S := (fun X => X.cell? ⟨w.heap.size, 4, none⟩ = some (.int .i64 1) ∧ X.cell? ⟨w.heap.size, 5, none⟩ = some (.int .i64 sum) ∧ X.cell? ⟨g, 2, none⟩ = some (.slice (some ⟨gc, 0, none⟩) cs.length cap2) ∧ X.cell? ⟨gc, c * 6, none⟩ = some (.int .i64 q.c.m) ∧ X.cell? ⟨gc, c * 6 + 1, none⟩ = some (.int .i64 q.c.h) ∧ X.cell? ⟨gc, c * 6 + 2, none⟩ = some (.int .i64 q.c.p.t) ∧ X.cell? ⟨gc, c * 6 + 3, none⟩ = some (.int .i64 q.c.p.c) ∧ X.cell? ⟨gc, c * 6 + 4, none⟩ = some (.int .i64 q.c.p.s) ∧ X.cell? ⟨gc, c * 6 + 5, none⟩ = some (.slice q.a q.c.u.length q.cap) ∧ X.cell? ⟨Z, 0, none⟩ = some (.int .i64 (c : Int)))) (by kernel_rfl) (kp8 _ ((Below.refl _ _).drew)) (fun hS => ?_)
    refine tk 0 (.pointer (some ⟨w.heap.size, 4, none⟩)) hS ?_ ?_
    ·intro w' _; go_simp
    refine tk 1 (.int .i64 1) hS ?_ ?_
    ·intro w' hS'; obtain ⟨E4, E5, G2, k0, k1, k2, k3, k4, k5, Y0⟩ := hS'; go_simp
    refine tk 2 (.bool true) hS ?_ ?_
    ·intro w' _; go_simp
    refine tk 3 (.bool true) hS ?_ ?_
    ·intro w' _; go_simp
    try simp only [List.getElem_toArray, List.getElem_cons_zero, List.getElem_cons_succ, Act.put, List.setIfInBounds_toArray, List.set_cons_zero, List.set_cons_succ]
    refine tk 4 (.pointer (some ⟨w.heap.size, 5, none⟩)) hS ?_ ?_
    ·intro w' _; go_simp
    refine tk 5 (.int .i64 sum) hS ?_ ?_
    ·intro w' hS'; obtain ⟨E4, E5, G2, k0, k1, k2, k3, k4, k5, Y0⟩ := hS'; go_simp
    refine tk 6 (.pointer (some ⟨g, 0, none⟩)) hS ?_ ?_
    ·intro w' _; go_simp
    refine tk 7 (.pointer (some ⟨g, 0, none⟩)) hS ?_ ?_
    ·intro w' _; go_simp
    try simp only [List.getElem_toArray, List.getElem_cons_zero, List.getElem_cons_succ, Act.put, List.setIfInBounds_toArray, List.set_cons_zero, List.set_cons_succ]
    refine tk 8 (.pointer (some ⟨g, 0, none⟩)) hS ?_ ?_
    ·intro w' _; go_simp
    refine tk 9 (.pointer (some ⟨g, 2, none⟩)) hS ?_ ?_
    ·intro w' _; go_simp
    refine tk 10 (.slice (some ⟨gc, 0, none⟩) cs.length cap2) hS ?_ ?_
    ·intro w' hS'; obtain ⟨E4, E5, G2, k0, k1, k2, k3, k4, k5, Y0⟩ := hS'; go_simp
    refine tk 11 (.pointer (some ⟨Z, 0, none⟩)) hS ?_ ?_
    ·intro w' _; go_simp
    try simp only [List.getElem_toArray, List.getElem_cons_zero, List.getElem_cons_succ, Act.put, List.setIfInBounds_toArray, List.set_cons_zero, List.set_cons_succ]
    refine tk 12 (.int .i64 (c : Int)) hS ?_ ?_
    ·intro w' hS'; obtain ⟨E4, E5, G2, k0, k1, k2, k3, k4, k5, Y0⟩ := hS'; go_simp
    refine tk 13 (.pointer (some ⟨gc, c * 6, none⟩)) hS ?_ ?_
    ·intro w' _; go_simp
    refine tk 14 (.agg #[.int .i64 q.c.m, .int .i64 q.c.h, .int .i64 q.c.p.t, .int .i64 q.c.p.c, .int .i64 q.c.p.s, .slice q.a q.c.u.length q.cap]) hS ?_ ?_
    ·intro w' hS'; obtain ⟨E4, E5, G2, k0, k1, k2, k3, k4, k5, Y0⟩ := hS'; go_simp
    try simp only [List.getElem_toArray, List.getElem_cons_zero, List.getElem_cons_succ, Act.put, List.setIfInBounds_toArray, List.set_cons_zero, List.set_cons_succ]
    refine rd 15 (.cons rfl (fun K hK => ?_) .nil)
    go_simp
    refine (hFr _).mono ?_
    rintro e wF ⟨rfl, hbF⟩
    have hbF : Below X.heap.size X wF := ((Below.refl _ _).drew).trans hbF
    go_simp
    refine hK.out _ _ (kp8 _ hbF) (fun hS => ?_)
    clear hK K
    refine tk 16 (.bool true) hS ?_ ?_
    ·intro w' _; go_simp
    refine tk 17 (.bool true) hS ?_ ?_
    ·intro w' _; go_simp
    try simp only [List.getElem_toArray, List.getElem_cons_zero, List.getElem_cons_succ, Act.put, List.setIfInBounds_toArray, List.set_cons_zero, List.set_cons_succ]
    refine wpAnyH_done (by kernel_rfl) ?_ _
    go_wp2_with fail
    go_meet
    exact ⟨rfl, hbF⟩
   ·exact absurd hfr2.out.1 hm1
  case rest =>
   obtain ⟨rfl, hbd⟩ := hcut
   go_wp2_with fail
   go_ret
   exact ⟨rfl, _, (H2.below hbd).goes, S2.trans (stp_below hbd)⟩
theorem gmove_down (g base:Nat) (lab:Lab) (b:Bank) (tm:Value) (d:Dd) (w:World) (h:Goes w g base lab b tm) (hdn:b.down=true):Calls Tryz.prog 98 #[.pointer (some ⟨g,0,none⟩),ddv d] w (Done w g base lab tm (b,12)):=by
 obtain ⟨v,cs,ds,H⟩:=h.hand
 have H1:=H.below (below_alloc w (ddo d))
 have S1:=stp_below (lab:=lab) (below_alloc w (ddo d))
 obtain ⟨-,c1,-⟩:=blk_cells H1.blk
 rw[hdn] at c1
 unfold ddv
 unfold ddo at H1 S1 c1
 go_enter Tryz.func98,Tryz.ntmps98
 go_wp2_with fail
 go_ret
 exact ⟨rfl,_,H1.goes,S1⟩
theorem gmove_none (g base:Nat) (lab:Lab) (b:Bank) (tm:Value) (d:Dd) (w:World) (h:Goes w g base lab b tm) (hdn:b.down=false) (hn:d.n<0∨(b.auths.length :Int)≤d.n):Calls Tryz.prog 98 #[.pointer (some ⟨g,0,none⟩),ddv d] w (Done w g base lab tm (b,6)):=by
 obtain ⟨v,cs,ds,H⟩:=h.hand
 have hb0:=below_alloc w (ddo d)
 have H1:=H.below hb0
 have S1:=stp_below (lab:=lab) hb0
 have hbx:(w.alloc (ddo d)).heap[w.heap.size]?=some (ddo d):=heap_alloc_at _ _ _ rfl
 obtain ⟨d0,d1,d2,d3,d4,d5⟩:=ddo_cells hbx
 obtain ⟨-,c1,-,-,c4,-⟩:=blk_cells H1.blk
 obtain ⟨a,cap,hv⟩:=H1.mem.auths.form
 have hmx:=H1.mem.auths.row.lies
 have hlen:b.auths.length≤9223372036854775807:=by
  obtain ⟨a',cap',-,hl,-,-⟩:=hmx
  have:= hl.len
  unfold maxLen at this
  exact this
 rw[hv] at c4
 rw[hdn] at c1
 obtain ⟨id,kind,n,shop,mv,sum⟩:=d
 dsimp only at*
 unfold ddv
 unfold ddo at*
 by_cases hn0:n<0
 ·have g1:decide (n<0)=true:=decide_eq_true hn0
  go_enter Tryz.func98,Tryz.ntmps98
  go_upto_region 1 with fail
  generalize w.alloc (.cells #[.int .i64 id,.int .i64 kind,.int .i64 n,.int .i64 shop,.int .i64 mv,.int .i64 sum] 74)=W at*
  go_upto_region 3 with fail
  go_quiet (fail)
  go_wp2_with fail
  go_ret
  exact ⟨rfl,_,(H1.below (below_drewN (Below.refl _ _) _)).goes,S1.trans (stp_below (below_drewN (Below.refl _ _) _))⟩
 ·have hn2:(b.auths.length :Int)≤n:=by omega
  have g1:decide (n<0)=false:=decide_eq_false (by omega)
  have g2:decide ((b.auths.length:Int)≤n)=true:=decide_eq_true hn2
  go_enter Tryz.func98,Tryz.ntmps98
  go_upto_region 1 with fail
  generalize w.alloc (.cells #[.int .i64 id,.int .i64 kind,.int .i64 n,.int .i64 shop,.int .i64 mv,.int .i64 sum] 74)=W at*
  go_upto_region 3 with fail
  go_quiet (fail)
  go_wp2_with fail
  go_ret
  exact ⟨rfl,_,(H1.below (below_drewN (Below.refl _ _) _)).goes,S1.trans (stp_below (below_drewN (Below.refl _ _) _))⟩
theorem gmove (g base:Nat) (lab:Lab) (b:Bank) (tm:Value) (d:Dd) (w:World) (h:Goes w g base lab b tm) (O:Okm b d):Calls Tryz.prog 98 #[.pointer (some ⟨g,0,none⟩),ddv d] w (Done w g base lab tm (moveP b d)):=by
 unfold moveP
 by_cases q1:b.down=true
 ·rw[if_pos q1];exact gmove_down g base lab b tm d w h q1
 rw[if_neg q1]
 have q1':b.down=false:=by simpa using q1
 by_cases q2:d.n<0∨(b.auths.length :Int)≤d.n
 ·rw[if_pos q2];exact gmove_none g base lab b tm d w h q1' q2
 rw[if_neg q2]
 obtain ⟨k,hk⟩:∃k:Nat,d.n=k:=⟨d.n.toNat,by omega⟩
 have e:b.auth d.n=b.auths.getD k zA:=by unfold Bank.auth;rw[hk,Int.toNat_natCast]
 have hkl:k<b.auths.length:=by omega
 unfold aft
 rw[e]
 by_cases q3:Au.mvErr (b.auths.getD k zA) d.mv d.sum=0
 ·rw[if_neg (by simpa using q3)]
  by_cases q4:d.mv=1∧(b.card (b.auths.getD k zA).card).m-(b.card (b.auths.getD k zA).card).h<d.sum
  ·rw[if_pos q4];exact gmove_funds g base lab b tm d w h O q1' k hk hkl q3 q4
  ·rw[if_neg q4];exact gmove_go g base lab b tm d w h O q1' k hk hkl q3 q4
 ·rw[if_pos q3];exact gmove_err g base lab b tm d w h O q1' k hk hkl q3
end Go.Proofs.YtofcnebekmjdoaaGreatDoor.Bn
