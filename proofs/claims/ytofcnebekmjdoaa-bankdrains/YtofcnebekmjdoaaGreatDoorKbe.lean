import Derived.Test.YtofcnebekmjdoaaGreatDoorKbd
set_option maxHeartbeats 4000000
set_option maxRecDepth 100000
namespace Go.Proofs.YtofcnebekmjdoaaGreatDoor.Bn
open Go.RowKit Go.Proofs.YtofcnebekmjdoaaGreatDoor.Gn
def Done3 (w:World) (g base:Nat) (lab:Lab) (tm:Value) (r:Bank×Int×Int) (e:Ending) (w':World):Prop:=e=.returned (.tuple #[.int .i64 r.2.2,.int .i64 r.2.1])∧∃lab',Goes w' g base lab' r.1 tm∧Stp w lab w' lab'
theorem past_less {n:Nat}{a:Option Addr} (h:Past (n+1) a):Past n a:=fun ad had=>Nat.le_of_succ_le (h ad had)
theorem dno_put {W:World}{z:Nat}{u0 u:Int}{x0 y0 x y:Value}(h:W.heap[z]?=some (dno u0 x0 y0)):((W.setCell ⟨z,0,none⟩ (.int .i64 u)).setCell ⟨z,1,none⟩ x).setCell ⟨z,2,none⟩ y|>.heap[z]?=some (dno u x y):=by
 unfold dno at h⊢
 have h0:=heap_setCell_same W z 0 _ _ (.int .i64 u) h
 have h1:=heap_setCell_same _ z 1 _ _ x h0
 have h2:=heap_setCell_same _ z 2 _ _ y h1
 rw[h2];simp
theorem give_slices (s:St.Sd) (a1 a2:Option Addr) (n1 n2:Nat) (t:St.Ad) (w:World) (h1:St.At kI w (.slice a1 s.used.length n1) s.used) (h2:St.At St.kA w (.slice a2 s.adv.length n2) s.adv):
  Calls Tryz.prog 153 #[.agg #[.int .i64 s.cap,.slice a1 s.used.length n1,.slice a2 s.adv.length n2],.agg #[.int .i64 t.c,.int .i64 t.s,.int .i64 t.m,.int .i64 t.t]] w fun e w'=>
   ∃a1 m1 a2 m2,e=.returned (.tuple #[.agg #[.int .i64 (St.giveD s t).1.cap,.slice a1 (St.giveD s t).1.used.length m1,.slice a2 (St.giveD s t).1.adv.length m2],.int .i64 (St.giveD s t).2])∧Gn.Lies kI w' a1 m1 (St.giveD s t).1.used∧Past w.heap.size a1∧Gn.Lies St.kA w' a2 m2 (St.giveD s t).1.adv∧Past w.heap.size a2∧Below w.heap.size w w':=by
 refine (St.give_any s _ _ t w h1 h2).mono ?_
 rintro e w' ⟨v1,v2,rfl,r1,r2,hb⟩
 obtain ⟨b1,m1,rfl,l1,p1,-⟩:=r1.lies
 obtain ⟨b2,m2,rfl,l2,p2,-⟩:=r2.lies
 exact ⟨b1,m1,b2,m2,rfl,l1,p1,l2,p2,hb⟩
theorem gaskStand (g base:Nat) (lab:Lab) (b:Bank) (tm:Value) (d:Dd) (w:World) (h:Goes w g base lab b tm) (h30:b.auths.length+b.stand.adv.length≤1000):
  Calls Tryz.prog 126 #[.pointer (some ⟨g,0,none⟩),.agg #[.int .i64 (advOf b d).c,.int .i64 (advOf b d).s,.int .i64 (advOf b d).m,.int .i64 (advOf b d).t]] w (Done3 w g base lab tm (askDown b d)):=by
 have N1:Hid ((St.giveD b.stand (advOf b d)).2≠0→askDown b d=(b,(if (St.giveD b.stand (advOf b d)).2=10 then 12 else (St.giveD b.stand (advOf b d)).2),0)):=hid (fun q=>by unfold askDown;rw[if_pos q])
 have N2:Hid ((St.giveD b.stand (advOf b d)).2=0→30≤b.auths.length+b.stand.adv.length→askDown b d=(b,5,0)):=hid (fun q q2=>by unfold askDown;rw[if_neg (by simpa using q),if_pos q2])
 have N3:Hid ((St.giveD b.stand (advOf b d)).2=0→¬30≤b.auths.length+b.stand.adv.length→askDown b d=({ b with stand:=(St.giveD b.stand (advOf b d)).1},0,((b.auths.length +b.stand.adv.length:Nat):Int))):=hid (fun q q2=>by unfold askDown;rw[if_neg (by simpa using q),if_neg q2])
 generalize askDown b d=R at*
 generalize advOf b d=x at*
 obtain ⟨v,cs,ds,H⟩:=h
 have hb0:=below_alloc w (ado x)
 have H1:=H.below hb0
 have S1:=stp_below (lab:=lab) hb0
 have hbx:(w.alloc (ado x)).heap[w.heap.size]?=some (ado x):=heap_alloc_at _ _ _ rfl
 obtain ⟨t0,t1,t2,t3⟩:=ado_cells hbx
 unfold ado at H1 S1 t0 t1 t2 t3 hbx
 clear hb0 H
 obtain ⟨a4,cap4,hv4⟩:=H1.mem.auths.form
 obtain ⟨u1,n1,hu1,-⟩:=H1.mem.used.lies
 obtain ⟨u2,n2,hu2,-⟩:=H1.mem.adv.lies
 obtain ⟨-,-,-,-,d4,-,-,-,-,-,-,-,-,d13,d14,d15,-⟩:=blk_cells H1.blk
 have At1:=H1.mem.used.at
 have At2:=H1.mem.adv.at
 rw[hu1] at At1
 rw[hu2] at At2
 rw[hv4] at d4
 rw[hu1] at d14
 rw[hu2] at d15
 replace hu1:=hid hu1
 replace hu2:=hid hu2
 replace hv4:=hid hv4
 have hadd:IntKind.i64.wrap ((b.auths.length:Int)+b.stand.adv.length)=(b.auths.length:Int)+b.stand.adv.length:=wrap64' (by omega) (by omega)
 go_enter Tryz.func126,Tryz.ntmps126
 go_upto_region 1 with fail
 generalize relab lab w.heap.size 0=l1 at*
 generalize w.alloc (.cells #[.int .i64 x.c,.int .i64 x.s,.int .i64 x.m,.int .i64 x.t] 123)=W at*
 go_quiet (fail)
 have hq0:=below_drewN (Below.refl W.heap.size W) nq
 have H2:=H1.below hq0
 have S2:=S1.trans (stp_below hq0)
 generalize W.drewN nq=X0 at*
 have hG:∀X:World,Below X0.heap.size X0 X→Calls Tryz.prog 153 #[.agg #[.int .i64 b.stand.cap,.slice u1 b.stand.used.length n1,.slice u2 b.stand.adv.length n2],.agg #[.int .i64 x.c,.int .i64 x.s,.int .i64 x.m,.int .i64 x.t]] X _:=fun X hX=>give_slices b.stand u1 u2 n1 n2 x X ((At1.below hq0).below hX) ((At2.below hq0).below hX)
 have hzl:=lt_of_block hbx
 have hgl:=lt_of_block H1.blk
 have kp:∀X:World,Below X0.heap.size X0 X→X.cell? ⟨g,13,none⟩=some (.int .i64 b.stand.cap)∧X.cell? ⟨g,14,none⟩=some (.slice u1 b.stand.used.length n1)∧X.cell? ⟨g,15,none⟩=some (.slice u2 b.stand.adv.length n2)∧X.cell? ⟨w.heap.size,0,none⟩=some (.int .i64 x.c)∧X.cell? ⟨w.heap.size,1,none⟩=some (.int .i64 x.s)∧X.cell? ⟨w.heap.size,2,none⟩=some (.int .i64 x.m)∧X.cell? ⟨w.heap.size,3,none⟩=some (.int .i64 x.t):=fun X hX=>by
  have hB:Below W.heap.size W X:=hq0.trans (hX.mono hq0.size)
  exact ⟨(hB.cell (p:=⟨g,13,none⟩) hgl).trans d13,(hB.cell (p:=⟨g,14,none⟩) hgl).trans d14,(hB.cell (p:=⟨g,15,none⟩) hgl).trans d15,(hB.cell (p:=⟨w.heap.size,0,none⟩) hzl).trans t0,(hB.cell (p:=⟨w.heap.size,1,none⟩) hzl).trans t1,(hB.cell (p:=⟨w.heap.size,2,none⟩) hzl).trans t2,(hB.cell (p:=⟨w.heap.size,3,none⟩) hzl).trans t3⟩
 clear hadd H1 S1 At1 At2 d4 d13 d14 d15 t0 t1 t2 t3 hbx hq0
 generalize relab l1 W.heap.size 0=l2 at*
 obtain ⟨r1,hr1⟩:∃r1,Hid (r1 =(St.giveD b.stand x).1):=⟨_,rfl⟩
 obtain ⟨r2,hr2⟩:∃r2,Hid (r2=(St.giveD b.stand x).2):=⟨_,rfl⟩
 rw[←hr1.out,←hr2.out] at hG
 rw[←hr2.out] at N1 N2 N3
 rw[←hr1.out] at N3
 clear hr1 hr2
 go_upto_region 2 with fail
 go_cut[7,8] from 23 to 32 (fun p q' wc=>∃Z a1 m1 a2 m2,p=.pointer (some ⟨Z,0,none⟩)∧q'=.int .i64 r2∧X0.heap.size≤Z∧wc.heap[Z]?=some (dno r1.cap (.slice a1 r1.used.length m1) (.slice a2 r1.adv.length m2))∧Gn.Lies kI wc a1 m1 r1.used∧Past X0.heap.size a1∧Gn.Lies St.kA wc a2 m2 r1.adv∧Past X0.heap.size a2∧Below X0.heap.size X0 wc)
 case first=>
  refine wp_region_held_drew (S:=(fun X=>X.cell? ⟨g,13,none⟩=some (.int .i64 b.stand.cap)∧X.cell? ⟨g,14,none⟩=some (.slice u1 b.stand.used.length n1)∧X.cell? ⟨g,15,none⟩=some (.slice u2 b.stand.adv.length n2)∧X.cell? ⟨w.heap.size,0,none⟩=some (.int .i64 x.c)∧X.cell? ⟨w.heap.size,1,none⟩=some (.int .i64 x.s)∧X.cell? ⟨w.heap.size,2,none⟩=some (.int .i64 x.m)∧X.cell? ⟨w.heap.size,3,none⟩=some (.int .i64 x.t))) (by kernel_rfl) (kp _ ((Below.refl _ _).drew)) (fun hS=>?_)
  refine tk 0 (.pointer (some ⟨g,0,none⟩)) hS ?_ ?_
  ·intro w' _;go_simp
  refine tk 1 (.pointer (some ⟨g,0,none⟩)) hS ?_ ?_
  ·intro w' _;go_simp
  refine tk 2 (.pointer (some ⟨g,0,none⟩)) hS ?_ ?_
  ·intro w' _;go_simp
  refine tk 3 (.pointer (some ⟨g,13,none⟩)) hS ?_ ?_
  ·intro w' _;go_simp
  try simp only[Act.put]
  refine tk 4 (.agg #[.int .i64 b.stand.cap,.slice u1 b.stand.used.length n1,.slice u2 b.stand.adv.length n2]) hS ?_ ?_
  ·intro w' hS';obtain ⟨E1,E2,E3,E4,E5,E6,E7⟩:=hS';go_simp
  refine tk 5 (.agg #[.int .i64 x.c,.int .i64 x.s,.int .i64 x.m,.int .i64 x.t]) hS ?_ ?_
  ·intro w' hS';obtain ⟨E1,E2,E3,E4,E5,E6,E7⟩:=hS';go_simp
  try simp only[Act.put]
  refine wpAnyH_ready (rs:=[6,10]) (by kernel_rfl) (by simp) ?_
  refine AllReadyH.cons rfl (fun K hK=>?_) (AllReadyH.cons rfl (fun K hK=>?_) AllReadyH.nil)
  ·go_simp
   refine (hG _ ((Below.refl _ _).drew)).mono ?_
   rintro e w5 ⟨a1,m1,a2,m2,rfl,hl1,hp1,hl2,hp2,hb5⟩
   have hb5:Below X0.heap.size X0 w5:=((Below.refl _ _).drew).trans hb5
   go_simp
   refine hK.out _ _ (kp _ hb5) (fun hS=>?_)
   clear hK K
   refine tk 7 (.tuple #[.agg #[.int .i64 r1.cap,.slice a1 r1.used.length m1,.slice a2 r1.adv.length m2],.int .i64 r2]) hS ?_ ?_
   ·intro w' _;go_simp
   refine tk 8 (.agg #[.int .i64 r1.cap,.slice a1 r1.used.length m1,.slice a2 r1.adv.length m2]) hS ?_ ?_
   ·intro w' _;go_simp
   refine tk 9 (.int .i64 r2) hS ?_ ?_
   ·intro w' _;go_simp
   try simp only[Act.put]
   refine rd 10 (.cons rfl (fun K hK=>?_) .nil)
   go_simp
   refine hK.out _ _ (kp _ (bel_alloc hb5 _)) (fun hS=>?_)
   clear hK K
   try simp only[nrm,Act.put]
   refine rd 11 (.cons rfl (fun K hK=>?_) .nil)
   go_simp
   refine hK.out _ _ (kp _ (bel_alloc hb5 _)) (fun hS=>?_)
   clear hK K
   try simp only[nrm,Act.put]
   refine rd 12 (.cons rfl (fun K hK=>?_) .nil)
   go_simp
   refine hK.out _ _ (kp _ (bel_alloc hb5 _)) (fun hS=>?_)
   clear hK K
   try simp only[nrm,Act.put]
   refine wpAnyH_done (by kernel_rfl) ?_ _
   go_wp2_with fail
   go_meet
   exact ⟨w5.heap.size,a1,m1,a2,m2,rfl,rfl,hb5.size,heap_alloc_at _ _ _ rfl,hl1.alloc _,hp1,hl2.alloc _,hp2,bel_alloc hb5 _⟩
  ·go_simp
   refine hK.out _ _ (kp _ (bel_alloc (Below.refl _ _) _).drew) (fun hS=>?_)
   clear hK K
   try simp only[nrm,Act.put]
   refine rd 6 (.cons rfl (fun K hK=>?_) .nil)
   go_simp
   refine (hG _ ((bel_alloc (Below.refl _ _) (.cells #[.int .i64 0,.slice none 0 0,.slice none 0 0] 38)).drew)).mono ?_
   rintro e w5 ⟨a1,m1,a2,m2,rfl,hl1,hp1,hl2,hp2,hb5⟩
   have hz1:w5.heap[X0.heap.size]?=some (dno 0 (.slice none 0 0) (.slice none 0 0)):=(hb5.block _ (by simp)).trans (heap_alloc_at _ _ _ rfl)
   have hp1:Past (X0.heap.size +1) a1:=by simpa using hp1
   have hp2:Past (X0.heap.size+1) a2:=by simpa using hp2
   have hb5:Below X0.heap.size X0 w5:=(bel_alloc (Below.refl _ _) (.cells #[.int .i64 0,.slice none 0 0,.slice none 0 0] 38)).drew.trans (hb5.mono (by simp))
   go_simp
   refine hK.out _ _ (kp _ hb5) (fun hS=>?_)
   clear hK K
   refine tk 7 (.tuple #[.agg #[.int .i64 r1.cap,.slice a1 r1.used.length m1,.slice a2 r1.adv.length m2],.int .i64 r2]) hS ?_ ?_
   ·intro w' _;go_simp
   refine tk 8 (.agg #[.int .i64 r1.cap,.slice a1 r1.used.length m1,.slice a2 r1.adv.length m2]) hS ?_ ?_
   ·intro w' _;go_simp
   refine tk 9 (.int .i64 r2) hS ?_ ?_
   ·intro w' _;go_simp
   obtain ⟨z0,z1,z2⟩:=dno_cells hz1
   have zf:∀p,w5.frozen? ⟨X0.heap.size,p,none⟩=false:=fun p=>by unfold dno at hz1;simp[World.frozen?,hz1]
   have zf0:=zf 0
   have zf1:=zf 1
   have zf2:=zf 2
   try simp only[Act.put]
   refine rd 11 (.cons rfl (fun K hK=>?_) .nil)
   go_simp
   have hY8:=dno_put (u:=r1.cap) (x:=.slice a1 r1.used.length m1) (y:=.slice a2 r1.adv.length m2) hz1
   have hbY:Below X0.heap.size X0 (((w5.setCell ⟨X0.heap.size,0,none⟩ (.int .i64 r1.cap)).setCell ⟨X0.heap.size,1,none⟩ (.slice a1 r1.used.length m1)).setCell ⟨X0.heap.size,2,none⟩ (.slice a2 r1.adv.length m2)):=by repeat (first|refine Below.setCell ?_ (by first|(simp;done)|omega) _|exact hb5)
   have hlY:Gn.Lies kI (((w5.setCell ⟨X0.heap.size,0,none⟩ (.int .i64 r1.cap)).setCell ⟨X0.heap.size,1,none⟩ (.slice a1 r1.used.length m1)).setCell ⟨X0.heap.size,2,none⟩ (.slice a2 r1.adv.length m2)) a1 m1 r1.used:=by repeat (first|exact hl1|refine Gn.Lies.set ?_ hp1 (by simp) _)
   have hlZ:Gn.Lies St.kA (((w5.setCell ⟨X0.heap.size,0,none⟩ (.int .i64 r1.cap)).setCell ⟨X0.heap.size,1,none⟩ (.slice a1 r1.used.length m1)).setCell ⟨X0.heap.size,2,none⟩ (.slice a2 r1.adv.length m2)) a2 m2 r1.adv:=by repeat (first|exact hl2|refine Gn.Lies.set ?_ hp2 (by simp) _)
   generalize (((w5.setCell ⟨X0.heap.size,0,none⟩ (.int .i64 r1.cap)).setCell ⟨X0.heap.size,1,none⟩ (.slice a1 r1.used.length m1)).setCell ⟨X0.heap.size,2,none⟩ (.slice a2 r1.adv.length m2))=Y at*
   refine hK.out _ _ (kp _ hbY) (fun hS=>?_)
   clear hK K
   try simp only[nrm,Act.put]
   refine rd 12 (.cons rfl (fun K hK=>?_) .nil)
   go_simp
   refine hK.out _ _ (kp _ hbY) (fun hS=>?_)
   clear hK K
   try simp only[nrm,Act.put]
   refine wpAnyH_done (by kernel_rfl) ?_ _
   go_wp2_with fail
   go_meet
   exact ⟨X0.heap.size,a1,m1,a2,m2,rfl,rfl,Nat.le_refl _,hY8,hlY,past_less hp1,hlZ,past_less hp2,hbY⟩
 case rest=>
  obtain ⟨Z,a1,m1,a2,m2,rfl,rfl,hZ,hZb,hl1,hp1,hl2,hp2,hbc⟩:=hcut
  clear kp hG
  have H3:=H2.below hbc
  have S3:=S2.trans (stp_below hbc)
  have p1:Ap kI (relab l2 X0.heap.size 0) wc (.slice a1 r1.used.length m1) r1.used 0:=ap_new rfl hl1 hp1
  have p2:Ap St.kA (relab l2 X0.heap.size 0) wc (.slice a2 r1.adv.length m2) r1.adv 0:=ap_new rfl hl2 hp2
  clear hbc hl1 hl2 hp1 hp2 H2 S2
  generalize relab l2 X0.heap.size 0=l3 at*
  generalize wc=W3 at*
  obtain ⟨x0,x1,x2⟩:=dno_cells hZb
  obtain ⟨-,-,-,-,-,-,-,-,-,-,-,-,-,d13,d14,d15,-⟩:=blk_cells H3.blk
  rw[hu1.out] at d14
  rw[hu2.out] at d15
  have f13:=blk_free H3.blk 13
  have f14:=blk_free H3.blk 14
  have f15:=blk_free H3.blk 15
  by_cases q:r2=0
  case neg=>
   have hE:=hid (N1.out q)
   clear N1 N2 N3 p1 p2
   have q':(r2 !=0)=true:=by simpa using q
   by_cases q10:r2=10
   ·subst q10
    rw[if_pos rfl] at hE
    go_wp2_with fail
    refine bodyPost_ret (v:=.tuple #[.int .i64 0,.int .i64 12]) (by simp[results,Tryz.results126,go_sem]) rfl ?_
    unfold Done3
    rw[hE.out]
    exact ⟨rfl,_,H3.goes,S3⟩
   ·have q10':(r2 ==10)=false:=by simpa using q10
    rw[if_neg q10] at hE
    clear q q10
    go_wp2_with fail
    refine bodyPost_ret (v:=.tuple #[.int .i64 0,.int .i64 r2]) (by simp[results,Tryz.results126,go_sem]) rfl ?_
    unfold Done3
    rw[hE.out]
    exact ⟨rfl,_,H3.goes,S3⟩
  case pos=>
   subst q
   by_cases q30:30≤b.auths.length+b.stand.adv.length
   ·have hE:=hid (N2.out rfl q30)
    have q30':(30:Int)≤(b.auths.length :Int)+b.stand.adv.length:=by omega
    clear N1 N2 N3 p1 p2
    go_wp2_with fail
    refine bodyPost_ret (v:=.tuple #[.int .i64 0,.int .i64 5]) (by simp[results,Tryz.results126,go_sem]) rfl ?_
    unfold Done3
    rw[hE.out]
    exact ⟨rfl,_,H3.goes,S3⟩
   ·have hE:=hid (N3.out rfl q30)
    have q30':¬((30 :Int)≤(b.auths.length:Int)+b.stand.adv.length):=by omega
    clear N1 N2 N3
    obtain ⟨l4,H4,S4⟩:=H3.standPut (s:=r1) p1 p2
    have S5:=S3.trans S4
    clear S3 S4 p1 p2 H3
    go_wp2_with fail
    refine bodyPost_ret (v:=.tuple #[.int .i64 ((b.auths.length :Int)+b.stand.adv.length),.int .i64 0]) (by simp[results,Tryz.results126,go_sem]) rfl ?_
    unfold Done3
    rw[hE.out]
    exact ⟨by rw[Int.natCast_add],_,H4.goes,S5⟩
end Go.Proofs.YtofcnebekmjdoaaGreatDoor.Bn
