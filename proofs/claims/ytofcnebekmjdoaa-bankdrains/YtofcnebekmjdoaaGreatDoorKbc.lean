import Derived.Test.YtofcnebekmjdoaaGreatDoorKbb
set_option maxHeartbeats 4000000
set_option maxRecDepth 100000
namespace Go.Proofs.YtofcnebekmjdoaaGreatDoor.Bn
open Go.RowKit Go.Proofs.YtofcnebekmjdoaaGreatDoor.Gn
structure Lz (X:World) (g Z:Nat) (x:Au.Au) (time:Int):Prop where
 a8:Au8 X Z 0 x
 tm:X.cell? ⟨g,0,none⟩=some (.int .i64 time)
theorem GoesV.time {w:World} {g base:Nat} {lab:Lab} {b:Bank} {tm va:Value} (h:GoesV w g base lab b tm va):w.cell? ⟨g,0,none⟩=some (.int .i64 b.time):=by
 obtain ⟨v,cs,ds,H,-⟩:=h
 exact (blk_cells H.blk).1
theorem lateK_cards {b:Bank} (H:Held b) (k:Nat):(lateK b k).cards.length=b.cards.length:=
 (fold_late b.time (b.auths.take k) b.cards fun a ha=>⟨(H.auths a (List.mem_of_mem_take ha)).1.2.2.2.2.1.1,(H.auths a (List.mem_of_mem_take ha)).2.2.1⟩).1
structure Auz (X:World) (l:Lab) (z:Nat) (a:Au.Au):Prop where
 ab:X.heap[z]?=some (auo a)
 al:l z=0
theorem Auz.on {X Y:World} {l l':Lab} {z:Nat} {a:Au.Au} (h:Auz X l z a) (hs:Stp X l Y l'):Auz Y l' z a:=⟨hs.at h.ab h.al,hs.zero (lt_of_block h.ab) h.al⟩
theorem glate (g base:Nat) (lab:Lab) (b:Bank) (tm:Value) (w:World) (h:Goes w g base lab b tm) (I:Inv b):Calls Tryz.prog 133 #[.pointer (some ⟨g,0,none⟩)] w (Done w g base lab tm (shutB b,0)):=by
 obtain ⟨v,cs,ds,H⟩:=h
 obtain ⟨a0,cap0,hv⟩:=H.mem.auths.form
 obtain ⟨-,-,-,-,c4,-⟩:=blk_cells H.blk
 rw[hv] at c4
 have hfew:b.auths.length≤30:=by have :=I.held.few;omega
 have G0:GoesV w g base lab (lateK b 0) tm (.slice a0 b.auths.length cap0):=by rw[lateK_zero];exact ⟨v,cs,ds,H,hv⟩
 have HI:=hid I
 have hend:Hid (lateK b b.auths.length=shutB b):=hid (lateK_end b)
 clear I
 go_enter Tryz.func133,Tryz.ntmps133
 go_wp2_with fail
 go_loopw[12,3](fun i e wr=>∃(k:Nat) (l:Lab),k≤b.auths.length∧i=.int .i64 k∧e=.int .i64 0∧GoesV wr g base l (lateK b k) tm (.slice a0 b.auths.length cap0)∧Stp w lab wr l) (fun i _ _=>b.auths.length-(intOf i).toNat)
 case atStart=>exact ⟨0,lab,Nat.zero_le _,rfl,rfl,G0,Stp.refl _ _⟩
 case round=>
  clear G0 c4 H
  obtain ⟨k,l,hk,rfl,rfl,G1,S1⟩:=hrel
  by_cases hlt:k<b.auths.length
  ·have hlt':(k :Int)<b.auths.length:=by omega
   have hst:=hid (late_step HI.out hlt)
   have hal:=lateK_auths b k
   have hat:=lateK_at b k hlt
   have hcl:=lateK_cards HI.out.held k
   have hg:=HI.out.held.auths _ (getD_mem' zA hlt)
   have wr1:Au.wrongA (b.auths.getD k zA)=0:=Au.wrongA_ok.2 ⟨hg.1,hg.2.1⟩
   have wr2:Au.wrongA (Au.lateA (b.auths.getD k zA) b.time)=0:=Au.wrongA_ok.2 ⟨hg.1,hg.2.1⟩
   have hcc:(Au.lateA (b.auths.getD k zA) b.time).card<(lateK b k).cards.length:=by rw[hcl];exact hg.2.2.1
   have GB:∀(X:World) (l':Lab),GoesV X g base l' (lateK b k) tm (.slice a0 b.auths.length cap0)→Calls Tryz.prog 130 #[.pointer (some ⟨g,0,none⟩),.int .i64 (k :Int),Au.av (Au.lateA (b.auths.getD k zA) b.time)] X (DoneV X g base l' tm (.slice a0 b.auths.length cap0) (lateK b (k +1),0)):=fun X l' hX=>by
    have:= gbecomeV g base l' (lateK b k) tm _ k (Au.lateA (b.auths.getD k zA) b.time) X hX (by rw[hal];exact hlt) wr2 (by rw[hat];exact wr1) hcc
    rw[hst.out] at this
    exact this
   have GL:∀X:World,Calls Tryz.prog 159 #[Au.av (b.auths.getD k zA),.int .i64 b.time] X fun e w'=>e=.returned (Au.av (Au.lateA (b.auths.getD k zA) b.time))∧Below X.heap.size X w':=fun X=>Au.late_any _ _ X
   obtain ⟨v1,cs1,ds1,H1,hv1⟩:=G1
   obtain ⟨ga,cap,A⟩:=H1.mem.authAt (k:=k) (by rw[hal];exact hlt)
   have A8:=A.cells
   rw[hat] at A8
   have hve:=hv1.symm.trans A.val
   rw[hal] at hve
   obtain ⟨rfl,-,rfl⟩:=Value.slice.inj hve
   have G1:=H1.goesV hv1
   obtain ⟨x,hx⟩:∃x,Hid (x =b.auths.getD k zA):=⟨_,rfl⟩
   obtain ⟨y,hy⟩:∃y,Hid (y =Au.lateA (b.auths.getD k zA) b.time):=⟨_,rfl⟩
   rw[←hy.out] at GB GL
   rw[←hx.out] at GL A8
   unfold Au.av at GB GL
   unfold DoneV at GB
   have htm:=G1.time
   have hT:Hid ((lateK b k).time=b.time):=hid rfl
   rw[hT.out] at htm
   have hT1:Hid ((lateK b (k +1)).time=b.time):=hid rfl
   obtain ⟨q0,q1,q2,q3,q4,q5,q6,q7⟩:=A8.all
   have hb0:=below_alloc wr (auo x)
   have G2:=G1.below hb0
   have S2:=S1.trans (stp_below (lab:=l) hb0)
   have Z2:Auz (wr.alloc (auo x)) (relab l wr.heap.size 0) wr.heap.size x:=⟨heap_alloc_at _ _ _ rfl,relab_new (Nat.le_refl _)⟩
   have hk1:k+1≤b.auths.length:=hlt
   clear A A8 H1 hg wr1 wr2 hcc hat hcl hst hv1 hve hb0 G1 S1
   unfold auo at G2 S2 Z2
   obtain ⟨r,hr⟩:∃r,Hid (r=lateK b (k+1)):=⟨_,rfl⟩
   rw[←hr.out] at GB hT1
   go_upto_region 5 with fail
   generalize wr.alloc (.cells #[.int .i64 x.card,.int .i64 x.shop,.int .i64 x.sum,.int .i64 x.cap,.int .i64 x.ref,.int .i64 x.dis,.int .i64 x.till,.bool x.shut] 66)=W at*
   have htW:=G2.time
   rw[hT.out] at htW
   generalize wr.heap.size=Z at*
   clear q0 q1 q2 q3 q4 q5 q6 q7 htm hal
   have hLz:Lz W.drew g Z x b.time:=⟨(auo_cells (w:=W.drew) Z2.ab),htW⟩
   refine wp_region_held_drew (S:=(fun X=>Lz X g Z x b.time)) (by kernel_rfl) (hLz) (fun hS=>?_)
   refine tk 0 (.int .i64 0) hS ?_ ?_
   ·intro w' _;go_simp
   refine tk 1 (.pointer (some ⟨g,0,none⟩)) hS ?_ ?_
   ·intro w' _;go_simp
   refine tk 2 (.int .i64 (k :Int)) hS ?_ ?_
   ·intro w' _;go_simp
   refine tk 3 (.agg #[.int .i64 x.card,.int .i64 x.shop,.int .i64 x.sum,.int .i64 x.cap,.int .i64 x.ref,.int .i64 x.dis,.int .i64 x.till,.bool x.shut]) hS ?_ ?_
   ·intro w' hS';obtain ⟨e0,e1,e2,e3,e4,e5,e6,e7⟩:=hS'.a8.all;have t0:=hS'.tm;go_simp
   try simp only[Act.put]
   refine tk 4 (.pointer (some ⟨g,0,none⟩)) hS ?_ ?_
   ·intro w' _;go_simp
   refine tk 5 (.pointer (some ⟨g,0,none⟩)) hS ?_ ?_
   ·intro w' _;go_simp
   refine tk 6 (.pointer (some ⟨g,0,none⟩)) hS ?_ ?_
   ·intro w' _;go_simp
   refine tk 7 (.pointer (some ⟨g,0,none⟩)) hS ?_ ?_
   ·intro w' _;go_simp
   try simp only[Act.put]
   refine tk 8 (.int .i64 b.time) hS ?_ ?_
   ·intro w' hS';obtain ⟨e0,e1,e2,e3,e4,e5,e6,e7⟩:=hS'.a8.all;have t0:=hS'.tm;go_simp
   try simp only[Act.put]
   refine rd 9 (.cons rfl (fun K hK=>?_) .nil)
   go_simp
   refine (GL _).mono ?_
   rintro e w5 ⟨rfl,hb5⟩
   have G5:=G2.drew.below hb5
   have S5:=S2.drew.trans (stp_below hb5)
   have Z5:=Z2.on ((Stp.refl W _).drew.trans (stp_below hb5))
   have t5:=G5.time
   rw[hT.out] at t5
   go_simp
   refine hK.out _ _ (⟨auo_cells Z5.ab,t5⟩) (fun hS=>?_)
   clear hK K
   try simp only[nrm,Act.put]
   refine rd 10 (.cons rfl (fun K hK=>?_) .nil)
   go_simp
   refine (GB _ _ G5).mono ?_
   rintro e w6 ⟨rfl,lab6,G6,S6⟩
   have Z6:=Z5.on S6
   have t6:=G6.time
   rw[hT1.out] at t6
   go_simp
   refine hK.out _ _ (⟨auo_cells Z6.ab,t6⟩) (fun hS=>?_)
   clear hK K
   try simp only[nrm,Act.put]
   refine rd 11 (.cons rfl (fun K hK=>?_) .nil)
   go_simp
   have Z7:=Z6.on (stp_below (below_alloc w6 (.cells #[.int .i64 0,.int .i64 0] 45)))
   have G7:=G6.below (below_alloc w6 (.cells #[.int .i64 0,.int .i64 0] 45))
   have S7:=(S5.trans S6).trans (stp_below (below_alloc w6 (.cells #[.int .i64 0,.int .i64 0] 45)))
   have t7:=G7.time
   rw[hT1.out] at t7
   refine hK.out _ _ (⟨auo_cells Z7.ab,t7⟩) (fun hS=>?_)
   clear hK K
   try simp only[nrm,Act.put]
   refine rd 12 (.cons rfl (fun K hK=>?_) .nil)
   go_simp
   refine (or_two 0 0 _ w6).mono ?_
   rintro e w8 ⟨rfl,rfl⟩
   rw[orE_zero]
   go_simp
   refine hK.out _ _ (⟨auo_cells Z7.ab,t7⟩) (fun hS=>?_)
   clear hK K
   try simp only[nrm,Act.put]
   refine rd 13 (.cons rfl (fun K hK=>?_) .nil)
   go_simp
   refine hK.out _ _ (⟨auo_cells Z7.ab,t7⟩) (fun hS=>?_)
   clear hK K
   try simp only[nrm,Act.put]
   refine wpAnyH_done (by kernel_rfl) ?_ _
   go_wp2_with fail
   go_roundw
   case rel=>rw[hr.out] at G7;exact ⟨k+1,_,hk1,by go_num,rfl,G7,S7⟩
   case measure=>simp[intOf];omega
  ·have hke:k=b.auths.length:=by omega
   subst hke
   rw[hend.out] at G1
   go_wp2_with fail
   go_ret
   exact ⟨rfl,_,G1.goes,S1⟩
theorem gtick (g base:Nat) (lab:Lab) (b:Bank) (tm:Value) (d:Dd) (w:World) (h:Goes w g base lab b tm) (I:Inv b):Calls Tryz.prog 99 #[.pointer (some ⟨g,0,none⟩),.int .i64 d.sum] w (Done w g base lab tm (tickB b d)):=by
 obtain ⟨v,cs,ds,H⟩:=h
 have t0:=I.held.time0
 have t1:=I.held.time1
 have c0:=(blk_cells H.blk).1
 have c1:=(blk_cells H.blk).2.1
 have f0:=blk_free H.blk 0
 generalize hn:d.sum=n at*
 by_cases q1:n<0∨1000000-b.time<n
 ·have hE:Hid (tickB b d=(b,3)):=hid (by unfold tickB;rw[hn,if_pos (by omega)])
  by_cases q2:n<0
  ·go_enter Tryz.func99,Tryz.ntmps99
   go_wp2_with fail
   go_ret
   unfold Done
   rw[hE.out]
   exact ⟨rfl,_,H.goes,Stp.refl _ _⟩
  ·have q3:1000000-b.time<n:=by omega
   have q2':¬(n <0):=by omega
   go_enter Tryz.func99,Tryz.ntmps99
   go_wp2_with fail
   go_ret
   unfold Done
   rw[hE.out]
   exact ⟨rfl,_,H.goes,Stp.refl _ _⟩
 ·have q2':¬(n <0):=by omega
  have q3:¬(1000000-b.time<n):=by omega
  have hadd:IntKind.i64.wrap (b.time+n)=b.time+n:=wrap64' (by omega) (by omega)
  have H1:=H.put1 (b':={b with time:=b.time+n}) (H.mem.plain (b.time +n) b.down b.seen) (i:=0) (x:=.int .i64 (b.time+n)) rfl
  have S1:=stp_set (w:=w) H.lb 0 (.int .i64 (b.time +n))
  have d1:=(blk_cells H1.blk).2.1
  have I1:Inv {b with time:=b.time+n}:=by have :=tick_mid (d:=d) I (by rw[hn];omega);rw[hn] at this;exact this
  have hL:=glate g base _ _ tm _ H1.goes I1
  unfold Done at hL
  cases hd:b.down with
  |true=>
   have hE:Hid (tickB b d=({ b with time:=b.time+n},0)):=hid (by unfold tickB;rw[hn,if_neg (by omega),if_pos hd])
   rw[hd] at d1
   go_enter Tryz.func99,Tryz.ntmps99
   go_upto_region 4 with fail
   generalize w.setCell ⟨g,0,none⟩ (.int .i64 (b.time +n))=W at*
   go_wp2_with fail
   go_ret
   unfold Done
   rw[hE.out]
   exact ⟨rfl,_,H1.goes,S1⟩
  |false=>
   have hE:Hid (tickB b d=(shutB {b with time:=b.time+n},0)):=hid (by unfold tickB;rw[hn,if_neg (by omega),if_neg (by rw[hd];simp)])
   rw[hd] at d1
   go_enter Tryz.func99,Tryz.ntmps99
   go_upto_region 4 with fail
   generalize w.setCell ⟨g,0,none⟩ (.int .i64 (b.time +n))=W at*
   go_wp2_with (go_at_call 133;refine hL.mono ?_;rintro e w5 ⟨rfl,lab5,G5,S5⟩)
   go_ret
   unfold Done
   rw[hE.out]
   exact ⟨rfl,_,G5,S1.trans S5⟩
theorem gload (g base:Nat) (lab:Lab) (b:Bank) (tm:Value) (d:Dd) (w:World) (h:Goes w g base lab b tm) (h8:b.cards.length≤8):Calls Tryz.prog 96 #[.pointer (some ⟨g,0,none⟩),.int .i64 d.n,.int .i64 d.sum] w (Done w g base lab tm (loadP b d)):=by
 obtain ⟨id,kind,n,shop,mv,sum⟩:=d
 have hC:=isCard_any g base lab b tm n w h
 by_cases q1:n<0∨(b.cards.length:Int)≤n
 ·have hE:Hid (loadP b ⟨id,kind,n,shop,mv,sum⟩=(b,6)):=hid (by unfold loadP;rw[if_pos q1])
  rw[isIn_false.2 q1] at hC
  clear q1
  go_enter Tryz.func96,Tryz.ntmps96
  go_wp2_with (go_at_call 123;refine hC.mono ?_;rintro e w1 ⟨rfl,rfl⟩)
  go_ret
  unfold Done
  rw[hE.out]
  exact ⟨rfl,_,h,Stp.refl _ _⟩
 rw[isIn_true.2 (by omega)] at hC
 obtain ⟨k,rfl⟩:∃k:Nat,n=k:=⟨n.toNat,by omega⟩
 have hk:k<b.cards.length:=by omega
 by_cases q2:sum<1
 ·have hE:Hid (loadP b ⟨id,kind,k,shop,mv,sum⟩=(b,3)):=hid (by unfold loadP;rw[if_neg q1,if_pos (Or.inl q2)])
  go_enter Tryz.func96,Tryz.ntmps96
  go_wp2_with (go_at_call 123;refine hC.mono ?_;rintro e w1 ⟨rfl,rfl⟩)
  go_ret
  unfold Done
  rw[hE.out]
  exact ⟨rfl,_,h,Stp.refl _ _⟩
 by_cases q3:1000000<sum
 ·have hE:Hid (loadP b ⟨id,kind,k,shop,mv,sum⟩=(b,3)):=hid (by unfold loadP;rw[if_neg q1,if_pos (Or.inr q3)])
  go_enter Tryz.func96,Tryz.ntmps96
  go_wp2_with (go_at_call 123;refine hC.mono ?_;rintro e w1 ⟨rfl,rfl⟩)
  go_ret
  unfold Done
  rw[hE.out]
  exact ⟨rfl,_,h,Stp.refl _ _⟩
 have hE:Hid (loadP b ⟨id,kind,k,shop,mv,sum⟩=cardGetsP b k 0 sum):=hid (by unfold loadP;rw[if_neg q1,if_neg (by dsimp only;omega)])
 have hG:=gcardGets g base lab b tm k 0 sum w h hk (by omega)
 rw[←hE.out] at hG
 unfold Done at hG
 generalize loadP b ⟨id,kind,k,shop,mv,sum⟩=r at*
 go_enter Tryz.func96,Tryz.ntmps96
 go_wp2_with (first
  |(go_at_call 123;refine hC.mono ?_;rintro e w1 ⟨rfl,rfl⟩)
  |(go_at_call 124;refine hG.mono ?_;rintro e w2 ⟨rfl,lab2,hG2,hB2⟩))
 go_ret
 exact ⟨rfl,_,hG2,hB2⟩
theorem gpay (g base:Nat) (lab:Lab) (b:Bank) (tm:Value) (d:Dd) (w:World) (h:Goes w g base lab b tm) (h8:b.due.length≤8) (f:∀k:Nat,k<b.due.length→-1000000000000000≤b.due.getD k 0∧b.due.getD k 0≤1000000000000000):Calls Tryz.prog 106 #[.pointer (some ⟨g,0,none⟩),.int .i64 d.n] w (Done w g base lab tm (payP b d)):=by
 obtain ⟨id,kind,n,shop,mv,sum⟩:=d
 have hC:=isShop_any g base lab b tm n w h
 by_cases q1:n<0∨(b.due.length:Int)≤n
 ·have hE:Hid (payP b ⟨id,kind,n,shop,mv,sum⟩=(b,6)):=hid (by unfold payP;rw[if_pos q1])
  rw[isIn_false.2 q1] at hC
  clear q1
  go_enter Tryz.func106,Tryz.ntmps106
  go_wp2_with (go_at_call 125;refine hC.mono ?_;rintro e w1 ⟨rfl,rfl⟩)
  go_ret
  unfold Done
  rw[hE.out]
  exact ⟨rfl,_,h,Stp.refl _ _⟩
 rw[isIn_true.2 (by omega)] at hC
 obtain ⟨k,rfl⟩:∃k:Nat,n=k:=⟨n.toNat,by omega⟩
 have hk:k<b.due.length:=by omega
 have hf:=f k hk
 obtain ⟨v,cs,ds,H⟩:=h.hand
 obtain ⟨gd,cap,D⟩:=H.mem.dueAt hk
 have hk2:(k :Int)<b.due.length:=by omega
 obtain ⟨-,-,-,c3,-⟩:=blk_cells H.blk
 rw[D.val] at c3
 have d0:=D.c0
 have hdo:b.dueOf (k :Int)=b.due.getD k 0:=by unfold Bank.dueOf;rw[Int.toNat_natCast]
 by_cases q2:b.due.getD k 0<1
 ·have hE:Hid (payP b ⟨id,kind,k,shop,mv,sum⟩=(b,10)):=hid (by unfold payP;rw[if_neg q1,if_pos (by rw[hdo];exact q2)])
  have q2':b.due.getD k 0≤0:=by omega
  clear hdo q2 D
  generalize b.due.getD k 0=x at*
  go_enter Tryz.func106,Tryz.ntmps106
  go_wp2_with (go_at_call 125;refine hC.mono ?_;rintro e w1 ⟨rfl,rfl⟩)
  go_ret
  unfold Done
  rw[hE.out]
  exact ⟨rfl,_,h,Stp.refl _ _⟩
 have hE:Hid (payP b ⟨id,kind,k,shop,mv,sum⟩=shopGivesP b k 0 (b.due.getD k 0)):=hid (by unfold payP;rw[if_neg q1,if_neg (by rw[hdo];exact q2)];dsimp only;rw[hdo])
 have q2':¬(b.due.getD k 0≤0):=by omega
 have hG:∀X,Goes X g base lab b tm→Calls Tryz.prog 141 #[.pointer (some ⟨g,0,none⟩),.int .i64 (k:Int),.int .i64 0,.int .i64 (b.due.getD k 0)] X (Done X g base lab tm (payP b ⟨id,kind,k,shop,mv,sum⟩)):=fun X hX=>by
  have:= gshopGives g base lab b tm k 0 (b.due.getD k 0) X hX hk (by omega) hf.1 hf.2 hf.1 hf.2
  rw[←hE.out] at this
  exact this
 unfold Done at hG
 clear hE hdo q2 D
 generalize payP b ⟨id,kind,k,shop,mv,sum⟩=r at*
 generalize b.due.getD k 0=x at*
 go_enter Tryz.func106,Tryz.ntmps106
 go_wp2_with (first
  |(go_at_call 125;refine hC.mono ?_;rintro e w1 ⟨rfl,rfl⟩)
  |(go_at_call 141;refine (hG _ (by first|exact h|exact h.drew)).mono ?_;rintro e w2 ⟨rfl,lab2,hG2,hB2⟩))
 all_goals
  go_ret
  exact ⟨rfl,_,hG2,hB2⟩
theorem gdown (g base:Nat) (lab:Lab) (b:Bank) (tm:Value) (w:World) (h:Goes w g base lab b tm):Calls Tryz.prog 103 #[.pointer (some ⟨g,0,none⟩)] w (Done w g base lab tm (downB b)):=by
 obtain ⟨v,cs,ds,H⟩:=h
 have c1:=(blk_cells H.blk).2.1
 have f1:=blk_free H.blk 1
 cases hd:b.down with
 |true=>
  have hE:Hid (downB b=(b,8)):=hid (by unfold downB;rw [if_pos hd])
  rw [hd] at c1
  go_enter Tryz.func103,Tryz.ntmps103
  go_wp2_with fail
  go_ret
  unfold Done
  rw [hE.out]
  exact ⟨rfl,_,H.goes,Stp.refl _ _⟩
 |false=>
  have hE:Hid (downB b=({b with down:=true},0)):=hid (by unfold downB;rw [if_neg (by rw [hd];simp)])
  rw [hd] at c1
  have H1:=H.put1 (b':={b with down:=true}) (H.mem.plain b.time true b.seen) (i:=1) (x:=.bool true) rfl
  have S1:=stp_set (w:=w) H.lb 1 (.bool true)
  go_enter Tryz.func103,Tryz.ntmps103
  go_wp2_with fail
  go_ret
  unfold Done
  rw [hE.out]
  exact ⟨rfl,_,H1.goes,S1⟩
end Go.Proofs.YtofcnebekmjdoaaGreatDoor.Bn
