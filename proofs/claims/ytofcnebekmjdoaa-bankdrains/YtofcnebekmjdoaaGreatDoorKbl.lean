import Derived.Test.YtofcnebekmjdoaaGreatDoorKbk
set_option maxHeartbeats 4000000
set_option maxRecDepth 100000
namespace Go.Proofs.YtofcnebekmjdoaaGreatDoor.Bn
open Go.RowKit Go.Proofs.YtofcnebekmjdoaaGreatDoor.Gn
def DoneE (w:World) (g base:Nat) (lab:Lab) (tm:Value) (r:Bank×Int) (e:Ending) (w':World):Prop:=e=.returned (.int .i64 r.2)∧∃lab',Stp w lab w' lab'∧(r.2=0→Goes w' g base lab' r.1 tm)
theorem Done.plan{w:World}{g base:Nat}{lab:Lab}{tm:Value}{x r:Bank×Int}{e:Ending}{w':World}(h:Done w g base lab tm x e w') (p:Plan x r):DoneE w g base lab tm r e w':=by
 obtain ⟨he,lab',hG,hS⟩:=h
 exact ⟨by rw[he,p.1],lab',hS,fun h0=>by rw[←p.2 h0];exact hG⟩
theorem Done.same {w:World} {g base:Nat} {lab:Lab} {tm:Value} {r:Bank×Int} {e:Ending} {w':World}(h:Done w g base lab tm r e w'):DoneE w g base lab tm r e w':=h.plan (plan_refl r)
def tro (t:Po.Tr):Obj:=.cells #[.int .i64 t.n,.int .i64 t.k,.int .i64 t.a,.int .i64 t.s] 64
theorem tro_cells {w:World} {z:Nat} {t:Po.Tr} (h:w.heap[z]?=some (tro t)):w.cell? ⟨z,0,none⟩=some (.int .i64 t.n)∧w.cell? ⟨z,1,none⟩=some (.int .i64 t.k)∧w.cell? ⟨z,2,none⟩=some (.int .i64 t.a)∧w.cell? ⟨z,3,none⟩=some (.int .i64 t.s):=by
 unfold tro at h
 refine ⟨?_,?_,?_,?_⟩<;>simp[World.cell?,h]
structure Bz (X:World) (l:Lab) (z:Nat) (o:Obj):Prop where
 ob:X.heap[z]?=some o
 ol:l z=0
theorem Bz.on {X Y:World}{l l':Lab}{z:Nat}{o:Obj}(h:Bz X l z o) (hs:Stp X l Y l'):Bz Y l' z o:=⟨hs.at h.ob h.ol,hs.zero (lt_of_block h.ob) h.ol⟩
theorem Bz.drew {X:World}{l:Lab}{z:Nat}{o:Obj} (h:Bz X l z o):Bz X.drew l z o:=⟨h.ob,h.ol⟩
theorem bz_new (w:World) (l:Lab) (o:Obj):Bz (w.alloc o) (relab l w.heap.size 0) w.heap.size o:=⟨heap_alloc_at _ _ _ rfl,relab_new (Nat.le_refl _)⟩
theorem gnext_none (g base:Nat) (lab:Lab) (b:Bank) (tm:Value) (i:Bool) (w:World) (h:Goes w g base lab b tm) (hr:b.way i=[]):
  Calls Tryz.prog 102 #[.pointer (some ⟨g,0,none⟩),.int .i64 (sideN i)] w (DoneP w g base lab tm b ⟨Po.zeroT,0⟩ 6):=by
 have hS:=fun X=>isSide_any (sideN i) X
 rw [isIn_true.2 (by cases i<;>decide)] at hS
 have hb0:=below_alloc w (.cells #[.int .i64 0,.int .i64 0,.int .i64 0,.int .i64 0,.int .i64 0] 111)
 have G1:=h.below hb0
 have S1:=stp_below (lab:=lab) hb0
 obtain ⟨v,cs,ds,H1⟩:=G1
 obtain ⟨a,cap,hv,-⟩:=H1.mem.ways i
 rw [hr] at hv
 obtain ⟨-,-,-,-,-,-,-,-,-,-,-,w11,w12,-⟩:=blk_cells H1.blk
 have G1:=H1.goes
 clear hb0 hr
 cases i with
 |false=>
  rw [hv] at w11
  clear w12
  unfold sideN at*
  simp only [Bool.false_eq_true,if_false,List.length_nil] at*
  go_enter Tryz.func102,Tryz.ntmps102
  go_wp2_with (go_at_call 134;refine (hS _).mono ?_;rintro e w1 ⟨rfl,rfl⟩)
  refine bodyPost_ret (v:=.tuple #[pkv ⟨Po.zeroT,0⟩,.int .i64 6]) (by simp [results,Tryz.results102,go_sem,pkv,Po.zeroT]) rfl ?_
  exact ⟨rfl,_,G1,S1⟩
 |true=>
  rw [hv] at w12
  clear w11
  unfold sideN at*
  simp only [if_true,List.length_nil] at*
  go_enter Tryz.func102,Tryz.ntmps102
  go_wp2_with (go_at_call 134;refine (hS _).mono ?_;rintro e w1 ⟨rfl,rfl⟩)
  refine bodyPost_ret (v:=.tuple #[pkv ⟨Po.zeroT,0⟩,.int .i64 6]) (by simp [results,Tryz.results102,go_sem,pkv,Po.zeroT]) rfl ?_
  exact ⟨rfl,_,G1,S1⟩
structure Okt (b:Bank) (k:Nat) (s:Int):Prop where
 lt:k<b.auths.length
 c0:0≤(b.auths.getD k zA).card
 c1:(b.auths.getD k zA).card<b.cards.length
 s0:0≤(b.auths.getD k zA).shop
 s1:(b.auths.getD k zA).shop<b.due.length
 c8:b.cards.length≤8
 d8:b.due.length≤8
 due:∀j:Nat,j<b.due.length→-400000000≤b.due.getD j 0∧b.due.getD j 0≤400000000
 lo:0≤s
 hi:s≤1000000
theorem gtake (g base:Nat) (lab:Lab) (b:Bank) (tm:Value) (n kd sm:Int) (k:Nat) (w:World) (h:Goes w g base lab b tm) (O:Okt b k sm):
  Calls Tryz.prog 137 #[.pointer (some ⟨g,0,none⟩),.agg #[.int .i64 n,.int .i64 kd,.int .i64 (k :Int),.int .i64 sm]] w (Done w g base lab tm (takeP b ⟨n,kd,k,sm⟩)):=by
 obtain ⟨v,cs,ds,H⟩:=h.hand
 have hb0:=below_alloc w (tro ⟨n,kd,k,sm⟩)
 have H1:=H.below hb0
 have S1:=stp_below (lab:=lab) hb0
 have T1:=bz_new w lab (tro ⟨n,kd,k,sm⟩)
 obtain ⟨W,hWd⟩:∃W,w.alloc (tro ⟨n,kd,k,sm⟩)=W:=⟨_,rfl⟩
 have hsz:Hid (W.heap.size =w.heap.size+1):=hid (by rw[←hWd];simp)
 rw[hWd] at hb0 H1 S1 T1
 unfold tro at hWd
 dsimp only at hWd
 have zlt:=lt_of_block T1.ob
 have glt:=lt_of_block H1.blk
 obtain ⟨ga,cap,A⟩:=H1.mem.authAt O.lt
 obtain ⟨-,-,-,-,c4,-⟩:=blk_cells H1.blk
 rw[A.val] at c4
 have A8:=A.cells
 have alt:=A.lt
 have hlt:=O.lt
 have hlt2:(k:Int)<b.auths.length:=by omega
 have hau:b.auth (k:Int)=b.auths.getD k zA:=by unfold Bank.auth;rw[Int.toNat_natCast]
 obtain ⟨-,oc0,oc1,os0,os1,oc8,od8,odue,olo,ohi⟩:=O
 have E1:Hid (kd =1→takeP b ⟨n,kd,k,sm⟩=shopGetsP b (b.auths.getD k zA).shop 1 sm):=hid (fun q=>by unfold takeP;rw[if_pos q,hau])
 have E2:Hid (kd ≠1→kd=2→takeP b ⟨n,kd,k,sm⟩=cardGetsP b (b.auths.getD k zA).card 1 sm):=hid (fun q q2=>by unfold takeP;rw[if_neg q,if_pos q2,hau])
 have E3:Hid (kd≠1→kd≠2→takeP b ⟨n,kd,k,sm⟩=shopGivesP b (b.auths.getD k zA).shop 2 sm):=hid (fun q q2=>by unfold takeP;rw[if_neg q,if_neg q2,hau])
 obtain ⟨js,hjs⟩:∃j:Nat,(b.auths.getD k zA).shop=j:=⟨(b.auths.getD k zA).shop.toNat,by omega⟩
 obtain ⟨jc,hjc⟩:∃j:Nat,(b.auths.getD k zA).card=j:=⟨(b.auths.getD k zA).card.toNat,by omega⟩
 have dj:=odue js (by omega)
 have q1:=fun (X:World) (l :Lab) (hX :Goes X g base l b tm)=>gshopGets g base l b tm js 1 sm X hX (by omega) (by omega) (by omega) (by omega) (by omega) (by omega)
 have q2:=fun (X :World) (l:Lab) (hX :Goes X g base l b tm)=>gcardGets g base l b tm jc 1 sm X hX (by omega) (by omega)
 have q3:=fun (X :World) (l :Lab) (hX :Goes X g base l b tm)=>gshopGives g base l b tm js 2 sm X hX (by omega) (by omega) (by omega) (by omega) (by omega) (by omega)
 rw[hjs] at E1 E3
 rw[hjc] at E2
 obtain ⟨a0,a1,a2,a3,a4,a5,a6,a7⟩:=A8.all
 rw[hjc] at a0
 rw[hjs] at a1
 generalize b.auths.getD k zA=x at*
 obtain ⟨t0,t1,t2,t3⟩:=tro_cells T1.ob
 dsimp only at t0 t1 t2 t3
 clear hau hjs hjc oc0 oc1 os0 os1 odue dj A A8
 by_cases k1:kd=1
 ·subst k1
  rw[←E1.out rfl] at q1
  clear E1 E2 E3 q2 q3
  unfold Done at q1
  generalize takeP b ⟨n,1,k,sm⟩=r at*
  go_enter Tryz.func137,Tryz.ntmps137
  go_upto_region 1 with fail
  try rw[hWd]
  clear hWd
  have hb2:=below_alloc W (.cells #[.int .i64 (jc :Int),.int .i64 (js:Int),.int .i64 x.sum,.int .i64 x.cap,.int .i64 x.ref,.int .i64 x.dis,.int .i64 x.till,.bool x.shut] 66)
  have G3:=(H1.below hb2).goes.drew
  have S3:=(S1.trans (stp_below hb2)).drew
  have T3:=tro_cells (T1.on (stp_below hb2)).drew.ob
  obtain ⟨u0,u1,u2,u3⟩:=T3
  dsimp only at u0 u1 u2 u3
  have y0:(W.alloc (.cells #[.int .i64 (jc :Int),.int .i64 (js :Int),.int .i64 x.sum,.int .i64 x.cap,.int .i64 x.ref,.int .i64 x.dis,.int .i64 x.till,.bool x.shut] 66)).drew.cell? ⟨W.heap.size,0,none⟩=some (.int .i64 (jc :Int)):=by simp
  have y1:(W.alloc (.cells #[.int .i64 (jc :Int),.int .i64 (js:Int),.int .i64 x.sum,.int .i64 x.cap,.int .i64 x.ref,.int .i64 x.dis,.int .i64 x.till,.bool x.shut] 66)).drew.cell? ⟨W.heap.size,1,none⟩=some (.int .i64 (js :Int)):=by simp
  go_region
  clear hb2 a0 a1 a2 a3 a4 a5 a6 a7 t0 t1 t2 t3 c4 H1 S1 T1 H hb0
  generalize (W.alloc (.cells #[.int .i64 (jc :Int),.int .i64 (js:Int),.int .i64 x.sum,.int .i64 x.cap,.int .i64 x.ref,.int .i64 x.dis,.int .i64 x.till,.bool x.shut] 66)).drew=Y at*
  go_wp2_with (go_at_call 161;refine (q1 _ _ G3).mono ?_;rintro e w5 ⟨rfl,lab5,G5,S5⟩)
  go_ret
  exact ⟨rfl,_,G5,S3.trans S5⟩
 by_cases k2:kd=2
 ·subst k2
  rw[←E2.out k1 rfl] at q2
  clear E1 E2 E3 q1 q3 k1
  unfold Done at q2
  generalize takeP b ⟨n,2,k,sm⟩=r at*
  go_enter Tryz.func137,Tryz.ntmps137
  go_upto_region 1 with fail
  try rw[hWd]
  clear hWd
  have hb2:=below_alloc W (.cells #[.int .i64 (jc :Int),.int .i64 (js :Int),.int .i64 x.sum,.int .i64 x.cap,.int .i64 x.ref,.int .i64 x.dis,.int .i64 x.till,.bool x.shut] 66)
  have G3:=(H1.below hb2).goes.drew
  have S3:=(S1.trans (stp_below hb2)).drew
  have T3:=tro_cells (T1.on (stp_below hb2)).drew.ob
  obtain ⟨u0,u1,u2,u3⟩:=T3
  dsimp only at u0 u1 u2 u3
  have y0:(W.alloc (.cells #[.int .i64 (jc :Int),.int .i64 (js:Int),.int .i64 x.sum,.int .i64 x.cap,.int .i64 x.ref,.int .i64 x.dis,.int .i64 x.till,.bool x.shut] 66)).drew.cell? ⟨W.heap.size,0,none⟩=some (.int .i64 (jc :Int)):=by simp
  have y1:(W.alloc (.cells #[.int .i64 (jc :Int),.int .i64 (js :Int),.int .i64 x.sum,.int .i64 x.cap,.int .i64 x.ref,.int .i64 x.dis,.int .i64 x.till,.bool x.shut] 66)).drew.cell? ⟨W.heap.size,1,none⟩=some (.int .i64 (js:Int)):=by simp
  go_region
  clear hb2 a0 a1 a2 a3 a4 a5 a6 a7 t0 t1 t2 t3 c4 H1 S1 T1 H hb0
  generalize (W.alloc (.cells #[.int .i64 (jc:Int),.int .i64 (js :Int),.int .i64 x.sum,.int .i64 x.cap,.int .i64 x.ref,.int .i64 x.dis,.int .i64 x.till,.bool x.shut] 66)).drew=Y at*
  go_wp2_with (go_at_call 124;refine (q2 _ _ G3).mono ?_;rintro e w5 ⟨rfl,lab5,G5,S5⟩)
  go_ret
  exact ⟨rfl,_,G5,S3.trans S5⟩
 rw[←E3.out k1 k2] at q3
 clear E1 E2 E3 q1 q2
 have k1':(kd ==1)=false:=by simpa using k1
 have k2':(kd ==2)=false:=by simpa using k2
 clear k1 k2
 unfold Done at q3
 generalize takeP b ⟨n,kd,k,sm⟩=r at*
 go_enter Tryz.func137,Tryz.ntmps137
 go_upto_region 1 with fail
 try rw[hWd]
 clear hWd
 have hb2:=below_alloc W (.cells #[.int .i64 (jc :Int),.int .i64 (js :Int),.int .i64 x.sum,.int .i64 x.cap,.int .i64 x.ref,.int .i64 x.dis,.int .i64 x.till,.bool x.shut] 66)
 have G3:=(H1.below hb2).goes.drew
 have S3:=(S1.trans (stp_below hb2)).drew
 have T3:=tro_cells (T1.on (stp_below hb2)).drew.ob
 obtain ⟨u0,u1,u2,u3⟩:=T3
 dsimp only at u0 u1 u2 u3
 have y0:(W.alloc (.cells #[.int .i64 (jc:Int),.int .i64 (js :Int),.int .i64 x.sum,.int .i64 x.cap,.int .i64 x.ref,.int .i64 x.dis,.int .i64 x.till,.bool x.shut] 66)).drew.cell? ⟨W.heap.size,0,none⟩=some (.int .i64 (jc:Int)):=by simp
 have y1:(W.alloc (.cells #[.int .i64 (jc :Int),.int .i64 (js :Int),.int .i64 x.sum,.int .i64 x.cap,.int .i64 x.ref,.int .i64 x.dis,.int .i64 x.till,.bool x.shut] 66)).drew.cell? ⟨W.heap.size,1,none⟩=some (.int .i64 (js:Int)):=by simp
 go_region
 clear hb2 a0 a1 a2 a3 a4 a5 a6 a7 t0 t1 t2 t3 c4 H1 S1 T1 H hb0
 generalize (W.alloc (.cells #[.int .i64 (jc:Int),.int .i64 (js :Int),.int .i64 x.sum,.int .i64 x.cap,.int .i64 x.ref,.int .i64 x.dis,.int .i64 x.till,.bool x.shut] 66)).drew=Y at*
 go_wp2_with (go_at_call 141;refine (q3 _ _ G3).mono ?_;rintro e w5 ⟨rfl,lab5,G5,S5⟩)
 go_ret
 exact ⟨rfl,_,G5,S3.trans S5⟩
end Go.Proofs.YtofcnebekmjdoaaGreatDoor.Bn
