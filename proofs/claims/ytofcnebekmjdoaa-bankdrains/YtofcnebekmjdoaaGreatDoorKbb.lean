import Derived.Test.YtofcnebekmjdoaaGreatDoorKba
set_option maxHeartbeats 4000000
set_option maxRecDepth 100000
namespace Go.Proofs.YtofcnebekmjdoaaGreatDoor.Bn
open Go.RowKit Go.Proofs.YtofcnebekmjdoaaGreatDoor.Gn
structure Au8 (w:World) (z p:Nat) (a:Au.Au):Prop where
 c0:w.cell? ⟨z,p,none⟩=some (.int .i64 a.card)
 c1:w.cell? ⟨z,p+1,none⟩=some (.int .i64 a.shop)
 c2:w.cell? ⟨z,p+2,none⟩=some (.int .i64 a.sum)
 c3:w.cell? ⟨z,p+3,none⟩=some (.int .i64 a.cap)
 c4:w.cell? ⟨z,p+4,none⟩=some (.int .i64 a.ref)
 c5:w.cell? ⟨z,p+5,none⟩=some (.int .i64 a.dis)
 c6:w.cell? ⟨z,p+6,none⟩=some (.int .i64 a.till)
 c7:w.cell? ⟨z,p+7,none⟩=some (.bool a.shut)
theorem Au8.all{w:World}{z p:Nat}{a:Au.Au}(h:Au8 w z p a):w.cell? ⟨z,p,none⟩=some (.int .i64 a.card)∧w.cell? ⟨z,p+1,none⟩=some (.int .i64 a.shop)∧w.cell? ⟨z,p+2,none⟩=some (.int .i64 a.sum)∧w.cell? ⟨z,p+3,none⟩=some (.int .i64 a.cap)∧
  w.cell? ⟨z,p+4,none⟩=some (.int .i64 a.ref)∧w.cell? ⟨z,p+5,none⟩=some (.int .i64 a.dis)∧w.cell? ⟨z,p+6,none⟩=some (.int .i64 a.till)∧w.cell? ⟨z,p+7,none⟩=some (.bool a.shut):=⟨h.c0,h.c1,h.c2,h.c3,h.c4,h.c5,h.c6,h.c7⟩
theorem Au8.on {w w':World}{z p:Nat}{a:Au.Au}(h:Au8 w z p a) (hk:w'.heap[z]?=w.heap[z]?):Au8 w' z p a:=by
 have e:∀q,w'.cell? ⟨z,q,none⟩=w.cell? ⟨z,q,none⟩:=fun q=>World.cell?_of_block (a:=⟨z,q,none⟩) hk
 exact ⟨(e _).trans h.c0,(e _).trans h.c1,(e _).trans h.c2,(e _).trans h.c3,(e _).trans h.c4,(e _).trans h.c5,(e _).trans h.c6,(e _).trans h.c7⟩
def auo (a:Au.Au):Obj:=.cells #[.int .i64 a.card,.int .i64 a.shop,.int .i64 a.sum,.int .i64 a.cap,.int .i64 a.ref,.int .i64 a.dis,.int .i64 a.till,.bool a.shut] 66
theorem auo_cells {w:World}{z:Nat}{a:Au.Au}(h:w.heap[z]?=some (auo a)):Au8 w z 0 a:=by
 unfold auo at h
 refine ⟨?_,?_,?_,?_,?_,?_,?_,?_⟩<;>simp[World.cell?,h]
structure AuthIn (w:World) (lab:Lab) (base:Nat) (v:Vs) (L:List Au.Au) (k ga cap:Nat):Prop where
 val:v.a=.slice (some ⟨ga,0,none⟩) L.length cap
 ge:base≤ga
 lt:ga<w.heap.size
 lb:lab ga=4
 cells:Au8 w ga (k *8) (L.getD k zA)
 fz:∀p,w.frozen? ⟨ga,p,none⟩=false
 put:∀y,(putAll w ga (k*8) (kAu.cells y)).ownsRow base 66 kAu.size v.a (L.set k y).length (kAu.flat (L.set k y))
theorem Mem.authAt {w:World}{lab:Lab}{base:Nat}{b:Bank}{v:Vs}{cs:List CV}{ds:List DV} (h:Mem w lab base b v cs ds){k:Nat} (hk:k<b.auths.length):∃ga cap,AuthIn w lab base v b.auths k ga cap:=by
 have hne:b.auths≠[]:=by intro h0;rw [h0] at hk;simp at hk
 obtain ⟨ga,cap,hv,hge,hlt,hcap,hfz,hput⟩:=Row.put (h.auths.own hne) hk
 obtain ⟨a,c,hv2,hl⟩:=h.auths.ap.lies
 rw [hv] at hv2
 obtain ⟨rfl,-,rfl⟩:=Value.slice.inj hv2
 obtain ⟨g',off,ha,-,hc⟩:=hl.elem (i:=k) (x:=b.auths.getD k zA) (by simp [List.getD,hk])
 cases ha
 have q:∀j u,(kAu.cells (b.auths.getD k zA))[j]?=some u→w.cell? ⟨ga,k*8+j,none⟩=some u:=fun j u hj=>by have :=hc j u hj;rwa [Nat.zero_add] at this
 exact ⟨ga,cap,hv,hge,hlt,h.auths.lab ga (by rw [hv];rfl),⟨q 0 _ rfl,q 1 _ rfl,q 2 _ rfl,q 3 _ rfl,q 4 _ rfl,q 5 _ rfl,q 6 _ rfl,q 7 _ rfl⟩,hfz,hput⟩
theorem Hand.authPut {w:World}{g base:Nat}{lab:Lab}{b:Bank}{v:Vs}{cs:List CV}{ds:List DV}{tm:Value}(H:Hand w g base lab b v cs ds tm){k ga cap:Nat}(A:AuthIn w lab base v b.auths k ga cap) (y:Au.Au):Hand (putAll w ga (k *8) (kAu.cells y)) g base (relab lab w.heap.size 4) {b with auths:=b.auths.set k y} v cs ds tm:=by
 have ho:Only lab 4 w (putAll w ga (k *8) (kAu.cells y)):=only_putAll w ga (k*8) (kAu.cells y) A.lb (by decide)
 refine ⟨H.mem.authsTo (va:=v.a) ho ⟨.own _ _ (A.put y),fun _=>A.put y,fun j hj=>by rw[relab_old (H.mem.auths.row.block_lt j hj).2];exact H.mem.auths.lab j hj⟩,H.appBlk ho (by decide),by rw[relab_old (lt_of_block H.blk)];exact H.lb⟩
theorem stp_putAll {w:World} {lab:Lab} {ga j:Nat} (h:lab ga=j) (h0:j≠0) (h8:j≤8) (p:Nat) (l:List Value):Stp w lab (putAll w ga p l) (relab lab w.heap.size j):=stp_only (only_putAll w ga p l h h0) h8
theorem wrongA_small {a:Au.Au}(h:Au.wrongA a=0):0≤Au.holdA a∧Au.holdA a≤1000000∧0≤a.card:=by
 obtain ⟨h1,h2⟩:=Au.wrongA_ok.1 h
 have:= hold_small h1 h2
 exact ⟨this.1,this.2,h1.2.2.2.2.1.1⟩
theorem gbecome (g base:Nat) (lab:Lab) (b:Bank) (tm:Value) (k:Nat) (a:Au.Au) (w:World) (h:Goes w g base lab b tm) (hk:k<b.auths.length) (w1:Au.wrongA a=0) (w2:Au.wrongA (b.auths.getD k zA)=0) (hc:a.card<b.cards.length):
  Calls Tryz.prog 130 #[.pointer (some ⟨g,0,none⟩),.int .i64 (k:Int),Au.av a] w (Done w g base lab tm (becomeP b k a)):=by
 obtain ⟨v,cs,ds,H⟩:=h.hand
 have hb0:=below_alloc w (auo a)
 have H1:=H.below hb0
 have hbx:(w.alloc (auo a)).heap[w.heap.size]?=some (auo a):=heap_alloc_at _ _ _ rfl
 have hl0:relab lab w.heap.size 0 w.heap.size=0:=relab_new (Nat.le_refl _)
 obtain ⟨W,hWd⟩:∃W,w.alloc (auo a)=W:=⟨_,rfl⟩
 rw[hWd] at hb0 H1 hbx
 unfold auo at hWd
 have S0:=stp_below (lab:=lab) hb0
 obtain ⟨ga,cap,A⟩:=H1.mem.authAt hk
 have hk2:(k :Int)<b.auths.length:=by omega
 obtain ⟨-,-,-,-,c4,-⟩:=blk_cells H1.blk
 rw[A.val] at c4
 have ha:=wrongA_small w1
 have ho:=wrongA_small w2
 have hH1:∀X:World,Calls Tryz.prog 27 #[Au.av a] X fun e w'=>e=.returned (.int .i64 (Au.holdA a))∧Below X.heap.size X w':=fun X=>Au.hold_any a X w1
 have hH2:∀X:World,Calls Tryz.prog 27 #[Au.av (b.auths.getD k zA)] X fun e w'=>e=.returned (.int .i64 (Au.holdA (b.auths.getD k zA)))∧Below X.heap.size X w':=fun X=>Au.hold_any _ X w2
 have hE:Hid (becomeP b k a=shiftP {b with auths:=b.auths.set k a} a.card (Au.holdA a-Au.holdA (b.auths.getD k zA)) 0):=hid (by unfold becomeP Bank.auth;rw[Int.toNat_natCast])
 have A0:=auo_cells hbx
 have hgl:=lt_of_block H1.blk
 have hzl:=lt_of_block hbx
 have keep:∀X:World,Below W.heap.size W X→(X.cell? ⟨g,4,none⟩=some (.slice (some ⟨ga,0,none⟩) b.auths.length cap))∧Au8 X w.heap.size 0 a∧Au8 X ga (k*8) (b.auths.getD k zA):=fun X hX=>
  ⟨(hX.cell (p:=⟨g,4,none⟩) hgl).trans c4,A0.on (hX.block _ hzl),A.cells.on (hX.block _ A.lt)⟩
 unfold Au.av at hH1 hH2⊢
 have hcc:Hid (a.card <b.cards.length∧0≤a.card):=hid ⟨hc,ha.2.2⟩
 clear w1 w2 hc
 obtain ⟨x,hx⟩:∃x,Hid (x =b.auths.getD k zA):=⟨_,rfl⟩
 rw[←hx.out] at hH2 hE keep ho
 obtain ⟨ha1,ha2,-⟩:=ha
 obtain ⟨ho1,ho2,-⟩:=ho
 generalize Au.holdA a=h1 at*
 generalize Au.holdA x=h2 at*
 have hfirst:Hid True:=trivial
 have hsub:IntKind.i64.wrap (h1 -h2)=h1-h2:=wrap64' (by omega) (by omega)
 go_enter Tryz.func130,Tryz.ntmps130
 go_upto_region 1 with fail
 try rw[hWd]
 clear hWd
 go_cut[7] from 8 to 19 (fun p wc=>p=.int .i64 (h1-h2)∧Below W.heap.size W wc)
 case first=>
  refine wp_region_held_drew (S:=(fun X=>X.cell? ⟨g,4,none⟩=some (.slice (some ⟨ga,0,none⟩) b.auths.length cap)∧Au8 X w.heap.size 0 a∧Au8 X ga (k*8) x)) (by kernel_rfl) (keep _ ((Below.refl _ _).drew)) (fun hS=>?_)
  refine tk 0 (.agg #[.int .i64 a.card,.int .i64 a.shop,.int .i64 a.sum,.int .i64 a.cap,.int .i64 a.ref,.int .i64 a.dis,.int .i64 a.till,.bool a.shut]) hS ?_ ?_
  ·intro w' hS';obtain ⟨C4,Q1,Q2⟩:=hS';obtain ⟨c0,c1,c2,c3,c4,c5,c6,c7⟩:=Q1.all;obtain ⟨d0,d1,d2,d3,d4,d5,d6,d7⟩:=Q2.all;go_simp
  refine tk 2 (.pointer (some ⟨g,0,none⟩)) hS ?_ ?_
  ·intro w' _;go_simp
  refine tk 3 (.pointer (some ⟨g,0,none⟩)) hS ?_ ?_
  ·intro w' _;go_simp
  refine tk 4 (.pointer (some ⟨g,0,none⟩)) hS ?_ ?_
  ·intro w' _;go_simp
  try simp only[Act.put]
  refine tk 5 (.pointer (some ⟨g,4,none⟩)) hS ?_ ?_
  ·intro w' _;go_simp
  refine tk 6 (.slice (some ⟨ga,0,none⟩) b.auths.length cap) hS ?_ ?_
  ·intro w' hS';obtain ⟨C4,Q1,Q2⟩:=hS';obtain ⟨c0,c1,c2,c3,c4,c5,c6,c7⟩:=Q1.all;obtain ⟨d0,d1,d2,d3,d4,d5,d6,d7⟩:=Q2.all;go_simp
  refine tk 7 (.int .i64 (k :Int)) hS ?_ ?_
  ·intro w' _;go_simp
  refine tk 8 (.pointer (some ⟨ga,k*8,none⟩)) hS ?_ ?_
  ·intro w' _;go_simp
  try simp only[Act.put]
  refine tk 9 (.agg #[.int .i64 x.card,.int .i64 x.shop,.int .i64 x.sum,.int .i64 x.cap,.int .i64 x.ref,.int .i64 x.dis,.int .i64 x.till,.bool x.shut]) hS ?_ ?_
  ·intro w' hS';obtain ⟨C4,Q1,Q2⟩:=hS';obtain ⟨c0,c1,c2,c3,c4,c5,c6,c7⟩:=Q1.all;obtain ⟨d0,d1,d2,d3,d4,d5,d6,d7⟩:=Q2.all;go_simp
  try simp only[Act.put]
  refine rd 1 (.cons rfl (fun K hK=>?_) .nil)
  go_simp
  refine (hH1 _).mono ?_
  rintro e wA ⟨rfl,hbA⟩
  have hbA:Below W.heap.size W wA:=((Below.refl _ _).drew).trans hbA
  go_simp
  refine hK.out _ _ (keep _ hbA) (fun hS=>?_)
  clear hK K
  try simp only[nrm,Act.put]
  refine rd 10 (.cons rfl (fun K hK=>?_) .nil)
  go_simp
  refine (hH2 _).mono ?_
  rintro e wB ⟨rfl,hbB⟩
  have hbB:Below W.heap.size W wB:=hbA.trans (hbB.mono hbA.size)
  go_simp
  refine hK.out _ _ (keep _ hbB) (fun hS=>?_)
  clear hK K
  refine tk 11 (.int .i64 (h1-h2)) hS ?_ ?_
  ·intro w' _;go_simp
  try simp only[Act.put]
  refine rd 12 (.cons rfl (fun K hK=>?_) .nil)
  go_simp
  refine hK.out _ _ (keep _ hbB) (fun hS=>?_)
  clear hK K
  try simp only[nrm,Act.put]
  refine wpAnyH_done (by kernel_rfl) ?_ _
  go_wp2_with fail
  go_meet
  exact ⟨rfl,hbB⟩
 case rest=>
  obtain ⟨rfl,hbc⟩:=hcut
  generalize wc=X at*
  obtain ⟨q0,q1,-⟩:=keep X hbc
  have H2:=H1.below hbc
  have S1:=S0.trans (stp_below hbc)
  have hzX:X.heap[w.heap.size]?=some (auo a):=(hbc.block _ hzl).trans hbx
  obtain ⟨gb,capb,B⟩:=H2.mem.authAt hk
  have hve:=A.val.symm.trans B.val
  obtain ⟨hge,-,hce⟩:=Value.slice.inj hve
  cases hge
  subst hce
  obtain ⟨y0,y1,y2,y3,y4,y5,y6,y7⟩:=B.cells.all
  obtain ⟨u0,u1,u2,u3,u4,u5,u6,u7⟩:=q1.all
  have z0:=B.fz (k *8)
  have z1:=B.fz (k *8+1)
  have z2:=B.fz (k*8+2)
  have z3:=B.fz (k*8+3)
  have z4:=B.fz (k *8+4)
  have z5:=B.fz (k*8+5)
  have z6:=B.fz (k*8+6)
  have z7:=B.fz (k *8+7)
  have H3:=(H2.authPut B a).drew
  have S2:=(S1.trans (stp_putAll B.lb (by decide) (by decide) (k*8) (kAu.cells a))).drew
  have hne:w.heap.size≠ga:=fun h=>by have :=B.lb;rw[←h,relab_old (Nat.lt_of_lt_of_le hzl (Nat.le_refl _)),hl0] at this;cases this
  have hz3:(putAll X ga (k *8) (kAu.cells a)).drew.heap[w.heap.size]?=some (auo a):=by rw[heap_drew,putAll_other X ga (k *8) w.heap.size (kAu.cells a) hne];exact hzX
  clear keep A0 A H1 c4 hH1 hH2
  generalize b.auths.getD k zA=xx at*
  have hpa:=putAll8 X ga (k *8) (.int .i64 a.card) (.int .i64 a.shop) (.int .i64 a.sum) (.int .i64 a.cap) (.int .i64 a.ref) (.int .i64 a.dis) (.int .i64 a.till) (.bool a.shut)
  have hpk:kAu.cells a=[.int .i64 a.card,.int .i64 a.shop,.int .i64 a.sum,.int .i64 a.cap,.int .i64 a.ref,.int .i64 a.dis,.int .i64 a.till,.bool a.shut]:=rfl
  rw[hpk,hpa] at H3 S2 hz3
  obtain ⟨c,hc⟩:∃c:Nat,a.card=c:=⟨a.card.toNat,by have:= hcc.out;omega⟩
  have hcl:c<b.cards.length:=by have :=hcc.out;omega
  clear hpa hpk
  have hS:∀(Y:World) (l:Lab),Goes Y g base l {b with auths:=b.auths.set k a} tm→Calls Tryz.prog 151 #[.pointer (some ⟨g,0,none⟩),.int .i64 a.card,.int .i64 (h1 -h2),.int .i64 0] Y (Done Y g base l tm (becomeP b k a)):=fun Y l hY=>by
   have:= gshift g base l _ tm c (h1 -h2) 0 Y hY hcl
   rw[hE.out,hc]
   exact this
  generalize becomeP b k a=r at*
  have r0:=(auo_cells hz3).c0
  have G3:=H3.goes
  clear hE hc hcl hz3 hcc q1 hx
  go_upto_region 2 with fail
  go_region
  all_goals
   generalize ((((((((X.setCell ⟨ga,k*8,none⟩ (.int .i64 a.card)).setCell ⟨ga,k*8+1,none⟩ (.int .i64 a.shop)).setCell ⟨ga,k*8+2,none⟩ (.int .i64 a.sum)).setCell ⟨ga,k*8+3,none⟩ (.int .i64 a.cap)).setCell ⟨ga,k*8+4,none⟩ (.int .i64 a.ref)).setCell ⟨ga,k*8+5,none⟩ (.int .i64 a.dis)).setCell ⟨ga,k*8+6,none⟩ (.int .i64 a.till)).setCell ⟨ga,k*8+7,none⟩ (.bool a.shut)).drew=Y at*
   go_wp2_with (go_at_call 151;refine (hS _ _ G3).mono ?_;rintro e w5 ⟨rfl,lab5,hG5,hS5⟩)
   go_ret
   exact ⟨rfl,_,hG5,S2.trans hS5⟩
def GoesV (w:World) (g base:Nat) (lab:Lab) (b:Bank) (tm va:Value):Prop:=∃v cs ds,Hand w g base lab b v cs ds tm∧v.a=va
def DoneV (w:World) (g base:Nat) (lab:Lab) (tm va:Value) (r:Bank×Int) (e:Ending) (w':World):Prop:=e=.returned (.int .i64 r.2)∧∃lab',GoesV w' g base lab' r.1 tm va∧Stp w lab w' lab'
theorem GoesV.below {w w':World}{g base:Nat}{lab:Lab}{b:Bank}{tm va:Value} (h:GoesV w g base lab b tm va) (hb:Below w.heap.size w w'):GoesV w' g base (relab lab w.heap.size 0) b tm va:=by
 obtain ⟨v,cs,ds,H,e⟩:=h
 exact ⟨v,cs,ds,H.below hb,e⟩
theorem GoesV.drew {w:World}{g base:Nat}{lab:Lab}{b:Bank}{tm va:Value}(h:GoesV w g base lab b tm va):GoesV w.drew g base lab b tm va:=by
 obtain ⟨v,cs,ds,H,e⟩:=h
 exact ⟨v,cs,ds,H.drew,e⟩
theorem GoesV.goes {w:World}{g base:Nat}{lab:Lab}{b:Bank}{tm va:Value} (h:GoesV w g base lab b tm va):Goes w g base lab b tm:=by
 obtain ⟨v,cs,ds,H,-⟩:=h
 exact ⟨v,cs,ds,H⟩
theorem GoesV.lo {w:World}{g base:Nat}{lab:Lab}{b:Bank}{tm va:Value}(h:GoesV w g base lab b tm va):base≤w.heap.size:=h.goes.lo
theorem Hand.goesV {w:World} {g base:Nat} {lab:Lab} {b:Bank} {v:Vs} {cs:List CV} {ds:List DV} {tm va:Value}(h:Hand w g base lab b v cs ds tm) (e:v.a=va):GoesV w g base lab b tm va:=⟨v,cs,ds,h,e⟩
theorem gshiftV (g base:Nat) (lab:Lab) (b:Bank) (tm va:Value) (k:Nat) (dh dm:Int) (w:World) (h:GoesV w g base lab b tm va) (hk:k<b.cards.length):
  Calls Tryz.prog 151 #[.pointer (some ⟨g,0,none⟩),.int .i64 (k:Int),.int .i64 dh,.int .i64 dm] w (DoneV w g base lab tm va (shiftP b k dh dm)):=by
 have hlo:=h.lo
 have hgo:=h
 obtain ⟨v,cs,ds,H,hva⟩:=h
 have hm:=H.mem
 have hg:=H.blk
 have h1:=H.lb
 obtain ⟨gc,cap,C,hcc⟩:=hm.card hk
 have hlen:=hm.cardsLen
 have hk':k<cs.length:=by omega
 have hk2:(k :Int)<cs.length:=by omega
 obtain ⟨-,-,c2,-⟩:=blk_cells hg
 rw[C.val] at c2
 have hu:=lies_uses C.uses.out
 have hmem:Ap kU lab w (.slice (cs.getD k zCV).a (cs.getD k zCV).c.u.length (cs.getD k zCV).cap) (cs.getD k zCV).c.u 0:=C.uses
 obtain ⟨q0,q1,q2,q3,q4,q5⟩:=(⟨C.c0,C.c1,C.c2,C.c3,C.c4,C.c5⟩:_∧_∧_∧_∧_∧_)
 have N1:=hid (shiftP_no (b:=b) (n:=k) (h:=dh) (m:=dm))
 have N2:=hid (shiftP_yes (b:=b) (n:=k) (h:=dh) (m:=dm))
 rw[←hcc] at N1 N2
 rw[Int.toNat_natCast] at N2
 have hS:=shift_all (cs.getD k zCV).c (cs.getD k zCV).a (cs.getD k zCV).cap dh dm w hu
 unfold cv at hS
 clear hcc hu
 generalize hx:cs.getD k zCV=x at*
 unfold AnswersO cv at hS
 by_cases hq:(shiftC x.c dh dm).2=0
 case neg=>
  have hE:=hid (N1.out hq)
  have hq':((shiftC x.c dh dm).2 !=0)=true:=by simpa using hq
  clear N1 N2 hq
  generalize (shiftC x.c dh dm).1=r1 at*
  generalize (shiftC x.c dh dm).2=r2 at*
  go_enter Tryz.func151,Tryz.ntmps151
  go_wp2_with (go_at_call 169;refine hS.mono ?_;rintro e w1 ⟨a',cap',rfl,hl',ht',hb1⟩)
  go_ret
  unfold DoneV
  rw[hE.out]
  exact ⟨rfl,_,hgo.below (bel_alloc hb1 _),stp_below (bel_alloc hb1 _)⟩
 case pos=>
  have hE:=hid (N2.out hq)
  have hq':((shiftC x.c dh dm).2 !=0)=false:=by simpa using hq
  clear N1 N2 hq
  generalize (shiftC x.c dh dm).1=r1 at*
  generalize (shiftC x.c dh dm).2=r2 at*
  go_enter Tryz.func151,Tryz.ntmps151
  go_upto_region 4 with (go_at_call 169;refine hS.mono ?_;rintro e w1 ⟨a',cap',rfl,hl',ht',hb1⟩)
  have hbW:=bel_alloc hb1 (.cells #[.int .i64 r1.m,.int .i64 r1.h,.int .i64 r1.p.t,.int .i64 r1.p.c,.int .i64 r1.p.s,.slice a' r1.u.length cap'] 61)
  have hbx:(w1.alloc (.cells #[.int .i64 r1.m,.int .i64 r1.h,.int .i64 r1.p.t,.int .i64 r1.p.c,.int .i64 r1.p.s,.slice a' r1.u.length cap'] 61)).heap[w1.heap.size]?=some (co r1 a' cap'):=heap_alloc_at _ _ _ rfl
  have hlW:=(uses_lies hl').alloc (.cells #[.int .i64 r1.m,.int .i64 r1.h,.int .i64 r1.p.t,.int .i64 r1.p.c,.int .i64 r1.p.s,.slice a' r1.u.length cap'] 61)
  have hZ:w.heap.size≤w1.heap.size:=hb1.size
  generalize w1.alloc (.cells #[.int .i64 r1.m,.int .i64 r1.h,.int .i64 r1.p.t,.int .i64 r1.p.c,.int .i64 r1.p.s,.slice a' r1.u.length cap'] 61)=W at*
  generalize w1.heap.size=Z at*
  have hm1:=hm.on (only_below (j:=0) hbW) (Or.inl rfl)
  have hgW:=(hbW.block _ (lt_of_block hg)).trans hg
  have h1W:relab lab w.heap.size 0 g=1:=by rw[relab_old (lt_of_block hg)];exact h1
  have hnew:Ap kU (relab lab w.heap.size 0) W (.slice a' r1.u.length cap') r1.u 0:=by
   rcases ht' with hp|⟨ha,hu⟩
   ·exact ap_new rfl hlW hp
   ·obtain ⟨a2,c2,hv2,hl2,hn2⟩:=hmem
    obtain ⟨rfl,-,rfl⟩:=Value.slice.inj hv2
    subst ha
    refine ⟨_,_,rfl,hlW,fun ad had hne=>?_⟩
    rw[hu] at hne
    rw[relab_old (lies_lt hl2 hne ad had)]
    exact hn2 ad had hne
  obtain ⟨gc',cap2,C1,-⟩:=hm1.card hk
  have hve:=C.val.symm.trans C1.val
  obtain ⟨hge,-,hce⟩:=Value.slice.inj hve
  cases hge
  subst hce
  rw[hx] at C1
  obtain ⟨-,-,d2,-⟩:=blk_cells hgW
  rw[C.val] at d2
  obtain ⟨u0,u1,u2,u3,u4,u5⟩:=co_cells hbx
  have z0:=C1.fz (k*6)
  have z1:=C1.fz (k *6+1)
  have z2:=C1.fz (k *6+2)
  have z3:=C1.fz (k*6+3)
  have z4:=C1.fz (k*6+4)
  have z5:=C1.fz (k *6+5)
  have hZlt:=lt_of_block hbx
  have hn1:gc≠Z:=by have:= C.lt;omega
  have hfin:=hm1.cardPut C1 (y:=⟨r1,a',cap'⟩) hnew
  have hne:g≠gc:=fun h=>by have:= C1.lb;rw[←h] at this;omega
  have hgf:(putAll W gc (k *6) (kC.cells ⟨r1,a',cap'⟩)).heap[g]?=some (blkB b v tm):=(putAll_other _ _ _ _ _ hne).trans hgW
  have hbf:Stp w lab (putAll W gc (k *6) (kC.cells ⟨r1,a',cap'⟩)) (relab (relab lab w.heap.size 0) W.heap.size 2):=(stp_below hbW).trans (stp_only (only_putAll W gc (k *6) _ C1.lb (by decide)) (by decide))
  have hGo:GoesV (putAll W gc (k*6) (kC.cells ⟨r1,a',cap'⟩)) g base (relab (relab lab w.heap.size 0) W.heap.size 2) {b with cards:=b.cards.set k r1} tm va:=⟨v,_,ds,⟨hfin,hgf,by rw[relab_old (lt_of_block hgW)];exact h1W⟩,hva⟩
  clear hS q0 q1 q2 q3 q4 q5 c2 hfin hgf hnew hm1 hm
  obtain ⟨y0,y1,y2,y3,y4,y5⟩:=(⟨C1.c0,C1.c1,C1.c2,C1.c3,C1.c4,C1.c5⟩:_∧_∧_∧_∧_∧_)
  go_region
  all_goals
   go_wp2_with fail
   go_ret
   unfold DoneV
   rw[hE.out]
   exact ⟨rfl,_,hGo.drew,hbf.drew⟩
theorem gbecomeV (g base:Nat) (lab:Lab) (b:Bank) (tm va:Value) (k:Nat) (a:Au.Au) (w:World) (h:GoesV w g base lab b tm va) (hk:k<b.auths.length) (w1:Au.wrongA a=0) (w2:Au.wrongA (b.auths.getD k zA)=0) (hc:a.card<b.cards.length):
  Calls Tryz.prog 130 #[.pointer (some ⟨g,0,none⟩),.int .i64 (k :Int),Au.av a] w (DoneV w g base lab tm va (becomeP b k a)):=by
 obtain ⟨v,cs,ds,H,hva⟩:=h
 have hb0:=below_alloc w (auo a)
 have H1:=H.below hb0
 have hbx:(w.alloc (auo a)).heap[w.heap.size]?=some (auo a):=heap_alloc_at _ _ _ rfl
 have hl0:relab lab w.heap.size 0 w.heap.size=0:=relab_new (Nat.le_refl _)
 obtain ⟨W,hWd⟩:∃W,w.alloc (auo a)=W:=⟨_,rfl⟩
 rw[hWd] at hb0 H1 hbx
 unfold auo at hWd
 have S0:=stp_below (lab:=lab) hb0
 obtain ⟨ga,cap,A⟩:=H1.mem.authAt hk
 have hk2:(k:Int)<b.auths.length:=by omega
 obtain ⟨-,-,-,-,c4,-⟩:=blk_cells H1.blk
 rw[A.val] at c4
 have ha:=wrongA_small w1
 have ho:=wrongA_small w2
 have hH1:∀X:World,Calls Tryz.prog 27 #[Au.av a] X fun e w'=>e=.returned (.int .i64 (Au.holdA a))∧Below X.heap.size X w':=fun X=>Au.hold_any a X w1
 have hH2:∀X:World,Calls Tryz.prog 27 #[Au.av (b.auths.getD k zA)] X fun e w'=>e=.returned (.int .i64 (Au.holdA (b.auths.getD k zA)))∧Below X.heap.size X w':=fun X=>Au.hold_any _ X w2
 have hE:Hid (becomeP b k a=shiftP {b with auths:=b.auths.set k a} a.card (Au.holdA a-Au.holdA (b.auths.getD k zA)) 0):=hid (by unfold becomeP Bank.auth;rw[Int.toNat_natCast])
 have A0:=auo_cells hbx
 have hgl:=lt_of_block H1.blk
 have hzl:=lt_of_block hbx
 have keep:∀X:World,Below W.heap.size W X→(X.cell? ⟨g,4,none⟩=some (.slice (some ⟨ga,0,none⟩) b.auths.length cap))∧Au8 X w.heap.size 0 a∧Au8 X ga (k *8) (b.auths.getD k zA):=fun X hX=>
  ⟨(hX.cell (p:=⟨g,4,none⟩) hgl).trans c4,A0.on (hX.block _ hzl),A.cells.on (hX.block _ A.lt)⟩
 unfold Au.av at hH1 hH2⊢
 have hcc:Hid (a.card <b.cards.length∧0≤a.card):=hid ⟨hc,ha.2.2⟩
 clear w1 w2 hc
 obtain ⟨x,hx⟩:∃x,Hid (x =b.auths.getD k zA):=⟨_,rfl⟩
 rw[←hx.out] at hH2 hE keep ho
 obtain ⟨ha1,ha2,-⟩:=ha
 obtain ⟨ho1,ho2,-⟩:=ho
 generalize Au.holdA a=h1 at*
 generalize Au.holdA x=h2 at*
 have hfirst:Hid True:=trivial
 have hsub:IntKind.i64.wrap (h1-h2)=h1-h2:=wrap64' (by omega) (by omega)
 go_enter Tryz.func130,Tryz.ntmps130
 go_upto_region 1 with fail
 try rw[hWd]
 clear hWd
 go_cut[7] from 8 to 19 (fun p wc=>p=.int .i64 (h1 -h2)∧Below W.heap.size W wc)
 case first=>
  refine wp_region_held_drew (S:=(fun X=>X.cell? ⟨g,4,none⟩=some (.slice (some ⟨ga,0,none⟩) b.auths.length cap)∧Au8 X w.heap.size 0 a∧Au8 X ga (k *8) x)) (by kernel_rfl) (keep _ ((Below.refl _ _).drew)) (fun hS=>?_)
  refine tk 0 (.agg #[.int .i64 a.card,.int .i64 a.shop,.int .i64 a.sum,.int .i64 a.cap,.int .i64 a.ref,.int .i64 a.dis,.int .i64 a.till,.bool a.shut]) hS ?_ ?_
  ·intro w' hS';obtain ⟨C4,Q1,Q2⟩:=hS';obtain ⟨c0,c1,c2,c3,c4,c5,c6,c7⟩:=Q1.all;obtain ⟨d0,d1,d2,d3,d4,d5,d6,d7⟩:=Q2.all;go_simp
  refine tk 2 (.pointer (some ⟨g,0,none⟩)) hS ?_ ?_
  ·intro w' _;go_simp
  refine tk 3 (.pointer (some ⟨g,0,none⟩)) hS ?_ ?_
  ·intro w' _;go_simp
  refine tk 4 (.pointer (some ⟨g,0,none⟩)) hS ?_ ?_
  ·intro w' _;go_simp
  try simp only[Act.put]
  refine tk 5 (.pointer (some ⟨g,4,none⟩)) hS ?_ ?_
  ·intro w' _;go_simp
  refine tk 6 (.slice (some ⟨ga,0,none⟩) b.auths.length cap) hS ?_ ?_
  ·intro w' hS';obtain ⟨C4,Q1,Q2⟩:=hS';obtain ⟨c0,c1,c2,c3,c4,c5,c6,c7⟩:=Q1.all;obtain ⟨d0,d1,d2,d3,d4,d5,d6,d7⟩:=Q2.all;go_simp
  refine tk 7 (.int .i64 (k :Int)) hS ?_ ?_
  ·intro w' _;go_simp
  refine tk 8 (.pointer (some ⟨ga,k*8,none⟩)) hS ?_ ?_
  ·intro w' _;go_simp
  try simp only[Act.put]
  refine tk 9 (.agg #[.int .i64 x.card,.int .i64 x.shop,.int .i64 x.sum,.int .i64 x.cap,.int .i64 x.ref,.int .i64 x.dis,.int .i64 x.till,.bool x.shut]) hS ?_ ?_
  ·intro w' hS';obtain ⟨C4,Q1,Q2⟩:=hS';obtain ⟨c0,c1,c2,c3,c4,c5,c6,c7⟩:=Q1.all;obtain ⟨d0,d1,d2,d3,d4,d5,d6,d7⟩:=Q2.all;go_simp
  try simp only[Act.put]
  refine rd 1 (.cons rfl (fun K hK=>?_) .nil)
  go_simp
  refine (hH1 _).mono ?_
  rintro e wA ⟨rfl,hbA⟩
  have hbA:Below W.heap.size W wA:=((Below.refl _ _).drew).trans hbA
  go_simp
  refine hK.out _ _ (keep _ hbA) (fun hS=>?_)
  clear hK K
  try simp only[nrm,Act.put]
  refine rd 10 (.cons rfl (fun K hK=>?_) .nil)
  go_simp
  refine (hH2 _).mono ?_
  rintro e wB ⟨rfl,hbB⟩
  have hbB:Below W.heap.size W wB:=hbA.trans (hbB.mono hbA.size)
  go_simp
  refine hK.out _ _ (keep _ hbB) (fun hS=>?_)
  clear hK K
  refine tk 11 (.int .i64 (h1 -h2)) hS ?_ ?_
  ·intro w' _;go_simp
  try simp only[Act.put]
  refine rd 12 (.cons rfl (fun K hK=>?_) .nil)
  go_simp
  refine hK.out _ _ (keep _ hbB) (fun hS=>?_)
  clear hK K
  try simp only[nrm,Act.put]
  refine wpAnyH_done (by kernel_rfl) ?_ _
  go_wp2_with fail
  go_meet
  exact ⟨rfl,hbB⟩
 case rest=>
  obtain ⟨rfl,hbc⟩:=hcut
  generalize wc=X at*
  obtain ⟨q0,q1,-⟩:=keep X hbc
  have H2:=H1.below hbc
  have S1:=S0.trans (stp_below hbc)
  have hzX:X.heap[w.heap.size]?=some (auo a):=(hbc.block _ hzl).trans hbx
  obtain ⟨gb,capb,B⟩:=H2.mem.authAt hk
  have hve:=A.val.symm.trans B.val
  obtain ⟨hge,-,hce⟩:=Value.slice.inj hve
  cases hge
  subst hce
  obtain ⟨y0,y1,y2,y3,y4,y5,y6,y7⟩:=B.cells.all
  obtain ⟨u0,u1,u2,u3,u4,u5,u6,u7⟩:=q1.all
  have z0:=B.fz (k *8)
  have z1:=B.fz (k *8+1)
  have z2:=B.fz (k *8+2)
  have z3:=B.fz (k *8+3)
  have z4:=B.fz (k*8+4)
  have z5:=B.fz (k *8+5)
  have z6:=B.fz (k*8+6)
  have z7:=B.fz (k*8+7)
  have H3:=(H2.authPut B a).drew
  have S2:=(S1.trans (stp_putAll B.lb (by decide) (by decide) (k*8) (kAu.cells a))).drew
  have hne:w.heap.size≠ga:=fun h=>by have :=B.lb;rw[←h,relab_old (Nat.lt_of_lt_of_le hzl (Nat.le_refl _)),hl0] at this;cases this
  have hz3:(putAll X ga (k *8) (kAu.cells a)).drew.heap[w.heap.size]?=some (auo a):=by rw[heap_drew,putAll_other X ga (k *8) w.heap.size (kAu.cells a) hne];exact hzX
  clear keep A0 A H1 c4 hH1 hH2
  generalize b.auths.getD k zA=xx at*
  have hpa:=putAll8 X ga (k*8) (.int .i64 a.card) (.int .i64 a.shop) (.int .i64 a.sum) (.int .i64 a.cap) (.int .i64 a.ref) (.int .i64 a.dis) (.int .i64 a.till) (.bool a.shut)
  have hpk:kAu.cells a=[.int .i64 a.card,.int .i64 a.shop,.int .i64 a.sum,.int .i64 a.cap,.int .i64 a.ref,.int .i64 a.dis,.int .i64 a.till,.bool a.shut]:=rfl
  rw[hpk,hpa] at H3 S2 hz3
  obtain ⟨c,hc⟩:∃c:Nat,a.card=c:=⟨a.card.toNat,by have :=hcc.out;omega⟩
  have hcl:c<b.cards.length:=by have :=hcc.out;omega
  clear hpa hpk
  have hS:∀(Y:World) (l:Lab),GoesV Y g base l {b with auths:=b.auths.set k a} tm va→Calls Tryz.prog 151 #[.pointer (some ⟨g,0,none⟩),.int .i64 a.card,.int .i64 (h1-h2),.int .i64 0] Y (DoneV Y g base l tm va (becomeP b k a)):=fun Y l hY=>by
   have:= gshiftV g base l _ tm va c (h1 -h2) 0 Y hY hcl
   rw[hE.out,hc]
   exact this
  generalize becomeP b k a=r at*
  have r0:=(auo_cells hz3).c0
  have G3:=H3.goesV hva
  clear hE hc hcl hz3 hcc q1 hx
  go_upto_region 2 with fail
  go_region
  all_goals
   generalize ((((((((X.setCell ⟨ga,k*8,none⟩ (.int .i64 a.card)).setCell ⟨ga,k*8+1,none⟩ (.int .i64 a.shop)).setCell ⟨ga,k*8+2,none⟩ (.int .i64 a.sum)).setCell ⟨ga,k*8+3,none⟩ (.int .i64 a.cap)).setCell ⟨ga,k*8+4,none⟩ (.int .i64 a.ref)).setCell ⟨ga,k*8+5,none⟩ (.int .i64 a.dis)).setCell ⟨ga,k*8+6,none⟩ (.int .i64 a.till)).setCell ⟨ga,k*8+7,none⟩ (.bool a.shut)).drew=Y at*
   go_wp2_with (go_at_call 151;refine (hS _ _ G3).mono ?_;rintro e w5 ⟨rfl,lab5,hG5,hS5⟩)
   go_ret
   exact ⟨rfl,_,hG5,S2.trans hS5⟩
open Go.Proofs.YtofcnebekmjdoaaGreatDoor
def run (b:Bank) (ds:List Dd):Bank:=ds.foldl (fun b d=>(doB b d).1) b
theorem upd_upd {α:Type} (f:Bool→α) (i:Bool) (x y:α):upd (upd f i x) i y=upd f i y:=by funext j;unfold upd;split<;>rfl
theorem upd_self {α:Type}(f:Bool→α) (i:Bool):upd f i (f i)=f:=by
 funext j;unfold upd;split
 ·rename_i e;rw [e]
 ·rfl
open Go.Proofs.YtofcnebekmjdoaaGreatDoor
def zD:Dd:=⟨0,0,0,0,0,0⟩
theorem take_snoc (l:List Dd){i:Nat}(hi:i<l.length):l.take (i +1)=l.take i++[l.getD i zD]:=by
 rw[List.take_add_one];simp[List.getD,hi]
open Go.Proofs.YtofcnebekmjdoaaGreatDoor
theorem tick_mid {b:Bank}{d:Dd}(I:Inv b) (h1:¬(d.sum<0∨1000000<d.sum∨1000000<b.time+d.sum)):Inv {b with time:=b.time+d.sum}:=by
 obtain ⟨H,S,B⟩:=I
 refine ⟨⟨H.cards8,H.due8,H.right,H.few,H.auths,H.held,H.stand,H.standN,fun x hx=>⟨(H.advs x hx).1,?_⟩,H.noadv,?_,?_,H.today⟩,⟨S.right,S.seen0,S.seen1,S.keeps,S.auths,S.kind0,S.kind1,S.ways,S.way60⟩,⟨B.right,B.accC,B.accS,B.acc1,B.acc2⟩⟩
 ·have:= (H.advs x hx).2;show x.t≤b.time+d.sum;omega
 ·have :=H.time0;show 0≤b.time+d.sum;omega
 ·show b.time+d.sum≤1000000;omega
end Go.Proofs.YtofcnebekmjdoaaGreatDoor.Bn
