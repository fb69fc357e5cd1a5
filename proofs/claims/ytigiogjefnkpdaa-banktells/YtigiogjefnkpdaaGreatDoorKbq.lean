import Derived.Test.YtigiogjefnkpdaaGreatDoorKbl
set_option maxHeartbeats 4000000
set_option maxRecDepth 100000
open Go.Proofs.Tryz
namespace Go.Proofs.YtigiogjefnkpdaaGreatDoor.Bn
open RowKit Gn
structure Sm(w Y:World)(z:Nat)(b:aJ)(v v2:Vs)(cs cs2:List CV)(ds ds2:List DV):Prop where
 one:Y.heap[z]?=some (eF b v)two:Y.heap[z+1]?=some (eF b v2)s1:pC Y b v cs ds
 s2:pC Y b v2 cs2 ds2
 bel:Below w.heap.size w Y
theorem Sm.below{w Y f:World}{z:Nat}{b:aJ}{v v2:Vs}{cs d:List CV}{e c:List DV}(h:Sm w Y z b v v2 cs d e c)(a:Below Y.heap.size Y f):Sm w f z b v v2 cs d e c:=⟨(a.block _ (ae h.one)).trans h.one,(a.block _ (ae h.two)).trans h.two,h.s1.below a,h.s2.below a,h.bel.trans (a.mono h.bel.size)⟩
theorem Gv{w:World}{b:aJ}{v v2:Vs}{cs c:List CV}{f a:List DV}(h1:pC w b v cs f)(h2:pC w b v2 c a):Sm w ((w.alloc (eF b v)).alloc (eF b v2)) w.heap.size b v v2 cs c f a:=by have g:=ar w (eF b v);have e:=ar (w.alloc (eF b v)) (eF b v2);have d:=g.trans (e.mono (by simp));exact⟨(e.block _ (by simp)).trans (ah _ _ _ rfl),ah _ _ _ (by simp),h1.below d,h2.below d,d⟩
theorem Sm.len{w Y:World}{z:Nat}{b:aJ}{v v2:Vs}{cs c:List CV}{f a:List DV}(h:Sm w Y z b v v2 cs c f a):c.length=cs.length∧a.length=f.length:=by have e:=ix List.length (h.s1.ov.trans h.s2.ov.symm);have d:=ix List.length (h.s1.ox.trans h.s2.ox.symm);simp at e d;exact⟨e.symm,d.symm⟩
theorem rH{α:Type}{K:Kind α}{aI:bI}{w:World}{a:Option Addr}{cap:Nat}{L:List α}{i:Nat}(h:Ap K aI w (.slice a L.length cap) L i):Gn.bF K w a cap L:=by obtain⟨e,b,c,d,-⟩:=h;injection c with h1 _ h2;rw[h1,h2];exact d
theorem HZ{cs:List CV}{k:Nat}(h:k<cs.length):(cs.map CV.c).getD k b7=(cs.getD k j0).c:=by simp[List.getD,h]
def EE:DV:=⟨[],none,0,aj _⟩
theorem IT{a:List DV}{k:Nat}(h:k<a.length):(a.map DV.l).getD k []=(a.getD k EE).l:=by simp[List.getD,h]
theorem GD{w:World}{a:Option Addr}{cap:Nat}{L:List Int}(h:Gn.bF kB w a cap L):(convert 79 9 (.slice a L.length cap)).run prog w=.ok (.string (strOf L)) w:=vH underlying79 underlying5 underlying9 h
theorem Li(x y:Int)(w:World):(Op.equalIn 10000 33 (.agg #[.int .i64 x,.int .i64 y]) (.agg #[.int .i64 x,.int .i64 y])).run prog w=.ok true w:=by
 obtain⟨i,hi⟩:∃i,prog.info? 3=some i:=Option.isSome_iff_exists.1 (by kernel_rfl);have b:prog.cellsOf 3=1:=by kernel_rfl
 rw[run_equalIn_array w 9999 _ _ underlying33 hi,b];have a:List.range 2=[0,1]:=rfl;rw[a];simp[Op.eqItems,part,go_sem]
theorem jD(b:aJ)(v v2:Vs)(cs r:List CV)(J D:List DV)(w:World)(S1:pC w b v cs J)(S2:pC w b v2 r D):Calls prog 8 #[tT b v,tT b v2] w fun e N=>e=.returned (.bool true)∧Below w.heap.size w N:=by
 have Q:=Gv S1 S2;obtain⟨W0,ay⟩:∃W,(w.alloc (eF b v)).alloc (eF b v2)=W:=⟨_,rfl⟩;rw[ay]at Q;unfold eF bo at ay;unfold tT;clear S1 S2;go_enter func8,ntmps8;go_upto_region 1 with fail;try rw[ay]
 clear ay;generalize Value.agg #[.int .i64 b.time,.bool b.down,v.c,v.d,v.a,.int .i64 (b.snd false).bD,v.kp false,.int .i64 (b.snd true).bD,v.kp true,.int .i64 (b.aX false),.int .i64 (b.aX true),v.wy false,v.wy true,.int .i64 b.bn.cap,v.us,v.ad,v.td,v.dy,v.bk]=x0;generalize Value.agg #[.int .i64 b.time,.bool b.down,v2.c,v2.d,v2.a,.int .i64 (b.snd false).bD,v2.kp false,.int .i64 (b.snd true).bD,v2.kp true,.int .i64 (b.aX false),.int .i64 (b.aX true),v2.wy false,v2.wy true,.int .i64 b.bn.cap,v2.us,v2.ad,v2.td,v2.dy,v2.bk]=x1;have E:=Q.len;obtain⟨a1,c1,e1,m1⟩:=Q.s1.aL.bQ;obtain⟨a2,c2,e2,-⟩:=Q.s2.aL.bQ;obtain⟨a3,c3,e3,m3⟩:=Q.s1.due.bQ;obtain⟨a4,c4,e4,-⟩:=Q.s2.due.bQ;obtain⟨a5,c5,e5,m5⟩:=Q.s1.ax.bQ;obtain⟨a6,c6,e6,-⟩:=Q.s2.ax.bQ;obtain⟨a7,c7,e7,m7⟩:=Q.s1.days.bQ;obtain⟨a8,c8,e8,-⟩:=Q.s2.days.bQ;have m1:=m1.len;have m3:=m3.len;have m5:=m5.len;have m7:=m7.len;unfold maxLen at m1 m3 m5 m7;rw[E.1]at e2;rw[E.2]at e8;have b6:=St.jD b.bn.cap v.us v.ad v2.us v2.ad b.bn.used b.bn.bL _ Q.s1.used.bQ Q.s1.bL.bQ Q.s2.used.bQ Q.s2.bL.bQ;unfold St.dv at b6;obtain⟨B0,B1,B2,B3,B4,-,-,-,-,B9,cw,-,-,ct,cq,cp,-,P,-⟩:=bU Q.one;obtain⟨D0,D1,D2,D3,D4,-,-,-,-,D9,cm,-,-,cl,ck,ci,-,aa,-⟩:=bU Q.two;rw[e1]at B2;rw[e3]at B3;rw[e5]at B4;rw[e7]at P;rw[e2]at D2;rw[e4]at D3;rw[e6]at D4;rw[e8]at aa;replace e1:=aW e1;replace e2:=aW e2;replace e3:=aW e3;replace e4:=aW e4;replace e5:=aW e5;replace e6:=aW e6;replace e7:=aW e7;replace e8:=aW e8;replace E:=aW E;have cb:=fun(x y:Int) (X:World)=>Li x y X;go_upto_region 2 with fail;refine b6.mono ?_;rintro _ W1 ⟨rfl,bf⟩;have C1:=Q.below bf;clear b6 B0 B1 B2 B3 B4 B9 cw ct cq cp P D0 D1 D2 D3 D4 D9 cm cl ck ci aa Q bf;have bg:=Dy.jD b.bt v.td v2.td W1 C1.s1.bt.bQ C1.s2.bt.bQ;obtain⟨-,-,-,-,-,-,-,-,-,-,-,-,-,-,-,-,cn,-⟩:=bU C1.one;obtain⟨-,-,-,-,-,-,-,-,-,-,-,-,-,-,-,-,ch,-⟩:=bU C1.two;go_upto_region 2 with fail;refine bg.mono ?_;rintro _ W2 ⟨rfl,be⟩;have C2:=C1.below be;clear bg cn ch C1 be;obtain⟨a9,c9,e9,m9⟩:=C2.s1.bM.bQ;obtain⟨ce,cc,bi,ba⟩:=C2.s2.bM.bQ;have bh:=Bk.ET a9 c9 b.bM ce cc W2 (pO m9) (pO ba);obtain⟨-,-,-,-,-,-,-,-,-,-,-,-,-,-,-,-,-,-,bw⟩:=bU C2.one;obtain⟨-,-,-,-,-,-,-,-,-,-,-,-,-,-,-,-,-,-,bv⟩:=bU C2.two;rw[e9]at bw;rw[bi]at bv;clear e9 bi m9 ba;go_upto_region 2 with fail;refine bh.mono ?_;rintro _ W3 ⟨rfl,bd⟩;have C3:=C2.below bd;clear bh bw bv C2 bd;obtain⟨-,-,B2,-⟩:=bU C3.one;rw[e1.out]at B2;clear cb;go_upto_region 4 with fail;go_loopw[93] (fun i wr=>∃k:Nat,k≤cs.length∧i=.int .i64 k∧Sm w wr w.heap.size b v v2 cs r J D) (fun i _=>cs.length-(intOf i).toNat);case atStart=>exact⟨0,bq _,rfl,C3⟩
 case round=>
  clear C3 B2;obtain⟨k,hk,rfl,C⟩:=hrel;by_cases o:k<cs.length
  ·have aw:(k:Int)<cs.length:=by omega
   obtain⟨-,-,B2,-⟩:=bU C.one;obtain⟨-,-,D2,-⟩:=bU C.two;obtain⟨a,c,e,I⟩:=C.s1.aL.bQ;obtain⟨a',Z,G,n⟩:=C.s2.aL.bQ;rw[E.out.1]at G;rw[e]at B2;rw[G]at D2;have B:k<r.length:=by rw[E.out.1];exact o
   obtain⟨z,off,rfl,an,q⟩:=I.elem (i:=k) (x:=cs.getD k j0) (by simp[List.getD,o]);obtain⟨z',A,rfl,R,g⟩:=n.elem (i:=k) (x:=r.getD k j0) (by simp[List.getD,B]);have hu:=jh (rH (C.s1.cP _ (ev j0 o)));have bb:=jh (rH (C.s2.cP _ (ev j0 B)));have b5:(r.getD k j0).c=(cs.getD k j0).c:=by rw[←HZ B,←HZ o,C.s1.ov,C.s2.ov]
   have M:=fun(X:World) (hb:Below wr.heap.size wr X)=>Ff (cs.getD k j0).c (cs.getD k j0).a (cs.getD k j0).cap (r.getD k j0).a (r.getD k j0).cap X (hu.below hb) (by rw[←b5];exact bb.below hb);have H:=q 0 _ rfl;have f1:=q 1 _ rfl;have f2:=q 2 _ rfl;have f3:=q 3 _ rfl;have f4:=q 4 _ rfl;have f5:=q 5 _ rfl;have F:=g 0 _ rfl;have g1:=g 1 _ rfl;have g2:=g 2 _ rfl;have Y:=g 3 _ rfl;have V:=g 4 _ rfl;have g5:=g 5 _ rfl;simp only[dr]at H F;dsimp only[kC]at H f1 f2 f3 f4 f5 F g1 g2 Y V g5;rw[b5]at F g1 g2 Y V g5;unfold cv at M;generalize(cs.getD k j0).c=x at*;generalize(cs.getD k j0).a=xa at*;generalize(cs.getD k j0).cap=xc at*;generalize(r.getD k j0).a=ya at*;generalize(r.getD k j0).cap=yc at*;clear e G I n q g hu bb b5 B;go_upto_region 6 with fail;refine bm (S:=(fun X=>Below wr.heap.size wr X)) (by kernel_rfl) ((Below.refl _ _).drew) (fun j=>?_);refine tj 0 (.pointer (some ⟨w.heap.size,2,none⟩)) j ?_;refine tk 1 (.slice (some ⟨z,off,none⟩) cs.length c) j ?_ ?_;·intro N f;have T:=(f.cell (dM B2)).trans B2;go_simp
   refine tj 2 (.int .i64 (k :Int)) j ?_;refine tj 3 (.pointer (some ⟨z,off+k*6,none⟩)) j ?_;try simp only[aH,aD,aE,Act.put,az,aO,aN]
   refine tk 4 (.agg #[.int .i64 x.m,.int .i64 x.h,.int .i64 x.p.t,.int .i64 x.p.c,.int .i64 x.p.s,.slice xa x.u.length xc]) j ?_ ?_;·intro N f;have T:=(f.cell (dM H)).trans H;have q1:=(f.cell (dM f1)).trans f1;have q2:=(f.cell (dM f2)).trans f2;have q3:=(f.cell (dM f3)).trans f3;have q4:=(f.cell (dM f4)).trans f4;have q5:=(f.cell (dM f5)).trans f5;go_simp
   refine tj 5 (.pointer (some ⟨w.heap.size+1,2,none⟩)) j ?_;refine tk 6 (.slice (some ⟨z',A,none⟩) cs.length Z) j ?_ ?_;·intro N f;have T:=(f.cell (dM D2)).trans D2;go_simp
   refine tj 7 (.int .i64 (k :Int)) j ?_;try simp only[aH,aD,aE,Act.put,az,aO,aN]
   refine tj 8 (.pointer (some ⟨z',A+k*6,none⟩)) j ?_;refine tk 9 (.agg #[.int .i64 x.m,.int .i64 x.h,.int .i64 x.p.t,.int .i64 x.p.c,.int .i64 x.p.s,.slice ya x.u.length yc]) j ?_ ?_;·intro N f;have T:=(f.cell (dM F)).trans F;have q1:=(f.cell (dM g1)).trans g1;have q2:=(f.cell (dM g2)).trans g2;have q3:=(f.cell (dM Y)).trans Y;have q4:=(f.cell (dM V)).trans V;have q5:=(f.cell (dM g5)).trans g5;go_simp
   try simp only[aH,aD,aE,Act.put,az,aO,aN]
   refine rj [10] (.cons rfl (fun K hK=>?_) .nil);go_simp;refine(M _ ((Below.refl _ _).drew)).mono ?_;rintro _ w5 ⟨rfl,L⟩;go_simp;refine hK.out _ _ (((Below.refl _ _).drew).trans L) (fun j=>?_);clear hK K;refine tj 11 (.bool false) j ?_;try simp only[aH,aD,aE,Act.put,az,aO,aN]
   refine bA (by kernel_rfl) ?_ _;have C5:=C.below (((Below.refl _ _).drew).trans L);go_wp2_with fail;go_roundw;case rel=>exact⟨k+1,by omega,by go_num,C5⟩
   case measure=>simp[intOf];omega
  ·obtain rfl:k=cs.length:=by omega
   have O:¬((cs.length :Int)<cs.length):=by omega
   obtain⟨-,-,-,B3,-⟩:=bU C.one;rw[e3.out]at B3;go_upto_region 10 with fail;clear B3;go_loopw[112] (fun i wr=>∃k:Nat,k≤b.due.length∧i=.int .i64 k∧Sm w wr w.heap.size b v v2 cs r J D) (fun i _=>b.due.length-(intOf i).toNat);case atStart=>exact⟨0,bq _,rfl,C⟩
   case round=>
    clear C O o hk;obtain⟨k,hk,rfl,C⟩:=hrel;by_cases o:k<b.due.length
    ·have aw:(k:Int)<b.due.length:=by omega
     obtain⟨-,-,-,B3,-⟩:=bU C.one;obtain⟨-,-,-,D3,-⟩:=bU C.two;obtain⟨a,c,e,I⟩:=C.s1.due.bQ;obtain⟨a',Z,G,n⟩:=C.s2.due.bQ;rw[e]at B3;rw[G]at D3;obtain⟨z,off,rfl,an,q⟩:=I.elem (i:=k) (x:=b.due.getD k 0) (by simp[List.getD,o]);obtain⟨z',A,rfl,R,g⟩:=n.elem (i:=k) (x:=b.due.getD k 0) (by simp[List.getD,o]);have H:=q 0 _ rfl;have F:=g 0 _ rfl;dsimp only[kI]at H F;simp only[dr,Nat.mul_one]at H F;generalize b.due.getD k 0=x at*;clear e G I n q g;go_upto_region 12 with fail;go_quiet(fail);go_wp2_with fail;go_roundw;case rel=>exact⟨k+1,by omega,by go_num,C.below (br (Below.refl _ _) _)⟩
     case measure=>simp[intOf];omega
    ·obtain rfl:k=b.due.length:=by omega
     have O:¬((b.due.length:Int)<b.due.length):=by omega
     obtain⟨-,-,-,-,B4,-⟩:=bU C.one;rw[e5.out]at B4;go_upto_region 16 with fail;clear B4;go_loopw[130] (fun i wr=>∃k:Nat,k≤b.ax.length∧i=.int .i64 k∧Sm w wr w.heap.size b v v2 cs r J D) (fun i _=>b.ax.length-(intOf i).toNat);case atStart=>exact⟨0,bq _,rfl,C⟩
     case round=>
      clear C O o hk;obtain⟨k,hk,rfl,C⟩:=hrel;by_cases o:k<b.ax.length
      ·have aw:(k:Int)<b.ax.length:=by omega
       obtain⟨-,-,-,-,B4,-⟩:=bU C.one;obtain⟨-,-,-,-,D4,-⟩:=bU C.two;obtain⟨a,c,e,I⟩:=C.s1.ax.bQ;obtain⟨a',Z,G,n⟩:=C.s2.ax.bQ;rw[e]at B4;rw[G]at D4;obtain⟨z,off,rfl,an,q⟩:=I.elem (i:=k) (x:=b.ax.getD k zA) (by simp[List.getD,o]);obtain⟨z',A,rfl,R,g⟩:=n.elem (i:=k) (x:=b.ax.getD k zA) (by simp[List.getD,o]);have H:=q 0 _ rfl;have f1:=q 1 _ rfl;have f2:=q 2 _ rfl;have f3:=q 3 _ rfl;have f4:=q 4 _ rfl;have f5:=q 5 _ rfl;have f6:=q 6 _ rfl;have f7:=q 7 _ rfl;have F:=g 0 _ rfl;have g1:=g 1 _ rfl;have g2:=g 2 _ rfl;have Y:=g 3 _ rfl;have V:=g 4 _ rfl;have g5:=g 5 _ rfl;have g6:=g 6 _ rfl;have g7:=g 7 _ rfl;dsimp only[qx]at H f1 f2 f3 f4 f5 f6 f7 F g1 g2 Y V g5 g6 g7;simp only[dr]at H F;generalize b.ax.getD k zA=x at*;obtain⟨x1,x2,x3,x4,x5,x6,x7,x8⟩:=x;dsimp only at H f1 f2 f3 f4 f5 f6 f7 F g1 g2 Y V g5 g6 g7;clear e G I n q g;go_upto_region 18 with fail;go_quiet(fail);go_wp2_with fail;go_roundw;case rel=>exact⟨k+1,by omega,by go_num,C.below (br (Below.refl _ _) _)⟩
       case measure=>simp[intOf];omega
      ·obtain rfl:k=b.ax.length:=by omega
       have O:¬((b.ax.length:Int)<b.ax.length):=by omega
       obtain⟨-,-,-,-,-,-,-,-,-,-,-,-,-,-,-,-,-,P,-⟩:=bU C.one;rw[e7.out]at P;go_upto_region 22 with fail;clear P;go_loopw[148] (fun i wr=>∃k:Nat,k≤J.length∧i=.int .i64 k∧Sm w wr w.heap.size b v v2 cs r J D) (fun i _=>J.length-(intOf i).toNat);case atStart=>exact⟨0,bq _,rfl,C⟩
       case round=>
        clear C O o hk;obtain⟨k,hk,rfl,C⟩:=hrel;by_cases o:k<J.length
        ·have aw:(k:Int)<J.length:=by omega
         obtain⟨-,-,-,-,-,-,-,-,-,-,-,-,-,-,-,-,-,P,-⟩:=bU C.one;obtain⟨-,-,-,-,-,-,-,-,-,-,-,-,-,-,-,-,-,aa,-⟩:=bU C.two;obtain⟨a,c,e,I⟩:=C.s1.days.bQ;obtain⟨a',Z,G,n⟩:=C.s2.days.bQ;rw[E.out.2]at G;rw[e]at P;rw[G]at aa;have B:k<D.length:=by rw[E.out.2];exact o
         obtain⟨z,off,rfl,an,q⟩:=I.elem (i:=k) (x:=J.getD k EE) (by simp[List.getD,o]);obtain⟨z',A,rfl,R,g⟩:=n.elem (i:=k) (x:=D.getD k EE) (by simp[List.getD,B]);have b4:(D.getD k EE).l=(J.getD k EE).l:=by rw[←IT B,←IT o,C.s1.ox,C.s2.ox]
         have s1:=fun(X:World) (hX:Below wr.heap.size wr X)=>GD (rH ((C.below hX).s1.files _ (ev EE o)));have s2:=fun(X :World) (hX:Below wr.heap.size wr X)=>GD (rH ((C.below hX).s2.files _ (ev EE B)));have H:=q 0 _ rfl;have F:=g 0 _ rfl;dsimp only[kD]at H F;simp only[dr,Nat.mul_one]at H F;rw[b4]at F;simp only[b4]at s2;generalize strOf (J.getD k EE).l=st at*;generalize(J.getD k EE).l.length=ln at*;generalize(J.getD k EE).a=xa at*;generalize(J.getD k EE).cap=xc at*;generalize(D.getD k EE).a=ya at*;generalize(D.getD k EE).cap=yc at*;clear e G I n q g b4 B;go_upto_region 24 with fail;refine bm (S:=(fun X=>Below wr.heap.size wr X)) (by kernel_rfl) ((Below.refl _ _).drew) (fun j=>?_);refine tj 0 (.pointer (some ⟨w.heap.size,17,none⟩)) j ?_;refine tk 1 (.slice (some ⟨z,off,none⟩) J.length c) j ?_ ?_;·intro N f;have T:=(f.cell (dM P)).trans P;go_simp
         refine tj 2 (.int .i64 (k:Int)) j ?_;refine tj 3 (.pointer (some ⟨z,off+k,none⟩)) j ?_;try simp only[aH,aD,aE,Act.put,az,aO,aN]
         refine tk 4 (.slice xa ln xc) j ?_ ?_;·intro N f;have T:=(f.cell (dM H)).trans H;go_simp
         refine tk 5 (.string st) j ?_ ?_;·intro N f;have T:=s1 _ f;go_simp
         refine tj 6 (.pointer (some ⟨w.heap.size+1,17,none⟩)) j ?_;refine tk 7 (.slice (some ⟨z',A,none⟩) J.length Z) j ?_ ?_;·intro N f;have T:=(f.cell (dM aa)).trans aa;go_simp
         try simp only[aH,aD,aE,Act.put,az,aO,aN]
         refine tj 8 (.int .i64 (k:Int)) j ?_;refine tj 9 (.pointer (some ⟨z',A+k,none⟩)) j ?_;refine tk 10 (.slice ya ln yc) j ?_ ?_;·intro N f;have T:=(f.cell (dM F)).trans F;go_simp
         refine tk 11 (.string st) j ?_ ?_;·intro N f;have T:=s2 _ f;go_simp
         try simp only[aH,aD,aE,Act.put,az,aO,aN]
         refine tj 12 (.bool false) j ?_;try simp only[aH,aD,aE,Act.put,az,aO,aN]
         refine bA (by kernel_rfl) ?_ _;go_wp2_with fail;go_roundw;case rel=>exact⟨k+1,by omega,by go_num,C.below ((Below.refl _ _).drew)⟩
         case measure=>simp[intOf];omega
        ·obtain rfl:k=J.length:=by omega
         have O:¬((J.length :Int)<J.length):=by omega
         go_upto_region 28 with fail;go_loopw[165] (fun i wr=>∃k:Nat,k≤2∧i=.int .i64 k∧Sm w wr w.heap.size b v v2 cs r J D) (fun i _=>2-(intOf i).toNat);case atStart=>exact⟨0,bq _,rfl,C⟩
         case round=>
          clear C O o hk;obtain⟨k,hk,rfl,C⟩:=hrel;by_cases o:k<2
          ·obtain rfl|rfl:k=0∨k=1:=by omega
           ·obtain⟨-,-,-,-,-,B5,B6,-,-,-,-,am,-⟩:=bU C.one;obtain⟨-,-,-,-,-,D5,D6,-,-,-,-,ag,-⟩:=bU C.two;obtain⟨a,c,e,I⟩:=(C.s1.bj false).bQ;obtain⟨a',Z,G,n⟩:=(C.s2.bj false).bQ;obtain⟨u,d,ew,lw⟩:=(C.s1.ways false).bQ;obtain⟨u',d',U,b0⟩:=(C.s2.ways false).bQ;rw[e]at B6;rw[G]at D6;rw[ew]at am;rw[U]at ag;have b3:=lw.len;unfold maxLen at b3;have M:=fun(X:World) (hb:Below wr.heap.size wr X)=>Po.jD (b.snd false) a c a' Z X (I.below hb) (n.below hb);unfold Po.sv at M;replace ew:=aW ew;replace U:=aW U;clear e G I n lw b0;go_upto_region 30 with fail;refine bm (S:=(fun X=>Below wr.heap.size wr X)) (by kernel_rfl) ((Below.refl _ _).drew) (fun j=>?_);refine tj 0 (.int .i64 0) j ?_;refine tj 1 (.pointer (some ⟨w.heap.size,5,none⟩)) j ?_;refine tj 2 (.pointer (some ⟨w.heap.size,5,none⟩)) j ?_;refine tk 3 (.agg #[.int .i64 (b.snd false).bD,.slice a (b.snd false).bj.length c]) j ?_ ?_;·intro N f;have T:=(f.cell (dM B5)).trans B5;have q1:=(f.cell (dM B6)).trans B6;go_simp
            try simp only[aH,aD,aE,Act.put,az,aO,aN]
            refine tj 4 (.int .i64 0) j ?_;refine tj 5 (.pointer (some ⟨w.heap.size+1,5,none⟩)) j ?_;refine tj 6 (.pointer (some ⟨w.heap.size+1,5,none⟩)) j ?_;refine tk 7 (.agg #[.int .i64 (b.snd false).bD,.slice a' (b.snd false).bj.length Z]) j ?_ ?_;·intro N f;have T:=(f.cell (dM D5)).trans D5;have q1:=(f.cell (dM D6)).trans D6;go_simp
            try simp only[aH,aD,aE,Act.put,az,aO,aN]
            try simp only[aH,aD,aE,Act.put,az,aO,aN]
            refine rj [8] (.cons rfl (fun K hK=>?_) .nil);go_simp;refine(M _ ((Below.refl _ _).drew)).mono ?_;rintro _ w5 ⟨rfl,L⟩;go_simp;refine hK.out _ _ (((Below.refl _ _).drew).trans L) (fun j=>?_);clear hK K;refine tj 9 (.bool false) j ?_;refine tj 10 (.bool false) j ?_;refine tj 11 (.int .i64 0) j ?_;refine tj 12 (.pointer (some ⟨w.heap.size,11,none⟩)) j ?_;try simp only[aH,aD,aE,Act.put,az,aO,aN]
            refine tj 13 (.pointer (some ⟨w.heap.size,11,none⟩)) j ?_;refine tk 14 (.slice u (b.dY false).length d) j ?_ ?_;·intro N f;have T:=(f.cell (dM am)).trans am;go_simp
            refine tj 15 (.int .i64 (b.dY false).length) j ?_;refine tj 16 (.int .i64 0) j ?_;try simp only[aH,aD,aE,Act.put,az,aO,aN]
            refine tj 17 (.pointer (some ⟨w.heap.size+1,11,none⟩)) j ?_;refine tj 18 (.pointer (some ⟨w.heap.size+1,11,none⟩)) j ?_;refine tk 19 (.slice u' (b.dY false).length d') j ?_ ?_;·intro N f;have T:=(f.cell (dM ag)).trans ag;go_simp
            refine tj 20 (.int .i64 (b.dY false).length) j ?_;try simp only[aH,aD,aE,Act.put,az,aO,aN]
            refine tj 21 (.bool false) j ?_;refine tj 22 (.bool false) j ?_;try simp only[aH,aD,aE,Act.put,az,aO,aN]
            refine bA (by kernel_rfl) ?_ _;have C5:=C.below (((Below.refl _ _).drew).trans L);obtain⟨-,-,-,-,-,-,-,-,-,-,-,q1,-⟩:=bU C5.one;rw[ew.out]at q1;clear B5 B6 am D5 D6 ag M C;go_upto_region 33 with fail;go_loopw[196] (fun i wr=>∃k:Nat,k≤(b.dY false).length∧i=.int .i64 k∧Sm w wr w.heap.size b v v2 cs r J D) (fun i _=>(b.dY false).length-(intOf i).toNat);case atStart=>exact⟨0,bq _,rfl,C5⟩
            case round=>
             clear C5 q1 L;obtain⟨m,hm,rfl,C⟩:=hrel;by_cases ao:m<(b.dY false).length
             ·have bc:(m :Int)<(b.dY false).length:=by omega
              obtain⟨-,-,-,-,-,-,-,-,-,-,-,am,-⟩:=bU C.one;obtain⟨-,-,-,-,-,-,-,-,-,-,-,ag,-⟩:=bU C.two;obtain⟨a,c,e,I⟩:=(C.s1.ways false).bQ;obtain⟨a',Z,G,n⟩:=(C.s2.ways false).bQ;rw[e]at am;rw[G]at ag;obtain⟨z,off,rfl,an,q⟩:=I.elem (i:=m) (x:=(b.dY false).getD m Lu) (by simp[List.getD,ao]);obtain⟨z',A,rfl,R,g⟩:=n.elem (i:=m) (x:=(b.dY false).getD m Lu) (by simp[List.getD,ao]);have H:=q 0 _ rfl;have f1:=q 1 _ rfl;have f2:=q 2 _ rfl;have f3:=q 3 _ rfl;have f4:=q 4 _ rfl;have F:=g 0 _ rfl;have g1:=g 1 _ rfl;have g2:=g 2 _ rfl;have Y:=g 3 _ rfl;have V:=g 4 _ rfl;dsimp only[kP]at H f1 f2 f3 f4 F g1 g2 Y V;simp only[dr]at H F;generalize(b.dY false).getD m Lu=x at*;obtain⟨⟨x1,x2,x3,x4⟩,x5⟩:=x;dsimp only at H f1 f2 f3 f4 F g1 g2 Y V;clear e G I n q g;go_upto_region 35 with fail;go_quiet(fail);go_wp2_with fail;go_roundw;case rel=>exact⟨m+1,by omega,by go_num,C.below (br (Below.refl _ _) _)⟩
              case measure=>simp[intOf];omega
             ·obtain rfl:m=(b.dY false).length:=by omega
              have O:¬(((b.dY false).length:Int)<(b.dY false).length):=by omega
              go_wp2_with fail;go_roundw;case rel=>exact⟨0+1,by omega,by go_num,C⟩
              case measure=>simp[intOf]
           ·obtain⟨-,-,-,-,-,-,-,B7,B8,-,-,-,ak,-⟩:=bU C.one;obtain⟨-,-,-,-,-,-,-,D7,D8,-,-,-,af,-⟩:=bU C.two;obtain⟨a,c,e,I⟩:=(C.s1.bj true).bQ;obtain⟨a',Z,G,n⟩:=(C.s2.bj true).bQ;obtain⟨u,d,ew,lw⟩:=(C.s1.ways true).bQ;obtain⟨u',d',U,b0⟩:=(C.s2.ways true).bQ;rw[e]at B8;rw[G]at D8;rw[ew]at ak;rw[U]at af;have b3:=lw.len;unfold maxLen at b3;have M:=fun(X:World) (hb :Below wr.heap.size wr X)=>Po.jD (b.snd true) a c a' Z X (I.below hb) (n.below hb);unfold Po.sv at M;replace ew:=aW ew;replace U:=aW U;clear e G I n lw b0;go_upto_region 30 with fail;refine bm (S:=(fun X=>Below wr.heap.size wr X)) (by kernel_rfl) ((Below.refl _ _).drew) (fun j=>?_);refine tj 0 (.int .i64 1) j ?_;refine tj 1 (.pointer (some ⟨w.heap.size,5,none⟩)) j ?_;refine tj 2 (.pointer (some ⟨w.heap.size,7,none⟩)) j ?_;refine tk 3 (.agg #[.int .i64 (b.snd true).bD,.slice a (b.snd true).bj.length c]) j ?_ ?_;·intro N f;have T:=(f.cell (dM B7)).trans B7;have q1:=(f.cell (dM B8)).trans B8;go_simp
            try simp only[aH,aD,aE,Act.put,az,aO,aN]
            refine tj 4 (.int .i64 1) j ?_;refine tj 5 (.pointer (some ⟨w.heap.size+1,5,none⟩)) j ?_;refine tj 6 (.pointer (some ⟨w.heap.size+1,7,none⟩)) j ?_;refine tk 7 (.agg #[.int .i64 (b.snd true).bD,.slice a' (b.snd true).bj.length Z]) j ?_ ?_;·intro N f;have T:=(f.cell (dM D7)).trans D7;have q1:=(f.cell (dM D8)).trans D8;go_simp
            try simp only[aH,aD,aE,Act.put,az,aO,aN]
            try simp only[aH,aD,aE,Act.put,az,aO,aN]
            refine rj [8] (.cons rfl (fun K hK=>?_) .nil);go_simp;refine(M _ ((Below.refl _ _).drew)).mono ?_;rintro _ w5 ⟨rfl,L⟩;go_simp;refine hK.out _ _ (((Below.refl _ _).drew).trans L) (fun j=>?_);clear hK K;refine tj 9 (.bool false) j ?_;refine tj 10 (.bool false) j ?_;refine tj 11 (.int .i64 1) j ?_;refine tj 12 (.pointer (some ⟨w.heap.size,11,none⟩)) j ?_;try simp only[aH,aD,aE,Act.put,az,aO,aN]
            refine tj 13 (.pointer (some ⟨w.heap.size,12,none⟩)) j ?_;refine tk 14 (.slice u (b.dY true).length d) j ?_ ?_;·intro N f;have T:=(f.cell (dM ak)).trans ak;go_simp
            refine tj 15 (.int .i64 (b.dY true).length) j ?_;refine tj 16 (.int .i64 1) j ?_;try simp only[aH,aD,aE,Act.put,az,aO,aN]
            refine tj 17 (.pointer (some ⟨w.heap.size+1,11,none⟩)) j ?_;refine tj 18 (.pointer (some ⟨w.heap.size+1,12,none⟩)) j ?_;refine tk 19 (.slice u' (b.dY true).length d') j ?_ ?_;·intro N f;have T:=(f.cell (dM af)).trans af;go_simp
            refine tj 20 (.int .i64 (b.dY true).length) j ?_;try simp only[aH,aD,aE,Act.put,az,aO,aN]
            refine tj 21 (.bool false) j ?_;refine tj 22 (.bool false) j ?_;try simp only[aH,aD,aE,Act.put,az,aO,aN]
            refine bA (by kernel_rfl) ?_ _;have C5:=C.below (((Below.refl _ _).drew).trans L);obtain⟨-,-,-,-,-,-,-,-,-,-,-,-,q1,-⟩:=bU C5.one;rw[ew.out]at q1;clear B7 B8 ak D7 D8 af M C;go_upto_region 33 with fail;go_loopw[196] (fun i wr=>∃k:Nat,k≤(b.dY true).length∧i=.int .i64 k∧Sm w wr w.heap.size b v v2 cs r J D) (fun i _=>(b.dY true).length-(intOf i).toNat);case atStart=>exact⟨0,bq _,rfl,C5⟩
            case round=>
             clear C5 q1 L;obtain⟨m,hm,rfl,C⟩:=hrel;by_cases ao:m<(b.dY true).length
             ·have bc:(m:Int)<(b.dY true).length:=by omega
              obtain⟨-,-,-,-,-,-,-,-,-,-,-,-,ak,-⟩:=bU C.one;obtain⟨-,-,-,-,-,-,-,-,-,-,-,-,af,-⟩:=bU C.two;obtain⟨a,c,e,I⟩:=(C.s1.ways true).bQ;obtain⟨a',Z,G,n⟩:=(C.s2.ways true).bQ;rw[e]at ak;rw[G]at af;obtain⟨z,off,rfl,an,q⟩:=I.elem (i:=m) (x:=(b.dY true).getD m Lu) (by simp[List.getD,ao]);obtain⟨z',A,rfl,R,g⟩:=n.elem (i:=m) (x:=(b.dY true).getD m Lu) (by simp[List.getD,ao]);have H:=q 0 _ rfl;have f1:=q 1 _ rfl;have f2:=q 2 _ rfl;have f3:=q 3 _ rfl;have f4:=q 4 _ rfl;have F:=g 0 _ rfl;have g1:=g 1 _ rfl;have g2:=g 2 _ rfl;have Y:=g 3 _ rfl;have V:=g 4 _ rfl;dsimp only[kP]at H f1 f2 f3 f4 F g1 g2 Y V;simp only[dr]at H F;generalize(b.dY true).getD m Lu=x at*;obtain⟨⟨x1,x2,x3,x4⟩,x5⟩:=x;dsimp only at H f1 f2 f3 f4 F g1 g2 Y V;clear e G I n q g;go_upto_region 35 with fail;go_quiet(fail);go_wp2_with fail;go_roundw;case rel=>exact⟨m+1,by omega,by go_num,C.below (br (Below.refl _ _) _)⟩
              case measure=>simp[intOf];omega
             ·obtain rfl:m=(b.dY true).length:=by omega
              have O:¬(((b.dY true).length:Int)<(b.dY true).length):=by omega
              go_wp2_with fail;go_roundw;case rel=>exact⟨1+1,by omega,by go_num,C⟩
              case measure=>simp[intOf]
          ·obtain rfl:k=2:=by omega
           have ca:=C.bel;go_wp2_with fail;exact aA (results_tmp results8 _ _ _) rfl ⟨rfl,ca⟩
