import Derived.Test.YtigiogjefnkpdaaGreatDoorKbn
set_option maxHeartbeats 4000000
set_option maxRecDepth 100000
open Go.Proofs.Tryz
namespace Go.Proofs.YtigiogjefnkpdaaGreatDoor.Bn
open RowKit Gn
theorem yi{n:Int}(h:¬(n <0∨1<n)):n=fe (eC n):=by
 have: n=0∨n=1:=by omega
 rcases this with rfl|rfl<;>rfl
theorem LX(g aq:Nat)(aI:bI)(b:aJ)(tm:Value)(d:Dd)(w:World)(h:dU w g aq aI b tm):Calls prog 41 #[.pointer (some ⟨g,0,none⟩),.int .i64 d.n] w fun e a=>∃p,e=.returned (.tuple #[Ba p,.int .i64 (dB b d true).2])∧∃lab',cC a g aq lab' (dB b d true).1 tm∧ir w aI a lab':=by
 by_cases q:d.n<0∨1<d.n
 ·have e:dB b d true=(b,6):=by unfold dB;rw[aB q]
  rw[e];exact(wT g aq aI b tm d.n w h.cj q).mono fun e a c=>⟨_,c⟩
 ·have i:=yi q
  cases f:b.dY (eC d.n)with
  |nil=>
   have e:dB b d true=(b,6):=by unfold dB;rw[ai q,f]
   rw[e,i];exact(uN g aq aI b tm (eC d.n) w h.cj f).mono fun e a c=>⟨_,c⟩
  |cons p r=>
   have e:dB b d true=(gone b (eC d.n),0):=by unfold dB;rw[ai q,f];rfl
   have hy:=sM g aq aI b tm (eC d.n) p r w h f;rw[←i]at hy;rw[e];exact hy.mono fun e a c=>⟨_,c⟩
theorem vs(g aq:Nat)(aI:bI)(b:aJ)(tm:Value)(n:Int)(w:World)(c:Calls prog 41 #[.pointer (some ⟨g,0,none⟩),.int .i64 n] w (tZ w g aq aI tm b ⟨Po.dA,0⟩ 6)):Calls prog 40 #[.pointer (some ⟨g,0,none⟩),.int .i64 n] w (l_ w g aq aI tm (b,6)):=by unfold tZ Ba Po.dA at c;go_enter func40,ntmps40;go_wp2_with(go_at_call 41;refine c.mono ?_;rintro e f ⟨rfl,a,i,d⟩);go_ret;exact⟨rfl,_,d.trans (aG (ar _ _)),fun h=>absurd h (by show¬((6:Int)=0);decide)⟩
theorem JE{K:Nat}(g aq:Nat)(aI:bI)(b:aJ)(tm:Value)(d:Dd)(w:World)(h:dU w g aq aI b tm)(I:Inv b)(B:ft K b)(f:K≤400):Calls prog 40 #[.pointer (some ⟨g,0,none⟩),.int .i64 d.n] w (l_ w g aq aI tm (dB b d false)):=by
 by_cases q:d.n<0∨1<d.n
 ·have e:dB b d false=(b,6):=by unfold dB;rw[aB q]
  rw[e];exact vs g aq aI b tm d.n w (wT g aq aI b tm d.n w h.cj q)
 ·have c:=yi q
  cases a:b.dY (eC d.n)with
  |nil=>
   have e:dB b d false=(b,6):=by unfold dB;rw[ai q,a]
   rw[e,c];exact vs g aq aI b tm _ w (uN g aq aI b tm (eC d.n) w h.cj a)|cons p r=>exact yK g aq aI b tm d (eC d.n) p r w h I B f c a
theorem LM(g aq:Nat)(aI:bI)(b:aJ)(tm:Value)(d:Dd)(w:World)(h:dU w g aq aI b tm)(I:Inv b)(O:ng w)(h0:aI 0=0):Calls prog 39 #[.pointer (some ⟨g,0,none⟩),.int .i64 d.n] w (l_ w g aq aI tm (lX b d)):=by
 by_cases q:d.n<0∨1<d.n
 ·have e:lX b d=(b,6):=by unfold lX;rw[aB q]
  rw[e];have a:=mE d.n w;rw[kV.2 (by omega)]at a;clear q I e;go_enter func39,ntmps39;go_wp2_with(go_at_call 71;refine a.mono ?_;rintro e f ⟨rfl,rfl⟩);go_ret;exact⟨rfl,_,ir.refl _ _,fun h=>absurd h (by show¬((6:Int)=0);decide)⟩
 ·have e:lX b d=(if 60<(bD b (eC d.n)).length then(b,5)else({b with dY:=eu b.dY (!eC d.n) (bD b (eC d.n))},0)):=by unfold lX;rw[ai q]
  rw[e,yi q];have c:eC (fe (eC d.n))=eC d.n:=by cases eC d.n<;>rfl
  rw[c];exact DZ g aq aI b tm (eC d.n) w h I.bD.jP (fun i=>(I.bD.right i).iv) O h0
def qg(a:An):Value:=.agg #[.int .i64 a.1,.int .i64 a.2]
def nh(a:An):Obj:=.cells #[.int .i64 a.1,.int .i64 a.2] 53
def mY(w:World)(g aq:Nat)(aI:bI)(tm:Value)(r:aJ×Int×Int)(e:Ending)(a:World):Prop:=e=.returned (qg r.2)∧∃lab',ir w aI a lab'∧(r.2.1=0→cC a g aq lab' r.1 tm)
structure yy(w0:World)(f_:bI)(w:World)(aI:bI)(g aq:Nat)(tm:Value)(r:aJ×Int×Int)(z:Nat):Prop where
 lM:ir w0 f_ w aI
 cj:r.2.1=0→cC w g aq aI r.1 tm
 ge:w0.heap.size≤z
 lb:aI z=9
 lt:z<w.heap.size
theorem yy.set{c:World}{f_:bI}{w:World}{aI:bI}{g aq:Nat}{tm:Value}{r:aJ×Int×Int}{z:Nat}(A:yy c f_ w aI g aq tm r z)(i:Nat)(x:Value):yy c f_ (w.setCell ⟨z,i,none⟩ x) (aT aI w.heap.size 9) g aq tm r z:=by
 have a:fh aI 9 w (w.setCell ⟨z,i,none⟩ x):=iH w ⟨z,i,none⟩ x A.lb (by decide);refine⟨⟨fun k b=>?_,a.os.trans A.lM.os,a.tape.trans A.lM.tape,a.output.trans A.lM.output,bE A.lM.size a.size,fun k b d=>?_⟩,fun h=>?_,A.ge,by rw[aV A.lt];exact A.lb,by simpa using A.lt⟩;·rw[aV (bp b A.lM.size)];exact A.lM.ext k b
 ·exact(aF _ _ _ _ (by have :=A.ge;dsimp only;omega)).trans (A.lM.block k b d)
 ·obtain⟨v,cs,e,H⟩:=A.cj h;exact(H.Jo a (by decide)).cj
theorem yy.at{a:World}{f_:bI}{w:World}{aI:bI}{g aq:Nat}{tm:Value}{r:aJ×Int×Int}{z z':Nat}(A:yy a f_ w aI g aq tm r z)(h1:a.heap.size≤z')(h2:aI z'=9)(b:z'<w.heap.size):yy a f_ w aI g aq tm r z':=⟨A.lM,A.cj,h1,h2,b⟩
theorem cG{w:World}{z:Nat}{a:An}(h:w.heap[z]?=some (nh a)):w.cell? ⟨z,0,none⟩=some (.int .i64 a.1)∧w.cell? ⟨z,1,none⟩=some (.int .i64 a.2)∧∀p,w.frozen? ⟨z,p,none⟩=false:=by
 unfold nh at h;refine⟨?_,?_,fun p=>?_⟩;·simp[World.cell?,h]
 ·simp[World.cell?,h]
 ·simp[World.frozen?,h]
structure J1(w:World)(l:bI)(z:Nat)(d:Dd)(a:An):Prop where
 d0:w.heap[z]?=some (dR d)r0:∃x,w.heap[z+1]?=some (nh x)a0:w.heap[z+2]?=some (nh a)l0:l z=9
 l1:l (z +1)=9
 l2:l (z+2)=9
theorem J1.on{w c:World}{l e:bI}{z:Nat}{d:Dd}{a:An}(h:J1 w l z d a)(b:ir w l c e):J1 c e z d a:=by obtain⟨x,j⟩:=h.r0;have i:=ae h.d0;have g:=ae j;have f:=ae h.a0;exact⟨(b.block _ i (Or.inr (by rw[h.l0];decide))).trans h.d0,⟨x,(b.block _ g (Or.inr (by rw[h.l1];decide))).trans j⟩,(b.block _ f (Or.inr (by rw[h.l2];decide))).trans h.a0,(b.ext _ i).trans h.l0,(b.ext _ g).trans h.l1,(b.ext _ f).trans h.l2⟩
theorem dU.Jo{w a:World}{g aq:Nat}{aI:bI}{b:aJ}{tm:Value}{j:Nat}(h:dU w g aq aI b tm)(c:fh aI j w a)(d:8<j):dU a g aq (aT aI w.heap.size j) b tm:=by obtain⟨v,cs,f,H,e⟩:=h;exact⟨v,cs,f,H.Jo c d,fun i=>(e i).move c (Or.inr (by have :=IG i;omega))⟩
structure lU(K:Nat)(b:aJ):Prop where
 inv:Inv b
 bound:ft K b
 iv:K≤400
 days:b.days.length≤1000000
theorem J9:∃d,prog.underlying 53=some d∧d.isRow=true:=⟨_,underlying53,rfl⟩
theorem Lb:(prog.info? 53).map (·.size)=some 2:=by kernel_rfl
theorem eD{w:World}{g:Nat}{a:An}(h:w.heap[g]?=some (nh a)):(loadVar 53 ⟨g,0,none⟩).run prog w=.ok (qg a) w:=by obtain⟨d,h1,h2⟩:=J9;exact run_loadVar_mid w g 0 53 [.int .i64 a.1,.int .i64 a.2] d (kW (cs:=#[.int .i64 a.1,.int .i64 a.2]) h (fun j v b=>by simpa using b)) h1 h2 Lb
theorem gL{w:World}{z:Nat}{x a:An}(h:w.heap[z]?=some (nh x)):((w.setCell ⟨z,0,none⟩ (.int .i64 a.1)).setCell ⟨z,1,none⟩ (.int .i64 a.2)).heap[z]?=some (nh a):=by unfold nh at h⊢;have h0:=aZ w z 0 _ _ (.int .i64 a.1) h;have h1:=aZ _ z 1 _ _ (.int .i64 a.2) h0;rw[h1];simp
theorem Ij{K:Nat}{b:aJ}(I:Inv b)(B:ft K b)(c:K≤400)(d:Dd):KC b d:=⟨I.held.bt.1,fun k a=>by have :=I.held.ax _ (ev zA a);exact⟨Au.dX.2 ⟨this.1,this.2.1⟩,this.2.2.1,this.2.2.2⟩,I.held.eZ,I.held.kF,fun k a=>by have:= Av I B c k a;omega,fun k a=>by have :=nH I B c k a;omega,by have:= I.held.iv;omega⟩
theorem iL(g aq:Nat)(aI:bI)(b:aJ)(tm:Value)(d:Dd)(w:World)(h:dU w g aq aI b tm)(O:ng w)(h0:aI 0=0):dU (((w.alloc (dR d)).alloc (.cells #[.int .i64 0,.int .i64 0] 53)).alloc (.cells #[.int .i64 0,.int .i64 0] 53)) g aq (aT aI w.heap.size 9) b tm∧ir w aI (((w.alloc (dR d)).alloc (.cells #[.int .i64 0,.int .i64 0] 53)).alloc (.cells #[.int .i64 0,.int .i64 0] 53)) (aT aI w.heap.size 9)∧J1 (((w.alloc (dR d)).alloc (.cells #[.int .i64 0,.int .i64 0] 53)).alloc (.cells #[.int .i64 0,.int .i64 0] 53)) (aT aI w.heap.size 9) w.heap.size d (0,0)∧ng (((w.alloc (dR d)).alloc (.cells #[.int .i64 0,.int .i64 0] 53)).alloc (.cells #[.int .i64 0,.int .i64 0] 53))∧aT aI w.heap.size 9 0=0:=by
 have l:=ar w (dR d);have i:=ar (w.alloc (dR d)) (.cells #[.int .i64 0,.int .i64 0] 53);have f:=ar ((w.alloc (dR d)).alloc (.cells #[.int .i64 0,.int .i64 0] 53)) (.cells #[.int .i64 0,.int .i64 0] 53);have e:=(l.trans (i.mono (by simp))).trans (f.mono (by simp;omega));have a:=cA (aI:=aI) (j:=9) e;refine⟨h.Jo a (by decide),⟨fun _ c=>aV c,a.os,a.tape,a.output,a.size,fun k c _=>e.block k c⟩,⟨?_,⟨(0,0),?_⟩,ah _ _ _ (by simp),bu (aj _),bu (by omega),bu (by omega)⟩,O.cB (e.block 0 O.lt),by rw[aV O.lt];exact h0⟩;·exact(f.block _ (by simp;omega)).trans ((i.block _ (by simp)).trans (ah _ _ _ rfl))
 ·exact(f.block _ (by simp)).trans (ah _ _ _ (by simp))
theorem Ms{K:Nat}(g aq:Nat)(aI:bI)(b:aJ)(tm:Value)(id n aQ mv sum:Int)(w:World)(h:dU w g aq aI b tm)(U:lU K b)(O:ng w)(h0:aI 0=0):Calls prog 22 #[.pointer (some ⟨g,0,none⟩),gn ⟨id,1,n,aQ,mv,sum⟩] w (mY w g aq aI tm (jA b ⟨id,1,n,aQ,mv,sum⟩)):=by obtain⟨I,B,hK,p⟩:=U;have C:=fun(X :World) (l:bI) (S:dU X g aq l b tm) (_ :ng X) (_:l 0=0)=>(LZ g aq l b tm ⟨id,1,n,aQ,mv,sum⟩ X S.cj I.held.eZ).mono fun e w' Q=>cT.vz Q (wo b ⟨id,1,n,aQ,mv,sum⟩);have x:Hid (jA b ⟨id,1,n,aQ,mv,sum⟩=two (nZ b ⟨id,1,n,aQ,mv,sum⟩)):=aW (by rfl);rw[x.out];unfold two;unfold l_ at C;generalize nZ b ⟨id,1,n,aQ,mv,sum⟩=R at*;clear x;clear I B;skip;obtain⟨t,r,f,s,h1⟩:=iL g aq aI b tm ⟨id,1,n,aQ,mv,sum⟩ w h O h0;obtain⟨d0,F,E,D,d4,A⟩:=bs f.d0;unfold dR at t r f s d0 F E D d4 A;dsimp only at t r f s d0 F E D d4 A;generalize T:((w.alloc (.cells #[.int .i64 id,.int .i64 1,.int .i64 n,.int .i64 aQ,.int .i64 mv,.int .i64 sum] 60)).alloc (.cells #[.int .i64 0,.int .i64 0] 53)).alloc (.cells #[.int .i64 0,.int .i64 0] 53)=W at*;clear h O;unfold gn;dsimp only;go_enter func22,ntmps22;go_wp2_with(go_at_call 35;refine(C _ _ t s h1).mono ?_;rintro e k ⟨rfl,P,i,y⟩;have V:yy w aI k P g aq tm (R.1,R.2,(0 :Int)) (w.heap.size +2):=⟨r.trans i,y,by omega,(f.on i).l2,ae (f.on i).a0⟩;have d:=f.on i;obtain⟨x5,c⟩:=d.r0;obtain⟨p0,p1,o⟩:=cG d.a0;have N:=o 0;have M:=o 1;obtain⟨r0,r1,m⟩:=cG c;have L:=m 0;have J:=m 1;have u:=ae c;have Z:=ae d.a0;have m1:=d.l1;have m2:=d.l2;clear o m d y i;replace c:=aW c);have H:=(V.set 0 (.int .i64 R.2));have G:=((H.at (z':=w.heap.size+1) (by omega) (by rw[aV u];exact m1) (by simp;exact u)).set 0 (.int .i64 R.2)).set 1 (.int .i64 0);have q:=gL (w:=(k.setCell ⟨w.heap.size+2,0,none⟩ (.int .i64 R.2))) (z:=w.heap.size+1) (a:=(R.2,0)) ((aF _ _ _ _ (by simp)).trans c.out);dsimp only at q;generalize((k.setCell _ _).setCell _ _).setCell _ _=Y at*;have j:=eD q;clear q H;exact aA (v:=qg (R.2,0)) (cu results22 rfl j) rfl ⟨rfl,_,G.lM,G.cj⟩
theorem MO{K:Nat}(g aq:Nat)(aI:bI)(b:aJ)(tm:Value)(id n aQ mv sum:Int)(w:World)(h:dU w g aq aI b tm)(T:lU K b)(O:ng w)(h0:aI 0=0):Calls prog 22 #[.pointer (some ⟨g,0,none⟩),gn ⟨id,2,n,aQ,mv,sum⟩] w (mY w g aq aI tm (jA b ⟨id,2,n,aQ,mv,sum⟩)):=by obtain⟨I,B,hK,q⟩:=T;have C:=fun(X:World) (l:bI) (Q:dU X g aq l b tm) (_:ng X) (_ :l 0=0)=>MK g aq l b tm ⟨id,2,n,aQ,mv,sum⟩ X Q.cj I;have x:Hid (jA b ⟨id,2,n,aQ,mv,sum⟩=lq b ⟨id,2,n,aQ,mv,sum⟩):=aW (by rfl);rw[x.out];unfold ma at C;generalize lq b ⟨id,2,n,aQ,mv,sum⟩=R at*;clear x;clear I B;unfold gn at C;obtain⟨u,s,f,t,h1⟩:=iL g aq aI b tm ⟨id,2,n,aQ,mv,sum⟩ w h O h0;obtain⟨d0,F,E,D,d4,A⟩:=bs f.d0;unfold dR at u s f t d0 F E D d4 A;dsimp only at u s f t d0 F E D d4 A;generalize S:((w.alloc (.cells #[.int .i64 id,.int .i64 2,.int .i64 n,.int .i64 aQ,.int .i64 mv,.int .i64 sum] 60)).alloc (.cells #[.int .i64 0,.int .i64 0] 53)).alloc (.cells #[.int .i64 0,.int .i64 0] 53)=W at*;clear h O;unfold gn;dsimp only;go_enter func22,ntmps22;go_wp2_with(go_at_call 36;refine(C _ _ u t h1).mono ?_;rintro e m ⟨rfl,P,y,i⟩;have U:yy w aI m P g aq tm R (w.heap.size+2):=⟨s.trans i,fun _=>y,by omega,(f.on i).l2,ae (f.on i).a0⟩;have d:=f.on i;obtain⟨Z,c⟩:=d.r0;obtain⟨p0,p1,p⟩:=cG d.a0;have N:=p 0;have M:=p 1;obtain⟨r0,r1,o⟩:=cG c;have L:=o 0;have J:=o 1;have k:=ae c;have V:=ae d.a0;have m1:=d.l1;have m2:=d.l2;clear p o d y i;replace c:=aW c);have H:=((U.set 1 (.int .i64 R.2.2)).set 0 (.int .i64 R.2.1));have G:=((H.at (z':=w.heap.size+1) (by omega) (by rw[aV (by simp;exact k),aV k];exact m1) (by simp;exact k)).set 0 (.int .i64 R.2.1)).set 1 (.int .i64 R.2.2);have r:=gL (w:=((m.setCell ⟨w.heap.size+2,1,none⟩ (.int .i64 R.2.2)).setCell ⟨w.heap.size+2,0,none⟩ (.int .i64 R.2.1))) (z:=w.heap.size+1) (a:=(R.2.1,R.2.2)) ((aF _ _ _ _ (by simp)).trans ((aF _ _ _ _ (by simp)).trans c.out));dsimp only at r;generalize(((m.setCell _ _).setCell _ _).setCell _ _).setCell _ _=Y at*;have j:=eD r;clear r H;exact aA (v:=qg (R.2.1,R.2.2)) (cu results22 rfl j) rfl ⟨rfl,_,G.lM,G.cj⟩
theorem Mz{K:Nat}(g aq:Nat)(aI:bI)(b:aJ)(tm:Value)(id n aQ mv sum:Int)(w:World)(h:dU w g aq aI b tm)(V:lU K b)(O:ng w)(h0:aI 0=0):Calls prog 22 #[.pointer (some ⟨g,0,none⟩),gn ⟨id,3,n,aQ,mv,sum⟩] w (mY w g aq aI tm (jA b ⟨id,3,n,aQ,mv,sum⟩)):=by obtain⟨I,B,x,p⟩:=V;have C:=fun(X :World) (l :bI) (T:dU X g aq l b tm) (_:ng X) (_ :l 0=0)=>(LA g aq l b tm ⟨id,3,n,aQ,mv,sum⟩ X T.cj (Ij I B x _)).mono fun e w' S=>cT.vz S (DP I B x);have y:Hid (jA b ⟨id,3,n,aQ,mv,sum⟩=two (mD b ⟨id,3,n,aQ,mv,sum⟩)):=aW (by rfl);rw[y.out];unfold two;unfold l_ at C;generalize mD b ⟨id,3,n,aQ,mv,sum⟩=R at*;clear y;clear I B;unfold gn at C;obtain⟨t,r,f,s,h1⟩:=iL g aq aI b tm ⟨id,3,n,aQ,mv,sum⟩ w h O h0;obtain⟨d0,G,F,E,d4,D⟩:=bs f.d0;unfold dR at t r f s d0 G F E d4 D;dsimp only at t r f s d0 G F E d4 D;generalize U:((w.alloc (.cells #[.int .i64 id,.int .i64 3,.int .i64 n,.int .i64 aQ,.int .i64 mv,.int .i64 sum] 60)).alloc (.cells #[.int .i64 0,.int .i64 0] 53)).alloc (.cells #[.int .i64 0,.int .i64 0] 53)=W at*;clear h O;unfold gn;dsimp only;go_enter func22,ntmps22;go_wp2_with(go_at_call 37;refine(C _ _ t s h1).mono ?_;rintro e k ⟨rfl,Q,i,A⟩;have Z:yy w aI k Q g aq tm (R.1,R.2,(0:Int)) (w.heap.size+2):=⟨r.trans i,A,by omega,(f.on i).l2,ae (f.on i).a0⟩;have d:=f.on i;obtain⟨x5,c⟩:=d.r0;obtain⟨p0,p1,o⟩:=cG d.a0;have P:=o 0;have N:=o 1;obtain⟨r0,r1,m⟩:=cG c;have M:=m 0;have L:=m 1;have u:=ae c;have z2:=ae d.a0;have m1:=d.l1;have m2:=d.l2;clear o m d A i;replace c:=aW c);have J:=(Z.set 0 (.int .i64 R.2));have H:=((J.at (z':=w.heap.size+1) (by omega) (by rw[aV u];exact m1) (by simp;exact u)).set 0 (.int .i64 R.2)).set 1 (.int .i64 0);have q:=gL (w:=(k.setCell ⟨w.heap.size+2,0,none⟩ (.int .i64 R.2))) (z:=w.heap.size+1) (a:=(R.2,0)) ((aF _ _ _ _ (by simp)).trans c.out);dsimp only at q;generalize((k.setCell _ _).setCell _ _).setCell _ _=Y at*;have j:=eD q;clear q J;exact aA (v:=qg (R.2,0)) (cu results22 rfl j) rfl ⟨rfl,_,H.lM,H.cj⟩
theorem MJ{K:Nat}(g aq:Nat)(aI:bI)(b:aJ)(tm:Value)(id n aQ mv sum:Int)(w:World)(h:dU w g aq aI b tm)(U:lU K b)(O:ng w)(h0:aI 0=0):Calls prog 22 #[.pointer (some ⟨g,0,none⟩),gn ⟨id,4,n,aQ,mv,sum⟩] w (mY w g aq aI tm (jA b ⟨id,4,n,aQ,mv,sum⟩)):=by obtain⟨I,B,hK,p⟩:=U;have C:=fun(X :World) (l:bI) (S :dU X g aq l b tm) (_:ng X) (_ :l 0=0)=>(LG g aq l b tm ⟨id,4,n,aQ,mv,sum⟩ X S.cj I).mono fun e w' Q=>cT.same Q;have x:Hid (jA b ⟨id,4,n,aQ,mv,sum⟩=two (iU b ⟨id,4,n,aQ,mv,sum⟩)):=aW (by rfl);rw[x.out];unfold two;unfold l_ at C;generalize iU b ⟨id,4,n,aQ,mv,sum⟩=R at*;clear x;clear I B;skip;obtain⟨t,r,f,s,h1⟩:=iL g aq aI b tm ⟨id,4,n,aQ,mv,sum⟩ w h O h0;obtain⟨d0,F,E,D,d4,A⟩:=bs f.d0;unfold dR at t r f s d0 F E D d4 A;dsimp only at t r f s d0 F E D d4 A;generalize T:((w.alloc (.cells #[.int .i64 id,.int .i64 4,.int .i64 n,.int .i64 aQ,.int .i64 mv,.int .i64 sum] 60)).alloc (.cells #[.int .i64 0,.int .i64 0] 53)).alloc (.cells #[.int .i64 0,.int .i64 0] 53)=W at*;clear h O;unfold gn;dsimp only;go_enter func22,ntmps22;go_wp2_with(go_at_call 38;refine(C _ _ t s h1).mono ?_;rintro e k ⟨rfl,P,i,y⟩;have V:yy w aI k P g aq tm (R.1,R.2,(0 :Int)) (w.heap.size +2):=⟨r.trans i,y,by omega,(f.on i).l2,ae (f.on i).a0⟩;have d:=f.on i;obtain⟨x5,c⟩:=d.r0;obtain⟨p0,p1,o⟩:=cG d.a0;have N:=o 0;have M:=o 1;obtain⟨r0,r1,m⟩:=cG c;have L:=m 0;have J:=m 1;have u:=ae c;have Z:=ae d.a0;have m1:=d.l1;have m2:=d.l2;clear o m d y i;replace c:=aW c);have H:=(V.set 0 (.int .i64 R.2));have G:=((H.at (z':=w.heap.size+1) (by omega) (by rw[aV u];exact m1) (by simp;exact u)).set 0 (.int .i64 R.2)).set 1 (.int .i64 0);have q:=gL (w:=(k.setCell ⟨w.heap.size+2,0,none⟩ (.int .i64 R.2))) (z:=w.heap.size+1) (a:=(R.2,0)) ((aF _ _ _ _ (by simp)).trans c.out);dsimp only at q;generalize((k.setCell _ _).setCell _ _).setCell _ _=Y at*;have j:=eD q;clear q H;exact aA (v:=qg (R.2,0)) (cu results22 rfl j) rfl ⟨rfl,_,G.lM,G.cj⟩
theorem My{K:Nat}(g aq:Nat)(aI:bI)(b:aJ)(tm:Value)(id n aQ mv sum:Int)(w:World)(h:dU w g aq aI b tm)(U:lU K b)(O:ng w)(h0:aI 0=0):Calls prog 22 #[.pointer (some ⟨g,0,none⟩),gn ⟨id,5,n,aQ,mv,sum⟩] w (mY w g aq aI tm (jA b ⟨id,5,n,aQ,mv,sum⟩)):=by obtain⟨I,B,hK,q⟩:=U;have C:=fun(X :World) (l:bI) (S :dU X g aq l b tm) (o:ng X) (h0 :l 0=0)=>LM g aq l b tm ⟨id,5,n,aQ,mv,sum⟩ X S I o h0;have y:Hid (jA b ⟨id,5,n,aQ,mv,sum⟩=two (lX b ⟨id,5,n,aQ,mv,sum⟩)):=aW (by rfl);rw[y.out];unfold two;unfold l_ at C;generalize lX b ⟨id,5,n,aQ,mv,sum⟩=R at*;clear y;clear I B;skip;obtain⟨u,s,f,t,h1⟩:=iL g aq aI b tm ⟨id,5,n,aQ,mv,sum⟩ w h O h0;obtain⟨d0,G,F,E,d4,D⟩:=bs f.d0;unfold dR at u s f t d0 G F E d4 D;dsimp only at u s f t d0 G F E d4 D;generalize T:((w.alloc (.cells #[.int .i64 id,.int .i64 5,.int .i64 n,.int .i64 aQ,.int .i64 mv,.int .i64 sum] 60)).alloc (.cells #[.int .i64 0,.int .i64 0] 53)).alloc (.cells #[.int .i64 0,.int .i64 0] 53)=W at*;clear h O;unfold gn;dsimp only;go_enter func22,ntmps22;go_wp2_with(go_at_call 39;refine(C _ _ u t h1).mono ?_;rintro e k ⟨rfl,Q,i,A⟩;have V:yy w aI k Q g aq tm (R.1,R.2,(0 :Int)) (w.heap.size +2):=⟨s.trans i,A,by omega,(f.on i).l2,ae (f.on i).a0⟩;have d:=f.on i;obtain⟨x5,c⟩:=d.r0;obtain⟨p0,p1,p⟩:=cG d.a0;have P:=p 0;have N:=p 1;obtain⟨r0,r1,m⟩:=cG c;have M:=m 0;have L:=m 1;have x:=ae c;have Z:=ae d.a0;have m1:=d.l1;have m2:=d.l2;clear p m d A i;replace c:=aW c);have J:=(V.set 0 (.int .i64 R.2));have H:=((J.at (z':=w.heap.size+1) (by omega) (by rw[aV x];exact m1) (by simp;exact x)).set 0 (.int .i64 R.2)).set 1 (.int .i64 0);have r:=gL (w:=(k.setCell ⟨w.heap.size+2,0,none⟩ (.int .i64 R.2))) (z:=w.heap.size+1) (a:=(R.2,0)) ((aF _ _ _ _ (by simp)).trans c.out);dsimp only at r;generalize((k.setCell _ _).setCell _ _).setCell _ _=Y at*;have j:=eD r;clear r J;exact aA (v:=qg (R.2,0)) (cu results22 rfl j) rfl ⟨rfl,_,H.lM,H.cj⟩
theorem MD{K:Nat}(g aq:Nat)(aI:bI)(b:aJ)(tm:Value)(id n aQ mv sum:Int)(w:World)(h:dU w g aq aI b tm)(U:lU K b)(O:ng w)(h0:aI 0=0):Calls prog 22 #[.pointer (some ⟨g,0,none⟩),gn ⟨id,6,n,aQ,mv,sum⟩] w (mY w g aq aI tm (jA b ⟨id,6,n,aQ,mv,sum⟩)):=by obtain⟨I,B,T,p⟩:=U;have C:=fun(X:World) (l :bI) (Q:dU X g aq l b tm) (_ :ng X) (_:l 0=0)=>JE g aq l b tm ⟨id,6,n,aQ,mv,sum⟩ X Q I B T;have x:Hid (jA b ⟨id,6,n,aQ,mv,sum⟩=two (dB b ⟨id,6,n,aQ,mv,sum⟩ false)):=aW (by rfl);rw[x.out];unfold two;unfold l_ at C;generalize dB b ⟨id,6,n,aQ,mv,sum⟩ false=R at*;clear x;clear I B;skip;obtain⟨t,r,f,s,h1⟩:=iL g aq aI b tm ⟨id,6,n,aQ,mv,sum⟩ w h O h0;obtain⟨d0,F,E,D,d4,A⟩:=bs f.d0;unfold dR at t r f s d0 F E D d4 A;dsimp only at t r f s d0 F E D d4 A;generalize S:((w.alloc (.cells #[.int .i64 id,.int .i64 6,.int .i64 n,.int .i64 aQ,.int .i64 mv,.int .i64 sum] 60)).alloc (.cells #[.int .i64 0,.int .i64 0] 53)).alloc (.cells #[.int .i64 0,.int .i64 0] 53)=W at*;clear h O;unfold gn;dsimp only;go_enter func22,ntmps22;go_wp2_with(go_at_call 40;refine(C _ _ t s h1).mono ?_;rintro e k ⟨rfl,P,i,y⟩;have V:yy w aI k P g aq tm (R.1,R.2,(0:Int)) (w.heap.size+2):=⟨r.trans i,y,by omega,(f.on i).l2,ae (f.on i).a0⟩;have d:=f.on i;obtain⟨x5,c⟩:=d.r0;obtain⟨p0,p1,o⟩:=cG d.a0;have N:=o 0;have M:=o 1;obtain⟨r0,r1,m⟩:=cG c;have L:=m 0;have J:=m 1;have u:=ae c;have Z:=ae d.a0;have m1:=d.l1;have m2:=d.l2;clear o m d y i;replace c:=aW c);have H:=(V.set 0 (.int .i64 R.2));have G:=((H.at (z':=w.heap.size+1) (by omega) (by rw[aV u];exact m1) (by simp;exact u)).set 0 (.int .i64 R.2)).set 1 (.int .i64 0);have q:=gL (w:=(k.setCell ⟨w.heap.size+2,0,none⟩ (.int .i64 R.2))) (z:=w.heap.size+1) (a:=(R.2,0)) ((aF _ _ _ _ (by simp)).trans c.out);dsimp only at q;generalize((k.setCell _ _).setCell _ _).setCell _ _=Y at*;have j:=eD q;clear q H;exact aA (v:=qg (R.2,0)) (cu results22 rfl j) rfl ⟨rfl,_,G.lM,G.cj⟩
theorem ME{K:Nat}(g aq:Nat)(aI:bI)(b:aJ)(tm:Value)(id n aQ mv sum:Int)(w:World)(h:dU w g aq aI b tm)(T:lU K b)(O:ng w)(h0:aI 0=0):Calls prog 22 #[.pointer (some ⟨g,0,none⟩),gn ⟨id,7,n,aQ,mv,sum⟩] w (mY w g aq aI tm (jA b ⟨id,7,n,aQ,mv,sum⟩)):=by obtain⟨I,B,hK,p⟩:=T;have C:=fun(X:World) (l :bI) (Q:dU X g aq l b tm) (_ :ng X) (_:l 0=0)=>LX g aq l b tm ⟨id,7,n,aQ,mv,sum⟩ X Q;have x:Hid (jA b ⟨id,7,n,aQ,mv,sum⟩=two (dB b ⟨id,7,n,aQ,mv,sum⟩ true)):=aW (by rfl);rw[x.out];unfold two;unfold Ba at C;generalize dB b ⟨id,7,n,aQ,mv,sum⟩ true=R at*;clear x;clear I B;skip;obtain⟨t,r,f,s,h1⟩:=iL g aq aI b tm ⟨id,7,n,aQ,mv,sum⟩ w h O h0;obtain⟨d0,F,E,D,d4,A⟩:=bs f.d0;unfold dR at t r f s d0 F E D d4 A;dsimp only at t r f s d0 F E D d4 A;generalize S:((w.alloc (.cells #[.int .i64 id,.int .i64 7,.int .i64 n,.int .i64 aQ,.int .i64 mv,.int .i64 sum] 60)).alloc (.cells #[.int .i64 0,.int .i64 0] 53)).alloc (.cells #[.int .i64 0,.int .i64 0] 53)=W at*;clear h O;unfold gn;dsimp only;go_enter func22,ntmps22;go_wp2_with(go_at_call 41;refine(C _ _ t s h1).mono ?_;rintro e k ⟨pk,rfl,P,y,i⟩;have U:yy w aI k P g aq tm (R.1,R.2,(0 :Int)) (w.heap.size +2):=⟨r.trans i,fun _=>y,by omega,(f.on i).l2,ae (f.on i).a0⟩;have d:=f.on i;obtain⟨Z,c⟩:=d.r0;obtain⟨p0,p1,o⟩:=cG d.a0;have N:=o 0;have M:=o 1;obtain⟨r0,r1,m⟩:=cG c;have L:=m 0;have J:=m 1;have u:=ae c;have V:=ae d.a0;have m1:=d.l1;have m2:=d.l2;clear o m d y i;replace c:=aW c);have H:=(U.set 0 (.int .i64 R.2));have G:=((H.at (z':=w.heap.size+1) (by omega) (by rw[aV u];exact m1) (by simp;exact u)).set 0 (.int .i64 R.2)).set 1 (.int .i64 0);have q:=gL (w:=(k.setCell ⟨w.heap.size+2,0,none⟩ (.int .i64 R.2))) (z:=w.heap.size+1) (a:=(R.2,0)) ((aF _ _ _ _ (by simp)).trans c.out);dsimp only at q;generalize((k.setCell _ _).setCell _ _).setCell _ _=Y at*;have j:=eD q;clear q H;exact aA (v:=qg (R.2,0)) (cu results22 rfl j) rfl ⟨rfl,_,G.lM,G.cj⟩
theorem Mo{K:Nat}(g aq:Nat)(aI:bI)(b:aJ)(tm:Value)(id n aQ mv sum:Int)(w:World)(h:dU w g aq aI b tm)(U:lU K b)(O:ng w)(h0:aI 0=0):Calls prog 22 #[.pointer (some ⟨g,0,none⟩),gn ⟨id,8,n,aQ,mv,sum⟩] w (mY w g aq aI tm (jA b ⟨id,8,n,aQ,mv,sum⟩)):=by obtain⟨I,B,hK,p⟩:=U;have C:=fun(X:World) (l :bI) (S :dU X g aq l b tm) (_:ng X) (_:l 0=0)=>(L7 g aq l b tm X S.cj).mono fun e w' Q=>cT.same Q;have x:Hid (jA b ⟨id,8,n,aQ,mv,sum⟩=two (jv b)):=aW (by rfl);rw[x.out];unfold two;unfold l_ at C;generalize jv b=R at*;clear x;clear I B;skip;obtain⟨t,r,f,s,h1⟩:=iL g aq aI b tm ⟨id,8,n,aQ,mv,sum⟩ w h O h0;obtain⟨d0,F,E,D,d4,A⟩:=bs f.d0;unfold dR at t r f s d0 F E D d4 A;dsimp only at t r f s d0 F E D d4 A;generalize T:((w.alloc (.cells #[.int .i64 id,.int .i64 8,.int .i64 n,.int .i64 aQ,.int .i64 mv,.int .i64 sum] 60)).alloc (.cells #[.int .i64 0,.int .i64 0] 53)).alloc (.cells #[.int .i64 0,.int .i64 0] 53)=W at*;clear h O;unfold gn;dsimp only;go_enter func22,ntmps22;go_wp2_with(go_at_call 42;refine(C _ _ t s h1).mono ?_;rintro e k ⟨rfl,P,i,y⟩;have V:yy w aI k P g aq tm (R.1,R.2,(0:Int)) (w.heap.size+2):=⟨r.trans i,y,by omega,(f.on i).l2,ae (f.on i).a0⟩;have d:=f.on i;obtain⟨x5,c⟩:=d.r0;obtain⟨p0,p1,o⟩:=cG d.a0;have N:=o 0;have M:=o 1;obtain⟨r0,r1,m⟩:=cG c;have L:=m 0;have J:=m 1;have u:=ae c;have Z:=ae d.a0;have m1:=d.l1;have m2:=d.l2;clear o m d y i;replace c:=aW c);have H:=(V.set 0 (.int .i64 R.2));have G:=((H.at (z':=w.heap.size+1) (by omega) (by rw[aV u];exact m1) (by simp;exact u)).set 0 (.int .i64 R.2)).set 1 (.int .i64 0);have q:=gL (w:=(k.setCell ⟨w.heap.size+2,0,none⟩ (.int .i64 R.2))) (z:=w.heap.size+1) (a:=(R.2,0)) ((aF _ _ _ _ (by simp)).trans c.out);dsimp only at q;generalize((k.setCell _ _).setCell _ _).setCell _ _=Y at*;have j:=eD q;clear q H;exact aA (v:=qg (R.2,0)) (cu results22 rfl j) rfl ⟨rfl,_,G.lM,G.cj⟩
theorem Mm{K:Nat}(g aq:Nat)(aI:bI)(b:aJ)(tm:Value)(id n aQ mv sum:Int)(w:World)(h:dU w g aq aI b tm)(U:lU K b)(O:ng w)(h0:aI 0=0):Calls prog 22 #[.pointer (some ⟨g,0,none⟩),gn ⟨id,9,n,aQ,mv,sum⟩] w (mY w g aq aI tm (jA b ⟨id,9,n,aQ,mv,sum⟩)):=by obtain⟨I,B,hK,p⟩:=U;have C:=fun(X:World) (l :bI) (S :dU X g aq l b tm) (_:ng X) (_:l 0=0)=>(MV g aq l b tm X S.cj I).mono fun e w' Q=>cT.same Q;have x:Hid (jA b ⟨id,9,n,aQ,mv,sum⟩=two (xU b)):=aW (by rfl);rw[x.out];unfold two;unfold l_ at C;generalize xU b=R at*;clear x;clear I B;skip;obtain⟨t,r,f,s,h1⟩:=iL g aq aI b tm ⟨id,9,n,aQ,mv,sum⟩ w h O h0;obtain⟨d0,F,E,D,d4,A⟩:=bs f.d0;unfold dR at t r f s d0 F E D d4 A;dsimp only at t r f s d0 F E D d4 A;generalize T:((w.alloc (.cells #[.int .i64 id,.int .i64 9,.int .i64 n,.int .i64 aQ,.int .i64 mv,.int .i64 sum] 60)).alloc (.cells #[.int .i64 0,.int .i64 0] 53)).alloc (.cells #[.int .i64 0,.int .i64 0] 53)=W at*;clear h O;unfold gn;dsimp only;go_enter func22,ntmps22;go_wp2_with(go_at_call 43;refine(C _ _ t s h1).mono ?_;rintro e k ⟨rfl,P,i,y⟩;have V:yy w aI k P g aq tm (R.1,R.2,(0:Int)) (w.heap.size+2):=⟨r.trans i,y,by omega,(f.on i).l2,ae (f.on i).a0⟩;have d:=f.on i;obtain⟨x5,c⟩:=d.r0;obtain⟨p0,p1,o⟩:=cG d.a0;have N:=o 0;have M:=o 1;obtain⟨r0,r1,m⟩:=cG c;have L:=m 0;have J:=m 1;have u:=ae c;have Z:=ae d.a0;have m1:=d.l1;have m2:=d.l2;clear o m d y i;replace c:=aW c);have H:=(V.set 0 (.int .i64 R.2));have G:=((H.at (z':=w.heap.size+1) (by omega) (by rw[aV u];exact m1) (by simp;exact u)).set 0 (.int .i64 R.2)).set 1 (.int .i64 0);have q:=gL (w:=(k.setCell ⟨w.heap.size+2,0,none⟩ (.int .i64 R.2))) (z:=w.heap.size+1) (a:=(R.2,0)) ((aF _ _ _ _ (by simp)).trans c.out);dsimp only at q;generalize((k.setCell _ _).setCell _ _).setCell _ _=Y at*;have j:=eD q;clear q H;exact aA (v:=qg (R.2,0)) (cu results22 rfl j) rfl ⟨rfl,_,G.lM,G.cj⟩
theorem Lw{K:Nat}(g aq:Nat)(aI:bI)(b:aJ)(tm:Value)(id n aQ mv sum:Int)(w:World)(h:dU w g aq aI b tm)(U:lU K b)(O:ng w)(h0:aI 0=0):Calls prog 22 #[.pointer (some ⟨g,0,none⟩),gn ⟨id,10,n,aQ,mv,sum⟩] w (mY w g aq aI tm (jA b ⟨id,10,n,aQ,mv,sum⟩)):=by obtain⟨I,B,hK,d⟩:=U;have C:=fun(X:World) (l :bI) (S:dU X g aq l b tm) (_ :ng X) (_ :l 0=0)=>(Mv g aq l b tm X S.cj I.held.bt d).mono fun e w' Q=>cT.same Q;have x:Hid (jA b ⟨id,10,n,aQ,mv,sum⟩=two (yt b)):=aW (by rfl);rw[x.out];unfold two;unfold l_ at C;generalize yt b=R at*;clear x;clear I B;skip;obtain⟨t,r,i,s,h1⟩:=iL g aq aI b tm ⟨id,10,n,aQ,mv,sum⟩ w h O h0;obtain⟨d0,F,E,D,d4,A⟩:=bs i.d0;unfold dR at t r i s d0 F E D d4 A;dsimp only at t r i s d0 F E D d4 A;generalize T:((w.alloc (.cells #[.int .i64 id,.int .i64 10,.int .i64 n,.int .i64 aQ,.int .i64 mv,.int .i64 sum] 60)).alloc (.cells #[.int .i64 0,.int .i64 0] 53)).alloc (.cells #[.int .i64 0,.int .i64 0] 53)=W at*;clear h O;unfold gn;dsimp only;go_enter func22,ntmps22;go_wp2_with(go_at_call 44;refine(C _ _ t s h1).mono ?_;rintro e m ⟨rfl,P,j,y⟩;have V:yy w aI m P g aq tm (R.1,R.2,(0 :Int)) (w.heap.size +2):=⟨r.trans j,y,by omega,(i.on j).l2,ae (i.on j).a0⟩;have f:=i.on j;obtain⟨x5,c⟩:=f.r0;obtain⟨p0,p1,p⟩:=cG f.a0;have N:=p 0;have M:=p 1;obtain⟨r0,r1,o⟩:=cG c;have L:=o 0;have J:=o 1;have u:=ae c;have Z:=ae f.a0;have m1:=f.l1;have m2:=f.l2;clear p o f y j;replace c:=aW c);have H:=(V.set 0 (.int .i64 R.2));have G:=((H.at (z':=w.heap.size+1) (by omega) (by rw[aV u];exact m1) (by simp;exact u)).set 0 (.int .i64 R.2)).set 1 (.int .i64 0);have q:=gL (w:=(m.setCell ⟨w.heap.size+2,0,none⟩ (.int .i64 R.2))) (z:=w.heap.size+1) (a:=(R.2,0)) ((aF _ _ _ _ (by simp)).trans c.out);dsimp only at q;generalize((m.setCell _ _).setCell _ _).setCell _ _=Y at*;have k:=eD q;clear q H;exact aA (v:=qg (R.2,0)) (cu results22 rfl k) rfl ⟨rfl,_,G.lM,G.cj⟩
theorem LL{K:Nat}(g aq:Nat)(aI:bI)(b:aJ)(tm:Value)(id n aQ mv sum:Int)(w:World)(h:dU w g aq aI b tm)(Rd:lU K b)(O:ng w)(h0:aI 0=0):Calls prog 22 #[.pointer (some ⟨g,0,none⟩),gn ⟨id,11,n,aQ,mv,sum⟩] w (mY w g aq aI tm (jA b ⟨id,11,n,aQ,mv,sum⟩)):=by obtain⟨I,B,Z,q⟩:=Rd;have C:=fun(X :World) (l :bI) (U:dU X g aq l b tm) (_:ng X) (_:l 0=0)=>(MC g aq l b tm ⟨id,11,n,aQ,mv,sum⟩ X U.cj I.held.kF (fun k S=>by have:= nH I B Z k S;omega)).mono fun e w' T=>cT.vz T (GY b ⟨id,11,n,aQ,mv,sum⟩);have y:Hid (jA b ⟨id,11,n,aQ,mv,sum⟩=two (sa b ⟨id,11,n,aQ,mv,sum⟩)):=aW (by rfl);rw[y.out];unfold two;unfold l_ at C;generalize sa b ⟨id,11,n,aQ,mv,sum⟩=R at*;clear y;clear I B;skip;obtain⟨u,s,f,t,h1⟩:=iL g aq aI b tm ⟨id,11,n,aQ,mv,sum⟩ w h O h0;obtain⟨d0,G,F,E,d4,D⟩:=bs f.d0;unfold dR at u s f t d0 G F E d4 D;dsimp only at u s f t d0 G F E d4 D;generalize V:((w.alloc (.cells #[.int .i64 id,.int .i64 11,.int .i64 n,.int .i64 aQ,.int .i64 mv,.int .i64 sum] 60)).alloc (.cells #[.int .i64 0,.int .i64 0] 53)).alloc (.cells #[.int .i64 0,.int .i64 0] 53)=W at*;clear h O;unfold gn;dsimp only;go_enter func22,ntmps22;go_wp2_with(go_at_call 45;refine(C _ _ u t h1).mono ?_;rintro e m ⟨rfl,Q,i,A⟩;have A5:yy w aI m Q g aq tm (R.1,R.2,(0:Int)) (w.heap.size +2):=⟨s.trans i,A,by omega,(f.on i).l2,ae (f.on i).a0⟩;have d:=f.on i;obtain⟨x5,c⟩:=d.r0;obtain⟨p0,p1,p⟩:=cG d.a0;have P:=p 0;have N:=p 1;obtain⟨r0,r1,o⟩:=cG c;have M:=o 0;have L:=o 1;have x:=ae c;have z2:=ae d.a0;have m1:=d.l1;have m2:=d.l2;clear p o d A i;replace c:=aW c);have J:=(A5.set 0 (.int .i64 R.2));have H:=((J.at (z':=w.heap.size+1) (by omega) (by rw[aV x];exact m1) (by simp;exact x)).set 0 (.int .i64 R.2)).set 1 (.int .i64 0);have r:=gL (w:=(m.setCell ⟨w.heap.size+2,0,none⟩ (.int .i64 R.2))) (z:=w.heap.size+1) (a:=(R.2,0)) ((aF _ _ _ _ (by simp)).trans c.out);dsimp only at r;generalize((m.setCell _ _).setCell _ _).setCell _ _=Y at*;have j:=eD r;clear r J;exact aA (v:=qg (R.2,0)) (cu results22 rfl j) rfl ⟨rfl,_,H.lM,H.cj⟩
theorem MF(g aq:Nat)(aI:bI)(b:aJ)(tm:Value)(id kind n aQ mv sum:Int)(w:World)(h:dU w g aq aI b tm)(O:ng w)(h0:aI 0=0)(C:kind<1∨11<kind):Calls prog 22 #[.pointer (some ⟨g,0,none⟩),gn ⟨id,kind,n,aQ,mv,sum⟩] w (mY w g aq aI tm (b,1,0)):=by
 obtain⟨f,k,d,-,-⟩:=iL g aq aI b tm ⟨id,kind,n,aQ,mv,sum⟩ w h O h0;obtain⟨d0,r,q,p,d4,o⟩:=bs d.d0;unfold dR at f k d d0 r q p d4 o;dsimp only at f k d d0 r q p d4 o;generalize D:((w.alloc (.cells #[.int .i64 id,.int .i64 kind,.int .i64 n,.int .i64 aQ,.int .i64 mv,.int .i64 sum] 60)).alloc (.cells #[.int .i64 0,.int .i64 0] 53)).alloc (.cells #[.int .i64 0,.int .i64 0] 53)=W at*;have E:yy w aI W (aT aI w.heap.size 9) g aq tm (b,(1 :Int),(0 :Int)) (w.heap.size+2):=⟨k,fun _=>f.cj,by omega,d.l2,ae d.a0⟩;obtain⟨F,c⟩:=d.r0;obtain⟨H,G,m⟩:=cG d.a0;have y:=m 0;obtain⟨r0,r1,i⟩:=cG c;have x:=i 0;have u:=i 1;have l:=ae c;have m1:=d.l1;have R:(kind ==1)=false:=by simp;omega
 have Q:(kind==2)=false:=by simp;omega
 have P:(kind ==3)=false:=by simp;omega
 have N:(kind ==4)=false:=by simp;omega
 have M:(kind==5)=false:=by simp;omega
 have L:(kind==6)=false:=by simp;omega
 have K:(kind ==7)=false:=by simp;omega
 have J:(kind ==8)=false:=by simp;omega
 have I:(kind ==9)=false:=by simp;omega
 have B:(kind ==10)=false:=by simp;omega
 have A:(kind ==11)=false:=by simp;omega
 clear m i h O C f;replace c:=aW c;unfold gn;dsimp only;go_enter func22,ntmps22;go_wp2_with fail;have t:=E.set 0 (.int .i64 1);have s:=((t.at (z':=w.heap.size+1) (by omega) (by rw[aV l];exact m1) (by simp;exact l)).set 0 (.int .i64 1)).set 1 (.int .i64 0);have j:=gL (w:=W.setCell ⟨w.heap.size+2,0,none⟩ (.int .i64 1)) (z:=w.heap.size+1) (a:=(1,0)) ((aF _ _ _ _ (by simp)).trans c.out);dsimp only at j;generalize((W.setCell _ _).setCell _ _).setCell _ _=Y at*;have e:=eD j;clear j t;exact aA (v:=qg (1,0)) (cu results22 rfl e) rfl ⟨rfl,_,s.lM,s.cj⟩
theorem M5{K:Nat}(g aq:Nat)(aI:bI)(b:aJ)(tm:Value)(d:Dd)(w:World)(h:dU w g aq aI b tm)(a:lU K b)(O:ng w)(h0:aI 0=0):Calls prog 22 #[.pointer (some ⟨g,0,none⟩),gn d] w (mY w g aq aI tm (jA b d)):=by
 obtain⟨id,kind,n,aQ,mv,sum⟩:=d;by_cases c:kind<1∨11<kind
 ·have e:jA b ⟨id,kind,n,aQ,mv,sum⟩=(b,1,0):=by unfold jA;dsimp only;rw[ai (by omega),ai (by omega),ai (by omega),ai (by omega),ai (by omega),ai (by omega),ai (by omega),ai (by omega),ai (by omega),ai (by omega),ai (by omega)]
  rw[e];exact MF g aq aI b tm id kind n aQ mv sum w h O h0 c
 ·have: kind=1∨kind=2∨kind=3∨kind=4∨kind=5∨kind=6∨kind=7∨kind=8∨kind=9∨kind=10∨kind=11:=by omega
  rcases this with rfl|rfl|rfl|rfl|rfl|rfl|rfl|rfl|rfl|rfl|rfl;·exact Ms g aq aI b tm id n aQ mv sum w h a O h0
  ·exact MO g aq aI b tm id n aQ mv sum w h a O h0
  ·exact Mz g aq aI b tm id n aQ mv sum w h a O h0
  ·exact MJ g aq aI b tm id n aQ mv sum w h a O h0
  ·exact My g aq aI b tm id n aQ mv sum w h a O h0
  ·exact MD g aq aI b tm id n aQ mv sum w h a O h0
  ·exact ME g aq aI b tm id n aQ mv sum w h a O h0
  ·exact Mo g aq aI b tm id n aQ mv sum w h a O h0
  ·exact Mm g aq aI b tm id n aQ mv sum w h a O h0
  ·exact Lw g aq aI b tm id n aQ mv sum w h a O h0
  ·exact LL g aq aI b tm id n aQ mv sum w h a O h0
open RowKit Gn Maps
theorem L8:Keyed prog 3:=int_keyed underlying3
theorem KR(w:World):(zeroValue 53).run prog w=.ok (qg (0,0)) w:=by kernel_rfl
def LS(v:Value):Option (DataW Unit×List MemPlace):=match v with
 |.agg ⟨[.int .i64 a,.int .i64 b]⟩=>some (.agg [.lit (.int .i64 a),.lit (.int .i64 b)],[])|_=>none
theorem Iu(a:An):LS (qg a)=some (.agg [.lit (.int .i64 a.1),.lit (.int .i64 a.2)],[]):=rfl
theorem ys{v:Value}{a:An}{ps:List MemPlace}(h:LS v=some (.agg [.lit (.int .i64 a.1),.lit (.int .i64 a.2)],ps)):v=qg a:=by
 unfold LS at h;split at h;·rename_i x y;simp only[cS,Prod.mk.injEq,DataW.agg.injEq,List.cons.injEq,DataW.lit.injEq,Lit.int.injEq,true_and,and_true]at h;obtain⟨⟨h1,h2⟩,-⟩:=h;subst h1 h2;rfl
 ·cases h
abbrev tq(w:World)(m n:Nat)(D:DataW Unit):Prop:=w.ownsMap prog 3 LS m n D
structure I9(T:List (Dd ×An))(D:DataW Unit):Prop where
 is:IsMap D
 has:∀id:Int,id≠0→Maps.has D (.int .i64 id)=(told id T).isSome
 zero:Maps.has D (.int .i64 0)=false
 at':∀(id:Int) (a:An),id≠0→told id T=some a→∀z,D.atKey (.int .i64 id) z=.agg [.lit (.int .i64 a.1),.lit (.int .i64 a.2)]
theorem J7:I9 [] (.map []):=⟨isMap_empty,fun _ _=>rfl,rfl,fun _ _ _ h=>by cases h⟩
theorem I9.more{T:List (Dd ×An)}{D:DataW Unit}(h:I9 T D)(d:Dd)(a:An)(b:d.id=0∨told d.id T≠none):I9 (T++[(d,a)]) D:=by
 have key:∀id:Int,id≠0→told id (T++[(d,a)])=told id T:=fun id h0=>by
  rw[tx]
  cases e:told id T with
  |some x=>rfl
  |none=>
   show(if d.id=id then some a else none)=none;rw[ai];rintro rfl;rcases b with b|b;·exact h0 b
   ·exact b e
 exact⟨h.is,fun id h0=>by rw[key id h0];exact h.has id h0,h.zero,fun id x h0 c=>h.at' id x h0 (by rw[←key id h0];exact c)⟩
theorem Dj(id:Int):WideAt.IsKeyLit (.int .i64 id):=by trivial
theorem I9.put{T:List (Dd ×An)}{D:DataW Unit}(h:I9 T D)(d:Dd)(a:An)(h0:d.id≠0)(f:told d.id T=none):I9 (T ++[(d,a)]) (D.put (.int .i64 d.id) (.agg [.lit (.int .i64 a.1),.lit (.int .i64 a.2)])):=by
 have ne:∀id:Int,id≠d.id→(Lit.int .i64 id)≠.int .i64 d.id:=fun id c e=>by injection e with _ e;exact c e
 have key:∀id:Int,told id (T++[(d,a)])=if id=d.id then some a else told id T:=fun id=>by
  rw[tx];by_cases e:id=d.id;·subst e;rw[f,aB rfl];show(if d.id=d.id then some a else none)=some a;rw[aB rfl]
  ·rw[ai e]
   cases g:told id T with
   |some x=>rfl
   |none=>show(if d.id=id then some a else none)=none;rw[ai (fun q=>e q.symm)]
 refine⟨h.is.put _ _,fun id c=>?_,?_,fun id x c b z=>?_⟩
 ·rw[key id];by_cases e:id=d.id;·subst e;rw[aB rfl,has_put_same h.is (Dj _)];rfl
  ·rw[ai e,has_put_other (ne id e)];exact h.has id c
 ·rw[has_put_other (ne 0 (fun q=>h0 q.symm))];exact h.zero
 ·rw[key id]at b;by_cases e:id=d.id;·subst e;rw[aB rfl]at b;cases b;rw[atKey_put_same h.is (Dj _)]
  ·rw[ai e]at b;rw[atKey_put_other (ne id e)];exact h.at' id x c b z
def heard(T:List (Dd×An))(id:Int):Option An:=if id=0 then none else told id T
theorem vX{X:World}{m n:Nat}{D:DataW Unit}{T:List (Dd×An)}(O:tq X m n D)(t:I9 T D){id:Int}(h1:-9223372036854775808≤id)(h2:id≤9223372036854775807):(Instr.lookup 56 (.map (some m)) (.int .i64 id) true).run prog X=.ok (.tuple #[qg ((heard T id).getD (0,0)),.bool (heard T id).isSome]) X:=by
 obtain⟨v,ps,b,c⟩:=O.look_ok (t:=56) L8 underlying56 (KR X) (Iu (0,0)) (keyOf_int_mk underlying3 (WalkArith.wf_i64 (n:=id) ⟨h1,h2⟩));rw[b];unfold heard;by_cases h0:id=0;·subst h0;rw[t.zero]at b⊢;rw[atKey_of_not_has t.zero]at c;have :=ys (a:=(0,0)) c;subst this;rfl
 ·rw[ai h0,t.has id h0]
  cases d:told id T with
  |none=>
   have e:Maps.has D (.int .i64 id)=false:=by rw[t.has id h0,d];rfl
   rw[atKey_of_not_has e]at c;have :=ys (a:=(0,0)) c;subst this;rfl
  |some a=>rw[t.at' id a h0 d]at c;have:= ys c;subst this;rfl
theorem zh{X:World}{m n:Nat}{D:DataW Unit}(O:tq X m n D)(g:n≤1000000){id:Int}(h1:-9223372036854775808≤id)(h2:id≤9223372036854775807)(a:An):∃b,(Instr.mapUpdate 56 (.map (some m)) (.int .i64 id) (qg a)).run prog X=.ok () b∧tq b m (n+1) (D.put (.int .i64 id) (.agg [.lit (.int .i64 a.1),.lit (.int .i64 a.2)]))∧X.grownBy b (some m)∧b.heap.size=X.heap.size:=by obtain⟨b,r1,r2,e⟩:=O.store (t:=56) L8 underlying56 (by unfold maxLen;omega) (keyOf_int_mk underlying3 (WalkArith.wf_i64 (n:=id) ⟨h1,h2⟩)) (Iu a);refine⟨b,r1,r2,e.grown,?_⟩;obtain⟨h,d,f,c,-,rfl⟩:=e;simp[Go.ChangeMaps.setBlock]
open RowKit Gn Maps
structure g_(w:World)(g m:Nat)(aI:bI)(b:aJ)(T:List (Dd×An))(v:Vs)(cs:List CV)(ds:List DV)(n:Nat)(D:DataW Unit):Prop where
 shown:Shown w aI b v cs ds
 bR:w.heap[g]?=some (jZ b v (.map (some m)))lg:aI g=9
 owns:tq w m n D
 iv:n≤T.length
 Ga:I9 T D
 lm:aI m=10
 qE:∀k,aI k=0∨8<aI k
 yO:ng w
 l0:aI 0=0
theorem g_.gm{w:World}{g m:Nat}{aI:bI}{b:aJ}{T:List (Dd×An)}{v:Vs}{cs:List CV}{a:List DV}{n:Nat}{D:DataW Unit}(K:g_ w g m aI b T v cs a n D):g≠m:=fun h=>by have h1:=K.lg;have h2:=K.lm;rw[h]at h1;omega
theorem mP{w b:World}{m n:Nat}{D:DataW Unit}(h:tq w m n D)(c:b.heap[m]?=w.heap[m]?):tq b m n D:=by obtain⟨e,a,d,r⟩:=h;exact⟨e,a,c.trans d,r⟩
theorem g_.below{w d:World}{g m:Nat}{aI:bI}{b:aJ}{T:List (Dd ×An)}{v:Vs}{cs:List CV}{i:List DV}{n:Nat}{D:DataW Unit}(K:g_ w g m aI b T v cs i n D)(c:Below w.heap.size w d){j:Nat}(l:j=0∨10<j):g_ d g m (aT aI w.heap.size j) b T v cs i n D:=by
 have f:=ae K.bR;have e:=K.owns.lt;have h:=K.yO.lt;refine⟨K.shown.go c.size (fun k a=>aV a) fun k a _=>c.block k a,(c.block _ f).trans K.bR,by rw[aV f];exact K.lg,mP K.owns (c.block _ e),K.iv,K.Ga,by rw[aV e];exact K.lm,fun k=>?_,K.yO.cB (c.block 0 h),by rw[aV h];exact K.l0⟩;by_cases a:k<w.heap.size;·rw[aV a];exact K.qE k
 ·rw[bu (by omega)];omega
theorem g_.drew{w:World}{g m:Nat}{aI:bI}{b:aJ}{T:List (Dd ×An)}{v:Vs}{cs:List CV}{a:List DV}{n:Nat}{D:DataW Unit}(K:g_ w g m aI b T v cs a n D):g_ w.drew g m aI b T v cs a n D:=⟨K.shown.go (aj _) (fun _ _=>rfl) (fun _ _ _=>rfl),K.bR,K.lg,K.owns.drew,K.iv,K.Ga,K.lm,K.qE,K.yO.cB rfl,K.l0⟩
theorem lS{α:Type}{K:Kind α}{aI lab':bI}{w:World}{v:Value}{L:List α}(h:Ap K aI w v L 0)(e:∀k,aI k=0→lab' k=0):Ap K lab' w v L 0:=by obtain⟨a,cap,c,b,f⟩:=h;exact⟨a,cap,c,b,fun ad g d=>e _ (f ad g d)⟩
theorem Shown.aI{w:World}{aI lab':bI}{b:aJ}{v:Vs}{cs:List CV}{d:List DV}(h:Shown w aI b v cs d)(a:∀k,aI k=0→lab' k=0):Shown w lab' b v cs d:=⟨lS h.aL a,h.ov,fun x c=>lS (h.cP x c) a,lS h.due a,lS h.ax a,fun i=>lS (h.bj i) a,fun i=>lS (h.ways i) a,lS h.used a,lS h.bL a,lS h.bt a,lS h.days a,h.ox,fun x c=>lS (h.files x c) a,lS h.bM a⟩
theorem g_.put{w:World}{g m:Nat}{aI:bI}{b b':aJ}{T:List (Dd×An)}{v v':Vs}{cs cs':List CV}{h a:List DV}{n:Nat}{D:DataW Unit}(K:g_ w g m aI b T v cs h n D)(S:Shown w aI b' v' cs' a):g_ (cY w g 0 (bo b' v').toList) g m aI b' T v' cs' a n D:=by have d:(cY w g 0 (bo b' v').toList).heap.size=w.heap.size:=m_ _ _ _ _;have c:∀k,k≠g→(cY w g 0 (bo b' v').toList).heap[k]?=w.heap[k]?:=fun k f=>cE _ _ _ _ _ f;refine⟨S.go (by rw[d];exact aj _) (fun _ _=>rfl) fun k _ h0=>c k (fun e=>by rw[e,K.lg]at h0;cases h0),JV K.bR,K.lg,mP K.owns (c m (fun e=>K.gm e.symm)),K.iv,K.Ga,K.lm,K.qE,K.yO.cB (c 0 (fun e=>by have h1:=K.l0;have h2:=K.lg;rw[←e]at h2;omega)),K.l0⟩
theorem g_.tell{w a:World}{g m:Nat}{aI:bI}{b:aJ}{T f:List (Dd ×An)}{v:Vs}{cs:List CV}{j:List DV}{n:Nat}{D h:DataW Unit}(K:g_ w g m aI b T v cs j n D)(i:w.grownBy a (some m))(O:tq a m (n +1) h)(t:I9 f h)(p:f.length=T.length+1):g_ a g m aI b f v cs j (n+1) h:=by have c:∀k,k<w.heap.size→k≠m→a.heap[k]?=w.heap[k]?:=fun k d o=>i.block k d (fun e=>o (by injection e));have l:=ae K.bR;refine⟨K.shown.go i.size (fun _ _=>rfl) fun k d h0=>c k d (fun e=>by rw[e,K.lm]at h0;cases h0),(c g l K.gm).trans K.bR,K.lg,O,by have:= K.iv;omega,t,K.lm,K.qE,K.yO.cB (c 0 K.yO.lt (fun e=>by have h1:=K.l0;have h2:=K.lm;rw[←e]at h2;omega)),K.l0⟩
theorem g_.log{w:World}{g m:Nat}{aI:bI}{b:aJ}{T:List (Dd ×An)}{v:Vs}{cs:List CV}{c:List DV}{n:Nat}{D:DataW Unit}(K:g_ w g m aI b T v cs c n D)(d:Dd)(a:An)(e:d.id=0∨told d.id T≠none):g_ w g m aI b (T++[(d,a)]) v cs c n D:=⟨K.shown,K.bR,K.lg,K.owns,by have:= K.iv;simp;omega,K.Ga.more d a e,K.lm,K.qE,K.yO,K.l0⟩
theorem g_.box{w:World}{g m:Nat}{aI:bI}{b:aJ}{T:List (Dd ×An)}{v:Vs}{cs:List CV}{d:List DV}{n:Nat}{D:DataW Unit}(K:g_ w g m aI b T v cs d n D){z:Nat}(f:10<aI z)(i:Nat)(x:Value):g_ (w.setCell ⟨z,i,none⟩ x) g m aI b T v cs d n D:=by
 have a:∀k,k≠z→(w.setCell ⟨z,i,none⟩ x).heap[k]?=w.heap[k]?:=fun k c=>aF _ _ _ _ c;have n0:∀k,aI k≤10→k≠z:=fun k c e=>by rw[e]at c;omega
 refine⟨K.shown.go (by simp) (fun _ _=>rfl) fun k _ h0=>a k (n0 k (by omega)),(a g (n0 g (by rw[K.lg];decide))).trans K.bR,K.lg,mP K.owns (a m (n0 m (by rw[K.lm];decide))),K.iv,K.Ga,K.lm,K.qE,K.yO.cB (a 0 (n0 0 (by rw[K.l0];decide))),K.l0⟩
theorem g_.done{w a:World}{g m:Nat}{aI:bI}{b:aJ}{T:List (Dd×An)}{v:Vs}{cs:List CV}{d:List DV}{n:Nat}{D:DataW Unit}(K:g_ w g m (aT aI a.heap.size 11) b T v cs d n D)(h:g<a.heap.size)(e:m<a.heap.size)(f:∀k,aI k=0∨8<aI k)(h0:0<a.heap.size):g_ w g m (aT aI a.heap.size 0) b T v cs d n D:=by
 refine⟨K.shown.aI fun k c=>?_,K.bR,by have :=K.lg;rw[aV h]at this⊢;exact this,K.owns,K.iv,K.Ga,by have:= K.lm;rw[aV e]at this⊢;exact this,fun k=>?_,K.yO,by have:= K.l0;rw[aV h0]at this⊢;exact this⟩
 ·by_cases q:k<a.heap.size;·rw[aV q]at c⊢;exact c
  ·exact bu (by omega)
 ·by_cases q:k<a.heap.size;·rw[aV q];exact f k
  ·rw[bu (by omega)];exact Or.inl rfl
structure Fm(w w':World)(g m:Nat):Prop where
 os:w'.os=w.os
 tape:w'.tape=w.tape
 output:w'.output=w.output
 size:w.heap.size≤w'.heap.size
 block:∀k,k<w.heap.size→k≠g→k≠m→w'.heap[k]?=w.heap[k]?
theorem I4{w a:World}(h:Below w.heap.size w a)(g m:Nat):Fm w a g m:=⟨h.os,h.tape,h.output,h.size,fun k b _ _=>h.block k b⟩
theorem Fm.below{w d w2:World}{g m:Nat}(h:Fm w d g m)(b:Below w.heap.size d w2):Fm w w2 g m:=⟨b.os.trans h.os,b.tape.trans h.tape,b.output.trans h.output,bE h.size b.size,fun k e a c=>(b.block k e).trans (h.block k e a c)⟩
theorem Fm.put{w b:World}{g m:Nat}(h:Fm w b g m)(l:List Value):Fm w (cY b g 0 l) g m:=have d:=cW (Below.refl 0 b) g 0 l (bq _)
 ⟨d.os.trans h.os,d.tape.trans h.tape,d.output.trans h.output,by rw[m_];exact h.size,fun k e a c=>(cE _ _ _ _ _ a).trans (h.block k e a c)⟩
theorem Fm.map{w d w2:World}{g m:Nat}(h:Fm w d g m)(b:d.grownBy w2 (some m)):Fm w w2 g m:=⟨b.os.trans h.os,b.tape.trans h.tape,b.output.trans h.output,bE h.size b.size,fun k f a c=>(b.block k (bp f h.size) (fun e=>c (by injection e))).trans (h.block k f a c)⟩
theorem Fm.Kb{w b:World}{g m:Nat}{aI:bI}(h:Fm w b g m)(f:aI g=9)(d:aI m=10):yx w aI b (Bn.aT aI w.heap.size 0):=⟨fun _ a=>aV a,h.os,h.tape,h.output,h.size,fun k a c=>h.block k a (fun e=>by rw[e,f]at c;omega) (fun e=>by rw[e,d]at c;omega)⟩
theorem g_.aT{w:World}{g m:Nat}{aI lab':bI}{b:aJ}{T:List (Dd×An)}{v:Vs}{cs:List CV}{c:List DV}{n:Nat}{D:DataW Unit}(K:g_ w g m aI b T v cs c n D)(a:∀k,aI k=0→lab' k=0)(e:lab' g=9)(d:lab' m=10)(f:∀k,lab' k=0∨8<lab' k):g_ w g m lab' b T v cs c n D:=⟨K.shown.aI a,K.bR,e,K.owns,K.iv,K.Ga,d,f,K.yO,a 0 K.l0⟩
theorem J8(b:aJ)(v:Vs):prog.built 58 [(0,.agg (bo b v))]=some (dc b v (.map none)):=by kernel_rfl
theorem Ko:(prog.info? 58).map (·.size)=some 20:=by kernel_rfl
theorem Mp{b:aJ}{v:Vs}(h:(bo b v).all (·.oneCell')=true):(dc b v (.map none)).all (·.oneCell')=true:=by have e:(dc b v (.map none)).toList=(bo b v).toList++[.map none]:=rfl;rw[←q_,e,List.all_append];rw[←q_]at h;rw[h];rfl
theorem IX{b:aJ}{cs:List CV}{a:List DV}(I:Inv b)(e:cs.map CV.c=b.aL)(d:a.map DV.l=b.days)(hy:b.days.length≤1000000):Mf b cs a:=by
 have h1:cs.length=b.aL.length:=by rw[←e];simp
 have h2:a.length=b.days.length:=by rw[←d];simp
 have c8:=I.held.eZ;have d8:=I.held.kF;have f:=I.held.iv;have td:=I.held.bt.1;exact⟨by omega,by omega,by omega,fun i=>by have :=I.bD.jP i;omega,by omega,by omega⟩
theorem uY{w:World}{ops:Array Oper}{rest:List Oper}{o:Oper}{a:Act}{Q:Exit→Act→World→Prop}(f:o.guard=none)(x:Operand)(d:o.op=.build 58 #[(0,x)])(b:aJ)(v:Vs)(c:a.eval x=.agg (bo b v))(h:wpList prog ops Q rest (a.put o.dst (.agg (dc b v (.map none)))) w):wpList prog ops Q (o ::rest) a w:=by
 have e:(prog.built 58 ((#[(0,x)]:Array (Nat ×Operand)).map fun(i,x)=>(i,a.eval x)).toList)=some (dc b v (.map none)):=by
  have: ((#[(0,x)]:Array (Nat ×Operand)).map fun(i,x)=>(i,a.eval x)).toList=[(0,.agg (bo b v))]:=by simp[c]
  rw[this];exact J8 b v
 refine wpList_build f 58 #[(0,x)] d (by rw[e];rfl) ?_;rw[e];exact h
theorem FZ(w:World)(cs:Array Value)(a:cs.size=20)(b:aJ)(v:Vs):(w.alloc (.cells cs 58)).there w.heap.size 0 (dc b v (.map none)).size:=lr (ah _ _ _ rfl) (by rw[a];exact aj 20)
theorem Ju{w:World}{b:aJ}{v:Vs}{cs:Array Value}(a:cs.size=20):((w.alloc (.cells cs 58)).setCells w.heap.size 0 (dc b v (.map none)).toList).heap[w.heap.size]?=some (jZ b v (.map none)):=by rw[cK];have:= iy (dc b v (.map none)).toList (w.alloc (.cells cs 58)) w.heap.size [] cs.toList [] 58 (by simp[a];rfl) (by rw[ah _ _ _ rfl];simp);refine Eq.trans this ?_;unfold jZ;simp[KQ]
theorem FV{w:World}(o:Obj)(l:List Value):Below w.heap.size w ((w.alloc o).setCells w.heap.size 0 l):=by rw[cK];exact cW (ar w o) w.heap.size 0 l (aj _)
theorem GW{c e:World}{a:bI}{aq:Nat}{b:aJ}{v:Vs}{cs:List CV}{g:List DV}(M:Mem c a aq b v cs g)(j:∀i,Tp kP 84 a aq c (v.wy i) (b.dY i) (wl i))(h:Below c.heap.size c e)(d:e.heap[c.heap.size]?=some (jZ b v (.map none))):dU e c.heap.size aq (aT a c.heap.size 1) b (.map none):=by have f:fh a 1 c e:=cA h;exact⟨v,cs,g,⟨M.on f (Or.inr rfl),d,bu (aj _)⟩,fun i=>(j i).move f (Or.inr (by cases i<;>decide))⟩
open RowKit Gn Maps
theorem AH{W:World}{m n:Nat}{D:DataW Unit}{T:List (Dd ×An)}(O:tq W m n D)(t:I9 T D){id:Int}(h1:-9223372036854775808≤id)(h2:id≤9223372036854775807):(Instr.lookup 56 (.map (some m)) (.int .i64 id) true).run prog W.drew=.ok (.tuple #[qg ((heard T id).getD (0,0)),.bool (heard T id).isSome]) W.drew∧∀o,(Instr.lookup 56 (.map (some m)) (.int .i64 id) true).run prog (W.alloc o).drew=.ok (.tuple #[qg ((heard T id).getD (0,0)),.bool (heard T id).isSome]) (W.alloc o).drew:=⟨vX O.drew t h1 h2,fun o=>vX (O.alloc o).drew t h1 h2⟩
def Du(w:World)(g m:Nat)(aI:bI)(b':aJ)(f:List (Dd ×An))(a:An)(e:Ending)(c:World):Prop:=e=.returned (qg a)∧∃lab' v' cs' b d h,g_ c g m lab' b' f v' cs' b d h∧yx w aI c lab'
theorem Fs(g m:Nat)(aI:bI)(b:aJ)(T:List (Dd×An))(v:Vs)(cs:List CV)(ds:List DV)(n:Nat)(D:DataW Unit)(d:Dd)(a:An)(w:World)(K:g_ w g m aI b T v cs ds n D)(h1:-9223372036854775808≤d.id)(h2:d.id≤9223372036854775807)(B:heard T d.id=some a):Calls prog 10 #[.pointer (some ⟨g,0,none⟩),gn d] w (Du w g m aI b (T++[(d,a)]) a):=by
 have J:=ar w (dR d);have I:=ar (w.alloc (dR d)) (nh (0,0));have H:=ar ((w.alloc (dR d)).alloc (nh (0,0))) (nh a);have f:=J.trans (I.mono (by simp));have s:=f.trans (H.mono (by simp;omega));have E:=K.below f (j:=11) (Or.inr (by decide));have R:=K.below s (j:=11) (Or.inr (by decide));have o:((w.alloc (dR d)).alloc (nh (0,0))).heap[w.heap.size]?=some (dR d):=(I.block _ (by simp)).trans (ah _ _ _ rfl);have c:(((w.alloc (dR d)).alloc (nh (0,0))).alloc (nh a)).heap[w.heap.size+1]?=some (nh (0,0)):=(H.block _ (by simp)).trans (ah _ _ _ (by simp));have e:(((w.alloc (dR d)).alloc (nh (0,0))).alloc (nh a)).heap[w.heap.size+2]?=some (nh a):=ah _ _ _ (by simp);have y:=AH E.owns E.Ga h1 h2;rw[B]at y;obtain⟨k,i⟩:=y;simp only[Option.getD_some,Option.isSome_some]at k i
 have z:d.id=0∨told d.id T≠none:=by
  unfold heard at B;by_cases q:d.id=0;·exact Or.inl q
  ·rw[ai q]at B;rw[B];exact Or.inr (by simp)
 have X:=ae K.bR;have V:=K.owns.lt;have k0:=K.yO.lt;have r:=K.qE;obtain⟨d0,O,N,M,d4,L⟩:=bs o;obtain⟨-,-,-,-,-,-,-,-,-,-,-,-,-,-,-,-,-,-,-,P⟩:=aU E.bR;have h:=R.log d a z;have l:((w.alloc (dR d)).alloc (nh (0,0))).heap.size=w.heap.size+2:=by simp
 have gl:=ae E.bR;clear J I H f E R K B z;unfold qg at k i;obtain⟨W,C⟩:∃W,(w.alloc (dR d)).alloc (nh (0,0))=W:=⟨_,rfl⟩;rw[C]at d0 O N M d4 L P k i c e h s o l gl;unfold dR nh at C;have zl:=ae o;replace l:=aW l;unfold gn;unfold nh at e h s c;dsimp only at C e h s c;go_enter func10,ntmps10;go_upto_region 1 with fail;try rw[C]
 clear C o;go_region;have Q:=h.drew;have A:=s.drew;rw[←eH]at e c;rw[←l.out]at e;generalize(W.alloc _).drew=Y at*;clear h s k i P d0 O N M d4 L;obtain⟨y0,y1,-⟩:=cG (a:=a) e;obtain⟨r0,r1,F⟩:=cG (a:=(0,0)) c;have U:=F 0;have S:=F 1;have hF:=gL (x:=(0,0)) (a:=a) c;have t:10<aT aI w.heap.size 11 (w.heap.size +1):=by rw[bu (by omega)];decide
 have K5:=((Q.box t 0 (.int .i64 a.1)).box t 1 (.int .i64 a.2)).done X V r k0;have G:=(A.setCell (p:=⟨w.heap.size+1,0,none⟩) (by simp) (.int .i64 a.1)).setCell (p:=⟨w.heap.size+1,1,none⟩) (by simp) (.int .i64 a.2);clear F Q A;go_wp2_with fail;generalize(Y.setCell _ _).setCell _ _=Z at*;have u:=eD hF;exact aA (v:=qg a) (cu results10 rfl u) rfl ⟨rfl,_,_,_,_,_,_,K5,xl G 0⟩
open RowKit Gn Maps
theorem GO{K:Nat}(g m:Nat)(aI:bI)(b:aJ)(T:List (Dd×An))(v:Vs)(cs:List CV)(ds:List DV)(n:Nat)(D:DataW Unit)(d:Dd)(w:World)(Kp:g_ w g m aI b T v cs ds n D)(h1:-9223372036854775808≤d.id)(h2:d.id≤9223372036854775807)(ha:heard T d.id=none)(Rd:lU K b)(hT:T.length≤1000000):Calls prog 10 #[.pointer (some ⟨g,0,none⟩),gn d] w (Du w g m aI (jA b d).1 (T++[(d,(jA b d).2)]) (jA b d).2):=by
 have e1:=ar w (dR d);have e2:=ar (w.alloc (dR d)) (nh (0,0));have e3:=ar ((w.alloc (dR d)).alloc (nh (0,0))) (nh (0,0));have a4:=e1.trans (e2.mono (by simp));have hb:=a4.trans (e3.mono (by simp;omega));have K1:=Kp.below a4 (j:=11) (Or.inr (by decide));have K3:=Kp.below hb (j:=11) (Or.inr (by decide));have a1:((w.alloc (dR d)).alloc (nh (0,0))).heap[w.heap.size]?=some (dR d):=(e2.block _ (by simp)).trans (ah _ _ _ rfl);have t:(((w.alloc (dR d)).alloc (nh (0,0))).alloc (nh (0,0))).heap[w.heap.size]?=some (dR d):=(e3.block _ (by simp;omega)).trans a1;have x:(((w.alloc (dR d)).alloc (nh (0,0))).alloc (nh (0,0))).heap[w.heap.size+1]?=some (nh (0,0)):=(e3.block _ (by simp)).trans (ah _ _ _ (by simp));have bc:=AH K1.owns K1.Ga h1 h2;rw[ha]at bc;obtain⟨P,O⟩:=bc;simp only[Option.getD_none,Option.isSome_none]at P O;have kg:=ae Kp.bR;have km:=Kp.owns.lt;have k0:=Kp.yO.lt;have ak:=Kp.qE;have S:=Kp.lg;have Q:=Kp.lm;obtain⟨d0,d1,d2,d3,d4,d5⟩:=bs a1;obtain⟨-,-,-,-,-,-,-,-,-,-,-,-,-,-,-,-,-,-,-,ct⟩:=aU K1.bR;have hF:Mf b cs ds:=IX Rd.inv Kp.shown.ov Kp.shown.ox Rd.days;have gl:=ae K1.bR;clear e1 e2 e3 a4 K1 Kp;unfold qg at P O;obtain⟨W,hW⟩:∃W,(w.alloc (dR d)).alloc (nh (0,0))=W:=⟨_,rfl⟩;rw[hW]at d0 d1 d2 d3 d4 d5 ct P O x t K3 hb a1 gl;unfold dR nh at hW;have zl:=ae a1;unfold gn;unfold nh at K3 hb x t;dsimp only at hW K3 hb x t P O;go_enter func10,ntmps10;go_upto_region 1 with fail;try rw[hW]
 clear hW a1;go_region;have KY:=K3.drew;have a2:=hb.drew;rw[←eH]at t x;generalize(W.alloc _).drew=Y at*;clear K3 hb P O ct d0 d1 d2 d3 d4 d5;generalize ao:aT aI w.heap.size 11=l at*;have M:=oO b v cs ds l Y KY.shown KY.qE hF;rw[jT]at M;simp only[jT]at M;obtain⟨dK,uK,rK⟩:=nt;have f:=r_ KY.bR;go_upto_region 5 with(first
  |(refine iS rfl 43 _ rfl g 0 rfl (bo b v).toList dK f uK rK gA ?_)
  |(go_at_call 21;refine M.mono ?_;rintro e J ⟨v3,r,rfl,M3,T3,aa,bb⟩;have y:=aW (Mp (M3.shown (f_:=r) (fun _ _=>rfl)).one))
  |(refine uY rfl _ rfl b v3 rfl ?_)
  |(refine eI rfl 58 _ _ rfl J.heap.size 0 (dc b v3 (.map none)) rfl rfl (FZ J _ rfl b v3) Ko y.out ?_));have a9:=FV (w:=J) (.cells #[.int .i64 0,.bool false,.slice none 0 0,.slice none 0 0,.slice none 0 0,.int .i64 0,.slice none 0 0,.int .i64 0,.slice none 0 0,.int .i64 0,.int .i64 0,.slice none 0 0,.slice none 0 0,.int .i64 0,.slice none 0 0,.slice none 0 0,.slice none 0 0,.slice none 0 0,.slice none 0 0,.map none] 58) (dc b v3 (.map none)).toList;have a7:=Ju (w:=J) (b:=b) (v:=v3) (cs:=#[.int .i64 0,.bool false,.slice none 0 0,.slice none 0 0,.slice none 0 0,.int .i64 0,.slice none 0 0,.int .i64 0,.slice none 0 0,.int .i64 0,.int .i64 0,.slice none 0 0,.slice none 0 0,.int .i64 0,.slice none 0 0,.slice none 0 0,.slice none 0 0,.slice none 0 0,.slice none 0 0,.map none]) rfl;generalize(J.alloc _).setCells J.heap.size 0 (dc b v3 (.map none)).toList=Y4 at a9 a7⊢;have G4:=GW M3 T3 a9 a7;have B:Below Y.heap.size Y Y4:=aa.trans (a9.mono aa.size);have O4:=KY.yO.cB (B.block 0 KY.yO.lt);have am:∀k,k<Y.heap.size→aT r J.heap.size 1 k=l k:=fun k hk=>by rw[aV (bp hk aa.size)];exact bb k hk
 have ba:aT r J.heap.size 1 0=0:=by rw[am 0 KY.yO.lt];exact KY.l0
 have be:Y4.heap[w.heap.size]?=some (dR d):=(B.block _ (ae t)).trans t;obtain⟨d0,d1,d2,d3,d4,d5⟩:=bs be;have b0:=M5 J.heap.size Y.heap.size _ b (.map none) d Y4 G4 Rd O4 ba;have a6:=lG b d;have bd:∀k,1≤aT r J.heap.size 1 k→aT r J.heap.size 1 k≤8→Y.heap.size≤k:=by obtain⟨v4,cc,cb,H4,-⟩:=G4;exact H4.mem.hi
 have z:Y.heap.size≤Y4.heap.size:=B.size;unfold mY gn qg at b0;generalize jA b d=R at*;clear G4 M3 T3 a9 a7 y f M aa O4 ba be;generalize aT r J.heap.size 1=c9 at*;go_upto_region 6 with(go_at_call 22;refine b0.mono ?_;rintro e w5 ⟨rfl,bw,S5,g5⟩);have bf:Below Y.heap.size Y4 w5:=S5.below z bd;have a3:=ar w5 (.cells #[.int .i64 R.2.1,.int .i64 R.2.2] 53);have A:Below Y.heap.size Y (w5.alloc (.cells #[.int .i64 R.2.1,.int .i64 R.2.2] 53)):=(B.trans bf).trans (a3.mono (bE z S5.size));have C:(w5.alloc (.cells #[.int .i64 R.2.1,.int .i64 R.2.2] 53)).heap[w5.heap.size]?=some (nh R.2):=ah _ _ _ rfl;have S6:R.2.1=0→∃v' cs' I,Shown (w5.alloc (.cells #[.int .i64 R.2.1,.int .i64 R.2.2] 53)) (aT l Y.heap.size 0) R.1 v' cs' I∧(w5.alloc (.cells #[.int .i64 R.2.1,.int .i64 R.2.2] 53)).heap[J.heap.size]?=some (jZ R.1 v' (.map none)):=fun h0=>by obtain⟨v',cs',I,H5⟩:=g5 h0;refine⟨v',cs',I,?_,(a3.block _ (ae H5.bR)).trans H5.bR⟩;have sh:=H5.mem.shown (f_:=l) (fun k hk=>(S5.ext k (bp hk z)).trans (am k hk));exact sh.go a3.size (fun _ _=>rfl) fun k hk _=>a3.block k hk
 have ca:w.heap.size≤w5.heap.size:=bE (bE a2.size z) S5.size;generalize w5.alloc _=Y6 at*;generalize w5.heap.size=z8 at*;have K6:=KY.below A (j:=0) (Or.inl rfl);have N:Y6.heap[w.heap.size]?=some (dR d):=(A.block _ (ae t)).trans t;have u:Y6.heap[w.heap.size+1]?=some (nh (0,0)):=(A.block _ (ae x)).trans x;have F6:Fm w Y6 g m:=(I4 a2 g m).below (A.mono a2.size);have b5:=ae x;have i:10<aT l Y.heap.size 0 (w.heap.size+1):=by rw[aV b5,←ao,bu (by omega)];decide
 have fin:∀{Z:World} {b':aJ} {T':List (Dd×An)} {v':Vs} {cs':List CV} {I:List DV} {n':Nat} {D':DataW Unit},g_ Z g m (aT l Y.heap.size 0) b' T' v' cs' I n' D'→g_ Z g m (aT aI w.heap.size 0) b' T' v' cs' I n' D':=fun Kz=>Kz.aT (fun k hk=>by
   by_cases q:k<w.heap.size;·rw[aV (bp q a2.size),←ao,aV q]at hk;rw[aV q];exact hk
   ·exact bu (by omega)) (by rw[aV kg];exact S) (by rw[aV km];exact Q) (fun k=>by
   by_cases q:k<w.heap.size;·rw[aV q];exact ak k
   ·rw[bu (by omega)];exact Or.inl rfl);generalize aT l Y.heap.size 0=b6 at*;have zg:w.heap.size≠g:=by omega
 have bh:w.heap.size+1≠g:=by omega
 have bg:z8≠g:=by omega
 have zm:w.heap.size≠m:=by omega
 have b4:w.heap.size+1≠m:=by omega
 have b3:z8≠m:=by omega
 clear bf a3 A B a2 KY S5 g5 b0 t x d0 d1 d2 d3 d4 d5 bb am bd z b5 ao Rd hF zl gl;obtain⟨q0,q1,-⟩:=cG C;obtain⟨d0,d1,d2,d3,d4,d5⟩:=bs N;by_cases he:R.2.1=0
 ·have bi:(R.2.1==0)=true:=by simpa using he
  obtain⟨v',cs',I,SH,bl⟩:=S6 he;have f:=r_ bl;have L:=Ek (b':=R.1) (v':=v') K6.bR;have y:=aW SH.one;have s:=K6.put SH;have F7:=F6.put (bo R.1 v').toList;have X:(cY Y6 g 0 (bo R.1 v').toList).heap[w.heap.size]?=some (dR d):=(cE _ _ _ _ _ zg).trans N;have G:(cY Y6 g 0 (bo R.1 v').toList).heap[w.heap.size+1]?=some (nh (0,0)):=(cE _ _ _ _ _ bh).trans u;have H:(cY Y6 g 0 (bo R.1 v').toList).heap[z8]?=some (nh R.2):=(cE _ _ _ _ _ bg).trans C;clear S6 a6 he;rw[←cK]at s F7 X G H;clear K6 F6 N u C SH bl;go_upto_region 8 with(first
   |(refine iS rfl 43 _ rfl J.heap.size 0 rfl (bo R.1 v').toList dK f uK rK gA ?_)
   |(refine eI rfl 43 _ _ rfl g 0 (bo R.1 v') rfl rfl L gA y.out ?_));generalize Y6.setCells g 0 (bo R.1 v').toList=Y7 at*;clear f L y q0 q1 d0 d1 d2 d3 d4 d5;obtain⟨q0,q1,-⟩:=cG H;obtain⟨d0,d1,d2,d3,d4,d5⟩:=bs X;by_cases c:d.id=0
  ·have aw:(d.id !=0)=false:=by simpa using c
   have K8:=s.log d R.2 (Or.inl c);clear s;obtain⟨q0,q1,-⟩:=cG H;obtain⟨r0,r1,E⟩:=cG G;have ag:=E 0;have af:=E 1;have hF:=gL (a:=R.2) G;have K9:=fin ((K8.box i 0 (.int .i64 R.2.1)).box i 1 (.int .i64 R.2.2));have F9:=F7.below ((Below.refl w.heap.size _).setCell (p:=⟨w.heap.size+1,0,none⟩) (by simp) (.int .i64 R.2.1))|>.below ((Below.refl w.heap.size _).setCell (p:=⟨w.heap.size+1,1,none⟩) (by simp) (.int .i64 R.2.2));clear E fin i K8 F7 G H;go_wp2_with fail;generalize(Y7.setCell _ _).setCell _ _=Z at*;have o:=eD hF;exact aA (v:=qg R.2) (cu results10 rfl o) rfl ⟨rfl,_,_,_,_,_,_,K9,F9.Kb S Q⟩
  ·have aw:(d.id !=0)=true:=by simpa using c
   have V:told d.id T=none:=by unfold heard at ha;rw[ai c]at ha;exact ha
   obtain⟨w8,U,O8,h,an⟩:=zh s.owns.drew (by have:= s.iv;omega) h1 h2 R.2;have K8:=s.drew.tell h O8 (s.Ga.put d R.2 c V) (by simp);have F8:=(F7.below ((Below.refl _ _).drew)).map h;have bv:w8.heap[w.heap.size]?=some (dR d):=(h.block _ (ae X) (fun e=>zm (by injection e))).trans X;have F:w8.heap[w.heap.size+1]?=some (nh (0,0)):=(h.block _ (ae G) (fun e=>b4 (by injection e))).trans G;have a5:w8.heap[z8]?=some (nh R.2):=(h.block _ (ae H) (fun e=>b3 (by injection e))).trans H;obtain⟨-,-,-,-,-,-,-,-,-,-,-,-,-,-,-,-,-,-,-,ct⟩:=aU s.bR;have gl:=ae s.bR;unfold qg at U;clear O8 h an V s F7;go_upto_region 9 with fail;go_region;clear ct U;clear q0 q1 d0 d1 d2 d3 d4 d5 X G H;obtain⟨q0,q1,-⟩:=cG a5;obtain⟨r0,r1,E⟩:=cG F;have ag:=E 0;have af:=E 1;have hF:=gL (a:=R.2) F;have K9:=fin ((K8.box i 0 (.int .i64 R.2.1)).box i 1 (.int .i64 R.2.2));have F9:=F8.below ((Below.refl w.heap.size _).setCell (p:=⟨w.heap.size+1,0,none⟩) (by simp) (.int .i64 R.2.1))|>.below ((Below.refl w.heap.size _).setCell (p:=⟨w.heap.size+1,1,none⟩) (by simp) (.int .i64 R.2.2));clear E fin i K8 F8 F a5;go_wp2_with fail;generalize(w8.setCell _ _).setCell _ _=Z at*;have o:=eD hF;exact aA (v:=qg R.2) (cu results10 rfl o) rfl ⟨rfl,_,_,_,_,_,_,K9,F9.Kb S Q⟩
 ·have bi:(R.2.1==0)=false:=by simpa using he
  have ay:=a6 he;have s:g_ Y6 g m b6 R.1 T v cs ds n D:=by rw[ay];exact K6
  replace ay:=aW ay;clear S6 a6 he K6;by_cases c:d.id=0
  ·have aw:(d.id !=0)=false:=by simpa using c
   have K8:=s.log d R.2 (Or.inl c);clear s;obtain⟨q0,q1,-⟩:=cG C;obtain⟨r0,r1,E⟩:=cG u;have ag:=E 0;have af:=E 1;have hF:=gL (a:=R.2) u;have K9:=fin ((K8.box i 0 (.int .i64 R.2.1)).box i 1 (.int .i64 R.2.2));have F9:=F6.below ((Below.refl w.heap.size _).setCell (p:=⟨w.heap.size+1,0,none⟩) (by simp) (.int .i64 R.2.1))|>.below ((Below.refl w.heap.size _).setCell (p:=⟨w.heap.size+1,1,none⟩) (by simp) (.int .i64 R.2.2));clear E fin i K8 F6 u C;go_wp2_with fail;generalize(Y6.setCell _ _).setCell _ _=Z at*;have o:=eD hF;exact aA (v:=qg R.2) (cu results10 rfl o) rfl ⟨rfl,_,_,_,_,_,_,K9,F9.Kb S Q⟩
  ·have aw:(d.id !=0)=true:=by simpa using c
   have V:told d.id T=none:=by unfold heard at ha;rw[ai c]at ha;exact ha
   obtain⟨w8,U,O8,h,an⟩:=zh s.owns.drew (by have :=s.iv;omega) h1 h2 R.2;have K8:=s.drew.tell h O8 (s.Ga.put d R.2 c V) (by simp);have F8:=(F6.below ((Below.refl _ _).drew)).map h;have bv:w8.heap[w.heap.size]?=some (dR d):=(h.block _ (ae N) (fun e=>zm (by injection e))).trans N;have F:w8.heap[w.heap.size+1]?=some (nh (0,0)):=(h.block _ (ae u) (fun e=>b4 (by injection e))).trans u;have a5:w8.heap[z8]?=some (nh R.2):=(h.block _ (ae C) (fun e=>b3 (by injection e))).trans C;obtain⟨-,-,-,-,-,-,-,-,-,-,-,-,-,-,-,-,-,-,-,ct⟩:=aU s.bR;have gl:=ae s.bR;unfold qg at U;clear O8 h an V s F6;go_upto_region 9 with fail;go_region;clear ct U;clear q0 q1 d0 d1 d2 d3 d4 d5 N u C;obtain⟨q0,q1,-⟩:=cG a5;obtain⟨r0,r1,E⟩:=cG F;have ag:=E 0;have af:=E 1;have hF:=gL (a:=R.2) F;have K9:=fin ((K8.box i 0 (.int .i64 R.2.1)).box i 1 (.int .i64 R.2.2));have F9:=F8.below ((Below.refl w.heap.size _).setCell (p:=⟨w.heap.size+1,0,none⟩) (by simp) (.int .i64 R.2.1))|>.below ((Below.refl w.heap.size _).setCell (p:=⟨w.heap.size+1,1,none⟩) (by simp) (.int .i64 R.2.2));clear E fin i K8 F8 F a5;go_wp2_with fail;generalize(w8.setCell _ _).setCell _ _=Z at*;have o:=eD hF;exact aA (v:=qg R.2) (cu results10 rfl o) rfl ⟨rfl,_,_,_,_,_,_,K9,F9.Kb S Q⟩
def su:Kind Pa where
 cells:=fun p=>[.int .i64 p.t,.int .i64 p.c,.int .i64 p.s]
 size:=3
 len:=fun _=>rfl
 one:=fun x u a=>by simp at a;rcases a with rfl|rfl|rfl<;>rfl
 pos:=by decide
def qf(b:Value)(a cap:Int):Value:=.agg #[b,.int .i64 a,.int .i64 cap]
def gy(b:Value)(a cap:Int):Obj:=.cells #[b,.int .i64 a,.int .i64 cap] 24
def iu:Pa:=⟨0,0,0⟩
def mF(i:Nat):List Pa→Int×Int
 |[]=>(0,0)|p::r=>if cf p≠0 then(cf p,i)else mF (i +1) r
def bV(ps:List Pa)(a cap:Int):Int×Int:=if 8<ps.length∨a<0∨8<a then(5,0)else if cap<0∨1000000<cap then(3,0)else mF 0 ps
theorem Dx{ps:List Pa}{k:Nat}(a:k<ps.length):ps.drop k=ps.getD k iu::ps.drop (k+1):=by rw[gj a];simp[List.getD,a]
theorem Dl{ps:List Pa}{k:Nat}(a:k<ps.length)(h:cf (ps.getD k iu)≠0):mF k (ps.drop k)=(cf (ps.getD k iu),(k:Int)):=by rw[Dx a,mF,aB h]
theorem zC{ps:List Pa}{k:Nat}(a:k<ps.length)(h:cf (ps.getD k iu)=0):mF k (ps.drop k)=mF (k +1) (ps.drop (k +1)):=by rw[Dx a,mF,ai (by simpa using h)]
theorem KW{i:Nat}{ps:List Pa}(h:(mF i ps).1=0):∀p∈ps,cf p=0:=by
 induction ps generalizing i with
 |nil=>intro p a;cases a
 |cons q r b=>
  rw[mF]at h;by_cases e:cf q=0
  ·rw[ai (by simpa using e)]at h;intro p a;rcases List.mem_cons.1 a with rfl|a;·exact e
   ·exact b h p a
  ·rw[aB e]at h;exact absurd h e
theorem yh{ps:List Pa}{a cap:Int}(h:(bV ps a cap).1=0):ps.length≤8∧0≤a∧a≤8∧0≤cap∧cap≤1000000∧∀p∈ps,cf p=0:=by
 unfold bV at h;by_cases c:8<ps.length∨a<0∨8<a;·rw[aB c]at h;cases h
 rw[ai c]at h;by_cases b:cap<0∨1000000<cap;·rw[aB b]at h;cases h
 rw[ai b]at h;exact⟨by omega,by omega,by omega,by omega,by omega,KW h⟩
theorem d9{w:World}{z:Nat}{b:Value}{a cap:Int}(h:w.heap[z]?=some (gy b a cap)):w.cell? ⟨z,0,none⟩=some b∧w.cell? ⟨z,1,none⟩=some (.int .i64 a)∧w.cell? ⟨z,2,none⟩=some (.int .i64 cap):=by unfold gy at h;refine⟨?_,?_,?_⟩<;>simp[World.cell?,h]
def fo(f:Int×Int):Obj:=.cells #[.int .i64 f.1,.int .i64 f.2] 47
theorem Ld:∃d,prog.underlying 47=some d∧d.isRow=true:=⟨_,underlying47,rfl⟩
theorem Lx:(prog.info? 47).map (·.size)=some 2:=by kernel_rfl
theorem jX{w:World}{g:Nat}{a:Int×Int}(h:w.heap[g]?=some (fo a)):(loadVar 47 ⟨g,0,none⟩).run prog w=.ok (Dy.fv a) w:=by obtain⟨d,h1,h2⟩:=Ld;exact run_loadVar_mid w g 0 47 [.int .i64 a.1,.int .i64 a.2] d (kW (cs:=#[.int .i64 a.1,.int .i64 a.2]) h (fun j v b=>by simpa using b)) h1 h2 Lx
theorem oB{w:World}{z:Nat}{x a:Int×Int}(h:w.heap[z]?=some (fo x)):((w.setCell ⟨z,0,none⟩ (.int .i64 a.1)).setCell ⟨z,1,none⟩ (.int .i64 a.2)).heap[z]?=some (fo a):=by unfold fo at h⊢;have h0:=aZ w z 0 _ _ (.int .i64 a.1) h;have h1:=aZ _ z 1 _ _ (.int .i64 a.2) h0;rw[h1];simp
theorem eo{w:World}{z:Nat}{a:Int×Int}(h:w.heap[z]?=some (fo a)):w.cell? ⟨z,0,none⟩=some (.int .i64 a.1)∧w.cell? ⟨z,1,none⟩=some (.int .i64 a.2)∧w.frozen? ⟨z,0,none⟩=false∧w.frozen? ⟨z,1,none⟩=false:=by
 unfold fo at h;refine⟨?_,?_,?_,?_⟩;·simp[World.cell?,h]
 ·simp[World.cell?,h]
 ·simp[World.frozen?,h]
 ·simp[World.frozen?,h]
theorem oM(ps:List Pa)(a:Option Addr)(c:Nat)(b cap:Int)(w:World)(V:Gn.bF su w a c ps):Calls prog 6 #[qf (.slice a ps.length c) b cap] w fun e w'=>e=.returned (Dy.fv (bV ps b cap))∧Below w.heap.size w w':=by
 have R:=ar w (gy (.slice a ps.length c) b cap);have Q:=ar (w.alloc (gy (.slice a ps.length c) b cap)) (fo (0,0));have J:=R.trans (Q.mono (by simp));have N:((w.alloc (gy (.slice a ps.length c) b cap)).alloc (fo (0,0))).heap[w.heap.size]?=some (gy (.slice a ps.length c) b cap):=(Q.block _ (by simp)).trans (ah _ _ _ rfl);have o:((w.alloc (gy (.slice a ps.length c) b cap)).alloc (fo (0,0))).heap[w.heap.size+1]?=some (fo (0,0)):=ah _ _ _ (by simp);have P:=V.below (J.mono (aj _));have U:=V.len;unfold maxLen at U;obtain⟨W,C⟩:∃W,(w.alloc (gy (.slice a ps.length c) b cap)).alloc (fo (0,0))=W:=⟨_,rfl⟩;rw[C]at J N o P;unfold gy fo at C;dsimp only at C;obtain⟨s0,s1,s2⟩:=d9 N;obtain⟨L,K,f2,f3⟩:=eo o;dsimp only at L K;have zl:=ae o;clear R Q V;have h:∀(X:World) (f:Int×Int),X.heap[w.heap.size+1]?=some (fo (0,0))→Below w.heap.size w X→∃Y,(X.setCell ⟨w.heap.size+1,0,none⟩ (.int .i64 f.1)).setCell ⟨w.heap.size+1,1,none⟩ (.int .i64 f.2)=Y∧(loadVar 47 ⟨w.heap.size+1,0,none⟩).run prog Y=.ok (Dy.fv f) Y∧Below w.heap.size w Y:=fun X f hX Z=>
  ⟨_,rfl,jX (oB hX),(Z.setCell (p:=⟨w.heap.size+1,0,none⟩) (by simp) _).setCell (p:=⟨w.heap.size+1,1,none⟩) (by simp) _⟩;unfold qf;by_cases I:8<ps.length∨b<0∨8<b
 ·have m:bV ps b cap=(5,0):=by unfold bV;rw[aB I]
  rw[m];obtain⟨Y,y,d,l⟩:=h W (5,0) o J;dsimp only at y;clear h m;have T:(8 :Int)<ps.length∨(¬(8 :Int)<ps.length∧b<0)∨(¬ (8:Int)<ps.length∧¬b<0∧8<b):=by omega
  clear I;rcases T with q|⟨q,E⟩|⟨q,E,q4⟩
  all_goals
   go_enter func6,ntmps6;go_upto_region 1 with fail;try rw[C]
   clear C;go_wp2_with fail;try rw[y]
   exact aA (v:=Dy.fv (5,0)) (cu results6 rfl d) rfl ⟨rfl,l⟩
 by_cases E:cap<0∨1000000<cap
 ·have m:bV ps b cap=(3,0):=by unfold bV;rw[ai I,aB E]
  rw[m];obtain⟨Y,y,d,l⟩:=h W (3,0) o J;dsimp only at y;clear h m;have p1:¬(8:Int)<ps.length:=by omega
  have p2:¬b<0:=by omega
  have p3:¬8<b:=by omega
  clear I;have T:cap<0∨(¬cap<0∧1000000<cap):=by omega
  clear E;rcases T with q|⟨q,E⟩
  all_goals
   go_enter func6,ntmps6;go_upto_region 1 with fail;try rw[C]
   clear C;go_wp2_with fail;try rw[y]
   exact aA (v:=Dy.fv (3,0)) (cu results6 rfl d) rfl ⟨rfl,l⟩
 have p1:¬(8 :Int)<ps.length:=by omega
 have p2:¬b<0:=by omega
 have p3:¬8<b:=by omega
 have p4:¬cap<0:=by omega
 have p5:¬1000000<cap:=by omega
 have m:Hid (bV ps b cap=mF 0 (ps.drop 0)):=aW (by unfold bV;rw[ai I,ai E];rfl);clear I E;go_enter func6,ntmps6;go_upto_region 1 with fail;try rw[C]
 clear C;go_upto_region 6 with fail;clear s0 s1 s2 L K f2 f3;go_loopw[33](fun i wr=>∃k:Nat,k≤ps.length∧i=.int .i64 k∧Hid (bV ps b cap=mF k (ps.drop k))∧Below W.heap.size W wr) (fun i _=>ps.length-(intOf i).toNat);case atStart=>exact⟨0,bq _,rfl,m,Below.refl _ _⟩
 case round=>
  clear m;obtain⟨k,hk,rfl,m,r⟩:=hrel;have n:wr.heap[w.heap.size+1]?=some (fo (0,0)):=(r.block _ zl).trans o;have G:Below w.heap.size w wr:=J.trans (r.mono J.size);by_cases F:k<ps.length
  ·have a1:(k :Int)<ps.length:=by omega
   have O:=P.below r;obtain⟨z,off,rfl,a2,g⟩:=O.elem (i:=k) (x:=ps.getD k iu) (by simp[List.getD,F]);have e0:=g 0 _ rfl;have R:=g 1 _ rfl;have Q:=g 2 _ rfl;simp only[dr]at e0;dsimp only[su]at e0 R Q;have D:=fun X:World=>dO (ps.getD k iu) X;have u:=aW (Dl (ps:=ps) F);have j:=aW (zC (ps:=ps) F);have H:=ar wr (.cells #[.int .i64 (ps.getD k iu).t,.int .i64 (ps.getD k iu).c,.int .i64 (ps.getD k iu).s] 63);unfold pv at D;clear g O;generalize ps.getD k iu=p at*;by_cases M:cf p=0
   ·have hm:=aW ((m.out).trans (j.out M));clear u j m;rw[M]at D;go_wp2_with(go_at_call 13;refine(D _).mono ?_;rintro e S ⟨rfl,A⟩);go_roundw;case rel=>exact⟨k+1,by omega,by go_num,hm,(r.trans (H.mono r.size)).trans (A.mono (by simp;have :=r.size;omega))⟩
    case measure=>simp[intOf];omega
   ·have hh:=aW ((m.out).trans (u.out M));have a3:(cf p !=0)=true:=by simpa using M
    clear u j m M;generalize cf p=er at*;go_upto_region 10 with(go_at_call 13;refine(D _).mono ?_;rintro e S ⟨rfl,A⟩);have B:Below wr.heap.size wr S:=H.trans (A.mono (by simp));obtain⟨Y,y,d,l⟩:=h S (er,(k :Int)) ((B.block _ (ae n)).trans n) (G.trans (B.mono G.size));obtain⟨L,K,f2,f3⟩:=eo ((B.block _ (ae n)).trans n);dsimp only at y L K;clear h B A H;go_wp2_with fail;try rw[y]
    exact aA (v:=Dy.fv (er,(k :Int))) (cu results6 rfl d) rfl ⟨by rw[hh.out],l⟩
  ·obtain rfl:k=ps.length:=by omega
   have hz:Hid (bV ps b cap=(0,0)):=aW (by rw[m.out];simp[mF]);obtain⟨Y,y,d,l⟩:=h wr (0,0) n G;obtain⟨L,K,f2,f3⟩:=eo n;dsimp only at y L K;clear h m;go_wp2_with fail;try rw[y]
   exact aA (v:=Dy.fv (0,0)) (cu results6 rfl d) rfl ⟨by rw[hz.out],l⟩
