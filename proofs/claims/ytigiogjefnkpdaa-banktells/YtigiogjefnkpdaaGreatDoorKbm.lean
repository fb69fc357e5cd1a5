import Derived.Test.YtigiogjefnkpdaaGreatDoorKal
import Derived.Test.YtigiogjefnkpdaaGreatDoorKbc
import Derived.Test.YtigiogjefnkpdaaGreatDoorKbg
set_option maxHeartbeats 4000000
set_option maxRecDepth 100000
open Go.Proofs.Tryz
namespace Go.Proofs.YtigiogjefnkpdaaGreatDoor.Bn
open RowKit Gn
def cQ(w:World)(g aq:Nat)(aI:bI)(v:Value)(r:aJ×Int)(e:Ending)(a:World):Prop:=e=.returned v∧∃lab',cC a g aq lab' r.1 (.int .i64 r.2)∧ir w aI a lab'
def Il(w:World)(g aq:Nat)(aI:bI)(v:Vs)(b:List DV)(r:aJ×Int)(e:Ending)(a:World):Prop:=e=.returned (.tuple #[])∧∃lab' cs',Hand a g aq lab' r.1 v cs' b (.int .i64 r.2)∧ir w aI a lab'
def Mb(w:World)(g aq:Nat)(aI:bI)(v:Vs)(cs:List CV)(b:List DV)(r:aJ×Int)(e:Ending)(a:World):Prop:=e=.returned (.tuple #[])∧∃lab' bk,Hand a g aq lab' r.1 {v with bk:=bk} cs b (.int .i64 r.2)∧ir w aI a lab'
theorem Hand.Jf{w:World}{g aq:Nat}{aI:bI}{b:aJ}{v:Vs}{cs:List CV}{a:List DV}{E:Int}(H:Hand w g aq aI b v cs a (.int .i64 E))(y:Int):Hand (w.setCell ⟨g,19,none⟩ (.int .i64 y)) g aq (aT aI w.heap.size 1) b v cs a (.int .i64 y):=⟨H.mem.tK H.lb 19 _,by rw[mV H.bR];rfl,by rw[aV (ae H.bR)];exact H.lb⟩
theorem rV{w:World}{g:Nat}{b:aJ}{v:Vs}{tm:Value}(h:w.heap[g]?=some (jZ b v tm)):w.cell? ⟨g,19,none⟩=some tm:=(aU h).2.2.2.2.2.2.2.2.2.2.2.2.2.2.2.2.2.2.2
theorem GM(g:Nat)(b:aJ)(v:Vs)(a:Int)(w:World)(d:w.heap[g]?=some (jZ b v (.int .i64 0))):Calls prog 23 #[.pointer (some ⟨g,0,none⟩),.int .i64 a] w fun e h=>e=.returned (.bool (a !=0))∧h=w.setCell ⟨g,19,none⟩ (.int .i64 a):=by
 have k:=rV d;have c:(w.setCell ⟨g,19,none⟩ (.int .i64 a)).heap[g]?=some (jZ b v (.int .i64 a)):=by rw[mV d];rfl
 have j:=rV c;have i:=bO d 19;go_enter func23,ntmps23;go_upto_region 3 with fail;generalize f:w.setCell ⟨g,19,none⟩ (.int .i64 a)=W at*;replace f:=aW f;go_wp2_with fail;go_ret;exact⟨rfl,f.out.symm⟩
theorem gQ(g aq:Nat)(aI:bI)(b:aJ)(v:Vs)(cs:List CV)(f:List DV)(E a:Int)(w:World)(H:Hand w g aq aI b v cs f (.int .i64 E)):Calls prog 23 #[.pointer (some ⟨g,0,none⟩),.int .i64 a] w fun e c=>e=.returned (.bool (nY E a !=0))∧∃lab',Hand c g aq lab' b v cs f (.int .i64 (nY E a))∧ir w aI c lab':=by
 by_cases d:E=0;·subst d;rw[dq];refine(GM g b v a w H.bR).mono ?_;rintro e c ⟨h1,rfl⟩;exact⟨h1,_,H.Jf a,dg H.lb _ _⟩
 ·have h:=rV H.bR;rw[kn d];have i:(E==0)=false:=by simpa using d
  go_enter func23,ntmps23;go_wp2_with fail;go_ret;exact⟨rfl,_,H,ir.refl _ _⟩
theorem pz{x y:Int}:nY x y=0↔x=0∧y=0:=by
 unfold nY;split;·omega
 ·omega
theorem xF(b:aJ)(E:Int)(f:aJ→aJ×Int)(a:(f b).2≠0→(f b).1=b):(nY E (f b).2≠0∧wk (b,E) f=(b,nY E (f b).2))∨(nY E (f b).2=0∧wk (b,E) f=f b):=by
 by_cases h:E=0
 ·subst h;rw[dq,lO];by_cases h2:(f b).2=0;·exact Or.inr ⟨h2,rfl⟩
  ·exact Or.inl ⟨h2,Prod.ext (a h2) rfl⟩
 ·rw[kn h];exact Or.inl ⟨h,zy h⟩
theorem Dh(g aq:Nat)(aI:bI)(b:aJ)(v:Vs)(cs:List CV)(y:List DV)(E src dst sum:Int)(w:World)(H:Hand w g aq aI b v cs y (.int .i64 E)):Calls prog 25 #[.pointer (some ⟨g,0,none⟩),.int .i64 src,.int .i64 dst,.int .i64 sum] w (Mb w g aq aI v cs y (wk (b,E) fun x=>b9 x src dst sum)):=by
 have u:=aW (xF b E (fun x=>b9 x src dst sum) (fun q=>by rw[ll]at q;rw[xg q]));rw[ll]at u;have B:=aW (fun q=>gx (b:=b) (src:=src) (dst:=dst) (sum:=sum) q);obtain⟨a,cap,G,J,N⟩:=H.mem.bM;have t:=(aU H.bR).2.2.2.2.2.2.2.2.2.2.2.2.2.2.2.2.2.2.1;rw[G]at t;have o:=Bk.AI a cap b.bM src dst sum w (pO J);rw[Af]at o;unfold Bk.de at o;generalize(bW b.bM src dst sum).1=r1 at*;generalize(bW b.bM src dst sum).2=r2 at*;have s:=fun(X :World) (l:bI) (K :Hand X g aq l b v cs y (.int .i64 E))=>gQ g aq l b v cs y E r2 X K;rcases u.out with⟨q,r⟩|⟨q,r⟩
 ·rw[r];have I:(nY E r2 !=0)=true:=by simpa using q
  rw[I]at s;generalize nY E r2=O at*;clear u B r q I;go_enter func25,ntmps25;go_wp2_with(first
   |(go_at_call 47;refine o.mono ?_;rintro e F ⟨D,d,rfl,n,j,m,c⟩)
   |(go_at_call 23;refine(s _ _ (H.below c)).mono ?_;rintro e w2 ⟨rfl,h,f,z⟩));go_end0;exact⟨rfl,_,v.bk,f,(aG c).trans z⟩
 ·rw[r];obtain⟨rfl,rfl⟩:=pz.1 q;rw[B.out rfl];clear u B r;have p:nY 0 0=0:=rfl;rw[p]at s;clear p q;go_enter func25,ntmps25;go_upto_region 2 with(first
   |(go_at_call 47;refine o.mono ?_;rintro e F ⟨D,d,rfl,n,j,m,c⟩)
   |(go_at_call 23;refine(s _ _ (H.below c)).mono ?_;rintro e w2 ⟨rfl,h,f,z⟩));have k:Ap kU (aT aI w.heap.size 0) F (.slice D r1.length d) r1 0:=ki rfl (w_ n m) j;have A:=k.lM z;have C:=(aU f.bR).2.2.2.2.2.2.2.2.2.2.2.2.2.2.2.2.2.2.1;rw[G]at C;have M:=f.pB (f.mem.Gj A) (i:=18) (x:=.slice D r1.length d) rfl;have L:=bO f.bR 18;clear t s o;go_wp2;go_end0;exact⟨rfl,_,_,M,((aG c).trans z).trans (dg f.lb _ _)⟩
theorem ot(g aq:Nat)(aI:bI)(b:aJ)(E src dst sum:Int)(w:World)(h:cC w g aq aI b (.int .i64 E)):Calls prog 25 #[.pointer (some ⟨g,0,none⟩),.int .i64 src,.int .i64 dst,.int .i64 sum] w (cQ w g aq aI (.tuple #[]) (wk (b,E) fun x=>b9 x src dst sum)):=by obtain⟨v,cs,c,H⟩:=h;exact(Dh g aq aI b v cs c E src dst sum w H).mono fun e d ⟨h1,l,bk,h2,a⟩=>⟨h1,l,h2.cj,a⟩
theorem zZ{b:aJ}{n h m:Int}(q:(cN b n h m).2≠0):(cN b n h m).1=b:=by rw[qK]at q;rw[sV q]
theorem Cy(g aq:Nat)(aI:bI)(b:aJ)(v:Vs)(cs:List CV)(U:List DV)(E:Int)(k:Nat)(A z:Int)(w:World)(H:Hand w g aq aI b v cs U (.int .i64 E))(hk:k<b.aL.length):Calls prog 24 #[.pointer (some ⟨g,0,none⟩),.int .i64 (k :Int),.int .i64 A,.int .i64 z] w (Il w g aq aI v U (wk (b,E) fun x=>cN x k A z)):=by
 have F:=aW (xF b E (fun x=>cN x k A z) (fun q=>zZ q));rw[qK]at F;have Q:=aW (fun q=>qW (b:=b) (n:=k) (h:=A) (m:=z) q);obtain⟨gc,cap,C,o⟩:=H.mem.aK hk;have j:=H.mem.dx;have a3:k<cs.length:=by omega
 have N:(k:Int)<cs.length:=by omega
 obtain⟨-,-,c2,-⟩:=aU H.bR;rw[C.val]at c2;obtain⟨q0,q1,q2,q3,q4,Y⟩:=(⟨C.c0,C.c1,C.c2,C.c3,C.c4,C.c5⟩:_∧_∧_∧_∧_∧_);rw[←o,bN]at Q;rw[←o]at F;have P:=yq (cs.getD k j0).c (cs.getD k j0).a (cs.getD k j0).cap A z w (jh C.cP.out);obtain⟨x,hx⟩:∃x,Hid (x=cs.getD k j0):=⟨_,rfl⟩;rw[←hx.out]at P Q F C q0 q1 q2 q3 q4 Y;clear o;unfold da cv at P;generalize(cF x.c A z).1=r1 at*;generalize(cF x.c A z).2=r2 at*;have T:=fun(X :World) (l:bI) (hX:Hand X g aq l b v cs U (.int .i64 E))=>gQ g aq l b v cs U E r2 X hX;rcases F.out with⟨q,S⟩|⟨q,S⟩
 ·rw[S];have hq:(nY E r2 !=0)=true:=by simpa using q
  rw[hq]at T;generalize nY E r2=E2 at*;clear F Q S q hq C;go_enter func24,ntmps24;go_wp2_with(first
   |(go_at_call 46;refine P.mono ?_;rintro e D ⟨B,d,rfl,M,K,f⟩)
   |(go_at_call 23;refine(T _ _ (H.below (aM f _))).mono ?_;rintro e w2 ⟨rfl,J,I,G⟩));go_end0;exact⟨rfl,_,cs,I,(aG (aM f _)).trans G⟩
 ·rw[S];obtain⟨rfl,rfl⟩:=pz.1 q;rw[Q.out rfl];clear F Q S;have R:nY 0 0=0:=rfl;rw[R]at T;clear R q;go_enter func24,ntmps24;go_upto_region 1 with(go_at_call 46;refine P.mono ?_;rintro e D ⟨B,d,rfl,M,K,f⟩);have O:=aM f (.cells #[.int .i64 r1.m,.int .i64 r1.h,.int .i64 r1.p.t,.int .i64 r1.p.c,.int .i64 r1.p.s,.slice B r1.u.length d] 66);have r:(D.alloc (.cells #[.int .i64 r1.m,.int .i64 r1.h,.int .i64 r1.p.t,.int .i64 r1.p.c,.int .i64 r1.p.s,.slice B r1.u.length d] 66)).heap[D.heap.size]?=some (co r1 B d):=ah _ _ _ rfl;have L:=(ib M).alloc (.cells #[.int .i64 r1.m,.int .i64 r1.h,.int .i64 r1.p.t,.int .i64 r1.p.c,.int .i64 r1.p.s,.slice B r1.u.length d] 66);have i:=sq C.cP L K;have hZ:w.heap.size≤D.heap.size:=f.size;generalize D.alloc _=W at*;generalize D.heap.size=Z at*;have G1:=H.below O;have lZ:aT aI w.heap.size 0 Z=0:=bu hZ;go_upto_region 2 with(go_at_call 23;refine(T _ _ G1).mono ?_;rintro e w2 ⟨rfl,J,I,G⟩);have a1:=G.at r lZ;have V:=G.zero (ae r) lZ;have a2:=i.lM G;have S3:=(aG (aI:=aI) O).trans G;clear P T c2 q0 q1 q2 q3 q4 Y C i L r a3 N j;obtain⟨gc,cap,C,-⟩:=I.mem.aK hk;have j:=I.mem.dx;have N:(k :Int)<cs.length:=by omega
  obtain⟨-,-,c2,-⟩:=aU I.bR;rw[C.val]at c2;obtain⟨q0,q1,q2,q3,q4,Y⟩:=(⟨C.c0,C.c1,C.c2,C.c3,C.c4,C.c5⟩:_∧_∧_∧_∧_∧_);obtain⟨u0,u1,u2,u3,u4,u5⟩:=dz a1;have z0:=C.fz (k *6);have z1:=C.fz (k *6+1);have z2:=C.fz (k *6+2);have z3:=C.fz (k *6+3);have z4:=C.fz (k*6+4);have z5:=C.fz (k *6+5);have a4:gc≠Z:=fun e=>by have :=C.lb;rw[e,V]at this;cases this
  have H4:=I.ml C (y:=⟨r1,B,d⟩) a2;have S4:=S3.trans (iE (w:=w2) C.lb (by decide) (by decide) (k*6) (kC.cells ⟨r1,B,d⟩));go_region;all_goals go_wp2_with fail;go_end0;exact⟨rfl,_,_,H4.drew,S4.drew⟩
theorem KG(g aq:Nat)(aI:bI)(b:aJ)(E:Int)(k:Nat)(c a:Int)(w:World)(h:cC w g aq aI b (.int .i64 E))(d:k<b.aL.length):Calls prog 24 #[.pointer (some ⟨g,0,none⟩),.int .i64 (k :Int),.int .i64 c,.int .i64 a] w (cQ w g aq aI (.tuple #[]) (wk (b,E) fun x=>cN x k c a)):=by obtain⟨v,cs,i,H⟩:=h;exact(Cy g aq aI b v cs i E k c a w H d).mono fun e j ⟨h1,l,cs',h2,f⟩=>⟨h1,l,h2.cj,f⟩
theorem Fx{b:aJ}{i:Bool}{t:Po.Tr}(q:(fM b i t).2≠0):(fM b i t).1=b:=by
 unfold fM at q⊢;split at q;·rename_i a;rw[aB a]
 ·exact absurd rfl q
theorem Dv(g aq:Nat)(aI:bI)(b:aJ)(E:Int)(i:Bool)(C au B:Int)(w:World)(h:cC w g aq aI b (.int .i64 E))(hF:Po.Fit (b.snd i).bj):Calls prog 52 #[.pointer (some ⟨g,0,none⟩),.int .i64 (fe i),.int .i64 C,.int .i64 au,.int .i64 B] w (cQ w g aq aI (.tuple #[]) (wk (b,E) fun x=>fM x i ⟨0,C,au,B⟩)):=by
 have L:=aW (xF b E (fun x=>fM x i ⟨0,C,au,B⟩) (fun q=>Fx q));rw[pJ (b:=b) rfl]at L;have O:=aW (fun q=>nV (x:=b) (i:=i) (t:=⟨0,C,au,B⟩) q);obtain⟨v,cs,U,H⟩:=h.hand;obtain⟨a,cap,I,V,hn⟩:=H.mem.bj i;obtain⟨-,-,-,-,-,c5,c6,c7,c8,-⟩:=aU H.bR;have z:=Po.BP (b.snd i) a cap ⟨0,C,au,B⟩ w V hF;unfold Po.dN Po.sv Po.tv at z;generalize(Po.fV (b.snd i) ⟨0,C,au,B⟩).1=r1 at*;generalize(Po.fV (b.snd i) ⟨0,C,au,B⟩).2=r2 at*;dsimp only at z;have A:=fun(X:World) (l :bI) (Y:Hand X g aq l b v cs U (.int .i64 E))=>gQ g aq l b v cs U E r2 X Y;rcases L.out with⟨q,K⟩|⟨q,K⟩
 ·rw[K];have T:(nY E r2 !=0)=true:=by simpa using q
  rw[T]at A;generalize nY E r2=E2 at*;clear L O K q T
  cases i with
  |false=>
   rw[I]at c6;show Calls _ _ #[_,.int .i64 0,_,_,_] _ _;go_enter func52,ntmps52;go_wp2_with(first
    |(go_at_call 84;refine z.mono ?_;rintro e n ⟨u,rfl,f,d⟩;obtain⟨m,c,rfl,-,-,-⟩:=f.bQ)
    |(go_at_call 23;refine(A _ _ (H.below (aM d _))).mono ?_;rintro e w2 ⟨rfl,o,k,s⟩));go_end0;exact⟨rfl,_,k.cj,(aG (aM d _)).trans s⟩
  |true=>
   rw[I]at c8;show Calls _ _ #[_,.int .i64 1,_,_,_] _ _;go_enter func52,ntmps52;go_wp2_with(first
    |(go_at_call 84;refine z.mono ?_;rintro e n ⟨u,rfl,f,d⟩;obtain⟨m,c,rfl,-,-,-⟩:=f.bQ)
    |(go_at_call 23;refine(A _ _ (H.below (aM d _))).mono ?_;rintro e w2 ⟨rfl,o,k,s⟩));go_end0;exact⟨rfl,_,k.cj,(aG (aM d _)).trans s⟩
 ·rw[K];obtain⟨rfl,rfl⟩:=pz.1 q;rw[O.out rfl];clear L O K;have J:nY 0 0=0:=rfl;rw[J]at A;clear J q
  cases i with
  |false=>rw[I]at c6;show Calls _ _ #[_,.int .i64 0,_,_,_] _ _;go_enter func52,ntmps52;go_upto_region 1 with(go_at_call 84;refine z.mono ?_;rintro e n ⟨u,rfl,f,d⟩;obtain⟨m,c,rfl,-,-,-⟩:=f.bQ);have r:=aM d (.cells #[.int .i64 r1.bD,.slice m r1.bj.length c] 31);have G:(n.alloc (.cells #[.int .i64 r1.bD,.slice m r1.bj.length c] 31)).heap[n.heap.size]?=some (.cells #[.int .i64 r1.bD,.slice m r1.bj.length c] 31):=ah _ _ _ rfl;have p:Ap Po.kT (aT aI w.heap.size 0) _ (.slice m r1.bj.length c) r1.bj 0:=pq (f.alloc (.cells #[.int .i64 r1.bD,.slice m r1.bj.length c] 31));have N:w.heap.size≤n.heap.size:=d.size;generalize n.alloc _=W at*;generalize n.heap.size=Z at*;have S:=H.below r;have M:aT aI w.heap.size 0 Z=0:=bu N;go_upto_region 2 with(go_at_call 23;refine(A _ _ S).mono ?_;rintro e w2 ⟨rfl,o,k,s⟩);have D:=s.at G M;have F:=p.lM s;have Q:=(aG (aI:=aI) r).trans s;have R:=k.Bq (k.mem.qN false F) (i:=5) (j:=6) (x:=.int .i64 r1.bD) (y:=.slice m r1.bj.length c) (by rfl);obtain⟨-,-,-,-,-,d5,P,-⟩:=aU k.bR;have f5:=bO k.bR 5;have f6:=bO k.bR 6;obtain⟨u0,u1⟩:=iN D;rw[I]at P;clear z A c5 c6 c7 c8;go_region;all_goals go_wp2_with fail;go_end0;exact⟨rfl,_,R.cj.drew,(Q.trans (k.Cs _ _ _ _)).drew⟩
  |true=>rw[I]at c8;show Calls _ _ #[_,.int .i64 1,_,_,_] _ _;go_enter func52,ntmps52;go_upto_region 1 with(go_at_call 84;refine z.mono ?_;rintro e n ⟨u,rfl,f,d⟩;obtain⟨m,c,rfl,-,-,-⟩:=f.bQ);have r:=aM d (.cells #[.int .i64 r1.bD,.slice m r1.bj.length c] 31);have G:(n.alloc (.cells #[.int .i64 r1.bD,.slice m r1.bj.length c] 31)).heap[n.heap.size]?=some (.cells #[.int .i64 r1.bD,.slice m r1.bj.length c] 31):=ah _ _ _ rfl;have p:Ap Po.kT (aT aI w.heap.size 0) _ (.slice m r1.bj.length c) r1.bj 0:=pq (f.alloc (.cells #[.int .i64 r1.bD,.slice m r1.bj.length c] 31));have N:w.heap.size≤n.heap.size:=d.size;generalize n.alloc _=W at*;generalize n.heap.size=Z at*;have S:=H.below r;have M:aT aI w.heap.size 0 Z=0:=bu N;go_upto_region 2 with(go_at_call 23;refine(A _ _ S).mono ?_;rintro e w2 ⟨rfl,o,k,s⟩);have D:=s.at G M;have F:=p.lM s;have Q:=(aG (aI:=aI) r).trans s;have R:=k.Bq (k.mem.qN true F) (i:=7) (j:=8) (x:=.int .i64 r1.bD) (y:=.slice m r1.bj.length c) (by rfl);obtain⟨-,-,-,-,-,-,-,d5,P,-⟩:=aU k.bR;have f5:=bO k.bR 7;have f6:=bO k.bR 8;obtain⟨u0,u1⟩:=iN D;rw[I]at P;clear z A c5 c6 c7 c8;go_region;all_goals go_wp2_with fail;go_end0;exact⟨rfl,_,R.cj.drew,(Q.trans (k.Cs _ _ _ _)).drew⟩
set_option linter.unusedSimpArgs false
theorem Je{W:World}{z:Nat}{x:Au.Au}(h:W.heap[z]?=some (iA x))(y:Au.Au):(cY W z 0 (qx.cells y)).heap[z]?=some (iA y):=by have:= iy (qx.cells y) W z [] (qx.cells x) [] 78 rfl (by rw[h];rfl);refine Eq.trans this ?_;rfl
theorem KA(g aq:Nat)(aI:bI)(b:aJ)(w:World)(h:cC w g aq aI b (.int .i64 0))(I:Inv b):Calls prog 28 #[.pointer (some ⟨g,0,none⟩)] w (cQ w g aq aI (.tuple #[]) (mQ b,0)):=by
 obtain⟨v,cs,ds,H⟩:=h;obtain⟨a0,G,hv⟩:=H.mem.ax.form;obtain⟨-,-,-,-,c4,-⟩:=aU H.bR;rw[hv]at c4;have ay:b.ax.length≤30:=by have :=I.held.iv;omega
 have G0:ja w g aq aI (dZ b 0) (.int .i64 0) (.slice a0 b.ax.length G):=by rw[uW];exact⟨v,cs,ds,H,hv⟩
 have HI:=aW I;have a4:Hid (dZ b b.ax.length=mQ b):=aW (wM b);clear I;go_enter func28,ntmps28;go_wp2_with fail;go_loopw[11] (fun i wr=>∃(k:Nat) (l:bI),k≤b.ax.length∧i=.int .i64 k∧ja wr g aq l (dZ b k) (.int .i64 0) (.slice a0 b.ax.length G)∧ir w aI wr l) (fun i _=>b.ax.length-(intOf i).toNat);case atStart=>exact⟨0,aI,bq _,rfl,G0,ir.refl _ _⟩
 case round=>
  clear G0 c4 H;obtain⟨k,l,hk,rfl,G1,S1⟩:=hrel;by_cases o:k<b.ax.length
  ·have aw:(k :Int)<b.ax.length:=by omega
   obtain⟨a9,a3,z⟩:=FA HI.out o;have q:=tH b k;have a7:=rN b k o;have R:=tz HI.out.held k;have hg:=HI.out.held.ax _ (ev zA o);have M:Au.b_ (b.ax.getD k zA)=0:=Au.dX.2 ⟨hg.1,hg.2.1⟩;have L:Au.b_ (Au.ey (b.ax.getD k zA) b.time)=0:=Au.dX.2 ⟨hg.1,hg.2.1⟩;have a2:=gg M;have a1:=gg L;have a5:((b.ax.getD k zA).aK.toNat:Int)=(b.ax.getD k zA).aK:=by omega
   have E:∀X:World,_:=fun X=>Au.pA (b.ax.getD k zA) X M;have D:∀X:World,_:=fun X=>Au.pA (Au.ey (b.ax.getD k zA) b.time) X L;have GL:∀X:World,_:=fun X=>Au.Ac (b.ax.getD k zA) b.time X;have s:=fun(X:World) (l':bI) (v1:Vs) (cs' :List CV) (C:List DV) (U:Hand X g aq l' (dZ b k) v1 cs' C (.int .i64 0))=>Cy g aq l' (dZ b k) v1 cs' C 0 (b.ax.getD k zA).aK.toNat (Au.bK (Au.ey (b.ax.getD k zA) b.time)-Au.bK (b.ax.getD k zA)) 0 X U (by rw[R];have:= hg.2.2.1;omega);rw[a5]at s;simp only[lO]at s;rw[a3]at s;obtain⟨v1,bw,C,H1,u⟩:=G1;replace s:=fun X l' cs'=>s X l' v1 cs' C;obtain⟨ga,cap,A⟩:=H1.mem.jy (k:=k) (by rw[q];exact o);have J:=A.cells;rw[a7]at J;have n:=u.symm.trans A.val;rw[q]at n;obtain⟨rfl,-,rfl⟩:=bB n;obtain⟨x,hx⟩:∃x,Hid (x =b.ax.getD k zA):=⟨_,rfl⟩;obtain⟨y,hy⟩:∃y,Hid (y=Au.ey (b.ax.getD k zA) b.time):=⟨_,rfl⟩;rw[←hy.out]at D GL s a1 z;rw[←hx.out]at E GL s J a2;unfold Au.av at E D GL;unfold Il at s;replace z:=aW z;generalize Au.bK x=P at*;generalize Au.bK y=O at*;obtain⟨bh,bg,-⟩:=a2;obtain⟨bf,be,-⟩:=a1;have ao:IntKind.i64.wrap (O -P)=O-P:=eS (by omega) (by omega);obtain⟨q0,q1,q2,q3,q4,q5,q6,q7⟩:=J.all;have T:=ar wr (iA x);have H2:=H1.below T;have S2:=S1.trans (aG (aI:=l) T);have Z2:vw (wr.alloc (iA x)) (aT l wr.heap.size 0) wr.heap.size x:=⟨ah _ _ _ rfl,bu (aj _)⟩;have ag:k+1≤b.ax.length:=o;replace R:=aW R;replace q:=aW q;clear A J H1 hg M L a7 a3 n T S1 a5;unfold iA at H2 S2 Z2;go_upto_region 3 with fail;generalize wr.alloc _=W at*;have Q:=(aU H2.bR).1;have hT:Hid ((dZ b k).time=b.time):=aW rfl;rw[hT.out]at Q;generalize wr.heap.size=Z at*;clear q0 q1 q2 q3 q4 q5 q6 q7;have zl:=ae Z2.ab;have gl:=ae H2.bR;have kp:∀X:World,Below W.heap.size W X→X.cell? ⟨g,0,none⟩=some (.int .i64 b.time)∧nX X Z 0 x:=fun X U=>⟨(U.cell (p:=⟨g,0,none⟩) gl).trans Q,(bJ Z2.ab).on (U.block _ zl)⟩;go_cut[4]from 16 to 22 (fun p wc=>∃V,p=.pointer (some ⟨V,0,none⟩)∧W.heap.size≤V∧wc.heap[V]?=some (iA y)∧Below W.heap.size W wc)
   case first=>
    refine bm (S:=(fun X=>X.cell? ⟨g,0,none⟩=some (.int .i64 b.time)∧nX X Z 0 x)) (by kernel_rfl) (kp _ ((Below.refl _ _).drew)) (fun j=>?_);refine tj 0 (.agg #[.int .i64 x.aK,.int .i64 x.aQ,.int .i64 x.sum,.int .i64 x.cap,.int .i64 x.ref,.int .i64 x.eB,.int .i64 x.cJ,.bool x.shut]) j ?_ (hy:=by intro w' m;obtain⟨t0,J⟩:=m;obtain⟨e0,e1,e2,e3,e4,e5,e6,e7⟩:=J.all;go_simp);refine tj 1 (.pointer (some ⟨g,0,none⟩)) j ?_;refine tj 2 (.pointer (some ⟨g,0,none⟩)) j ?_;refine tj 3 (.pointer (some ⟨g,0,none⟩)) j ?_;try simp only[cU,Act.put]
    refine tj 4 (.pointer (some ⟨g,0,none⟩)) j ?_;refine tj 5 (.int .i64 b.time) j ?_ (hy:=by intro w' m;obtain⟨t0,J⟩:=m;obtain⟨e0,e1,e2,e3,e4,e5,e6,e7⟩:=J.all;go_simp);try simp only[cU,Act.put]
    refine rj [6,7] (.cons rfl (fun K d=>?_) (.cons rfl (fun K d=>?_) .nil))
    ·go_simp;refine(GL _).mono ?_;rintro e r ⟨rfl,a⟩;have a:Below W.heap.size W r:=((Below.refl _ _).drew).trans a;go_simp;refine d.out _ _ (kp _ a) (fun j=>?_);clear d K;try simp only[cU,Act.put]
     refine rj [7] (.cons rfl (fun K d=>?_) .nil);go_simp;refine d.out _ _ (kp _ (aM a _)) (fun j=>?_);clear d K;try simp only[cU,Act.put]
     refine rj [8] (.cons rfl (fun K d=>?_) .nil);go_simp;refine d.out _ _ (kp _ (aM a _)) (fun j=>?_);clear d K;try simp only[cU,Act.put]
     refine bA (by kernel_rfl) ?_ _;go_wp2_with fail;go_meet;exact⟨r.heap.size,rfl,a.size,ah r (iA y) _ rfl,aM a _⟩
    ·go_simp;refine d.out _ _ (kp _ (aM (Below.refl _ _) (.cells #[.int .i64 0,.int .i64 0,.int .i64 0,.int .i64 0,.int .i64 0,.int .i64 0,.int .i64 0,.bool false] 78)).drew) (fun j=>?_);clear d K;try simp only[cU,Act.put]
     refine rj [6] (.cons rfl (fun K d=>?_) .nil);go_simp;refine(GL _).mono ?_;rintro e r ⟨rfl,a⟩;have t:r.heap[W.heap.size]?=some (iA zA):=(a.block _ (by simp)).trans (ah _ _ _ rfl);have a:Below W.heap.size W r:=(aM (Below.refl _ _) (.cells #[.int .i64 0,.int .i64 0,.int .i64 0,.int .i64 0,.int .i64 0,.int .i64 0,.int .i64 0,.bool false] 78)).drew.trans (a.mono (by simp));go_simp;refine d.out _ _ (kp _ a) (fun j=>?_);clear d K;obtain⟨z0,z1,z2,z3,z4,z5,z6,z7⟩:=(bJ t).all;have F:∀p,r.frozen? ⟨W.heap.size,p,none⟩=false:=fun p=>by unfold iA at t;simp[World.frozen?,t]
     have bd:=F 0;have bc:=F 1;have bb:=F 2;have ba:=F 3;have b6:=F 4;have b5:=F 5;have b4:=F 6;have b3:=F 7;have hY:((((((((r.setCell ⟨W.heap.size,0,none⟩ (.int .i64 y.aK)).setCell ⟨W.heap.size,1,none⟩ (.int .i64 y.aQ)).setCell ⟨W.heap.size,2,none⟩ (.int .i64 y.sum)).setCell ⟨W.heap.size,3,none⟩ (.int .i64 y.cap)).setCell ⟨W.heap.size,4,none⟩ (.int .i64 y.ref)).setCell ⟨W.heap.size,5,none⟩ (.int .i64 y.eB)).setCell ⟨W.heap.size,6,none⟩ (.int .i64 y.cJ)).setCell ⟨W.heap.size,7,none⟩ (.bool y.shut)).heap[W.heap.size]?=some (iA y):=Je t y;have a6:Below W.heap.size W ((((((((r.setCell ⟨W.heap.size,0,none⟩ (.int .i64 y.aK)).setCell ⟨W.heap.size,1,none⟩ (.int .i64 y.aQ)).setCell ⟨W.heap.size,2,none⟩ (.int .i64 y.sum)).setCell ⟨W.heap.size,3,none⟩ (.int .i64 y.cap)).setCell ⟨W.heap.size,4,none⟩ (.int .i64 y.ref)).setCell ⟨W.heap.size,5,none⟩ (.int .i64 y.eB)).setCell ⟨W.heap.size,6,none⟩ (.int .i64 y.cJ)).setCell ⟨W.heap.size,7,none⟩ (.bool y.shut)):=cW a W.heap.size 0 (qx.cells y) (aj _);try simp only[cU,Act.put]
     refine rj [8] (.cons rfl (fun K d=>?_) .nil);go_simp;generalize((((((((r.setCell _ _).setCell _ _).setCell _ _).setCell _ _).setCell _ _).setCell _ _).setCell _ _).setCell _ _)=Y at*;refine d.out _ _ (kp _ a6) (fun j=>?_);clear d K;try simp only[cU,Act.put]
     refine bA (by kernel_rfl) ?_ _;go_wp2_with fail;go_meet;exact⟨W.heap.size,rfl,aj _,hY,a6⟩
   case rest=>
    obtain⟨V,rfl,ak,N,a⟩:=hcut;have H5:=H2.below a;have S5:=S2.trans (aG a);have Zx:=Z2.on (aG a);generalize aT l Z 0=l2 at*;have Zy:vw wc (aT l2 W.heap.size 0) V y:=⟨N,bu ak⟩;generalize aT l2 W.heap.size 0=l5 at*;generalize wc=W5 at*;have zl:=ae Zx.ab;have af:=ae N;have kq:∀X:World,Below W5.heap.size W5 X→nX X Z 0 x∧nX X V 0 y:=fun X U=>⟨(bJ Zx.ab).on (U.block _ zl),(bJ N).on (U.block _ af)⟩;clear kp a S2 H2 Z2 Q gl;go_upto_region 4 with fail;refine bm (S:=(fun X=>nX X Z 0 x∧nX X V 0 y)) (by kernel_rfl) (kq _ ((Below.refl _ _).drew)) (fun j=>?_);refine tj 0 (.pointer (some ⟨g,0,none⟩)) j ?_;refine tj 1 (.pointer (some ⟨Z,0,none⟩)) j ?_;refine tj 2 (.int .i64 x.aK) j ?_ (hy:=by intro w' m;obtain⟨Ax,Ay⟩:=m;obtain⟨e0,e1,e2,e3,e4,e5,e6,e7⟩:=Ax.all;obtain⟨f0,f1,f2,f3,f4,f5,f6,f7⟩:=Ay.all;go_simp);refine tj 3 (.agg #[.int .i64 y.aK,.int .i64 y.aQ,.int .i64 y.sum,.int .i64 y.cap,.int .i64 y.ref,.int .i64 y.eB,.int .i64 y.cJ,.bool y.shut]) j ?_ (hy:=by intro w' m;obtain⟨Ax,Ay⟩:=m;obtain⟨e0,e1,e2,e3,e4,e5,e6,e7⟩:=Ax.all;obtain⟨f0,f1,f2,f3,f4,f5,f6,f7⟩:=Ay.all;go_simp);try simp only[cU,Act.put]
    refine tj 5 (.agg #[.int .i64 x.aK,.int .i64 x.aQ,.int .i64 x.sum,.int .i64 x.cap,.int .i64 x.ref,.int .i64 x.eB,.int .i64 x.cJ,.bool x.shut]) j ?_ (hy:=by intro w' m;obtain⟨Ax,Ay⟩:=m;obtain⟨e0,e1,e2,e3,e4,e5,e6,e7⟩:=Ax.all;obtain⟨f0,f1,f2,f3,f4,f5,f6,f7⟩:=Ay.all;go_simp);try simp only[cU,Act.put]
    refine rj [4] (.cons rfl (fun K d=>?_) .nil);go_simp;refine(D _).mono ?_;rintro e wA ⟨rfl,f⟩;have f:Below W5.heap.size W5 wA:=((Below.refl _ _).drew).trans f;go_simp;refine d.out _ _ (kq _ f) (fun j=>?_);clear d K;try simp only[cU,Act.put]
    refine rj [6] (.cons rfl (fun K d=>?_) .nil);go_simp;refine(E _).mono ?_;rintro e wB ⟨rfl,c⟩;have c:Below W5.heap.size W5 wB:=f.trans (c.mono f.size);go_simp;refine d.out _ _ (kq _ c) (fun j=>?_);clear d K;refine tj 7 (.int .i64 (O-P)) j ?_;try simp only[cU,Act.put]
    refine rj [8] (.cons rfl (fun K d=>?_) .nil);go_simp;refine(s _ _ _ (H5.below c)).mono ?_;rintro e w6 ⟨rfl,an,bv,H6,S6⟩;have am:=(Zx.on (aG c)).on S6;have aa:=(Zy.on (aG c)).on S6;have S7:=(S5.trans (aG c)).trans S6;go_simp;refine d.out _ _ (⟨bJ am.ab,bJ aa.ab⟩) (fun j=>?_);clear d K;try simp only[cU,Act.put]
    refine bA (by kernel_rfl) ?_ _;clear s E D GL kq H5 S5 Zx Zy;obtain⟨gb,b0,B⟩:=H6.mem.jy (k:=k) (by show k<(dZ b k).ax.length;rw[q.out];exact o);have n:=u.symm.trans B.val;rw[show({ dZ b k with aL:=a9}:aJ).ax.length=b.ax.length from q.out]at n;obtain⟨e1,-,e2⟩:=bB n;cases e1;subst e2;have H7:=H6.tQ B y;have S8:=S7.trans (iE B.lb (by decide) (by decide) (k *8) (qx.cells y));have hn:Hid ({({ dZ b k with aL:=a9}:aJ)with ax:=(dZ b k).ax.set k y}=dZ b (k+1)):=aW z.out.symm;rw[hn.out]at H7;have G7:=(H7.Gk u).drew;have S9:=S8.drew;obtain⟨y0,y1,y2,y3,y4,y5,y6,y7⟩:=B.cells.all;obtain⟨u0,u1,u2,u3,u4,u5,u6,u7⟩:=(bJ aa.ab).all;obtain⟨-,-,-,-,c4,-⟩:=aU H6.bR;rw[u]at c4;have z0:=B.fz (k *8);have z1:=B.fz (k *8+1);have z2:=B.fz (k *8+2);have z3:=B.fz (k *8+3);have z4:=B.fz (k*8+4);have z5:=B.fz (k*8+5);have z6:=B.fz (k*8+6);have z7:=B.fz (k*8+7);clear H6 H7 S7 S8 B n;go_upto_region 5 with fail;go_region
    all_goals
     go_wp2_with fail;go_roundw;case rel=>exact⟨k+1,_,ag,by go_num,G7,S9⟩
     case measure=>simp[intOf];omega
  ·obtain rfl:k=b.ax.length:=by omega
   rw[a4.out]at G1;have bi:¬((b.ax.length :Int)<b.ax.length):=by omega
   have G2:=G1.cj;clear G1;go_wp2_with fail;go_end0;exact⟨rfl,l,G2,S1⟩
open RowKit Maps
set_option linter.unusedSimpArgs false
section
variable {P : Program} {ops : Array Oper} {Q : Exit → Act → World → Prop} {md : Region.Mode} {S : World → Prop}
theorem zq(G:Nat→Array Bool→Act→World→Prop)(h0:∀l a w,G 0 l a w→wpAnyH P md ops Q S 1 l a w)(b:∀m l a w,G (m +1) l a w→Region.ready md ops l≠[])(f:∀m l a w,G (m +1) l a w→∀i∈Region.ready md ops l,wpOp P ops Q i (fun d c=>S c∧G m (l.setIfInBounds i true) d c) a w):∀m l a w,G m l a w→wpAnyH P md ops Q S (m+1) l a w
 |0,l,a,w,h=>h0 l a w h
 |m+1,l,a,w,h=>⟨fun e=>absurd e (b m l a w h),fun i hi=>wpOp_mono (fun d c q=>⟨q.1,zq G h0 b f m _ d c q.2⟩) (f m l a w h i hi)⟩
theorem p9{i:Nat}{d:Option Tmp}{c:Op}{t:TypeId}{p:String}{e:Array Edge}{K:Act→World→Prop}{a:Act}{w:World}(f:ops[i]?=some ⟨d,c,t,p,e,none⟩)(h:∀b:Act→World→Prop,(∀ a w,K a w→b a w)→Oper.wp P ⟨d,c,t,p,e,none⟩ a w b Q):wpOp P ops Q i K a w:=wpOp_step f fun b g=>(aB (rfl:Region.wanted _ _=true)).mpr (h b g)
def Jd(md:Region.Mode)(ops:Array Oper)(p:Nat×Nat):Bool:=(ops[p.1]?).any fun o=>o.after.any fun e=>Region.binds md e&&e.on==p.2
def waits(md:Region.Mode)(ops:Array Oper)(p:Nat×List Nat):Bool:=(ops[p.1]?).any fun o=>o.after.all fun e=>!Region.binds md e||p.2.contains e.on
theorem Gz{l:Array Bool}{i:Nat}(hi:i∈Region.ready md ops l):l.getD i true=false:=by unfold Region.ready at hi;simp only[List.mem_filter,Bool.and_eq_true,Bool.not_eq_true']at hi;exact hi.2.1
theorem fR{l:Array Bool}{i j:Nat}(hi:i∈Region.ready md ops l)(h:Jd md ops (i,j)=true):l.getD j false=true:=by
 unfold Region.ready at hi;unfold Jd at h;simp only[List.mem_filter,Bool.and_eq_true]at hi;have a:=hi.2.2
 cases c:ops[i]? with
 |none=>rw[c]at h;cases h
 |some o=>rw[c]at h a;simp only[Option.any_some,Option.map_some,Option.getD_some]at h a;rw[Array.any_eq_true]at h;obtain⟨k,d,b⟩:=h;rw[Array.all_eq_true]at a;have:= a k d;simp only[Bool.and_eq_true,beq_iff_eq]at b;rw[b.1,b.2]at this;simpa using this
theorem I8{l:Array Bool}{i:Nat}{T:List Nat}(h:waits md ops (i,T)=true)(b:l.getD i true=false)(e:(T.all fun j=>l.getD j false)=true):i∈Region.ready md ops l:=by
 unfold Region.ready;unfold waits at h
 cases a:ops[i]? with
 |none=>rw[a]at h;cases h
 |some o=>
  rw[a]at h;simp only[Option.any_some]at h;rw[List.mem_filter];refine⟨List.mem_range.2 (Array.getElem?_eq_some_iff.1 a).1,?_⟩;rw[b,a];simp only[vJ,Bool.true_and,Option.map_some,Option.getD_some];rw[Array.all_eq_true]at h⊢;intro k c;have :=h k c
  cases d:Region.binds md o.after[k]with
  |false=>rfl
  |true=>rw[d]at this;simp only[AT,Bool.false_or]at this⊢;exact List.all_eq_true.1 e _ (by simpa using this)
end
theorem LF:Keyed prog 3:=int_keyed underlying3
theorem LD(w:World):(zeroValue 3).run prog w=.ok (.int .i64 0) w:=by kernel_rfl
abbrev t_(w:World)(q n:Nat)(D:DataW Unit):Prop:=w.ownsMap prog 3 (plainElem prog 3) q n D
theorem KO{w b:World}{q n:Nat}{D:DataW Unit}(h:t_ w q n D)(c:b.heap[q]?=w.heap[q]?):t_ b q n D:=by obtain⟨e,a,d,r⟩:=h;exact⟨e,a,c.trans d,r⟩
theorem Kc{W w:World}{z q n:Nat}{D:DataW Unit}(h:t_ w q n D)(f:Below z W w)(c:z≤q)(b:z≤w.heap.size)(l:n≤8){x v:Int}(i:1≤x∧x≤8)(j:-1000000≤v∧v≤1000000):∃a,(Instr.mapUpdate 122 (.map (some q)) (.int .i64 x) (.int .i64 v)).run prog w=.ok () a∧Below z W a∧t_ a q (n+1) (D.put (.int .i64 x) (.lit (.int .i64 v))):=by obtain⟨a,h1,h2,g⟩:=h.update (t:=122) (e:=3) LF underlying122 (by unfold maxLen;omega) (keyOf_int_mk underlying3 (WalkArith.wf_i64 (n:=x) (by omega))) (plainElem_int underlying3 (WalkArith.wf_i64 (n:=v) (by omega)));exact⟨a,h1,f.grown g b (fun k d=>by cases d;exact c),h2⟩
def F_(n:Int)(d c b a:Bool)(j:Int):Int:=if d=true∧j=2 then-n else if c=true∧j=3 then-n else if b=true∧j=6 then n else if a=true∧j=8 then-n else 0
structure Tb(n:Int)(i2 i3 i6 i8:Bool)(D:DataW Unit):Prop where
 is:IsMap D
 at':∀j:Int,D.atKey (.int .i64 j) (.lit (.int .i64 0))=.lit (.int .i64 (F_ n i2 i3 i6 i8 j))
theorem KL(n:Int):Tb n false false false false (.map []):=⟨isMap_empty,fun j=>by simp[F_];rfl⟩
theorem Tb.put{n:Int}{l k g f d c b a:Bool}{D:DataW Unit}(h:Tb n l k g f D)(x v:Int)(m:∀j,F_ n d c b a j=if j=x then v else F_ n l k g f j):Tb n d c b a (D.put (.int .i64 x) (.lit (.int .i64 v))):=by
 refine⟨h.is.put _ _,fun i=>?_⟩;rw[m i];by_cases e:i=x;·subst e;rw[atKey_put_same h.is (by trivial),aB rfl]
 ·have ne:(Lit.int .i64 i)≠.int .i64 x:=fun q=>by injection q with _ q;exact e q
  rw[atKey_put_other ne,h.at' i,ai e]
theorem KM(n k:Int):F_ n true true true true k=fq k n:=by
 unfold F_ fq;simp only[true_and];by_cases a:k=2;·simp[a]
 by_cases b:k=3;·simp[b]
 by_cases c:k=6;·simp[c]
 by_cases d:k=8;·simp[d]
 ·simp[a,b,c,d]
theorem L3{w:World}{q N:Nat}{D:DataW Unit}{n k:Int}{g f e d:Bool}(O:t_ w q N D)(T:Tb n g f e d D)(i:1≤k∧k≤8):(Instr.lookup 122 (.map (some q)) (.int .i64 k) false).run prog w=.ok (.int .i64 (F_ n g f e d k)) w:=by
 obtain⟨c,a,b,-⟩:=O.lookup_int (t:=122) LF underlying122 underlying3 (LD _) (keyOf_int_mk underlying3 (WalkArith.wf_i64 (n:=k) (by omega)));rw[T.at' k]at b;have h:F_ n g f e d k=c:=by simpa using b
 rw[h];exact a
def st(x:Tmp→Value)(d:Tmp)(v:Value):Tmp→Value:=fun i=>if i=d then v else x i
def yv(A:Act)(x:Tmp→Value):List Tmp→Act
 |[]=>A
 |d::l=>(yv A x l).put (some d) (x d)
theorem IH(A:Act)(x:Tmp→Value)(d:Tmp)(v:Value):∀l:List Tmp,d∉l→yv A (st x d v) l=yv A x l
 |[],_=>rfl
 |e::l,h=>by have h1:e≠d:=fun q=>h (q ▸bT);have h2:d∉l:=fun q=>h (cR _ q);simp only[yv,IH A x d v l h2,st,ai h1]
theorem JP(a:Act)(d:Tmp)(u v:Value):(a.put (some d) u).put (some d) v=a.put (some d) v:=by simp[Act.put]
theorem oJ(A:Act)(x:Tmp→Value)(d:Tmp)(v:Value):∀l:List Tmp,d∈l→l.Nodup→(yv A x l).put (some d) v=yv A (st x d v) l
 |e::l,h,f=>by
  obtain⟨b,a⟩:=List.nodup_cons.1 f;by_cases q:e=d;·subst q;simp only[yv,IH A x e v l b,JP,st,if_true]
  ·have h2:d∈l:=(List.mem_cons.1 h).resolve_left (fun z=>q z.symm);simp only[yv];rw[Act.put_comm _ _ _ (fun z c=>by cases c;intro y;cases y;exact q rfl),oJ A x d v l h2 a];simp only[st,ai q]
theorem zn(A:Act)(x:Tmp→Value):∀l:List Tmp,(yv A x l).tmps.size=A.tmps.size
 |[]=>rfl
 |e::l=>by simp[yv,Act.put,zn A x l]
theorem ko(A:Act)(x:Tmp→Value)(d:Tmp)(b:d<A.tmps.size):∀l:List Tmp,d∈l→l.Nodup→(yv A x l).eval (.tmp d)=x d
 |e::l,h,g=>by
  obtain⟨f,a⟩:=List.nodup_cons.1 g;by_cases q:e=d;·subst q;simp[yv,Act.put,Act.eval,zn,b]
  ·have h2:d∈l:=(List.mem_cons.1 h).resolve_left (fun z=>q z.symm);rw[yv,Act.eval_put (by intro z c y;cases c;cases y;exact q rfl),ko A x d b l h2 a]
theorem nm(A:Act)(x:Tmp→Value)(d:Tmp):∀l:List Tmp,d∉l→(yv A x l).eval (.tmp d)=A.eval (.tmp d)
 |[],_=>rfl
 |e::l,h=>by have h1:e≠d:=fun q=>h (q▸bT);have h2:d∉l:=fun q=>h (cR _ q);rw[yv,Act.eval_put (by intro z a y;cases a;cases y;exact h1 rfl),nm A x d l h2]
abbrev sl:List Tmp:=[105,102,94,93,92,90]
section
variable {ops : Array Oper} {i : Nat} {a : Act} {w : World} {K : Act → World → Prop} {Q : Exit → Act → World → Prop} {t : TypeId} {p : String} {e : Array Edge}
theorem C_{d s:Tmp}{u:Au.Au}(g:ops[i]?=some ⟨some d,.call ⟨.value (.func 51),#[.tmp s],#[78]⟩,t,p,e,none⟩)(c:a.eval (.tmp s)=Au.av u)(f:Au.b_ u=0)(h:∀b,Below w.heap.size w b→K (a.put (some d) (.int .i64 (Au.bK u))) b):wpOp prog ops Q i K a w:=by
 have l:(execOp a.eval ⟨some d,.call ⟨.value (.func 51),#[.tmp s],#[78]⟩,t,p,e,none⟩).run prog w=.ok (.enter 51 #[Au.av u]) w:=by simp only[execOp,c];go_simp;simpa[Act.eval]using c
 refine p9 g fun m k=>?_;unfold Oper.wp;rw[l,Oper.upon_enter];refine(Au.pA u w f).mono ?_;rintro e b ⟨rfl,j⟩;exact k _ _ (h b j)
theorem Lq{d s r:Tmp}{x y:Int}(f:ops[i]?=some ⟨some d,.binOp .sub 3 (.tmp s) (.tmp r) 3,t,p,e,none⟩)(b:a.eval (.tmp s)=.int .i64 x)(c:a.eval (.tmp r)=.int .i64 y)(k:0≤x∧x≤1000000000)(hy:0≤y∧y≤1000000000)(h:K (a.put (some d) (.int .i64 (x -y))) w):wpOp prog ops Q i K a w:=by
 have j:(execOp a.eval ⟨some d,.binOp .sub 3 (.tmp s) (.tmp r) 3,t,p,e,none⟩).run prog w=.ok (.value (.int .i64 (x -y))) w:=by simp only[execOp,b,c];go_simp;exact IntWalk.i64_in _ (by omega)
 refine p9 f fun l g=>?_;unfold Oper.wp;rw[j,Oper.upon_value];exact g _ _ h
theorem LH{d s:Tmp}{v:Value}(c:ops[i]?=some ⟨some d,.move (.tmp s),t,p,e,none⟩)(b:a.eval (.tmp s)=v)(h:K (a.put (some d) v) w):wpOp prog ops Q i K a w:=by
 have g:(execOp a.eval ⟨some d,.move (.tmp s),t,p,e,none⟩).run prog w=.ok (.value v) w:=by rw[←b];rfl
 refine p9 c fun j f=>?_;unfold Oper.wp;rw[g,Oper.upon_value];exact f _ _ h
theorem JD{d:Tmp}(b:ops[i]?=some ⟨some d,.makeMap 122 none,t,p,e,none⟩)(h:K (a.put (some d) (.map (some w.heap.size))) (w.alloc (.map #[] 0))):wpOp prog ops Q i K a w:=by
 have c:=@run_makeMap prog;have g:(execOp a.eval ⟨some d,.makeMap 122 none,t,p,e,none⟩).run prog w=.ok (.value (.map (some w.heap.size))) (w.alloc (.map #[] 0)):=by simp only[execOp];go_simp
 refine p9 b fun j f=>?_;unfold Oper.wp;rw[g,Oper.upon_value];exact f _ _ h
theorem yn{m s:Tmp}{q:Nat}{x v:Int}{b:World}(d:ops[i]?=some ⟨none,.insert 122 (.tmp m) (.const (.int .i64 x)) (.tmp s),t,p,e,none⟩)(f:a.eval (.tmp m)=.map (some q))(c:a.eval (.tmp s)=.int .i64 v)(l:(Instr.mapUpdate 122 (.map (some q)) (.int .i64 x) (.int .i64 v)).run prog w=.ok () b)(h:K a b):wpOp prog ops Q i K a w:=by
 have k:(execOp a.eval ⟨none,.insert 122 (.tmp m) (.const (.int .i64 x)) (.tmp s),t,p,e,none⟩).run prog w=.ok .skip b:=by have g:a.eval (.const (.int .i64 x))=.int .i64 x:=rfl;simp only[execOp,f,c,g];go_simp
 refine p9 d fun n j=>?_;unfold Oper.wp;rw[k,Oper.upon_skip];exact j _ _ h
theorem Kg{d m s:Tmp}{q:Nat}{x v:Int}(c:ops[i]?=some ⟨some d,.lookup 122 (.tmp m) (.tmp s) false,t,p,e,none⟩)(f:a.eval (.tmp m)=.map (some q))(b:a.eval (.tmp s)=.int .i64 x)(k:(Instr.lookup 122 (.map (some q)) (.int .i64 x) false).run prog w=.ok (.int .i64 v) w)(h:K (a.put (some d) (.int .i64 v)) w):wpOp prog ops Q i K a w:=by
 have j:(execOp a.eval ⟨some d,.lookup 122 (.tmp m) (.tmp s) false,t,p,e,none⟩).run prog w=.ok (.value (.int .i64 v)) w:=by simp only[execOp,f,b];go_simp
 refine p9 c fun l g=>?_;unfold Oper.wp;rw[j,Oper.upon_value];exact g _ _ h
end
theorem Ki(a b c d:Bool):a.toNat+b.toNat+c.toNat+d.toNat≤8:=by cases a<;>cases b<;>cases c<;>cases d<;>decide
def lb(c4 c6 c7 c8 f e d c b a:Bool):Array Bool:=#[true,true,true,true,c4,true,c6,c7,c8,true,true,f,true,true,e,true,d,true,true,c,b,true,true,a,false]
theorem L0{c4 c6 c7 c8 f e d c b a:Bool}{i:Nat}(h:(lb c4 c6 c7 c8 f e d c b a).getD i true=false):(i =4∧c4=false)∨(i =6∧c6=false)∨(i =7∧c7=false)∨(i =8∧c8=false)∨(i =11∧f=false)∨(i =14∧e=false)∨(i =16∧d=false)∨(i =19∧c=false)∨(i =20∧b=false)∨(i =23∧a=false)∨i=24:=by
 by_cases g:i<25
 ·have q:i=0∨i=1∨i=2∨i=3∨i=4∨i=5∨i=6∨i=7∨i=8∨i=9∨i=10∨i=11∨i=12∨i=13∨i=14∨i=15∨i=16∨i=17∨i=18∨i=19∨i=20∨i=21∨i=22∨i=23∨i=24:=by omega
  rcases q with rfl|rfl|rfl|rfl|rfl|rfl|rfl|rfl|rfl|rfl|rfl|rfl|rfl|rfl|rfl|rfl|rfl|rfl|rfl|rfl|rfl|rfl|rfl|rfl|rfl;all_goals simp[lb]at h⊢
  all_goals exact h
 ·simp[lb,Array.getD,g]at h
def core(o:Oper):Option Tmp×Op×Option (Nat ×Bool):=(o.dst,o.op,o.guard)
theorem lx{ops:Array Oper}{i:Nat}{d:Option Tmp}{a:Op}(h:(ops[i]?).map core=some (d,a,none)):∃t p e,ops[i]?=some ⟨d,a,t,p,e,none⟩:=by
 cases b:ops[i]? with
 |none=>rw[b]at h;cases h
 |some o=>rw[b]at h;obtain⟨g,c,t,p,e,f⟩:=o;simp only[Option.map_some,core,cS,Prod.mk.injEq]at h;obtain⟨rfl,rfl,rfl⟩:=h;exact⟨_,_,_,rfl⟩
structure Lm(ops:Array Oper):Prop where
 o4:(ops[4]?).map core=some (some 90,.call ⟨.value (.func 51),#[.tmp 89],#[78]⟩,none)
 o6:(ops[6]?).map core=some (some 92,.call ⟨.value (.func 51),#[.tmp 91],#[78]⟩,none)
 o7:(ops[7]?).map core=some (some 93,.binOp .sub 3 (.tmp 90) (.tmp 92) 3,none)
 o8:(ops[8]?).map core=some (some 94,.makeMap 122 none,none)
 M7:(ops[11]?).map core=some (none,.insert 122 (.tmp 94) (.const (.int .i64 2)) (.tmp 96),none)
 MW:(ops[14]?).map core=some (none,.insert 122 (.tmp 94) (.const (.int .i64 3)) (.tmp 98),none)
 MX:(ops[16]?).map core=some (none,.insert 122 (.tmp 94) (.const (.int .i64 6)) (.tmp 99),none)
 MT:(ops[19]?).map core=some (none,.insert 122 (.tmp 94) (.const (.int .i64 8)) (.tmp 101),none)
 M6:(ops[20]?).map core=some (some 102,.move (.tmp 94),none)
 MU:(ops[23]?).map core=some (some 105,.lookup 122 (.tmp 102) (.tmp 104) false,none)
 dep:([(6,4),(7,6),(11,8),(14,8),(16,8),(19,8),(20,8),(20,11),(20,14),(20,16),(20,19),(23,20),(24,7),(24,23)].all (Jd .any ops))=true
 wt:([(4,[3]),(6,[5,4]),(7,[4,6]),(8,[]),(11,[8,10]),(14,[8,13]),(16,[8,15]),(19,[8,18]),(20,[8,9,10,11,12,13,14,15,16,17,18,19]),(23,[20,22])].all (waits .any ops))=true
structure MB(w0:World)(h1 h0 n k:Int)(c4 c6 c7 c8 i2 i3 i6 i8 c20 c23:Bool)(x:Tmp→Value)(w:World):Prop where
 Mi:c4=true→x 90=.int .i64 h1
 Mh:c6=true→x 92=.int .i64 h0
 MA:c7=true→x 93=.int .i64 (h1-h0)mp:c8=true→∃q D,x 94=.map (some q)∧w0.heap.size≤q∧t_ w q (i2.toNat +i3.toNat+i6.toNat+i8.toNat) D∧Tb n i2 i3 i6 i8 D∧(c20=true→x 102=.map (some q))KZ:c23=true→x 105=.int .i64 (fq k n)bel:Below w0.heap.size w0 w
 p6:c6=true→c4=true
 p7:c7=true→c6=true
 p8:c8=false→i2=false∧i3=false∧i6=false∧i8=false
 Fy:c20=true→i2=true∧i3=true∧i6=true∧i8=true
 Mk:c23=true→c20=true
def AS(A:Act)(h:World)(h1 h0 n k:Int)(m:Nat)(l:Array Bool)(a:Act)(w:World):Prop:=∃c4 c6 c7 c8 g f e d c b x,l=lb c4 c6 c7 c8 g f e d c b∧a=yv A x sl∧m+c4.toNat+c6.toNat+c7.toNat+c8.toNat+g.toNat+f.toNat+e.toNat+d.toNat+c.toNat+b.toNat=10∧MB h h1 h0 n k c4 c6 c7 c8 g f e d c b x w
theorem Lt{ops:Array Oper}(I:Lm ops){A:Act}{p:World}{h1 h0 n k:Int}{m:Nat}{l:Array Bool}{a:Act}{w:World}(h:AS A p h1 h0 n k (m+1) l a w):Region.ready .any ops l≠[]:=by
 obtain⟨c4,c6,c7,c8,o,g,e,d,c,b,x,rfl,-,r,-⟩:=h;intro q;have f:∀i T,waits .any ops (i,T)=true→(lb c4 c6 c7 c8 o g e d c b).getD i true=false→(T.all fun j=>(lb c4 c6 c7 c8 o g e d c b).getD j false)=true→False:=fun i T h1 h2 s=>by have:= I8 h1 h2 s;rw[q]at this;cases this
 have W:=List.all_eq_true.1 I.wt;cases c4;·exact f 4 _ (W (4,[3]) (by simp)) rfl rfl
 cases c6;·exact f 6 _ (W (6,[5,4]) (by simp)) rfl rfl
 cases c7;·exact f 7 _ (W (7,[4,6]) (by simp)) rfl rfl
 cases c8;·exact f 8 _ (W (8,[]) (by simp)) rfl rfl
 cases o;·exact f 11 _ (W (11,[8,10]) (by simp)) rfl rfl
 cases g;·exact f 14 _ (W (14,[8,13]) (by simp)) rfl rfl
 cases e;·exact f 16 _ (W (16,[8,15]) (by simp)) rfl rfl
 cases d;·exact f 19 _ (W (19,[8,18]) (by simp)) rfl rfl
 cases c;·exact f 20 _ (W (20,[8,9,10,11,12,13,14,15,16,17,18,19]) (by simp)) rfl rfl
 cases b;·exact f 23 _ (W (23,[20,22]) (by simp)) rfl rfl
 ·simp at r
theorem II{ops:Array Oper}{Q:Exit→Act→World→Prop}{S:World→Prop}{A:Act}{L:World}{u1 u0:Au.Au}{n k:Int}(I:Lm ops)(u:106<A.tmps.size)(a4:A.eval (.tmp 89)=Au.av u1)(a3:A.eval (.tmp 91)=Au.av u0)(a2:A.eval (.tmp 96)=.int .i64 (-n))(a1:A.eval (.tmp 98)=.int .i64 (-n))(Z:A.eval (.tmp 99)=.int .i64 n)(U:A.eval (.tmp 101)=.int .i64 (-n))(T:A.eval (.tmp 104)=.int .i64 k)(X:Au.b_ u1=0)(Y:Au.b_ u0=0)(hn:1≤n∧n≤1000000)(hk:1≤k∧k≤8)(b1:0≤Au.bK u1∧Au.bK u1≤1000000000)(b0:0≤Au.bK u0∧Au.bK u0≤1000000000)(J:∀w,Below L.heap.size L w→S w)(m:Nat)(l:Array Bool)(a:Act)(w:World)(h:AS A L (Au.bK u1) (Au.bK u0) n k (m+1) l a w)(i:Nat)(hi:i∈Region.ready .any ops l):wpOp prog ops Q i (fun a' f=>S f∧AS A L (Au.bK u1) (Au.bK u0) n k m (l.setIfInBounds i true) a' f) a w:=by
 obtain⟨c4,c6,c7,c8,s,r,o,g,b,c,x,rfl,rfl,G,H⟩:=h;have N:=List.all_eq_true.1 I.dep;have R:∀{f},Below w.heap.size w f→c8=true→∃q D,x 94=.map (some q)∧L.heap.size≤q∧t_ f q (s.toNat +r.toNat+o.toNat+g.toNat) D∧Tb n s r o g D∧(b =true→x 102=.map (some q)):=fun O z=>by obtain⟨q,D,m1,m2,B,C,F⟩:=H.mp z;exact⟨q,D,m1,m2,KO B (O.block _ B.lt),C,F⟩
 rcases L0 (Gz hi)with⟨rfl,rfl⟩|⟨rfl,rfl⟩|⟨rfl,rfl⟩|⟨rfl,rfl⟩|⟨rfl,rfl⟩|⟨rfl,rfl⟩|⟨rfl,rfl⟩|⟨rfl,rfl⟩|⟨rfl,rfl⟩|⟨rfl,rfl⟩|rfl;·obtain⟨t,p,e,d⟩:=lx I.o4;refine C_ d ((nm A x 89 sl (by decide)).trans a4) X fun f O=>?_;have y:=H.bel.trans (O.mono H.bel.size);refine⟨J f y,true,c6,c7,c8,s,r,o,g,b,c,st x 90 (.int .i64 (Au.bK u1)),rfl,oJ _ _ _ _ _ (by decide) (by decide),by simp at G⊢;omega,?_⟩;exact{H with Mi:=fun _=>rfl,mp:=R O,bel:=y,p6:=fun _=>rfl}
 ·obtain⟨t,p,e,d⟩:=lx I.o6;have d4:c4=true:=fR hi (N (6,4) (by simp));refine C_ d ((nm A x 91 sl (by decide)).trans a3) Y fun f O=>?_;have y:=H.bel.trans (O.mono H.bel.size);refine⟨J f y,c4,true,c7,c8,s,r,o,g,b,c,st x 92 (.int .i64 (Au.bK u0)),rfl,oJ _ _ _ _ _ (by decide) (by decide),by simp at G⊢;omega,?_⟩;exact{H with Mh:=fun _=>rfl,mp:=R O,bel:=y,p6:=fun _=>d4,p7:=fun _=>rfl}
 ·obtain⟨t,p,e,d⟩:=lx I.o7;have K:c6=true:=fR hi (N (7,6) (by simp));refine Lq d ((ko A x 90 (bp (by decide) u) sl (by decide) (by decide)).trans (H.Mi (H.p6 K))) ((ko A x 92 (bp (by decide) u) sl (by decide) (by decide)).trans (H.Mh K)) b1 b0 ?_;refine⟨J w H.bel,c4,c6,true,c8,s,r,o,g,b,c,st x 93 (.int .i64 (Au.bK u1-Au.bK u0)),rfl,oJ _ _ _ _ _ (by decide) (by decide),by simp at G⊢;omega,?_⟩;exact{H with MA:=fun _=>rfl,p7:=fun _=>K}
 ·obtain⟨t,p,e,d⟩:=lx I.o8;obtain⟨rfl,rfl,rfl,rfl⟩:=H.p8 rfl;have y:Below L.heap.size L (w.alloc (.map #[] 0)):=H.bel.alloc H.bel.size _;refine JD d (⟨J _ y,c4,c6,c7,true,false,false,false,false,b,c,st x 94 (.map (some w.heap.size)),rfl,oJ _ _ _ _ _ (by decide) (by decide),by simp at G⊢;omega,?_⟩);exact{H with mp:=fun _=>⟨w.heap.size,.map [],rfl,H.bel.size,World.ownsMap_made w prog 3 (plainElem prog 3),KL n,fun z=>by have :=H.Fy z;simp at this⟩,bel:=y,p8:=fun _=>⟨rfl,rfl,rfl,rfl⟩}
 ·obtain⟨t,p,e,d⟩:=lx I.M7;have d8:=fR hi (N (11,8) (by simp));obtain rfl:c8=true:=d8;obtain⟨q,D,m1,m2,B,C,F⟩:=H.mp rfl;obtain⟨f,r1,r2,M⟩:=Kc B H.bel m2 (bE (aj _) H.bel.size) (Ki _ _ _ _) (x:=2) (by omega) (v:=-n) (by omega);refine yn d ((ko A x 94 (bp (by decide) u) sl (by decide) (by decide)).trans m1) ((nm A x 96 sl (by decide)).trans a2) r1 (⟨J f r2,c4,c6,c7,true,true,r,o,g,b,c,x,rfl,rfl,by simp at G⊢;omega,?_⟩);exact{H with
   mp:=fun _=>⟨q,_,m1,m2,by rw[show true.toNat+r.toNat+o.toNat+g.toNat=false.toNat+r.toNat+o.toNat+g.toNat+1 by simp;try omega];exact M,C.put 2 (-n) (fun j=>by unfold F_;by_cases z:j=2<;>simp[z]),F⟩
   bel:=r2
   p8:=fun z=>by cases z
   Fy:=fun z=>by have:= H.Fy z;simp at this}
 ·obtain⟨t,p,e,d⟩:=lx I.MW;have d8:=fR hi (N (14,8) (by simp));obtain rfl:c8=true:=d8;obtain⟨q,D,m1,m2,B,C,F⟩:=H.mp rfl;obtain⟨f,r1,r2,M⟩:=Kc B H.bel m2 (bE (aj _) H.bel.size) (Ki _ _ _ _) (x:=3) (by omega) (v:=-n) (by omega);refine yn d ((ko A x 94 (bp (by decide) u) sl (by decide) (by decide)).trans m1) ((nm A x 98 sl (by decide)).trans a1) r1 (⟨J f r2,c4,c6,c7,true,s,true,o,g,b,c,x,rfl,rfl,by simp at G⊢;omega,?_⟩);exact{H with
   mp:=fun _=>⟨q,_,m1,m2,by rw[show s.toNat+true.toNat+o.toNat+g.toNat=s.toNat+false.toNat+o.toNat+g.toNat+1 by simp;try omega];exact M,C.put 3 (-n) (fun j=>by unfold F_;by_cases z:j=3<;>simp[z]),F⟩
   bel:=r2
   p8:=fun z=>by cases z
   Fy:=fun z=>by have:= H.Fy z;simp at this}
 ·obtain⟨t,p,e,d⟩:=lx I.MX;have d8:=fR hi (N (16,8) (by simp));obtain rfl:c8=true:=d8;obtain⟨q,D,m1,m2,B,C,F⟩:=H.mp rfl;obtain⟨f,r1,r2,M⟩:=Kc B H.bel m2 (bE (aj _) H.bel.size) (Ki _ _ _ _) (x:=6) (by omega) (v:=n) (by omega);refine yn d ((ko A x 94 (bp (by decide) u) sl (by decide) (by decide)).trans m1) ((nm A x 99 sl (by decide)).trans Z) r1 (⟨J f r2,c4,c6,c7,true,s,r,true,g,b,c,x,rfl,rfl,by simp at G⊢;omega,?_⟩);exact{H with
   mp:=fun _=>⟨q,_,m1,m2,by rw[show s.toNat+r.toNat+true.toNat+g.toNat=s.toNat+r.toNat+false.toNat+g.toNat+1 by simp;try omega];exact M,C.put 6 (n) (fun j=>by unfold F_;by_cases z:j=6<;>simp[z]),F⟩
   bel:=r2
   p8:=fun z=>by cases z
   Fy:=fun z=>by have:= H.Fy z;simp at this}
 ·obtain⟨t,p,e,d⟩:=lx I.MT;have d8:=fR hi (N (19,8) (by simp));obtain rfl:c8=true:=d8;obtain⟨q,D,m1,m2,B,C,F⟩:=H.mp rfl;obtain⟨f,r1,r2,M⟩:=Kc B H.bel m2 (bE (aj _) H.bel.size) (Ki _ _ _ _) (x:=8) (by omega) (v:=-n) (by omega);refine yn d ((ko A x 94 (bp (by decide) u) sl (by decide) (by decide)).trans m1) ((nm A x 101 sl (by decide)).trans U) r1 (⟨J f r2,c4,c6,c7,true,s,r,o,true,b,c,x,rfl,rfl,by simp at G⊢;omega,?_⟩);exact{H with
   mp:=fun _=>⟨q,_,m1,m2,by rw[show s.toNat+r.toNat+o.toNat+true.toNat=s.toNat+r.toNat+o.toNat+false.toNat+1 by simp;try omega];exact M,C.put 8 (-n) (fun j=>by unfold F_;by_cases z:j=8<;>simp[z]),F⟩
   bel:=r2
   p8:=fun z=>by cases z
   Fy:=fun z=>by have:= H.Fy z;simp at this}
 ·obtain⟨t,p,e,d⟩:=lx I.M6;obtain rfl:c8=true:=fR hi (N (20,8) (by simp));have P:s=true:=fR hi (N (20,11) (by simp));have V:r=true:=fR hi (N (20,14) (by simp));have K:o=true:=fR hi (N (20,16) (by simp));have d8:g=true:=fR hi (N (20,19) (by simp));obtain⟨q,D,m1,m2,B,C,F⟩:=H.mp rfl;refine LH d ((ko A x 94 (bp (by decide) u) sl (by decide) (by decide)).trans m1) (⟨J w H.bel,c4,c6,c7,true,s,r,o,g,true,c,st x 102 (.map (some q)),rfl,oJ _ _ _ _ _ (by decide) (by decide),by simp at G⊢;omega,?_⟩);exact{H with mp:=fun _=>⟨q,D,m1,m2,B,C,fun _=>rfl⟩,Fy:=fun _=>⟨P,V,K,d8⟩,Mk:=fun _=>rfl}
 ·obtain⟨t,p,e,d⟩:=lx I.MU;have E:b=true:=fR hi (N (23,20) (by simp));obtain⟨P,V,K,d8⟩:=H.Fy E;cases c8;·have :=(H.p8 rfl).1;rw[P]at this;cases this
  obtain⟨q,D,m1,m2,B,C,F⟩:=H.mp rfl;have hl:=L3 B C hk;rw[P,V,K,d8,KM]at hl;refine Kg d ((ko A x 102 (bp (by decide) u) sl (by decide) (by decide)).trans (F E)) ((nm A x 104 sl (by decide)).trans T) hl (⟨J w H.bel,c4,c6,c7,true,s,r,o,g,b,true,st x 105 (.int .i64 (fq k n)),rfl,oJ _ _ _ _ _ (by decide) (by decide),by simp at G⊢;omega,?_⟩);exact{H with KZ:=fun _=>rfl,Mk:=fun _=>E}
 ·have d7:c7=true:=fR hi (N (24,7) (by simp));have W:c=true:=fR hi (N (24,23) (by simp));have E:=H.Mk W;obtain⟨P,V,K,d8⟩:=H.Fy E;have e6:=H.p7 d7;have e4:=H.p6 e6;cases c8;·have:= (H.p8 rfl).1;rw[P]at this;cases this
  simp[d7,W,E,P,V,K,d8,e6,e4]at G
theorem ML{ops:Array Oper}{Q:Exit→Act→World→Prop}{S:World→Prop}{A:Act}{b:World}{u1 u0:Au.Au}{n k:Int}(I:Lm ops)(o:106<A.tmps.size)(v:A.eval (.tmp 89)=Au.av u1)(u:A.eval (.tmp 91)=Au.av u0)(s:A.eval (.tmp 96)=.int .i64 (-n))(r:A.eval (.tmp 98)=.int .i64 (-n))(p:A.eval (.tmp 99)=.int .i64 n)(e:A.eval (.tmp 101)=.int .i64 (-n))(d:A.eval (.tmp 104)=.int .i64 k)(i:Au.b_ u1=0)(j:Au.b_ u0=0)(G:1≤n∧n≤1000000)(J:1≤k∧k≤8)(b1:0≤Au.bK u1∧Au.bK u1≤1000000000)(M:0≤Au.bK u0∧Au.bK u0≤1000000000)(K:∀w,Below b.heap.size b w→S w)(x:Tmp→Value)(L:A=yv A x sl)(fin:∀q w,Below b.heap.size b w→wpAnyH prog .any ops Q S 1 (lb true true true true true true true true true true)
   ((((((A.put (some 90) (.int .i64 (Au.bK u1))).put (some 92) (.int .i64 (Au.bK u0))).put (some 93) (.int .i64 (Au.bK u1-Au.bK u0))).put (some 94) (.map (some q))).put (some 102) (.map (some q))).put (some 105) (.int .i64 (fq k n))) w):wpAnyH prog .any ops Q S 11 (lb false false false false false false false false false false) A b:=by
 refine zq (AS A b (Au.bK u1) (Au.bK u0) n k) ?_ (fun m l a w h=>Lt I h) (II I o v u s r p e d i j G J b1 M K) 10 _ _ _ ⟨false,false,false,false,false,false,false,false,false,false,x,rfl,L,rfl,?_⟩
 ·rintro l a w ⟨c4,c6,c7,c8,E,C,B,y,g,f,x,rfl,rfl,P,H⟩
  obtain⟨rfl,rfl,rfl,rfl,rfl,rfl,rfl,rfl,rfl,rfl⟩:c4=true∧c6=true∧c7=true∧c8=true∧E=true∧C=true∧B=true∧y=true∧g=true∧f=true:=by
   have t:∀c:Bool,c.toNat≤1∧(c.toNat =1→c=true):=fun c=>by cases c<;>simp
   have:= t c4;have:= t c6;have :=t c7;have :=t c8;have :=t E;have :=t C;have :=t B;have :=t y;have:= t g;have:= t f;refine⟨?_,?_,?_,?_,?_,?_,?_,?_,?_,?_⟩;all_goals first|exact(t _).2 (by omega)
  obtain⟨q,D,m1,m2,O,N,F⟩:=H.mp rfl;have :=fin q w H.bel;simp only[yv,H.Mi rfl,H.Mh rfl,H.MA rfl,m1,F rfl,H.KZ rfl];exact this
 ·exact{Mi:=(fun z=>by cases z),Mh:=(fun z=>by cases z),MA:=(fun z=>by cases z),mp:=(fun z=>by cases z),KZ:=(fun z=>by cases z),bel:=Below.refl _ _,p6:=(fun z=>by cases z),p7:=(fun z=>by cases z),p8:=fun _=>⟨rfl,rfl,rfl,rfl⟩,Fy:=(fun z=>by cases z),Mk:=(fun z=>by cases z)}
