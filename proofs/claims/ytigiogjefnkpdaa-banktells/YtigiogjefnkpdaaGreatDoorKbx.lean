import Derived.Test.YtigiogjefnkpdaaGreatDoorKah
import Derived.Test.YtigiogjefnkpdaaGreatDoorKbp
import Derived.Test.YtigiogjefnkpdaaGreatDoorKbu
import Derived.Test.YtigiogjefnkpdaaGreatDoorKbw
set_option maxHeartbeats 4000000
set_option maxRecDepth 100000
open Go.Proofs.Tryz
namespace Go.Proofs.YtigiogjefnkpdaaGreatDoor.Bn
open RowKit Gn
theorem LI(g aq:Nat)(aI:bI)(b:aJ)(d:Dd)(w:World)(h:cC w g aq aI b (.int .i64 0))(O:KC b d)(E:∀i,Po.Fit (b.snd i).bj):Calls prog 27 #[.pointer (some ⟨g,0,none⟩),gn d] w (cQ w g aq aI (.tuple #[]) (xh b d)):=by
 unfold xh;by_cases u:b.down=true;·rw[aB u];exact Cf g aq aI b d w h u
 rw[ai u];have f:b.down=false:=by simpa using u
 by_cases z:d.n<0∨(b.ax.length:Int)≤d.n;·rw[aB z];exact Bu g aq aI b d w h f z
 rw[ai z];obtain⟨k,v⟩:∃k:Nat,d.n=k:=⟨d.n.toNat,by omega⟩;have e:b.bz d.n=b.ax.getD k zA:=by unfold aJ.bz;rw[v,bN]
 have l:k<b.ax.length:=by omega
 unfold Mq iT;rw[e];have c:=fun X=>Au.Bi (b.ax.getD k zA) d.mv d.sum X;by_cases o:Au.ez (b.ax.getD k zA) d.mv d.sum=0
 ·rw[ai (by simpa using o)];rw[Au.uy o]at c;have may:=Au.iB.1 o;obtain⟨s1,s2,y,C,-⟩:=mz may;obtain⟨o1,K,J⟩:=O.ax k l;have x:Au.b_ (Au.step (b.ax.getD k zA) d.mv d.sum)=0:=Au.dX.2 ⟨s1,s2⟩;have I:=(gg o1).2.2;have H:0≤(b.ax.getD k zA).aQ:=by have :=(Au.dX.1 o1).1;unfold Au.wj at this;omega
  obtain⟨j,a⟩:∃j:Nat,(b.ax.getD k zA).aK=j:=⟨(b.ax.getD k zA).aK.toNat,by omega⟩;obtain⟨r,t⟩:∃r:Nat,(b.ax.getD k zA).aQ=r:=⟨(b.ax.getD k zA).aQ.toNat,by omega⟩;have q:j<b.aL.length:=by omega
  have s:r<b.due.length:=by omega
  have G:b.aK (j :Int)=b.aL.getD j b7:=by unfold aJ.aK;rw[bN]
  have A:=O.rp j q;rw[←G]at A
  have m1:(1 ≤d.sum∧d.sum≤1000000)∧1≤d.mv∧d.mv≤8:=by
   by_cases B:d.mv<1∨8<d.mv;·have :=o;unfold Au.ez at this;rw[ai (by simpa using o1),aB B]at this;cases this
   by_cases D:d.sum<1∨1000000<d.sum;·have:= o;unfold Au.ez at this;rw[ai (by simpa using o1),ai B,aB D]at this;cases this
   omega
  by_cases p:d.mv=1∧(b.aK (b.ax.getD k zA).aK).m-(b.aK (b.ax.getD k zA).aK).h<d.sum;·rw[aB p];rw[a]at p;exact CK g aq aI b d w h f k v l _ _ (aW rfl) c j r (aW (y.trans a)) (aW (C.trans t)) q s O.c8 O.d8 A p.1 p.2
  ·rw[ai p];rw[a]at p;have F:(Au.step (b.ax.getD k zA) d.mv d.sum).aK=j:=y.trans a;rw[F];exact Gf g aq aI b d w h f k v l _ _ (aW rfl) c j r (aW (y.trans a)) (aW (C.trans t)) q s O.c8 O.d8 A p o1 x m1.1 m1.2 E O.due
 ·rw[aB o];rw[Au.yA o]at c;exact Eg g aq aI b d w h f k v l _ _ _ (aW rfl) c o
theorem Gl(g aq:Nat)(aI:bI)(b:aJ)(d:Dd)(w:World)(h:cC w g aq aI b (.int .i64 0))(c:d.kind=3)(O:KC b d)(m:∀i,Po.Fit (b.snd i).bj):Calls prog 12 #[.pointer (some ⟨g,0,none⟩),gn d] w (cQ w g aq aI (.int .i64 0) (xh b d)):=by have j:=fun(X:World) (l:bI) (q :cC X g aq l b (.int .i64 0))=>LI g aq l b d X q O m;unfold cQ at j;generalize xh b d=R at*;clear O m;have a:=ar w (dR d);obtain⟨v,cs,A,p⟩:=h;have H:=p.below a;have o:=aG (aI:=aI) a;have f:Dz (w.alloc (dR d)) (aT aI w.heap.size 0) w.heap.size d:=⟨ah _ _ _ rfl,bu (aj _)⟩;obtain⟨d0,u,t,s,d4,r⟩:=bs f.db;clear p a;obtain⟨id,kind,n,aQ,mv,sum⟩:=d;dsimp only at c;subst c;dsimp only at*;unfold gn at j⊢;unfold dR at d0 u t s d4 r H o f;have z:=H.cj;dsimp only at j;go_enter func12,ntmps12;go_upto_region 14 with fail;generalize w.alloc _=W at*;generalize aT aI w.heap.size 0=l1 at*;generalize w.heap.size=Z at*;go_wp2_with(go_at_call 27;refine(j _ _ z).mono ?_;rintro e w2 ⟨rfl,k,y,x⟩);go_ret;exact⟨rfl,_,y,o.trans x⟩
def DA(w:World)(g aq:Nat)(aI:bI)(r:aJ×Int×Int)(e:Ending)(a:World):Prop:=e=.returned (.int .i64 r.2.2)∧∃b' lab',cC a g aq lab' b' (.int .i64 r.2.1)∧ir w aI a lab'∧(r.2.1=0→b'=r.1)
theorem nT{w:World}{g aq:Nat}{aI:bI}{x y:aJ×Int}(b:jz x y){e:Ending}{a:World}(h:cQ w g aq aI (.int .i64 0) x e a):DA w g aq aI (two y) e a:=by obtain⟨h1,l,h2,c⟩:=h;rw[b.1]at h2;exact⟨h1,x.1,l,h2,c,fun q=>b.2 q⟩
theorem wX(a:Au.Au)(k n:Int):(Au.step a k n).aK=a.aK∧(Au.step a k n).aQ=a.aQ:=by
 unfold Au.step;repeat' split
 all_goals exact⟨rfl,rfl⟩
theorem wH{b:aJ}(I:Inv b)(d:Dd)(a:Bool):jz (wP b d.n a) (dB b d a):=by
 unfold wP dB;refine fp fun _=>?_
 cases c:b.dY (eC d.n)with
 |nil=>exact fS _
 |cons p r=>exact fp fun _=>x_ I (by rw[c];exact bT)
theorem MY(g aq:Nat)(aI:bI)(b:aJ)(d:Dd)(w:World)(h:dU w g aq aI b (.int .i64 0)){K:Nat}(I:Inv b)(B:ft K b)(G:K≤400)(O:KC b d)(k:b.days.length≤1000000)(R:∀i,Po.Fit (b.snd i).bj)(p:∀i,(b.dY i).length≤60)(u:∀i,(b.snd i).bj.length≤40):Calls prog 12 #[.pointer (some ⟨g,0,none⟩),gn d] w (DA w g aq aI (jA b d)):=by
 have c:cC w g aq aI b (.int .i64 0):=by obtain⟨v,cs,S,H,-⟩:=h;exact⟨v,cs,S,H⟩
 unfold jA;by_cases E:d.kind=1;·rw[aB E];exact(HV g aq aI b d w c E I.held.eZ).mono fun e a q=>nT (BK b d) q
 rw[ai E];by_cases D:d.kind=2;·rw[aB D];exact(Jq g aq aI b d w c D I).mono fun e a ⟨M,l,L,J⟩=>⟨M,_,l,L,J,fun _=>rfl⟩
 rw[ai D];by_cases C:d.kind=3;·rw[aB C];exact(Gl g aq aI b d w c C O R).mono fun e a q=>nT (Cj (wX _ _ _).1 (wX _ _ _).2) q
 rw[ai C];by_cases A:d.kind=4;·rw[aB A];exact(Is g aq aI b d w c A I).mono fun e a q=>nT (fS _) q
 rw[ai A];by_cases o:d.kind=5
 ·rw[aB o];by_cases q:d.n<0∨1<d.n
  ·have e:lX b d=(b,6):=by unfold lX;rw[aB q]
   rw[e];exact(JI g aq aI b d w c o q).mono fun e a q=>nT (fS _) q
  ·have Q:d.n=fe (eC d.n):=by
    obtain z|z:d.n=0∨d.n=1:=by omega
    all_goals rw[z];rfl
   refine(IE g aq aI b d w h (eC d.n) o Q p u).mono fun e a z=>nT ?_ z;unfold lX;rw[ai q];split;·exact⟨rfl,fun z=>by cases z⟩
   ·exact⟨rfl,fun _=>rfl⟩
 rw[ai o];by_cases t:d.kind=6;·rw[aB t];exact(AR g aq aI b d w h false (by simpa using t) I B G).mono fun e a q=>nT (wH I d false) q
 rw[ai t];by_cases s:d.kind=7;·rw[aB s];exact(AR g aq aI b d w h true (by simpa using s) I B G).mono fun e a q=>nT (wH I d true) q
 rw[ai s];by_cases r:d.kind=8
 ·rw[aB r];have P:jz ({ b with down:=true},(jv b).2) (jv b):=⟨rfl,fun z=>by
   unfold jv at z⊢;split at z;·cases z
   ·rename_i N;rw[ai N]⟩;exact(GJ g aq aI b d w c r).mono fun e a q=>nT P q
 rw[ai r];by_cases m:d.kind=9
 ·rw[aB m];by_cases F:b.down=true;·exact(Lg g aq aI b d w c m F I).mono fun e a q=>nT (fS _) q
  ·have e:xU b=(b,8):=by unfold xU;rw[ai F]
   rw[e];exact(EF g aq aI b d w c m (by simpa using F)).mono fun e a q=>nT (fS _) q
 rw[ai m];by_cases j:d.kind=10;·rw[aB j];exact(JX g aq aI b d w c j I.held.bt k).mono fun e a q=>nT (fS _) q
 rw[ai j];by_cases f:d.kind=11;·rw[aB f];exact(Km g aq aI b d w c f I.held.kF).mono fun e a q=>nT (EG b d) q
 rw[ai f];exact(I2 g aq aI b d w c (by omega)).mono fun e a q=>nT (x:=(b,1)) (y:=(b,1)) (fS _) q
theorem E_{K:Nat}(g aq:Nat)(aI:bI)(b:aJ)(d:Dd)(w:World)(h:dU w g aq aI b (.int .i64 0))(a:lU K b):Calls prog 12 #[.pointer (some ⟨g,0,none⟩),gn d] w (DA w g aq aI (jA b d)):=MY g aq aI b d w h a.inv a.bound a.iv (Ij a.inv a.bound a.iv d) a.days (fun i=>xp (a.inv.bD.right i)) a.inv.bD.jP (fun i=>(a.inv.bD.right i).iv)
theorem J2(b:aJ)(v:Vs):prog.built 70 [(0,.agg (bo b v))]=some (dc b v (.int .i64 0)):=by kernel_rfl
theorem uS{w:World}{ops:Array Oper}{rest:List Oper}{o:Oper}{a:Act}{Q:Exit→Act→World→Prop}(f:o.guard=none)(x:Operand)(d:o.op=.build 70 #[(0,x)])(b:aJ)(v:Vs)(c:a.eval x=.agg (bo b v))(h:wpList prog ops Q rest (a.put o.dst (.agg (dc b v (.int .i64 0)))) w):wpList prog ops Q (o::rest) a w:=by
 have e:(prog.built 70 ((#[(0,x)]:Array (Nat ×Operand)).map fun(i,x)=>(i,a.eval x)).toList)=some (dc b v (.int .i64 0)):=by
  have :((#[(0,x)]:Array (Nat×Operand)).map fun(i,x)=>(i,a.eval x)).toList=[(0,.agg (bo b v))]:=by simp[c]
  rw[this];exact J2 b v
 refine wpList_build f 70 #[(0,x)] d (by rw[e];rfl) ?_;rw[e];exact h
theorem Eb{c e:World}{a:bI}{aq:Nat}{b:aJ}{v:Vs}{cs:List CV}{g:List DV}(M:Mem c a aq b v cs g)(j:∀i,Tp kP 84 a aq c (v.wy i) (b.dY i) (wl i))(h:Below c.heap.size c e)(d:e.heap[c.heap.size]?=some (jZ b v (.int .i64 0))):dU e c.heap.size aq (aT a c.heap.size 1) b (.int .i64 0):=by have f:fh a 1 c e:=cA h;exact⟨v,cs,g,⟨M.on f (Or.inr rfl),d,bu (aj _)⟩,fun i=>(j i).move f (Or.inr (by cases i<;>decide))⟩
open RowKit Gn Maps
theorem Jv{T:List (Dd ×An)}{t:Nat}(b:Jl T)(a:t<T.length)(h0:(T[t]).1.id≠0):told (T[t]).1.id T=some (T[t]).2:=b _ (List.getElem_mem a) h0
theorem AF{b:aJ}{l:List Dd}{k t:Nat}(c:k≤l.length)(a:t<k)(h:t<(dQ b (l.take k)).2.length):((dQ b (l.take k)).2[t]).1=l.getD t zD:=by
 have e:=xw b (l.take k);have h1:((dQ b (l.take k)).2.map (·.1))[t]'(by simpa using h)=((dQ b (l.take k)).2[t]).1:=by simp
 rw[←h1];simp only[e];simp[List.getD,show t<l.length by omega]
theorem IY{b:aJ}{l:List Dd}{k:Nat}(d:k≤l.length){id:Int}(h:id=0∨∀t,t<k→(l.getD t zD).id≠id):heard (dQ b (l.take k)).2 id=none:=by
 unfold heard;rcases h with h|h;·rw[aB h]
 ·split;·rfl
  ·refine wG fun x a=>?_;obtain⟨t,c,rfl⟩:=List.mem_iff_getElem.1 a;have e:(dQ b (l.take k)).2.length=k:=by rw[pt];simp;omega
   rw[AF d (by omega) c];exact h t (by omega)
theorem EL{b:aJ}{l:List Dd}{k t:Nat}(d:k≤l.length)(c:t<k){id:Int}(h0:id≠0)(h:(l.getD t zD).id=id):heard (dQ b (l.take k)).2 id=some (((dQ b (l.take k)).2.map (·.2)).getD t (0,0)):=by
 have f:(dQ b (l.take k)).2.length=k:=by rw[pt];simp;omega
 have a:t<(dQ b (l.take k)).2.length:=by omega
 have e:=AF (b:=b) d c a;have q:=Jv (GZ b (l.take k)) a (by rw[e,h];exact h0);rw[e,h]at q;unfold heard;rw[ai h0,q];simp[List.getD,a]
structure Kw(w0 w:World)(z:Nat)(aI:bI)(b:aJ)(v:Vs)(cs:List CV)(ds:List DV)(va:Value)(L:List An)(b0:aJ)(v0:Vs):Prop where
 shown:Shown w aI b v cs ds
 bR:w.heap[z]?=some (eF b v)lz:aI z=9
 qE:∀k,aI k=0∨8<aI k
 Dr:Tp rR 53 aI w0.heap.size w va L 11
 b1:Bx w aI (w0.heap.size +1) (eF b0 v0)b2:Bx w aI (w0.heap.size+2) (fo (0,0))bel:Below w0.heap.size w0 w
 lo:∀j,j<w0.heap.size→aI j=12
theorem Kw.below{e w f:World}{z:Nat}{aI:bI}{b:aJ}{v:Vs}{cs:List CV}{l:List DV}{va:Value}{L:List An}{m:aJ}{g:Vs}(K:Kw e w z aI b v cs l va L m g)(c:Below w.heap.size w f):Kw e f z (aT aI w.heap.size 0) b v cs l va L m g:=by
 have h:=ae K.bR;have d:=cA (aI:=aI) (j:=0) c;refine⟨K.shown.go c.size (fun k a=>aV a) fun k a _=>c.block k a,(c.block _ h).trans K.bR,by rw[aV h];exact K.lz,fun k=>?_,K.Dr.move d (Or.inl rfl),K.b1.only d (Or.inl rfl),K.b2.only d (Or.inl rfl),K.bel.trans (c.mono K.bel.size),fun j i=>by rw[aV (bp i K.bel.size)];exact K.lo j i⟩;by_cases a:k<w.heap.size;·rw[aV a];exact K.qE k
 ·exact Or.inl (bu (by omega))
theorem Kw.ge{a w:World}{z:Nat}{aI:bI}{b:aJ}{v:Vs}{cs:List CV}{d:List DV}{va:Value}{L:List An}{e:aJ}{c:Vs}(K:Kw a w z aI b v cs d va L e c):a.heap.size≤z:=by
 by_cases h:z<a.heap.size;·have :=K.lo z h;rw[K.lz]at this;cases this
 ·omega
theorem Bx.on{w a:World}{aI:bI}{z j:Nat}{o:Obj}(h:Bx w aI z o)(b:fh aI j w a)(c:j≠12):Bx a aI z o:=⟨(b.block z (ae h.ob) (Or.inr (by rw[h.ol];omega))).trans h.ob,h.ol⟩
theorem Kw.put{d w:World}{z:Nat}{aI:bI}{b b':aJ}{v v':Vs}{cs cs':List CV}{h c:List DV}{va:Value}{L:List An}{f:aJ}{e:Vs}(K:Kw d w z aI b v cs h va L f e)(S:Shown w aI b' v' cs' c):Kw d (w.setCells z 0 (bo b' v').toList) z aI b' v' cs' c va L f e:=by rw[cK];have a:fh aI 9 w (cY w z 0 (bo b' v').toList):=eO w z 0 _ K.lz (by decide);exact⟨S.go a.size (fun _ _=>rfl) fun k g h0=>a.block k g (Or.inr (by rw[h0];decide)),jd K.bR,K.lz,K.qE,K.Dr.stay a (Or.inr (by decide)),K.b1.on a (by decide),K.b2.on a (by decide),cW K.bel z 0 _ K.ge,K.lo⟩
theorem Kw.grow{f w X:World}{z:Nat}{aI:bI}{b:aJ}{v:Vs}{cs:List CV}{t:List DV}{va:Value}{L:List An}{u:aJ}{o:Vs}(K:Kw f w z aI b v cs t va L u o)(n:Below w.heap.size w X):Row rR 53 X f.heap.size va L∧f.heap.size≤X.heap.size∧∀(d:World) (v2:Value) (i:List An),Row rR 53 d f.heap.size v2 i→X.grownBy d va.ownBlock→(∀j,v2.ownBlock=some j→va.ownBlock=some j∨X.heap.size≤j)→d.ownsRow f.heap.size 53 rR.size v2 i.length (rR.flat i)→(∃ lab',Kw f d z lab' b v cs t v2 i u o)∧∀q,q<w.heap.size→aI q≠11→d.heap[q]?=w.heap[q]?:=by
 have a:=K.below n;have l:∀q,q<w.heap.size→aT aI w.heap.size 0 q=aI q:=fun q h=>aV h;generalize aT aI w.heap.size 0=c at*;refine⟨a.Dr.row,a.bel.size,fun d v2 i x s y m=>?_⟩;have p:=ae a.bR;have g:fh c 11 X d:=fW s (fun k e=>a.Dr.aI k e) (by decide);refine⟨⟨aT c X.heap.size 11,a.shown.go g.size (fun k e=>aV e) fun k e h0=>g.block k e (Or.inr (by rw[h0];decide)),(g.block z p (Or.inr (by rw[a.lz];decide))).trans a.bR,by rw[aV p];exact a.lz,fun k=>?_,a.Dr.grow x (fun _=>m) y,a.b1.only g (Or.inr (by decide)),a.b2.only g (Or.inr (by decide)),a.Dr.below a.bel s (aj _) a.bel.size,fun j r=>by rw[aV (bp r a.bel.size)];exact a.lo j r⟩,fun q h m=>(g.block q (bp h n.size) (Or.inr (by rw[l q h];exact m))).trans (n.block q h)⟩;by_cases e:k<X.heap.size;·rw[aV e];exact a.qE k
 ·rw[bu (by omega)];exact Or.inr (by decide)
theorem J3{s d j r i:World}{z g:Nat}{a c e:bI}{b b':aJ}{v A v':Vs}{cs cs':List CV}{q l:List DV}{va:Value}{L:List An}{w:aJ}{t:Vs}{tm:Value}(B:Kw s d z a b v cs q va L w t)(y:Mem j c d.heap.size b A cs q)(f:Below d.heap.size d j)(m:∀k,k<d.heap.size→c k=a k)(p:Below j.heap.size j r)(x:ir r (aT c j.heap.size 1) i e)(C:Hand i g d.heap.size e b' v' cs' l tm):Below d.heap.size d i∧Kw s i z (aT a d.heap.size 0) b v cs q va L w t∧Shown i (aT a d.heap.size 0) b' v' cs' l:=by have h:=f.trans (p.mono f.size);have o:Below d.heap.size r i:=x.below h.size (fZ y.hi y.lo);have u:=h.trans o;exact⟨u,B.below u,C.mem.shown (f_:=a) fun k n=>(x.ext k (bp n h.size)).trans ((aV (bp n f.size)).trans (m k n))⟩
theorem Ke{w:World}{b:aJ}{v:Vs}:(w.alloc (.cells (dc b v (.int .i64 0)) 70)).heap[w.heap.size]?=some (jZ b v (.int .i64 0)):=by rw[ah _ _ _ rfl];rfl
theorem Kw.fin{w wr:World}{z:Nat}{aI:bI}{b:aJ}{v:Vs}{cs:List CV}{h:List DV}{va:Value}{L:List An}{o:aJ}{i:Vs}(K:Kw w wr z aI b v cs h va L o i):(wr.setCells (w.heap.size +1) 0 (bo b v).toList).heap[w.heap.size+2]?=some (fo (0,0))∧(((wr.setCells (w.heap.size +1) 0 (bo b v).toList).setCell ⟨w.heap.size+2,0,none⟩ (.int .i64 0)).setCell ⟨w.heap.size+2,1,none⟩ (.int .i64 0)).heap[w.heap.size+1]?=some (eF b v)∧(((wr.setCells (w.heap.size +1) 0 (bo b v).toList).setCell ⟨w.heap.size+2,0,none⟩ (.int .i64 0)).setCell ⟨w.heap.size+2,1,none⟩ (.int .i64 0)).heap[w.heap.size+2]?=some (fo (0,0))∧Shown (((wr.setCells (w.heap.size +1) 0 (bo b v).toList).setCell ⟨w.heap.size+2,0,none⟩ (.int .i64 0)).setCell ⟨w.heap.size+2,1,none⟩ (.int .i64 0)) (fl w.heap.size) b v cs h∧Ap rR (fl w.heap.size) (((wr.setCells (w.heap.size +1) 0 (bo b v).toList).setCell ⟨w.heap.size+2,0,none⟩ (.int .i64 0)).setCell ⟨w.heap.size+2,1,none⟩ (.int .i64 0)) va L 0∧Below w.heap.size w (((wr.setCells (w.heap.size +1) 0 (bo b v).toList).setCell ⟨w.heap.size+2,0,none⟩ (.int .i64 0)).setCell ⟨w.heap.size+2,1,none⟩ (.int .i64 0)):=by rw[cK];have n:=jd (b:=b) (v:=v) K.b1.ob;have d:=(cE wr (w.heap.size +1) 0 (w.heap.size +2) (bo b v).toList (by omega)).trans K.b2.ob;have f:=cW K.bel (w.heap.size +1) 0 (bo b v).toList (fs _);have l:=eO wr (w.heap.size +1) 0 (bo b v).toList K.b1.ol (by decide);generalize cY wr (w.heap.size+1) 0 (bo b v).toList=Y at*;have g:=oB (a:=(0,0)) d;have c:=(l.trans (iH Y ⟨w.heap.size+2,0,none⟩ (.int .i64 0) K.b2.ol (by decide))).trans (iH _ ⟨w.heap.size+2,1,none⟩ (.int .i64 0) K.b2.ol (by decide));refine⟨d,(aF _ _ _ _ (by simp)).trans ((aF _ _ _ _ (by simp)).trans n),g,(K.shown.go c.size (fun _ _=>rfl) fun k e h0=>c.block k e (Or.inr (by rw[h0];decide))).aI (fun k e=>Kx (fun j m=>Or.inr (K.lo j m)) e),AJ (K.Dr.stay c (Or.inr (by decide))),(f.setCell (p:=⟨w.heap.size+2,0,none⟩) (by simp) _).setCell (p:=⟨w.heap.size+2,1,none⟩) (by simp) _⟩
theorem DI{α:Type}{K:Kind α}{aI lab':bI}{w:World}{v:Value}{L:List α}{j:Nat}(h:Ap K aI w v L j)(d:∀k,aI k=j→lab' k=0):Ap K lab' w v L 0:=by obtain⟨a,cap,b,h2,e⟩:=h;exact⟨a,cap,b,h2,fun ad f c=>d _ (e ad f c)⟩
theorem He{w X wr:World}{aI:bI}{z:Nat}{ps:List Pa}{n:Nat}{cap:Int}{l h g va:Value}{r:aJ}{m:Vs}(O:Gb X wr aI (X.heap.size -1) z ps n cap ps.length l h g va)(b:Below w.heap.size w X)(h1:X.heap[w.heap.size+1]?=some (eF r m))(h2:X.heap[w.heap.size+2]?=some (fo (0,0))):∃lab',Kw w wr z lab' (cO ps n cap) (ny l h g va) (ps.map iR) [] (.slice none 0 0) [] r m:=by
 have s:∀k,k<X.heap.size→aI k=9:=fun k d=>by
  by_cases q:k<X.heap.size-1;·exact O.MI k q
  ·have: k=X.heap.size-1:=by omega
   rw[this];exact O.rl
 have lab':∀k j,j≠9→aI k=j→(if k=z then 9 else if k<X.heap.size then 12 else 0)=0:=fun k j f d=>by rw[ai (fun e=>f (by rw[←d,e];exact O.lb)),ai (fun e=>f (by rw[←d];exact s k e))]
 have a:=O.bR;rw[xS]at a;have o:=O.aL.ap;rw[fc]at o;have l1:=ae h1;have l2:=ae h2;have t:=O.ge;refine⟨fun k=>if k=z then 9 else if k<X.heap.size then 12 else 0,⟨DI o (fun k=>lab' k 2 (by decide)),by rw[List.map_map];rfl,fun x c=>?_,DI O.due (fun k=>lab' k 0 (by decide)),e_ _ _ _ _,fun i=>e_ _ _ _ _,fun i=>e_ _ _ _ _,DI O.used (fun k=>lab' k 0 (by decide)),DI O.bL (fun k=>lab' k 0 (by decide)),e_ _ _ _ _,e_ _ _ _ _,rfl,(fun _ c=>by cases c),e_ _ _ _ _⟩,a,aB rfl,fun k=>?_,ve,⟨(O.bel.block _ l1).trans h1,?_⟩,⟨(O.bel.block _ l2).trans h2,?_⟩,b.trans (O.bel.mono b.size),fun j f=>?_⟩;·obtain⟨p,-,rfl⟩:=List.mem_map.1 c;exact e_ _ _ _ _
 ·repeat' split
  all_goals omega
 ·show(if w.heap.size+1=z then 9 else if w.heap.size+1<X.heap.size then 12 else 0)=12;rw[ai (by omega),aB l1]
 ·show(if w.heap.size+2=z then 9 else if w.heap.size+2<X.heap.size then 12 else 0)=12;rw[ai (by omega),aB l2]
 ·show(if j=z then 9 else if j<X.heap.size then 12 else 0)=12;have :=b.size;rw[ai (by omega),aB (by omega)]
structure Lk(X Y:World)(ps:List Pa)(n:Nat)(z zd zu:Nat)(b1:aJ)(v1:Vs):Prop where
 bel:Below X.heap.size X Y
 box:Y.heap[z]?=some (eF b1 v1)due:Y.heap[zd]?=some (.cells (madeCells #[.int .i64 0] n) 3)used:Y.heap[zu]?=some (.cells (madeCells #[.int .i64 0] ps.length) 3)gz:X.heap.size≤z
 gd:X.heap.size≤zd
 gu:X.heap.size≤zu
 MM:z≠zd
 MN:z≠zu
theorem s7(X:World)(o1 a b:Obj):Below X.heap.size X (((X.alloc o1).alloc a).alloc b)∧(((X.alloc o1).alloc a).alloc b).heap[X.heap.size]?=some o1∧(((X.alloc o1).alloc a).alloc b).heap[X.heap.size+1]?=some a∧(((X.alloc o1).alloc a).alloc b).heap[X.heap.size+2]?=some b:=by have e:=ar X o1;have d:=ar (X.alloc o1) a;have c:=ar ((X.alloc o1).alloc a) b;exact⟨(e.trans (d.mono (by simp))).trans (c.mono (by simp;omega)),(c.block _ (by simp;omega)).trans ((d.block _ (by simp)).trans (ah _ _ _ rfl)),(c.block _ (by simp)).trans (ah _ _ _ (by simp)),ah _ _ _ (by simp)⟩
theorem sB{X Y:World}{ps:List Pa}{n:Nat}{cap:Int}{z c a:Nat}{b1:aJ}{f:Vs}(M:Lk X Y ps n z c a b1 f)(g:n≤8)(p8:ps.length≤8)(h0:0<X.heap.size):∃aI,Gb X (Y.setCells z 0 (bo (o_ ps n cap 0) (ny (.slice none 0 0) (.slice (some ⟨c,0,none⟩) n n) (.slice (some ⟨a,0,none⟩) ps.length ps.length) (.slice none 0 0))).toList) aI (X.heap.size-1) z ps n cap 0 (.slice none 0 0) (.slice (some ⟨c,0,none⟩) n n) (.slice (some ⟨a,0,none⟩) ps.length ps.length) (.slice none 0 0):=by rw[cK];have d:=jd (b:=o_ ps n cap 0) (v:=ny (.slice none 0 0) (.slice (some ⟨c,0,none⟩) n n) (.slice (some ⟨a,0,none⟩) ps.length ps.length) (.slice none 0 0)) M.box;have j:=cW M.bel z 0 (bo (o_ ps n cap 0) (ny (.slice none 0 0) (.slice (some ⟨c,0,none⟩) n n) (.slice (some ⟨a,0,none⟩) ps.length ps.length) (.slice none 0 0))).toList M.gz;have i:=(cE Y z 0 c (bo (o_ ps n cap 0) (ny (.slice none 0 0) (.slice (some ⟨c,0,none⟩) n n) (.slice (some ⟨a,0,none⟩) ps.length ps.length) (.slice none 0 0))).toList (fun e=>M.MM e.symm)).trans M.due;have h:=(cE Y z 0 a (bo (o_ ps n cap 0) (ny (.slice none 0 0) (.slice (some ⟨c,0,none⟩) n n) (.slice (some ⟨a,0,none⟩) ps.length ps.length) (.slice none 0 0))).toList (fun e=>M.MN e.symm)).trans M.used;have MM:=M.MM;have MN:=M.MN;have gd:=M.gd;have gu:=M.gu;have gz:=M.gz;generalize cY Y z 0 (bo (o_ ps n cap 0) (ny (.slice none 0 0) (.slice (some ⟨c,0,none⟩) n n) (.slice (some ⟨a,0,none⟩) ps.length ps.length) (.slice none 0 0))).toList=Z at*;exact⟨fun k=>if k=z∨k<X.heap.size then 9 else 0,ve,yj (w:=X) n g (i.trans (ah _ _ _ rfl).symm) _ (ai (by omega)),yj (w:=X) ps.length p8 (h.trans (ah _ _ _ rfl).symm) _ (ai (by omega)),e_ _ _ _ _,d,aB (Or.inl rfl),j,gz,aB (Or.inr (by omega)),by omega,fun k l=>aB (Or.inr (by omega))⟩
open RowKit Gn Maps
theorem Cv{w:World}{ops:Array Oper}{rest:List Oper}{o:Oper}{a:Act}{Q:Exit→Act→World→Prop}(d:o.guard=none)(t:TypeId)(x:Operand)(c:o.op=.box t x)(cs:Array Value)(b:a.eval x=.agg cs)(h:wpList prog ops Q rest (a.put o.dst (.pointer (some ⟨w.heap.size,0,none⟩))) (w.alloc (.cells cs t))):wpList prog ops Q (o::rest) a w:=by
 refine wpList_plain d fun K f=>?_;have e:(Instr.box t (a.eval x)).run prog w=.ok (.pointer (some ⟨w.heap.size,0,none⟩)) (w.alloc (.cells cs t)):=by rw[b];simp[go_sem]
 unfold Oper.wp execOp;simp only[c,Sem.run_bind,e,Result.andThen_ok];exact f _ _ h
theorem EN(n:Nat)(ps:List Pa)(a:Option Addr)(c:Nat)(cap:Int)(al:Option Addr)(cl:Nat)(l:List Dd)(w:World)(hl:Gn.bF su w a c ps)(hd:Gn.bF As w al cl l)(hE:(bV ps n cap).1=0)(ec:l.length≤150):Calls prog 5 #[qf (.slice a ps.length c) n cap,.slice al l.length cl] w (ns w ((dQ (cO ps n cap) l).1,(dQ (cO ps n cap) l).2.map (·.2),(0,0))):=by
 have ef:=hd;have gb:=yh hE;obtain⟨o1,o2,o3,o4,o5,o6⟩:=gb;have dm:=fun k (hk:k≤l.length)=>uR (n:=n) o1 (by omega) ⟨o4,o5⟩ o6 l ec k hk;have n8:n≤8:=by omega
 clear o2 o3 o4 o5 o6;replace hE:=aW hE;obtain⟨Q,am⟩:∃x,x=zB:=⟨_,rfl⟩;obtain⟨N,bb⟩:∃x,x=zV:=⟨_,rfl⟩;have I:Hid (Obj.cells #[.int .i64 0,.bool false,.slice none 0 0,.slice none 0 0,.slice none 0 0,.int .i64 0,.slice none 0 0,.int .i64 0,.slice none 0 0,.int .i64 0,.int .i64 0,.slice none 0 0,.slice none 0 0,.int .i64 0,.slice none 0 0,.slice none 0 0,.slice none 0 0,.slice none 0 0,.slice none 0 0] 43=eF Q N):=aW (by rw[am,bb];rfl);have eq:Hid (#[.int .i64 0,.bool false,.slice none 0 0,.slice none 0 0,.slice none 0 0,.int .i64 0,.slice none 0 0,.int .i64 0,.slice none 0 0,.int .i64 0,.int .i64 0,.slice none 0 0,.slice none 0 0,.int .i64 0,.slice none 0 0,.slice none 0 0,.slice none 0 0,.slice none 0 0,.slice none 0 0]=bo Q N):=aW (by rw[am,bb];rfl);have be:(bo Q N).all (·.oneCell')=true:=by rw[am,bb];exact n_
 have g3:∀Y,Shown Y (fl w.heap.size) Q N [] []:=fun Y=>by rw[am,bb];exact nC Y _
 have g5:Hid (prog.built 43 []=some (bo Q N)):=aW (by rw[am,bb];exact pU);skip;replace am:=aW am;clear bb;replace be:=aW be;have hW:=fun(X:World) (h:Gn.bF su X a c ps)=>yf ps a c (n :Int) cap X h;unfold qf Dy.fv at hW;have gc:=hd.len;unfold maxLen at gc;have e1:=ar w (gy (.slice a ps.length c) (n :Int) cap);have e2:=ar (w.alloc (gy (.slice a ps.length c) (n :Int) cap)) (eF Q N);have e3:=ar ((w.alloc (gy (.slice a ps.length c) (n:Int) cap)).alloc (eF Q N)) (fo (0,0));have hb:=(e1.trans (e2.mono (by simp))).trans (e3.mono (by simp;omega));have cq:(((w.alloc (gy (.slice a ps.length c) (n :Int) cap)).alloc (eF Q N)).alloc (fo (0,0))).heap[w.heap.size]?=some (gy (.slice a ps.length c) (n:Int) cap):=(e3.block _ (by simp;omega)).trans ((e2.block _ (by simp)).trans (ah _ _ _ rfl));have e8:(((w.alloc (gy (.slice a ps.length c) (n :Int) cap)).alloc (eF Q N)).alloc (fo (0,0))).heap[w.heap.size+1]?=some (eF Q N):=(e3.block _ (by simp)).trans (ah _ _ _ (by simp));have d6:(((w.alloc (gy (.slice a ps.length c) (n :Int) cap)).alloc (eF Q N)).alloc (fo (0,0))).heap[w.heap.size+2]?=some (fo (0,0)):=ah _ _ _ (by simp);obtain⟨W,bc⟩:∃W,((w.alloc (gy (.slice a ps.length c) (n:Int) cap)).alloc (eF Q N)).alloc (fo (0,0))=W:=⟨_,rfl⟩;rw[bc]at hb cq e8 d6;rw[←I.out]at bc;unfold gy fo at bc;dsimp only at bc;have ed:=hl.below hb;have fa:=hd.below hb;obtain⟨s0,s1,s2⟩:=d9 cq;have cm:=hW W ed;have zl:=ae d6;clear e1 e2 e3 hl hd;unfold qf;go_enter func5,ntmps5;go_upto_region 1 with fail;try rw[bc]
 clear bc;go_upto_region 2 with(go_at_call 7;refine cm.mono ?_;rintro e w1 ⟨rfl,a3⟩);have ck:=ar w1 (.cells #[.int .i64 (bV ps (n :Int) cap).1,.int .i64 (bV ps (n :Int) cap).2] 47);have f8:(w1.alloc (.cells #[.int .i64 (bV ps (n :Int) cap).1,.int .i64 (bV ps (n :Int) cap).2] 47)).heap[w1.heap.size]?=some (fo (bV ps (n :Int) cap)):=ah _ _ _ rfl;have ay:Below W.heap.size W (w1.alloc (.cells #[.int .i64 (bV ps (n:Int) cap).1,.int .i64 (bV ps (n :Int) cap).2] 47)):=a3.trans (ck.mono a3.size);generalize w1.alloc _=X at*;have g4:W.heap.size≤w1.heap.size:=a3.size;generalize w1.heap.size=zf at*;clear a3 ck hW cm s0 s1 s2;have y:X.heap[w.heap.size]?=some (gy (.slice a ps.length c) (n:Int) cap):=(ay.block _ (by omega)).trans cq;have ct:X.heap[w.heap.size+1]?=some (eF Q N):=(ay.block _ (by omega)).trans e8;have cz:X.heap[w.heap.size+2]?=some (fo (0,0)):=(ay.block _ zl).trans d6;have d7:Below w.heap.size w X:=hb.trans (ay.mono hb.size);have c9:=ed.below ay;have h5:=fa.below ay;clear cq e8 d6 hb ay ed fa;obtain⟨x0,x1,-,-⟩:=eo f8;rw[hE.out]at x0;have hs:¬(150:Int)<l.length:=by omega
 clear hE f8 x1;obtain⟨s0,s1,s2⟩:=d9 y;have eb:=fun X:World=>St.my n (by omega) X;have gl:=fun X:World=>St.my ps.length (by omega) X;have x0:0<X.drew.heap.size:=Nat.lt_of_le_of_lt (bq _) (ae y);have E:∀(Y:World) (o:Obj),Y.heap[w.heap.size]?=some (gy (.slice a ps.length c) (n :Int) cap)→(Y.alloc o).heap[w.heap.size]?=some (gy (.slice a ps.length c) (n :Int) cap):=fun Y o h=>((ar Y o).block _ (ae h)).trans h;replace y:X.drew.heap[w.heap.size]?=some (gy (.slice a ps.length c) (n :Int) cap):=y;replace ct:X.drew.heap[w.heap.size+1]?=some (eF Q N):=ct;replace cz:X.drew.heap[w.heap.size+2]?=some (fo (0,0)):=cz;replace d7:Below w.heap.size w X.drew:=d7.drew;replace c9:Gn.bF su X.drew a c ps:=c9.below (Below.refl _ _).drew;clear h5 eq be g3 g5 zl g4;go_upto_region 6 with fail;go_cut[8]from 30 to 40 (fun p wc=>∃(z5:Nat) (aI:bI) (vd vu:Value),p=.pointer (some ⟨z5,0,none⟩)∧Gb X.drew wc aI (X.drew.heap.size -1) z5 ps n cap 0 (.slice none 0 0) vd vu (.slice none 0 0))
 case first=>
  refine bm (S:=(fun Y=>Y.heap[w.heap.size]?=some (gy (.slice a ps.length c) (n :Int) cap))) (by kernel_rfl) (y) (fun u=>?_);generalize X.drew=f at*;clear s0 s1 s2;refine tj 0 (.pointer (some ⟨w.heap.size,1,none⟩)) u ?_;refine tj 1 (.int .i64 (n:Int)) u ?_ (hy:=by intro w' cn;obtain⟨y0,y1,y2⟩:=d9 cn;go_simp);refine tj 3 (.pointer (some ⟨w.heap.size,2,none⟩)) u ?_;refine tj 4 (.int .i64 cap) u ?_ (hy:=by intro w' cn;obtain⟨y0,y1,y2⟩:=d9 cn;go_simp);try simp only[Act.put]
  refine tj 5 (.pointer (some ⟨w.heap.size,0,none⟩)) u ?_;refine tj 6 (.slice a ps.length c) u ?_ (hy:=by intro w' cn;obtain⟨y0,y1,y2⟩:=d9 cn;go_simp);refine tj 7 (.int .i64 (ps.length :Int)) u ?_;try simp only[Act.put]
  refine rj [2,8,11] (.cons rfl (fun K r=>?_) (.cons rfl (fun K r=>?_) (.cons rfl (fun K r=>?_) .nil)))
  ·go_simp;refine r.out _ _ (E _ _ u) (fun u=>?_);clear r K;try simp only[cU,Act.put]
   refine rj [8,11] (.cons rfl (fun K r=>?_) (.cons rfl (fun K r=>?_) .nil))
   ·go_simp;refine r.out _ _ (E _ _ u) (fun u=>?_);clear r K;try simp only[cU,Act.put]
    refine tj 9 (.agg #[.int .i64 cap,.slice (some ⟨f.heap.size+1,0,none⟩) ps.length ps.length,.slice none 0 0]) u ?_;try simp only[Act.put]
    refine tj 10 (.agg (bo (o_ ps n cap 0) (ny (.slice none 0 0) (.slice (some ⟨f.heap.size,0,none⟩) n n) (.slice (some ⟨f.heap.size+1,0,none⟩) ps.length ps.length) (.slice none 0 0)))) u ?_ (hy:=by intro w' _;go_simp;rfl);try simp only[Act.put]
    refine rj [11] (.cons rfl (fun K r=>?_) .nil);go_simp;refine r.out _ _ (E _ _ u) (fun u=>?_);clear r K;have A:=s7 f (.cells (madeCells #[.int .i64 0] n) 3) (.cells (madeCells #[.int .i64 0] ps.length) 3) (.cells #[.int .i64 0,.bool false,.slice none 0 0,.slice none 0 0,.slice none 0 0,.int .i64 0,.slice none 0 0,.int .i64 0,.slice none 0 0,.int .i64 0,.int .i64 0,.slice none 0 0,.slice none 0 0,.int .i64 0,.slice none 0 0,.slice none 0 0,.slice none 0 0,.slice none 0 0,.slice none 0 0] 43);have M:Lk f _ ps n (f.heap.size+2) (f.heap.size) (f.heap.size+1) Q N:=⟨A.1,A.2.2.2.trans (ix some I.out),A.2.1,A.2.2.1,by omega,by omega,by omega,by omega,by omega⟩;clear A;generalize((f.alloc _).alloc _).alloc _=Y at*;obtain⟨aI,hO⟩:=sB (cap:=cap) M n8 o1 x0;try simp only[cU,Act.put]
    refine rj [12] (.cons rfl (fun K r=>?_) .nil);rw[aB (by kernel_rfl)];refine oY 43 _ _ rfl (f.heap.size +2) 0 (bo (o_ ps n cap 0) (ny (.slice none 0 0) (.slice (some ⟨f.heap.size,0,none⟩) n n) (.slice (some ⟨f.heap.size+1,0,none⟩) ps.length ps.length) (.slice none 0 0))) rfl rfl (eV M.box) gA (AK _ _ _ _ _ _ _ _ _ _ _ _ _) ?_;refine r.out _ _ ((hO.bel.block _ (ae y)).trans y) (fun u=>?_);clear r K;try simp only[Act.put]
    refine bA (by kernel_rfl) ?_ _;go_wp2_with fail;go_meet;exact⟨f.heap.size+2,aI,_,_,rfl,hO⟩
   ·go_simp;refine r.out _ _ (E _ _ u) (fun u=>?_);clear r K;try simp only[cU,Act.put]
    refine rj [8] (.cons rfl (fun K r=>?_) .nil);go_simp;refine r.out _ _ (E _ _ u) (fun u=>?_);clear r K;try simp only[cU,Act.put]
    refine tj 9 (.agg #[.int .i64 cap,.slice (some ⟨f.heap.size+2,0,none⟩) ps.length ps.length,.slice none 0 0]) u ?_;try simp only[Act.put]
    refine tj 10 (.agg (bo (o_ ps n cap 0) (ny (.slice none 0 0) (.slice (some ⟨f.heap.size,0,none⟩) n n) (.slice (some ⟨f.heap.size+2,0,none⟩) ps.length ps.length) (.slice none 0 0)))) u ?_ (hy:=by intro w' _;go_simp;rfl);have A:=s7 f (.cells (madeCells #[.int .i64 0] n) 3) (.cells #[.int .i64 0,.bool false,.slice none 0 0,.slice none 0 0,.slice none 0 0,.int .i64 0,.slice none 0 0,.int .i64 0,.slice none 0 0,.int .i64 0,.int .i64 0,.slice none 0 0,.slice none 0 0,.int .i64 0,.slice none 0 0,.slice none 0 0,.slice none 0 0,.slice none 0 0,.slice none 0 0] 43) (.cells (madeCells #[.int .i64 0] ps.length) 3);have M:Lk f _ ps n (f.heap.size +1) (f.heap.size) (f.heap.size +2) Q N:=⟨A.1,A.2.2.1.trans (ix some I.out),A.2.1,A.2.2.2,by omega,by omega,by omega,by omega,by omega⟩;clear A;generalize((f.alloc _).alloc _).alloc _=Y at*;obtain⟨aI,hO⟩:=sB (cap:=cap) M n8 o1 x0;try simp only[Act.put]
    refine rj [12] (.cons rfl (fun K r=>?_) .nil);rw[aB (by kernel_rfl)];refine oY 43 _ _ rfl (f.heap.size+1) 0 (bo (o_ ps n cap 0) (ny (.slice none 0 0) (.slice (some ⟨f.heap.size,0,none⟩) n n) (.slice (some ⟨f.heap.size+2,0,none⟩) ps.length ps.length) (.slice none 0 0))) rfl rfl (eV M.box) gA (AK _ _ _ _ _ _ _ _ _ _ _ _ _) ?_;refine r.out _ _ ((hO.bel.block _ (ae y)).trans y) (fun u=>?_);clear r K;try simp only[Act.put]
    refine bA (by kernel_rfl) ?_ _;go_wp2_with fail;go_meet;exact⟨f.heap.size+1,aI,_,_,rfl,hO⟩
  ·go_simp;refine r.out _ _ (E _ _ u) (fun u=>?_);clear r K;try simp only[cU,Act.put]
   refine tj 9 (.agg #[.int .i64 cap,.slice (some ⟨f.heap.size,0,none⟩) ps.length ps.length,.slice none 0 0]) u ?_;try simp only[Act.put]
   refine rj [2,11] (.cons rfl (fun K r=>?_) (.cons rfl (fun K r=>?_) .nil))
   ·go_simp;refine r.out _ _ (E _ _ u) (fun u=>?_);clear r K;try simp only[cU,Act.put]
    refine tj 10 (.agg (bo (o_ ps n cap 0) (ny (.slice none 0 0) (.slice (some ⟨f.heap.size+1,0,none⟩) n n) (.slice (some ⟨f.heap.size,0,none⟩) ps.length ps.length) (.slice none 0 0)))) u ?_ (hy:=by intro w' _;go_simp;rfl);try simp only[Act.put]
    refine rj [11] (.cons rfl (fun K r=>?_) .nil);go_simp;refine r.out _ _ (E _ _ u) (fun u=>?_);clear r K;have A:=s7 f (.cells (madeCells #[.int .i64 0] ps.length) 3) (.cells (madeCells #[.int .i64 0] n) 3) (.cells #[.int .i64 0,.bool false,.slice none 0 0,.slice none 0 0,.slice none 0 0,.int .i64 0,.slice none 0 0,.int .i64 0,.slice none 0 0,.int .i64 0,.int .i64 0,.slice none 0 0,.slice none 0 0,.int .i64 0,.slice none 0 0,.slice none 0 0,.slice none 0 0,.slice none 0 0,.slice none 0 0] 43);have M:Lk f _ ps n (f.heap.size +2) (f.heap.size +1) (f.heap.size) Q N:=⟨A.1,A.2.2.2.trans (ix some I.out),A.2.2.1,A.2.1,by omega,by omega,by omega,by omega,by omega⟩;clear A;generalize((f.alloc _).alloc _).alloc _=Y at*;obtain⟨aI,hO⟩:=sB (cap:=cap) M n8 o1 x0;try simp only[cU,Act.put]
    refine rj [12] (.cons rfl (fun K r=>?_) .nil);rw[aB (by kernel_rfl)];refine oY 43 _ _ rfl (f.heap.size +2) 0 (bo (o_ ps n cap 0) (ny (.slice none 0 0) (.slice (some ⟨f.heap.size+1,0,none⟩) n n) (.slice (some ⟨f.heap.size,0,none⟩) ps.length ps.length) (.slice none 0 0))) rfl rfl (eV M.box) gA (AK _ _ _ _ _ _ _ _ _ _ _ _ _) ?_;refine r.out _ _ ((hO.bel.block _ (ae y)).trans y) (fun u=>?_);clear r K;try simp only[Act.put]
    refine bA (by kernel_rfl) ?_ _;go_wp2_with fail;go_meet;exact⟨f.heap.size+2,aI,_,_,rfl,hO⟩
   ·go_simp;refine r.out _ _ (E _ _ u) (fun u=>?_);clear r K;try simp only[cU,Act.put]
    refine rj [2] (.cons rfl (fun K r=>?_) .nil);go_simp;refine r.out _ _ (E _ _ u) (fun u=>?_);clear r K;try simp only[cU,Act.put]
    refine tj 10 (.agg (bo (o_ ps n cap 0) (ny (.slice none 0 0) (.slice (some ⟨f.heap.size+2,0,none⟩) n n) (.slice (some ⟨f.heap.size,0,none⟩) ps.length ps.length) (.slice none 0 0)))) u ?_ (hy:=by intro w' _;go_simp;rfl);have A:=s7 f (.cells (madeCells #[.int .i64 0] ps.length) 3) (.cells #[.int .i64 0,.bool false,.slice none 0 0,.slice none 0 0,.slice none 0 0,.int .i64 0,.slice none 0 0,.int .i64 0,.slice none 0 0,.int .i64 0,.int .i64 0,.slice none 0 0,.slice none 0 0,.int .i64 0,.slice none 0 0,.slice none 0 0,.slice none 0 0,.slice none 0 0,.slice none 0 0] 43) (.cells (madeCells #[.int .i64 0] n) 3);have M:Lk f _ ps n (f.heap.size +1) (f.heap.size +2) (f.heap.size) Q N:=⟨A.1,A.2.2.1.trans (ix some I.out),A.2.2.2,A.2.1,by omega,by omega,by omega,by omega,by omega⟩;clear A;generalize((f.alloc _).alloc _).alloc _=Y at*;obtain⟨aI,hO⟩:=sB (cap:=cap) M n8 o1 x0;try simp only[Act.put]
    refine rj [12] (.cons rfl (fun K r=>?_) .nil);rw[aB (by kernel_rfl)];refine oY 43 _ _ rfl (f.heap.size +1) 0 (bo (o_ ps n cap 0) (ny (.slice none 0 0) (.slice (some ⟨f.heap.size+2,0,none⟩) n n) (.slice (some ⟨f.heap.size,0,none⟩) ps.length ps.length) (.slice none 0 0))) rfl rfl (eV M.box) gA (AK _ _ _ _ _ _ _ _ _ _ _ _ _) ?_;refine r.out _ _ ((hO.bel.block _ (ae y)).trans y) (fun u=>?_);clear r K;try simp only[Act.put]
    refine bA (by kernel_rfl) ?_ _;go_wp2_with fail;go_meet;exact⟨f.heap.size+1,aI,_,_,rfl,hO⟩
  ·go_simp;refine r.out _ _ (E _ _ u) (fun u=>?_);clear r K;try simp only[cU,Act.put]
   refine rj [2,8] (.cons rfl (fun K r=>?_) (.cons rfl (fun K r=>?_) .nil))
   ·go_simp;refine r.out _ _ (E _ _ u) (fun u=>?_);clear r K;try simp only[cU,Act.put]
    refine rj [8] (.cons rfl (fun K r=>?_) .nil);go_simp;refine r.out _ _ (E _ _ u) (fun u=>?_);clear r K;try simp only[cU,Act.put]
    refine tj 9 (.agg #[.int .i64 cap,.slice (some ⟨f.heap.size+2,0,none⟩) ps.length ps.length,.slice none 0 0]) u ?_;try simp only[Act.put]
    refine tj 10 (.agg (bo (o_ ps n cap 0) (ny (.slice none 0 0) (.slice (some ⟨f.heap.size+1,0,none⟩) n n) (.slice (some ⟨f.heap.size+2,0,none⟩) ps.length ps.length) (.slice none 0 0)))) u ?_ (hy:=by intro w' _;go_simp;rfl);have A:=s7 f (.cells #[.int .i64 0,.bool false,.slice none 0 0,.slice none 0 0,.slice none 0 0,.int .i64 0,.slice none 0 0,.int .i64 0,.slice none 0 0,.int .i64 0,.int .i64 0,.slice none 0 0,.slice none 0 0,.int .i64 0,.slice none 0 0,.slice none 0 0,.slice none 0 0,.slice none 0 0,.slice none 0 0] 43) (.cells (madeCells #[.int .i64 0] n) 3) (.cells (madeCells #[.int .i64 0] ps.length) 3);have M:Lk f _ ps n (f.heap.size) (f.heap.size+1) (f.heap.size+2) Q N:=⟨A.1,A.2.1.trans (ix some I.out),A.2.2.1,A.2.2.2,by omega,by omega,by omega,by omega,by omega⟩;clear A;generalize((f.alloc _).alloc _).alloc _=Y at*;obtain⟨aI,hO⟩:=sB (cap:=cap) M n8 o1 x0;try simp only[Act.put]
    refine rj [12] (.cons rfl (fun K r=>?_) .nil);rw[aB (by kernel_rfl)];refine oY 43 _ _ rfl (f.heap.size) 0 (bo (o_ ps n cap 0) (ny (.slice none 0 0) (.slice (some ⟨f.heap.size+1,0,none⟩) n n) (.slice (some ⟨f.heap.size+2,0,none⟩) ps.length ps.length) (.slice none 0 0))) rfl rfl (eV M.box) gA (AK _ _ _ _ _ _ _ _ _ _ _ _ _) ?_;refine r.out _ _ ((hO.bel.block _ (ae y)).trans y) (fun u=>?_);clear r K;try simp only[Act.put]
    refine bA (by kernel_rfl) ?_ _;go_wp2_with fail;go_meet;exact⟨f.heap.size,aI,_,_,rfl,hO⟩
   ·go_simp;refine r.out _ _ (E _ _ u) (fun u=>?_);clear r K;try simp only[cU,Act.put]
    refine tj 9 (.agg #[.int .i64 cap,.slice (some ⟨f.heap.size+1,0,none⟩) ps.length ps.length,.slice none 0 0]) u ?_;try simp only[Act.put]
    refine rj [2] (.cons rfl (fun K r=>?_) .nil);go_simp;refine r.out _ _ (E _ _ u) (fun u=>?_);clear r K;try simp only[cU,Act.put]
    refine tj 10 (.agg (bo (o_ ps n cap 0) (ny (.slice none 0 0) (.slice (some ⟨f.heap.size+2,0,none⟩) n n) (.slice (some ⟨f.heap.size+1,0,none⟩) ps.length ps.length) (.slice none 0 0)))) u ?_ (hy:=by intro w' _;go_simp;rfl);have A:=s7 f (.cells #[.int .i64 0,.bool false,.slice none 0 0,.slice none 0 0,.slice none 0 0,.int .i64 0,.slice none 0 0,.int .i64 0,.slice none 0 0,.int .i64 0,.int .i64 0,.slice none 0 0,.slice none 0 0,.int .i64 0,.slice none 0 0,.slice none 0 0,.slice none 0 0,.slice none 0 0,.slice none 0 0] 43) (.cells (madeCells #[.int .i64 0] ps.length) 3) (.cells (madeCells #[.int .i64 0] n) 3);have M:Lk f _ ps n (f.heap.size) (f.heap.size +2) (f.heap.size+1) Q N:=⟨A.1,A.2.1.trans (ix some I.out),A.2.2.2,A.2.2.1,by omega,by omega,by omega,by omega,by omega⟩;clear A;generalize((f.alloc _).alloc _).alloc _=Y at*;obtain⟨aI,hO⟩:=sB (cap:=cap) M n8 o1 x0;try simp only[Act.put]
    refine rj [12] (.cons rfl (fun K r=>?_) .nil);rw[aB (by kernel_rfl)];refine oY 43 _ _ rfl (f.heap.size) 0 (bo (o_ ps n cap 0) (ny (.slice none 0 0) (.slice (some ⟨f.heap.size+2,0,none⟩) n n) (.slice (some ⟨f.heap.size+1,0,none⟩) ps.length ps.length) (.slice none 0 0))) rfl rfl (eV M.box) gA (AK _ _ _ _ _ _ _ _ _ _ _ _ _) ?_;refine r.out _ _ ((hO.bel.block _ (ae y)).trans y) (fun u=>?_);clear r K;try simp only[Act.put]
    refine bA (by kernel_rfl) ?_ _;go_wp2_with fail;go_meet;exact⟨f.heap.size,aI,_,_,rfl,hO⟩
 case rest=>
  obtain⟨z,f_,vd,vu,rfl,hO⟩:=hcut;generalize X.drew=f at*;clear eb gl E x0 s0 s1 s2 I am;have ex:wc.heap[w.heap.size]?=some (gy (.slice a ps.length c) (n :Int) cap):=(hO.bel.block _ (ae y)).trans y;obtain⟨s0,s1,s2⟩:=d9 ex;have ga:=c9.len;unfold maxLen at ga;go_upto_region 8 with fail;clear s0 s1 s2 ex y;go_loopw[44] (fun i wr=>∃(k:Nat) (vc:Value) (lb:bI),k≤ps.length∧i=.int .i64 k∧Gb f wr lb (f.heap.size -1) z ps n cap k vc vd vu (.slice none 0 0)) (fun i _=>ps.length-(intOf i).toNat);case atStart=>exact⟨0,_,f_,bq _,rfl,hO⟩
  case round=>
   clear hO;obtain⟨k,vc,lb,hk,rfl,O⟩:=hrel;obtain⟨ac,mc,g7,-⟩:=O.aL.ap.bQ;subst g7;have a5:((ps.take k).map iR).length=k:=by simp;omega
   rw[a5]at O;by_cases bv:k<ps.length
   ·have f3:(k:Int)<ps.length:=by omega
    have f4:=c9.below O.bel;obtain⟨z,off,rfl,em,m⟩:=f4.elem (i:=k) (x:=ps.getD k iu) (by simp[List.getD,bv]);have e0:=m 0 _ rfl;have e1:=m 1 _ rfl;have e2:=m 2 _ rfl;simp only[dr]at e0;dsimp only[su]at e0 e1 e2;obtain⟨-,-,c2,-⟩:=bU O.bR;have f2:=fN O.bR 2;have ea:=fun(X w2:World) (v2:Value)=>O.more (X:=X) (w2:=w2) (v2:=v2) bv;have a3:=ar wr (.cells #[.int .i64 (ps.getD k iu).t,.int .i64 (ps.getD k iu).c,.int .i64 (ps.getD k iu).s] 63);have ck:=ar (wr.alloc (.cells #[.int .i64 (ps.getD k iu).t,.int .i64 (ps.getD k iu).c,.int .i64 (ps.getD k iu).s] 63)) (.cells #[.int .i64 0,.int .i64 0,.int .i64 (ps.getD k iu).t,.int .i64 (ps.getD k iu).c,.int .i64 (ps.getD k iu).s,.slice none 0 0] 66);have b3:=a3.trans (ck.mono (by simp));have a1:=(O.aL.row).below b3;have H:Gn.bF kC ((wr.alloc (.cells #[.int .i64 (ps.getD k iu).t,.int .i64 (ps.getD k iu).c,.int .i64 (ps.getD k iu).s] 63)).alloc (.cells #[.int .i64 0,.int .i64 0,.int .i64 (ps.getD k iu).t,.int .i64 (ps.getD k iu).c,.int .i64 (ps.getD k iu).s,.slice none 0 0] 66)) (some ⟨wr.heap.size+1,0,none⟩) 1 [iR (ps.getD k iu)]:=cV (K:=kC) (x:=iR (ps.getD k iu)) (cs:=#[.int .i64 0,.int .i64 0,.int .i64 (ps.getD k iu).t,.int .i64 (ps.getD k iu).c,.int .i64 (ps.getD k iu).s,.slice none 0 0]) (ah _ _ _ (by simp)) rfl _;have h7:((ps.take k).map iR).length+[iR (ps.getD k iu)].length≤maxLen:=by rw[a5];simp[maxLen];omega
    have h6:(((ps.take k).map iR).length+[iR (ps.getD k iu)].length)*64≤140737488355328:=by rw[a5];simp;omega
    have gs:f.heap.size≤((wr.alloc (.cells #[.int .i64 (ps.getD k iu).t,.int .i64 (ps.getD k iu).c,.int .i64 (ps.getD k iu).s] 63)).alloc (.cells #[.int .i64 0,.int .i64 0,.int .i64 (ps.getD k iu).t,.int .i64 (ps.getD k iu).c,.int .i64 (ps.getD k iu).s,.slice none 0 0] 66)).heap.size:=by have:= O.bel.size;simp;omega
    have ho:=ae O.bR;clear m f4 a3 ck;unfold ny at c2;dsimp only at c2;replace a5:=aW a5;generalize ps.getD k iu=p at*;go_wp2_with(at_builtin;refine bH DK _ rfl _ _ rfl f.heap.size (.slice ac k mc) ((ps.take k).map iR) rfl a1 _ 1 1 [iR p] rfl rfl H h7 h6 gs ?_;intro v2 w2 D G b4 an;obtain⟨a2,du,rfl,-,-,-⟩:=D.bQ;obtain⟨l',O',hz⟩:=ea _ _ _ b3 D G b4 an;obtain⟨-,-,fr,-⟩:=bU hz;have i0:=fN hz 2;unfold ny at fr;dsimp only at fr);have f5:(List.map iR (List.take k ps)++[iR p]).length=k+1:=by rw[a_,a5.out];rfl
    rw[f5]at O';go_roundw;case rel=>exact⟨k+1,_,_,by omega,by go_num,O'⟩
    case measure=>simp[intOf];omega
   ·obtain rfl:k=ps.length:=by omega
    have hv:¬((ps.length:Int)<ps.length):=by omega
    obtain⟨U,K0⟩:=He O d7 ct cz;clear O ct cz d7 c9;generalize ny (.slice ac ps.length mc) vd vu (.slice none 0 0)=vv at*;have fn:Hid (∃ (aI:bI) (cs:List CV),Kw w wr z aI (dQ (cO ps n cap) (l.take 0)).1 vv cs [] (.slice none 0 0) ((dQ (cO ps n cap) (l.take 0)).2.map (·.2)) Q N):=aW ⟨U,_,K0⟩;clear K0;generalize bg:cO ps n cap=sb at*;replace bg:=aW bg;go_upto_region 14 with fail;go_loopw[58,11] (fun i vo wr=>∃(k:Nat) (va:Value) (aI:bI) (v:Vs) (cs:List CV) (ds:List DV),k≤l.length∧i=.int .i64 k∧vo=va∧Kw w wr z aI (dQ sb (l.take k)).1 v cs ds va ((dQ sb (l.take k)).2.map (·.2)) Q N) (fun i _ _=>l.length-(intOf i).toNat);case atStart=>obtain⟨la,ca,K0⟩:=fn.out;exact⟨0,_,la,_,ca,_,bq _,rfl,rfl,K0⟩
    case round=>
     clear fn;obtain⟨k,va,aI,v,cs,ds,hk,rfl,rfl,Kp⟩:=hrel;obtain⟨ao,co,rfl,-⟩:=Kp.Dr.ap.bQ;have bd:(dQ sb (l.take k)).2.length=k:=by rw[pt];simp;omega
     have hR:=dm k hk;have J:((dQ sb (l.take k)).2.map (·.2)).length=k:=by rw[jF];exact bd
     rw[J]at Kp⊢;by_cases bv:k<l.length
     ·have f3:(k :Int)<l.length:=by omega
      have cx:Hid (ie (dQ sb (l.take k)) (l.getD k zD)=dQ sb (l.take (k+1))):=aW (by rw[sU l bv,qZ]);have cy:=fun(h :(l.getD k zD).id=0∨∀t,t<k→(l.getD t zD).id≠(l.getD k zD).id)=>IY (b:=sb) hk h;have a9:=fun(t :Nat) (ht:t<k) (h0:(l.getD k zD).id≠0) (h :(l.getD t zD).id=(l.getD k zD).id)=>EL (b:=sb) hk ht h0 h;have eg:=ef.below Kp.bel;obtain⟨zd,off,rfl,em,m⟩:=eg.elem (i:=k) (x:=l.getD k zD) (by simp[List.getD,bv]);have e0:=m 0 _ rfl;have e1:=m 1 _ rfl;have e2:=m 2 _ rfl;have e3:=m 3 _ rfl;have e4:=m 4 _ rfl;have e5:=m 5 _ rfl;simp only[dr]at e0;dsimp only[As]at e0 e1 e2 e3 e4 e5;clear m;generalize l.getD k zD=d at*;generalize dQ sb (l.take k)=st at*;obtain⟨b,T⟩:=st;dsimp only at*;have a3:=ar wr (dR d);have K1:=Kp.below a3;have af:=eg.below a3;have C:(wr.alloc (dR d)).heap[wr.heap.size]?=some (dR d):=ah _ _ _ rfl;unfold dR at K1 af C;clear Kp eg a3;have aw:aT aI wr.heap.size 0 wr.heap.size=0:=bu (aj _);generalize aT aI wr.heap.size 0=U at*;generalize cm:wr.alloc (.cells #[.int .i64 d.id,.int .i64 d.kind,.int .i64 d.n,.int .i64 d.aQ,.int .i64 d.mv,.int .i64 d.sum] 60)=W1 at*;go_upto_region 16 with fail;try rw[cm]
      clear cm e0 e1 e2 e3 e4 e5 em;generalize wr.heap.size=zx at*;obtain⟨L,hL⟩:∃L,L=T.map (·.2):=⟨_,rfl⟩;rw[←hL]at K1 J a9;replace hL:=aW hL;replace J:=aW J;have hf:k≤150:=by omega
      replace bd:=aW bd;go_upto_region 18 with fail;go_loopw[15,14,11] (fun j ag vo wi=>∃(jn:Nat) (q:Int),jn≤k∧j=.int .i64 q∧q=(jn :Int)-1∧((ag =.bool false∧vo=.slice ao k co∧(∃ aI:bI,Kw w wi z aI b v cs ds (.slice ao k co) L Q N∧aI zx=0)∧wi.heap[zx]?=some (dR d)∧∀t,jn≤t→t<k→(l.getD t zD).id≠d.id)∨(ag=.bool true∧d.id≠0∧∃(dt:Value) (a6:bI),vo=dt∧Kw w wi z a6 (dQ sb (l.take (k+1))).1 v cs ds dt ((dQ sb (l.take (k +1))).2.map (·.2)) Q N∧wi.heap[zx]?=some (dR d)))) (fun j _ _ _=>(intOf j+1).toNat);case atStart=>exact⟨k,(k :Int)-1,aj _,by go_num,rfl,Or.inl ⟨rfl,rfl,⟨_,K1,aw⟩,C,fun t h1 h2=>by omega⟩⟩
      case round=>
       clear K1 C af aw W1;obtain⟨jn,q,hu,rfl,hq,⟨rfl,rfl,⟨U,K1,aw⟩,C,b5⟩|⟨rfl,ak,dt,a6,rfl,K4,C⟩⟩:=hrel
       ·obtain⟨d0,d1,d2,d3,d4,d5⟩:=bs C;by_cases ee:0≤q∧d.id≠0
        ·obtain⟨cw,ak⟩:=ee;have ce:(d.id !=0)=true:=by simpa using ak
         have hg:jn-1<k:=by omega
         obtain⟨jm,rfl⟩:∃jm,jn=jm+1:=⟨jn-1,by omega⟩;obtain rfl:q=(jm :Int):=by omega
         clear hq;have h4:jm<k:=by omega
         have af:=ef.below K1.bel;obtain⟨z9,er,fd,h8,m⟩:=af.elem (i:=jm) (x:=l.getD jm zD) (by simp[List.getD,show jm<l.length by omega]);obtain⟨rfl,rfl⟩:z9=zd∧er=off:=by injection fd with h;injection h with h1 h2 h3;exact⟨h1.symm,h2.symm⟩
         have f0:=m 0 _ rfl;simp only[dr]at f0;dsimp only[As]at f0;have e6:=a9 jm h4 ak;have hr:(jm :Int)<l.length:=by omega
         clear m fd af cy a9;generalize e7:(l.getD jm zD).id=x9 at*;replace e7:=aW e7;by_cases V:x9=d.id
         ·have g8:(x9==d.id)=true:=by simpa using V
          have hp:=uf (b:=b) (e6 V);have F:Hid ((dQ sb (l.take (k+1))).1=b∧(dQ sb (l.take (k +1))).2.map (·.2)=L++[L.getD jm (0,0)]):=aW (by rw[←cx.out,hp,hL.out];exact⟨rfl,by simp⟩);clear hp cx e6 b5 V;go_upto_region 20 with fail;go_quiet(fail);have eh:=K1.below (br (Below.refl wr.heap.size wr) nq);have gt:aT U wr.heap.size 0 zx=0:=by rw[aV (ae C)];exact aw
          replace C:(wr.drewN nq).heap[zx]?=some (dR d):=C;generalize aT U wr.heap.size 0=h9 at*;clear K1 aw d0 d1 d2 d3 d4 d5 f0;generalize wr.drewN nq=Wn at*;obtain⟨a7,c7,ew,bw,-⟩:=eh.Dr.ap;obtain⟨rfl,-,rfl⟩:=bB ew;obtain⟨z7,o7,rfl,hn,m⟩:=bw.elem (i:=jm) (x:=L.getD jm (0,0)) (by simp[List.getD,show jm<L.length by rw[J.out];omega]);have g0:=m 0 _ rfl;have g1:=m 1 _ rfl;simp only[dr]at g0;dsimp only[rR]at g0 g1;clear m ew bw;generalize L.getD jm (0,0)=x at*;have fb:=ar Wn (.cells #[.int .i64 x.1,.int .i64 x.2] 53);obtain⟨a1,aa,cb⟩:=eh.grow fb;have H:Gn.bF rR (Wn.alloc (.cells #[.int .i64 x.1,.int .i64 x.2] 53)) (some ⟨Wn.heap.size,0,none⟩) 1 [x]:=cV (K:=rR) (x:=x) (cs:=#[.int .i64 x.1,.int .i64 x.2]) (ah _ _ _ rfl) rfl _;have g6:=ae C;have hj:(jm :Int)<k:=by omega
          clear eh fb;go_wp2_with(at_builtin;refine bH xV _ rfl _ _ rfl w.heap.size (.slice (some ⟨z7,o7,none⟩) k co) L rfl a1 _ 1 1 [x] rfl rfl H (by rw[J.out];simp[maxLen];omega) (by rw[J.out];simp;omega) aa ?_;intro v2 w4 D G b4 an;obtain⟨a2,du,rfl,-,-,-⟩:=D.bQ;obtain⟨⟨a6,K4⟩,f1⟩:=cb _ _ _ D G b4 (an (by simp)));rw[show(L++[x]).length=L.length+1 by simp,←F.out.1,←F.out.2]at K4;go_roundw;case rel=>exact⟨jm,(jm:Int)-1,by omega,by go_num,rfl,Or.inr ⟨rfl,ak,_,a6,rfl,K4,(f1 zx g6 (by rw[gt];decide)).trans C⟩⟩
          case measure=>simp[intOf]
         ·have g8:(x9 ==d.id)=false:=by simpa using V
          clear e6 hR;go_upto_region 20 with fail;go_quiet(fail);go_wp2;go_roundw
          case rel=>exact⟨jm,(jm:Int)-1,by omega,by go_num,rfl,Or.inl ⟨rfl,rfl,⟨_,K1.below (br (Below.refl wr.heap.size wr) _),by rw[aV (ae C)];exact aw⟩,C,fun t h1 h2=>by
           by_cases ht:t=jm;·rw[ht,e7.out];exact V
           ·exact b5 t (by omega) h2⟩⟩
          case measure=>simp[intOf]
        ·have ch:q<0∨(0 ≤q∧d.id=0):=by
          by_cases h0:0≤q;·exact Or.inr ⟨h0,Classical.byContradiction fun h=>ee ⟨h0,h⟩⟩
          ·exact Or.inl (by omega)
         have hh:=cy (by
          rcases ch with h|h;·exact Or.inr fun t ht=>b5 t (by omega) ht
          ·exact Or.inl h.2);clear cy a9 b5 ee hq;have hp:=xo (b:=b) hh;have hF:Mf b cs ds:=IX hR.inv K1.shown.ov K1.shown.ox hR.days;have b6:=MP b v cs ds U wr K1.shown K1.qE hF;rw[jT]at b6;simp only[jT]at b6;obtain⟨dK,uK,rK⟩:=nt;have B:=nP K1.bR;have bi:=Lf b d;have cp:=lG b d;have el:=fun(W:World) (g :Nat) (aI :bI) (h :dU W g wr.heap.size aI b (.int .i64 0))=>E_ g wr.heap.size aI b d W h hR;unfold DA gn at el;have F:Hid ((dQ sb (l.take (k +1))).1=(jA b d).1∧(dQ sb (l.take (k +1))).2.map (·.2)=L++[(jA b d).2]):=aW (by rw[←cx.out,hp,hL.out];exact⟨rfl,by simp⟩);clear hp cx hh hR hF hL;generalize jA b d=R at*;rcases ch with cw|⟨cw,ak⟩;case' inr=>have ce:(d.id !=0)=false:=by simpa using ak
         all_goals
          go_upto_region 25 with(first
           | (refine iS rfl 43 _ rfl z 0 rfl (bo b v).toList dK B uK rK gA ?_)
           | (go_at_call 11;refine b6.mono ?_;rintro e w3 ⟨v3,he,rfl,M3,T3,b3,es⟩)
           | (refine uS rfl _ rfl b v3 rfl ?_)
           | (refine Cv rfl 70 _ rfl (dc b v3 (.int .i64 0)) rfl ?_));try clear ce
          try clear ak
          clear cw;have dh:=ar w3 (.cells (dc b v3 (.int .i64 0)) 70);have G4:=Eb M3 T3 dh (Ke (w:=w3) (b:=b) (v:=v3));have f9:=(dh.block zx (bp (ae C) b3.size)).trans ((b3.block zx (ae C)).trans C);generalize w3.alloc _=W4 at*;have dn:=el W4 w3.heap.size _ G4;clear el b6 B G4 T3 d0 d1 d2 d3 d4 d5 C aw;obtain⟨d0,d1,d2,d3,d4,d5⟩:=bs f9;go_upto_region 26 with(go_at_call 12;refine dn.mono ?_;rintro e w5 ⟨rfl,b',hc,G5,S5,e9⟩);obtain⟨v',cs',i1,H5⟩:=G5;obtain⟨-,K5,dj⟩:=J3 K1 M3 b3 es dh S5 H5;have ba:=H5.bR;obtain⟨-,-,-,-,-,-,-,-,-,-,-,-,-,-,-,-,-,-,-,fw⟩:=aU ba;generalize aT U wr.heap.size 0=ha at*;clear K1 M3 b3 es dh S5 H5 dn d0 d1 d2 d3 d4 d5 f9;generalize w3.heap.size=g at*;by_cases hE:R.2.1=0
          ·obtain rfl:=e9 hE;have hx:(0,R.2.2)=R.2:=Prod.ext hE.symm rfl;rw[←hx]at F;rw[hE]at fw;have B:=r_ ba;have P:=eV (b':=R.1) (v':=v') K5.bR;have bh:=aW dj.one;have K7:=K5.put dj;clear e9 hx hE cp bi K5 dj ba;go_upto_region 28 with(first
            | (refine iS rfl 43 _ rfl g 0 rfl (bo R.1 v').toList dK B uK rK gA ?_)
            | (refine eI rfl 43 _ _ rfl z 0 (bo R.1 v') rfl rfl P gA bh.out ?_));generalize w5.setCells z 0 (bo R.1 v').toList=Y7 at*;clear B P bh fw;have ci:=ar Y7 (.cells #[.int .i64 0,.int .i64 R.2.2] 53);obtain⟨a1,aa,cb⟩:=K7.grow ci;have H:Gn.bF rR (Y7.alloc (.cells #[.int .i64 0,.int .i64 R.2.2] 53)) (some ⟨Y7.heap.size,0,none⟩) 1 [(0,R.2.2)]:=cV (K:=rR) (x:=(0,R.2.2)) (cs:=#[.int .i64 0,.int .i64 R.2.2]) (ah _ _ _ rfl) rfl _;clear K7 ci;go_wp2_with(at_builtin;refine bH xV _ rfl _ _ rfl w.heap.size (.slice ao k co) L rfl a1 _ 1 1 [(0,R.2.2)] rfl rfl H (by rw[J.out];simp[maxLen];omega) (by rw[J.out];simp;omega) aa ?_;intro v2 w9 D G b4 an;obtain⟨a2,du,rfl,-,-,-⟩:=D.bQ;obtain⟨⟨bf,K9⟩,-⟩:=cb _ _ _ D G b4 (an (by simp)));rw[show(L++[((0,R.2.2):An)]:List An).length=L.length+1 from a_,←F.out.1,←F.out.2]at K9;go_roundw;case rel=>exact⟨k+1,_,bf,_,_,_,by omega,by go_num,rfl,K9⟩
           case measure=>simp[intOf];omega
          ·have hw:(R.2.1==0)=false:=by simpa using hE
           have hx:(R.2.1,0)=R.2:=Prod.ext rfl (bi hE).symm;rw[←hx,cp hE]at F;clear e9 hx hE cp bi dj ba;have ci:=ar w5 (.cells #[.int .i64 R.2.1,.int .i64 0] 53);obtain⟨a1,aa,cb⟩:=K5.grow ci;have H:Gn.bF rR (w5.alloc (.cells #[.int .i64 R.2.1,.int .i64 0] 53)) (some ⟨w5.heap.size,0,none⟩) 1 [(R.2.1,0)]:=cV (K:=rR) (x:=(R.2.1,0)) (cs:=#[.int .i64 R.2.1,.int .i64 0]) (ah _ _ _ rfl) rfl _;clear K5 ci;go_wp2_with(at_builtin;refine bH xV _ rfl _ _ rfl w.heap.size (.slice ao k co) L rfl a1 _ 1 1 [(R.2.1,0)] rfl rfl H (by rw[J.out];simp[maxLen];omega) (by rw[J.out];simp;omega) aa ?_;intro v2 w9 D G b4 an;obtain⟨a2,du,rfl,-,-,-⟩:=D.bQ;obtain⟨⟨bf,K9⟩,-⟩:=cb _ _ _ D G b4 (an (by simp)));rw[show(L++[((R.2.1,0):An)]:List An).length=L.length+1 from a_,←F.out.1,←F.out.2]at K9;go_roundw;case rel=>exact⟨k+1,_,bf,_,_,_,by omega,by go_num,rfl,K9⟩
           case measure=>simp[intOf];omega
       ·have ce:(d.id !=0)=true:=by simpa using ak
        obtain⟨d0,d1,d2,d3,d4,d5⟩:=bs C;obtain⟨a4,c4,rfl,-⟩:=K4.Dr.ap.bQ;clear hq cy a9 hR;by_cases cw:0≤q
        all_goals
         go_wp2_with fail;go_roundw;case rel=>exact⟨k+1,_,a6,v,cs,ds,by omega,by go_num,rfl,K4⟩
         case measure=>simp[intOf];omega
     ·obtain rfl:k=l.length:=by omega
      have hm:¬((l.length:Int)<l.length):=by omega
      rw[fc]at Kp bd;generalize F:dQ sb l=st at Kp bd;obtain⟨b,T⟩:=st;dsimp only at Kp bd;replace F:=aW F;obtain⟨dK,uK,rK⟩:=nt;have B:=nP Kp.bR;have P:=eV (b':=b) (v':=v) Kp.b1.ob;have H:=aW Kp.shown.one;obtain⟨E1,E2,E3,E4,E5,E6⟩:=Kp.fin;obtain⟨t0,t1,t2,t3⟩:=eo E1;dsimp only at t0 t1;clear E1 Kp hR dm J ef;replace E2:=aW E2;replace E3:=aW E3;replace E4:=aW E4;replace E5:=aW E5;replace E6:=aW E6;go_upto_region 31 with fail;have f7:Hid ((prog.info? 43).map (·.size)=some (bo b v).size):=aW gA;have f6:Hid ((prog.info? 43).map (·.size)=some (bo b v).toList.length):=aW gA;have eb:Hid ((bo b v).toList.toArray=bo b v):=aW (by simp);generalize bo b v=cc at*;go_wp2_with(first
       | (refine iS rfl 43 _ rfl z 0 rfl cc.toList dK B uK rK f6.out ?_;rw[eb.out])
       | (refine eI rfl 43 _ _ rfl (w.heap.size +1) 0 cc rfl rfl P f7.out H.out ?_));replace E2:=E2.out;replace E3:=E3.out;replace E4:=E4.out;replace E5:=E5.out;replace E6:=E6.out;generalize((wr.setCells (w.heap.size +1) 0 cc.toList).setCell _ _).setCell _ _=Z at*;exact aA (v:=.tuple #[tT b v,.slice ao l.length co,Dy.fv (0,0)]) (jS results5 rfl rfl rfl (fC E2) (jX E3)) rfl ⟨v,cs,ds,.slice ao l.length co,by rw[bg.out,F.out],by rw[bg.out,F.out];exact E4,by rw[bg.out,F.out];exact E5,E6⟩
