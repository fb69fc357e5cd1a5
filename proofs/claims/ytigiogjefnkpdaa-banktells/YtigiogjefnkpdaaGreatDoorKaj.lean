import Derived.Test.YtigiogjefnkpdaaGreatDoorKai
set_option maxHeartbeats 4000000
set_option maxRecDepth 100000
open Go.Proofs.Tryz
namespace Go.Proofs.YtigiogjefnkpdaaGreatDoor.Po
open RowKit Gn
structure Wr(w:World)(s:Se)(a:Option Addr)(cap:Nat)(c:Nat)(m:Int)(W:World):Prop where
 bel:Below w.heap.size w W
 box:W.heap[w.heap.size]?=some (so s a cap)res:W.heap[w.heap.size+1]?=some (.cells #[.int .i64 0,.int .i64 0] 47)num:W.heap[c]?=some (.cells #[.int .i64 m] 3)lt:w.heap.size+1<c
theorem Wr.on{w:World}{s:Se}{a:Option Addr}{cap c:Nat}{m:Int}{W d:World}(h:Wr w s a cap c m W)(b:Below W.heap.size W d):Wr w s a cap c m d:=⟨h.bel.trans (b.mono h.bel.size),(b.block _ (ae h.box)).trans h.box,(b.block _ (ae h.res)).trans h.res,(b.block _ (ae h.num)).trans h.num,h.lt⟩
theorem Wr.step{w:World}{s:Se}{a:Option Addr}{cap c:Nat}{m:Int}{W:World}(h:Wr w s a cap c m W)(b:Int):Wr w s a cap c b (W.setCell ⟨c,0,none⟩ (.int .i64 b)):=by have l:=h.lt;exact⟨h.bel.setCell (by simp;omega) _,(CN _ _ _ _ (by simp;omega)).trans h.box,(CN _ _ _ _ (by simp;omega)).trans h.res,one_setCell h.num,l⟩
theorem dJ{W:World}{b:Nat}{x y:Int}(h:W.heap[b]?=some (.cells #[.int .i64 x,.int .i64 y] 47)):W.cell? ⟨b,0,none⟩=some (.int .i64 x)∧W.cell? ⟨b,1,none⟩=some (.int .i64 y)∧W.frozen? ⟨b,0,none⟩=false∧W.frozen? ⟨b,1,none⟩=false:=by refine⟨?_,?_,?_,?_⟩<;>simp[World.cell?,World.frozen?,h]
theorem CJ(m:Int)(w:World):Calls prog 137 #[.int .i64 m] w fun e a=>∃c,e=.returned (.func (.func 149) #[] #[.pointer (some ⟨c,0,none⟩)])∧c=w.heap.size∧a=w.alloc (.cells #[.int .i64 m] 3):=(Aq m w).mono fun _ _ ⟨h1,h2⟩=>⟨_,h1,rfl,h2⟩
theorem dO(s:Se)(a:Option Addr)(cap:Nat)(w:World)(M:bF kT w a cap s.bj):Calls prog 122 #[sv s a cap] w fun e R=>e=.returned (.agg #[.int .i64 (bX s).1,.int .i64 (bX s).2])∧Below w.heap.size w R:=by
 have S:=M.len;unfold maxLen at S;unfold sv;have b1:∀o I,Below w.heap.size w ((w.alloc o).alloc I):=fun o I=>(ar _ _).alloc (by simp) _;by_cases K:40<s.bj.length
 ·have d:=aW (tC K);have z:(40:Int)<s.bj.length:=by omega
  go_enter func122,ntmps122;go_wp2;refine aA (v:=.agg #[.int .i64 5,.int .i64 0]) (by simp[results,results122,go_sem];try rfl) rfl ⟨?_,?_⟩;·rw[d.out]
  ·repeat refine aR ?_ (by simp) _
   exact b1 _ _
 have m:s.bj.length≤40:=by omega
 have z:(s.bj.length:Int)≤40:=by omega
 clear K;by_cases h1:s.bD<s.bj.length
 ·have d:=aW (mb m (Or.inl h1));go_enter func122,ntmps122;go_wp2;refine aA (v:=.agg #[.int .i64 3,.int .i64 0]) (by simp[results,results122,go_sem];try rfl) rfl ⟨?_,?_⟩;·rw[d.out]
  ·repeat refine aR ?_ (by simp) _
   exact b1 _ _
 have D:(s.bj.length:Int)≤s.bD:=by omega
 clear h1;by_cases h2:1000000<s.bD
 ·have d:=aW (mb m (Or.inr h2));go_enter func122,ntmps122;go_wp2;refine aA (v:=.agg #[.int .i64 3,.int .i64 0]) (by simp[results,results122,go_sem];try rfl) rfl ⟨?_,?_⟩;·rw[d.out]
  ·repeat refine aR ?_ (by simp) _
   exact b1 _ _
 have C:s.bD≤1000000:=by omega
 clear h2;go_enter func122,ntmps122;go_wp2_with fail;refine(CJ _ _).mono ?_;rintro e Q ⟨c,rfl,L,rfl⟩
 have q:Wr w s a cap c (s.bD -s.bj.length) (((w.alloc (so s a cap)).alloc (.cells #[.int .i64 0,.int .i64 0] 47)).alloc (.cells #[.int .i64 (s.bD -s.bj.length)] 3)):=by
  have N:c=w.heap.size+2:=by simpa using L
  refine⟨(b1 _ _).alloc (by simp;omega) _,?_,?_,ah _ _ _ (by simp;omega),by omega⟩;·rw[bC _ _ _ (by simp;omega),bC _ _ _ (by simp),ah _ _ _ rfl]
  ·rw[bC _ _ _ (by simp),ah _ _ _ (by simp)]
 unfold so at q;clear L b1;generalize((w.alloc _).alloc _).alloc _=Q at*;obtain⟨B0,B1⟩:=cH q.box;go_wp2;go_loopw[34](fun i wr=>∃(k:Nat),k≤s.bj.length∧i=.int .i64 k∧Hid (Good s k)∧Wr w s a cap c (s.bD-s.bj.length+k) wr) (fun i _=>s.bj.length-(intOf i).toNat);case atStart=>exact⟨0,bq _,rfl,iq m D C,by simpa using q⟩
 case round=>
  obtain⟨k,hk,rfl,n,f⟩:=hrel;clear q B0 B1;generalize wr=W at*;obtain⟨x,u,P,O⟩:=dJ f.res;by_cases l:k<s.bj.length
  ·have J:(k :Int)<s.bj.length:=by omega
   obtain⟨b,off,rfl,U,Y,N,X,V⟩:=nA (M.below f.bel) l;have p:=f.on (ar W (nN (s.bj.getD k dA)));have H:=aW (fun h=>n.out.bad l h);have G:=aW (fun h=>n.out.next l h);clear n x u P O;generalize s.bj.getD k dA=t at*;go_upto_region 9 with fail;have B:(W.alloc (nN t)).heap[W.heap.size]?=some (nN t):=ah _ _ _ rfl;unfold nN at p B;have T:=ae f.num;clear Y N X V f;generalize W.alloc _=F at*;obtain⟨T0,T1,T2,Z⟩:=ic B;have jq:∀j,∀v,(F.drew.setCell ⟨c,0,none⟩ v).cell? ⟨W.heap.size,j,none⟩=F.cell? ⟨W.heap.size,j,none⟩:=fun j v=>ri (w:=F) (a:=⟨W.heap.size,j,none⟩) ((aF _ _ _ _ (by simp;omega)).trans rfl);have g:=p.num;go_cut[6]from 39 to 43 (fun v wc=>v=.int .i64 (fF t (s.bD -s.bj.length+1+k))∧Wr w s (some ⟨b,off,none⟩) cap c (s.bD -s.bj.length+1+k) wc)
   case first=>
    go_region_with (first
     |(go_at_call 149;refine(CH c (s.bD -s.bj.length+k) _ ?_ (by omega) (by omega)).mono ?_;exact g;rintro e w2 ⟨rfl,rfl⟩)
     |(go_at_call 138;refine(rL t _ _).mono ?_;rintro e w3 ⟨rfl,A⟩));all_goals(go_wp2_with fail;go_meet;rw[show s.bD-s.bj.length+1+(k :Int)=s.bD-s.bj.length+k+1 by omega];exact⟨rfl,(p.step _).on (((Below.refl _ _).drew).trans A)⟩)
   case rest=>
    obtain⟨rfl,f⟩:=hcut;clear p B T0 T1 T2 Z jq g;generalize wc=W2 at*;obtain⟨x,u,P,O⟩:=dJ f.res;by_cases h0:fF t (s.bD-s.bj.length+1+k)=0
    ·have d:=aW (G.out h0);have y:(fF t (s.bD -s.bj.length+1+k)!=0)=false:=by simpa using h0
     clear h0 H G;generalize fF t (s.bD -s.bj.length+1+k)=r at*;go_wp2;go_roundw;case rel=>exact⟨k+1,by omega,by go_num,d,by rw[show s.bD-s.bj.length+((k +1:Nat):Int)=s.bD-s.bj.length+1+k by omega];exact f⟩
     case measure=>simp[intOf];omega
    ·have d:=aW (H.out h0);have y:(fF t (s.bD-s.bj.length+1+k)!=0)=true:=by simpa using h0
     clear h0 H G;generalize fF t (s.bD-s.bj.length+1+k)=r at*;have E:=f.bel;go_wp2;refine aA (v:=.agg #[.int .i64 r,.int .i64 k]) (by simp[results,results122,go_sem,x,u];try rfl) rfl ⟨?_,?_⟩;·rw[d.out]
     ·repeat refine aR ?_ (by simp) _
      exact E
  ·have d:=aW (n.out.done (by omega));clear n;have E:=f.bel;go_wp2;refine aA (v:=.agg #[.int .i64 0,.int .i64 0]) (by simp[results,results122,go_sem,x,u];try rfl) rfl ⟨?_,?_⟩;·rw[d.out]
   ·repeat refine aR ?_ (by simp) _
    exact E
def Made(w:World)(L:List Tr)(e:Ending)(a:World):Prop:=∃v,e=.returned v∧Row kT 82 a w.heap.size v L∧Below w.heap.size w a
theorem Eh(a:Option Addr)(cap:Nat)(L:List Tr)(c:Nat)(aX:Int)(w:World)(J:bF kT w a cap L)(E:w.heap[c]?=some (.cells #[.int .i64 aX] 3))(R:L.length≤40):Calls prog 123 #[.slice a L.length cap,.func (.func 139) #[] #[.pointer (some ⟨c,0,none⟩)]] w (Made w (eW aX L)):=by
 go_enter func123,ntmps123;go_wp2;go_loopw[5,10](fun v i wr=>∃k:Nat,k≤L.length∧i=.int .i64 k∧Row kT 82 wr w.heap.size v (eW aX (L.take k))∧Below w.heap.size w wr) (fun _ i _=>L.length-(intOf i).toNat);case atStart=>exact⟨0,bq _,rfl,.nil,Below.refl _ _⟩
 case round=>
  obtain⟨k,Q,rfl,f,p⟩:=hrel;have q:=p.size;generalize wr=W at*;by_cases m:k<L.length
  ·have D:(k:Int)<L.length:=by omega
   obtain⟨b,off,rfl,I,O,N,M,K⟩:=nA (J.below p) m;have C:=aW (xf (aX:=aX) m);have A:=aW (uV (aX:=aX) m);have H:=qy aX L k;have o:W.heap[c]?=some (.cells #[.int .i64 aX] 3):=(p.block _ (ae E)).trans E;have r:=ae o;generalize L.getD k dA=t at*;by_cases s:aX<t.n
   ·have B:=aW (C.out s);clear C A;have x:decide (aX<t.n)=true:=by simpa using s
    go_wp2_with fail;refine(wN t c aX _ ((bC _ _ _ r).trans o)).mono ?_;rintro e w2 ⟨rfl,g⟩;rw[x];have d:=(f.alloc _).below g;have h:Below w.heap.size w w2:=p.trans (((ar _ _).trans (g.mono (by simp))).mono q);have F:w2.heap[W.heap.size]?=some (nN t):=(g.block _ (by simp)).trans (ah _ _ _ rfl);obtain⟨V,U,T,S⟩:=ic F;have u:=h.size;clear f g O N M K F;go_wp2_with(at_builtin;refine bH tG _ rfl _ _ rfl w.heap.size _ _ rfl (d.alloc _) (some ⟨w2.heap.size,0,none⟩) 1 1 [t] rfl rfl (cV (ah _ _ _ rfl) rfl _) ?c3 ?c4 ?c5 ?_);case c3=>simp[maxLen];omega
    case c4=>simp;omega
    case c5=>simp;omega
    intro v' G l j _ _;have y:Below w.heap.size w G:=cI (h.alloc u _) j (d.alloc _) (aj _) (by simp;omega);clear j d;go_wp2;go_roundw;case rel=>exact⟨k+1,by omega,by go_num,by rw[B.out];exact l,y⟩
    case measure=>simp[intOf];omega
   ·have z:=aW (A.out s);clear C A;have x:decide (aX <t.n)=false:=by simpa using s
    go_wp2_with fail;refine(wN t c aX _ ((bC _ _ _ r).trans o)).mono ?_;rintro e w2 ⟨rfl,g⟩;rw[x];have d:=(f.alloc _).below g;have h:Below w.heap.size w w2:=p.trans (((ar _ _).trans (g.mono (by simp))).mono q);clear f g;go_wp2;go_roundw;case rel=>exact⟨k+1,by omega,by go_num,by rw[z.out];exact d,h⟩
    case measure=>simp[intOf];omega
  ·have P:=aW (wv (aX:=aX) (L:=L) (k:=k) (by omega));go_wp2;go_ret;exact⟨_,rfl,by rw[←P.out];exact f,p⟩
theorem BR(aX n:Int):(aX <0∧Hid (taken aX n=false))∨(0≤aX∧1000000≤aX∧Hid (taken aX n=false))∨(0≤aX∧aX<1000000∧(n !=aX+1)=true∧Hid (taken aX n=false))∨(0 ≤aX∧aX<1000000∧(n !=aX+1)=false∧Hid (taken aX n=true)∧Hid (n=aX+1)):=by
 by_cases h1:aX<0;·exact Or.inl ⟨h1,lK.2 (by omega)⟩
 by_cases h2:1000000≤aX;·exact Or.inr (Or.inl ⟨by omega,h2,lK.2 (by omega)⟩)
 by_cases a:n=aX+1;·exact Or.inr (Or.inr (Or.inr ⟨by omega,by omega,by simpa using a,lh.2 (by omega),a⟩))
 ·exact Or.inr (Or.inr (Or.inl ⟨by omega,by omega,by simpa using a,lK.2 (by omega)⟩))
def Bc(aX n:Int):Int:=if taken aX n=true then aX+1 else aX
theorem sy{aX n:Int}(h:taken aX n=true):Bc aX n=aX+1:=by unfold Bc;rw[aB h]
theorem qC{aX n:Int}(h:taken aX n=false):Bc aX n=aX:=by unfold Bc;rw[ai (by simp[h])]
theorem yD{a b:Int}{x y:Bool}(h1:a=b)(h2:x=y):Ending.returned (.tuple #[.int .i64 a,.bool x])=.returned (.tuple #[.int .i64 b,.bool y]):=by rw[h1,h2]
theorem Aa(aX:Int)(t:Tr)(w:World):Calls prog 73 #[.int .i64 aX,tv t] w fun e b=>e=.returned (.tuple #[.int .i64 (Bc aX t.n),.bool (taken aX t.n)])∧Below w.heap.size w b:=by
 unfold tv;have a:∀o,Below w.heap.size w (w.alloc o):=ar w;rcases BR aX t.n with⟨h1,H⟩|⟨h1,h2,H⟩|⟨h1,h2,c,H⟩|⟨h1,h2,c,H,d⟩;rotate_right;·go_enter func73,ntmps73;go_wp2;go_ret2;exact⟨yD (by rw[sy H.out,d.out]) H.out.symm,a _⟩
 all_goals go_enter func73,ntmps73;go_wp2;go_ret2;exact⟨yD (qC H.out).symm H.out.symm,a _⟩
def dN(w:World)(r:Se×Int)(e:Ending)(a:World):Prop:=∃v,e=.returned (.tuple #[.agg #[.int .i64 r.1.bD,v],.int .i64 r.2])∧Row kT 82 a w.heap.size v r.1.bj∧Below w.heap.size w a
structure Pu(w:World)(s:Se)(a:Option Addr)(cap:Nat)(t:Tr)(W:World):Prop where
 bel:Below w.heap.size w W
 box:W.heap[w.heap.size]?=some (so s a cap)tb:W.heap[w.heap.size+1]?=some (nN t)res:W.heap[w.heap.size+2]?=some (so kN none 0)
theorem Pu.on{w:World}{s:Se}{a:Option Addr}{cap:Nat}{t:Tr}{W c:World}(h:Pu w s a cap t W)(b:Below W.heap.size W c):Pu w s a cap t c:=⟨h.bel.trans (b.mono h.bel.size),(b.block _ (ae h.box)).trans h.box,(b.block _ (ae h.tb)).trans h.tb,(b.block _ (ae h.res)).trans h.res⟩
theorem Pu.lt{w:World}{s:Se}{a:Option Addr}{cap:Nat}{t:Tr}{W:World}(h:Pu w s a cap t W):w.heap.size+2<W.heap.size:=ae h.res
theorem yr{w:World}(s:Se)(a:Option Addr)(cap:Nat)(t:Tr):Pu w s a cap t (((w.alloc (so s a cap)).alloc (nN t)).alloc (so kN none 0)):=by
 refine⟨((ar _ _).alloc (by simp) _).alloc (by simp;omega) _,?_,?_,ah _ _ _ (by simp)⟩;·rw[bC _ _ _ (by simp;omega),bC _ _ _ (by simp),ah _ _ _ rfl]
 ·rw[bC _ _ _ (by simp),ah _ _ _ (by simp)]
theorem jE{W:World}{b:Nat}{t:Tr}(a:W.heap[b]?=some (nN t)):W.frozen? ⟨b,0,none⟩=false∧W.frozen? ⟨b,1,none⟩=false∧W.frozen? ⟨b,2,none⟩=false∧W.frozen? ⟨b,3,none⟩=false:=by unfold nN at a;refine⟨?_,?_,?_,?_⟩<;>simp[World.frozen?,a]
theorem Jn(s:Se)(a:Option Addr)(cap:Nat)(t:Tr)(w:World)(m:bF kT w a cap s.bj)(h0:(bX s).1≠0):Calls prog 121 #[sv s a cap,tv t] w (dN w (fV s t)):=by
 have i:=yr (w:=w) s a cap t;have d:=m.below i.bel;have q:=aW (tX (t:=t) h0);have j:((bX s).1 !=0)=true:=by simpa using h0
 unfold sv tv;go_enter func121,ntmps121;go_wp2_with fail;refine(dO s a cap _ d).mono ?_;rintro e b ⟨rfl,c⟩;have h:=i.on c;clear i c h0 d;generalize(bX s).1=r1 at*;generalize(bX s).2=r2 at*;go_upto_region 3 with fail;have g:=h.on (ar b (.cells #[.int .i64 r1,.int .i64 r2] 47));have n:(b.alloc (.cells #[.int .i64 r1,.int .i64 r2] 47)).heap[b.heap.size]?=some (.cells #[.int .i64 r1,.int .i64 r2] 47):=ah _ _ _ rfl;have r:=h.lt;clear h;generalize b.alloc _=W at*;obtain⟨p,o⟩:=cH g.res;obtain⟨z,y⟩:=fH g.res;obtain⟨x,u,-,-⟩:=dJ n;generalize b.heap.size=f at*;have l:w.heap.size+2≠f:=by omega
 have k:f≠w.heap.size+2:=by omega
 go_region
 all_goals
  go_wp2;refine aA (v:=.tuple #[.agg #[.int .i64 0,.slice none 0 0],.int .i64 r1]) (by simp[results,results121,go_sem,p,o];try rfl) rfl ?_;unfold dN;rw[q.out];refine⟨.slice none 0 0,rfl,.nil,?_⟩;refine Below.drew ?_;repeat refine aR ?_ (by simp<;>omega) _
  exact g.bel
theorem Pu.num{w:World}{s:Se}{a:Option Addr}{cap:Nat}{t:Tr}{W:World}(h:Pu w s a cap t W)(n:Int):Pu w s a cap ⟨n,t.k,t.a,t.s⟩ (W.setCell ⟨w.heap.size+1,0,none⟩ (.int .i64 n)):=by refine⟨h.bel.setCell (by simp) _,(aF _ _ _ _ (by simp)).trans h.box,?_,(aF _ _ _ _ (by simp)).trans h.res⟩;have:= aZ W (w.heap.size +1) 0 _ _ (.int .i64 n) h.tb;simpa[nN]using this
theorem Pu.bj{w:World}{s:Se}{a:Option Addr}{cap:Nat}{t:Tr}{W:World}(h:Pu w s a cap t W)(L:List Tr)(c:Option Addr)(b:Nat):Pu w ⟨s.bD,L⟩ c b t (W.setCell ⟨w.heap.size,1,none⟩ (.slice c L.length b)):=by refine⟨h.bel.setCell (by simp) _,?_,(aF _ _ _ _ (by simp)).trans h.tb,(aF _ _ _ _ (by simp)).trans h.res⟩;have:= aZ W w.heap.size 1 _ _ (.slice c L.length b) h.box;simpa[so]using this
theorem Pu.bD{w:World}{s:Se}{a:Option Addr}{cap:Nat}{t:Tr}{W:World}(h:Pu w s a cap t W)(n:Int):Pu w ⟨n,s.bj⟩ a cap t (W.setCell ⟨w.heap.size,0,none⟩ (.int .i64 n)):=by refine⟨h.bel.setCell (by simp) _,?_,(aF _ _ _ _ (by simp)).trans h.tb,(aF _ _ _ _ (by simp)).trans h.res⟩;have :=aZ W w.heap.size 0 _ _ (.int .i64 n) h.box;simpa[so]using this
theorem Row.set{K:Kind Tr}{e:TypeId}{w:World}{aq:Nat}{v:Value}{L:List Tr}(h:Row K e w aq v L)(p:Addr)(b:p.block<aq)(u:Value):Row K e (w.setCell p u) aq v L:=h.cB (by simp) fun k a _=>aF _ _ _ _ (by have:= (h.dV k a).1;omega)
theorem Gc(s:Se)(a:Option Addr)(cap:Nat)(t:Tr)(w:World)(hL:bF kT w a cap s.bj)(h0:(bX s).1=0):Calls prog 121 #[sv s a cap,tv t] w (dN w (fV s t)):=by
  have P0:=yr (w:=w) s a cap t;have S:=hL.below P0.bel;have E:=aW (uZ (t:=t) h0);have D:=aW (yl (t:=t) h0);have R:=mx.1 h0;have q1:=R.iv;have q2:0≤s.bD:=by have :=R.lo;omega
  have q3:=R.hi;have a2:((bX s).1 !=0)=false:=by simpa using h0
  unfold sv tv;go_enter func121,ntmps121;go_wp2_with fail;refine(dO s a cap _ S).mono ?_;rintro e w1 ⟨rfl,N⟩;have P1:=P0.on N;clear P0 N h0 S;generalize(bX s).1=r1 at*;generalize(bX s).2=r2 at*;go_upto_region 4 with fail;have U:=P1.on (ar w1 (.cells #[.int .i64 r1,.int .i64 r2] 47));clear P1;generalize w1.alloc _=W at*;obtain⟨F,x⟩:=cH U.box;obtain⟨T,T1,Z,Y⟩:=ic U.tb;obtain⟨G0,G1,G2,G3⟩:=jE U.tb;go_upto_region 5 with fail;have q:=U.num (s.bD +1);clear F x T T1 Z Y G0 G1 G2 G3 U;generalize W.setCell _ _=W at*;have hn:(⟨s.bD+1,t.k,t.a,t.s⟩:Tr)=ju s t:=rfl;rw[hn]at q;clear hn;obtain⟨O,V⟩:∃O,Hid (O=s.bj++[ju s t]):=⟨_,rfl⟩;go_cut[]from 20 to 27 (fun wc=>∃r g,Pu w ⟨s.bD,O⟩ r g (ju s t) wc∧Row kT 82 wc (w.heap.size +3) (.slice r O.length g) O)
  case first=>
    have Q:=hL.below q.bel;have a1:=q.lt;have H:w.heap.size<W.heap.size:=by omega
    obtain⟨F,x⟩:=cH q.box;have BA:∀o,(W.alloc o).cell? ⟨w.heap.size,1,none⟩=some (.slice a s.bj.length cap):=fun o=>(aY _ _ _ H).trans x;obtain⟨T,T1,Z,Y⟩:=ic q.tb;go_region_law (first
      |(refine step_append tG _ rfl (.const (.slice none 0 0)) (.tmp 21) rfl W.heap.size (.slice none 0 0) [] rfl .nil a s.bj.length cap s.bj (by simp[Act.eval]) rfl Q.drew (by simp[maxLen];omega) (by simp;omega) (aj _) ?_;intro v1 w2 c b _ _;have h:Below W.heap.size W w2:=cI (L:=[]) ((Below.refl _ _).drew) b (.nil:Row kT 82 W.drew W.heap.size (.slice none 0 0) []) (aj _) (aj _);obtain⟨a9,a7,a6,a5⟩:=ic (q.on h).tb;rw[dC]at c;clear b)
      |(refine step_append tG _ rfl (.const (.slice none 0 0)) (.tmp 21) rfl W.heap.size (.slice none 0 0) [] rfl .nil a s.bj.length cap s.bj (by simp[Act.eval]) rfl (Q.alloc _).drew (by simp[maxLen];omega) (by simp;omega) (by show W.heap.size≤(W.heap.push _).size;simp) ?_;intro v1 w2 c b _ _;have h:Below W.heap.size W w2:=cI (L:=[]) ((ar W _).drew) b (.nil:Row kT 82 _ W.heap.size (.slice none 0 0) []) (aj _) (by show W.heap.size≤(W.heap.push _).size;simp);have J:=(b.block W.heap.size (by show W.heap.size<(W.heap.push _).size;simp) (by simp[Value.ownBlock])).trans (ah W _ _ rfl);rw[dC]at c;clear b)
      |(refine step_append tG _ rfl (.tmp 22) (.tmp 24) rfl W.heap.size v1 s.bj (by simp[Act.eval]) (c.alloc _) (some ⟨w2.heap.size,0,none⟩) 1 1 [ju s t] (by simp[Act.eval]) rfl (cV (ah _ _ _ rfl) rfl _) (by simp[maxLen];omega) (by simp;omega) (by have :=h.size;simp;omega) ?_;intro v3 w3 d b _ _;have C:Below W.heap.size W w3:=cI (h.alloc h.size _) b (c.alloc _) (aj _) (by have :=h.size;simp;omega);have l:=q.on C;rw[←V.out]at d;obtain⟨X,j,rfl,-,-,-⟩:=d.bQ;obtain⟨C0,C1⟩:=cH l.box;obtain⟨F0,F1⟩:=fH l.box;clear b c h)
      |(refine step_append tG _ rfl (.tmp 22) (.tmp 24) rfl W.heap.size v1 s.bj (by simp[Act.eval]) c (some ⟨W.heap.size,0,none⟩) 1 1 [ju s t] (by simp[Act.eval]) rfl (cV J rfl _) (by simp[maxLen];omega) (by simp;omega) h.size ?_;intro v3 w3 d b _ _;have C:Below W.heap.size W w3:=cI h b c (aj _) h.size;have l:=q.on C;rw[←V.out]at d;obtain⟨X,j,rfl,-,-,-⟩:=d.bQ;obtain⟨C0,C1⟩:=cH l.box;obtain⟨F0,F1⟩:=fH l.box;clear b c h));all_goals(go_wp2_with fail;go_meet;exact⟨X,j,l.bj _ X j,Row.set (d.mono (by omega)) ⟨w.heap.size,1,none⟩ (by simp<;>omega) _⟩)
  case rest=>
    obtain⟨r,g,l,c⟩:=hcut;clear q;generalize wc=W4 at*;have HO:Hid (kj s t=⟨s.bD+1,O⟩):=aW (by rw[V.out];rfl);have P:(ju s t).n=s.bD+1:=rfl;obtain⟨F,x⟩:=cH l.box;obtain⟨F0,F1⟩:=fH l.box;obtain⟨T,T1,Z,Y⟩:=ic l.tb;rw[P]at T;go_upto_region 7 with fail;have P5:=l.bD (s.bD +1);have i:=Row.set c ⟨w.heap.size,0,none⟩ (by simp<;>omega) (.int .i64 (s.bD+1));clear F x F0 F1 T T1 Z Y l c;generalize W4.setCell _ _=W5 at*;have M:bF kT W5 r g O:=by obtain⟨X,j,h3,hl,-,-⟩:=i.bQ;obtain⟨rfl,-,rfl⟩:=bB h3;exact hl
    rw[←HO.out]at P5;have K:bF kT W5 r g (kj s t).bj:=by rw[HO.out];exact M
    have p:Row kT 82 W5 (w.heap.size +3) (.slice r (kj s t).bj.length g) (kj s t).bj:=by rw[HO.out];exact i
    clear M i HO P V;generalize kj s t=o at*;obtain⟨F,x⟩:=cH P5.box;go_wp2_with fail;refine(dO o r g _ K).mono ?_;rintro e z ⟨rfl,B⟩;have P6:=P5.on B;have m:=p.below B;clear P5 B p K F x;by_cases h0:(bX o).1=0
    · have HP:=aW (D.out h0);have I:((bX o).1 !=0)=false:=by simpa using h0
      clear h0 E D;generalize(bX o).1=y at*;generalize(bX o).2=G at*;have u:=P6.on (ar z (.cells #[.int .i64 y,.int .i64 G] 47));have A:=m.alloc (.cells #[.int .i64 y,.int .i64 G] 47);obtain⟨F,x⟩:=cH u.box;obtain⟨R0,R1⟩:=cH u.res;obtain⟨E0,E1⟩:=fH u.res;go_upto_region 10 with fail;generalize z.alloc _=W7 at*;go_wp2;refine aA (v:=.tuple #[.agg #[.int .i64 o.bD,.slice r o.bj.length g],.int .i64 0]) (by simp[results,results121,go_sem,R0,R1];try rfl) rfl ?_;unfold dN;rw[HP.out];refine⟨_,rfl,?_,?_⟩
      · refine Row.mono (aq:=w.heap.size+3) ?_ (by omega);repeat refine Row.set ?_ _ (by simp) _
        exact A
      · repeat refine aR ?_ (by simp<;>omega) _
        exact u.bel
    · have HP:=aW (E.out h0);have I:((bX o).1 !=0)=true:=by simpa using h0
      clear h0 E D;generalize(bX o).1=y at*;generalize(bX o).2=G at*;have u:=P6.on (ar z (.cells #[.int .i64 y,.int .i64 G] 47));have hF:(z.alloc (.cells #[.int .i64 y,.int .i64 G] 47)).heap[z.heap.size]?=some (.cells #[.int .i64 y,.int .i64 G] 47):=ah _ _ _ rfl;have hl:=P6.lt;go_upto_region 9 with fail;generalize z.alloc _=W7 at*;obtain⟨R0,R1⟩:=cH u.res;obtain⟨E0,E1⟩:=fH u.res;obtain⟨G0,G1,-,-⟩:=dJ hF;clear P6 m;generalize z.heap.size=f at*;have a4:w.heap.size+2≠f:=by omega
      have J:f≠w.heap.size+2:=by omega
      go_region
      all_goals
        go_wp2;refine aA (v:=.tuple #[.agg #[.int .i64 0,.slice none 0 0],.int .i64 y]) (by simp[results,results121,go_sem,R0,R1];try rfl) rfl ?_;unfold dN;rw[HP.out];refine⟨.slice none 0 0,rfl,.nil,?_⟩;refine Below.drew ?_;repeat refine aR ?_ (by simp<;>omega) _
        exact u.bel
theorem Kd(s:Se)(a:Option Addr)(cap:Nat)(t:Tr)(w:World)(b:bF kT w a cap s.bj):Calls prog 121 #[sv s a cap,tv t] w (dN w (fV s t)):=by
 by_cases h0:(bX s).1=0;·exact Gc s a cap t w b h0
 ·exact Jn s a cap t w b h0
structure Bx(w:World)(s:Se)(a:Option Addr)(cap:Nat)(W:World):Prop where
 bel:Below w.heap.size w W
 box:W.heap[w.heap.size]?=some (so s a cap)res:W.heap[w.heap.size+1]?=some (so kN none 0)
theorem Bx.on{w:World}{s:Se}{a:Option Addr}{cap:Nat}{W c:World}(h:Bx w s a cap W)(b:Below W.heap.size W c):Bx w s a cap c:=⟨h.bel.trans (b.mono h.bel.size),(b.block _ (ae h.box)).trans h.box,(b.block _ (ae h.res)).trans h.res⟩
theorem Bx.lt{w:World}{s:Se}{a:Option Addr}{cap:Nat}{W:World}(h:Bx w s a cap W):w.heap.size+1<W.heap.size:=ae h.res
theorem Ir{w:World}(s:Se)(a:Option Addr)(cap:Nat):Bx w s a cap ((w.alloc (so s a cap)).alloc (so kN none 0)):=by refine⟨(ar _ _).alloc (by simp) _,?_,ah _ _ _ (by simp)⟩;rw[bC _ _ _ (by simp),ah _ _ _ rfl]
theorem Bx.bj{w:World}{s:Se}{a:Option Addr}{cap:Nat}{W:World}(h:Bx w s a cap W)(L:List Tr)(c:Option Addr)(b:Nat):Bx w ⟨s.bD,L⟩ c b (W.setCell ⟨w.heap.size,1,none⟩ (.slice c L.length b)):=by refine⟨h.bel.setCell (by simp) _,?_,(aF _ _ _ _ (by simp)).trans h.res⟩;have :=aZ W w.heap.size 1 _ _ (.slice c L.length b) h.box;simpa[so]using this
theorem Ig(s:Se)(a:Option Addr)(cap:Nat)(aX:Int)(w:World)(H:bF kT w a cap s.bj):Calls prog 97 #[sv s a cap,.int .i64 aX] w (dN w (eR s aX)):=by
  have D:=Ir (w:=w) s a cap;have z:=H.below D.bel;unfold sv;go_enter func97,ntmps97;go_wp2_with fail;refine(dO s a cap _ z).mono ?_;rintro e l ⟨rfl,x⟩;have A:=D.on x;clear D x z;by_cases h0:(bX s).1=0;rotate_left
  · have q:=aW (sz (aX:=aX) h0);have C:((bX s).1 !=0)=true:=by simpa using h0
    clear h0;generalize(bX s).1=r1 at*;generalize(bX s).2=r2 at*;go_upto_region 3 with fail;have c:=A.on (ar l (.cells #[.int .i64 r1,.int .i64 r2] 47));have P:(l.alloc (.cells #[.int .i64 r1,.int .i64 r2] 47)).heap[l.heap.size]?=some (.cells #[.int .i64 r1,.int .i64 r2] 47):=ah _ _ _ rfl;have V:=A.lt;clear A;generalize l.alloc _=W at*;obtain⟨p,n⟩:=cH c.res;obtain⟨F,E⟩:=fH c.res;obtain⟨Z,Y,-,-⟩:=dJ P;generalize l.heap.size=f at*;have N:w.heap.size+1≠f:=by omega
    have M:f≠w.heap.size+1:=by omega
    go_region
    all_goals
      go_wp2;refine aA (v:=.tuple #[.agg #[.int .i64 0,.slice none 0 0],.int .i64 r1]) (by simp[results,results97,go_sem,p,n];try rfl) rfl ?_;unfold dN;rw[q.out];refine⟨.slice none 0 0,rfl,.nil,?_⟩;refine Below.drew ?_;repeat refine aR ?_ (by simp) _
      exact c.bel
  have g:=aW (pe (aX:=aX) h0);have h:=aW (vq (aX:=aX) h0);have R:=mx.1 h0;have L:=R.iv;have C:((bX s).1 !=0)=false:=by simpa using h0
  clear h0;generalize(bX s).1=r1 at*;generalize(bX s).2=r2 at*;go_upto_region 4 with fail;have c:=A.on (ar l (.cells #[.int .i64 r1,.int .i64 r2] 47));clear A;generalize l.alloc _=W at*;obtain⟨J,G⟩:=cH c.box;obtain⟨p,n⟩:=cH c.res;obtain⟨F,E⟩:=fH c.res;by_cases h1:aX<0
  · have q:=aW (g.out (Or.inl h1));clear g h;go_wp2;refine aA (v:=.tuple #[.agg #[.int .i64 0,.slice none 0 0],.int .i64 3]) (by simp[results,results97,go_sem,p,n];try rfl) rfl ?_;unfold dN;rw[q.out];refine⟨.slice none 0 0,rfl,.nil,?_⟩;repeat refine aR ?_ (by simp) _
    exact c.bel
  have S:0≤aX:=by omega
  by_cases h2:s.bD<aX
  · have q:=aW (g.out (Or.inr h2));clear g h h1;go_wp2;refine aA (v:=.tuple #[.agg #[.int .i64 0,.slice none 0 0],.int .i64 3]) (by simp[results,results97,go_sem,p,n];try rfl) rfl ?_;unfold dN;rw[q.out];refine⟨.slice none 0 0,rfl,.nil,?_⟩;repeat refine aR ?_ (by simp) _
    exact c.bel
  have q:=aW (h.out (by omega));have Q:aX≤s.bD:=by omega
  clear g h h1 h2 p n F E;go_upto_region 6 with fail;have i:w.heap.size<W.heap.size:=by have:= c.lt;omega
  have y:=H.below c.bel;have T:∀o,(W.alloc o).cell? ⟨w.heap.size,1,none⟩=some (.slice a s.bj.length cap):=fun o=>(aY _ _ _ i).trans G;go_cut[]from 24 to 30 (fun wc=>∃B b,Bx w ⟨s.bD,eW aX s.bj⟩ B b wc∧Row kT 82 wc (w.heap.size +2) (.slice B (eW aX s.bj).length b) (eW aX s.bj))
  case first=>
    go_region_with (first
      |(go_at_call 124;refine(Es aX _).mono ?_;rintro e w2 ⟨rfl,rfl⟩)
      |(go_at_call 123;refine(Eh a cap s.bj W.heap.size aX _ ?_ ?_ L).mono ?_;exact(y.alloc _).drew;exact ah W _ _ rfl;rintro e K ⟨U,rfl,d,u⟩;have t:Below W.heap.size W K:=((ar W _).drew).trans (u.mono (by show W.heap.size≤(W.heap.push _).size;simp));have m:=d.mono (base':=W.heap.size) (by show W.heap.size≤(W.heap.push _).size;simp);obtain⟨I,j,rfl,-,-,-⟩:=d.bQ;have k:=c.on t;obtain⟨C0,C1⟩:=cH k.box;obtain⟨F0,F1⟩:=fH k.box;clear u t));all_goals(go_wp2_with fail;go_meet;exact⟨I,j,k.bj _ I j,Row.set (m.mono (base':=w.heap.size+2) (by have:= c.lt;omega)) ⟨w.heap.size,1,none⟩ (by show w.heap.size<_;omega) _⟩)
  case rest=>
    obtain⟨B,b,k,r⟩:=hcut;clear c J G T i y;generalize wc=X at*;generalize eW aX s.bj=O at*;obtain⟨J,G⟩:=cH k.box;obtain⟨p,n⟩:=cH k.res;obtain⟨F,E⟩:=fH k.res;go_wp2;refine aA (v:=.tuple #[.agg #[.int .i64 s.bD,.slice B O.length b],.int .i64 0]) (by simp[results,results97,go_sem,p,n];try rfl) rfl ?_;unfold dN;rw[q.out];refine⟨_,rfl,?_,?_⟩
    · refine Row.mono (aq:=w.heap.size+2) ?_ (by omega);repeat refine Row.set ?_ _ (by simp) _
      exact r
    · repeat refine aR ?_ (by simp) _
      exact k.bel
theorem jD(s:Se)(a:Option Addr)(cap:Nat)(g:Option Addr)(c:Nat)(w:World)(q:bF kT w a cap s.bj)(z:bF kT w g c s.bj):Calls prog 19 #[sv s a cap,sv s g c] w fun e v=>e=.returned (.bool true)∧Below w.heap.size w v:=by
 have x:=q.len;unfold maxLen at x;have n:((w.alloc (so s a cap)).alloc (so s g c)).heap[w.heap.size]?=some (so s a cap):=by rw[bC _ _ _ (by simp),ah _ _ _ rfl]
 have m:((w.alloc (so s a cap)).alloc (so s g c)).heap[w.heap.size+1]?=some (so s g c):=ah _ _ _ (by simp);have f:Below w.heap.size w ((w.alloc (so s a cap)).alloc (so s g c)):=(ar _ _).alloc (by simp) _;have l:w.heap.size+1<((w.alloc (so s a cap)).alloc (so s g c)).heap.size:=by simp
 unfold so at n m f l;unfold sv;go_enter func19,ntmps19;go_upto_region 1 with fail;generalize(w.alloc _).alloc _=u at*;obtain⟨H,F⟩:=cH n;obtain⟨D,B⟩:=cH m;go_wp2;go_loopw[23](fun i wr=>∃k:Nat,k≤s.bj.length∧i=.int .i64 k∧Below u.heap.size u wr) (fun i _=>s.bj.length-(intOf i).toNat);case atStart=>exact⟨0,bq _,rfl,Below.refl _ _⟩
 case round=>
  obtain⟨k,I,rfl,j⟩:=hrel;generalize wr=W at*;have d:Below w.heap.size w W:=f.trans (j.mono f.size);by_cases h:k<s.bj.length
  ·have p:(k:Int)<s.bj.length:=by omega
   obtain⟨b,off,rfl,y,Q,P,O,N⟩:=nA (q.below d) h;obtain⟨b2,o,rfl,r,M,L,K,J⟩:=nA (z.below d) h;obtain⟨G,E⟩:=cH ((j.block _ (by omega)).trans n);obtain⟨C,A⟩:=cH ((j.block _ (by omega)).trans m);clear H F D B;generalize s.bj.getD k dA=t at*;go_wp2;go_quiet(fail);go_wp2;go_roundw;case rel=>exact⟨k+1,by omega,by go_num,br j _⟩
   case measure=>simp[intOf];omega
  ·go_wp2;go_ret;exact⟨rfl,d⟩
