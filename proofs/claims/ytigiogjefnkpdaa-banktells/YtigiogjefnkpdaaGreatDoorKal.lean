import Derived.Test.YtigiogjefnkpdaaGreatDoorKak
set_option maxHeartbeats 4000000
set_option maxRecDepth 100000
open Go.Proofs.Tryz
namespace Go.Proofs.YtigiogjefnkpdaaGreatDoor.Po
open RowKit Gn
theorem aM{W X:World}(h:Below W.heap.size W X)(o:Obj):Below W.heap.size W (X.alloc o):=h.alloc h.size o
theorem gw{α:Type}(K:Kind α)(e:TypeId){w:World}{aq g:Nat}(h1:aq≤g)(h2:g<w.heap.size):Row K e w aq (.slice (some ⟨g,0,none⟩) 0 0) []:=.full g [] h1 ⟨by simp[maxLen],(fun h=>by cases h),Or.inl rfl⟩ h2
theorem nE{T Q:Prop}(h:T)(k:T→Q):Q:=k h
theorem fm(g n c:Nat):(Value.slice (some ⟨g,0,none⟩) n c).ownBlock=some g:=rfl
theorem Ln{X:World}{B:Nat}{s:Se}{a:Option Addr}{cap:Nat}(h:X.heap[B]?=some (so s a cap))(n:Int)(L:List Tr)(c:Option Addr)(b:Nat):((X.setCell ⟨B,0,none⟩ (.int .i64 n)).setCell ⟨B,1,none⟩ (.slice c L.length b)).heap[B]?=some (so ⟨n,L⟩ c b):=by have h1:=aZ X B 0 _ _ (.int .i64 n) h;have h2:=aZ _ B 1 _ _ (.slice c L.length b) h1;rw[h2];simp[so]
theorem Row.xH{K:Kind Tr}{e:TypeId}{w:World}{aq:Nat}{v:Value}{L:List Tr}(h:Row K e w aq v L)(p:Addr)(a:∀k,v.ownBlock=some k→k≠p.block)(u:Value):Row K e (w.setCell p u) aq v L:=h.cB (by simp) fun k b _=>aF _ _ _ _ (a k b)
theorem Pu.held{w:World}{s:Se}{a:Option Addr}{cap:Nat}{t:Tr}{W X:World}(h:Pu w s a cap t W)(b:Below W.heap.size W X):X.cell? ⟨w.heap.size+1,0,none⟩=some (.int .i64 t.n)∧X.cell? ⟨w.heap.size+1,1,none⟩=some (.int .i64 t.k)∧X.cell? ⟨w.heap.size+1,2,none⟩=some (.int .i64 t.a)∧X.cell? ⟨w.heap.size+1,3,none⟩=some (.int .i64 t.s)∧X.cell? ⟨w.heap.size,1,none⟩=some (.slice a s.bj.length cap):=by obtain⟨h0,h1,h2,c⟩:=ic (h.on b).tb;exact⟨h0,h1,h2,c,(cH (h.on b).box).2⟩
theorem Bf(s:Se)(a:Option Addr)(cap:Nat)(t:Tr)(w:World)(n:bF kT w a cap s.bj)(c:Fit s.bj)(h0:(bX s).1≠0):Calls prog 84 #[sv s a cap,tv t] w (dN w (fV s t)):=by
 have j:=yr (w:=w) s a cap t;have g:=n.below j.bel;have r:=aW (tX (t:=t) h0);have k:((bX s).1 !=0)=true:=by simpa using h0
 unfold sv tv;go_enter func84,ntmps84;go_wp2_with fail;refine(cr s a cap _ g c).mono ?_;rintro e b ⟨rfl,d⟩;have i:=j.on d;clear j d h0 g;generalize(bX s).1=r1 at*;generalize(bX s).2=r2 at*;go_upto_region 3 with fail;have h:=i.on (ar b (.cells #[.int .i64 r1,.int .i64 r2] 47));have o:(b.alloc (.cells #[.int .i64 r1,.int .i64 r2] 47)).heap[b.heap.size]?=some (.cells #[.int .i64 r1,.int .i64 r2] 47):=ah _ _ _ rfl;have u:=i.lt;clear i;generalize b.alloc _=W at*;obtain⟨q,p⟩:=cH h.res;obtain⟨A,z⟩:=fH h.res;obtain⟨y,x,-,-⟩:=dJ o;generalize b.heap.size=f at*;have m:w.heap.size+2≠f:=by omega
 have l:f≠w.heap.size+2:=by omega
 go_region
 all_goals
  go_wp2;refine aA (v:=.tuple #[.agg #[.int .i64 0,.slice none 0 0],.int .i64 r1]) (by simp[results,results84,go_sem,q,p];try rfl) rfl ?_;unfold dN;rw[r.out];refine⟨.slice none 0 0,rfl,.nil,?_⟩;refine Below.drew ?_;repeat refine aR ?_ (by simp<;>omega) _
  exact h.bel
theorem zP(s:Se)(a:Option Addr)(cap:Nat)(t:Tr)(w:World)(hL:bF kT w a cap s.bj)(G:Fit s.bj)(h0:(bX s).1=0):Calls prog 84 #[sv s a cap,tv t] w (dN w (fV s t)):=by
  have P0:=yr (w:=w) s a cap t;have a7:=hL.below P0.bel;have Q:=aW (uZ (t:=t) h0);have P:=aW (yl (t:=t) h0);have R:=mx.1 h0;have V:=R.iv;have U:0≤s.bD:=by have :=R.lo;omega
  have q3:=R.hi;have bd:((bX s).1 !=0)=false:=by simpa using h0
  unfold sv tv;go_enter func84,ntmps84;go_wp2_with fail;refine(cr s a cap _ a7 G).mono ?_;rintro e w1 ⟨rfl,a4⟩;have P1:=P0.on a4;clear P0 a4 h0 a7;generalize(bX s).1=r1 at*;generalize(bX s).2=r2 at*;go_upto_region 4 with fail;have P2:=P1.on (ar w1 (.cells #[.int .i64 r1,.int .i64 r2] 47));clear P1;generalize w1.alloc _=W at*;obtain⟨B0,B1⟩:=cH P2.box;obtain⟨T0,T1,T2,T3⟩:=ic P2.tb;obtain⟨G0,G1,G2,G3⟩:=jE P2.tb;go_upto_region 5 with fail;have N:=P2.num (s.bD+1);clear B0 B1 T0 T1 T2 T3 G0 G1 G2 G3 P2;generalize W.setCell _ _=W at*;have hn:(⟨s.bD+1,t.k,t.a,t.s⟩:Tr)=ju s t:=rfl;rw[hn]at N;clear hn;have a5:Hid ((ju s t).n=s.bD+1):=rfl;obtain⟨O,hO⟩:∃O,Hid (O =s.bj++[ju s t]):=⟨_,rfl⟩;go_cut[7]from 21 to 31 (fun p wc=>∃B I g,p=.pointer (some ⟨B,0,none⟩)∧w.heap.size+2<B∧Pu w s a cap (ju s t) wc∧wc.heap[B]?=some (so ⟨s.bD+1,O⟩ I g)∧Row kT 82 wc (w.heap.size+3) (.slice I O.length g) O)
  case first=>
    have am:=hL.below N.bel;have bc:=N.lt;have an:w.heap.size<W.heap.size:=by omega
    generalize ju s t=y at*;go_region_held3 (fun X=>X.cell? ⟨w.heap.size+1,0,none⟩=some (.int .i64 y.n)∧X.cell? ⟨w.heap.size+1,1,none⟩=some (.int .i64 y.k)∧X.cell? ⟨w.heap.size+1,2,none⟩=some (.int .i64 y.a)∧X.cell? ⟨w.heap.size+1,3,none⟩=some (.int .i64 y.s)∧X.cell? ⟨w.heap.size,1,none⟩=some (.slice a s.bj.length cap))
      ((refine N.held ?_;repeat(first|exact C|exact D|exact Below.refl _ _|refine Below.drew ?_|refine aM ?_ _|refine aR ?_ (by first|omega|(simp;done)|(simp;omega)) _)))
      (first
        | (refine step_append tG _ rfl (.tmp 23) (.tmp 25) rfl W.heap.size (.slice (some ⟨_,0,none⟩) 0 0) [] rfl (gw kT _ (by first|omega|(simp;done)|(simp;omega)) (by first|omega|(simp;done)|(simp;omega))) a s.bj.length cap s.bj rfl rfl (by repeat(first|exact am|refine bF.drew ?_|refine bF.alloc ?_ _)) (by simp[maxLen];omega) (by simp;omega) (by first|omega|(simp;done)|(simp;omega)) ?_;intro v1 w2 d c l _;have D:=cI (B:=W.heap.size) (w:=W) (by repeat(first|exact Below.refl _ _|refine Below.drew ?_|refine aM ?_ _)) c (gw kT 82 (aq:=W.heap.size) (by first|omega|(simp;done)|(simp;omega)) (by first|omega|(simp;done)|(simp;omega))) (aj _) (by first|omega|(simp;done)|(simp;omega));rw[dC]at d;have aa:=c.size;simp only[fm,cS]at l;try simp at aa
           try simp at l
           have j:=d.dV)
        | (refine step_append tG _ rfl (.tmp 26) (.tmp 28) rfl W.heap.size v1 s.bj rfl (by repeat(first|exact d|refine Row.drew ?_|refine Row.alloc ?_ _)) _ 1 1 [y] rfl rfl (cV (by repeat(first|exact ah _ _ _ (by first|omega|(simp;done)|(simp;omega))|refine(bC _ _ _ (by first|omega|(simp;done)|(simp;omega))).trans ?_|refine(c.block _ (by first|omega|(simp;done)|(simp;omega)) (by simp only[fm,ne_eq,cS];omega)).trans ?_|rw[eH])) rfl _) (by simp[maxLen];omega) (by simp;omega) (by have:= D.size;simp<;>omega) ?_;intro v3 S i b H _;have C:=cI (K:=kT) (e:=82) (aq:=W.heap.size) (L:=s.bj) (B:=W.heap.size) (w:=W) (by repeat(first|exact D|refine Below.drew ?_|refine aM ?_ _)) b (by repeat(first|exact d|refine Row.drew ?_|refine Row.alloc ?_ _)) (aj _) (by have:= D.size;simp<;>omega);rw[←hO.out]at i;have a9:=b.size;have Z:=i.dV;try simp at a9
           try simp only[eG]at H
           obtain⟨a3,x,rfl,-,-,-⟩:=i.bQ;try(refine nE (T:=S.heap[W.heap.size]?=some (so kN none 0)) ?_ (fun z0=>?_);(focus ((repeat(first|exact ah _ _ _ (by first|omega|(simp;done)|(simp;omega))|refine(bC _ _ _ (by first|omega|(simp;done)|(simp;omega))).trans ?_|refine(b.block _ (by first|omega|(simp;done)|(simp;omega)) (by intro h;have V:=l _ h.symm;have U:=(j _ h.symm).2;omega)).trans ?_|refine(c.block _ (by first|omega|(simp;done)|(simp;omega)) (by simp only[fm,ne_eq,cS];omega)).trans ?_|rw[eH]));done));obtain⟨y0,b3⟩:=cH z0;obtain⟨x0,bb⟩:=fH z0)
           try(refine nE (T:=S.heap[W.heap.size+1]?=some (so kN none 0)) ?_ (fun z1=>?_);(focus ((repeat(first|exact ah _ _ _ (by first|omega|(simp;done)|(simp;omega))|refine(bC _ _ _ (by first|omega|(simp;done)|(simp;omega))).trans ?_|refine(b.block _ (by first|omega|(simp;done)|(simp;omega)) (by intro h;have V:=l _ h.symm;have U:=(j _ h.symm).2;omega)).trans ?_|refine(c.block _ (by first|omega|(simp;done)|(simp;omega)) (by simp only[fm,ne_eq,cS];omega)).trans ?_|rw[eH]));done));obtain⟨y1,b0⟩:=cH z1;obtain⟨z,ba⟩:=fH z1)
           try(refine nE (T:=S.heap[W.heap.size+1+1]?=some (so kN none 0)) ?_ (fun z2=>?_);(focus ((repeat(first|exact ah _ _ _ (by first|omega|(simp;done)|(simp;omega))|refine(bC _ _ _ (by first|omega|(simp;done)|(simp;omega))).trans ?_|refine(b.block _ (by first|omega|(simp;done)|(simp;omega)) (by intro h;have V:=l _ h.symm;have U:=(j _ h.symm).2;omega)).trans ?_|refine(c.block _ (by first|omega|(simp;done)|(simp;omega)) (by simp only[fm,ne_eq,cS];omega)).trans ?_|rw[eH]));done));obtain⟨y2,ay⟩:=cH z2;obtain⟨E,b6⟩:=fH z2)
           try(refine nE (T:=S.heap[w2.heap.size]?=some (so kN none 0)) ?_ (fun z3=>?_);(focus ((repeat(first|exact ah _ _ _ (by first|omega|(simp;done)|(simp;omega))|refine(bC _ _ _ (by first|omega|(simp;done)|(simp;omega))).trans ?_|refine(b.block _ (by first|omega|(simp;done)|(simp;omega)) (by intro h;have V:=l _ h.symm;have U:=(j _ h.symm).2;omega)).trans ?_|refine(c.block _ (by first|omega|(simp;done)|(simp;omega)) (by simp only[fm,ne_eq,cS];omega)).trans ?_|rw[eH]));done));obtain⟨y3,aw⟩:=cH z3;obtain⟨x3,b5⟩:=fH z3)
           try(refine nE (T:=S.heap[w2.heap.size+1]?=some (so kN none 0)) ?_ (fun z4=>?_);(focus ((repeat(first|exact ah _ _ _ (by first|omega|(simp;done)|(simp;omega))|refine(bC _ _ _ (by first|omega|(simp;done)|(simp;omega))).trans ?_|refine(b.block _ (by first|omega|(simp;done)|(simp;omega)) (by intro h;have V:=l _ h.symm;have U:=(j _ h.symm).2;omega)).trans ?_|refine(c.block _ (by first|omega|(simp;done)|(simp;omega)) (by simp only[fm,ne_eq,cS];omega)).trans ?_|rw[eH]));done));obtain⟨y4,ao⟩:=cH z4;obtain⟨x4,b4⟩:=fH z4)))
    all_goals
      go_wp2_with fail;go_meet;rw[←a5.out]
      first
        |exact⟨_,a3,x,rfl,by show w.heap.size+2<S.heap.size;have:= C.size;omega,N.on (aM C _),ah _ _ _ rfl,(i.mono (by omega)).alloc _⟩
        | (refine⟨_,a3,x,rfl,?_,N.on ?_,Ln (s:=kN) (a:=none) (cap:=0) ?_ _ _ _ _,Row.mono (aq:=W.heap.size) ?_ (by omega)⟩;·first|omega|(simp;done)|(simp;omega)
           ·repeat(first|exact C|refine aR ?_ (by first|omega|(simp;done)|(simp;omega)) _|refine Below.drew ?_|refine aM ?_ _)
           ·assumption
           · refine Row.xH (Row.xH ?_ _ ?_ _) _ ?_ _;·repeat(first|exact i|refine Row.drew ?_|refine Row.alloc ?_ _)
             all_goals
               intro k hk;have q':=(Z k hk).2;rcases H k hk with q|q;·have V:=l k q;have U:=(j k q).2;first|omega|(simp;omega)
               ·first|omega|(simp;omega))
  case rest=>
    obtain⟨B,I,g,rfl,hB,P4,hS,d⟩:=hcut;clear N;generalize wc=W4 at*;have a2:bF kT W4 I g O:=by obtain⟨a3,x,h3,hl,-,-⟩:=d.bQ;obtain⟨rfl,-,rfl⟩:=bB h3;exact hl
    have HO:Hid (kj s t=⟨s.bD+1,O⟩):=aW (by rw[hO.out];rfl);rw[←HO.out]at hS;have a1:bF kT W4 I g (kj s t).bj:=by rw[HO.out];exact a2
    have ag:Fit (kj s t).bj:=by
      intro u hu;have af:u∈s.bj++[ju s t]:=hu;rcases List.mem_append.1 af with h|h;·exact G u h
      ·simp at h;subst h;simp only[ju];omega
    have r:Row kT 82 W4 (w.heap.size+3) (.slice I (kj s t).bj.length g) (kj s t).bj:=by rw[HO.out];exact d
    clear a2 d HO hO a5;generalize kj s t=o at*;obtain⟨B0,B1⟩:=cH hS;go_wp2_with fail;refine(cr o I g _ a1 ag).mono ?_;rintro e F ⟨rfl,A⟩;have P6:=P4.on A;have m:=r.below A;have a6:=(A.block _ (ae hS)).trans hS;clear P4 A r a1 B0 B1 hS;by_cases h0:(bX o).1=0
    · have HP:=aW (P.out h0);have Y:((bX o).1 !=0)=false:=by simpa using h0
      clear h0 Q P;generalize(bX o).1=z at*;generalize(bX o).2=E at*;have M:=P6.on (ar F (.cells #[.int .i64 z,.int .i64 E] 47));have J:=m.alloc (.cells #[.int .i64 z,.int .i64 E] 47);have ak:=(bC F (.cells #[.int .i64 z,.int .i64 E] 47) _ (ae a6)).trans a6;obtain⟨B0,B1⟩:=cH ak;obtain⟨R0,R1⟩:=cH M.res;obtain⟨E0,E1⟩:=fH M.res;go_upto_region 9 with fail;generalize F.alloc _=W7 at*;go_wp2;refine aA (v:=.tuple #[.agg #[.int .i64 o.bD,.slice I o.bj.length g],.int .i64 0]) (by simp[results,results84,go_sem,R0,R1];try rfl) rfl ?_;unfold dN;rw[HP.out];refine⟨_,rfl,?_,?_⟩
      · refine Row.mono (aq:=w.heap.size+3) ?_ (by omega);repeat refine Row.set ?_ _ (by simp) _
        exact J
      · repeat refine aR ?_ (by simp<;>omega) _
        exact M.bel
    · have HP:=aW (Q.out h0);have Y:((bX o).1 !=0)=true:=by simpa using h0
      clear h0 Q P;generalize(bX o).1=z at*;generalize(bX o).2=E at*;have M:=P6.on (ar F (.cells #[.int .i64 z,.int .i64 E] 47));have hF:(F.alloc (.cells #[.int .i64 z,.int .i64 E] 47)).heap[F.heap.size]?=some (.cells #[.int .i64 z,.int .i64 E] 47):=ah _ _ _ rfl;have hl:=P6.lt;go_upto_region 8 with fail;generalize F.alloc _=W7 at*;obtain⟨R0,R1⟩:=cH M.res;obtain⟨E0,E1⟩:=fH M.res;obtain⟨G0,G1,-,-⟩:=dJ hF;clear P6 m;generalize F.heap.size=f at*;have bf:w.heap.size+2≠f:=by omega
      have be:f≠w.heap.size+2:=by omega
      go_region
      all_goals
        go_wp2;refine aA (v:=.tuple #[.agg #[.int .i64 0,.slice none 0 0],.int .i64 z]) (by simp[results,results84,go_sem,R0,R1];try rfl) rfl ?_;unfold dN;rw[HP.out];refine⟨.slice none 0 0,rfl,.nil,?_⟩;refine Below.drew ?_;repeat refine aR ?_ (by simp<;>omega) _
        exact M.bel
theorem BP(s:Se)(a:Option Addr)(cap:Nat)(t:Tr)(w:World)(c:bF kT w a cap s.bj)(b:Fit s.bj):Calls prog 84 #[sv s a cap,tv t] w (dN w (fV s t)):=by
 by_cases h0:(bX s).1=0;·exact zP s a cap t w c b h0
 ·exact Bf s a cap t w c b h0
structure Bo(w:World)(s:Se)(a:Option Addr)(cap:Nat)(D:Nat)(L:List Tr)(a':Option Addr)(cap':Nat)(W:World):Prop where
 bx:Bx w s a cap W
 out:W.heap[D]?=some (so ⟨s.bD,L⟩ a' cap')row:Row kT 82 W (D+1) (.slice a' L.length cap') L
 lt:w.heap.size+1<D
theorem Bo.on{w:World}{s:Se}{a:Option Addr}{cap D:Nat}{L:List Tr}{d:Option Addr}{b:Nat}{W e:World}(h:Bo w s a cap D L d b W)(c:Below W.heap.size W e):Bo w s a cap D L d b e:=⟨h.bx.on c,(c.block _ (ae h.out)).trans h.out,h.row.below c,h.lt⟩
theorem Bo.more{w:World}{s:Se}{a:Option Addr}{cap D:Nat}{L M:List Tr}{i:Option Addr}{c:Nat}{W d:World}(h:Bo w s a cap D L i c W)(m:W.grownBy d (Value.ownBlock (.slice i L.length c))){f:Option Addr}{b:Nat}(g:Row kT 82 d (D +1) (.slice f M.length b) M):Bo w s a cap D M f b (d.setCell ⟨D,1,none⟩ (.slice f M.length b)):=by
 have l1:=h.lt;have l2:=ae h.out;have e:Below (D +1) W d:=cI (Below.refl _ _) m h.row (aj _) (by omega);have j:=(e.block _ (by omega)).trans h.out;refine⟨⟨(h.bx.bel.trans (e.mono (by omega))).setCell (by simp;omega) _,?_,?_⟩,?_,g.cB (by simp) fun k l _=>aF _ _ _ _ (by have :=(g.dV k l).1;simp;omega),l1⟩;·exact(aF _ _ _ _ (by simp;omega)).trans ((e.block _ (by omega)).trans h.bx.box)
 ·exact(aF _ _ _ _ (by simp;omega)).trans ((e.block _ (by omega)).trans h.bx.res)
 ·have :=aZ d D 1 _ _ (.slice f M.length b) j;simpa[so]using this
theorem yN(s:Se)(a:Option Addr)(cap:Nat)(aX:Int)(w:World)(hL:bF kT w a cap s.bj)(y:Fit s.bj):Calls prog 54 #[sv s a cap,.int .i64 aX] w (dN w (eR s aX)):=by
 have U:=Ir (w:=w) s a cap;have B:=hL.below U.bel;unfold sv;go_enter func54,ntmps54;go_wp2_with fail;refine(cr s a cap _ B y).mono ?_;rintro e p ⟨rfl,A⟩;have F:=U.on A;clear U A B;by_cases h0:(bX s).1=0;rotate_left
 ·have x:=aW (sz (aX:=aX) h0);have N:((bX s).1 !=0)=true:=by simpa using h0
  clear h0;generalize(bX s).1=r1 at*;generalize(bX s).2=r2 at*;go_upto_region 3 with fail;have j:=F.on (ar p (.cells #[.int .i64 r1,.int .i64 r2] 47));have hF:(p.alloc (.cells #[.int .i64 r1,.int .i64 r2] 47)).heap[p.heap.size]?=some (.cells #[.int .i64 r1,.int .i64 r2] 47):=ah _ _ _ rfl;have hl:=F.lt;clear F;generalize p.alloc _=W at*;obtain⟨u,r⟩:=cH j.res;obtain⟨E0,Z⟩:=fH j.res;obtain⟨G0,G1,-,-⟩:=dJ hF;generalize p.heap.size=f at*;have a4:w.heap.size+1≠f:=by omega
  have a2:f≠w.heap.size+1:=by omega
  go_region
  all_goals
   go_wp2;refine aA (v:=.tuple #[.agg #[.int .i64 0,.slice none 0 0],.int .i64 r1]) (by simp[results,results54,go_sem,u,r];try rfl) rfl ?_;unfold dN;rw[x.out];refine⟨.slice none 0 0,rfl,.nil,?_⟩;refine Below.drew ?_;repeat refine aR ?_ (by simp) _
   exact j.bel
 have l:=aW (pe (aX:=aX) h0);have o:=aW (vq (aX:=aX) h0);have R:=mx.1 h0;have q1:=R.iv;have N:((bX s).1 !=0)=false:=by simpa using h0
 clear h0;generalize(bX s).1=r1 at*;generalize(bX s).2=r2 at*;go_upto_region 4 with fail;have j:=F.on (ar p (.cells #[.int .i64 r1,.int .i64 r2] 47));clear F;generalize p.alloc _=W at*;obtain⟨K,J⟩:=cH j.box;obtain⟨u,r⟩:=cH j.res;obtain⟨E0,Z⟩:=fH j.res;by_cases h1:aX<0
 ·have x:=aW (l.out (Or.inl h1));clear l o;go_wp2;refine aA (v:=.tuple #[.agg #[.int .i64 0,.slice none 0 0],.int .i64 3]) (by simp[results,results54,go_sem,u,r];try rfl) rfl ?_;unfold dN;rw[x.out];refine⟨.slice none 0 0,rfl,.nil,?_⟩;repeat refine aR ?_ (by simp) _
  exact j.bel
 have aa:0≤aX:=by omega
 by_cases h2:s.bD<aX
 ·have x:=aW (l.out (Or.inr h2));clear l o h1;go_wp2;refine aA (v:=.tuple #[.agg #[.int .i64 0,.slice none 0 0],.int .i64 3]) (by simp[results,results54,go_sem,u,r];try rfl) rfl ?_;unfold dN;rw[x.out];refine⟨.slice none 0 0,rfl,.nil,?_⟩;repeat refine aR ?_ (by simp) _
  exact j.bel
 have x:=aW (o.out (by omega));have a9:aX≤s.bD:=by omega
 clear l o h1 h2 u r E0 Z;have P:=j.lt;have G:Bo w s a cap W.heap.size [] none 0 (W.alloc (so ⟨s.bD,[]⟩ none 0)):=⟨j.on (ar _ _),ah _ _ _ rfl,.nil,P⟩;unfold so at G;go_upto_region 7 with fail;simp only[oU]at G;have hD:W.heap.size<(W.alloc (.cells #[.int .i64 s.bD,.slice none 0 0] 31)).heap.size:=by simp
 generalize W.alloc _=W1 at*;generalize W.heap.size=D at*;clear K J j;obtain⟨K,J⟩:=cH G.bx.box;go_wp2;go_loopw[33](fun i wr=>∃(k:Nat) (I:Option Addr) (h:Nat),k≤s.bj.length∧i=.int .i64 k∧Bo w s a cap D (eW aX (s.bj.take k)) I h wr) (fun i _=>s.bj.length-(intOf i).toNat);case atStart=>exact⟨0,none,0,bq _,rfl,G⟩
 case round=>
  obtain⟨k,I,h,hk,rfl,m⟩:=hrel;clear G K J;generalize wr=W at*;by_cases q:k<s.bj.length
  ·have a1:(k :Int)<s.bj.length:=by omega
   obtain⟨b,off,rfl,a7,e1,e2,e3,e4⟩:=nA (hL.below m.bx.bel) q;have Y:=aW (xf (aX:=aX) q);have X:=aW (uV (aX:=aX) q);have a5:=qy aX s.bj k;generalize s.bj.getD k dA=t at*;have g:=m.on (ar W (nN t));have Q:(W.alloc (nN t)).heap[W.heap.size]?=some (nN t):=ah _ _ _ rfl;go_upto_region 10 with fail;unfold nN at g Q;clear e1 e2 e3 e4 m;generalize W.alloc _=T at*;obtain⟨T0,T1,T2,T3⟩:=ic Q;by_cases hq:aX<t.n
   ·have H:=aW (Y.out hq);clear Y X;obtain⟨D0,D1⟩:=cH g.out;have lD:=ae g.out;generalize eW aX (s.bj.take k)=L at*;go_wp2_with(at_builtin;refine bH tG _ rfl _ _ rfl (D +1) _ _ rfl (g.row.alloc _) (some ⟨T.heap.size,0,none⟩) 1 1 [t] rfl rfl (cV (ah _ _ _ rfl) rfl _) ?c3 ?c4 ?c5 ?_);case c3=>simp[maxLen];omega
    case c4=>first|omega|(simp;omega)
    case c5=>first|omega|(simp;omega)
    intro v' w3 c d _ _;rw[←H.out]at c;obtain⟨M,hM⟩:∃M,Hid (eW aX (s.bj.take (k +1))=M):=⟨_,rfl⟩;rw[hM.out]at c;obtain⟨a3,E,rfl,-,-,-⟩:=c.bQ;have S:=(g.on (ar T _)).more d c;have a6:D<w3.heap.size:=by have :=d.size;simp at this;omega
    have z:Below (D+1) T w3:=cI ((Below.refl _ _).alloc (by omega) _) d (g.row.alloc _) (aj _) (by simp;omega);have C:=(z.block _ (by omega)).trans g.out;obtain⟨X0,X1⟩:=cH C;obtain⟨Y0,Y1⟩:=fH C;clear d g D0 D1 T0 T1 T2 T3 Q z H;go_wp2;go_roundw;case rel=>exact⟨k+1,a3,E,by omega,by go_num,by rw[hM.out];exact S⟩
    case measure=>simp[intOf];omega
   ·have V:=aW (X.out hq);clear Y X;go_wp2;go_roundw;case rel=>exact⟨k+1,I,h,by omega,by go_num,by rw[V.out];exact g⟩
    case measure=>simp[intOf];omega
  ·have HA:=aW (wv (aX:=aX) (L:=s.bj) (k:=k) (by omega));rw[HA.out]at m;clear HA;generalize eW aX s.bj=O at*;obtain⟨K,J⟩:=cH m.out;obtain⟨u,r⟩:=cH m.bx.res;obtain⟨E0,Z⟩:=fH m.bx.res;have lD:=m.lt;go_wp2;refine aA (v:=.tuple #[.agg #[.int .i64 s.bD,.slice I O.length h],.int .i64 0]) (by simp[results,results54,go_sem,u,r];try rfl) rfl ?_;unfold dN;rw[x.out];refine⟨_,rfl,?_,?_⟩
   ·refine Row.mono (aq:=w.heap.size+2) ?_ (by omega);repeat refine Row.set ?_ _ (by simp) _
    exact m.row.mono (by omega)
   ·repeat refine aR ?_ (by simp) _
    exact m.bx.bel
