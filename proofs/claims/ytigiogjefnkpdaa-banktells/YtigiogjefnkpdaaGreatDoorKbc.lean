import Derived.Test.YtigiogjefnkpdaaGreatDoorKbb
set_option maxHeartbeats 4000000
set_option maxRecDepth 100000
open Go.Proofs.Tryz
namespace Go.Proofs.YtigiogjefnkpdaaGreatDoor
open RowKit
theorem Fl(m h:Int):(1000000000000 <m∧Hid (off m h))∨(m ≤1000000000000∧m< -1000000000000∧Hid (off m h))∨(m ≤1000000000000∧-1000000000000≤m∧h<0∧Hid (off m h))∨(m ≤1000000000000∧-1000000000000≤m∧0≤h∧1000000000000<h∧Hid (off m h))∨(m ≤1000000000000∧-1000000000000≤m∧0≤h∧h≤1000000000000∧Hid (¬off m h)):=by
 by_cases h1:1000000000000<m;·exact Or.inl ⟨h1,by unfold Hid off;omega⟩
 by_cases h2:m< -1000000000000;·exact Or.inr (Or.inl ⟨by omega,h2,by unfold Hid off;omega⟩)
 by_cases b:h<0;·exact Or.inr (Or.inr (Or.inl ⟨by omega,by omega,b,by unfold Hid off;omega⟩))
 by_cases a:1000000000000<h;·exact Or.inr (Or.inr (Or.inr (Or.inl ⟨by omega,by omega,by omega,a,by unfold Hid off;omega⟩)))
 ·exact Or.inr (Or.inr (Or.inr (Or.inr ⟨by omega,by omega,by omega,by omega,by unfold Hid off;omega⟩)))
theorem nv(c:Ca)(a:Option Addr)(cap:Nat)(w:World)(l:bF w a cap c.u):Calls prog 56 #[cv c a cap] w fun e s=>e=.returned (.int .i64 (bS c))∧Below w.heap.size w s:=by
 unfold cv;have y:∀o,Below w.heap.size w (w.alloc o):=ar w;rcases Fl c.m c.h with⟨h1,H⟩|⟨h1,h2,H⟩|⟨h1,h2,n,H⟩|⟨h1,h2,n,x,H⟩|⟨h1,h2,n,x,H⟩;iterate 4·have f:=aW (lj H.out);go_enter func56,ntmps56;go_wp2;go_ret;exact⟨bP f.out.symm,y _⟩
 by_cases d:cf c.p=0
 ·have f:=aW (lH H.out d);have v:=uc;go_enter func56,ntmps56;go_wp2_with(first
   |(go_at_call 14;refine(cr c.p _).mono ?_;rintro e q ⟨rfl,b⟩;rw[d];obtain⟨g,i⟩:=JU l b;obtain⟨-,-,-,-,-,z⟩:=i.cells;have k:=i.bQ.oz;clear b i)
   |(go_at_call 86;refine(lF a cap c.u _ k).mono ?_;rintro e w2 ⟨rfl,j⟩));go_ret;exact⟨bP f.out.symm,g.trans (j.mono g.size)⟩
 ·have f:=aW (pr H.out d);have t:(cf c.p !=0)=true:=by simpa using d
  clear d;go_enter func56,ntmps56;go_wp2_with(go_at_call 14;refine(cr c.p _).mono ?_;rintro e q ⟨rfl,b⟩;obtain⟨g,-⟩:=JU l b;generalize cf c.p=r at*;clear b);go_ret;exact⟨bP f.out.symm,g⟩
theorem zM(s h:Int):(s <1∧Hid (s<1∨1000000<s∨1000000000000<h+s))∨(1 ≤s∧1000000<s∧Hid (s<1∨1000000<s∨1000000000000<h+s))∨(1 ≤s∧s≤1000000∧1000000000000<h+s∧Hid (s<1∨1000000<s∨1000000000000<h+s))∨(1 ≤s∧s≤1000000∧h+s≤1000000000000∧Hid (¬ (s<1∨1000000<s∨1000000000000<h+s))):=by
 by_cases h1:s<1;·exact Or.inl ⟨h1,by unfold Hid;omega⟩
 by_cases h2:1000000<s;·exact Or.inr (Or.inl ⟨by omega,h2,by unfold Hid;omega⟩)
 by_cases a:1000000000000<h+s;·exact Or.inr (Or.inr (Or.inl ⟨by omega,by omega,a,by unfold Hid;omega⟩))
 ·exact Or.inr (Or.inr (Or.inr ⟨by omega,by omega,by omega,by unfold Hid;omega⟩))
theorem yu(c:Ca)(a:Option Addr)(cap:Nat)(s:Int)(w:World)(i:bF w a cap c.u):Calls prog 31 #[cv c a cap,.int .i64 s] w (da w a c.u (fU c s)):=by
 have y:=jI i;unfold cv;go_enter func31,ntmps31;go_wp2_with fail;refine(nv c a cap _ (jI i).box.bQ).mono ?_;rintro e A ⟨rfl,d⟩;have b:=y.on d;clear y d;obtain⟨U,T,S,Q,P,O⟩:=b.box.cells;obtain⟨G,F,E,D,C,B⟩:=eT b.box.block;obtain⟨q,o,n,l,k,j⟩:=dz b.res;obtain⟨N,M,L,K,J,I⟩:=eT b.res;by_cases h0:bS c=0;rotate_left
 ·have f:=aW (rI (s:=s) h0);have g:(bS c !=0)=true:=by simpa using h0
  clear h0;generalize bS c=r at*;go_wp2;refine aA (v:=.tuple #[.agg #[.int .i64 0,.int .i64 0,.int .i64 0,.int .i64 0,.int .i64 0,.slice none 0 0],.int .i64 r]) (by simp[results,results31,go_sem,q,o,n,l,k,j];try rfl) rfl ?_;unfold da;rw[f.out];refine⟨none,0,rfl,dd _,Or.inl (c_ _),?_⟩;repeat refine aR ?_ (by simp) _
  exact b.bel
 have g:(bS c !=0)=false:=by simpa using h0
 have R:=fE.1 h0;have m1:=R.h1;have m2:=R.h2;clear R;rcases zM s c.h with⟨h1,H⟩|⟨h1,h2,H⟩|⟨h1,h2,z,H⟩|⟨h1,h2,z,H⟩
 iterate 3
  ·have f:=aW (oQ h0 H.out);clear h0;generalize bS c=r at*;go_wp2;refine aA (v:=.tuple #[.agg #[.int .i64 0,.int .i64 0,.int .i64 0,.int .i64 0,.int .i64 0,.slice none 0 0],.int .i64 3]) (by simp[results,results31,go_sem,q,o,n,l,k,j];try rfl) rfl ?_;unfold da;rw[f.out];refine⟨none,0,rfl,dd _,Or.inl (c_ _),?_⟩;repeat refine aR ?_ (by simp) _
   exact b.bel
 ·have f:=aW (sG h0 H.out);clear h0;generalize bS c=r at*;go_wp2;refine aA (v:=.tuple #[.agg #[.int .i64 c.m,.int .i64 (c.h +s),.int .i64 c.p.t,.int .i64 c.p.c,.int .i64 c.p.s,.slice a c.u.length cap],.int .i64 0]) (by simp[results,results31,go_sem,q,o,n,l,k,j];try rfl) rfl ?_;unfold da;rw[f.out];have key:∀W,Below w.heap.size w W→bF W a cap c.u∧qQ w.heap.size a c.u a c.u∧Below w.heap.size w W:=fun W x=>⟨i.below x,Or.inr ⟨rfl,rfl⟩,x⟩;refine⟨a,cap,rfl,key _ ?_⟩;repeat refine aR ?_ (by simp) _
  exact b.bel
theorem oL(n:Int)(w:World):Calls prog 79 #[.int .i64 n] w fun e a=>e=.returned (.bool (!re n))∧a=w:=by
 unfold re;by_cases h1:n≤1000000000000<;>by_cases h2:-1000000000000≤n;all_goals go_enter func79,ntmps79;go_wp2;go_ret;simp[h1,h2]
 all_goals omega
theorem mm.LC{w W:World}{c:Ca}{a:Option Addr}{cap:Nat}(h:mm w c a cap W)(d:bF w a cap c.u)(n:Int):mm w ⟨c.m,n,c.p,c.u⟩ a cap (W.setCell ⟨w.heap.size,1,none⟩ (.int .i64 n)):=by
 have b:=h.bel.setCell (aj (⟨w.heap.size,1,none⟩:Addr).block) (.int .i64 n);refine⟨b,⟨?_,d.below b⟩,?_⟩;·have b:=h.box.block;unfold co at b⊢;exact aZ _ _ 1 _ _ (.int .i64 n) b
 ·rw[aF _ _ _ _ (by simp)];exact h.res
theorem mm.KX{w W:World}{c:Ca}{a:Option Addr}{cap:Nat}(h:mm w c a cap W)(d:bF w a cap c.u)(n:Int):mm w ⟨n,c.h,c.p,c.u⟩ a cap (W.setCell ⟨w.heap.size,0,none⟩ (.int .i64 n)):=by
 have b:=h.bel.setCell (aj (⟨w.heap.size,0,none⟩:Addr).block) (.int .i64 n);refine⟨b,⟨?_,d.below b⟩,?_⟩;·have b:=h.box.block;unfold co at b⊢;exact aZ _ _ 0 _ _ (.int .i64 n) b
 ·rw[aF _ _ _ _ (by simp)];exact h.res
theorem FT(m h:Int):(h <0∧Hid (off m h))∨(0≤h∧re h=false∧Hid (off m h))∨(0≤h∧re h=true∧re m=false∧Hid (off m h))∨(0≤h∧re h=true∧re m=true∧Hid (¬off m h)):=by
 by_cases h1:h<0;·exact Or.inl ⟨h1,by unfold Hid off;omega⟩
 cases h2:re h with
 |false=>exact Or.inr (Or.inl ⟨by omega,rfl,by have:= mq.1 h2;unfold Hid off;omega⟩)|true=>
  cases a:re m with
  |false=>exact Or.inr (Or.inr (Or.inl ⟨by omega,rfl,rfl,by have :=mq.1 a;unfold Hid off;omega⟩))|true=>have:= mB.1 h2;have:= mB.1 a;exact Or.inr (Or.inr (Or.inr ⟨by omega,rfl,rfl,by unfold Hid off;omega⟩))
theorem yq(c:Ca)(a:Option Addr)(cap:Nat)(o q:Int)(w:World)(A:bF w a cap c.u):Calls prog 46 #[cv c a cap,.int .i64 o,.int .i64 q] w (da w a c.u (cF c o q)):=by
 have F:=jI A;unfold cv;go_enter func46,ntmps46;go_wp2_with fail;refine(nv c a cap _ (jI A).box.bQ).mono ?_;rintro e w1 ⟨rfl,z⟩;have f:=F.on z;clear F z;obtain⟨T,S,Q,P,O,N⟩:=f.box.cells;obtain⟨F0,Z,Y,X,V,U⟩:=eT f.box.block;obtain⟨n,l,k,j,i,g⟩:=dz f.res;obtain⟨M,L,K,J,I,G⟩:=eT f.res;by_cases h0:bS c=0;rotate_left
 ·have d:=aW (oE (a:=o) (b:=q) h0);have C:(bS c !=0)=true:=by simpa using h0
  clear h0;generalize bS c=r at*;go_wp2;refine aA (v:=.tuple #[.agg #[.int .i64 0,.int .i64 0,.int .i64 0,.int .i64 0,.int .i64 0,.slice none 0 0],.int .i64 r]) (by simp[results,results46,go_sem,n,l,k,j,i,g];try rfl) rfl ?_;unfold da;rw[d.out];refine⟨none,0,rfl,dd _,Or.inl (c_ _),?_⟩;repeat refine aR ?_ (by simp) _
  exact f.bel
 have C:(bS c !=0)=false:=by simpa using h0
 have R:=fE.1 h0;have m1:=R.h1;have m2:=R.h2;have m3:=R.m1;have m4:=R.m2;clear R;rcases yR o q with⟨h1,H⟩|⟨h1,h2,H⟩|⟨h1,h2,h3,h4,h5,h6,H⟩
 ·have d:=aW (kl h0 H.out);clear h0;generalize bS c=r at*;go_wp2_with(go_at_call 79;refine(oL _ _).mono ?_;rintro e w2 ⟨rfl,rfl⟩;rw[h1]);refine aA (v:=.tuple #[.agg #[.int .i64 0,.int .i64 0,.int .i64 0,.int .i64 0,.int .i64 0,.slice none 0 0],.int .i64 3]) (by simp[results,results46,go_sem,n,l,k,j,i,g];try rfl) rfl ?_;unfold da;rw[d.out];refine⟨none,0,rfl,dd _,Or.inl (c_ _),?_⟩;repeat refine aR ?_ (by simp) _
  exact f.bel
 ·have d:=aW (kl h0 H.out);clear h0;generalize bS c=r at*;go_wp2_with(go_at_call 79;refine(oL _ _).mono ?_;rintro e w2 ⟨rfl,rfl⟩;first|rw[h1]|rw[h2]);refine aA (v:=.tuple #[.agg #[.int .i64 0,.int .i64 0,.int .i64 0,.int .i64 0,.int .i64 0,.slice none 0 0],.int .i64 3]) (by simp[results,results46,go_sem,n,l,k,j,i,g];try rfl) rfl ?_;unfold da;rw[d.out];refine⟨none,0,rfl,dd _,Or.inl (c_ _),?_⟩;repeat refine aR ?_ (by simp) _
  exact f.bel
 have y:=aW (oR h0 H.out);have B:=aW (pY h0 H.out);clear h0;generalize bS c=r at*;go_wp2_with fail;refine(oL _ _).mono ?_;rintro e w2 ⟨rfl,rfl⟩;rw[h1];go_wp2_with fail;refine(oL _ _).mono ?_;rintro e w2 ⟨rfl,rfl⟩;rw[h2];go_upto_region 8 with fail;have x:=(f.LC A (c.h+o)).KX A (c.m +q);generalize(World.setCell _ ⟨w.heap.size,1,none⟩ (.int .i64 (c.h+o))).setCell _ _=w4 at*;clear T S Q P O N F0 Z Y X V U n l k j i g M L K J I G f h1 h2;obtain⟨T,S,Q,P,O,N⟩:=x.box.cells;obtain⟨n,l,k,j,i,g⟩:=dz x.res;obtain⟨M,L,K,J,I,G⟩:=eT x.res;rcases FT (c.m +q) (c.h +o)with⟨h1,H⟩|⟨h1,h2,H⟩|⟨h1,h2,D,H⟩|⟨h1,h2,D,H⟩
 ·have d:=aW (y.out H.out);clear y B;go_wp2;refine aA (v:=.tuple #[.agg #[.int .i64 0,.int .i64 0,.int .i64 0,.int .i64 0,.int .i64 0,.slice none 0 0],.int .i64 10]) (by simp[results,results46,go_sem,n,l,k,j,i,g];try rfl) rfl ?_;unfold da;rw[d.out];refine⟨none,0,rfl,dd _,Or.inl (c_ _),?_⟩;repeat refine aR ?_ (by simp) _
  exact x.bel
 ·have d:=aW (y.out H.out);clear y B;go_wp2_with(go_at_call 79;refine(oL _ _).mono ?_;rintro e w2 ⟨rfl,rfl⟩;rw[h2]);refine aA (v:=.tuple #[.agg #[.int .i64 0,.int .i64 0,.int .i64 0,.int .i64 0,.int .i64 0,.slice none 0 0],.int .i64 10]) (by simp[results,results46,go_sem,n,l,k,j,i,g];try rfl) rfl ?_;unfold da;rw[d.out];refine⟨none,0,rfl,dd _,Or.inl (c_ _),?_⟩;repeat refine aR ?_ (by simp) _
  exact x.bel
 ·have d:=aW (y.out H.out);clear y B;go_wp2_with(go_at_call 79;refine(oL _ _).mono ?_;rintro e w2 ⟨rfl,rfl⟩;first|rw[h2]|rw[D]);refine aA (v:=.tuple #[.agg #[.int .i64 0,.int .i64 0,.int .i64 0,.int .i64 0,.int .i64 0,.slice none 0 0],.int .i64 10]) (by simp[results,results46,go_sem,n,l,k,j,i,g];try rfl) rfl ?_;unfold da;rw[d.out];refine⟨none,0,rfl,dd _,Or.inl (c_ _),?_⟩;repeat refine aR ?_ (by simp) _
  exact x.bel
 ·have d:=aW (B.out H.out);clear y B;go_wp2_with(go_at_call 79;refine(oL _ _).mono ?_;rintro e w2 ⟨rfl,rfl⟩;first|rw[h2]|rw[D]);refine aA (v:=.tuple #[.agg #[.int .i64 (c.m +q),.int .i64 (c.h +o),.int .i64 c.p.t,.int .i64 c.p.c,.int .i64 c.p.s,.slice a c.u.length cap],.int .i64 0]) (by simp[results,results46,go_sem,n,l,k,j,i,g];try rfl) rfl ?_;unfold da;rw[d.out];have key:∀W,Below w.heap.size w W→bF W a cap c.u∧qQ w.heap.size a c.u a c.u∧Below w.heap.size w W:=fun W E=>⟨A.below E,Or.inr ⟨rfl,rfl⟩,E⟩;refine⟨a,cap,rfl,key _ ?_⟩;repeat refine aR ?_ (by simp) _
  exact x.bel
theorem zQ(s t:Int):(s<1∧Hid (s <1∨1000000<s∨t<0∨1000000<t))∨(1 ≤s∧1000000<s∧Hid (s <1∨1000000<s∨t<0∨1000000<t))∨(1≤s∧s≤1000000∧t<0∧Hid (s <1∨1000000<s∨t<0∨1000000<t))∨(1≤s∧s≤1000000∧0≤t∧1000000<t∧Hid (s <1∨1000000<s∨t<0∨1000000<t))∨(1≤s∧s≤1000000∧0≤t∧t≤1000000∧Hid (¬(s <1∨1000000<s∨t<0∨1000000<t))):=by
 by_cases h1:s<1;·exact Or.inl ⟨h1,by unfold Hid;omega⟩
 by_cases h2:1000000<s;·exact Or.inr (Or.inl ⟨by omega,h2,by unfold Hid;omega⟩)
 by_cases b:t<0;·exact Or.inr (Or.inr (Or.inl ⟨by omega,by omega,b,by unfold Hid;omega⟩))
 by_cases a:1000000<t;·exact Or.inr (Or.inr (Or.inr (Or.inl ⟨by omega,by omega,by omega,a,by unfold Hid;omega⟩)))
 ·exact Or.inr (Or.inr (Or.inr (Or.inr ⟨by omega,by omega,by omega,by omega,by unfold Hid;omega⟩)))
theorem xK(c:Ca)(a:Option Addr)(cap:Nat)(s t:Int)(w:World)(Y:bF w a cap c.u):Calls prog 49 #[cv c a cap,.int .i64 s,.int .i64 t] w (fB w (ek c s t)):=by
 have T0:=jI Y;unfold cv;go_enter func49,ntmps49;go_wp2_with fail;refine(nv c a cap _ (jI Y).box.bQ).mono ?_;rintro e w1 ⟨rfl,D⟩;have d:=T0.on D;clear T0 D;obtain⟨U,T,S,Q,P,O⟩:=d.box.cells;obtain⟨o,n,l,k,j,i⟩:=dz d.res;obtain⟨N,M,L,K,J,I⟩:=eT d.res;by_cases h0:bS c=0;rotate_left
 ·have q:=aW (ow (s:=s) (t:=t) h0);have W:(bS c !=0)=true:=by simpa using h0
  clear h0;generalize bS c=r at*;go_wp2;refine aA (v:=.tuple #[.agg #[.int .i64 0,.int .i64 0,.int .i64 0,.int .i64 0,.int .i64 0,.slice none 0 0],.int .i64 r]) (by simp[results,results49,go_sem,o,n,l,k,j,i];try rfl) rfl ?_;unfold fB;rw[q.out];refine⟨none,0,rfl,dd _,c_ _,?_⟩;repeat refine aR ?_ (by simp) _
  exact d.bel
 have W:(bS c !=0)=false:=by simpa using h0
 have R:=fE.1 h0;have m1:=R.h1;have m2:=R.h2;have m3:=R.m1;have m4:=R.m2;clear R;rcases zQ s t with⟨h1,H⟩|⟨h1,h2,H⟩|⟨h1,h2,h3,H⟩|⟨h1,h2,h3,h4,H⟩|⟨h1,h2,h3,h4,H⟩
 iterate 4
  ·have q:=aW (j_ h0 H.out);clear h0;generalize bS c=r at*;go_wp2;refine aA (v:=.tuple #[.agg #[.int .i64 0,.int .i64 0,.int .i64 0,.int .i64 0,.int .i64 0,.slice none 0 0],.int .i64 3]) (by simp[results,results49,go_sem,o,n,l,k,j,i];try rfl) rfl ?_;unfold fB;rw[q.out];refine⟨none,0,rfl,dd _,c_ _,?_⟩;repeat refine aR ?_ (by simp) _
   exact d.bel
 have HF:=aW (ou h0 H.out);have HA:=aW (qJ h0 H.out);have Z:=aW (sZ h0 H.out);clear h0;generalize bS c=r at*;by_cases F:c.m<c.h+s
 ·have q:=aW (HF.out F);clear HF HA Z;go_wp2;refine aA (v:=.tuple #[.agg #[.int .i64 0,.int .i64 0,.int .i64 0,.int .i64 0,.int .i64 0,.slice none 0 0],.int .i64 10]) (by simp[results,results49,go_sem,o,n,l,k,j,i];try rfl) rfl ?_;unfold fB;rw[q.out];refine⟨none,0,rfl,dd _,c_ _,?_⟩;repeat refine aR ?_ (by simp) _
  exact d.bel
 have y:=aW (HA.out F);have x:=aW (Z.out F);have a1:c.h+s≤c.m:=by omega
 clear HF F HA Z;go_wp2_with fail;refine(Bw c.p a cap c.u (t,s) _ d.box.bQ.oz).mono ?_;intro e w3 hA;obtain⟨G,b,rfl,X,B,C⟩:=rM hA;have g:=d.on C;have f:iw (w.heap.size+2) G:=jj B d.lt;clear U T S Q P O o n l k j i N M L K J I d C hA B;obtain⟨U,T,S,Q,P,O⟩:=g.box.cells;obtain⟨F0,F1,F2,F3,F4,F5⟩:=eT g.box.block;obtain⟨o,n,l,k,j,i⟩:=dz g.res;obtain⟨N,M,L,K,J,I⟩:=eT g.res;by_cases z:(gU c.p c.u (t,s)).2=0;rotate_left
 ·have q:=aW (y.out z);have V:((gU c.p c.u (t,s)).2 !=0)=true:=by simpa using z
  clear y x z;generalize(gU c.p c.u (t,s)).2=r2 at*;generalize(gU c.p c.u (t,s)).1=r1 at*;go_wp2;refine aA (v:=.tuple #[.agg #[.int .i64 0,.int .i64 0,.int .i64 0,.int .i64 0,.int .i64 0,.slice none 0 0],.int .i64 r2]) (by simp[results,results49,go_sem,o,n,l,k,j,i];try rfl) rfl ?_;unfold fB;rw[q.out];refine⟨none,0,rfl,dd _,c_ _,?_⟩;repeat refine aR ?_ (by simp) _
  exact g.bel
 have q:=aW (x.out z);have V:((gU c.p c.u (t,s)).2 !=0)=false:=by simpa using z
 clear y x z;generalize(gU c.p c.u (t,s)).2=r2 at*;generalize(gU c.p c.u (t,s)).1=r1 at*;go_upto_region 12 with fail;have A:=g.bel.setCell (aj (⟨w.heap.size,1,none⟩:Addr).block) (.int .i64 (c.h+s))
 have T5:mm w ⟨c.m,c.h+s,c.p,c.u⟩ a cap (w3.setCell ⟨w.heap.size,1,none⟩ (.int .i64 (c.h +s))):=by
  refine⟨A,⟨?_,Y.below A⟩,?_⟩;·have A:=g.box.block;unfold co at A⊢;exact aZ _ _ 1 _ _ (.int .i64 (c.h +s)) A
  ·rw[aF _ _ _ _ (by simp)];exact g.res
 have E:=T5.list r1 G b (X.set f (by simp) _) f;clear T5 A;generalize(w3.setCell _ _).setCell _ _=w4 at*;clear U T S Q P O F0 F1 F2 F3 F4 F5 o n l k j i N M L K J I g;obtain⟨U,T,S,Q,P,O⟩:=E.box.cells;obtain⟨o,n,l,k,j,i⟩:=dz E.res;obtain⟨N,M,L,K,J,I⟩:=eT E.res;go_wp2;refine aA (v:=.tuple #[.agg #[.int .i64 c.m,.int .i64 (c.h+s),.int .i64 c.p.t,.int .i64 c.p.c,.int .i64 c.p.s,.slice G r1.length b],.int .i64 0]) (by simp[results,results49,go_sem,o,n,l,k,j,i];try rfl) rfl ?_;unfold fB;rw[q.out];refine⟨G,b,rfl,?_,jj f (by omega),?_⟩
 ·repeat refine bF.set ?_ f (by simp) _
  exact E.box.bQ
 ·repeat refine aR ?_ (by simp) _
  exact E.bel
