import Derived.Test.YtigiogjefnkpdaaGreatDoorKaj
set_option maxHeartbeats 4000000
set_option maxRecDepth 100000
open Go.Proofs.Tryz
namespace Go.Proofs.YtigiogjefnkpdaaGreatDoor.Po
open RowKit Gn
theorem qb(a:Int)(c:Nat)(k:Int)(w:World)(d:w.heap[c]?=some (.cells #[.int .i64 k] 3)):Calls prog 108 #[.int .i64 a,.pointer (some ⟨c,0,none⟩)] w fun e g=>e=.returned (.agg #[.int .i64 a,.int .i64 k])∧Below w.heap.size w g:=by
 have b:c<w.heap.size:=ae d;have h:∀f,(w.alloc f).cell? ⟨c,0,none⟩=some (.int .i64 k):=fun f=>by rw[aY _ _ _ b];exact cell_of_one d
 clear d;go_enter func108,ntmps108;go_wp2;refine aA (v:=.agg #[.int .i64 a,.int .i64 k]) (by simp[results,results108,go_sem];try rfl) rfl ⟨rfl,?_⟩;repeat refine aR ?_ (by simp) _
 exact ar _ _
structure Wd(w:World)(s:Se)(a:Option Addr)(cap:Nat)(W:World):Prop where
 bel:Below w.heap.size w W
 box:W.heap[w.heap.size]?=some (so s a cap)res:W.heap[w.heap.size+1]?=some (.cells #[.int .i64 0,.int .i64 0] 47)
theorem Wd.on{w:World}{s:Se}{a:Option Addr}{cap:Nat}{W c:World}(h:Wd w s a cap W)(b:Below W.heap.size W c):Wd w s a cap c:=⟨h.bel.trans (b.mono h.bel.size),(b.block _ (ae h.box)).trans h.box,(b.block _ (ae h.res)).trans h.res⟩
theorem Wd.lt{w:World}{s:Se}{a:Option Addr}{cap:Nat}{W:World}(h:Wd w s a cap W):w.heap.size+1<W.heap.size:=ae h.res
def Fit(L:List Tr):Prop:=∀t∈L,-9223372036854775808≤t.n∧t.n≤9223372036854775807
theorem FN{bD n len k:Int}(h1:0≤bD)(h2:bD≤1000000)(c:k<len)(b:-9223372036854775808≤n)(a:n≤9223372036854775807)(h:n≠bD-len+1+k):(wrap64 (bD -n)!=len-1-k)=true:=by
 have: wrap64 (bD-n)≠len-1-k:=by unfold wrap64;omega
 simpa using this
theorem cr(s:Se)(a:Option Addr)(cap:Nat)(w:World)(O:bF kT w a cap s.bj)(K:Fit s.bj):Calls prog 85 #[sv s a cap] w fun e Y=>e=.returned (.agg #[.int .i64 (bX s).1,.int .i64 (bX s).2])∧Below w.heap.size w Y:=by
 have hm:=O.len;unfold maxLen at hm;unfold sv;have b1:∀o S,Below w.heap.size w ((w.alloc o).alloc S):=fun o S=>(ar _ _).alloc (by simp) _;by_cases T:40<s.bj.length
 ·have f:=aW (tC T);have N:(40 :Int)<s.bj.length:=by omega
  go_enter func85,ntmps85;go_wp2;refine aA (v:=.agg #[.int .i64 5,.int .i64 0]) (by simp[results,results85,go_sem];try rfl) rfl ⟨?_,?_⟩;·rw[f.out]
  ·repeat refine aR ?_ (by simp) _
   exact b1 _ _
 have B:s.bj.length≤40:=by omega
 have N:(s.bj.length:Int)≤40:=by omega
 clear T;by_cases h2:1000000<s.bD
 ·have f:=aW (mb B (Or.inr h2));go_enter func85,ntmps85;go_wp2;refine aA (v:=.agg #[.int .i64 3,.int .i64 0]) (by simp[results,results85,go_sem];try rfl) rfl ⟨?_,?_⟩;·rw[f.out]
  ·repeat refine aR ?_ (by simp) _
   exact b1 _ _
 have M:s.bD≤1000000:=by omega
 clear h2;by_cases h1:s.bD<s.bj.length
 ·have f:=aW (mb B (Or.inl h1));go_enter func85,ntmps85;go_wp2;refine aA (v:=.agg #[.int .i64 3,.int .i64 0]) (by simp[results,results85,go_sem];try rfl) rfl ⟨?_,?_⟩;·rw[f.out]
  ·repeat refine aR ?_ (by simp) _
   exact b1 _ _
 have Q:(s.bj.length :Int)≤s.bD:=by omega
 clear h1;have a1:∀(X:Fn) (first cap:Array Value) (w:World),(Instr.makeFunc X first cap).run prog w=.ok (.func X first cap) w:=fun _ _ _ _=>rfl;have R:Wd w s a cap ((w.alloc (so s a cap)).alloc (.cells #[.int .i64 0,.int .i64 0] 47)):=by refine⟨b1 _ _,?_,ah _ _ _ (by simp)⟩;rw[bC _ _ _ (by simp),ah _ _ _ rfl]
 unfold so at R;clear b1;go_enter func85,ntmps85;go_wp2;go_loopw[26] (fun i wr=>∃(k:Nat),k≤s.bj.length∧i=.int .i64 k∧Hid (Good s k)∧Wd w s a cap wr) (fun i _=>s.bj.length-(intOf i).toNat);case atStart=>exact⟨0,bq _,rfl,iq B Q M,R⟩
 case round=>
  obtain⟨k,z,rfl,J,G⟩:=hrel;clear R;generalize wr=W at*;obtain⟨l,j,D,C⟩:=dJ G.res;by_cases r:k<s.bj.length
  ·have I:(k :Int)<s.bj.length:=by omega
   obtain⟨b,off,rfl,a2,e1,e2,e3,e4⟩:=nA (O.below G.bel) r;have u:=(G.on (ar W (.cells #[.int .i64 (k :Int)] 3))).on (ar _ (nN (s.bj.getD k dA)));have p:=aW (fun h=>J.out.bad r h);have y:=aW (fun h=>J.out.next r h);obtain⟨n1,Z⟩:=K _ (gM r);clear J l j D C;generalize s.bj.getD k dA=t at*;go_upto_region 10 with fail;have x:((W.alloc (.cells #[.int .i64 (k:Int)] 3)).alloc (nN t)).heap[W.heap.size]?=some (.cells #[.int .i64 (k:Int)] 3):=(bC _ _ _ (by simp)).trans (ah _ _ _ rfl);have U:((W.alloc (.cells #[.int .i64 (k:Int)] 3)).alloc (nN t)).heap[W.heap.size+1]?=some (nN t):=ah _ _ _ (by simp);unfold nN at u U x;clear e1 e2 e3 e4 G O;generalize(W.alloc _).alloc _=W1 at*;obtain⟨T0,T1,T2,T3⟩:=ic U;obtain⟨B0,B1⟩:=cH u.box;have K0:W1.cell? ⟨W.heap.size,0,none⟩=some (.int .i64 (k:Int)):=cell_of_one x;rcases tB t (s.bD -s.bj.length+1+k)with⟨g,q,E,H⟩|⟨z,h⟩
   ·have f:=aW (p.out (by rw[H.out];decide));rw[H.out]at f;clear p y H;go_wp2_with(go_at_call 108;refine(qb _ W.heap.size k _ x).mono ?_;rintro e F ⟨rfl,d⟩;have c:=u.on d;obtain⟨l,j,D,C⟩:=dJ c.res;have m:=c.bel;clear d);refine aA (v:=.agg #[.int .i64 1,.int .i64 k]) (by simp[results,results85,go_sem,l,j];try rfl) rfl ⟨?_,?_⟩;·rw[f.out]
    ·repeat refine aR ?_ (by simp) _
     exact m
   rcases h with⟨h1,H⟩|⟨h1,h2,H⟩|⟨h1,h2,P,H⟩|⟨h1,h2,P,V,H⟩|⟨h1,h2,P,V,L,H⟩|⟨h1,h2,P,V,L,H⟩
   ·rcases z with g|⟨g,q⟩|⟨g,q,E⟩
    all_goals
     have f:=aW (p.out (by rw[H.out];decide));rw[H.out]at f;clear p y H;go_wp2_with(go_at_call 108;refine(qb _ W.heap.size k _ x).mono ?_;rintro e F ⟨rfl,d⟩;have c:=u.on d;obtain⟨l,j,D,C⟩:=dJ c.res;have m:=c.bel;clear d);refine aA (v:=.agg #[.int .i64 3,.int .i64 k]) (by simp[results,results85,go_sem,l,j];try rfl) rfl ⟨?_,?_⟩;·rw[f.out]
     ·repeat refine aR ?_ (by simp) _
      exact m
   ·rcases z with g|⟨g,q⟩|⟨g,q,E⟩
    all_goals
     have f:=aW (p.out (by rw[H.out];decide));rw[H.out]at f;clear p y H;go_wp2_with(go_at_call 108;refine(qb _ W.heap.size k _ x).mono ?_;rintro e F ⟨rfl,d⟩;have c:=u.on d;obtain⟨l,j,D,C⟩:=dJ c.res;have m:=c.bel;clear d);refine aA (v:=.agg #[.int .i64 3,.int .i64 k]) (by simp[results,results85,go_sem,l,j];try rfl) rfl ⟨?_,?_⟩;·rw[f.out]
     ·repeat refine aR ?_ (by simp) _
      exact m
   ·rcases z with g|⟨g,q⟩|⟨g,q,E⟩
    all_goals
     have f:=aW (p.out (by rw[H.out];decide));rw[H.out]at f;clear p y H;go_wp2_with(go_at_call 108;refine(qb _ W.heap.size k _ x).mono ?_;rintro e F ⟨rfl,d⟩;have c:=u.on d;obtain⟨l,j,D,C⟩:=dJ c.res;have m:=c.bel;clear d);refine aA (v:=.agg #[.int .i64 3,.int .i64 k]) (by simp[results,results85,go_sem,l,j];try rfl) rfl ⟨?_,?_⟩;·rw[f.out]
     ·repeat refine aR ?_ (by simp) _
      exact m
   ·rcases z with g|⟨g,q⟩|⟨g,q,E⟩
    all_goals
     have f:=aW (p.out (by rw[H.out];decide));rw[H.out]at f;clear p y H;go_wp2_with(go_at_call 108;refine(qb _ W.heap.size k _ x).mono ?_;rintro e F ⟨rfl,d⟩;have c:=u.on d;obtain⟨l,j,D,C⟩:=dJ c.res;have m:=c.bel;clear d);refine aA (v:=.agg #[.int .i64 3,.int .i64 k]) (by simp[results,results85,go_sem,l,j];try rfl) rfl ⟨?_,?_⟩;·rw[f.out]
     ·repeat refine aR ?_ (by simp) _
      exact m
   ·have A:=FN (by omega) M I n1 Z (by simpa using L);rcases z with g|⟨g,q⟩|⟨g,q,E⟩
    all_goals
     have f:=aW (p.out (by rw[H.out];decide));rw[H.out]at f;clear p y H L;go_wp2_with(go_at_call 108;refine(qb _ W.heap.size k _ x).mono ?_;rintro e F ⟨rfl,d⟩;have c:=u.on d;obtain⟨l,j,D,C⟩:=dJ c.res;have m:=c.bel;clear d);refine aA (v:=.agg #[.int .i64 2,.int .i64 k]) (by simp[results,results85,go_sem,l,j];try rfl) rfl ⟨?_,?_⟩;·rw[f.out]
     ·repeat refine aR ?_ (by simp) _
      exact m
   ·have hn:t.n=s.bD-s.bj.length+1+k:=by simpa using L
    have n3:0≤t.n:=by omega
    have n4:t.n≤1000000:=by omega
    have A:(s.bD -t.n !=s.bj.length-1-k)=false:=by simp;omega
    have f:=aW (y.out H.out);clear p y H L hn;rcases z with g|⟨g,q⟩|⟨g,q,E⟩
    all_goals
     go_wp2;go_roundw;case rel=>exact⟨k+1,by omega,by go_num,f,u⟩
     case measure=>simp[intOf];omega
  ·have f:=aW (J.out.done (by omega));clear J;have m:=G.bel;go_wp2;refine aA (v:=.agg #[.int .i64 0,.int .i64 0]) (by simp[results,results85,go_sem,l,j];try rfl) rfl ⟨?_,?_⟩;·rw[f.out]
   ·repeat refine aR ?_ (by simp) _
    exact m
