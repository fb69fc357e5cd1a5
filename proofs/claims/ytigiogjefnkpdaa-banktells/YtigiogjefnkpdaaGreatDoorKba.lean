import Derived.Test.YtigiogjefnkpdaaGreatDoorKay
import Derived.Test.YtigiogjefnkpdaaGreatDoorKaz
set_option maxHeartbeats 4000000
set_option maxRecDepth 100000
open Go.Proofs.Tryz
namespace Go.Proofs.YtigiogjefnkpdaaGreatDoor
open RowKit
structure bF(w:World)(a:Option Addr)(cap:Nat)(L:List (Int×Int)):Prop where
 oz:ff w a L
 nil:a=none→cap=0
theorem bF.below{w b:World}{a:Option Addr}{cap:Nat}{L:List (Int×Int)}(h:bF w a cap L)(c:Below w.heap.size w b):bF b a cap L:=⟨h.oz.below c,h.nil⟩
theorem bF.py{w:World}{cap:Nat}{L:List (Int×Int)}(h:bF w none cap L):L=[]:=by
 rcases h.oz.2 with h|⟨b,off,h,-⟩;·exact h
 ·cases h
theorem dd(w:World):bF w none 0 []:=⟨⟨by simp[maxLen],Or.inl rfl⟩,fun _=>rfl⟩
def iw(B:Nat)(a:Option Addr):Prop:=∀ad,a=some ad→B≤ad.block
theorem kf{w:World}{aq:Nat}{v:Value}{L:List (Int×Int)}(h:w.ownsRow aq 132 2 v L.length (flat L)):∃a cap,v=.slice a L.length cap∧bF w a cap L∧iw aq a:=by
 obtain⟨a,cap,b,-,-,c⟩:=jk h;rcases h.2 with⟨h0,-⟩|⟨g,d,f,h0,e,-⟩;·rw[b]at h0;obtain⟨rfl,-,rfl⟩:=bB h0;exact⟨none,0,b,⟨c,fun _=>rfl⟩,fun _ h=>by cases h⟩
 ·rw[b]at h0;obtain⟨rfl,-,-⟩:=bB h0;exact⟨_,cap,b,⟨c,fun h=>by cases h⟩,fun _ h=>by cases h;exact e⟩
theorem bF.set{w:World}{a:Option Addr}{cap:Nat}{L:List (Int×Int)}(h:bF w a cap L){B:Nat}(f:iw B a){p:Addr}(j:p.block<B)(v:Value):bF (w.setCell p v) a cap L:=by
 refine⟨⟨h.oz.1,?_⟩,h.nil⟩;rcases h.oz.2 with h0|⟨b,off,d,c,g⟩;·exact Or.inl h0
 ·have e:=f _ d;refine Or.inr ⟨b,off,d,by simpa using c,fun i hi=>?_⟩;have jq:∀o,(w.setCell p v).cell? ⟨b,o,none⟩=w.cell? ⟨b,o,none⟩:=fun o=>World.cell?_setCell_other _ _ _ _ (fun h=>by subst h;dsimp only at e j;omega);rw[jq,jq];exact g i hi
theorem ej(L:List (Int×Int)):(flat L).length=L.length*2:=by
 induction L with
 |nil=>rfl
 |cons e r a=>simp only[flat,List.flatMap_cons,a_,di,oU]at a⊢;omega
theorem oo(M:List (Int ×Int)):∀i,i<M.length→(flat M)[i*2]?=some (.int .i64 (M.getD i (0,0)).1)∧(flat M)[i*2+1]?=some (.int .i64 (M.getD i (0,0)).2):=by
 induction M with
 |nil=>intro i hi;simp at hi
 |cons e r a=>
  intro i hi
  cases i with
  |zero=>simp[flat]
  |succ i=>
   have:= a i (by simpa using hi);have b:(i +1)*2=i*2+1+1:=by omega
   rw[b];simpa[flat]using this
theorem vl(L:List (Int ×Int)):∀u∈flat L,u.oneCell'=true:=by intro u c;simp[flat]at c;obtain⟨a,b,-,rfl|rfl⟩:=c<;>rfl
theorem pj(b off j:Nat):(⟨b,off,none⟩:Addr).add j=⟨b,off+j,none⟩:=by unfold Addr.add;by_cases a:j=0<;>simp[a]
theorem FI{w:World}{ad:Addr}{L:List (Int×Int)}(h:ff w (some ad) L):∀j u,(flat L)[j]?=some u→w.cell? (ad.add j)=some u:=by
 intro j u a;rcases h.2 with rfl|⟨b,off,k,-,i⟩;·simp[flat]at a
 ·cases k;have g:j<L.length*2:=by have:= (List.getElem?_eq_some_iff.1 a).1;rw[ej]at this;exact this
  rw[pj];obtain⟨d,c⟩:=oo L (j/2) (by omega);obtain⟨c1,c2⟩:=i (j/2) (by omega);rcases Nat.mod_two_eq_zero_or_one j with f|f
  ·have e:j/2*2=j:=by omega
   rw[e]at d c1;rw[d]at a;cases a;exact c1
  ·have e:j/2*2+1=j:=by omega
   have l:off+j/2*2+1=off+j:=by omega
   rw[e]at c;rw[l]at c2;rw[c]at a;cases a;exact c2
def cv(c:Ca)(a:Option Addr)(cap:Nat):Value:=.agg #[.int .i64 c.m,.int .i64 c.h,.int .i64 c.p.t,.int .i64 c.p.c,.int .i64 c.p.s,.slice a c.u.length cap]
def co(c:Ca)(a:Option Addr)(cap:Nat):Obj:=.cells #[.int .i64 c.m,.int .i64 c.h,.int .i64 c.p.t,.int .i64 c.p.c,.int .i64 c.p.s,.slice a c.u.length cap] 66
structure kZ(W:World)(b:Nat)(c:Ca)(a:Option Addr)(cap:Nat):Prop where
 block:W.heap[b]?=some (co c a cap)bQ:bF W a cap c.u
theorem kZ.lt{W:World}{b:Nat}{c:Ca}{a:Option Addr}{cap:Nat}(h:kZ W b c a cap):b<W.heap.size:=ae h.block
theorem kZ.on{W e:World}{b:Nat}{c:Ca}{a:Option Addr}{cap:Nat}(h:kZ W b c a cap)(d:Below W.heap.size W e):kZ e b c a cap:=⟨(d.block _ h.lt).trans h.block,h.bQ.below d⟩
theorem kZ.alloc{W:World}{b:Nat}{c:Ca}{a:Option Addr}{cap:Nat}(h:kZ W b c a cap)(o:Obj):kZ (W.alloc o) b c a cap:=h.on (ar W o)
theorem dz{W:World}{b:Nat}{c:Ca}{a:Option Addr}{cap:Nat}(d:W.heap[b]?=some (co c a cap)):W.cell? ⟨b,0,none⟩=some (.int .i64 c.m)∧W.cell? ⟨b,1,none⟩=some (.int .i64 c.h)∧W.cell? ⟨b,2,none⟩=some (.int .i64 c.p.t)∧W.cell? ⟨b,3,none⟩=some (.int .i64 c.p.c)∧W.cell? ⟨b,4,none⟩=some (.int .i64 c.p.s)∧W.cell? ⟨b,5,none⟩=some (.slice a c.u.length cap):=by unfold co at d;refine⟨?_,?_,?_,?_,?_,?_⟩<;>simp[World.cell?,d]
theorem eT{W:World}{b:Nat}{c:Ca}{a:Option Addr}{cap:Nat}(d:W.heap[b]?=some (co c a cap)):W.frozen? ⟨b,0,none⟩=false∧W.frozen? ⟨b,1,none⟩=false∧W.frozen? ⟨b,2,none⟩=false∧W.frozen? ⟨b,3,none⟩=false∧W.frozen? ⟨b,4,none⟩=false∧W.frozen? ⟨b,5,none⟩=false:=by unfold co at d;refine⟨?_,?_,?_,?_,?_,?_⟩<;>simp[World.frozen?,d]
theorem kZ.cells{W:World}{b:Nat}{c:Ca}{a:Option Addr}{cap:Nat}(h:kZ W b c a cap):W.cell? ⟨b,0,none⟩=some (.int .i64 c.m)∧W.cell? ⟨b,1,none⟩=some (.int .i64 c.h)∧W.cell? ⟨b,2,none⟩=some (.int .i64 c.p.t)∧W.cell? ⟨b,3,none⟩=some (.int .i64 c.p.c)∧W.cell? ⟨b,4,none⟩=some (.int .i64 c.p.s)∧W.cell? ⟨b,5,none⟩=some (.slice a c.u.length cap):=dz h.block
theorem AO(w:World)(c:Ca)(a:Option Addr)(cap:Nat)(h:bF w a cap c.u):kZ (w.alloc (co c a cap)) w.heap.size c a cap:=⟨ah _ _ _ rfl,h.below (ar _ _)⟩
def re(n:Int):Bool:=decide (-1000000000000≤n)&&decide (n ≤1000000000000)
theorem gS(n:Int)(w:World):Calls prog 130 #[.int .i64 n] w fun e a=>e=.returned (.bool (re n))∧a=w:=by unfold re;by_cases h1:-1000000000000≤n<;>by_cases h2:n≤1000000000000;all_goals go_enter func130,ntmps130;go_wp2;go_ret;simp[h1,h2]
def nc(n:Int):Bool:=decide (1≤n)&&decide (n ≤1000000)
theorem jf(n:Int)(w:World):Calls prog 116 #[.int .i64 n] w fun e a=>e=.returned (.bool (nc n))∧a=w:=by unfold nc;by_cases h1:1≤n<;>by_cases h2:n≤1000000;all_goals go_enter func116,ntmps116;go_wp2;go_ret;simp[h1,h2]
theorem mB{n:Int}:re n=true↔-1000000000000≤n∧n≤1000000000000:=by simp[re]
theorem mq{n:Int}:re n=false↔n< -1000000000000∨1000000000000<n:=by rw[←Bool.not_eq_true,mB];omega
theorem qH{n:Int}:nc n=true↔1≤n∧n≤1000000:=by simp[nc]
theorem tu{n:Int}:nc n=false↔n<1∨1000000<n:=by rw[←Bool.not_eq_true,qH];omega
theorem Ix(m h:Int):(re m=false∧Hid (off m h))∨(re m=true∧re h=false∧Hid (off m h))∨(re m=true∧re h=true∧h<0∧Hid (off m h))∨(re m=true∧re h=true∧0≤h∧Hid (¬ off m h)):=by
 cases h1:re m with
 |false=>exact Or.inl ⟨rfl,by have:= mq.1 h1;unfold Hid off;omega⟩
 |true=>
  cases h2:re h with
  |false=>exact Or.inr (Or.inl ⟨rfl,rfl,by have :=mq.1 h2;unfold Hid off;omega⟩)|true=>
   have:= mB.1 h1;have:= mB.1 h2;by_cases a:h<0;·exact Or.inr (Or.inr (Or.inl ⟨rfl,rfl,a,by unfold Hid off;omega⟩))
   ·exact Or.inr (Or.inr (Or.inr ⟨rfl,rfl,by omega,by unfold Hid off;omega⟩))
theorem JU{w b:World}{c:Ca}{a:Option Addr}{cap:Nat}(h:bF w a cap c.u)(d:Below (w.alloc (co c a cap)).heap.size (w.alloc (co c a cap)) b):Below w.heap.size w b∧kZ b w.heap.size c a cap:=⟨(ar _ _).trans (d.mono (by simp)),(AO w c a cap h).on d⟩
theorem uc(x y:Int)(w:World):(Instr.field 47 (.agg #[.int .i64 x,.int .i64 y]) 0).run prog w=.ok (.int .i64 x) w:=by kernel_rfl
theorem oD(c:Ca)(a:Option Addr)(cap:Nat)(w:World)(q:bF w a cap c.u):Calls prog 115 #[cv c a cap] w fun e s=>e=.returned (.int .i64 (bS c))∧Below w.heap.size w s:=by
 unfold cv;have n:∀o,Below w.heap.size w (w.alloc o):=ar w;rcases Ix c.m c.h with⟨h1,H⟩|⟨h1,h2,H⟩|⟨h1,h2,x,H⟩|⟨h1,h2,x,H⟩;·have d:=aW (lj H.out);go_enter func115,ntmps115;go_wp2_with(go_at_call 130;refine(gS _ _).mono ?_;rintro e f ⟨rfl,rfl⟩;rw[h1]);go_ret;exact⟨bP d.out.symm,n _⟩
 ·have d:=aW (lj H.out);go_enter func115,ntmps115;go_wp2_with(go_at_call 130;refine(gS _ _).mono ?_;rintro e f ⟨rfl,rfl⟩;first|rw[h1]|rw[h2]);go_ret;exact⟨bP d.out.symm,n _⟩
 ·have d:=aW (lj H.out);go_enter func115,ntmps115;go_wp2_with(go_at_call 130;refine(gS _ _).mono ?_;rintro e f ⟨rfl,rfl⟩;first|rw[h1]|rw[h2]);go_ret;exact⟨bP d.out.symm,n _⟩
 by_cases g:cf c.p=0
 ·have d:=aW (lH H.out g);have v:=uc;go_enter func115,ntmps115;go_wp2_with(first
   |(go_at_call 130;refine(gS _ _).mono ?_;rintro e f ⟨rfl,rfl⟩;first|rw[h1]|rw[h2])
   |(go_at_call 13;refine(dO c.p _).mono ?_;rintro e f ⟨rfl,b⟩;rw[g];obtain⟨i,j⟩:=JU q b;obtain⟨-,-,-,-,-,y⟩:=j.cells;have l:=j.bQ.oz;clear b j)
   |(go_at_call 132;refine(vk a cap c.u _ l).mono ?_;rintro e w2 ⟨rfl,k⟩));go_ret;exact⟨bP d.out.symm,i.trans (k.mono i.size)⟩
 ·have d:=aW (pr H.out g);have t:(cf c.p !=0)=true:=by simpa using g
  clear g;go_enter func115,ntmps115;go_wp2_with(first
   |(go_at_call 130;refine(gS _ _).mono ?_;rintro e f ⟨rfl,rfl⟩;first|rw[h1]|rw[h2])
   |(go_at_call 13;refine(dO c.p _).mono ?_;rintro e f ⟨rfl,b⟩;obtain⟨i,-⟩:=JU q b;generalize cf c.p=r at*;clear b));go_ret;exact⟨bP d.out.symm,i⟩
theorem vr(c:Ca)(a:Option Addr)(cap:Nat)(w:World)(h1:-1000000000000≤c.m)(h2:c.m≤1000000000000)(f:0≤c.h)(d:c.h≤1000000000000):Calls prog 65 #[cv c a cap] w fun e b=>e=.returned (.int .i64 (c.m-c.h))∧Below w.heap.size w b:=by unfold cv;go_enter func65,ntmps65;go_wp2;go_ret;exact⟨rfl,ar _ _⟩
def GR(w:World)(c:Ca)(e:Ending)(b:World):Prop:=∃a cap,e=.returned (cv c a cap)∧bF b a cap c.u∧iw w.heap.size a∧Below w.heap.size w b
theorem jj{B b:Nat}{a:Option Addr}(h:iw B a)(c:b≤B):iw b a:=fun ad d=>bE c (h ad d)
theorem c_(B:Nat):iw B none:=fun _ h=>by cases h
theorem Iy(c:Ca)(w:World)(a:c.u=[]):Calls prog 125 #[cv c none 0] w (GR w c):=by obtain⟨b,hi,f,e,d⟩:=info_parts pQ;obtain⟨m,h,p,u⟩:=c;dsimp only at a;subst a;unfold cv;dsimp only[List.length_nil];go_enter func125,ntmps125;go_wp2_with(at_builtin;refine wpList_append_own_none rfl _ _ 64 rfl w.heap.size 132 b 2 underlying64 hi _ _ _ rfl (d_ _ _ _ _) rfl ?_);refine aA (v:=.agg #[.int .i64 m,.int .i64 h,.int .i64 p.t,.int .i64 p.c,.int .i64 p.s,.slice none 0 0]) (by simp[results,results125,go_sem];try rfl) rfl ⟨none,0,rfl,dd _,c_ _,?_⟩;exact((ar _ _).trans ((ar _ _).mono (by simp)))
theorem Iq(c:Ca)(ad:Addr)(cap:Nat)(w:World)(E:bF w (some ad) cap c.u)(L:c.u.length≤30):Calls prog 125 #[cv c (some ad) cap] w (GR w c):=by
 obtain⟨B,hi,n,l,i⟩:=info_parts pQ;have z:∀o y j u,(flat c.u)[j]?=some u→((w.alloc o).alloc y).cell? (ad.add j)=some u:=fun o y=>FI ((E.oz.below (ar _ _)).below (ar _ _));unfold cv;go_enter func125,ntmps125;go_wp2_with(at_builtin;refine wpList_append_own _ rfl _ _ 64 rfl (w.heap.size +2) 132 B (.agg #[.int .i64 0,.int .i64 0]) 2 16 underlying64 hi n l i rfl (by decide) _ _ _ rfl (d_ _ _ _ _) ad c.u.length cap (flat c.u) rfl (ej _) (z _ _) (vl _) ?c3 ?c4 ?c5 ?_);case c3=>unfold maxLen;omega
 case c4=>omega
 case c5=>simp
 intro v' f b d _;have g:Below (w.heap.size +2) _ f:=(Below.refl _ _).grown d (by simp) (fun k D=>by cases D);obtain⟨A,e,rfl,r,a⟩:=kf b;have C:Below w.heap.size w f:=((ar _ _).trans ((ar _ _).mono (by simp))).trans (g.mono (by omega));have x:f.heap[w.heap.size]?=some (co c (some ad) cap):=by rw[g.block _ (by omega),bC _ _ _ (by simp)];exact ah _ _ _ rfl
 have q:f.heap[w.heap.size+1]?=some (co b7 none 0):=by rw[g.block _ (by omega)];exact ah _ _ _ (by simp)
 obtain⟨C0,C1,C2,C3,Z,Y⟩:=dz x;obtain⟨R,Q,P,O,N,M⟩:=eT x;obtain⟨K,J,I,H,G,F⟩:=dz q;obtain⟨X,W,V,U,T,S⟩:=eT q;clear b d z x q g;go_wp2;refine aA (v:=.agg #[.int .i64 c.m,.int .i64 c.h,.int .i64 c.p.t,.int .i64 c.p.c,.int .i64 c.p.s,.slice A c.u.length e]) (by simp[results,results125,go_sem,K,J,I,H,G,F];try rfl) rfl ⟨A,e,rfl,?_,jj a (by omega),?_⟩
 ·repeat refine bF.set ?_ a (by simp) _
  exact r
 ·repeat refine aR ?_ (by simp) _
  exact C
theorem oO(c:Ca)(a:Option Addr)(cap:Nat)(w:World)(b:bF w a cap c.u)(d:c.u.length≤30):Calls prog 125 #[cv c a cap] w (GR w c):=by
 cases a with
 |none=>have h0:=b.nil rfl;subst h0;exact Iy c w b.py
 |some ad=>exact Iq c ad cap w b d
theorem Ff(c:Ca)(a:Option Addr)(cap:Nat)(f:Option Addr)(b:Nat)(w:World)(h1:bF w a cap c.u)(h2:bF w f b c.u):Calls prog 18 #[cv c a cap,cv c f b] w fun e i=>e=.returned (.bool true)∧Below w.heap.size w i:=by have j:∀o d,ff ((w.alloc o).alloc d) a c.u:=fun o d=>(h1.oz.below (ar _ _)).below (ar _ _);have h:∀o d,ff ((w.alloc o).alloc d) f c.u:=fun o d=>(h2.oz.below (ar _ _)).below (ar _ _);have k:∀o d,Below w.heap.size w ((w.alloc o).alloc d):=fun o d=>(ar _ _).trans ((ar _ _).mono (by simp));unfold cv;go_enter func18,ntmps18;go_wp2_with(go_at_call 33;refine(jD a cap c.u f b _ (j _ _) (h _ _)).mono ?_;rintro e l ⟨rfl,g⟩);go_ret;exact⟨rfl,(k _ _).trans (g.mono (by simp;omega))⟩
def qQ(S:Nat)(a0:Option Addr)(u0:List (Int×Int))(a:Option Addr)(u:List (Int ×Int)):Prop:=iw S a∨(a =a0∧u=u0)
def da(w:World)(a0:Option Addr)(u0:List (Int×Int))(r:Ca×Int)(e:Ending)(b:World):Prop:=∃a cap,e=.returned (.tuple #[cv r.1 a cap,.int .i64 r.2])∧bF b a cap r.1.u∧qQ w.heap.size a0 u0 a r.1.u∧Below w.heap.size w b
structure mm(w:World)(c:Ca)(a:Option Addr)(cap:Nat)(W:World):Prop where
 bel:Below w.heap.size w W
 box:kZ W w.heap.size c a cap
 res:W.heap[w.heap.size+1]?=some (co b7 none 0)
theorem mm.lt{w W:World}{c:Ca}{a:Option Addr}{cap:Nat}(h:mm w c a cap W):w.heap.size+1<W.heap.size:=ae h.res
theorem mm.on{w W d:World}{c:Ca}{a:Option Addr}{cap:Nat}(h:mm w c a cap W)(b:Below W.heap.size W d):mm w c a cap d:=⟨h.bel.trans (b.mono h.bel.size),h.box.on b,(b.block _ h.lt).trans h.res⟩
theorem jI{w:World}{c:Ca}{a:Option Addr}{cap:Nat}(b:bF w a cap c.u):mm w c a cap ((w.alloc (co c a cap)).alloc (co b7 none 0)):=⟨(ar _ _).trans ((ar _ _).mono (by simp)),(AO w c a cap b).alloc _,ah _ _ _ (by simp)⟩
theorem sL{W:World}{b:Nat}{c:Ca}{a:Option Addr}{cap:Nat}(h:W.heap[b]?=some (co c a cap))(d:Ca)(f:Option Addr)(e:Nat):((((((W.setCell ⟨b,0,none⟩ (.int .i64 d.m)).setCell ⟨b,1,none⟩ (.int .i64 d.h)).setCell ⟨b,2,none⟩ (.int .i64 d.p.t)).setCell ⟨b,3,none⟩ (.int .i64 d.p.c)).setCell ⟨b,4,none⟩ (.int .i64 d.p.s)).setCell ⟨b,5,none⟩ (.slice f d.u.length e)).heap[b]?=some (co d f e):=by unfold co at h⊢;have h1:=aZ _ _ 0 _ _ (.int .i64 d.m) h;have h2:=aZ _ _ 1 _ _ (.int .i64 d.h) h1;have k:=aZ _ _ 2 _ _ (.int .i64 d.p.t) h2;have j:=aZ _ _ 3 _ _ (.int .i64 d.p.c) k;have i:=aZ _ _ 4 _ _ (.int .i64 d.p.s) j;have g:=aZ _ _ 5 _ _ (.slice f d.u.length e) i;exact g
theorem mm.put{w W:World}{c:Ca}{a:Option Addr}{cap:Nat}(h:mm w c a cap W)(b:Ca)(e:Option Addr)(d:Nat)(r:bF W e d b.u)(f:iw (w.heap.size +2) e):mm w b e d ((((((W.setCell ⟨w.heap.size,0,none⟩ (.int .i64 b.m)).setCell ⟨w.heap.size,1,none⟩ (.int .i64 b.h)).setCell ⟨w.heap.size,2,none⟩ (.int .i64 b.p.t)).setCell ⟨w.heap.size,3,none⟩ (.int .i64 b.p.c)).setCell ⟨w.heap.size,4,none⟩ (.int .i64 b.p.s)).setCell ⟨w.heap.size,5,none⟩ (.slice e b.u.length d)):=by have b1:=h.bel.setCell (aj (⟨w.heap.size,0,none⟩:Addr).block) (.int .i64 b.m);have b2:=b1.setCell (aj (⟨w.heap.size,1,none⟩:Addr).block) (.int .i64 b.h);have z:=b2.setCell (aj (⟨w.heap.size,2,none⟩:Addr).block) (.int .i64 b.p.t);have y:=z.setCell (aj (⟨w.heap.size,3,none⟩:Addr).block) (.int .i64 b.p.c);have x:=y.setCell (aj (⟨w.heap.size,4,none⟩:Addr).block) (.int .i64 b.p.s);have v:=x.setCell (aj (⟨w.heap.size,5,none⟩:Addr).block) (.slice e b.u.length d);have l1:=r.set f (p:=⟨w.heap.size,0,none⟩) (by simp) (.int .i64 b.m);have l2:=l1.set f (p:=⟨w.heap.size,1,none⟩) (by simp) (.int .i64 b.h);have q:=l2.set f (p:=⟨w.heap.size,2,none⟩) (by simp) (.int .i64 b.p.t);have o:=q.set f (p:=⟨w.heap.size,3,none⟩) (by simp) (.int .i64 b.p.c);have n:=o.set f (p:=⟨w.heap.size,4,none⟩) (by simp) (.int .i64 b.p.s);have l:=n.set f (p:=⟨w.heap.size,5,none⟩) (by simp) (.slice e b.u.length d);have r1:=(aF W ⟨w.heap.size,0,none⟩ (w.heap.size +1) (.int .i64 b.m) (by simp)).trans h.res;have r2:=(aF _ ⟨w.heap.size,1,none⟩ (w.heap.size +1) (.int .i64 b.h) (by simp)).trans r1;have k:=(aF _ ⟨w.heap.size,2,none⟩ (w.heap.size +1) (.int .i64 b.p.t) (by simp)).trans r2;have j:=(aF _ ⟨w.heap.size,3,none⟩ (w.heap.size +1) (.int .i64 b.p.c) (by simp)).trans k;have i:=(aF _ ⟨w.heap.size,4,none⟩ (w.heap.size +1) (.int .i64 b.p.s) (by simp)).trans j;have g:=(aF _ ⟨w.heap.size,5,none⟩ (w.heap.size +1) (.slice e b.u.length d) (by simp)).trans i;exact⟨v,⟨sL h.box.block b e d,l⟩,g⟩
theorem mm.held{w W:World}{c:Ca}{a:Option Addr}{cap:Nat}(h:mm w c a cap W)(n:Int)(d:iw (w.heap.size+2) a):mm w ⟨c.m,n,c.p,c.u⟩ a cap (W.setCell ⟨w.heap.size,1,none⟩ (.int .i64 n)):=by
 refine⟨h.bel.setCell (aj _) _,⟨?_,h.box.bQ.set d (by simp) _⟩,?_⟩;·have b:=h.box.block;unfold co at b⊢;exact aZ _ _ 1 _ _ (.int .i64 n) b
 ·rw[aF _ _ _ _ (by simp)];exact h.res
theorem mm.rp{w W:World}{c:Ca}{a:Option Addr}{cap:Nat}(h:mm w c a cap W)(n:Int)(d:iw (w.heap.size+2) a):mm w ⟨n,c.h,c.p,c.u⟩ a cap (W.setCell ⟨w.heap.size,0,none⟩ (.int .i64 n)):=by
 refine⟨h.bel.setCell (aj _) _,⟨?_,h.box.bQ.set d (by simp) _⟩,?_⟩;·have b:=h.box.block;unfold co at b⊢;exact aZ _ _ 0 _ _ (.int .i64 n) b
 ·rw[aF _ _ _ _ (by simp)];exact h.res
theorem BB(s h:Int):(nc s=false∧Hid (s <1∨1000000<s∨1000000000000<h+s))∨(nc s=true∧1000000000000<h+s∧1≤s∧s≤1000000∧Hid (s<1∨1000000<s∨1000000000000<h+s))∨(nc s=true∧h+s≤1000000000000∧1≤s∧s≤1000000∧Hid (¬(s <1∨1000000<s∨1000000000000<h+s))):=by
 cases h1:nc s with
 |false=>exact Or.inl ⟨rfl,by have:= tu.1 h1;unfold Hid;omega⟩|true=>
  obtain⟨h2,a⟩:=qH.1 h1;by_cases b:1000000000000<h+s;·exact Or.inr (Or.inl ⟨rfl,b,h2,a,by unfold Hid;omega⟩)
  ·exact Or.inr (Or.inr ⟨rfl,by omega,h2,a,by unfold Hid;omega⟩)
theorem vP{c:Ca}(R:jM c):c.u.length≤30:=(xN R.cP).1
theorem Ez(c:Ca)(a:Option Addr)(cap:Nat)(s:Int)(w:World)(S:bF w a cap c.u):Calls prog 99 #[cv c a cap,.int .i64 s] w (da w a c.u (fU c s)):=by
 have T:=jI S;unfold cv;go_enter func99,ntmps99;go_wp2_with fail;refine(oD c a cap _ (jI S).box.bQ).mono ?_;rintro e w1 ⟨rfl,y⟩;have d:=T.on y;clear T y;obtain⟨N,M,L,K,J,I⟩:=d.box.cells;obtain⟨G,F,E,D,C,B⟩:=eT d.box.block;obtain⟨q,o,n,l,k,j⟩:=dz d.res;obtain⟨Z,Y,X,W,V,U⟩:=eT d.res;by_cases h0:bS c=0;rotate_left
 ·have g:=aW (rI (s:=s) h0);have P:(bS c !=0)=true:=by simpa using h0
  clear h0;generalize bS c=r at*;go_wp2;refine aA (v:=.tuple #[.agg #[.int .i64 0,.int .i64 0,.int .i64 0,.int .i64 0,.int .i64 0,.slice none 0 0],.int .i64 r]) (by simp[results,results99,go_sem,q,o,n,l,k,j];try rfl) rfl ?_;unfold da;rw[g.out];refine⟨none,0,rfl,dd _,Or.inl (c_ _),?_⟩;repeat refine aR ?_ (by simp) _
  exact d.bel
 have P:(bS c !=0)=false:=by simpa using h0
 have R:=fE.1 h0;have HK:=aW (vP R);have m1:=R.h1;have m2:=R.h2;rcases BB s c.h with⟨h1,H⟩|⟨h1,h2,h3,h4,H⟩|⟨h1,h2,h3,h4,H⟩
 ·have g:=aW (oQ h0 H.out);clear h0 R;generalize bS c=r at*;go_wp2_with(go_at_call 116;refine(jf _ _).mono ?_;rintro e w2 ⟨rfl,rfl⟩;rw[h1]);refine aA (v:=.tuple #[.agg #[.int .i64 0,.int .i64 0,.int .i64 0,.int .i64 0,.int .i64 0,.slice none 0 0],.int .i64 3]) (by simp[results,results99,go_sem,q,o,n,l,k,j];try rfl) rfl ?_;unfold da;rw[g.out];refine⟨none,0,rfl,dd _,Or.inl (c_ _),?_⟩;repeat refine aR ?_ (by simp) _
  exact d.bel
 ·have g:=aW (oQ h0 H.out);clear h0 R;generalize bS c=r at*;go_wp2_with(go_at_call 116;refine(jf _ _).mono ?_;rintro e w2 ⟨rfl,rfl⟩;rw[h1]);refine aA (v:=.tuple #[.agg #[.int .i64 0,.int .i64 0,.int .i64 0,.int .i64 0,.int .i64 0,.slice none 0 0],.int .i64 3]) (by simp[results,results99,go_sem,q,o,n,l,k,j];try rfl) rfl ?_;unfold da;rw[g.out];refine⟨none,0,rfl,dd _,Or.inl (c_ _),?_⟩;repeat refine aR ?_ (by simp) _
  exact d.bel
 ·have g:=aW (sG h0 H.out);clear h0 R;generalize bS c=r at*;go_wp2_with fail;refine(jf _ _).mono ?_;rintro e w2 ⟨rfl,rfl⟩;rw[h1];go_wp2_with fail;refine(oO c a cap _ d.box.bQ HK.out).mono ?_;rintro e w2 ⟨z,b,rfl,Q,O,x⟩;unfold cv;have A:=d.on x;have f:iw (w.heap.size+2) z:=jj O d.lt;clear N M L K J I G F E D C B q o n l k j Z Y X W V U d x;obtain⟨N,M,L,K,J,I⟩:=A.box.cells;obtain⟨G,F,E,D,C,B⟩:=eT A.box.block;go_upto_region 7 with fail;have i:=A.put c z b Q f;generalize(((((w2.setCell _ _).setCell _ _).setCell _ _).setCell _ _).setCell _ _).setCell _ _=w3 at*;clear N M L K J I G F E D C B A;obtain⟨N,M,L,K,J,I⟩:=i.box.cells;obtain⟨G,F,E,D,C,B⟩:=eT i.box.block;obtain⟨q,o,n,l,k,j⟩:=dz i.res;obtain⟨Z,Y,X,W,V,U⟩:=eT i.res;go_wp2;refine aA (v:=.tuple #[.agg #[.int .i64 c.m,.int .i64 (c.h +s),.int .i64 c.p.t,.int .i64 c.p.c,.int .i64 c.p.s,.slice z c.u.length b],.int .i64 0]) (by simp[results,results99,go_sem,q,o,n,l,k,j];try rfl) rfl ?_;unfold da;rw[g.out];refine⟨z,b,rfl,?_,Or.inl (jj f (by omega)),?_⟩
  ·repeat refine bF.set ?_ f (by simp) _
   exact i.box.bQ
  ·repeat refine aR ?_ (by simp) _
   exact i.bel
theorem mm.list{w W:World}{c:Ca}{a:Option Addr}{cap:Nat}(h:mm w c a cap W)(e:List (Int ×Int))(d:Option Addr)(b:Nat)(i:bF W d b e)(g:iw (w.heap.size +2) d):mm w ⟨c.m,c.h,c.p,e⟩ d b (W.setCell ⟨w.heap.size,5,none⟩ (.slice d e.length b)):=by
 refine⟨h.bel.setCell (aj _) _,⟨?_,i.set g (by simp) _⟩,?_⟩;·have f:=h.box.block;unfold co at f⊢;exact aZ _ _ 5 _ _ (.slice d e.length b) f
 ·rw[aF _ _ _ _ (by simp)];exact h.res
theorem Cm(s t:Int):(nc s=false∧Hid (s <1∨1000000<s∨t<0∨1000000<t))∨(nc s=true∧t<0∧Hid (s <1∨1000000<s∨t<0∨1000000<t))∨(nc s=true∧0≤t∧1000000<t∧Hid (s<1∨1000000<s∨t<0∨1000000<t))∨(nc s=true∧0≤t∧t≤1000000∧1≤s∧s≤1000000∧Hid (¬ (s<1∨1000000<s∨t<0∨1000000<t))):=by
 cases h1:nc s with
 |false=>exact Or.inl ⟨rfl,by have:= tu.1 h1;unfold Hid;omega⟩
 |true=>
  obtain⟨h2,c⟩:=qH.1 h1;by_cases b:t<0;·exact Or.inr (Or.inl ⟨rfl,b,by unfold Hid;omega⟩)
  by_cases a:1000000<t;·exact Or.inr (Or.inr (Or.inl ⟨rfl,by omega,a,by unfold Hid;omega⟩))
  ·exact Or.inr (Or.inr (Or.inr ⟨rfl,by omega,by omega,h2,c,by unfold Hid;omega⟩))
theorem rM{w b:World}{r:List (Int ×Int)×Int}{e:Ending}(h:fG w r e b):∃a cap,e=.returned (.tuple #[.slice a r.1.length cap,.int .i64 r.2])∧bF b a cap r.1∧iw w.heap.size a∧Below w.heap.size w b:=by obtain⟨v,g,d,i⟩:=h;obtain⟨a,cap,rfl,f,c⟩:=kf d;exact⟨a,cap,g,f,c,i⟩
def fB(w:World)(r:Ca×Int)(e:Ending)(b:World):Prop:=∃a cap,e=.returned (.tuple #[cv r.1 a cap,.int .i64 r.2])∧bF b a cap r.1.u∧iw w.heap.size a∧Below w.heap.size w b
theorem FU(c:Ca)(a:Option Addr)(cap:Nat)(s t:Int)(w:World)(Z:bF w a cap c.u):Calls prog 91 #[cv c a cap,.int .i64 s,.int .i64 t] w (fB w (ek c s t)):=by
 have T0:=jI Z;unfold cv;go_enter func91,ntmps91;go_wp2_with fail;refine(oD c a cap _ (jI Z).box.bQ).mono ?_;rintro e w1 ⟨rfl,S⟩;have o:=T0.on S;clear T0 S;obtain⟨N,M,L,K,J,I⟩:=o.box.cells;obtain⟨j,i,g,f,d,b⟩:=dz o.res;obtain⟨G,F,E,D,C,B⟩:=eT o.res;by_cases h0:bS c=0;rotate_left
 ·have k:=aW (ow (s:=s) (t:=t) h0);have W:(bS c !=0)=true:=by simpa using h0
  clear h0;generalize bS c=r at*;go_wp2;refine aA (v:=.tuple #[.agg #[.int .i64 0,.int .i64 0,.int .i64 0,.int .i64 0,.int .i64 0,.slice none 0 0],.int .i64 r]) (by simp[results,results91,go_sem,j,i,g,f,d,b];try rfl) rfl ?_;unfold fB;rw[k.out];refine⟨none,0,rfl,dd _,c_ _,?_⟩;repeat refine aR ?_ (by simp) _
  exact o.bel
 have W:(bS c !=0)=false:=by simpa using h0
 have R:=fE.1 h0;have m1:=R.h1;have m2:=R.h2;have m3:=R.m1;have m4:=R.m2;clear R;rcases Cm s t with⟨h1,H⟩|⟨h1,h2,H⟩|⟨h1,h2,h3,H⟩|⟨h1,h2,h3,h4,h5,H⟩
 ·have k:=aW (j_ h0 H.out);clear h0;generalize bS c=r at*;go_wp2_with(go_at_call 116;refine(jf _ _).mono ?_;rintro e w2 ⟨rfl,rfl⟩;rw[h1]);refine aA (v:=.tuple #[.agg #[.int .i64 0,.int .i64 0,.int .i64 0,.int .i64 0,.int .i64 0,.slice none 0 0],.int .i64 3]) (by simp[results,results91,go_sem,j,i,g,f,d,b];try rfl) rfl ?_;unfold fB;rw[k.out];refine⟨none,0,rfl,dd _,c_ _,?_⟩;repeat refine aR ?_ (by simp) _
  exact o.bel
 ·have k:=aW (j_ h0 H.out);clear h0;generalize bS c=r at*;go_wp2_with(go_at_call 116;refine(jf _ _).mono ?_;rintro e w2 ⟨rfl,rfl⟩;rw[h1]);refine aA (v:=.tuple #[.agg #[.int .i64 0,.int .i64 0,.int .i64 0,.int .i64 0,.int .i64 0,.slice none 0 0],.int .i64 3]) (by simp[results,results91,go_sem,j,i,g,f,d,b];try rfl) rfl ?_;unfold fB;rw[k.out];refine⟨none,0,rfl,dd _,c_ _,?_⟩;repeat refine aR ?_ (by simp) _
  exact o.bel
 ·have k:=aW (j_ h0 H.out);clear h0;generalize bS c=r at*;go_wp2_with(go_at_call 116;refine(jf _ _).mono ?_;rintro e w2 ⟨rfl,rfl⟩;rw[h1]);refine aA (v:=.tuple #[.agg #[.int .i64 0,.int .i64 0,.int .i64 0,.int .i64 0,.int .i64 0,.slice none 0 0],.int .i64 3]) (by simp[results,results91,go_sem,j,i,g,f,d,b];try rfl) rfl ?_;unfold fB;rw[k.out];refine⟨none,0,rfl,dd _,c_ _,?_⟩;repeat refine aR ?_ (by simp) _
  exact o.bel
 have Y:=aW (ou h0 H.out);have A:=aW (qJ h0 H.out);have z:=aW (sZ h0 H.out);clear h0;generalize bS c=r at*;go_wp2_with fail;refine(jf _ _).mono ?_;rintro e w2 ⟨rfl,rfl⟩;rw[h1];go_wp2_with fail;refine(vr c a cap _ m3 m4 m1 m2).mono ?_;rintro e w2 ⟨rfl,Q⟩;have q:=o.on Q;clear N M L K J I j i g f d b G F E D C B o Q;obtain⟨N,M,L,K,J,I⟩:=q.box.cells;obtain⟨j,i,g,f,d,b⟩:=dz q.res;obtain⟨G,F,E,D,C,B⟩:=eT q.res;by_cases hq:c.m-c.h<s
 ·have k:=aW (Y.out (by omega));clear Y A z;go_wp2;refine aA (v:=.tuple #[.agg #[.int .i64 0,.int .i64 0,.int .i64 0,.int .i64 0,.int .i64 0,.slice none 0 0],.int .i64 10]) (by simp[results,results91,go_sem,j,i,g,f,d,b];try rfl) rfl ?_;unfold fB;rw[k.out];refine⟨none,0,rfl,dd _,c_ _,?_⟩;repeat refine aR ?_ (by simp) _
  exact q.bel
 have A:=aW (A.out (by omega));have z:=aW (z.out (by omega));have a1:s≤c.m-c.h:=by omega
 clear Y hq;go_wp2_with fail;refine(tR c.p a cap c.u (t,s) _ q.box.bQ.oz).mono ?_;intro e w3 hA;obtain⟨U,l,rfl,X,O,P⟩:=rM hA;have x:=q.on P;have n:iw (w.heap.size+2) U:=jj O q.lt;clear N M L K J I j i g f d b G F E D C B q P hA O;obtain⟨N,M,L,K,J,I⟩:=x.box.cells;obtain⟨F0,F1,F2,F3,F4,F5⟩:=eT x.box.block;obtain⟨j,i,g,f,d,b⟩:=dz x.res;obtain⟨G,F,E,D,C,B⟩:=eT x.res;by_cases y:(gU c.p c.u (t,s)).2=0;rotate_left
 ·have k:=aW (A.out y);have V:((gU c.p c.u (t,s)).2 !=0)=true:=by simpa using y
  clear A z y;generalize(gU c.p c.u (t,s)).2=r2 at*;generalize(gU c.p c.u (t,s)).1=r1 at*;go_wp2;refine aA (v:=.tuple #[.agg #[.int .i64 0,.int .i64 0,.int .i64 0,.int .i64 0,.int .i64 0,.slice none 0 0],.int .i64 r2]) (by simp[results,results91,go_sem,j,i,g,f,d,b];try rfl) rfl ?_;unfold fB;rw[k.out];refine⟨none,0,rfl,dd _,c_ _,?_⟩;repeat refine aR ?_ (by simp) _
  exact x.bel
 have k:=aW (z.out y);have V:((gU c.p c.u (t,s)).2 !=0)=false:=by simpa using y
 clear A z y;generalize(gU c.p c.u (t,s)).2=r2 at*;generalize(gU c.p c.u (t,s)).1=r1 at*;go_upto_region 13 with fail;have T:=(x.list r1 U l X n).held (c.h+s) n;generalize(w3.setCell _ _).setCell _ _=w4 at*;clear N M L K J I F0 F1 F2 F3 F4 F5 j i g f d b G F E D C B x;obtain⟨N,M,L,K,J,I⟩:=T.box.cells;obtain⟨j,i,g,f,d,b⟩:=dz T.res;obtain⟨G,F,E,D,C,B⟩:=eT T.res;go_wp2;refine aA (v:=.tuple #[.agg #[.int .i64 c.m,.int .i64 (c.h +s),.int .i64 c.p.t,.int .i64 c.p.c,.int .i64 c.p.s,.slice U r1.length l],.int .i64 0]) (by simp[results,results91,go_sem,j,i,g,f,d,b];try rfl) rfl ?_;unfold fB;rw[k.out];refine⟨U,l,rfl,?_,jj n (by omega),?_⟩
 ·repeat refine bF.set ?_ n (by simp) _
  exact T.box.bQ
 ·repeat refine aR ?_ (by simp) _
  exact T.bel
theorem yR(a b:Int):(re a=false∧Hid (jq a b))∨(re a=true∧re b=false∧Hid (jq a b))∨(re a=true∧re b=true∧-1000000000000≤a∧a≤1000000000000∧-1000000000000≤b∧b≤1000000000000∧Hid (¬ jq a b)):=by
 cases h1:re a with
 |false=>exact Or.inl ⟨rfl,by have:= mq.1 h1;unfold Hid jq;omega⟩|true=>
  obtain⟨h2,f⟩:=mB.1 h1
  cases c:re b with
  |false=>exact Or.inr (Or.inl ⟨rfl,rfl,by have :=mq.1 c;unfold Hid jq;omega⟩)|true=>obtain⟨e,d⟩:=mB.1 c;exact Or.inr (Or.inr ⟨rfl,rfl,h2,f,e,d,by unfold Hid jq;omega⟩)
theorem vM(c:Ca)(a:Option Addr)(cap:Nat)(g f:Int)(w:World)(hL:bF w a cap c.u):Calls prog 109 #[cv c a cap,.int .i64 g,.int .i64 f] w (da w a c.u (cF c g f)):=by
 have T0:=jI hL;unfold cv;go_enter func109,ntmps109;go_wp2_with fail;refine(oD c a cap _ (jI hL).box.bQ).mono ?_;rintro e w1 ⟨rfl,L⟩;have j:=T0.on L;clear T0 L;obtain⟨y,x,q,o,n,l⟩:=j.box.cells;obtain⟨T,S,Q,P,O,N⟩:=eT j.box.block;obtain⟨E,D,C,B,A,z⟩:=dz j.res;obtain⟨E0,E1,E2,E3,E4,E5⟩:=eT j.res;by_cases h0:bS c=0;rotate_left
 ·have k:=aW (oE (a:=g) (b:=f) h0);have Z:(bS c !=0)=true:=by simpa using h0
  clear h0;generalize bS c=r at*;go_wp2;refine aA (v:=.tuple #[.agg #[.int .i64 0,.int .i64 0,.int .i64 0,.int .i64 0,.int .i64 0,.slice none 0 0],.int .i64 r]) (by simp[results,results109,go_sem,E,D,C,B,A,z];try rfl) rfl ?_;unfold da;rw[k.out];refine⟨none,0,rfl,dd _,Or.inl (c_ _),?_⟩;repeat refine aR ?_ (by simp) _
  exact j.bel
 have Z:(bS c !=0)=false:=by simpa using h0
 have R:=fE.1 h0;have HK:=aW (vP R);have m1:=R.h1;have m2:=R.h2;have m3:=R.m1;have m4:=R.m2;rcases yR g f with⟨h1,H⟩|⟨h1,h2,H⟩|⟨h1,h2,h3,h4,h5,h6,H⟩
 ·have k:=aW (kl h0 H.out);clear h0 R;generalize bS c=r at*;go_wp2_with(go_at_call 130;refine(gS _ _).mono ?_;rintro e w2 ⟨rfl,rfl⟩;rw[h1]);refine aA (v:=.tuple #[.agg #[.int .i64 0,.int .i64 0,.int .i64 0,.int .i64 0,.int .i64 0,.slice none 0 0],.int .i64 3]) (by simp[results,results109,go_sem,E,D,C,B,A,z];try rfl) rfl ?_;unfold da;rw[k.out];refine⟨none,0,rfl,dd _,Or.inl (c_ _),?_⟩;repeat refine aR ?_ (by simp) _
  exact j.bel
 ·have k:=aW (kl h0 H.out);clear h0 R;generalize bS c=r at*;go_wp2_with(go_at_call 130;refine(gS _ _).mono ?_;rintro e w2 ⟨rfl,rfl⟩;first|rw[h1]|rw[h2]);refine aA (v:=.tuple #[.agg #[.int .i64 0,.int .i64 0,.int .i64 0,.int .i64 0,.int .i64 0,.slice none 0 0],.int .i64 3]) (by simp[results,results109,go_sem,E,D,C,B,A,z];try rfl) rfl ?_;unfold da;rw[k.out];refine⟨none,0,rfl,dd _,Or.inl (c_ _),?_⟩;repeat refine aR ?_ (by simp) _
  exact j.bel
 ·have HF:=aW (oR h0 H.out);have HO:=aW (pY h0 H.out);have X:=aW (tD (a:=g) (b:=f) h0);clear h0 R;generalize bS c=r at*;go_wp2_with fail;refine(gS _ _).mono ?_;rintro e w2 ⟨rfl,rfl⟩;rw[h1];go_wp2_with fail;refine(gS _ _).mono ?_;rintro e w2 ⟨rfl,rfl⟩;rw[h2];go_wp2_with fail;refine(oO c a cap _ j.box.bQ HK.out).mono ?_;rintro e w2 ⟨M,d,rfl,a1,Y,K⟩;unfold cv;have W:=j.on K;have i:iw (w.heap.size +2) M:=jj Y j.lt;clear y x q o n l T S Q P O N E D C B A z E0 E1 E2 E3 E4 E5 j K;obtain⟨y,x,q,o,n,l⟩:=W.box.cells;obtain⟨T,S,Q,P,O,N⟩:=eT W.box.block;go_upto_region 7 with fail;have V:=W.put c M d a1 i;generalize(((((w2.setCell _ _).setCell _ _).setCell _ _).setCell _ _).setCell _ _).setCell _ _=w3 at*;clear y x q o n l T S Q P O N W;obtain⟨y,x,q,o,n,l⟩:=V.box.cells;obtain⟨T,S,Q,P,O,N⟩:=eT V.box.block;go_upto_region 9 with fail;have U:=(V.held (c.h +g) i).rp (c.m +f) i;generalize(w3.setCell _ _).setCell _ _=w4 at*;clear y x q o n l T S Q P O N V;obtain⟨y,x,q,o,n,l⟩:=U.box.cells;go_wp2_with fail;refine(oD ⟨c.m+f,c.h+g,c.p,c.u⟩ M d _ U.box.bQ).mono ?_;rintro e w5 ⟨rfl,J⟩;have G:=U.on J;clear y x q o n l U J;obtain⟨y,x,q,o,n,l⟩:=G.box.cells;obtain⟨E,D,C,B,A,z⟩:=dz G.res;obtain⟨E0,E1,E2,E3,E4,E5⟩:=eT G.res;by_cases F:bS ⟨c.m+f,c.h+g,c.p,c.u⟩=0
  ·have k:=aW (HO.out (X.out.1 F));have I:(bS ⟨c.m+f,c.h+g,c.p,c.u⟩!=0)=false:=by simpa using F
   clear F HO HF X;generalize bS ⟨c.m+f,c.h+g,c.p,c.u⟩=r2 at*;go_wp2;refine aA (v:=.tuple #[.agg #[.int .i64 (c.m+f),.int .i64 (c.h+g),.int .i64 c.p.t,.int .i64 c.p.c,.int .i64 c.p.s,.slice M c.u.length d],.int .i64 0]) (by simp[results,results109,go_sem,E,D,C,B,A,z];try rfl) rfl ?_;unfold da;rw[k.out];refine⟨M,d,rfl,?_,Or.inl (jj i (by omega)),?_⟩
   ·repeat refine bF.set ?_ i (by simp) _
    exact G.box.bQ
   ·repeat refine aR ?_ (by simp) _
    exact G.bel
  ·have k:=aW (HF.out (Classical.not_not.1 fun h=>F (X.out.2 h)));have I:(bS ⟨c.m+f,c.h+g,c.p,c.u⟩!=0)=true:=by simpa using F
   clear F HO HF X;generalize bS ⟨c.m+f,c.h+g,c.p,c.u⟩=r2 at*;go_wp2;refine aA (v:=.tuple #[.agg #[.int .i64 0,.int .i64 0,.int .i64 0,.int .i64 0,.int .i64 0,.slice none 0 0],.int .i64 10]) (by simp[results,results109,go_sem,E,D,C,B,A,z];try rfl) rfl ?_;unfold da;rw[k.out];refine⟨none,0,rfl,dd _,Or.inl (c_ _),?_⟩;repeat refine aR ?_ (by simp) _
   exact G.bel
theorem Gx(w:World)(x:Int×Int):ff (w.alloc (.cells #[.int .i64 x.1,.int .i64 x.2] 132)) (some ⟨w.heap.size,0,none⟩) [x]:=by
 refine⟨by simp[maxLen],Or.inr ⟨w.heap.size,0,rfl,by simp,fun i hi=>?_⟩⟩;have h0:i=0:=by simp at hi;exact hi
 subst h0;constructor;·rw[cd _ _ _ _ rfl];rfl
 ·rw[cd _ _ _ _ rfl];rfl
theorem tJ(x:Int×Int)(b:Nat)(w:World)(c:b=w.heap.size):Calls prog 86 #[.slice (some ⟨b,0,none⟩) 1 1] (w.alloc (.cells #[.int .i64 x.1,.int .i64 x.2] 132)) fun e a=>
   e=.returned (.agg #[.int .i64 (cP [x]).1,.int .i64 (cP [x]).2])∧Below (w.alloc (.cells #[.int .i64 x.1,.int .i64 x.2] 132)).heap.size (w.alloc (.cells #[.int .i64 x.1,.int .i64 x.2] 132)) a:=by subst c;exact lF _ 1 [x] _ (Gx w x)
theorem AA(p:Pa)(a:Option Addr)(cap:Nat)(L:List (Int ×Int))(x:Int×Int)(w:World)(h1:cf p≠0):Calls prog 83 #[pv p,.slice a L.length cap,uv x] w (fG w (gU p L x)):=by
 have f:=aW ((px (by rw[np h1];exact h1)).trans (by rw[np (L:=L) (x:=x) h1]:(([],dp p L x):List (Int×Int)×Int)=([],cf p)));have c:(cf p !=0)=true:=by simpa using h1
 clear h1;unfold pv uv;go_enter func83,ntmps83;go_wp2_with fail;refine(cr p _).mono ?_;rintro e g ⟨rfl,b⟩;obtain⟨d,-,-,-⟩:=boxes b;generalize cf p=r at*;go_wp2;go_ret2;unfold fG;rw[f.out];exact⟨.slice none 0 0,rfl,d_ _ _ _ _,d⟩
theorem ze(p:Pa)(a:Option Addr)(cap:Nat)(L:List (Int ×Int))(x:Int×Int)(w:World)(k:ff w a L)(h1:cf p=0)(h2:(cP L).1≠0):Calls prog 83 #[pv p,.slice a L.length cap,uv x] w (fG w (gU p L x)):=by
 have l:=aW ((px (by rw[nu h1 h2];exact h2)).trans (by rw[nu (L:=L) (x:=x) h1 h2]:(([],dp p L x):List (Int ×Int)×Int)=([],(cP L).1)));have j:(cf p !=0)=false:=by simpa using h1
 have h:((cP L).1 !=0)=true:=by simpa using h2
 clear h1 h2;unfold pv uv;go_enter func83,ntmps83;go_wp2_with fail;refine(cr p _).mono ?_;rintro e m ⟨rfl,d⟩;obtain⟨g,i,-,-⟩:=boxes d;generalize cf p=r at*;have f:=k.below g;go_wp2_with fail;refine(lF a cap L _ f).mono ?_;rintro e w2 ⟨rfl,c⟩;generalize(cP L).1=r1 at*;generalize(cP L).2=r2 at*;have b:Below w.heap.size w w2:=g.trans (c.mono g.size);go_wp2;go_quiet(fail);go_wp2;go_ret2;unfold fG;rw[l.out];exact⟨.slice none 0 0,rfl,d_ _ _ _ _,br (b.alloc b.size _) _⟩
theorem IW{w b w2:World}{p:Pa}{x:Int×Int}{o:Obj}(d:Below w.heap.size w b)(g:w.heap.size+1<b.heap.size)(f:b.heap[w.heap.size]?=some (.cells #[.int .i64 p.t,.int .i64 p.c,.int .i64 p.s] 63))(e:b.heap[w.heap.size+1]?=some (.cells #[.int .i64 x.1,.int .i64 x.2] 132))(a:Below b.heap.size b w2):Below w.heap.size w (w2.alloc o)∧w.heap.size+1<w2.heap.size∧(w2.alloc o).heap[w.heap.size]?=some (.cells #[.int .i64 p.t,.int .i64 p.c,.int .i64 p.s] 63)∧(w2.alloc o).heap[w.heap.size+1]?=some (.cells #[.int .i64 x.1,.int .i64 x.2] 132):=by
 have s2:=a.size;refine⟨(d.trans (a.mono d.size)).alloc (by omega) o,by omega,?_,?_⟩;·rw[bC _ _ _ (by omega),a.block _ (by omega)];exact f
 ·rw[bC _ _ _ (by omega),a.block _ (by omega)];exact e
theorem Hd(p:Pa)(a:Option Addr)(cap:Nat)(L:List (Int ×Int))(x:Int×Int)(w:World)(v:ff w a L)(h1:cf p=0)(h2:(cP L).1=0)(l:mT x=false):Calls prog 83 #[pv p,.slice a L.length cap,uv x] w (fG w (gU p L x)):=by
 have k:=tW (L:=L) h1 h2 l;have y:=aW ((px (by rw[k];decide)).trans (by rw[k]:(([],dp p L x):List (Int ×Int)×Int)=([],3)));have u:(cf p !=0)=false:=by simpa using h1
 have n:((cP L).1 !=0)=false:=by simpa using h2
 have s:(cP [x]).1=3:=by rw[AN,l];rfl
 clear h1 h2 l k;unfold pv uv;go_enter func83,ntmps83;go_wp2_with fail;refine(cr p _).mono ?_;rintro e A ⟨rfl,f⟩;obtain⟨m,h,c,b⟩:=boxes f;generalize cf p=r at*;have j:=v.below m;go_wp2_with fail;refine(lF a cap L _ j).mono ?_;rintro e w2 ⟨rfl,d⟩;generalize(cP L).1=r1 at*;generalize(cP L).2=r2 at*;have B:=fun o=>IW (o:=o) m h c b d;have D:=fun o=>(gK (B o).2.2.2).1;have X1:=fun o=>(gK (B o).2.2.2).2;have t:=(B (.cells #[] 0)).2.1;have z:=fun o=>(B o).1;clear B f d m c b;go_wp2_with fail;refine(tJ x _ _ (by simp)).mono ?_;rintro e q ⟨rfl,i⟩;rw[s];generalize(cP [x]).2=C at*;have g:Below w.heap.size w q:=((z _).alloc (by simp;omega) _).trans (i.mono (by simp;omega));go_wp2;go_quiet(fail);go_wp2;go_ret2;unfold fG;rw[y.out];exact⟨.slice none 0 0,rfl,d_ _ _ _ _,br (g.alloc g.size _) _⟩
