import Derived.Test.YtigiogjefnkpdaaGreatDoorKas
import Derived.Test.YtigiogjefnkpdaaGreatDoorKat
set_option maxHeartbeats 4000000
set_option maxRecDepth 100000
open Go.Proofs.Tryz
namespace Go.Proofs.YtigiogjefnkpdaaGreatDoor.Dy
open RowKit Gn
theorem HD(P X Y Q L f:List Rc)(n:iV X)(l:iV Y)(h1:0<X.length)(h2:0<Y.length)(p:P++(X++(Y++Q))=L)(d:P++(cg (X++Y)++Q)=f)(g N cap:Nat)(a m b:Int)(k:a=P.length)(i:m=P.length+X.length)(j:b=P.length+X.length+Y.length)(w:World)(o:N=L.length)(c:N≤1152921504606846976)(q:iO w g L):Calls prog 151 #[.slice (some ⟨g,0,none⟩) N cap,.int .i64 a,.int .i64 m,.int .i64 b,.func (.func 129) #[] #[]] w fun e h=>e=.returned (.tuple #[])∧nO w g f h:=by subst p d;exact Jt _ P X Y Q (aj _) n l h1 h2 g N cap a m b k i j w o c q
structure KT(L D R:List Rc)(s u:Nat)(Ds:List (List Rc)):Prop where
 flat:Ds.flatten=D
 len:D.length=u
 full:Full s Ds
 same:iQ L (D ++R)
theorem KT.push{L D X a:List Rc}{s u:Nat}{Ds:List (List Rc)}(h:KT L D (X++a) s u Ds)(b:X.length=s):KT L (D++cg X) a s (u +s) (Ds++[cg X]):=by refine⟨by rw[jo,h.flat],by rw[a_,h.len,fj,b],h.full.snoc (by rw[fj,b]) (lL X),?_⟩;have :=h.same.trans (((iQ.refl D).app ((nF X).app (iQ.refl a))));simpa using this
theorem iQ.length_eq{A B:List Rc}(h:iQ A B):B.length=A.length:=by
 have e:cg B=cg A:=Da (lL B) fun a b=>by rw[lE];exact h a b
 rw[←fj B,e,fj]
theorem uH(a:Option Addr)(cap:Nat)(w:World):Calls prog 150 #[.slice a 0 cap,.int .i64 0,.int .i64 0,.func (.func 129) #[] #[]] w fun e b=>e=.returned (.tuple #[])∧b=w:=by
 go_enter func150,ntmps150;go_wp2;go_loopw[8](fun i wr=>i=.int .i64 1∧wr=w) (fun _ _=>0);case atStart=>exact⟨rfl,rfl⟩
 case round=>obtain⟨rfl,rfl⟩:=hrel;go_wp2;go_end0;exact⟨rfl,rfl⟩
theorem zH(a:Option Addr)(cap:Nat)(w:World):Calls prog 140 #[.slice a 0 cap,.int .i64 0,.func (.func 129) #[] #[]] w fun e b=>e=.returned (.tuple #[])∧b=w:=by
 go_enter func140,ntmps140;go_wp2;go_loopw[7,8](fun i j wr=>i=.int .i64 0∧j=.int .i64 20∧wr=w) (fun _ _ _=>0);case atStart=>exact⟨rfl,rfl,rfl⟩
 case round=>
  obtain⟨rfl,rfl,rfl⟩:=hrel;go_wp2_with(go_at_call 150;refine(uH _ _ _).mono ?_;rintro e b ⟨rfl,rfl⟩);rename_i c;go_loopw[6](fun i wr=>i=.int .i64 20∧wr=b) (fun _ _=>0);case atStart=>exact⟨rfl,rfl⟩
  case round=>obtain⟨rfl,rfl⟩:=hrel;go_wp2;go_end0;exact⟨rfl,rfl⟩
theorem Ce(L:List Rc)(g N cap:Nat)(w:World)(hN:N=L.length)(a7:N≤1000000000000000)(hB:iO w g L):Calls prog 140 #[.slice (some ⟨g,0,none⟩) N cap,.int .i64 N,.func (.func 129) #[] #[]] w fun e w'=>e=.returned (.tuple #[])∧nO w g (cg L) w':=by
 have Z:Hid (N=L.length):=hN;have z:N≤1152921504606846976:=by omega
 clear hN;go_enter func140,ntmps140;go_wp2;go_loopw[7,8] (fun i j wr=>∃(u:Nat) (D R:List Rc) (Ds:List (List Rc)),i=.int .i64 u∧j=.int .i64 ((u :Int)+20)∧u≤N∧Hid (KT L D R 20 u Ds)∧Below g w wr∧Hid (iO wr g (D++R))) (fun i _ _=>N-(intOf i).toNat);case atStart=>exact⟨0,[],L,[],rfl,rfl,bq _,⟨rfl,rfl,Ao _,iQ.refl _⟩,Below.refl _ _,hB⟩
 case round=>
  clear hB;obtain⟨u,D,R,Ds,rfl,rfl,hu,b,f,d⟩:=hrel;have c:Hid (N=(D ++R).length):=by rw[Z.out];exact aW b.out.same.length_eq.symm
  have a:Hid (D.length=u∧u+R.length=N):=by have h1:=c.out;have h2:=b.out.len;rw[a_]at h1;exact aW ⟨h2,by omega⟩
  by_cases C:u+20≤N
  ·have p:(u:Int)+20≤N:=by omega
   obtain⟨X,T,hR,A⟩:=cut R (n:=20) (by have :=a.out;omega);have m:=aW A;have E:=aW hR;clear A hR;have o:Hid (KT L (D ++cg X) T 20 (u +20) (Ds++[cg X])):=by have :=b.out;rw[E.out]at this;exact this.push m.out
   have y:Hid (iO wr g (D ++(X++T))):=by rw[←E.out];exact d
   have v:Hid (N =(D ++(X ++T)).length):=by rw[←E.out];exact c
   go_wp2_with(go_at_call 150;refine(rA D X T g N cap _ _ (by have :=a.out;omega) (by have:= a.out;have:= m.out;omega) _ v.out z y.out).mono ?_;rintro e H ⟨rfl,h⟩);go_roundw;case rel=>refine⟨u+20,D++cg X,T,Ds++[cg X],by go_num,by go_num,C,o,f.trans h.bel,?_⟩;have :=h.F';exact aW (by simpa using this)
   case measure=>simp[intOf];omega
  ·have p:¬((u :Int)+20≤N):=by omega
   have y:Hid (iO wr g (D++(R ++[]))):=by rw[iG];exact d
   have v:Hid (N =(D ++(R++[])).length):=by rw[iG];exact c
   have k:Hid (mK 20 (Ds++[cg R])):=aW (b.out.full.J4 (by rw[fj];have :=a.out;omega) (lL R));have l:Hid (iQ L (Ds++[cg R]).flatten):=by rw[jo,b.out.flat];exact aW (b.out.same.trans ((iQ.refl D).app (nF R)))
   have P:Hid (D ++(cg R++[])=(Ds++[cg R]).flatten):=by rw[jo,b.out.flat,iG];exact aW rfl
   go_wp2_with(go_at_call 150;refine(rA D R [] g N cap _ _ (by have:= a.out;omega) (by have:= a.out;omega) _ v.out z y.out).mono ?_;rintro e H ⟨rfl,h⟩);have x:Hid (iO H g (Ds++[cg R]).flatten):=by have :=h.F';rw[P.out]at this;exact this
   have Q:Below g w H:=f.trans h.bel;generalize Ds++[cg R]=B0 at*;clear h P b d f c y v a;go_loopw[6] (fun i wr=>∃(s:Nat) (B:List (List Rc)),i=.int .i64 s∧20≤s∧s≤2*N+20∧Hid (mK s B)∧Hid (iQ L B.flatten)∧Below g w wr∧Hid (iO wr g B.flatten)) (fun i _=>N-(intOf i).toNat);case atStart=>exact⟨20,B0,rfl,aj _,by omega,k,l,Q,x⟩
   case round=>
    clear k l Q x;obtain⟨s,B,rfl,h,a5,k,l,f,d⟩:=hrel;have c:Hid (N =B.flatten.length):=by rw[Z.out];exact aW l.out.length_eq.symm
    by_cases a4:s<N
    ·have K:(s :Int)<N:=by omega
     have a3:IntKind.i64.wrap (2*(s :Int))=2*(s:Int):=wrap64 (by omega) (by omega);have a2:IntKind.i64.wrap ((s :Int)*2)=(s :Int)*2:=wrap64 (by omega) (by omega);go_wp2_with fail;generalize wr=W0 at*;go_loopw[7,8] (fun i j wr=>∃(u:Nat) (D:List Rc) (Ds B:List (List Rc)),i=.int .i64 u∧j=.int .i64 ((u:Int)+2*s)∧u≤N∧Hid (KT L D B.flatten (2 *s) u Ds)∧Hid (mK s B)∧Below g w wr∧Hid (iO wr g (D++B.flatten))) (fun i _ _=>N-(intOf i).toNat);case atStart=>exact⟨0,[],[],B,rfl,by go_num,bq _,⟨rfl,rfl,Ao _,l.out⟩,k,f,d⟩
     case round=>
      clear l k f d c B;obtain⟨u,D,Ds,B,rfl,rfl,hu,b,k,f,d⟩:=hrel;have c:Hid (N =(D ++B.flatten).length):=by rw[Z.out];exact aW b.out.same.length_eq.symm
      have a:Hid (D.length=u∧u+B.flatten.length=N):=by have h1:=c.out;have h2:=b.out.len;rw[a_]at h1;exact aW ⟨h2,by omega⟩
      by_cases C:u+2*s≤N
      ·have p:(u :Int)+2*s≤N:=by omega
       obtain⟨X,Y,r,M,A,F,J,I,S⟩:=k.out.two (by omega) (by have :=a.out;omega);have m:=aW A;have W:=aW F;have G:=aW M;have V:=aW J;have U:=aW I;have a1:=aW S;clear A F M J I S;have o:Hid (KT L (D++cg (X++Y)) r.flatten (2 *s) (u+2*s) (Ds++[cg (X++Y)])):=by have :=b.out;rw[G.out,lT,lT,←fi]at this;exact this.push (by have:= m.out;have:= W.out;simp;omega)
       have c1:Hid (D++(X ++(Y++r.flatten))=D++B.flatten):=by rw[G.out,lT,lT];exact aW rfl
       go_wp2_with(go_at_call 151;refine(HD D X Y r.flatten _ _ V.out U.out (by have:= m.out;omega) (by have :=W.out;omega) c1.out rfl g N cap _ _ _ (by have :=a.out;omega) (by have :=a.out;have:= m.out;omega) (by have:= a.out;have :=m.out;have:= W.out;omega) _ c.out z d.out).mono ?_;rintro e H ⟨rfl,h⟩);go_roundw;case rel=>refine⟨u+2*s,D++cg (X++Y),Ds++[cg (X ++Y)],r,by go_num,by go_num,C,o,a1,f.trans h.bel,?_⟩;have:= h.F';exact aW (by simpa using this)
       case measure=>simp[intOf];omega
      ·have p:¬((u :Int)+2*s≤N):=by omega
       by_cases a6:u+s<N
       ·have O:(u :Int)+s<N:=by omega
        obtain⟨X,Y,M,A,J,I⟩:=k.out.last (by omega) (by have :=a.out;omega) (by have:= a.out;omega);have G:=aW M;have m:=aW A;have V:=aW J;have U:=aW I;clear A M J I;have F:Hid (X.length+Y.length=B.flatten.length):=by rw[G.out];exact aW (by simp)
        have c1:Hid (D ++(X ++(Y ++[]))=D++B.flatten):=by rw[G.out,iG];exact aW rfl
        have c2:Hid (D ++(cg (X ++Y)++[])=(Ds ++[cg (X ++Y)]).flatten):=by rw[jo,b.out.flat,iG];exact aW rfl
        have t:Hid (mK (2*s) (Ds ++[cg (X ++Y)])):=aW (b.out.full.J4 (by rw[fj];have :=a.out;have :=F.out;simp;omega) (lL _));have q:Hid (iQ L (Ds ++[cg (X ++Y)]).flatten):=by have:= b.out.same;rw[jo,b.out.flat];rw[G.out]at this;exact aW (this.trans ((iQ.refl D).app (nF _)))
        go_wp2_with(go_at_call 151;refine(HD D X Y [] _ _ V.out U.out (by have :=m.out;omega) (by have :=m.out;have:= F.out;have:= a.out;omega) c1.out c2.out g N cap _ _ _ (by have:= a.out;omega) (by have:= a.out;have:= m.out;omega) (by have :=a.out;have:= m.out;have:= F.out;omega) _ c.out z d.out).mono ?_;rintro e H ⟨rfl,h⟩);go_roundw;case rel=>exact⟨2*s,Ds++[cg (X++Y)],by go_num,by omega,by omega,t,q,f.trans h.bel,h.F'⟩
        case measure=>simp[intOf];omega
       ·have O:¬((u:Int)+s<N):=by omega
        have c2:Hid (D ++B.flatten=(Ds ++[B.flatten]).flatten):=by rw[jo,b.out.flat];exact aW rfl
        have t:Hid (mK (2 *s) (Ds ++[B.flatten])):=aW (b.out.full.J4 (by have :=a.out;omega) (k.out.small (by omega) (by have :=a.out;omega)));have q:Hid (iQ L (Ds ++[B.flatten]).flatten):=by rw[←c2.out];exact aW b.out.same
        have x:Hid (iO wr g (Ds ++[B.flatten]).flatten):=by rw[←c2.out];exact d
        go_wp2_with fail;go_roundw;case rel=>exact⟨2*s,Ds++[B.flatten],by go_num,by omega,by omega,t,q,f,x⟩
        case measure=>simp[intOf];omega
    ·have K:¬((s :Int)<N):=by omega
     have hE:Hid (iO wr g (cg L)):=by rw[←l.out.sorted (k.out.small (by omega) (by have:= c.out;omega))];exact d
     go_wp2_with fail;go_end0;exact⟨rfl,f,hE.out⟩
theorem tN(a:Option Addr)(cap:Nat)(w:World):Calls prog 128 #[.slice a 0 cap,.func (.func 129) #[] #[]] w fun e b=>e=.returned (.tuple #[])∧b=w:=by go_enter func128,ntmps128;go_wp2_with(go_at_call 140;refine(zH _ _ _).mono ?_;rintro e b ⟨rfl,rfl⟩);go_end0;exact⟨rfl,rfl⟩
theorem vf(L:List Rc)(g N cap:Nat)(w:World)(c:N=L.length)(a:N≤1000000000000000)(f:iO w g L):Calls prog 128 #[.slice (some ⟨g,0,none⟩) N cap,.func (.func 129) #[] #[]] w fun e b=>e=.returned (.tuple #[])∧nO w g (cg L) b:=by have h:=aW c;clear c;go_enter func128,ntmps128;go_wp2_with(go_at_call 140;refine(Ce L g N cap _ h.out a f).mono ?_;rintro e b ⟨rfl,d⟩);go_end0;exact⟨rfl,d⟩
def H'(w:World)(L:List Rc)(e:Ending)(b:World):Prop:=∃a cap,e=.returned (.slice a L.length cap)∧bF kR b a cap L∧iw w.heap.size a∧(∀ ad,a=some ad→ad.block<b.heap.size)∧Below w.heap.size w b
theorem Bh(L:List Rc)(v:Value)(w:World)(h:At kR w v L)(z:L.length*32≤140737488355328):Calls prog 104 #[v] w (H' w (cg L)):=by
 have x:=h.len;obtain⟨a,c,rfl,y⟩:=h;go_enter func104,ntmps104;go_wp2_with(at_builtin;refine bH mJ _ rfl _ _ rfl w.heap.size _ [] rfl .nil a L.length c L rfl rfl y ?c3 ?c4 ?c5 ?_);case c3=>simpa using x
 case c4=>simpa using z
 case c5=>exact aj _
 intro v' q d b l f;have k:Below w.heap.size w q:=cI (L:=[]) (Below.refl _ _) b (.nil:Row kR 103 w w.heap.size (.slice none 0 0) []) (aj _) (aj _);by_cases h0:L=[];·subst h0;obtain⟨u,c3,rfl,j,n,i⟩:=d.bQ;clear f d b l;have o:Hid (bF kR q u c3 (cg [])):=aW j;clear j;dsimp only[List.length_nil];go_wp2_with(go_at_call 128;refine(tN _ _ _).mono ?_;rintro e C ⟨rfl,rfl⟩);go_ret;exact⟨u,c3,rfl,o.out,n,i,k⟩
 ·obtain⟨g,cap,rfl,s,r,t⟩:=yL (f h0) h0;have A:=aW t;have p:L.length≤1000000000000000:=by omega
  clear f d b l t;go_wp2_with(go_at_call 128;refine(vf L g L.length cap _ rfl p A.out).mono ?_;rintro e B ⟨rfl,m⟩);go_ret;exact⟨some ⟨g,0,none⟩,cap,by rw[fj];rfl,m.F'.bQ cap,(fun _ h=>by cases h;exact r),(fun _ h=>by cases h;exact m.F'.lt),k.trans (m.bel.mono r)⟩
theorem rF{n:Int}(h:0≤n)(h2:n<256):kb n 1=[n]:=by simp[kb,Jr];omega
theorem Hi{r:Rc}(h:¬noKind r∧¬jq r):kb r.sh 1++(kb r.au 1++(kb r.k 1++kb r.m 3))=enc r:=by have h1:=h.1;have h2:=h.2;unfold noKind at h1;unfold jq at h2;rw[rF (by omega) (by omega),rF (by omega) (by omega),rF (by omega) (by omega)];unfold enc;simp[kb,Jr];omega
theorem Gh{n:Int}(h:0≤n)(h2:n≤100000000):kb n 4=tP n:=by unfold tP;simp[kb,Jr];omega
theorem xz(B:List Int)(n:Int)(aq:Nat)(v:Value)(w:World)(h:Row kB 5 w aq v B)(b:B.length≤1000000)(a:aq≤w.heap.size):Calls prog 103 #[v,.int .i64 n,.int .i64 1] w (fB w aq v (B ++kb n 1)):=sF B n 1 aq v w h (by omega) b a
theorem KJ(B:List Int)(n:Int)(aq:Nat)(v:Value)(w:World)(h:Row kB 5 w aq v B)(b:B.length≤1000000)(a:aq≤w.heap.size):Calls prog 103 #[v,.int .i64 n,.int .i64 3] w (fB w aq v (B ++kb n 3)):=sF B n 3 aq v w h (by omega) b a
theorem Lp(B:List Int)(n:Int)(aq:Nat)(v:Value)(w:World)(h:Row kB 5 w aq v B)(b:B.length≤1000000)(a:aq≤w.heap.size):Calls prog 103 #[v,.int .i64 n,.int .i64 4] w (fB w aq v (B ++kb n 4)):=sF B n 4 aq v w h (by omega) b a
structure Bv(w W:World)(a:Option Addr)(cap:Nat)(S:List Rc)(u:Value)(C:List Int):Prop where
 bel:Below w.heap.size w W
 res:W.heap[w.heap.size]?=some (.cells #[.int .i64 0,.int .i64 0] 47)bQ:bF kR W a cap S
 lt:∀ad,a=some ad→ad.block<W.heap.size
 row:Row kB 5 W (w.heap.size+1) u C
 ne:∀ad,a=some ad→u.ownBlock≠some ad.block
theorem Bv.I6{w W:World}{a:Option Addr}{cap:Nat}{S:List Rc}{u:Value}{C:List Int}(h:Bv w W a cap S u C):w.heap.size+1≤W.heap.size:=ae h.res
theorem Bv.on{w W c:World}{a:Option Addr}{cap:Nat}{S:List Rc}{u:Value}{C:List Int}(h:Bv w W a cap S u C)(b:Below W.heap.size W c):Bv w c a cap S u C:=⟨h.bel.trans (b.mono h.bel.size),(b.block _ (by have :=h.I6;omega)).trans h.res,h.bQ.below b,fun ad d=>bp (h.lt ad d) b.size,h.row.below b,h.ne⟩
theorem Bv.grow{w W e:World}{a:Option Addr}{cap:Nat}{S:List Rc}{u c:Value}{C g:List Int}(h:Bv w W a cap S u C)(i:Row kB 5 e (w.heap.size +1) c g)(b:W.grownBy e u.ownBlock)(j:∀k,c.ownBlock=some k→u.ownBlock=some k∨W.heap.size≤k):Bv w e a cap S c g:=by
 have f:=h.I6;refine⟨cI h.bel b h.row (by omega) (by omega),?_,h.bQ.grown b h.ne,fun ad qh=>bp (h.lt ad qh) b.size,i,fun ad qh d=>?_⟩;·refine(b.block _ (by omega) fun d=>?_).trans h.res;have:= (h.row.dV _ d.symm).1;omega
 ·rcases j _ d with h1|h1;·exact h.ne ad qh h1
  ·have :=h.lt ad qh;omega
structure Lh(w W:World)(a:Option Addr)(cap:Nat)(S:List Rc)(u:Value)(C:List Int)(Z:Nat)(r:Rc):Prop extends Bv w W a cap S u C where
 box:W.heap[Z]?=some (vx r)Mw:u.ownBlock≠some Z
theorem Lh.grow{w W d:World}{a:Option Addr}{cap:Nat}{S:List Rc}{u b:Value}{C g:List Int}{Z:Nat}{r:Rc}(h:Lh w W a cap S u C Z r)(j:Row kB 5 d (w.heap.size +1) b g)(e:W.grownBy d u.ownBlock)(f:∀k,b.ownBlock=some k→u.ownBlock=some k∨W.heap.size≤k):Lh w d a cap S b g Z r:=by
 have i:=ae h.box;refine⟨h.toBv.grow j e f,(e.block _ i fun c=>h.Mw c.symm).trans h.box,fun c=>?_⟩;rcases f _ c with h1|h1;·exact h.Mw h1
 ·omega
theorem Bv.take{w W:World}{a:Option Addr}{cap:Nat}{S:List Rc}{u:Value}{C:List Int}(h:Bv w W a cap S u C)(r:Rc):Lh w (W.alloc (vx r)) a cap S u C W.heap.size r:=⟨h.on (ar _ _),ah _ _ _ rfl,fun b=>by have:= (h.row.dV _ b).2;omega⟩
theorem mr{W:World}{b:Nat}{t:Rc}(a:W.heap[b]?=some (vx t)):W.cell? ⟨b,0,none⟩=some (.int .i64 t.sh)∧W.cell? ⟨b,1,none⟩=some (.int .i64 t.au)∧W.cell? ⟨b,2,none⟩=some (.int .i64 t.k)∧W.cell? ⟨b,3,none⟩=some (.int .i64 t.m):=by unfold vx at a;refine⟨?_,?_,?_,?_⟩<;>simp[World.cell?,a]
def rk(w:World)(r:List Int×(Int×Int))(e:Ending)(a:World):Prop:=∃v',e=.returned (.tuple #[v',fv r.2])∧Row kB 5 a w.heap.size v' r.1∧Below w.heap.size w a
theorem EU(L:List Rc)(v:Value)(w:World)(h:At kR w v L):Calls prog 77 #[v] w (rk w (pw L)):=by
 have R:Below w.heap.size w (w.alloc (.cells #[.int .i64 0,.int .i64 0] 47)):=ar _ _;have Q:(w.alloc (.cells #[.int .i64 0,.int .i64 0] 47)).heap[w.heap.size]?=some (.cells #[.int .i64 0,.int .i64 0] 47):=ah _ _ _ rfl;have j:w.heap.size<(w.alloc (.cells #[.int .i64 0,.int .i64 0] 47)).heap.size:=by simp
 have hh:=h;obtain⟨a0,c0,rfl,hl⟩:=h;by_cases K:(eL L).1=0
 case neg=>
  have hE:=aW (xn K);have bi:((eL L).1 !=0)=true:=by simpa using K
  have O:∀X:World,Below w.heap.size w X→Calls prog 102 #[.slice a0 L.length c0] X fun e Y=>e=.returned (.agg #[.int .i64 (eL L).1,.int .i64 (eL L).2])∧Below X.heap.size X Y:=fun X hX=>dO L _ X (hh.below hX);have bf:Hid (pw L=([],((eL L).1,(eL L).2))):=by rw[hE.out];exact aW rfl
  clear K hE;generalize(eL L).1=J at*;generalize(eL L).2=I at*;go_enter func77,ntmps77;go_upto_region 1 with fail;generalize w.alloc _=W0 at*;go_upto_region 3 with(go_at_call 102;refine(O _ R).mono ?_;rintro e c ⟨rfl,a⟩);have F:=(a.block _ j).trans Q;have t:w.heap.size<c.heap.size:=bp j a.size;have A:Below w.heap.size w (c.alloc (.cells #[.int .i64 J,.int .i64 I] 47)):=aM (R.trans (a.mono R.size)) _;have p:(c.alloc (.cells #[.int .i64 J,.int .i64 I] 47)).heap[w.heap.size]?=some (.cells #[.int .i64 0,.int .i64 0] 47):=(jB _ _ t).trans F;have C0:(c.alloc (.cells #[.int .i64 J,.int .i64 I] 47)).cell? ⟨c.heap.size,0,none⟩=some (.int .i64 J):=by simp
  have C1:(c.alloc (.cells #[.int .i64 J,.int .i64 I] 47)).cell? ⟨c.heap.size,1,none⟩=some (.int .i64 I):=by simp
  obtain⟨r0,r1,f0,f1⟩:=jO p;have bv:w.heap.size≠c.heap.size:=by omega
  have bg:c.heap.size≠w.heap.size:=by omega
  generalize c.alloc _=W at*;generalize c.heap.size=Z at*;go_region;all_goals go_wp2_with fail;refine aA (v:=.tuple #[.slice none 0 0,.agg #[.int .i64 J,.int .i64 I]]) (by simp[results,results77,go_sem,r0,r1];try rfl) rfl ?_;rw[bf.out];refine⟨_,rfl,.nil,?_⟩;repeat(first|exact A|refine Below.drew ?_|refine aR ?_ (by simp) _)
 case pos=>
  have hR:=gP.1 K;have hE:=aW (rz K);have a2:=um K;have O:∀X:World,Below w.heap.size w X→Calls prog 102 #[.slice a0 L.length c0] X fun e Y=>e=.returned (.agg #[.int .i64 0,.int .i64 0])∧Below X.heap.size X Y:=fun X hX=>by have:= dO L _ X (hh.below hX);rw[a2]at this;exact this
  have ak:=hR.iv;have l:Hid (kb (L.length :Int) 1=[(L.length :Int)]):=aW (rF (by omega) (by omega));have HR:=aW hR;have N:L.length*32≤140737488355328:=by omega
  clear K a2 hR;go_enter func77,ntmps77;go_upto_region 1 with fail;generalize w.alloc _=W0 at*;go_upto_region 4 with(go_at_call 102;refine(O _ R).mono ?_;rintro e c ⟨rfl,a⟩);have F:=(a.block _ j).trans Q;have t:w.heap.size<c.heap.size:=bp j a.size;have A:Below w.heap.size w (c.alloc (.cells #[.int .i64 0,.int .i64 0] 47)):=aM (R.trans (a.mono R.size)) _;have p:(c.alloc (.cells #[.int .i64 0,.int .i64 0] 47)).heap[w.heap.size]?=some (.cells #[.int .i64 0,.int .i64 0] 47):=(jB _ _ t).trans F;generalize c.alloc _=W at*;have s:=ae p;have a1:w.heap.size+1≤W.heap.size:=s;clear a F t Q j R;go_upto_region 5 with(go_at_call 103;refine(xz [] _ (w.heap.size +1) _ _ .nil (by simp) a1).mono ?_;rintro e w3 ⟨v3,rfl,y,af,bc⟩);have D:Below W.heap.size W w3:=cI (L:=[]) (Below.refl _ _) af (.nil:Row kB 5 W W.heap.size (.slice none 0 0) []) (aj _) (aj _);have o:Below w.heap.size w w3:=A.trans (D.mono (Nat.le_of_lt s));have P:=(D.block _ s).trans p;rw[dC,l.out]at y;go_wp2_with(go_at_call 104;refine(Bh L _ _ (hh.below o) N).mono ?_;rintro e w4 ⟨a4,c4,rfl,a7,a5,H,B⟩);have q:Bv w w4 a4 c4 (cg L) v3 [(L.length :Int)]:=⟨o.trans (B.mono (by have :=D.size;omega)),(B.block _ (ae P)).trans P,a7,H,y.below B,fun ad qh hk=>by have h1:=a5 ad qh;have h2:=(y.dV _ hk).2;omega⟩;clear a7 a5 H B y af bc D o P p A s a1 l;have b3:(cg L).length≤100:=by rw[fj];exact ak
  have ay:=aW HR.out.sort;obtain⟨S,hS⟩:∃S,Hid (cg L=S):=⟨_,rfl⟩;rw[hS.out]at q b3 ay⊢;go_loopw[20,5] (fun i u wr=>∃k:Nat,k≤S.length∧i=.int .i64 k∧Bv w wr a4 c4 S u ((L.length:Int)::(S.take k).flatMap enc)) (fun i _ _=>S.length-(intOf i).toNat);case atStart=>exact⟨0,bq _,rfl,by simpa using q⟩
  case round=>
   clear q;obtain⟨k,hk,rfl,q⟩:=hrel;have f:Hid (((L.length:Int)::(S.take k).flatMap enc).length=1+6*k):=by rw[di,ej,List.length_take];exact aW (by omega)
   by_cases M:k<S.length
   ·have bh:(k:Int)<S.length:=by omega
    obtain⟨b,off,rfl,an,J,I,e3,e4⟩:=jC q.bQ M;have n:=ay.out.each _ (gM M);have a6:Hid (((L.length:Int)::(S.take (k+1)).flatMap enc)=((L.length :Int)::(S.take k).flatMap enc)++enc (S.getD k zR)):=by rw[gh M];exact aW (by simp)
    generalize(L.length :Int)::(S.take k).flatMap enc=C at*;generalize S.getD k zR=r at*;have am:=aW (Hi n);have V:=q.take r;unfold vx at V;go_upto_region 8 with fail;generalize wr.alloc _=W1 at*;generalize wr.heap.size=Z at*;clear J I e3 e4 q n;obtain⟨U,g1,g2,T⟩:=mr V.box;have g:=V.I6;go_upto_region 9 with(go_at_call 103;refine(xz C _ (w.heap.size +1) _ _ V.row (by have:= f.out;omega) g).mono ?_;rintro e w5 ⟨v5,rfl,a3,aa,aw⟩);have X1:=V.grow a3 aa aw;clear V a3 aa aw U g1 g2 T g;obtain⟨U,g1,g2,T⟩:=mr X1.box;have g:=X1.I6;go_upto_region 10 with(go_at_call 103;refine(xz _ _ (w.heap.size +1) _ _ X1.row (by have :=f.out;rw[a_,iZ];omega) g).mono ?_;rintro e w6 ⟨v6,rfl,x,z,E⟩);have X2:=X1.grow x z E;clear X1 x z E U g1 g2 T g;obtain⟨U,g1,g2,T⟩:=mr X2.box;have g:=X2.I6;go_upto_region 11 with(go_at_call 103;refine(xz _ _ (w.heap.size +1) _ _ X2.row (by have :=f.out;rw[a_,a_,iZ,iZ];omega) g).mono ?_;rintro e w7 ⟨v7,rfl,d,a9,ao⟩);have X3:=X2.grow d a9 ao;clear X2 d a9 ao U g1 g2 T g;obtain⟨U,g1,g2,T⟩:=mr X3.box;have g:=X3.I6;go_wp2_with(go_at_call 103;refine(KJ _ _ (w.heap.size +1) _ _ X3.row (by have :=f.out;rw[a_,a_,a_,iZ,iZ,iZ];omega) g).mono ?_;rintro e w8 ⟨v8,rfl,b4,b6,bb⟩);have X4:=X3.grow b4 b6 bb;have be:Hid (C ++kb r.sh 1++kb r.au 1++kb r.k 1++kb r.m 3=(L.length :Int)::(S.take (k+1)).flatMap enc):=by rw[a6.out,←am.out];exact aW (by simp)
    go_roundw;case rel=>exact⟨k+1,by omega,by go_num,by rw[←be.out];exact X4.toBv⟩
    case measure=>simp[intOf];omega
   ·have b5:k=S.length:=by omega
    subst b5;rw[fc]at q f;have G:=pg HR.out;have ag:Hid (((L.length:Int)::S.flatMap enc)++kb (total L) 4=qv L):=by rw[Gh G.1 G.2,←hS.out];exact aW rfl
    have bd:∀X:World,Below w.heap.size w X→Calls prog 105 #[.slice a0 L.length c0] X fun e Y=>e=.returned (.int .i64 (total L))∧Below X.heap.size X Y:=fun X hX=>FY L _ X (hh.below hX) HR.out;generalize total L=tt at*;generalize(L.length:Int)::S.flatMap enc=C at*;have an:=q.bel;go_wp2_with(first
     |(go_at_call 105;refine(bd _ an).mono ?_;rintro e w5 ⟨rfl,ba⟩;have B1:=q.on ba;have g:=B1.I6)
     |(go_at_call 103;refine(Lp _ _ (w.heap.size+1) _ _ B1.row (by have:= f.out;omega) g).mono ?_;rintro e w6 ⟨v6,rfl,x,z,E⟩;have B2:=B1.grow x z E;obtain⟨r0,r1,f0,f1⟩:=jO B2.res));refine aA (v:=.tuple #[v6,.agg #[.int .i64 0,.int .i64 0]]) (by simp[results,results77,go_sem,r0,r1];try rfl) rfl ?_;rw[hE.out];refine⟨v6,rfl,?_,(B2.bel.setCell (aj _) _).setCell (aj _) _⟩;have d:=B2.row;rw[ag.out]at d;refine(d.cB (by simp) fun k hk _=>?_).mono (by omega);have :=(d.dV k hk).1;rw[aF _ ⟨w.heap.size,1,none⟩ _ _ (by simp;omega),aF _ ⟨w.heap.size,0,none⟩ _ _ (by simp;omega)]
