import Derived.Test.YtigiogjefnkpdaaGreatDoorKa
set_option maxHeartbeats 4000000
set_option maxRecDepth 100000
open Go.Proofs.Tryz
namespace Go.Proofs.YtigiogjefnkpdaaGreatDoor.Bk
def kM(s:Int):Bool:=decide (-1000000000000≤s)&&decide (s ≤1000000000000)
def oj(e:Int×Int):Bool:=decide (0 ≤e.1)&&decide (e.1<58)&&kM e.2
theorem jN{s:Int}:kM s=true↔-1000000000000≤s∧s≤1000000000000:=by simp[kM]
theorem dI{e:Int×Int}:oj e=true↔0≤e.1∧e.1<58∧-1000000000000≤e.2∧e.2≤1000000000000:=by simp[oj,jN,and_assoc]
def et(L:List (Int ×Int))(acc:Int):Int:=match L with
 |[]=>0
 |e::r=>if e.1=acc then e.2 else et r acc
theorem Ej{L:List (Int×Int)}{acc:Int}(h:∀j,j<L.length→(L.getD j (0,0)).1≠acc):et L acc=0:=by
 induction L with
 |nil=>rfl
 |cons e r a=>have h0:=h 0 (by simp);simp at h0;simp only[et,ai h0];exact a fun j b=>by have:= h (j +1) (by simpa using b);simpa using this
theorem eQ{L:List (Int×Int)}{k:Nat}(a:k<L.length):L.drop k=L.getD k (0,0)::L.drop (k +1):=by rw[gj a];simp[List.getD,a]
def cZ(a:Option Int)(i:Nat)(fP:Int):List (Int ×Int)→Int×Int
 |[]=>if fP=0 then(0,0)else(8,0)|e::r=>if oj e=false then(3,i)else if e.2=0 then(2,i)else
   match a with
   |none=>cZ (some e.1) (i+1) (fP +e.2) r
   |some p=>if e.1≤p then(2,i)else cZ (some e.1) (i +1) (fP+e.2) r
def dS(L:List (Int ×Int)):Int×Int:=cZ none 0 0 L
def iD(L:List (Int ×Int))(k:Nat):Option Int:=if k=0 then none else some (L.getD (k -1) (0,0)).1
structure Good(L:List (Int ×Int))(k:Nat)(t:Int):Prop where
 left:dS L=cZ (iD L k) k t (L.drop k)iv:k≤58
 last:0<k→(k :Int)≤(L.getD (k -1) (0,0)).1+1∧(L.getD (k-1) (0,0)).1<58
 lo:-1000000000000*(k:Int)≤t
 hi:t≤1000000000000*(k:Int)
theorem iq(L:List (Int ×Int)):Good L 0 0:=⟨rfl,by omega,by omega,by omega,by omega⟩
theorem Good.range{L:List (Int ×Int)}{k:Nat}{t:Int}(g:Good L k t)(a:k<L.length)(h:oj (L.getD k (0,0))=false):dS L=(3,(k :Int)):=by rw[g.left,eQ a];simp only[cZ,h,aB]
theorem Good.zero{L:List (Int×Int)}{k:Nat}{t:Int}(g:Good L k t)(a:k<L.length)(h:oj (L.getD k (0,0))=true)(h2:(L.getD k (0,0)).2=0):dS L=(2,(k:Int)):=by rw[g.left,eQ a];simp only[cZ,h,h2,aB];simp
theorem Good.order{L:List (Int ×Int)}{k:Nat}{t:Int}(g:Good L k t)(b:k<L.length)(h:oj (L.getD k (0,0))=true)(h2:(L.getD k (0,0)).2≠0)(h0:0<k)(c:(L.getD k (0,0)).1≤(L.getD (k -1) (0,0)).1):dS L=(2,(k:Int)):=by
 have a:iD L k=some (L.getD (k -1) (0,0)).1:=by unfold iD;rw[ai (by omega)]
 rw[g.left,eQ b,a];simp only[cZ,h,ai h2,aB c];simp
theorem Good.next{L:List (Int ×Int)}{k:Nat}{t:Int}(g:Good L k t)(d:k<L.length)(h:oj (L.getD k (0,0))=true)(h2:(L.getD k (0,0)).2≠0)(b:0<k→(L.getD (k -1) (0,0)).1<(L.getD k (0,0)).1):Good L (k +1) (t+(L.getD k (0,0)).2):=by
 obtain⟨r1,r2,f,e⟩:=dI.1 h;have c:=g.last;refine⟨?_,?_,fun _=>?_,?_,?_⟩
 ·have a:iD L (k+1)=some (L.getD k (0,0)).1:=by unfold iD;rw[ai (by omega)];rfl
  rw[g.left,eQ d,a];by_cases h0:k=0
  ·have a:iD L k=none:=by unfold iD;rw[aB h0]
   rw[a];simp only[cZ,h,ai h2];simp
  ·have a:iD L k=some (L.getD (k-1) (0,0)).1:=by unfold iD;rw[ai h0]
   have :=b (by omega);rw[a];simp only[cZ,h,ai h2,ai (show¬(L.getD k (0,0)).1≤(L.getD (k -1) (0,0)).1 by omega)];simp
 ·by_cases h0:k=0;·omega
  ·have :=b (by omega);have:= c (by omega);omega
 ·by_cases h0:k=0;·subst h0;show((0+1:Nat):Int)≤(L.getD 0 (0,0)).1+1∧(L.getD 0 (0,0)).1<58;omega
  ·have :=b (by omega);have :=c (by omega);show((k +1:Nat):Int)≤(L.getD k (0,0)).1+1∧(L.getD k (0,0)).1<58;omega
 ·have:= g.lo;omega
 ·have :=g.hi;omega
theorem Good.fit{L:List (Int ×Int)}{t:Int}{k:Nat}(g:Good L k t)(a:L.length≤k)(h:t≠0):dS L=(8,0):=by rw[g.left,cM a];simp[cZ,h]
theorem Good.done{L:List (Int ×Int)}{t:Int}{k:Nat}(g:Good L k t)(a:L.length≤k)(h:t=0):dS L=(0,0):=by rw[g.left,cM a];simp[cZ,h]
def eu(f:Nat→Int)(i:Nat)(v:Int):Nat→Int:=fun j=>if j=i then v else f j
def jt(f:Nat→Int)(n:Nat):List (Int×Int):=((List.range n).filter fun k=>f k !=0).map fun(k:Nat)=>((k :Int),f k)
theorem nR(f:Nat→Int)(k:Nat)(h:f k≠0):jt f (k +1)=jt f k++[((k:Int),f k)]:=by simp[jt,List.range_succ,List.filter_append,h]
theorem mM(f:Nat→Int)(k:Nat)(h:f k=0):jt f (k+1)=jt f k:=by simp[jt,List.range_succ,List.filter_append,h]
theorem zJ(f:Nat→Int)(k:Nat):(jt f k).length≤k:=by have:= List.length_filter_le (fun k=>f k !=0) (List.range k);simpa[jt]using this
def kL(t:Int):List (Int ×Int)→Int
 |[]=>if t=0 then 0 else 8
 |e::r=>if oj e=false then 3 else kL (t +e.2) r
def fL(E:List (Int ×Int)):Int:=if 10<E.length then 5 else kL 0 E
structure oW(E:List (Int×Int))(k:Nat)(t:Int):Prop where
 left:kL 0 E=kL t (E.drop k)lo:-1000000000000*(k:Int)≤t
 hi:t≤1000000000000*(k:Int)
theorem tY(E:List (Int ×Int)):oW E 0 0:=⟨rfl,by omega,by omega⟩
theorem oW.range{L:List (Int ×Int)}{k:Nat}{t:Int}(g:oW L k t)(a:k<L.length)(h:oj (L.getD k (0,0))=false):kL 0 L=3:=by rw[g.left,eQ a];simp only[kL,h,aB]
theorem oW.next{L:List (Int×Int)}{k:Nat}{t:Int}(g:oW L k t)(a:k<L.length)(h:oj (L.getD k (0,0))=true):oW L (k +1) (t+(L.getD k (0,0)).2):=by
 obtain⟨r1,r2,c,b⟩:=dI.1 h;refine⟨?_,?_,?_⟩;·rw[g.left,eQ a];simp only[kL,h];simp
 ·have :=g.lo;omega
 ·have :=g.hi;omega
theorem oW.fit{L:List (Int ×Int)}{t:Int}{k:Nat}(g:oW L k t)(a:L.length≤k)(h:t≠0):kL 0 L=8:=by rw[g.left,cM a];simp[kL,h]
theorem oW.done{L:List (Int ×Int)}{t:Int}{k:Nat}(g:oW L k t)(a:L.length≤k)(h:t=0):kL 0 L=0:=by rw[g.left,cM a];simp[kL,h]
theorem mn{E:List (Int ×Int)}(h:10<E.length):fL E=5:=by unfold fL;rw[aB h]
theorem iz{E:List (Int ×Int)}(h:E.length≤10):fL E=kL 0 E:=by unfold fL;rw[ai (by omega)]
theorem HJ{t:Int}{E:List (Int×Int)}:kL t E=0↔(∀ e∈E,oj e=true)∧t+(E.map (·.2)).sum=0:=by
 induction E generalizing t with
 |nil=>simp[kL]
 |cons e r a=>
  cases h:oj e with
  |false=>simp[kL,h]
  |true=>
   have h1:kL t (e::r)=kL (t +e.2) r:=by simp[kL,h]
   rw[h1,a];simp[h,Int.add_assoc]
theorem oq{E:List (Int ×Int)}:fL E=0↔E.length≤10∧(∀ e∈E,oj e=true)∧(E.map (·.2)).sum=0:=by
 by_cases h:10<E.length;·simp[mn h];omega
 ·rw[iz (by omega),HJ];simp;omega
structure en(L:List (Int×Int)):Prop where
 all:∀e∈L,oj e=true∧e.2≠0
 Im:L.Pairwise fun a b=>a.1<b.1
 fit:(L.map (·.2)).sum=0
theorem mI{p:Option Int}{i:Nat}{t:Int}{L:List (Int ×Int)}:(cZ p i t L).1=0↔(∀ e∈L,oj e=true∧e.2≠0)∧(L.Pairwise fun a b=>a.1<b.1)∧(∀q,p=some q→∀e∈L,q<e.1)∧t+(L.map (·.2)).sum=0:=by
 induction L generalizing p i t with
 |nil=>by_cases h:t=0<;>simp[cZ,h]
 |cons e r m=>
  cases h:oj e with
  |false=>simp[cZ,h]
  |true=>
   by_cases h2:e.2=0;·simp[cZ,h,h2]
   ·have j:(cZ (some e.1) (i +1) (t+e.2) r).1=0↔(∀x∈e::r,oj x=true∧x.2≠0)∧((e::r).Pairwise fun a b=>a.1<b.1)∧t+((e ::r).map (·.2)).sum=0:=by
     rw[m,kG,List.map_cons,List.sum_cons];constructor
     ·rintro⟨g,f,d,o⟩;refine⟨fun x c=>?_,⟨fun x c=>d e.1 rfl x c,f⟩,by omega⟩;rcases List.mem_cons.1 c with c|c;·rw[c];exact⟨h,h2⟩
      ·exact g x c
     ·rintro⟨g,⟨f,d⟩,o⟩;exact⟨fun x c=>g x (cR _ c),d,fun q k x c=>by cases k;exact f x c,by omega⟩
    cases p with
    |none=>
     simp only[cZ,h,ai h2];simp only[Bool.true_eq_false,CL];rw[j];constructor;·rintro⟨g,f,d⟩;exact⟨g,f,fun q k=>(by cases k),d⟩
     ·rintro⟨g,f,_,d⟩;exact⟨g,f,d⟩
    |some q=>
     by_cases l:e.1≤q
     ·simp only[cZ,h,ai h2,aB l];constructor;·intro n;simp at n
      ·rintro⟨_,_,d,_⟩;have:= d q rfl e (by simp);omega
     ·simp only[cZ,h,ai h2,ai l];simp only[Bool.true_eq_false,CL];rw[j];constructor
      ·rintro⟨g,f,d⟩;refine⟨g,f,fun y hy x c=>?_,d⟩;cases hy;rcases List.mem_cons.1 c with c|c;·rw[c];omega
       ·rw[kG]at f;have :=f.1 x c;omega
      ·rintro⟨g,f,_,d⟩;exact⟨g,f,d⟩
theorem gP{L:List (Int ×Int)}:(dS L).1=0↔en L:=by
 unfold dS;rw[mI];constructor;·rintro⟨h1,h2,-,a⟩;exact⟨h1,h2,by simpa using a⟩
 ·rintro⟨h1,h2,a⟩;exact⟨h1,h2,by simp,by simpa using a⟩
theorem JK{L:List (Int ×Int)}{c:Int}(g:c≤58)(h1:∀e∈L,c≤e.1∧e.1<58)(h2:L.Pairwise fun a b=>a.1<b.1):(L.length :Int)+c≤58:=by
 induction L generalizing c with
 |nil=>simpa using g
 |cons e r f=>rw[kG]at h2;have h:=h1 e (by simp);have :=f (c:=c+1) (by omega) (fun x d=>⟨by have:= h2.1 x d;omega,(h1 x (by simp[d])).2⟩) h2.2;simp;omega
theorem en.iv{L:List (Int ×Int)}(h:en L):L.length≤58:=by have :=JK (c:=0) (by omega) (fun e a=>by have :=dI.1 (h.all e a).1;omega) h.Im;omega
def gZ:Nat→Int:=fun _=>0
def mh(f:Nat→Int):List (Int ×Int)→(Nat →Int)
 |[]=>f
 |e::r=>mh (eu f e.1.toNat (f e.1.toNat+e.2)) r
def gG(f:Nat→Int):List (Int×Int)→Option (Nat →Int)
 |[]=>some f
 |e::r=>if kM (f e.1.toNat+e.2)then gG (eu f e.1.toNat (f e.1.toNat+e.2)) r else none
def post(l E:List (Int ×Int)):List (Int ×Int)×Int:=if(dS l).1≠0 then([],(dS l).1)else if fL E≠0 then([],fL E)else
  match gG (mh gZ l) E with
  |none=>([],4)|some f=>(jt f 58,0)
theorem qR{l E:List (Int×Int)}(h:(dS l).1≠0):post l E=([],(dS l).1):=by unfold post;rw[aB h]
theorem j4{l E:List (Int×Int)}(h:(dS l).1=0)(h2:fL E≠0):post l E=([],fL E):=by unfold post;rw[ai (by simp[h]),aB h2]
theorem s9{l E:List (Int×Int)}(h:(dS l).1=0)(h2:fL E=0)(a:gG (mh gZ l) E=none):post l E=([],4):=by unfold post;rw[ai (by simp[h]),ai (by simp[h2]),a]
theorem qd{l E:List (Int ×Int)}{f:Nat→Int}(h:(dS l).1=0)(h2:fL E=0)(a:gG (mh gZ l) E=some f):post l E=(jt f 58,0):=by unfold post;rw[ai (by simp[h]),ai (by simp[h2]),a]
structure BF(l:List (Int ×Int))(k:Nat)(g:Nat→Int):Prop where
 left:mh gZ l=mh g (l.drop k)small:∀i,-1000000000000*(k:Int)≤g i∧g i≤1000000000000*(k:Int)
theorem xi{f:Nat→Int}{i:Nat}{v c d:Int}(h:∀i,-c≤f i∧f i≤c)(a:-d≤v∧v≤d)(b:0≤d):∀j,-(c+d)≤eu f i (f i+v) j∧eu f i (f i+v) j≤c+d:=by intro j;unfold eu;have:= h i;have :=h j;split<;>omega
theorem Ei(l:List (Int×Int)):BF l 0 gZ:=⟨rfl,fun i=>by simp[gZ]⟩
theorem BF.next{l:List (Int×Int)}{k:Nat}{g:Nat→Int}(h:BF l k g)(b:k<l.length)(a:oj (l.getD k (0,0))=true):BF l (k +1) (eu g (l.getD k (0,0)).1.toNat (g (l.getD k (0,0)).1.toNat+(l.getD k (0,0)).2)):=by obtain⟨r1,r2,j,e⟩:=dI.1 a;refine⟨by rw[h.left,eQ b];rfl,fun i=>?_⟩;have:= xi (f:=g) (i:=(l.getD k (0,0)).1.toNat) (v:=(l.getD k (0,0)).2) (c:=1000000000000*(k:Int)) (d:=1000000000000) (fun i=>by have:= h.small i;omega) (by omega) (by omega) i;omega
theorem BF.done{l:List (Int×Int)}{k:Nat}{g:Nat→Int}(h:BF l k g)(a:l.length≤k):mh gZ l=g:=by rw[h.left,cM a];rfl
structure nr(f:Nat→Int)(E:List (Int ×Int))(k:Nat)(g:Nat→Int):Prop where
 left:gG f E=gG g (E.drop k)small:∀i,-1000000000000*(58+(k :Int))≤g i∧g i≤1000000000000*(58 +(k:Int))
theorem tE{f:Nat→Int}(E:List (Int×Int))(h:∀i,-58000000000000≤f i∧f i≤58000000000000):nr f E 0 f:=⟨rfl,fun i=>by have:= h i;omega⟩
theorem nr.next{f:Nat→Int}{E:List (Int×Int)}{k:Nat}{g:Nat→Int}(h:nr f E k g)(e:k<E.length)(b:oj (E.getD k (0,0))=true)(a:kM (g (E.getD k (0,0)).1.toNat+(E.getD k (0,0)).2)=true):nr f E (k +1) (eu g (E.getD k (0,0)).1.toNat (g (E.getD k (0,0)).1.toNat+(E.getD k (0,0)).2)):=by obtain⟨r1,r2,l,j⟩:=dI.1 b;refine⟨by rw[h.left,eQ e];simp only[gG,a,aB],fun i=>?_⟩;have:= xi (f:=g) (i:=(E.getD k (0,0)).1.toNat) (v:=(E.getD k (0,0)).2) (c:=1000000000000*(58+(k:Int))) (d:=1000000000000) (fun i=>by have :=h.small i;omega) (by omega) (by omega) i;omega
theorem nr.L5{f:Nat→Int}{E:List (Int×Int)}{k:Nat}{g:Nat→Int}(h:nr f E k g)(b:k<E.length)(a:kM (g (E.getD k (0,0)).1.toNat+(E.getD k (0,0)).2)=false):gG f E=none:=by rw[h.left,eQ b];simp only[gG,a];simp
theorem nr.done{f:Nat→Int}{E:List (Int×Int)}{k:Nat}{g:Nat→Int}(h:nr f E k g)(a:E.length≤k):gG f E=some g:=by rw[h.left,cM a];rfl
theorem gM{L:List (Int ×Int)}{k:Nat}(a:k<L.length):L.getD k (0,0)∈L:=by simp[List.getD,a]
def given(acc:Int):List (Int ×Int)→Int
 |[]=>0
 |e::r=>(if e.1=acc then e.2 else 0)+given acc r
def total(f:Nat→Int):Nat→Int
 |0=>0
 |n+1=>total f n+f n
theorem vT(f:Nat→Int)(i:Nat)(v:Int)(n:Nat):total (eu f i (f i+v)) n=total f n+if i<n then v else 0:=by
 induction n with
 |zero=>simp[total]
 |succ n a=>
  simp only[total,a];unfold eu;by_cases h:n=i;·subst h;simp;omega
  ·simp only[ai h];by_cases h2:i<n;·simp only[aB h2,aB (show i<n+1 by omega)];omega
   ·simp only[ai h2,ai (show ¬i<n+1 by omega)];omega
theorem CD{f:Nat→Int}{l:List (Int×Int)}(h:∀e∈l,oj e=true):total (mh f l) 58=total f 58+(l.map (·.2)).sum:=by
 induction l generalizing f with
 |nil=>simp[mh]
 |cons e r a=>have c:=dI.1 (h e (by simp));simp only[mh,List.map_cons,List.sum_cons];rw[a fun x b=>h x (by simp[b]),vT,aB (by omega)];omega
theorem xQ{f:Nat→Int}{l:List (Int×Int)}(h:∀e∈l,oj e=true)(i:Nat):mh f l i=f i+given i l:=by
 induction l generalizing f with
 |nil=>simp[mh,given]
 |cons e r a=>
  have c:=dI.1 (h e (by simp));simp only[mh,given];rw[a fun x b=>h x (by simp[b])];unfold eu;by_cases hi:i=e.1.toNat;·rw[aB hi,aB (by omega),hi];omega
  ·rw[ai hi,ai (by omega)];omega
theorem xB{f g:Nat→Int}{l:List (Int×Int)}(h:∀e∈l,oj e=true)(a:gG f l=some g):total g 58=total f 58+(l.map (·.2)).sum:=by
 induction l generalizing f with
 |nil=>simp[gG]at a;subst a;simp
 |cons e r b=>
  have d:=dI.1 (h e (by simp));simp only[gG]at a;split at a;·simp only[List.map_cons,List.sum_cons];rw[b (fun x c=>h x (by simp[c])) a,vT,aB (by omega)];omega
  ·cases a
theorem EB{f g:Nat→Int}{l:List (Int×Int)}(h:∀e∈l,oj e=true)(a:gG f l=some g)(i:Nat):g i=f i+given i l:=by
 induction l generalizing f with
 |nil=>simp[gG]at a;subst a;simp[given]
 |cons e r b=>
  have d:=dI.1 (h e (by simp));simp only[gG]at a;split at a
  ·simp only[given];rw[b (fun x c=>h x (by simp[c])) a];unfold eu;by_cases hi:i=e.1.toNat;·rw[aB hi,aB (by omega),hi];omega
   ·rw[ai hi,ai (by omega)];omega
  ·cases a
theorem yk{f g:Nat→Int}{l:List (Int×Int)}(b:∀i,kM (f i)=true)(a:gG f l=some g):∀i,kM (g i)=true:=by
 induction l generalizing f with
 |nil=>simp[gG]at a;subst a;exact b
 |cons e r c=>
  simp only[gG]at a;split at a
  ·rename_i d;refine c (fun i=>?_) a;unfold eu;split;·exact d
   ·exact b i
  ·cases a
theorem u9{acc:Int}{l:List (Int ×Int)}(h:∀e∈l,e.1≠acc):given acc l=0:=by
 induction l with
 |nil=>rfl
 |cons e r a=>simp only[given];rw[ai (h e (by simp)),a fun x b=>h x (by simp[b])];rfl
theorem oN{acc:Int}{l:List (Int ×Int)}(h:l.Pairwise fun a b=>a.1<b.1):given acc l=et l acc:=by
 induction l with
 |nil=>rfl
 |cons e r d=>
  rw[kG]at h;simp only[given,et];by_cases c:e.1=acc;·rw[aB c,aB c,u9 fun x f=>by have :=h.1 x f;omega];omega
  ·rw[ai c,ai c,d h.2];omega
theorem v9{f:Nat→Int}{n:Nat}{e:Int×Int}:e∈jt f n↔∃k,k<n∧f k≠0∧e=((k:Int),f k):=by
 simp only[jt,List.mem_map,List.mem_filter,List.mem_range,bne_iff_ne];constructor;·rintro⟨k,⟨h1,h2⟩,rfl⟩;exact⟨k,h1,h2,rfl⟩
 ·rintro⟨k,h1,h2,rfl⟩;exact⟨k,⟨h1,h2⟩,rfl⟩
theorem uU(f:Nat→Int)(n:Nat):(jt f n).Pairwise fun a b=>a.1<b.1:=by
 induction n with
 |zero=>exact List.Pairwise.nil
 |succ n c=>
  by_cases h:f n=0;·rw[mM f n h];exact c
  ·rw[nR f n h,CM];refine⟨c,by simp,fun a e b d=>?_⟩;obtain⟨k,g,-,rfl⟩:=v9.1 e;simp at d;subst d;show(k:Int)<n;omega
theorem Ef(f:Nat→Int)(n:Nat):((jt f n).map (·.2)).sum=total f n:=by
 induction n with
 |zero=>rfl
 |succ n a=>
  by_cases h:f n=0;·rw[mM f n h,a,total,h];omega
  ·rw[nR f n h,oT,List.sum_append,a,total];simp
theorem zL(f:Nat→Int)(acc:Int)(n:Nat):given acc (jt f n)=if 0≤acc∧acc<n then f acc.toNat else 0:=by
 induction n with
 |zero=>rw[ai (by omega)];rfl
 |succ n e=>
  have app:∀a b:List (Int ×Int),given acc (a ++b)=given acc a+given acc b:=by
   intro a b
   induction a with
   |nil=>simp[given]
   |cons x r e=>simp only[mU,given,e];omega
  by_cases h:f n=0
  ·rw[mM f n h,e];by_cases d:0≤acc∧acc<n;·rw[aB d,aB (by omega)]
   ·rw[ai d];by_cases c:0≤acc∧acc<((n+1:Nat):Int);·rw[aB c,show acc.toNat=n by omega,h]
    ·rw[ai c]
  ·rw[nR f n h,app,e];simp only[given];by_cases d:0≤acc∧acc<n;·rw[aB d,ai (by omega),aB (by omega)];omega
   ·rw[ai d];by_cases c:0≤acc∧acc<((n+1:Nat):Int);·rw[aB c,aB (by omega),show acc.toNat=n by omega];omega
    ·rw[ai c,ai (by omega)];rfl
theorem Dm{l:List (Int ×Int)}{acc:Int}(h:∀e∈l,oj e=true)(d:¬(0≤acc∧acc<58)):et l acc=0∧given acc l=0:=by
 have a:∀e∈l,e.1≠acc:=fun e c=>by have :=dI.1 (h e c);omega
 refine⟨Ej fun j b=>a _ (gM b),u9 a⟩
theorem B_:total gZ 58=0:=by
 have: ∀n,total gZ n=0:=fun n=>by
  induction n with
  |zero=>rfl
  |succ n a=>rw[total,a];rfl
 exact this 58
theorem yM(l:List (Int×Int))(acc:Int):et l acc=0∨∃e∈l,et l acc=e.2:=by
 induction l with
 |nil=>exact Or.inl rfl
 |cons e r b=>
  simp only[et];by_cases a:e.1=acc;·rw[aB a];exact Or.inr ⟨e,by simp,rfl⟩
  ·rw[ai a];rcases b with h0|⟨x,c,h1⟩;·exact Or.inl h0
   ·exact Or.inr ⟨x,by simp[c],h1⟩
theorem Hg{l:List (Int×Int)}(h:en l)(i:Nat):kM (mh gZ l i)=true:=by
 rw[xQ (fun e a=>(h.all e a).1),oN h.Im];simp only[gZ,Int.zero_add];rcases yM l i with h0|⟨e,a,h1⟩;·rw[h0];decide
 ·rw[h1];exact jN.2 (by have :=dI.1 (h.all e a).1;omega)
theorem BI{l E L:List (Int×Int)}(h:post l E=(L,0)):(dS l).1=0∧fL E=0∧(dS L).1=0∧∀acc,et L acc=et l acc+given acc E:=by
 by_cases h1:(dS l).1=0
 ·by_cases h2:fL E=0
  ·have g:=gP.1 h1;obtain⟨m,a,c⟩:=oq.1 h2
   cases d:gG (mh gZ l) E with
   |none=>rw[s9 h1 h2 d]at h;simp at h
   |some f=>
    rw[qd h1 h2 d]at h;obtain rfl:jt f 58=L:=by simpa using h
    have b:∀e∈l,oj e=true:=fun e j=>(g.all e j).1;refine⟨h1,h2,gP.2 ⟨fun e j=>?_,uU f 58,?_⟩,fun acc=>?_⟩;·obtain⟨k,o,i,rfl⟩:=v9.1 j;have:= jN.1 (yk (Hg g) d k);exact⟨dI.2 ⟨by show(0 :Int)≤k;omega,by show(k:Int)<58;omega,this.1,this.2⟩,i⟩
    ·rw[Ef,xB a d,CD b,g.fit,c,B_];rfl
    ·rw[←oN (uU f 58),zL];by_cases n:0≤acc∧acc<58;·rw[aB (by omega),EB a d,xQ b,show((acc.toNat:Nat):Int)=acc by omega,oN g.Im];simp[gZ]
     ·rw[ai (by omega),(Dm b n).1,(Dm a n).2];rfl
  ·rw[j4 h1 h2]at h;simp at h;exact absurd h.2 h2
 ·rw[qR h1]at h;simp at h;exact absurd h.2 h1
structure LQ(acc:Int)(E:List (Int ×Int))(k:Nat)(s:Int):Prop where
 left:given acc E=s+given acc (E.drop k)lo:-1000000000000*(k :Int)≤s
 hi:s≤1000000000000*(k:Int)
theorem LQ.done{acc:Int}{E:List (Int ×Int)}{k:Nat}{s:Int}(h:LQ acc E k s)(a:E.length≤k):given acc E=s:=by rw[h.left,cM a];simp[given]
theorem Ag{l:List (Int ×Int)}(h:en l)(acc:Int):-1000000000000≤et l acc∧et l acc≤1000000000000:=by
 rcases yM l acc with h0|⟨e,a,h1⟩;·rw[h0];omega
 ·rw[h1];have:= dI.1 (h.all e a).1;omega
open RowKit
def ff(w:World)(a:Option Addr)(L:List (Int×Int)):Prop:=L.length≤maxLen∧(L =[]∨∃b off,a=some ⟨b,off,none⟩∧b<w.heap.size∧∀i,i<L.length→w.cell? ⟨b,off+i*2,none⟩=some (.int .i64 (L.getD i (0,0)).1)∧w.cell? ⟨b,off+i*2+1,none⟩=some (.int .i64 (L.getD i (0,0)).2))
theorem ff.below{w e:World}{a:Option Addr}{L:List (Int×Int)}(h:ff w a L)(d:Below w.heap.size w e):ff e a L:=by
 obtain⟨h1,h2⟩:=h;refine⟨h1,?_⟩;rcases h2 with h2|⟨b,off,g,c,f⟩;·exact Or.inl h2
 ·refine Or.inr ⟨b,off,g,bp c d.size,fun i hi=>?_⟩;obtain⟨c1,c2⟩:=f i hi;exact⟨(d.cell (p:=⟨b,off+i*2,none⟩) c).trans c1,(d.cell (p:=⟨b,off+i*2+1,none⟩) c).trans c2⟩
theorem il{a b:Bool}(h:a=b):Ending.returned (.bool a)=.returned (.bool b):=by rw[h]
theorem bP{k:IntKind}{a b:Int}(h:a=b):Ending.returned (.int k a)=.returned (.int k b):=by rw[h]
theorem aW{p:Prop}(h:p):Hid p:=h
theorem mX(s:Int)(w:World):Calls prog 155 #[.int .i64 s] w fun e a=>e=.returned (.bool (kM s))∧a=w:=by unfold kM;by_cases h1:-1000000000000≤s<;>by_cases h2:s≤1000000000000;all_goals go_enter func155,ntmps155;go_wp2;go_ret;simp[h1,h2]
theorem fk(x:Int×Int)(w:World):Calls prog 153 #[.agg #[.int .i64 x.1,.int .i64 x.2]] w fun e c=>e=.returned (.bool (oj x))∧Below w.heap.size w c:=by
 obtain⟨a,s⟩:=x;have key:∀p q r:Bool,decide (0 ≤a)=p→decide (a<58)=q→kM s=r→oj (a,s)=(p&&q&&r):=by rintro p q r rfl rfl rfl;rfl
 generalize oj (a,s)=u at key⊢;have d:Below w.heap.size w (w.alloc (.cells #[.int .i64 a,.int .i64 s] 105)):=(Below.refl _ _).alloc (aj _) _;by_cases h1:0≤a
 ·by_cases h2:a<58;·have b:Hid (u =kM s):=aW (by have:= key true true _ (by simpa using h1) (by simpa using h2) rfl;simpa using this);clear key;go_enter func153,ntmps153;go_wp2_with(go_at_call 155;refine(mX _ _).mono ?_;rintro e c ⟨rfl,rfl⟩);go_ret;exact⟨il b.out.symm,d⟩
  ·have b:Hid (u=false):=aW (by have:= key true false _ (by simpa using h1) (by simpa using h2) rfl;simpa using this);clear key;go_enter func153,ntmps153;go_wp2_with(go_at_call 155;refine(mX _ _).mono ?_;rintro e c ⟨rfl,rfl⟩);go_ret;exact⟨il b.out.symm,d⟩
 ·have b:Hid (u=false):=aW (by have:= key false _ _ (by simpa using h1) rfl rfl;simpa using this);clear key;go_enter func153,ntmps153;go_wp2_with(go_at_call 155;refine(mX _ _).mono ?_;rintro e c ⟨rfl,rfl⟩);go_ret;exact⟨il b.out.symm,d⟩
open RowKit
theorem kX{w wr c:World}{o:Obj}(b:Below w.heap.size w wr)(a:Below (wr.alloc o).heap.size (wr.alloc o) c):Below w.heap.size w c:=b.trans ((((Below.refl _ _).alloc (aj _) o).mono b.size).trans (a.mono (by have :=b.size;simp;omega)))
theorem ke{B:Nat}{wr b:World}{o:Obj}(s1:B≤wr.heap.size)(a:Below (wr.alloc o).heap.size (wr.alloc o) b):Below B wr b:=(((Below.refl _ _).alloc (aj _) o).trans (a.mono (by simp))).mono s1
theorem gV{w wr a:World}{x:Int×Int}(s1:w.heap.size+1≤wr.heap.size)(r0:wr.cell? ⟨w.heap.size,0,none⟩=some (.int .i64 0))(r1:wr.cell? ⟨w.heap.size,1,none⟩=some (.int .i64 0))(g:wr.frozen? ⟨w.heap.size,0,none⟩=false)(f:wr.frozen? ⟨w.heap.size,1,none⟩=false)(c:Below (wr.alloc (.cells #[.int .i64 x.1,.int .i64 x.2] 105)).heap.size (wr.alloc (.cells #[.int .i64 x.1,.int .i64 x.2] 105)) a):a.cell? ⟨w.heap.size,0,none⟩=some (.int .i64 0)∧a.cell? ⟨w.heap.size,1,none⟩=some (.int .i64 0)∧a.frozen? ⟨w.heap.size,0,none⟩=false∧a.frozen? ⟨w.heap.size,1,none⟩=false∧a.cell? ⟨wr.heap.size,0,none⟩=some (.int .i64 x.1)∧a.cell? ⟨wr.heap.size,1,none⟩=some (.int .i64 x.2)∧wr.heap.size+1≤a.heap.size∧∀b o,b<wr.heap.size→a.cell? ⟨b,o,none⟩=wr.cell? ⟨b,o,none⟩:=by
 have s2:=c.size;simp only[eG]at s2;have d:∀b o,b<wr.heap.size→a.cell? ⟨b,o,none⟩=wr.cell? ⟨b,o,none⟩:=fun b o h=>(c.cell (p:=⟨b,o,none⟩) (by simp;omega)).trans (aY _ _ _ h);have e:∀b o,b<wr.heap.size→a.frozen? ⟨b,o,none⟩=wr.frozen? ⟨b,o,none⟩:=fun b o h=>(c.frozen (p:=⟨b,o,none⟩) (by simp;omega)).trans (dF _ _ _ h);refine⟨(d _ _ (by omega)).trans r0,(d _ _ (by omega)).trans r1,(e _ _ (by omega)).trans g,(e _ _ (by omega)).trans f,?_,?_,s2,d⟩;·exact(c.cell (p:=⟨wr.heap.size,0,none⟩) (by simp)).trans (by rw[cd _ _ _ _ rfl];rfl)
 ·exact(c.cell (p:=⟨wr.heap.size,1,none⟩) (by simp)).trans (by rw[cd _ _ _ _ rfl];rfl)
theorem dO(a:Option Addr)(cap:Nat)(L:List (Int ×Int))(w:World)(R:ff w a L):Calls prog 143 #[.slice a L.length cap] w fun e w'=>e=.returned (.agg #[.int .i64 (dS L).1,.int .i64 (dS L).2])∧Below w.heap.size w w':=by
 obtain⟨hm,R⟩:=R;unfold maxLen at hm;have b1:Below w.heap.size w (w.alloc (.cells #[.int .i64 0,.int .i64 0] 47)):=(Below.refl _ _).alloc (aj _) _;go_enter func143,ntmps143;go_wp2;go_loopw[3,8](fun t i wr=>∃(k:Nat) (fP:Int),k≤L.length∧i=.int .i64 k∧t=.int .i64 fP∧-58000000000000≤fP∧fP≤58000000000000∧Hid (Good L k fP)∧Below (w.heap.size+1) (w.alloc (.cells #[.int .i64 0,.int .i64 0] 47)) wr) (fun _ i _=>L.length-(intOf i).toNat);case atStart=>exact⟨0,0,bq _,rfl,rfl,by omega,by omega,iq L,Below.refl _ _⟩
 case round=>
  obtain⟨k,fP,hk,rfl,rfl,t1,t2,l,m⟩:=hrel;by_cases n:k<L.length
  ·rcases R with rfl|⟨b,off,rfl,u,g⟩;·simp at n
   obtain⟨c1,c2⟩:=g k n;have Y:(k :Int)<L.length:=by omega
   have o:=b1.trans (m.mono (by omega));have e1:=(o.cell (p:=⟨b,off+k*2,none⟩) u).trans c1;have e2:=(o.cell (p:=⟨b,off+k*2+1,none⟩) u).trans c2;have F:0<k→wr.cell? ⟨b,off+(k -1)*2,none⟩=some (.int .i64 (L.getD (k-1) (0,0)).1):=fun h0=>(o.cell (p:=⟨b,off+(k-1)*2,none⟩) u).trans (g (k -1) (by omega)).1;have s1:=m.size;simp only[eG]at s1;have r0:wr.cell? ⟨w.heap.size,0,none⟩=some (.int .i64 0):=(m.cell (p:=⟨w.heap.size,0,none⟩) (by simp)).trans (by rw[cd _ _ _ _ rfl];rfl);have r1:wr.cell? ⟨w.heap.size,1,none⟩=some (.int .i64 0):=(m.cell (p:=⟨w.heap.size,1,none⟩) (by simp)).trans (by rw[cd _ _ _ _ rfl];rfl);have C:wr.frozen? ⟨w.heap.size,0,none⟩=false:=(m.frozen (p:=⟨w.heap.size,0,none⟩) (by simp)).trans (gr _ _ _ _ rfl);have B:wr.frozen? ⟨w.heap.size,1,none⟩=false:=(m.frozen (p:=⟨w.heap.size,1,none⟩) (by simp)).trans (gr _ _ _ _ rfl);have G:=fun h=>l.out.range n h;have E:=fun h=>l.out.zero n h;have D:=fun h=>l.out.order n h;have A:=fun h=>l.out.next n h;clear c1 c2 g;generalize X:L.getD k (0,0)=x at*;have Hx:Hid (L.getD k (0,0)=x):=X;clear X;by_cases j:oj x=false;·have d:Hid (dS L=(3,(k :Int))):=G j;clear G E D A l;go_wp2_with fail;refine(fk x _).mono ?_;rintro e I ⟨rfl,c⟩;rw[j];obtain⟨z,y,K,J,-,-,s2,-⟩:=gV s1 r0 r1 C B c;go_wp2;refine aA (v:=.agg #[.int .i64 3,.int .i64 k]) (by simp[results,results143,go_sem,z,y]) rfl ⟨?_,((kX o c).setCell (aj _) _).setCell (aj _) _⟩;rw[d.out]
   ·have j:oj x=true:=by simpa using j
    by_cases f:x.2=0
    ·have d:Hid (dS L=(2,(k :Int))):=E j f;have s:(x.2==0)=true:=by simpa using f
     clear G E D A l f F;go_wp2_with fail;refine(fk x _).mono ?_;rintro e I ⟨rfl,c⟩;rw[j];obtain⟨z,y,K,J,V,U,s2,-⟩:=gV s1 r0 r1 C B c;go_wp2;go_quiet(fail);go_wp2;refine aA (v:=.agg #[.int .i64 2,.int .i64 k]) (by simp[results,results143,go_sem,z,y]) rfl ⟨?_,((br (kX o c) _).setCell (aj _) _).setCell (aj _) _⟩;rw[d.out]
    ·have s:(x.2==0)=false:=by simpa using f
     by_cases h0:k=0
     ·have d:=aW (A j f (by omega));have rb:=dI.1 j;obtain⟨-,-,N,M⟩:=rb;have Q:decide (0 <k)=false:=by simp;omega
      have P:=l.out.iv;have r:=d.out.lo;have q:=d.out.hi;have O:=d.out.iv;have T:-58000000000000≤fP+x.2:=by omega
      have S:fP+x.2≤58000000000000:=by omega
      clear G E D A l f F h0 r q;go_wp2_with fail;refine(fk x _).mono ?_;rintro e I ⟨rfl,c⟩;rw[j];obtain⟨z,y,K,J,V,U,s2,-⟩:=gV s1 r0 r1 C B c;go_wp2;go_quiet(fail);go_wp2;go_roundw;case rel=>exact⟨k+1,fP+x.2,by omega,by go_num,rfl,T,S,d,m.trans (br (ke s1 c) _)⟩
      case measure=>simp[intOf];omega
     ·have Q:decide (0<k)=true:=by simp;omega
      have P:0<k:=by omega
      have Z:=F (by omega);generalize hp:(L.getD (k-1) (0,0)).1=pv at*;clear hp;by_cases hq:x.1≤pv;·have d:=aW (D j f (by omega) hq);clear G E D A l f F h0;go_wp2_with fail;refine(fk x _).mono ?_;rintro e I ⟨rfl,c⟩;rw[j];obtain⟨z,y,K,J,V,U,s2,H⟩:=gV s1 r0 r1 C B c;have W:=(H b (off +(k -1)*2) (by omega)).trans Z;clear H;go_wp2;go_quiet(fail);go_wp2;refine aA (v:=.agg #[.int .i64 2,.int .i64 k]) (by simp[results,results143,go_sem,z,y]) rfl ⟨?_,((br (kX o c) _).setCell (aj _) _).setCell (aj _) _⟩;rw[d.out]
      ·have d:=aW (A j f (by omega));obtain⟨-,-,N,M⟩:=dI.1 j;have r:=d.out.lo;have q:=d.out.hi;have O:=d.out.iv;have T:-58000000000000≤fP+x.2:=by omega
       have S:fP+x.2≤58000000000000:=by omega
       clear G E D A l f F h0 r q;go_wp2_with fail;refine(fk x _).mono ?_;rintro e I ⟨rfl,c⟩;rw[j];obtain⟨z,y,K,J,V,U,s2,H⟩:=gV s1 r0 r1 C B c;have W:=(H b (off +(k-1)*2) (by omega)).trans Z;clear H;go_wp2;go_quiet(fail);go_wp2;go_roundw;case rel=>exact⟨k+1,fP+x.2,by omega,by go_num,rfl,T,S,d,m.trans (br (ke s1 c) _)⟩
       case measure=>simp[intOf];omega
  ·have s1:=m.size;simp only[eG]at s1;have o:=b1.trans (m.mono (by omega));have r0:wr.cell? ⟨w.heap.size,0,none⟩=some (.int .i64 0):=(m.cell (p:=⟨w.heap.size,0,none⟩) (by simp)).trans (by rw[cd _ _ _ _ rfl];rfl);have r1:wr.cell? ⟨w.heap.size,1,none⟩=some (.int .i64 0):=(m.cell (p:=⟨w.heap.size,1,none⟩) (by simp)).trans (by rw[cd _ _ _ _ rfl];rfl);have C:wr.frozen? ⟨w.heap.size,0,none⟩=false:=(m.frozen (p:=⟨w.heap.size,0,none⟩) (by simp)).trans (gr _ _ _ _ rfl);have B:wr.frozen? ⟨w.heap.size,1,none⟩=false:=(m.frozen (p:=⟨w.heap.size,1,none⟩) (by simp)).trans (gr _ _ _ _ rfl);by_cases f:fP=0
   ·have d:=aW (l.out.done (by omega) f);have s:(fP !=0)=false:=by simpa using f
    clear f l;go_wp2;refine aA (v:=.agg #[.int .i64 0,.int .i64 0]) (by simp[results,results143,go_sem,r0,r1]) rfl ⟨?_,(o.setCell (aj _) _).setCell (aj _) _⟩;rw[d.out]
   ·have d:=aW (l.out.fit (by omega) f);have s:(fP !=0)=true:=by simpa using f
    clear f l;go_wp2;refine aA (v:=.agg #[.int .i64 8,.int .i64 0]) (by simp[results,results143,go_sem,r0,r1]) rfl ⟨?_,(o.setCell (aj _) _).setCell (aj _) _⟩;rw[d.out]
open RowKit
def pb(f:Nat→Int):Array Value:=((List.range 58).map fun i=>Value.int .i64 (f i)).toArray
def lJ(w:World)(S:Nat)(f:Nat→Int):Prop:=w.heap[S]?=some (.cells (pb f) 161 (0,0))
theorem mR(f:Nat→Int):(pb f).size=58:=by simp[pb]
theorem sk(f:Nat→Int)(i:Nat)(h:i<58):(pb f)[i]?=some (.int .i64 (f i)):=by simp[pb,h]
theorem E9(f:Nat→Int)(i:Nat)(v:Int):(pb f).setIfInBounds i (.int .i64 v)=pb (eu f i v):=by
 apply Array.ext_getElem?;intro j;rw[Array.getElem?_setIfInBounds];by_cases a:j<58
 ·rw[sk _ _ a,sk _ _ a,mR];unfold eu;by_cases e:i=j;·subst e;simp[a]
  ·simp[e,show¬j=i from fun h=>e h.symm]
 ·have h1:∀g,(pb g)[j]?=none:=fun g=>Array.getElem?_eq_none (by rw[mR];omega);rw[h1,h1,mR];by_cases e:i=j;·subst e;simp[a]
  ·simp[e]
theorem lJ.lt{w:World}{S:Nat}{f:Nat→Int}(h:lJ w S f):S<w.heap.size:=by
 rcases jb S w.heap.size with a|a;·exact a
 ·have :=Array.getElem?_eq_none a;unfold lJ at h;rw[this]at h;cases h
theorem lJ.cell{w:World}{S:Nat}{f:Nat→Int}(h:lJ w S f){i:Nat}(hi:i<58):w.cell? ⟨S,i,none⟩=some (.int .i64 (f i)):=by simp only[World.cell?];rw[h];simpa using sk f i hi
theorem lJ.frozen{w:World}{S:Nat}{f:Nat→Int}(h:lJ w S f)(i:Nat):w.frozen? ⟨S,i,none⟩=false:=by simp only[World.frozen?];rw[h];simp
theorem lJ.set{w:World}{S:Nat}{f:Nat→Int}(h:lJ w S f)(i:Nat)(v:Int):lJ (w.setCell ⟨S,i,none⟩ (.int .i64 v)) S (eu f i v):=by unfold lJ at*;rw[aZ w S i _ _ _ h,E9]
theorem lJ.below{w a:World}{S B:Nat}{f:Nat→Int}(h:lJ w S f)(b:Below B w a)(c:S<B):lJ a S f:=(b.block S c).trans h
theorem lJ.born(w:World):lJ (w.alloc (.cells (pb fun _=>0) 161)) w.heap.size (fun _=>0):=by show(w.heap.push _)[w.heap.size]?=_;rw[Array.getElem?_push_size]
theorem AU(w:World):Calls prog 145 #[] w fun e a=>e=.returned (.tuple #[.func (.func 154) #[] #[.pointer (some ⟨w.heap.size,0,none⟩)],.func (.func 156) #[] #[.pointer (some ⟨w.heap.size,0,none⟩)]])∧Below w.heap.size w a∧lJ a w.heap.size (fun _=>0)∧a.heap.size=w.heap.size+1:=by have d:∀(b:Fn) (first cap:Array Value) (w:World),(Instr.makeFunc b first cap).run prog w=.ok (.func b first cap) w:=fun _ _ _ _=>rfl;have c:=aW (lJ.born w);go_enter func145,ntmps145;go_wp2;go_ret2;exact⟨rfl,(Below.refl _ _).alloc (aj _) _,c.out,by simp⟩
theorem tR(g a:Int)(S:Nat)(f:Nat→Int)(w:World)(b:lJ w S f)(i:Nat)(j:g=i)(hi:i<58)(p:-100000000000000≤f i)(n:f i≤100000000000000)(m:-1000000000000≤a)(v2:a≤1000000000000):Calls prog 154 #[.agg #[.int .i64 g,.int .i64 a],.pointer (some ⟨S,0,none⟩)] w fun e d=>
   e=.returned (.bool (kM (f i+a)))∧Below S w d∧lJ d S (eu f i (f i+a)):=by subst j;have k:=aW b;have c:=b.lt;have c0:=b.cell hi;have h:=b.frozen i;generalize f i=y at*;have c1:∀o,(w.alloc o).cell? ⟨S,i,none⟩=some (.int .i64 y):=fun o=>(aY _ _ _ c).trans c0;have l:∀o,(w.alloc o).frozen? ⟨S,i,none⟩=false:=fun o=>(dF _ _ _ c).trans h;clear b;go_enter func154,ntmps154;go_wp2;go_region;go_wp2_with(go_at_call 155;refine(mX _ _).mono ?_;rintro e d ⟨rfl,rfl⟩);go_ret;refine⟨rfl,(((Below.refl S w).setCell (aj _) _).alloc (by simp;omega) _).drew,?_⟩;exact(k.out.set i (y+a)).below ((Below.refl (S +1) _).alloc (by simp;omega) _).drew (by omega)
theorem info_parts{P:Program}{e:TypeId}{z:Value}{size bytes:Nat}(h:(P.info? e).map (fun i=>(i.zero,i.size,i.bytes))=some (some z,size,bytes)):∃i,P.info? e=some i∧i.zero=some z∧i.size=size∧i.bytes=bytes:=by
 cases hi:P.info? e with
 |none=>simp[hi]at h
 |some i=>simp[hi]at h;exact⟨i,rfl,h⟩
theorem Ht:(prog.info? 105).map (fun i=>(i.zero,i.size,i.bytes))=some (some (.agg #[.int .i64 0,.int .i64 0]),2,16):=by kernel_rfl
theorem Ia:(prog.info? 161).map (·.size)=some 58:=by kernel_rfl
def flat(L:List (Int ×Int)):List Value:=L.flatMap fun e=>[Value.int .i64 e.1,Value.int .i64 e.2]
theorem mu(L:List (Int ×Int))(e:Int×Int):flat (L ++[e])=flat L++[Value.int .i64 e.1,Value.int .i64 e.2]:=by simp[flat]
theorem CR(f:Nat→Int)(k:Nat)(h:k<58)(w:World):(Instr.index 161 (.agg (pb f)) (.int .i64 k)).run prog w=.ok (.int .i64 (f k)) w:=by simp[Instr.index,run_underlying underlying161,asIntOf,go_sem,sk f k h];intro a;omega
theorem gR{w:World}{aq:Nat}{e:TypeId}{size:Nat}{v:Value}{n:Nat}{xs:List Value}(h:w.ownsRow aq e size v n xs):∀k,v.ownBlock=some k→aq≤k:=by
 intro k a;rcases h.2 with⟨rfl,-⟩|⟨g,cap,c,rfl,b,-⟩;·cases a
 ·cases a;exact b
theorem jk{w:World}{aq:Nat}{v:Value}{L:List (Int×Int)}(h:w.ownsRow aq 105 2 v L.length (flat L)):∃a cap,v=.slice a L.length cap∧ff w a L:=by
 obtain⟨-,h⟩:=h;rcases h with⟨rfl,b⟩|⟨g,cap,t,rfl,x,k,b,q,y,p⟩;·rw[b];exact⟨none,0,rfl,by simp[maxLen,b],Or.inl (bZ b)⟩
 ·have d:g<w.heap.size:=by
   rcases jb g w.heap.size with f|f;·exact f
   ·rw[Array.getElem?_eq_none f]at k;cases k
  have key:∀j u,(flat L)[j]?=some u→w.cell? ⟨g,j,none⟩=some u:=by
   intro j u c;simp only[World.cell?,k];rw[←p,List.getElem?_take]at c;split at c;·simpa using c
   ·cases c
  refine⟨some ⟨g,0,none⟩,cap,rfl,bE b q,Or.inr ⟨g,0,rfl,d,fun i hi=>?_⟩⟩
  have l:∀(M:List (Int ×Int)) (i:Nat),i<M.length→(flat M)[i*2]?=some (.int .i64 (M.getD i (0,0)).1)∧(flat M)[i*2+1]?=some (.int .i64 (M.getD i (0,0)).2):=by
   intro M
   induction M with
   |nil=>intro i hi;simp at hi
   |cons e r o=>
    intro i hi
    cases i with
    |zero=>simp[flat]
    |succ i=>
     have:= o i (by simpa using hi);have s:(i+1)*2=i*2+1+1:=by omega
     rw[s];simpa[flat]using this
  obtain⟨n,m⟩:=l L i hi;rw[dW];exact⟨key _ _ n,key _ _ m⟩
theorem Cb(S:Nat)(f:Nat→Int)(w:World)(A:lJ w S f):Calls prog 156 #[.pointer (some ⟨S,0,none⟩)] w fun e r=>
   ∃v,e=.returned v∧r.ownsRow w.heap.size 105 2 v (jt f 58).length (flat (jt f 58))∧Below w.heap.size w r:=by
 obtain⟨z,hi,m,l,j⟩:=info_parts Ht;go_enter func156,ntmps156;go_wp2_with(refine wpList_load_row rfl 161 _ rfl S rfl 161 _ (0,0) _ A underlying161 rfl (by rw[mR];exact Ia) ?_);go_loopw[2,6](fun v i wr=>∃k:Nat,k≤58∧i=.int .i64 k∧wr.ownsRow w.heap.size 105 2 v (jt f k).length (flat (jt f k))∧Below w.heap.size w wr) (fun _ i _=>58-(intOf i).toNat);case atStart=>exact⟨0,by omega,rfl,d_ _ _ _ _,Below.refl _ _⟩
 case round=>
  obtain⟨k,D,rfl,a,g⟩:=hrel;by_cases o:k<58
  ·have t:(k:Int)<58:=by omega
   have C:=CR f k o;have B:=zJ f k;by_cases d:f k=0
   ·have n:(f k !=0)=false:=by simpa using d
    have q:=aW (mM f k d);clear d;go_wp2;go_roundw;case rel=>exact⟨k+1,by omega,by go_num,by rw[q.out];exact a,g⟩
    case measure=>simp[intOf];omega
   ·have n:(f k !=0)=true:=by simpa using d
    have q:=aW (nR f k d);clear d;generalize f k=y at*;go_wp2_with(at_builtin;refine wpList_append_own _ rfl _ _ 41 rfl w.heap.size 105 z (.agg #[.int .i64 0,.int .i64 0]) 2 16 underlying41 hi m l j rfl (by decide) _ _ _ rfl (a.alloc _) ⟨wr.heap.size,0,none⟩ 1 1 [.int .i64 k,.int .i64 y] rfl rfl ?c1 ?c2 ?c3 ?c4 ?c5 ?_);case c1=>exact cell_two_new _ _ _ _
    case c2=>intro u s;simp at s;rcases s with rfl|rfl<;>rfl
    case c3=>unfold maxLen;omega
    case c4=>omega
    case c5=>have:= g.size;simp;omega
    intro v' x c b _;have p:Below w.heap.size w x:=(g.alloc g.size _).grown b (by have :=g.size;simp;omega) (gR a);clear b a;go_wp2;go_roundw;case rel=>exact⟨k+1,by omega,by go_num,by rw[q.out,mu,a_];exact c,p⟩
    case measure=>simp[intOf];omega
  ·have h:k=58:=by omega
   subst h;go_wp2;go_ret;exact⟨_,rfl,a,g⟩
open RowKit
theorem nD(a:Option Addr)(cap:Nat)(L:List (Int ×Int))(w:World)(v:ff w a L):Calls prog 144 #[.slice a L.length cap] w fun e C=>e=.returned (.int .i64 (fL L))∧Below w.heap.size w C:=by
 obtain⟨I,v⟩:=v;unfold maxLen at I;by_cases J:10<L.length
 ·have d:=aW (mn J);have u:(10 :Int)<L.length:=by omega
  go_enter func144,ntmps144;go_wp2;go_ret;exact⟨bP d.out.symm,Below.refl _ _⟩
 have y:=aW (iz (E:=L) (by omega));have u:(L.length :Int)≤10:=by omega
 go_enter func144,ntmps144;go_wp2;go_loopw[3,11](fun t i wr=>∃(k:Nat) (fP:Int),k≤L.length∧i=.int .i64 k∧t=.int .i64 fP∧-10000000000000≤fP∧fP≤10000000000000∧Hid (oW L k fP)∧Below w.heap.size w wr) (fun _ i _=>L.length-(intOf i).toNat);case atStart=>exact⟨0,0,bq _,rfl,rfl,by omega,by omega,tY L,Below.refl _ _⟩
 case round=>
  obtain⟨k,fP,O,rfl,rfl,t1,t2,j,m⟩:=hrel;by_cases f:k<L.length
  ·rcases v with rfl|⟨b,off,rfl,o,c⟩;·simp at f
   obtain⟨c1,c2⟩:=c k f;have B:(k :Int)<L.length:=by omega
   have Q:=(m.cell (p:=⟨b,off+k*2,none⟩) o).trans c1;have P:=(m.cell (p:=⟨b,off+k*2+1,none⟩) o).trans c2;have s1:=m.size;have G:=fun h=>j.out.range f h;have z:=fun h=>j.out.next f h;clear c1 c2 c;generalize H:L.getD k (0,0)=x at*;clear H;by_cases l:oj x=false;·have d:=aW (G l);clear G z j;go_wp2_with fail;refine(fk x _).mono ?_;rintro e A ⟨rfl,g⟩;rw[l];go_wp2;go_ret;exact⟨bP (by rw[y.out,d.out]),m.trans (ke s1 g)⟩
   ·have l:oj x=true:=by simpa using l
    have d:=aW (z l);obtain⟨-,-,F,D⟩:=dI.1 l;have r:=d.out.lo;have q:=d.out.hi;have M:-10000000000000≤fP+x.2:=by omega
    have K:fP+x.2≤10000000000000:=by omega
    clear G z j r q;go_wp2_with fail;refine(fk x _).mono ?_;rintro e A ⟨rfl,g⟩;rw[l];have N:A.cell? ⟨wr.heap.size,1,none⟩=some (.int .i64 x.2):=(g.cell (p:=⟨wr.heap.size,1,none⟩) (by simp)).trans (by rw[cd _ _ _ _ rfl];rfl);go_wp2;go_roundw;case rel=>exact⟨k+1,fP+x.2,by omega,by go_num,rfl,M,K,d,m.trans (ke s1 g)⟩
    case measure=>simp[intOf];omega
  ·by_cases n:fP=0
   ·have d:=aW (j.out.done (by omega) n);have s:(fP !=0)=false:=by simpa using n
    clear n j;go_wp2;go_ret;exact⟨bP (by rw[y.out,d.out]),m⟩
   ·have d:=aW (j.out.fit (by omega) n);have s:(fP !=0)=true:=by simpa using n
    clear n j;go_wp2;go_ret;exact⟨bP (by rw[y.out,d.out]),m⟩
def AX(f:Nat→Int):List (Int×Int)→(Nat →Int)
 |[]=>f
 |e::r=>AX (eu f e.1.toNat e.2) r
theorem Ed{f:Nat→Int}{l:List (Int ×Int)}(h1:∀e∈l,0≤e.1)(h2:l.Pairwise fun a b=>a.1<b.1)(d:∀e∈l,f e.1.toNat=0):AX f l=mh f l:=by
 induction l generalizing f with
 |nil=>rfl
 |cons e r g=>rw[kG]at h2;simp only[AX,mh];rw[d e (by simp),Int.zero_add];refine g (fun x c=>h1 x (by simp[c])) h2.2 (fun x c=>?_);have a:=h2.1 x c;have b:=h1 e (by simp);unfold eu;rw[ai (by omega)];exact d x (by simp[c])
theorem en.set{l:List (Int×Int)}(h:en l):AX gZ l=mh gZ l:=Ed (fun e a=>(dI.1 (h.all e a).1).1) h.Im (fun _ _=>rfl)
structure CG(l:List (Int ×Int))(k:Nat)(g:Nat→Int):Prop where
 left:AX gZ l=AX g (l.drop k)small:∀i,-1000000000000≤g i∧g i≤1000000000000
theorem Ew(l:List (Int×Int)):CG l 0 gZ:=⟨rfl,fun i=>by simp[gZ]⟩
theorem CG.next{l:List (Int×Int)}{k:Nat}{g:Nat→Int}(h:CG l k g)(d:k<l.length)(c:oj (l.getD k (0,0))=true):CG l (k+1) (eu g (l.getD k (0,0)).1.toNat (l.getD k (0,0)).2):=by
 obtain⟨r1,r2,b,a⟩:=dI.1 c;refine⟨by rw[h.left,eQ d];rfl,fun i=>?_⟩;unfold eu;split;·exact⟨b,a⟩
 ·exact h.small i
theorem CG.done{l:List (Int×Int)}{k:Nat}{g:Nat→Int}(h:CG l k g)(a:l.length≤k):AX gZ l=g:=by rw[h.left,cM a];rfl
theorem zE{s:Int}:kM s=false↔1000000000000<s∨s< -1000000000000:=by
 have:= @jN s;constructor;·intro h;rw[h]at this;simp at this;omega
 ·intro h
  cases a:kM s with
  |false=>rfl
  |true=>have:= this.1 a;omega
theorem Fq{a b:Int}(h:oj (a,b)=false):a<0∨(0 ≤a∧57<a)∨(0 ≤a∧a≤57∧1000000000000<b)∨(0 ≤a∧a≤57∧b≤1000000000000∧b< -1000000000000):=by
 have c:¬oj (a,b)=true:=by simp[h]
 rw[dI]at c;simp only at c;omega
