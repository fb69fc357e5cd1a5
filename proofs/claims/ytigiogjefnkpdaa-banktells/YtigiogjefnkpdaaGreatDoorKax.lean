import Derived.Test.YtigiogjefnkpdaaGreatDoorKa
set_option maxHeartbeats 4000000
set_option maxRecDepth 100000
open Go.Proofs.Tryz
namespace Go.Proofs.YtigiogjefnkpdaaGreatDoor
theorem tj{P:Program}{f:Region.Mode}{ops:Array Oper}{Q:Exit→Act→World→Prop}{S:World→Prop}(i:Nat)(v:Value){e:Oper}{d:Nat}{b:Array Bool}{a:Act}{w:World}(m:S w)(h:wpAnyH P f ops Q S d (b.setIfInBounds i true) (a.put e.dst v) w)(hi:ops[i]?=some e:=by rfl)(j:Region.noSelect ops=true:=by kernel_rfl)(l:Region.free f ops b i=true:=by kernel_rfl)(k:(Region.ready f ops b).contains i=true:=by kernel_rfl)(n:∀c a w,Q (.panic c) (a.put e.dst v) w→Q (.panic c) a w:=by exact fun _ _ _ h=>h)(g:Region.wanted e (yielded ops a.tmps)=true:=by kernel_rfl)(hy:∀w,S w→(execOp a.eval e).run P w=.ok (.value v) w:=by intro _ _;go_simp):wpAnyH P f ops Q S (d +1) b a w:=wpAnyH_take hi j l k n (Or.inl ⟨g,hy⟩) m h
theorem tk{P:Program}{f:Region.Mode}{ops:Array Oper}{Q:Exit→Act→World→Prop}{S:World→Prop}(i:Nat)(v:Value){e:Oper}{d:Nat}{b:Array Bool}{a:Act}{w:World}(m:S w)(hy:∀w,S w→(execOp a.eval e).run P w=.ok (.value v) w)(h:wpAnyH P f ops Q S d (b.setIfInBounds i true) (a.put e.dst v) w)(hi:ops[i]?=some e:=by rfl)(j:Region.noSelect ops=true:=by kernel_rfl)(l:Region.free f ops b i=true:=by kernel_rfl)(k:(Region.ready f ops b).contains i=true:=by kernel_rfl)(n:∀c a w,Q (.panic c) (a.put e.dst v) w→Q (.panic c) a w:=by exact fun _ _ _ h=>h)(g:Region.wanted e (yielded ops a.tmps)=true:=by kernel_rfl):wpAnyH P f ops Q S (d +1) b a w:=wpAnyH_take hi j l k n (Or.inl ⟨g,hy⟩) m h
theorem rj{P:Program}{d:Region.Mode}{ops:Array Oper}{Q:Exit→Act→World→Prop}{S:World→Prop}(r:List Nat){c:Nat}{b:Array Bool}{a:Act}{w:World}(h:AllReadyH P d ops Q S c b a w r)(e:Region.ready d ops b=r:=by kernel_rfl)(f:r≠[]:=by simp):wpAnyH P d ops Q S (c +1) b a w:=yz e f h
theorem cU:type_of%@aH∧type_of%@aD∧type_of%@aE∧type_of%@az∧type_of%@aO∧type_of%@aN:=⟨@aH,@aD,@aE,@az,@aO,@aN⟩
structure Pa where
 t:Int
 c:Int
 s:Int
def cf(p:Pa):Int:=if p.t<1∨1000000<p.t∨p.c<0∨30<p.c∨p.s<0∨1000000000000<p.s then 3 else 0
structure Ib(p:Pa):Prop where
 t1:1≤p.t
 t2:p.t≤1000000
 c1:0≤p.c
 c2:p.c≤30
 s1:0≤p.s
 s2:p.s≤1000000000000
theorem ED{p:Pa}:cf p=0↔Ib p:=by
 unfold cf;constructor
 ·intro h;split at h;·cases h
  ·exact⟨by omega,by omega,by omega,by omega,by omega,by omega⟩
 ·intro h;have:= h.t1;have:= h.t2;have :=h.c1;have:= h.c2;have:= h.s1;have :=h.s2;rw[ai (by omega)]
def mT(u:Int×Int):Bool:=decide (0 ≤u.1)&&decide (u.1≤1000000)&&decide (0≤u.2)&&decide (u.2≤1000000)
theorem j7{u:Int×Int}:mT u=true↔0≤u.1∧u.1≤1000000∧0≤u.2∧u.2≤1000000:=by simp[mT,and_assoc]
theorem eQ{L:List (Int×Int)}{k:Nat}(a:k<L.length):L.drop k=L.getD k (0,0)::L.drop (k +1):=by rw[gj a];simp[List.getD,a]
theorem gh{L:List (Int×Int)}{k:Nat}(a:k<L.length):L.take (k +1)=L.take k++[L.getD k (0,0)]:=by rw[vI];simp[List.getD,a]
theorem gM{L:List (Int ×Int)}{k:Nat}(a:k<L.length):L.getD k (0,0)∈L:=by simp[List.getD,a]
def j'(a:Option Int)(i:Nat):List (Int ×Int)→Int×Int
 |[]=>(0,0)|u::r=>if mT u=false then(3,i)else
   match a with
   |none=>j' (some u.1) (i +1) r
   |some q=>if u.1<q then(2,i)else j' (some u.1) (i +1) r
def cP(L:List (Int ×Int)):Int×Int:=if 30<L.length then(5,0)else j' none 0 L
def iD(L:List (Int ×Int))(k:Nat):Option Int:=if k=0 then none else some (L.getD (k -1) (0,0)).1
def Good(L:List (Int×Int))(k:Nat):Prop:=cP L=j' (iD L k) k (L.drop k)
theorem vR{L:List (Int×Int)}(h:30<L.length):cP L=(5,0):=by unfold cP;rw[aB h]
theorem iq{L:List (Int ×Int)}(h:L.length≤30):Good L 0:=by unfold Good cP;rw[ai (by omega)];rfl
theorem Good.range{L:List (Int ×Int)}{k:Nat}(g:Good L k)(a:k<L.length)(h:mT (L.getD k (0,0))=false):cP L=(3,(k :Int)):=by rw[g,eQ a];simp only[j',h,aB]
theorem Good.order{L:List (Int ×Int)}{k:Nat}(g:Good L k)(b:k<L.length)(h:mT (L.getD k (0,0))=true)(h0:0<k)(c:(L.getD k (0,0)).1<(L.getD (k -1) (0,0)).1):cP L=(2,(k :Int)):=by
 have a:iD L k=some (L.getD (k -1) (0,0)).1:=by unfold iD;rw[ai (by omega)]
 rw[g,eQ b,a];simp only[j',h,aB c];simp
theorem Good.next{L:List (Int×Int)}{k:Nat}(g:Good L k)(b:k<L.length)(h:mT (L.getD k (0,0))=true)(c:0<k→(L.getD (k-1) (0,0)).1≤(L.getD k (0,0)).1):Good L (k +1):=by
 have a:iD L (k+1)=some (L.getD k (0,0)).1:=by unfold iD;rw[ai (by omega)];rfl
 unfold Good;rw[g,eQ b,a];by_cases h0:k=0
 ·have a:iD L k=none:=by unfold iD;rw[aB h0]
  rw[a];simp only[j',h];simp
 ·have a:iD L k=some (L.getD (k -1) (0,0)).1:=by unfold iD;rw[ai h0]
  have:= c (by omega);rw[a];simp only[j',h,ai (show ¬(L.getD k (0,0)).1<(L.getD (k -1) (0,0)).1 by omega)];simp
theorem Good.done{L:List (Int ×Int)}{k:Nat}(g:Good L k)(a:L.length≤k):cP L=(0,0):=by rw[g,cM a];rfl
theorem Cq{L:List (Int ×Int)}:∀{a:Option Int}{i:Nat},(j' a i L).1=0→∀u∈L,mT u=true:=by
 induction L with
 |nil=>intro _ _ _ u b;simp at b
 |cons e r d=>
  intro a i h u b;unfold j' at h;by_cases c:mT e=false;·rw[aB c]at h;simp at h
  ·rw[ai c]at h;have c:mT e=true:=by simpa using c
   have f:∀u∈r,mT u=true:=by
    cases a with
    |none=>exact d h
    |some q=>
     dsimp only at h;split at h;·simp at h
     ·exact d h
   rcases List.mem_cons.1 b with rfl|b;·exact c
   ·exact f u b
theorem xN{L:List (Int×Int)}(h:(cP L).1=0):L.length≤30∧∀u∈L,mT u=true:=by
 unfold cP at h;split at h;·simp at h
 ·exact⟨by omega,Cq h⟩
theorem AN(u:Int×Int):(cP [u]).1=if mT u=true then 0 else 3:=by unfold cP;cases h:mT u<;>simp[j',h]
def gW(o:Int)(L:List (Int×Int)):List (Int ×Int):=L.filter fun u=>decide (o <u.1)
theorem pL(o:Int)(L:List (Int×Int)):(gW o L).length≤L.length:=List.length_filter_le _ _
theorem uT{o:Int}{L:List (Int ×Int)}{k:Nat}(a:k<L.length)(h:o<(L.getD k (0,0)).1):gW o (L.take (k +1))=gW o (L.take k)++[L.getD k (0,0)]:=by rw[gh a];unfold gW;rw[ei];generalize L.getD k (0,0)=u at h⊢;simp[h]
theorem tw{o:Int}{L:List (Int ×Int)}{k:Nat}(a:k<L.length)(h:¬o<(L.getD k (0,0)).1):gW o (L.take (k +1))=gW o (L.take k):=by rw[gh a];unfold gW;rw[ei];generalize L.getD k (0,0)=u at h⊢;simp;omega
theorem ue{o:Int}{L:List (Int×Int)}{k:Nat}(a:L.length≤k):gW o (L.take k)=gW o L:=by rw[gf a]
theorem uQ{o:Int}{L:List (Int ×Int)}{u:Int×Int}(h:u∈gW o L):u∈L:=(List.mem_filter.1 h).1
theorem jG(o:Int)(L:List (Int ×Int))(k:Nat):(gW o (L.take k)).length≤L.length:=by have :=pL o (L.take k);simp at this;omega
def fP:List (Int ×Int)→Int
 |[]=>0
 |u::r=>u.2+fP r
theorem uu(A B:List (Int ×Int)):fP (A ++B)=fP A+fP B:=by
 induction A with
 |nil=>simp[fP]
 |cons e r a=>simp only[mU,fP,a];omega
theorem yE(A:List (Int ×Int))(u:Int×Int):fP (A++[u])=fP A+u.2:=by rw[uu];simp[fP]
theorem sI{A:List (Int ×Int)}(h:∀u∈A,mT u=true):0≤fP A∧fP A≤1000000*(A.length :Int):=by
 induction A with
 |nil=>simp[fP]
 |cons e r a=>have h1:=a fun u b=>h u (cR _ b);have h2:=j7.1 (h e bT);simp only[fP,di];omega
theorem AD{A:List (Int ×Int)}(h:∀u∈A,mT u=true)(k:Nat):fP (A.take k)≤fP A:=by have h1:=uu (A.take k) (A.drop k);rw[cL]at h1;have h2:=sI (A:=A.drop k) fun u a=>h u (List.mem_of_mem_drop a);omega
def dp(p:Pa)(L:List (Int ×Int))(x:Int×Int):Int:=if cf p≠0 then cf p else if(cP L).1≠0 then(cP L).1 else if mT x=false then 3
 else if 0<L.length∧x.1<(L.getD (L.length-1) (0,0)).1 then 2 else 0
def out(p:Pa)(L:List (Int ×Int))(x:Int×Int):List (Int ×Int):=gW (x.1-p.t) L++[x]
def gU(p:Pa)(L:List (Int ×Int))(x:Int×Int):List (Int ×Int)×Int:=if dp p L x≠0 then([],dp p L x)else if p.c<(out p L x).length∨p.s<fP (out p L x)then([],11)else(out p L x,0)
structure Fit(p:Pa)(L:List (Int ×Int))(x:Int×Int):Prop where
 me:Ib p
 iv:L.length≤30
 all:∀u∈L,mT u=true
 Mu:mT x=true
 last:0<L.length→(L.getD (L.length-1) (0,0)).1≤x.1
theorem po{p:Pa}{L:List (Int×Int)}{x:Int×Int}(h:dp p L x=0):Fit p L x:=by
 unfold dp at h;by_cases h1:cf p=0
 ·rw[ai (by simpa using h1)]at h;by_cases h2:(cP L).1=0
  ·rw[ai (by simpa using h2)]at h;by_cases a:mT x=false;·rw[aB a]at h;omega
   ·rw[ai a]at h;split at h;·omega
    ·next b=>exact⟨ED.1 h1,(xN h2).1,(xN h2).2,by simpa using a,fun h0=>by omega⟩
  ·rw[aB h2]at h;exact absurd h h2
 ·rw[aB h1]at h;exact absurd h h1
theorem px{p:Pa}{L:List (Int ×Int)}{x:Int×Int}(h:dp p L x≠0):gU p L x=([],dp p L x):=by unfold gU;rw[aB h]
theorem xO{p:Pa}{L:List (Int ×Int)}{x:Int×Int}(f:Fit p L x):∀u∈out p L x,mT u=true:=by
 intro u a;unfold out at a;rcases List.mem_append.1 a with h|h;·exact f.all u (uQ h)
 ·simp at h;subst h;exact f.Mu
theorem DJ{p:Pa}{L:List (Int ×Int)}{x:Int×Int}(f:Fit p L x):(out p L x).length≤31:=by have :=pL (x.1-p.t) L;have :=f.iv;unfold out;simp;omega
theorem Em{p:Pa}{L:List (Int×Int)}{x:Int×Int}(h:(gU p L x).2=0):dp p L x=0∧((out p L x).length:Int)≤p.c∧fP (out p L x)≤p.s∧gU p L x=(out p L x,0):=by
 unfold gU at h⊢;by_cases h1:dp p L x=0
 ·rw[ai (by simpa using h1)]at h⊢;by_cases h2:p.c<(out p L x).length∨p.s<fP (out p L x);·rw[aB h2]at h;simp at h
  ·rw[ai h2];exact⟨h1,by omega,by omega,rfl⟩
 ·rw[aB h1]at h;exact absurd h h1
structure Ca where
 m:Int
 h:Int
 p:Pa
 u:List (Int ×Int)
def b7:Ca:=⟨0,0,⟨0,0,0⟩,[]⟩
abbrev off(m h:Int):Prop:=m< -1000000000000∨1000000000000<m∨h<0∨1000000000000<h
def bS(c:Ca):Int:=if off c.m c.h then 3 else if cf c.p≠0 then cf c.p else(cP c.u).1
structure jM(c:Ca):Prop where
 m1:-1000000000000≤c.m
 m2:c.m≤1000000000000
 h1:0≤c.h
 h2:c.h≤1000000000000
 me:cf c.p=0
 cP:(cP c.u).1=0
theorem lj{c:Ca}(h:off c.m c.h):bS c=3:=by unfold bS;rw[aB h]
theorem pr{c:Ca}(h:¬off c.m c.h)(h1:cf c.p≠0):bS c=cf c.p:=by unfold bS;rw[ai h,aB h1]
theorem lH{c:Ca}(h:¬off c.m c.h)(h1:cf c.p=0):bS c=(cP c.u).1:=by unfold bS;rw[ai h,ai (by simpa using h1)]
theorem fE{c:Ca}:bS c=0↔jM c:=by
 constructor
 ·intro h;by_cases h0:off c.m c.h;·rw[lj h0]at h;cases h
  by_cases h1:cf c.p=0;·rw[lH h0 h1]at h;unfold off at h0;exact⟨by omega,by omega,by omega,by omega,h1,h⟩
  ·rw[pr h0 h1]at h;exact absurd h h1
 ·intro h;have h0:¬off c.m c.h:=by have:= h.m1;have :=h.m2;have :=h.h1;have:= h.h2;unfold off;omega
  rw[lH h0 h.me];exact h.cP
def ek(c:Ca)(s t:Int):Ca×Int:=if bS c≠0 then(b7,bS c)else if s<1∨1000000<s∨t<0∨1000000<t then(b7,3)else if c.m<c.h+s then(b7,10)else if(gU c.p c.u (t,s)).2≠0 then(b7,(gU c.p c.u (t,s)).2)else(⟨c.m,c.h+s,c.p,(gU c.p c.u (t,s)).1⟩,0)
def fU(c:Ca)(s:Int):Ca×Int:=if bS c≠0 then(b7,bS c)else if s<1∨1000000<s∨1000000000000<c.h+s then(b7,3)else(⟨c.m,c.h+s,c.p,c.u⟩,0)
abbrev jq(a b:Int):Prop:=a< -1000000000000∨1000000000000<a∨b< -1000000000000∨1000000000000<b
def cF(c:Ca)(a b:Int):Ca×Int:=if bS c≠0 then(b7,bS c)else if jq a b then(b7,3)else if off (c.m+b) (c.h +a)then(b7,10)else(⟨c.m+b,c.h+a,c.p,c.u⟩,0)
theorem ow{c:Ca}{s t:Int}(h:bS c≠0):ek c s t=(b7,bS c):=by unfold ek;rw[aB h]
theorem rI{c:Ca}{s:Int}(h:bS c≠0):fU c s=(b7,bS c):=by unfold fU;rw[aB h]
theorem oE{c:Ca}{a b:Int}(h:bS c≠0):cF c a b=(b7,bS c):=by unfold cF;rw[aB h]
theorem j_{c:Ca}{s t:Int}(h:bS c=0)(h1:s<1∨1000000<s∨t<0∨1000000<t):ek c s t=(b7,3):=by unfold ek;rw[ai (by simpa using h),aB h1]
theorem ou{c:Ca}{s t:Int}(h:bS c=0)(h1:¬(s <1∨1000000<s∨t<0∨1000000<t))(h2:c.m<c.h+s):ek c s t=(b7,10):=by unfold ek;rw[ai (by simpa using h),ai h1,aB h2]
theorem qJ{c:Ca}{s t:Int}(h:bS c=0)(h1:¬(s <1∨1000000<s∨t<0∨1000000<t))(h2:¬c.m<c.h+s)(a:(gU c.p c.u (t,s)).2≠0):ek c s t=(b7,(gU c.p c.u (t,s)).2):=by unfold ek;rw[ai (by simpa using h),ai h1,ai h2,aB a]
theorem sZ{c:Ca}{s t:Int}(h:bS c=0)(h1:¬(s<1∨1000000<s∨t<0∨1000000<t))(h2:¬c.m<c.h+s)(a:(gU c.p c.u (t,s)).2=0):ek c s t=(⟨c.m,c.h+s,c.p,(gU c.p c.u (t,s)).1⟩,0):=by unfold ek;rw[ai (by simpa using h),ai h1,ai h2,ai (by simpa using a)]
theorem oQ{c:Ca}{s:Int}(h:bS c=0)(h1:s<1∨1000000<s∨1000000000000<c.h+s):fU c s=(b7,3):=by unfold fU;rw[ai (by simpa using h),aB h1]
theorem sG{c:Ca}{s:Int}(h:bS c=0)(h1:¬(s<1∨1000000<s∨1000000000000<c.h+s)):fU c s=(⟨c.m,c.h+s,c.p,c.u⟩,0):=by unfold fU;rw[ai (by simpa using h),ai h1]
theorem kl{c:Ca}{a b:Int}(h:bS c=0)(h1:jq a b):cF c a b=(b7,3):=by unfold cF;rw[ai (by simpa using h),aB h1]
theorem oR{c:Ca}{a b:Int}(h:bS c=0)(h1:¬jq a b)(h2:off (c.m+b) (c.h +a)):cF c a b=(b7,10):=by unfold cF;rw[ai (by simpa using h),ai h1,aB h2]
theorem pY{c:Ca}{a b:Int}(h:bS c=0)(h1:¬jq a b)(h2:¬off (c.m+b) (c.h+a)):cF c a b=(⟨c.m+b,c.h+a,c.p,c.u⟩,0):=by unfold cF;rw[ai (by simpa using h),ai h1,ai h2]
theorem tD{c:Ca}{a b:Int}(h:bS c=0):bS ⟨c.m+b,c.h+a,c.p,c.u⟩=0↔¬off (c.m +b) (c.h +a):=by
 have R:=fE.1 h;constructor;·intro h1 h2;rw[lj (c:=⟨c.m+b,c.h+a,c.p,c.u⟩) h2]at h1;cases h1
 ·intro h1;rw[lH (c:=⟨c.m+b,c.h+a,c.p,c.u⟩) h1 R.me];exact R.cP
theorem Bb{c:Ca}{a b:Int}(h:(cF c a b).2=0):bS c=0∧¬jq a b∧¬off (c.m +b) (c.h +a)∧cF c a b=(⟨c.m+b,c.h+a,c.p,c.u⟩,0):=by
 by_cases h0:bS c=0
 ·by_cases h1:jq a b;·rw[kl h0 h1]at h;simp at h
  ·by_cases h2:off (c.m +b) (c.h+a);·rw[oR h0 h1 h2]at h;simp at h
   ·exact⟨h0,h1,h2,pY h0 h1 h2⟩
 ·rw[oE h0]at h;exact absurd h h0
theorem Ab(L:List (Int ×Int)):∀(c:Option Int) (i:Nat),(j' c i L).1=0↔(∀u∈L,mT u=true)∧L.Pairwise (fun a b=>a.1≤b.1)∧∀q,c=some q→∀u∈L,q≤u.1:=by
 induction L with
 |nil=>intro c i;simp[j']
 |cons e r k=>
  intro c i;unfold j'
  cases j:mT e with
  |false=>simp[j]
  |true=>
   rw[ai (by simp)]
   cases c with
   |none=>
    dsimp only;rw[k];simp only[List.mem_cons,forall_eq_or_imp,kG,cS,j,true_and];constructor;·rintro⟨h1,h2,d⟩;exact⟨h1,⟨d e.1 rfl,h2⟩,fun q g=>by cases g⟩
    ·rintro⟨h1,⟨h2,d⟩,-⟩;exact⟨h1,d,fun q g=>by subst g;exact h2⟩
   |some q=>
    dsimp only;by_cases g:e.1<q
    ·rw[aB g];simp only[List.mem_cons,forall_eq_or_imp,cS];constructor;·intro h;simp at h
     ·rintro⟨-,-,d⟩;have :=(d q rfl).1;omega
    ·rw[ai g,k];simp only[List.mem_cons,forall_eq_or_imp,kG,cS,j,true_and];constructor;·rintro⟨h1,h2,d⟩;refine⟨h1,⟨d e.1 rfl,h2⟩,fun l f=>?_⟩;subst f;exact⟨by omega,fun u m=>by have:= d e.1 rfl u m;omega⟩
     ·rintro⟨h1,⟨h2,d⟩,-⟩;exact⟨h1,d,fun l f=>by subst f;exact h2⟩
theorem xu(L:List (Int ×Int)):(cP L).1=0↔L.length≤30∧(∀u∈L,mT u=true)∧L.Pairwise (fun a b=>a.1≤b.1):=by
 unfold cP;by_cases h:30<L.length
 ·rw[aB h];constructor;·intro h1;simp at h1
  ·intro h1;omega
 ·rw[ai h,Ab];constructor;·rintro⟨h1,h2,-⟩;exact⟨by omega,h1,h2⟩
  ·rintro⟨-,h1,h2⟩;exact⟨h1,h2,fun q c=>by cases c⟩
theorem FM{L:List (Int ×Int)}(h:L.Pairwise (fun a b=>a.1≤b.1)):∀u∈L,u.1≤(L.getD (L.length-1) (0,0)).1:=by
 intro u c;obtain⟨i,hi,rfl⟩:=List.mem_iff_getElem.1 c;have d:L.getD (L.length -1) (0,0)=L[L.length-1]:=by simp[List.getD,show L.length-1<L.length by omega]
 rw[d];by_cases e:i=L.length-1;·subst e;exact nz _
 ·exact List.pairwise_iff_getElem.1 h i (L.length-1) hi (by omega) (by omega)
theorem Ih{p:Pa}{L:List (Int×Int)}{x:Int×Int}(h:(gU p L x).2=0)(e:(cP L).1=0):(cP (gU p L x).1).1=0:=by obtain⟨h1,h2,k,i⟩:=Em h;have f:=po h1;have j:=f.me.c2;obtain⟨-,-,u3⟩:=(xu L).1 e;rw[i,xu];refine⟨by dsimp only;omega,xO f,?_⟩;show(gW _ _++[x]).Pairwise _;rw[CM];refine⟨u3.filter _,by simp,fun a g b d=>?_⟩;simp at d;subst d;have c:=uQ g;have:= FM u3 a c;have :=f.last (List.length_pos_of_mem c);omega
theorem CE{c:Ca}{s t:Int}(h:(ek c s t).2=0):jM c∧1≤s∧s≤1000000∧c.h+s≤c.m∧bS (ek c s t).1=0∧(ek c s t).1.m=c.m∧(ek c s t).1.h=c.h+s:=by
 by_cases h0:bS c=0;rotate_left;·rw[ow h0]at h;exact absurd h h0
 by_cases h1:s<1∨1000000<s∨t<0∨1000000<t;·rw[j_ h0 h1]at h;simp at h
 by_cases h2:c.m<c.h+s;·rw[ou h0 h1 h2]at h;simp at h
 by_cases a:(gU c.p c.u (t,s)).2=0;rotate_left;·rw[qJ h0 h1 h2 a]at h;exact absurd h a
 rw[sZ h0 h1 h2 a];have R:=fE.1 h0;have :=R.m1;have :=R.m2;have :=R.h1;have :=R.h2;refine⟨R,by omega,by omega,by omega,?_,rfl,rfl⟩;exact fE.2 ⟨by dsimp only;omega,by dsimp only;omega,by dsimp only;omega,by dsimp only;omega,R.me,Ih a R.cP⟩
open RowKit
def pv(p:Pa):Value:=.agg #[.int .i64 p.t,.int .i64 p.c,.int .i64 p.s]
def uv(u:Int×Int):Value:=.agg #[.int .i64 u.1,.int .i64 u.2]
def ff(w:World)(a:Option Addr)(L:List (Int×Int)):Prop:=L.length≤maxLen∧(L =[]∨∃b off,a=some ⟨b,off,none⟩∧b<w.heap.size∧∀i,i<L.length→w.cell? ⟨b,off+i*2,none⟩=some (.int .i64 (L.getD i (0,0)).1)∧w.cell? ⟨b,off+i*2+1,none⟩=some (.int .i64 (L.getD i (0,0)).2))
theorem ff.below{w e:World}{a:Option Addr}{L:List (Int×Int)}(h:ff w a L)(d:Below w.heap.size w e):ff e a L:=by
 obtain⟨h1,h2⟩:=h;refine⟨h1,?_⟩;rcases h2 with h2|⟨b,off,g,c,f⟩;·exact Or.inl h2
 ·refine Or.inr ⟨b,off,g,bp c d.size,fun i hi=>?_⟩;obtain⟨c1,c2⟩:=f i hi;exact⟨(d.cell (p:=⟨b,off+i*2,none⟩) c).trans c1,(d.cell (p:=⟨b,off+i*2+1,none⟩) c).trans c2⟩
theorem il{a b:Bool}(h:a=b):Ending.returned (.bool a)=.returned (.bool b):=by rw[h]
theorem bP{k:IntKind}{a b:Int}(h:a=b):Ending.returned (.int k a)=.returned (.int k b):=by rw[h]
theorem aW{p:Prop}(h:p):Hid p:=h
theorem tr(p:Pa):(p.t<1∧Hid (cf p=3))∨(1≤p.t∧1000000<p.t∧Hid (cf p=3))∨(1≤p.t∧p.t≤1000000∧p.c<0∧Hid (cf p=3))∨(1 ≤p.t∧p.t≤1000000∧0≤p.c∧30<p.c∧Hid (cf p=3))∨(1≤p.t∧p.t≤1000000∧0≤p.c∧p.c≤30∧p.s<0∧Hid (cf p=3))∨(1≤p.t∧p.t≤1000000∧0≤p.c∧p.c≤30∧0≤p.s∧1000000000000<p.s∧Hid (cf p=3))∨(1 ≤p.t∧p.t≤1000000∧0≤p.c∧p.c≤30∧0≤p.s∧p.s≤1000000000000∧Hid (cf p=0)):=by
 have y:(p.t <1∨1000000<p.t∨p.c<0∨30<p.c∨p.s<0∨1000000000000<p.s)→Hid (cf p=3):=fun h=>by unfold Hid cf;rw[aB h]
 have n:¬(p.t<1∨1000000<p.t∨p.c<0∨30<p.c∨p.s<0∨1000000000000<p.s)→Hid (cf p=0):=fun h=>by unfold Hid cf;rw[ai h]
 by_cases h1:p.t<1;·exact Or.inl ⟨h1,y (by omega)⟩
 by_cases h2:1000000<p.t;·exact Or.inr (Or.inl ⟨by omega,h2,y (by omega)⟩)
 by_cases e:p.c<0;·exact Or.inr (Or.inr (Or.inl ⟨by omega,by omega,e,y (by omega)⟩))
 by_cases d:30<p.c;·exact Or.inr (Or.inr (Or.inr (Or.inl ⟨by omega,by omega,by omega,d,y (by omega)⟩)))
 by_cases b:p.s<0;·exact Or.inr (Or.inr (Or.inr (Or.inr (Or.inl ⟨by omega,by omega,by omega,by omega,b,y (by omega)⟩))))
 by_cases a:1000000000000<p.s;·exact Or.inr (Or.inr (Or.inr (Or.inr (Or.inr (Or.inl ⟨by omega,by omega,by omega,by omega,by omega,a,y (by omega)⟩)))))
 ·exact Or.inr (Or.inr (Or.inr (Or.inr (Or.inr (Or.inr ⟨by omega,by omega,by omega,by omega,by omega,by omega,n (by omega)⟩)))))
theorem dO(p:Pa)(w:World):Calls prog 13 #[pv p] w fun e d=>e=.returned (.int .i64 (cf p))∧Below w.heap.size w d:=by unfold pv;have g:∀o,Below w.heap.size w (w.alloc o):=fun o=>(Below.refl _ _).alloc (aj _) _;rcases tr p with⟨h1,H⟩|⟨h1,h2,H⟩|⟨h1,h2,a,H⟩|⟨h1,h2,a,b,H⟩|⟨h1,h2,a,b,c,H⟩|⟨h1,h2,a,b,c,f,H⟩|⟨h1,h2,a,b,c,f,H⟩;all_goals go_enter func13,ntmps13;go_wp2;go_ret;exact⟨bP H.out.symm,g _⟩
theorem IA(x:Int×Int):(x.1<0∧Hid (mT x=false))∨(0 ≤x.1∧1000000<x.1∧Hid (mT x=false))∨(0≤x.1∧x.1≤1000000∧x.2<0∧Hid (mT x=false))∨(0 ≤x.1∧x.1≤1000000∧0≤x.2∧1000000<x.2∧Hid (mT x=false))∨(0 ≤x.1∧x.1≤1000000∧0≤x.2∧x.2≤1000000∧Hid (mT x=true)):=by
 have y:¬(0 ≤x.1∧x.1≤1000000∧0≤x.2∧x.2≤1000000)→Hid (mT x=false):=fun h=>by
  cases a:mT x with
  |false=>exact rfl
  |true=>exact absurd (j7.1 a) h
 by_cases h1:x.1<0;·exact Or.inl ⟨h1,y (by omega)⟩
 by_cases h2:1000000<x.1;·exact Or.inr (Or.inl ⟨by omega,h2,y (by omega)⟩)
 by_cases c:x.2<0;·exact Or.inr (Or.inr (Or.inl ⟨by omega,by omega,c,y (by omega)⟩))
 by_cases b:1000000<x.2;·exact Or.inr (Or.inr (Or.inr (Or.inl ⟨by omega,by omega,by omega,b,y (by omega)⟩)))
 ·exact Or.inr (Or.inr (Or.inr (Or.inr ⟨by omega,by omega,by omega,by omega,j7.2 ⟨by omega,by omega,by omega,by omega⟩⟩)))
theorem fk(x:Int×Int)(w:World):Calls prog 146 #[uv x] w fun e b=>e=.returned (.bool (mT x))∧Below w.heap.size w b:=by unfold uv;have d:∀o,Below w.heap.size w (w.alloc o):=fun o=>(Below.refl _ _).alloc (aj _) _;rcases IA x with⟨h1,H⟩|⟨h1,h2,H⟩|⟨h1,h2,a,H⟩|⟨h1,h2,a,c,H⟩|⟨h1,h2,a,c,H⟩;all_goals go_enter func146,ntmps146;go_wp2;go_ret;exact⟨il (by first|exact H.out.symm|(rw[H.out];simp;omega)),d _⟩
theorem uB(x:Int×Int)(c:Nat)(o:Int)(w:World)(g:w.cell? ⟨c,0,none⟩=some (.int .i64 o))(a:c<w.heap.size):Calls prog 157 #[uv x,.pointer (some ⟨c,0,none⟩)] w fun e d=>e=.returned (.bool (decide (o<x.1)))∧Below w.heap.size w d:=by
 have f:∀b,(w.alloc b).cell? ⟨c,0,none⟩=some (.int .i64 o):=fun b=>by rw[aY _ _ _ a];exact g
 unfold uv;by_cases h:o<x.1;all_goals go_enter func157,ntmps157;go_wp2;go_ret;exact⟨il (by simp[h]),(Below.refl _ _).alloc (aj _) _⟩
theorem Co(p:Pa)(time:Int)(w:World)(h1:1≤p.t)(h2:p.t≤1000000)(g:0≤time)(f:time≤1000000):Calls prog 147 #[pv p,.int .i64 time] w fun e a=>∃c,e=.returned (.func (.func 157) #[] #[.pointer (some ⟨c,0,none⟩)])∧w.heap.size≤c∧c<a.heap.size∧a.cell? ⟨c,0,none⟩=some (.int .i64 (time-p.t))∧Below w.heap.size w a:=by have d:∀(b:Fn) (first cap:Array Value) (w:World),(Instr.makeFunc b first cap).run prog w=.ok (.func b first cap) w:=fun _ _ _ _=>rfl;unfold pv;go_enter func147,ntmps147;go_wp2;go_ret;exact⟨w.heap.size+1,rfl,by omega,by simp,by simp,((Below.refl _ _).alloc (aj _) _).alloc (by simp) _⟩
open RowKit
structure pd(w:World)(B:Nat)(p:Pa)(n s:Int):Prop where
 me:w.heap[B]?=some (.cells #[.int .i64 p.t,.int .i64 p.c,.int .i64 p.s] 63 (0,0))count:w.heap[B+1]?=some (.cells #[.int .i64 n] 3 (0,0))sum:w.heap[B+2]?=some (.cells #[.int .i64 s] 3 (0,0))
theorem pd.lt{w:World}{B:Nat}{p:Pa}{n s:Int}(h:pd w B p n s):B+2<w.heap.size:=ae h.sum
theorem pd.below{w b:World}{B C:Nat}{p:Pa}{n s:Int}(h:pd w B p n s)(a:Below C w b)(c:B+2<C):pd b B p n s:=⟨(a.block _ (by omega)).trans h.me,(a.block _ (by omega)).trans h.count,(a.block _ c).trans h.sum⟩
theorem ah(w:World)(o:Obj)(k:Nat)(h:k=w.heap.size):(w.alloc o).heap[k]?=some o:=by subst h;show(w.heap.push _)[w.heap.size]?=_;rw[Array.getElem?_push_size]
theorem FD(p:Pa)(w:World):Calls prog 135 #[pv p] w fun e a=>e=.returned (.func (.func 148) #[] #[.pointer (some ⟨w.heap.size+1,0,none⟩),.pointer (some ⟨w.heap.size+2,0,none⟩),.pointer (some ⟨w.heap.size,0,none⟩)])∧pd a w.heap.size p 0 0∧Below w.heap.size w a:=by
 have c:∀(b:Fn) (first cap:Array Value) (w:World),(Instr.makeFunc b first cap).run prog w=.ok (.func b first cap) w:=fun _ _ _ _=>rfl;unfold pv;go_enter func135,ntmps135;go_wp2;go_ret;refine⟨rfl,⟨?_,?_,?_⟩,(((Below.refl _ _).alloc (aj _) _).alloc (by simp) _).alloc (by simp;omega) _⟩;·rw[bC _ _ _ (by simp;omega),bC _ _ _ (by simp),ah _ _ _ rfl]
 ·rw[bC _ _ _ (by simp),ah _ _ _ (by simp)]
 ·rw[ah _ _ _ (by simp)]
theorem Be(x:Int×Int)(B:Nat)(p:Pa)(n s:Int)(w:World)(a:pd w B p n s)(n1:0≤n)(C:n≤100)(s1:0≤s)(s2:s≤1000000000)(A:0≤x.2)(z:x.2≤1000000):Calls prog 148 #[uv x,.pointer (some ⟨B+1,0,none⟩),.pointer (some ⟨B+2,0,none⟩),.pointer (some ⟨B,0,none⟩)] w fun e h=>
   e=.returned (.bool (decide (n +1≤p.c)&&decide (s +x.2≤p.s)))∧pd h B p (n+1) (s+x.2)∧Below B w h:=by
 have r:=a.lt;have g:=aW a;have q:w.cell? ⟨B+1,0,none⟩=some (.int .i64 n):=cell_of_one a.count;have l:w.frozen? ⟨B+1,0,none⟩=false:=free_of_one a.count;have m:w.cell? ⟨B+2,0,none⟩=some (.int .i64 s):=cell_of_one a.sum;have k:w.frozen? ⟨B+2,0,none⟩=false:=free_of_one a.sum;have j:w.cell? ⟨B,1,none⟩=some (.int .i64 p.c):=by simp[World.cell?,a.me]
 have i:w.cell? ⟨B,2,none⟩=some (.int .i64 p.s):=by simp[World.cell?,a.me]
 clear a;have H:∀o,(w.alloc o).cell? ⟨B+1,0,none⟩=some (.int .i64 n):=fun o=>(aY _ _ _ (by omega)).trans q;have G:∀o,(w.alloc o).frozen? ⟨B+1,0,none⟩=false:=fun o=>(dF _ _ _ (by omega)).trans l;have F:∀o,(w.alloc o).cell? ⟨B+2,0,none⟩=some (.int .i64 s):=fun o=>(aY _ _ _ (by omega)).trans m;have d4:∀o,(w.alloc o).frozen? ⟨B+2,0,none⟩=false:=fun o=>(dF _ _ _ (by omega)).trans k;have f:B<w.heap.size:=by omega
 have E:∀o,(w.alloc o).cell? ⟨B,1,none⟩=some (.int .i64 p.c):=fun o=>(aY _ _ _ f).trans j;have D:∀o,(w.alloc o).cell? ⟨B,2,none⟩=some (.int .i64 p.s):=fun o=>(aY _ _ _ f).trans i;have y:∀v u o,Hid (Below B w (((w.alloc o).setCell ⟨B+1,0,none⟩ v).setCell ⟨B+2,0,none⟩ u)):=fun v u o=>(((Below.refl B w).alloc (by omega) _).setCell (by simp) _).setCell (by simp) _
 have t:∀d b o,Hid (pd (((w.alloc o).setCell ⟨B+1,0,none⟩ (.int .i64 d)).setCell ⟨B+2,0,none⟩ (.int .i64 b)) B p d b):=fun d b o=>by
  refine⟨?_,?_,?_⟩;·rw[CN _ _ _ _ (by simp),CN _ _ _ _ (by simp),bC _ _ _ f];exact g.out.me
  ·rw[CN _ _ _ _ (by simp)];exact one_setCell (by rw[bC _ _ _ (by omega)];exact g.out.count)
  ·exact one_setCell (by rw[CN _ _ _ _ (by simp),bC _ _ _ (by omega)];exact g.out.sum)
 clear q l m k j i;unfold uv;by_cases h1:n+1≤p.c<;>by_cases h2:s+x.2≤p.s;all_goals go_enter func148,ntmps148;go_wp2;go_ret;exact⟨il (by simp[h1,h2]),(t _ _ _).out,(y _ _ _).out⟩
open RowKit
theorem ar(w:World)(o:Obj):Below w.heap.size w (w.alloc o):=(Below.refl _ _).alloc (aj _) o
theorem kX{w wr c:World}{o:Obj}(b:Below w.heap.size w wr)(a:Below (wr.alloc o).heap.size (wr.alloc o) c):Below w.heap.size w c:=b.trans ((((Below.refl _ _).alloc (aj _) o).mono b.size).trans (a.mono (by have :=b.size;simp;omega)))
theorem ke{B:Nat}{wr b:World}{o:Obj}(s1:B≤wr.heap.size)(a:Below (wr.alloc o).heap.size (wr.alloc o) b):Below B wr b:=(((Below.refl _ _).alloc (aj _) o).trans (a.mono (by simp))).mono s1
theorem gV{w wr a:World}{x:Int×Int}(s1:w.heap.size+1≤wr.heap.size)(r0:wr.cell? ⟨w.heap.size,0,none⟩=some (.int .i64 0))(r1:wr.cell? ⟨w.heap.size,1,none⟩=some (.int .i64 0))(g:wr.frozen? ⟨w.heap.size,0,none⟩=false)(f:wr.frozen? ⟨w.heap.size,1,none⟩=false)(c:Below (wr.alloc (.cells #[.int .i64 x.1,.int .i64 x.2] 132)).heap.size (wr.alloc (.cells #[.int .i64 x.1,.int .i64 x.2] 132)) a):a.cell? ⟨w.heap.size,0,none⟩=some (.int .i64 0)∧a.cell? ⟨w.heap.size,1,none⟩=some (.int .i64 0)∧a.frozen? ⟨w.heap.size,0,none⟩=false∧a.frozen? ⟨w.heap.size,1,none⟩=false∧a.cell? ⟨wr.heap.size,0,none⟩=some (.int .i64 x.1)∧a.cell? ⟨wr.heap.size,1,none⟩=some (.int .i64 x.2)∧wr.heap.size+1≤a.heap.size∧∀b o,b<wr.heap.size→a.cell? ⟨b,o,none⟩=wr.cell? ⟨b,o,none⟩:=by
 have s2:=c.size;simp only[eG]at s2;have d:∀b o,b<wr.heap.size→a.cell? ⟨b,o,none⟩=wr.cell? ⟨b,o,none⟩:=fun b o h=>(c.cell (p:=⟨b,o,none⟩) (by simp;omega)).trans (aY _ _ _ h);have e:∀b o,b<wr.heap.size→a.frozen? ⟨b,o,none⟩=wr.frozen? ⟨b,o,none⟩:=fun b o h=>(c.frozen (p:=⟨b,o,none⟩) (by simp;omega)).trans (dF _ _ _ h);refine⟨(d _ _ (by omega)).trans r0,(d _ _ (by omega)).trans r1,(e _ _ (by omega)).trans g,(e _ _ (by omega)).trans f,?_,?_,s2,d⟩;·exact(c.cell (p:=⟨wr.heap.size,0,none⟩) (by simp)).trans (by rw[cd _ _ _ _ rfl];rfl)
 ·exact(c.cell (p:=⟨wr.heap.size,1,none⟩) (by simp)).trans (by rw[cd _ _ _ _ rfl];rfl)
theorem dJ{w wr:World}(a:Below (w.heap.size+1) (w.alloc (.cells #[.int .i64 0,.int .i64 0] 47)) wr):wr.cell? ⟨w.heap.size,0,none⟩=some (.int .i64 0)∧wr.cell? ⟨w.heap.size,1,none⟩=some (.int .i64 0)∧wr.frozen? ⟨w.heap.size,0,none⟩=false∧wr.frozen? ⟨w.heap.size,1,none⟩=false:=⟨(a.cell (p:=⟨w.heap.size,0,none⟩) (by simp)).trans (by rw[cd _ _ _ _ rfl];rfl),(a.cell (p:=⟨w.heap.size,1,none⟩) (by simp)).trans (by rw[cd _ _ _ _ rfl];rfl),(a.frozen (p:=⟨w.heap.size,0,none⟩) (by simp)).trans (gr _ _ _ _ rfl),(a.frozen (p:=⟨w.heap.size,1,none⟩) (by simp)).trans (gr _ _ _ _ rfl)⟩
theorem vk(a:Option Addr)(cap:Nat)(L:List (Int×Int))(w:World)(F:ff w a L):Calls prog 132 #[.slice a L.length cap] w fun e Q=>e=.returned (.agg #[.int .i64 (cP L).1,.int .i64 (cP L).2])∧Below w.heap.size w Q:=by
 obtain⟨U,F⟩:=F;unfold maxLen at U;have b1:Below w.heap.size w (w.alloc (.cells #[.int .i64 0,.int .i64 0] 47)):=(Below.refl _ _).alloc (aj _) _;by_cases M:30<L.length
 ·have g:=aW (vR M);have E:(30:Int)<L.length:=by omega
  go_enter func132,ntmps132;go_wp2;refine aA (v:=.agg #[.int .i64 5,.int .i64 0]) (by simp[results,results132,go_sem];try rfl) rfl ⟨?_,?_⟩;·rw[g.out]
  ·first|exact(Below.refl _ _).alloc (aj _) _|exact(b1.setCell (aj _) _).setCell (aj _) _
 have D:L.length≤30:=by omega
 have E:(L.length :Int)≤30:=by omega
 clear M;go_enter func132,ntmps132;go_wp2;go_loopw[11](fun i wr=>∃(k:Nat),k≤L.length∧i=.int .i64 k∧Hid (Good L k)∧Below (w.heap.size+1) (w.alloc (.cells #[.int .i64 0,.int .i64 0] 47)) wr) (fun i _=>L.length-(intOf i).toNat);case atStart=>exact⟨0,bq _,rfl,iq D,Below.refl _ _⟩
 case round=>
  obtain⟨k,W,rfl,l,q⟩:=hrel;have s1:=q.size;simp only[eG]at s1;have n:=b1.trans (q.mono (by omega));obtain⟨r0,r1,A,z⟩:=dJ q;by_cases f:k<L.length
  ·rcases F with rfl|⟨b,off,rfl,m,d⟩;·simp at f
   obtain⟨c1,c2⟩:=d k f;have K:(k :Int)<L.length:=by omega
   have Y:=(n.cell (p:=⟨b,off+k*2,none⟩) m).trans c1;have X:=(n.cell (p:=⟨b,off+k*2+1,none⟩) m).trans c2;have r:0<k→wr.cell? ⟨b,off+(k-1)*2,none⟩=some (.int .i64 (L.getD (k -1) (0,0)).1):=fun h0=>(n.cell (p:=⟨b,off+(k-1)*2,none⟩) m).trans (d (k -1) (by omega)).1;have G:=fun h=>l.out.range f h;have u:=fun h=>l.out.order f h;have o:=fun h=>l.out.next f h;clear c1 c2 d;generalize R:L.getD k (0,0)=x at*;clear R;by_cases j:mT x=false;·have g:=aW (G j);clear G u o l r;go_wp2_with fail;refine(fk x _).mono ?_;rintro e B ⟨rfl,c⟩;rw[j];obtain⟨t,s,I,H,-,-,s2,-⟩:=gV s1 r0 r1 A z c;go_wp2;refine aA (v:=.agg #[.int .i64 3,.int .i64 k]) (by simp[results,results132,go_sem,t,s]) rfl ⟨?_,((kX n c).setCell (aj _) _).setCell (aj _) _⟩;rw[g.out]
   ·have j:mT x=true:=by simpa using j
    by_cases h0:k=0
    ·have g:=aW (o j (by omega));have C:decide (0 <k)=false:=by simp;omega
     clear G u o l r h0;go_wp2_with fail;refine(fk x _).mono ?_;rintro e B ⟨rfl,c⟩;rw[j];obtain⟨t,s,I,H,O,N,s2,-⟩:=gV s1 r0 r1 A z c;go_wp2;go_quiet(fail);go_wp2;go_roundw;case rel=>exact⟨k+1,by omega,by go_num,g,q.trans (br (ke s1 c) _)⟩
     case measure=>simp[intOf];omega
    ·have C:decide (0 <k)=true:=by simp;omega
     have V:0<k:=by omega
     have P:=r (by omega);generalize T:(L.getD (k -1) (0,0)).1=pv at*;clear T;by_cases S:x.1<pv;·have g:=aW (u j (by omega) S);clear G u o l r h0;go_wp2_with fail;refine(fk x _).mono ?_;rintro e B ⟨rfl,c⟩;rw[j];obtain⟨t,s,I,H,O,N,s2,y⟩:=gV s1 r0 r1 A z c;have J:=(y b (off +(k-1)*2) (by omega)).trans P;clear y;go_wp2;go_quiet(fail);go_wp2;refine aA (v:=.agg #[.int .i64 2,.int .i64 k]) (by simp[results,results132,go_sem,t,s]) rfl ⟨?_,((br (kX n c) _).setCell (aj _) _).setCell (aj _) _⟩;rw[g.out]
     ·have g:=aW (o j (by omega));clear G u o l r h0;go_wp2_with fail;refine(fk x _).mono ?_;rintro e B ⟨rfl,c⟩;rw[j];obtain⟨t,s,I,H,O,N,s2,y⟩:=gV s1 r0 r1 A z c;have J:=(y b (off+(k -1)*2) (by omega)).trans P;clear y;go_wp2;go_quiet(fail);go_wp2;go_roundw;case rel=>exact⟨k+1,by omega,by go_num,g,q.trans (br (ke s1 c) _)⟩
      case measure=>simp[intOf];omega
  ·have g:=aW (l.out.done (by omega));clear l;go_wp2;refine aA (v:=.agg #[.int .i64 0,.int .i64 0]) (by simp[results,results132,go_sem,r0,r1]) rfl ⟨?_,(n.setCell (aj _) _).setCell (aj _) _⟩;rw[g.out]
open RowKit
theorem jD(a:Option Addr)(cap:Nat)(L:List (Int ×Int))(r:Option Addr)(m:Nat)(w:World)(n:ff w a L)(o:ff w r L):Calls prog 33 #[.slice a L.length cap,.slice r L.length m] w fun e s=>e=.returned (.bool true)∧Below w.heap.size w s:=by
 obtain⟨t,n⟩:=n;obtain⟨-,o⟩:=o;unfold maxLen at t;go_enter func33,ntmps33;go_wp2;go_loopw[13](fun i wr=>∃k:Nat,k≤L.length∧i=.int .i64 k∧Below w.heap.size w wr) (fun i _=>L.length-(intOf i).toNat);case atStart=>exact⟨0,bq _,rfl,Below.refl _ _⟩
 case round=>
  obtain⟨k,x,rfl,j⟩:=hrel;by_cases f:k<L.length
  ·rcases n with rfl|⟨b,off,rfl,l,d⟩;·simp at f
   rcases o with rfl|⟨b2,g,rfl,h,c⟩;·simp at f
   obtain⟨c1,c2⟩:=d k f;obtain⟨c3,c4⟩:=c k f;have q:(k:Int)<L.length:=by omega
   have B:=(j.cell (p:=⟨b,off+k*2,none⟩) l).trans c1;have A:=(j.cell (p:=⟨b,off+k*2+1,none⟩) l).trans c2;have z:=(j.cell (p:=⟨b2,g+k*2,none⟩) h).trans c3;have y:=(j.cell (p:=⟨b2,g+k*2+1,none⟩) h).trans c4;clear c1 c2 c3 c4 d c;generalize(L.getD k (0,0)).1=v at*;generalize(L.getD k (0,0)).2=u at*;go_wp2;go_quiet(fail);go_wp2;go_roundw;case rel=>exact⟨k+1,by omega,by go_num,br j _⟩
   case measure=>simp[intOf];omega
  ·go_wp2;go_ret;exact⟨rfl,j⟩
theorem info_parts{P:Program}{e:TypeId}{z:Value}{size bytes:Nat}(h:(P.info? e).map (fun i=>(i.zero,i.size,i.bytes))=some (some z,size,bytes)):∃i,P.info? e=some i∧i.zero=some z∧i.size=size∧i.bytes=bytes:=by
 cases hi:P.info? e with
 |none=>simp[hi]at h
 |some i=>simp[hi]at h;exact⟨i,rfl,h⟩
theorem pQ:(prog.info? 132).map (fun i=>(i.zero,i.size,i.bytes))=some (some (.agg #[.int .i64 0,.int .i64 0]),2,16):=by kernel_rfl
def flat(L:List (Int ×Int)):List Value:=L.flatMap fun e=>[Value.int .i64 e.1,Value.int .i64 e.2]
theorem mu(L:List (Int ×Int))(e:Int×Int):flat (L ++[e])=flat L++[Value.int .i64 e.1,Value.int .i64 e.2]:=by simp[flat]
theorem gR{w:World}{aq:Nat}{e:TypeId}{size:Nat}{v:Value}{n:Nat}{xs:List Value}(h:w.ownsRow aq e size v n xs):∀k,v.ownBlock=some k→aq≤k:=by
 intro k a;rcases h.2 with⟨rfl,-⟩|⟨g,cap,c,rfl,b,-⟩;·cases a
 ·cases a;exact b
theorem ly{w b:World}{aq:Nat}{e:TypeId}{size:Nat}{v:Value}{n:Nat}{xs:List Value}(h:w.ownsRow aq e size v n xs)(i:Below w.heap.size w b):b.ownsRow aq e size v n xs:=by
 refine⟨h.1,?_⟩;rcases h.2 with h0|⟨g,cap,a,d,f,c,r⟩;·exact Or.inl h0
 ·exact Or.inr ⟨g,cap,a,d,f,(i.block g (ae c)).trans c,r⟩
theorem iC{w:World}{aq base':Nat}{e:TypeId}{size:Nat}{v:Value}{n:Nat}{xs:List Value}(h:w.ownsRow aq e size v n xs)(d:base'≤aq):w.ownsRow base' e size v n xs:=by
 refine⟨h.1,?_⟩;rcases h.2 with h0|⟨g,cap,a,b,c,r⟩;·exact Or.inl h0
 ·exact Or.inr ⟨g,cap,a,b,bE d c,r⟩
theorem jk{w:World}{aq:Nat}{v:Value}{L:List (Int×Int)}(h:w.ownsRow aq 132 2 v L.length (flat L)):∃a cap,v=.slice a L.length cap∧L.length≤cap∧cap≤maxLen∧ff w a L:=by
 obtain⟨-,h⟩:=h;rcases h with⟨rfl,b⟩|⟨g,cap,s,rfl,t,l,b,k,x,p⟩;·rw[b];exact⟨none,0,rfl,by simp,by simp[maxLen],by simp[maxLen,b],Or.inl (bZ b)⟩
 ·have d:g<w.heap.size:=ae l
  have key:∀j u,(flat L)[j]?=some u→w.cell? ⟨g,j,none⟩=some u:=by
   intro j u c;simp only[World.cell?,l];rw[←p,List.getElem?_take]at c;split at c;·simpa using c
   ·cases c
  refine⟨some ⟨g,0,none⟩,cap,rfl,b,k,bE b k,Or.inr ⟨g,0,rfl,d,fun i hi=>?_⟩⟩
  have f:∀(M:List (Int×Int)) (i:Nat),i<M.length→(flat M)[i*2]?=some (.int .i64 (M.getD i (0,0)).1)∧(flat M)[i*2+1]?=some (.int .i64 (M.getD i (0,0)).2):=by
   intro M
   induction M with
   |nil=>intro i hi;simp at hi
   |cons e r o=>
    intro i hi
    cases i with
    |zero=>simp[flat]
    |succ i=>
     have :=o i (by simpa using hi);have q:(i+1)*2=i*2+1+1:=by omega
     rw[q];simpa[flat]using this
  obtain⟨n,m⟩:=f L i hi;rw[dW];exact⟨key _ _ n,key _ _ m⟩
def Made(w:World)(L:List (Int ×Int))(e:Ending)(a:World):Prop:=∃v,e=.returned v∧a.ownsRow w.heap.size 132 2 v L.length (flat L)∧Below w.heap.size w a
theorem uk(p:Pa)(a:Option Addr)(cap:Nat)(L:List (Int ×Int))(time:Int)(w:World)(H:ff w a L)(h1:1≤p.t)(h2:p.t≤1000000)(h3:0≤time)(h4:time≤1000000)(F:L.length*16≤140737488351232):Calls prog 134 #[pv p,.slice a L.length cap,.int .i64 time] w (Made w (gW (time -p.t) L)):=by
 obtain⟨i0,hi,N,M,K⟩:=info_parts pQ;have D:∀o,Below w.heap.size w (w.alloc o):=fun o=>(Below.refl _ _).alloc (aj _) o;have O:=fun o=>Co p time (w.alloc o) h1 h2 h3 h4;unfold pv at O⊢;generalize time-p.t=o at*;go_enter func134,ntmps134;go_wp2_with fail;refine(O _).mono ?_;rintro e j ⟨c,rfl,S,R,Q,C⟩;have y:Below w.heap.size w j:=(D _).trans (C.mono (by simp));have U:=H.below y;have z:=y.size;clear O H S C D;obtain⟨hm,H⟩:=U;unfold maxLen at hm;go_wp2;go_loopw[8,16](fun v i wr=>∃k:Nat,k≤L.length∧i=.int .i64 k∧wr.ownsRow j.heap.size 132 2 v (gW o (L.take k)).length (flat (gW o (L.take k)))∧Below j.heap.size j wr) (fun _ i _=>L.length-(intOf i).toNat);case atStart=>exact⟨0,bq _,rfl,d_ _ _ _ _,Below.refl _ _⟩
 case round=>
  obtain⟨k,hk,rfl,g,r⟩:=hrel;by_cases n:k<L.length
  ·rcases H with rfl|⟨b,off,rfl,B,m⟩;·simp at n
   obtain⟨c1,c2⟩:=m k n;have Z:(k :Int)<L.length:=by omega
   have e1:=(r.cell (p:=⟨b,off+k*2,none⟩) B).trans c1;have e2:=(r.cell (p:=⟨b,off+k*2+1,none⟩) B).trans c2;have I:∀J,(wr.alloc J).cell? ⟨c,0,none⟩=some (.int .i64 o):=fun J=>((r.alloc r.size J).cell (p:=⟨c,0,none⟩) R).trans Q;have A:=r.size;have X:=aW (uT (o:=o) n);have W:=aW (tw (o:=o) n);have a2:=jG o L k;clear c1 c2 m;generalize hx:L.getD k (0,0)=x at*;clear hx;by_cases G:o<x.1
   ·have E:=aW (X.out G);have q:=jG o L (k +1);rw[E.out]at q;simp at q;clear X W;go_wp2_with fail;refine(uB x c o _ (I _) (by simp;omega)).mono ?_;rintro e w2 ⟨rfl,f⟩;have P:decide (o <x.1)=true:=by simpa using G
    rw[P];have d:=ly (g.alloc _) f;have h:Below j.heap.size j w2:=r.trans (ke A f);have q0:w2.cell? ⟨wr.heap.size,0,none⟩=some (.int .i64 x.1):=(f.cell (p:=⟨wr.heap.size,0,none⟩) (by simp)).trans (by rw[cd _ _ _ _ rfl];rfl);have q1:w2.cell? ⟨wr.heap.size,1,none⟩=some (.int .i64 x.2):=(f.cell (p:=⟨wr.heap.size,1,none⟩) (by simp)).trans (by rw[cd _ _ _ _ rfl];rfl);have a1:=h.size;clear g f I;go_wp2_with(at_builtin;refine wpList_append_own _ rfl _ _ 64 rfl j.heap.size 132 i0 (.agg #[.int .i64 0,.int .i64 0]) 2 16 underlying64 hi N M K rfl (by decide) _ _ _ rfl (d.alloc _) ⟨w2.heap.size,0,none⟩ 1 1 [.int .i64 x.1,.int .i64 x.2] rfl rfl ?c1 ?c2 ?c3 ?c4 ?c5 ?_);case c1=>exact cell_two_new _ _ _ _
    case c2=>intro u Y;simp at Y;rcases Y with rfl|rfl<;>rfl
    case c3=>unfold maxLen;omega
    case c4=>omega
    case c5=>simp;omega
    intro v' w3 s l _;have T:Below j.heap.size j w3:=(h.alloc h.size _).grown l (by simp;omega) (gR d);clear l d;go_wp2;go_roundw;case rel=>exact⟨k+1,by omega,by go_num,by rw[E.out,mu,a_];exact s,T⟩
    case measure=>simp[intOf];omega
   ·have V:=aW (W.out G);clear X W;go_wp2_with fail;refine(uB x c o _ (I _) (by simp;omega)).mono ?_;rintro e w2 ⟨rfl,f⟩;have P:decide (o<x.1)=false:=by simpa using G
    rw[P];have d:=ly (g.alloc _) f;have h:Below j.heap.size j w2:=r.trans (ke A f);clear g f I;go_wp2;go_roundw;case rel=>exact⟨k+1,by omega,by go_num,by rw[V.out];exact d,h⟩
    case measure=>simp[intOf];omega
  ·have HA:=aW (ue (o:=o) (L:=L) (k:=k) (by omega));go_wp2;go_ret;exact⟨_,rfl,iC (by rw[←HA.out];exact g) z,y.trans (r.mono z)⟩
open RowKit
theorem np{p:Pa}{L:List (Int×Int)}{x:Int×Int}(h:cf p≠0):dp p L x=cf p:=by unfold dp;rw[aB h]
theorem nu{p:Pa}{L:List (Int×Int)}{x:Int×Int}(h:cf p=0)(h2:(cP L).1≠0):dp p L x=(cP L).1:=by unfold dp;rw[ai (by simpa using h),aB h2]
theorem tW{p:Pa}{L:List (Int ×Int)}{x:Int×Int}(h:cf p=0)(h2:(cP L).1=0)(a:mT x=false):dp p L x=3:=by unfold dp;rw[ai (by simpa using h),ai (by simpa using h2),aB a]
theorem qs{p:Pa}{L:List (Int ×Int)}{x:Int×Int}(h:cf p=0)(h2:(cP L).1=0)(b:mT x=true)(a:0<L.length∧x.1<(L.getD (L.length-1) (0,0)).1):dp p L x=2:=by unfold dp;rw[ai (by simpa using h),ai (by simpa using h2),ai (by simpa using b),aB a]
theorem qp{p:Pa}{L:List (Int×Int)}{x:Int×Int}(h:cf p=0)(h2:(cP L).1=0)(b:mT x=true)(a:¬(0<L.length∧x.1<(L.getD (L.length-1) (0,0)).1)):dp p L x=0:=by unfold dp;rw[ai (by simpa using h),ai (by simpa using h2),ai (by simpa using b),ai a]
theorem boxes{w a:World}{p:Pa}{x:Int×Int}(b:Below ((w.alloc (.cells #[.int .i64 p.t,.int .i64 p.c,.int .i64 p.s] 63)).alloc (.cells #[.int .i64 x.1,.int .i64 x.2] 132)).heap.size ((w.alloc (.cells #[.int .i64 p.t,.int .i64 p.c,.int .i64 p.s] 63)).alloc (.cells #[.int .i64 x.1,.int .i64 x.2] 132)) a):Below w.heap.size w a∧w.heap.size+1<a.heap.size∧a.heap[w.heap.size]?=some (.cells #[.int .i64 p.t,.int .i64 p.c,.int .i64 p.s] 63)∧a.heap[w.heap.size+1]?=some (.cells #[.int .i64 x.1,.int .i64 x.2] 132):=by
 have s1:=b.size;simp only[eG]at s1;have b1:Below w.heap.size w ((w.alloc (.cells #[.int .i64 p.t,.int .i64 p.c,.int .i64 p.s] 63)).alloc (.cells #[.int .i64 x.1,.int .i64 x.2] 132)):=((Below.refl _ _).alloc (aj _) _).alloc (by simp) _;refine⟨b1.trans (b.mono (by simp;omega)),by omega,?_,?_⟩;·rw[b.block _ (by simp;omega),bC _ _ _ (by simp)];show(w.heap.push _)[w.heap.size]?=_;rw[Array.getElem?_push_size]
 ·rw[b.block _ (by simp)];have: w.heap.size+1=(w.alloc (.cells #[.int .i64 p.t,.int .i64 p.c,.int .i64 p.s] 63)).heap.size:=by simp
  rw[this];show(Array.push _ _)[_]?=_;rw[Array.getElem?_push_size]
theorem gK{w:World}{b:Nat}{x:Int×Int}(h:w.heap[b]?=some (.cells #[.int .i64 x.1,.int .i64 x.2] 132)):w.cell? ⟨b,0,none⟩=some (.int .i64 x.1)∧w.cell? ⟨b,1,none⟩=some (.int .i64 x.2):=by constructor<;>simp[World.cell?,h]
theorem oy{w:World}{b:Nat}{p:Pa}(h:w.heap[b]?=some (.cells #[.int .i64 p.t,.int .i64 p.c,.int .i64 p.s] 63)):w.cell? ⟨b,0,none⟩=some (.int .i64 p.t)∧w.cell? ⟨b,1,none⟩=some (.int .i64 p.c)∧w.cell? ⟨b,2,none⟩=some (.int .i64 p.s):=by refine⟨?_,?_,?_⟩<;>simp[World.cell?,h]
theorem sr(p:Pa)(a:Option Addr)(cap:Nat)(L:List (Int×Int))(x:Int×Int)(w:World)(t:ff w a L):Calls prog 133 #[pv p,.slice a L.length cap,uv x] w fun e O=>e=.returned (.int .i64 (dp p L x))∧Below w.heap.size w O:=by
 unfold pv uv;by_cases h1:cf p=0;rotate_left
 ·have k:=aW (np (L:=L) (x:=x) h1);have H:(cf p !=0)=true:=by simpa using h1
  clear h1;go_enter func133,ntmps133;go_wp2_with fail;refine(dO p _).mono ?_;rintro e K ⟨rfl,d⟩;obtain⟨l,-,-,-⟩:=boxes d;generalize cf p=r at*;go_wp2;go_ret;exact⟨bP k.out.symm,l⟩
 have H:(cf p !=0)=false:=by simpa using h1
 by_cases h2:(cP L).1=0;rotate_left
 ·have k:=aW (nu (L:=L) (x:=x) h1 h2);have z:((cP L).1 !=0)=true:=by simpa using h2
  clear h1 h2;go_enter func133,ntmps133;go_wp2_with fail;refine(dO p _).mono ?_;rintro e K ⟨rfl,d⟩;obtain⟨l,y,-,-⟩:=boxes d;generalize cf p=r at*;have i:=t.below l;go_wp2_with fail;refine(vk a cap L _ i).mono ?_;rintro e w2 ⟨rfl,c⟩;generalize(cP L).1=r1 at*;generalize(cP L).2=r2 at*;have j:Below w.heap.size w w2:=l.trans (c.mono l.size);go_wp2;go_ret;exact⟨bP k.out.symm,j.alloc j.size _⟩
 have z:((cP L).1 !=0)=false:=by simpa using h2
 have D:=aW (tW (L:=L) (x:=x) h1 h2);have C:=aW (qs (L:=L) (x:=x) h1 h2);have u:=aW (qp (L:=L) (x:=x) h1 h2);clear h1 h2;go_enter func133,ntmps133;go_wp2_with fail;refine(dO p _).mono ?_;rintro e K ⟨rfl,d⟩;obtain⟨l,y,-,F⟩:=boxes d;generalize cf p=r at*;have i:=t.below l;clear t;go_wp2_with fail;refine(vk a cap L _ i).mono ?_;rintro e w2 ⟨rfl,c⟩;generalize(cP L).1=r1 at*;generalize(cP L).2=r2 at*;have j:∀o,Below w.heap.size w (w2.alloc o):=fun o=>(l.trans (c.mono l.size)).alloc (by have:= c.size;omega) o;have m:∀o,(w2.alloc o).heap[w.heap.size+1]?=some (.cells #[.int .i64 x.1,.int .i64 x.2] 132):=fun o=>by rw[bC _ _ _ (by have :=c.size;omega),c.block _ y];exact F
 have T:=fun o=>(gK (m o)).1;have X1:=fun o=>(gK (m o)).2;have B:∀o,ff (w2.alloc o) a L:=fun o=>(i.below c).below ((Below.refl _ _).alloc (aj _) o);have P:=c.size;clear d c l i;go_wp2_with fail;refine(fk x _).mono ?_;rintro e N ⟨rfl,g⟩;have n:Below w.heap.size w N:=(j _).trans (g.mono (by simp;omega));have G:=g.size;simp only[eG]at G;have v:=(g.block _ (by simp;omega)).trans (m _);obtain⟨U,Y1⟩:=gK v;have J:=(B _).below g;clear j m T X1 B g v
 cases E:mT x with
 |false=>have k:=aW (D.out E);clear D C u;go_wp2;go_ret;exact⟨bP k.out.symm,n⟩
 |true=>
  obtain⟨R,t⟩:=J;unfold maxLen at R;by_cases h0:L.length=0;·have k:=aW (u.out E (by omega));have I:decide (0 <L.length)=false:=cD (by omega);clear D C u t h0;go_wp2;go_quiet(fail);go_wp2;go_ret;exact⟨bP k.out.symm,br n _⟩
  ·have I:decide (0<L.length)=true:=fQ (by omega);have A:0<L.length:=by omega
   rcases t with rfl|⟨b,off,rfl,S,f⟩;·simp at A
   obtain⟨c1,c2⟩:=f (L.length -1) (by omega);clear f c2;have s:=aW (fun h=>C.out E ⟨A,h⟩);have q:=aW (fun (h :(L.getD (L.length -1) (0,0)).1≤x.1)=>u.out E (by omega));generalize(L.getD (L.length -1) (0,0)).1=pv at*;by_cases M:x.1<pv;·have k:=aW (s.out M);clear D C u h0 s q;go_wp2;go_quiet(fail);go_wp2;go_ret;exact⟨bP k.out.symm,br n _⟩
   ·have k:=aW (q.out (by omega));have Q:pv≤x.1:=by omega
    clear D C u h0 s q M;go_wp2;go_quiet(fail);go_wp2;go_ret;exact⟨bP k.out.symm,br n _⟩
