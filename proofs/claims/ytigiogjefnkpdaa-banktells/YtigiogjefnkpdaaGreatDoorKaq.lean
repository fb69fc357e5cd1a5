import Derived.Test.YtigiogjefnkpdaaGreatDoorKa
set_option maxHeartbeats 4000000
set_option maxRecDepth 100000
open Go.Proofs.Tryz
namespace Go.Proofs.YtigiogjefnkpdaaGreatDoor.Dy
structure Rc where
 sh:Int
 au:Int
 k:Int
 m:Int
def zR:Rc:=⟨0,0,0,0⟩
abbrev noKind(r:Rc):Prop:=r.k<1∨8<r.k
abbrev jq(r:Rc):Prop:=r.sh<0∨7<r.sh∨r.au<0∨29<r.au∨r.m<1∨1000000<r.m
def gJ(r:Rc):Int:=if noKind r then 1 else if jq r then 3 else 0
def cZ(i:Nat):List Rc→Int×Int
 |[]=>(0,0)|r::t=>if gJ r≠0 then(gJ r,(i:Int))else cZ (i+1) t
def eL(l:List Rc):Int×Int:=if 100<l.length then(5,0)else cZ 0 l
theorem eQ{L:List Rc}{k:Nat}(a:k<L.length):L.drop k=L.getD k zR::L.drop (k+1):=by rw[gj a];simp[List.getD,a]
theorem gh{L:List Rc}{k:Nat}(a:k<L.length):L.take (k +1)=L.take k++[L.getD k zR]:=by rw[vI];simp[List.getD,a]
theorem gM{L:List Rc}{k:Nat}(a:k<L.length):L.getD k zR∈L:=by simp[List.getD,a]
theorem oC{L:List Rc}{k:Nat}(a:k<L.length):L.getD k zR=L[k]:=by simp[List.getD,a]
theorem jL{l:List Rc}(h:100<l.length):eL l=(5,0):=by unfold eL;rw[aB h]
def Good(l:List Rc)(k:Nat):Prop:=eL l=cZ k (l.drop k)
theorem iq{l:List Rc}(h:l.length≤100):Good l 0:=by unfold Good eL;rw[ai (by omega)];simp
theorem Good.bad{l:List Rc}{k:Nat}(g:Good l k)(a:k<l.length)(h:gJ (l.getD k zR)≠0):eL l=(gJ (l.getD k zR),(k :Int)):=by rw[g,eQ a];simp only[cZ,aB h]
theorem Good.next{l:List Rc}{k:Nat}(g:Good l k)(a:k<l.length)(h:gJ (l.getD k zR)=0):Good l (k+1):=by unfold Good;rw[g,eQ a];simp only[cZ,h];simp
theorem Good.done{l:List Rc}{k:Nat}(g:Good l k)(a:l.length≤k):eL l=(0,0):=by rw[g,cM a];rfl
structure en(l:List Rc):Prop where
 iv:l.length≤100
 each:∀r∈l,¬noKind r∧¬jq r
theorem vW{r:Rc}:gJ r=0↔¬noKind r∧¬jq r:=by
 unfold gJ;by_cases h1:noKind r;·rw[aB h1];exact⟨fun h=>(by cases h),fun h=>absurd h1 h.1⟩
 rw[ai h1];by_cases h2:jq r;·rw[aB h2];exact⟨fun h=>(by cases h),fun h=>absurd h2 h.2⟩
 ·rw[ai h2];exact⟨fun _=>⟨h1,h2⟩,fun _=>rfl⟩
theorem mI{l:List Rc}:∀{i:Nat},(cZ i l).1=0↔∀r∈l,gJ r=0:=by
 induction l with
 |nil=>intro i;simp[cZ]
 |cons r t b=>
  intro i;by_cases h:gJ r=0;·rw[cZ,ai (by simpa using h),b];exact⟨fun h1 x a=>by rcases List.mem_cons.1 a with rfl|h2;exact h;exact h1 x h2,fun h1 x a=>h1 x (cR _ a)⟩
  ·rw[cZ,aB h];exact⟨fun h1=>absurd h1 h,fun h1=>h1 r bT⟩
theorem gP{l:List Rc}:(eL l).1=0↔en l:=by
 unfold eL;by_cases h:100<l.length;·rw[aB h];exact⟨fun h=>(by cases h),fun r=>absurd r.iv (by omega)⟩
 ·rw[ai h,mI];exact⟨fun h1=>⟨by omega,fun r b=>vW.1 (h1 r b)⟩,fun r x a=>vW.2 (r.each x a)⟩
theorem x'{l:List Rc}:∀{i:Nat},(cZ i l).1=0→cZ i l=(0,0):=by
 induction l with
 |nil=>intro i _;rfl
 |cons r t a=>
  intro i h;by_cases h1:gJ r=0;·rw[cZ,ai (by simpa using h1)]at h⊢;exact a h
  ·rw[cZ,aB h1]at h;exact absurd h h1
theorem um{l:List Rc}(h:(eL l).1=0):eL l=(0,0):=by
 unfold eL at h⊢;split at h;·cases h
 ·rename_i h1;rw[ai h1];exact x' h
def iJ(a b:Rc):Bool:=decide (b.sh <a.sh)||(a.sh==b.sh&&decide (b.au <a.au))
theorem lC{a b:Rc}:iJ a b=true↔b.sh<a.sh∨(a.sh=b.sh∧b.au<a.au):=by unfold iJ;simp
theorem jg{a b:Rc}:iJ a b=false↔¬(b.sh <a.sh∨(a.sh=b.sh∧b.au<a.au)):=by rw[←lC];simp
theorem k_{a b c:Rc}(h1:iJ a b=false)(h2:iJ b c=false):iJ a c=false:=by rw[jg]at*;omega
theorem Cz{a b c:Rc}(h1:iJ a b=false)(h2:iJ c b=true):iJ c a=true:=by rw[jg]at h1;rw[lC]at*;omega
def pos(r:Rc)(out:List Rc):Nat→Nat
 |0=>0
 |n+1=>if iJ (out.getD n zR) r then pos r out n else n+1
def j9(out:List Rc)(r:Rc):List Rc:=out.take (pos r out out.length)++r::out.drop (pos r out out.length)
def cg(l:List Rc):List Rc:=l.foldl j9 []
theorem Bp(r:Rc)(out:List Rc):∀n,pos r out n≤n
 |0=>aj _
 |n+1=>by
  unfold pos;split;·exact Nat.le_succ_of_le (Bp r out n)
  ·exact aj _
theorem uO(r:Rc)(out:List Rc):∀n i,pos r out n≤i→i<n→iJ (out.getD i zR) r=true
 |0,i,_,h=>absurd h (Nat.not_lt_zero _)|n+1,i,h1,h2=>by
  unfold pos at h1;split at h1
  ·rename_i h;rcases jb i n with a|a;·exact uO r out n i h1 a
   ·obtain rfl:i=n:=by omega
    exact h
  ·omega
theorem vZ(r:Rc)(out:List Rc):∀n,0<pos r out n→iJ (out.getD (pos r out n-1) zR) r=false
 |0,h=>absurd h (Nat.lt_irrefl _)|n+1,h=>by
  unfold pos at h⊢;split;·rename_i h1;rw[aB h1]at h;exact vZ r out n h
  ·rename_i h1;simpa using h1
def iV(s:List Rc):Prop:=s.Pairwise fun a b=>iJ a b=false
theorem iV.take{s:List Rc}(h:iV s)(n:Nat):iV (s.take n):=List.Pairwise.sublist (List.take_sublist _ _) h
theorem iV.drop{s:List Rc}(h:iV s)(n:Nat):iV (s.drop n):=List.Pairwise.sublist (List.drop_sublist _ _) h
theorem m0{s:List Rc}{n:Nat}{x:Rc}(h:x∈s.take n):∃i,i<n∧i<s.length∧s.getD i zR=x:=by obtain⟨i,hi,rfl⟩:=ss h;simp at hi;exact⟨i,by omega,by omega,by rw[oC (by omega)];simp⟩
theorem nb{s:List Rc}{n:Nat}{x:Rc}(h:x∈s.drop n):∃i,n≤i∧i<s.length∧s.getD i zR=x:=by obtain⟨i,hi,rfl⟩:=ss h;simp at hi;exact⟨n+i,by omega,by omega,by rw[oC (by omega)];simp⟩
theorem iV.at{s:List Rc}(h:iV s){i j:Nat}(a:i<j)(b:j<s.length):iJ (s.getD i zR) (s.getD j zR)=false:=by rw[oC (by omega),oC b];exact List.pairwise_iff_getElem.1 h i j (by omega) b a
theorem vS{out:List Rc}(h:iV out)(r:Rc){x:Rc}(c:x∈out.take (pos r out out.length)):iJ x r=false:=by
 obtain⟨i,h1,h2,rfl⟩:=m0 c;have a:=vZ r out out.length (by omega);have d:=Bp r out out.length;rcases jb i (pos r out out.length-1)with b|b;·exact k_ (h.at b (by omega)) a
 ·obtain rfl:i=pos r out out.length-1:=by omega
  exact a
theorem qB{out:List Rc}(r:Rc){x:Rc}(a:x∈out.drop (pos r out out.length)):iJ x r=true:=by obtain⟨i,h1,h2,rfl⟩:=nb a;exact uO r out out.length i h1 h2
theorem kQ{a b:Rc}(h:iJ a b=true):iJ b a=false:=by rw[jg];rw[lC]at h;omega
theorem J5{out:List Rc}(h:iV out)(r:Rc):iV (j9 out r):=by
 unfold j9 iV;rw[CM];refine⟨h.take _,?_,?_⟩;·rw[kG];exact⟨fun x a=>kQ (qB r a),h.drop _⟩
 ·intro x a y hy;rcases List.mem_cons.1 hy with rfl|hy;·exact vS h _ a
  ·exact k_ (vS h r a) (kQ (qB r hy))
theorem Di:iV []:=List.Pairwise.nil
theorem Fv(l:List Rc):∀out,iV out→iV (l.foldl j9 out):=by
 induction l with
 |nil=>intro out h;exact h
 |cons r t a=>intro out h;exact a _ (J5 h r)
theorem lL(l:List Rc):iV (cg l):=Fv l [] Di
theorem Ci(out:List Rc)(r:Rc):(j9 out r).length=out.length+1:=by unfold j9;have:= Bp r out out.length;simp;omega
theorem sf(l:List Rc):∀out,(l.foldl j9 out).length=out.length+l.length:=by
 induction l with
 |nil=>intro out;simp
 |cons r t a=>intro out;rw[lN,a,Ci];simp;omega
theorem fj(l:List Rc):(cg l).length=l.length:=by unfold cg;rw[sf];simp
def key(a b:Int)(r:Rc):Bool:=r.sh==a&&r.au==b
theorem ku{a b:Int}{r:Rc}:key a b r=true↔r.sh=a∧r.au=b:=by unfold key;simp
theorem Hs{a b:Int}{r x:Rc}(h:key a b r=true)(c:iJ x r=true):key a b x=false:=by
 rw[ku]at h;rw[lC]at c;cases d:key a b x;·rfl
 ·rw[ku]at d;omega
theorem BS(out:List Rc)(r:Rc)(a b:Int):(j9 out r).filter (key a b)=out.filter (key a b)++[r].filter (key a b):=by
 unfold j9;rw[ei,gY];by_cases c:key a b r=true
 ·rw[aB c];have h0:(out.drop (pos r out out.length)).filter (key a b)=[]:=List.filter_eq_nil_iff.2 fun x d=>by rw[Hs c (qB r d)];simp
  have h1:out.filter (key a b)=(out.take (pos r out out.length)).filter (key a b):=by conv=>lhs;rw[←cL (pos r out out.length) out,ei,h0,iG]
  rw[h0,h1];simp[c]
 ·rw[ai c,←ei,cL];simp[c]
theorem foldl_filter(l:List Rc)(a b:Int):∀out,(l.foldl j9 out).filter (key a b)=out.filter (key a b)++l.filter (key a b):=by
 induction l with
 |nil=>intro out;simp
 |cons r t c=>intro out;rw[lN,c,BS,fi,←ei];rfl
theorem lE(l:List Rc)(a b:Int):(cg l).filter (key a b)=l.filter (key a b):=by unfold cg;rw[foldl_filter];rfl
theorem Dq:∀{s t:List Rc},iV s→iV t→(∀a b,s.filter (key a b)=t.filter (key a b))→s=t:=by
 intro s
 induction s with
 |nil=>
  intro t _ _ h
  cases t with
  |nil=>rfl
  |cons y e=>have:= h y.sh y.au;rw[gY,aB (ku.2 ⟨rfl,rfl⟩)]at this;cases this
 |cons x f i=>
  intro t l k h
  cases t with
  |nil=>have:= h x.sh x.au;rw[gY,aB (ku.2 ⟨rfl,rfl⟩)]at this;cases this
  |cons y e=>
   have d:=List.pairwise_cons.1 l;have c:=List.pairwise_cons.1 k;have hy:y∈x::f:=by have h1:=h y.sh y.au;have h2:y∈(y ::e).filter (key y.sh y.au):=List.mem_filter.2 ⟨bT,ku.2 ⟨rfl,rfl⟩⟩;rw[←h1]at h2;exact(List.mem_filter.1 h2).1
   have j:x∈y::e:=by have h1:=h x.sh x.au;have h2:x∈(x::f).filter (key x.sh x.au):=List.mem_filter.2 ⟨bT,ku.2 ⟨rfl,rfl⟩⟩;rw[h1]at h2;exact(List.mem_filter.1 h2).1
   have g1:iJ x y=false:=by
    rcases List.mem_cons.1 hy with h1|h1;·rw[h1,jg];omega
    ·exact d.1 y h1
   have g2:iJ y x=false:=by
    rcases List.mem_cons.1 j with h1|h1;·rw[h1,jg];omega
    ·exact c.1 x h1
   have g:x.sh=y.sh∧x.au=y.au:=by rw[jg]at g1 g2;omega
   have h1:=h x.sh x.au;rw[gY,aB (ku.2 ⟨rfl,rfl⟩),gY,aB (ku.2 ⟨g.1.symm,g.2.symm⟩)]at h1;obtain⟨rfl,-⟩:=List.cons.inj h1;congr 1;refine i d.2 c.2 fun a b=>?_;have h2:=h a b;rw[gY,gY]at h2;split at h2;·exact(List.cons.inj h2).2
   ·exact h2
theorem pE{s:List Rc}(h:iV s):cg s=s:=Dq (lL s) h (lE s)
theorem Da{l s:List Rc}(h:iV s)(c:∀a b,s.filter (key a b)=l.filter (key a b)):s=cg l:=Dq h (lL l) fun a b=>by rw[c,lE]
def gk(f:Rc→Int):List Rc→Int
 |[]=>0
 |r::t=>f r+gk f t
theorem oA(f:Rc→Int)(a b:List Rc):gk f (a ++b)=gk f a+gk f b:=by
 induction a with
 |nil=>simp[gk]
 |cons r t c=>simp only[mU,gk,c];omega
theorem Fe(f:Rc→Int)(out:List Rc)(r:Rc):gk f (j9 out r)=gk f out+f r:=by
 unfold j9;conv=>rhs;rw[←cL (pos r out out.length) out]
 rw[oA,oA,gk];omega
theorem Ak(f:Rc→Int)(l:List Rc):∀out,gk f (l.foldl j9 out)=gk f out+gk f l:=by
 induction l with
 |nil=>intro out;simp[gk]
 |cons r t a=>intro out;rw[lN,a,Fe,gk];omega
theorem Bt(f:Rc→Int)(l:List Rc):gk f (cg l)=gk f l:=by unfold cg;rw[Ak];simp[gk]
theorem uC(f:Rc→Int){L:List Rc}{j:Nat}(a:j<L.length):gk f (L.take (j+1))=gk f (L.take j)+f (L.getD j zR):=by rw[gh a,oA];simp[gk]
theorem zz{l:List Rc}{r:Rc}:r∈cg l↔r∈l:=by
 have h:∀(x:Rc) (L:List Rc),x∈L↔x∈L.filter (key x.sh x.au):=fun x L=>by rw[List.mem_filter];exact⟨fun h=>⟨h,ku.2 ⟨rfl,rfl⟩⟩,fun h=>h.1⟩
 rw[h,lE,←h]
theorem en.sort{l:List Rc}(h:en l):en (cg l):=⟨by rw[fj];exact h.iv,fun r a=>h.each r (zz.1 a)⟩
def iQ(L c:List Rc):Prop:=∀a b,c.filter (key a b)=L.filter (key a b)
theorem iQ.refl(L:List Rc):iQ L L:=fun _ _=>rfl
theorem iQ.trans{A B C:List Rc}(h:iQ A B)(c:iQ B C):iQ A C:=fun a b=>(c a b).trans (h a b)
theorem iQ.app{A d B c:List Rc}(h:iQ A d)(e:iQ B c):iQ (A ++B) (d++c):=fun a b=>by rw[ei,ei,h,e]
theorem nF(L:List Rc):iQ L (cg L):=fun a b=>lE L a b
theorem iQ.sorted{L a:List Rc}(h:iQ L a)(b:iV a):a=cg L:=Da b h
theorem qX{U V:List Rc}(h:∀x∈U,∀y∈V,iJ x y=true):iQ (U++V) (V ++U):=by
 intro a b;rw[ei,ei];by_cases d:U.filter (key a b)=[];·rw[d];simp
 ·have f:V.filter (key a b)=[]:=by rw[List.filter_eq_nil_iff];intro y hy g;apply d;rw[List.filter_eq_nil_iff];intro x e c;have :=Hs g (h x e y hy);rw[this]at c;cases c
  rw[f];simp
def AW(L:List Rc)(i j:Nat):List Rc:=(L.set i (L.getD j zR)).set j (L.getD i zR)
theorem Hw(P:List Rc)(x:Rc)(Q:List Rc):(P ++x::Q).getD P.length zR=x:=by simp[List.getD]
theorem nI{P:List Rc}{n:Nat}(h:n=P.length)(x:Rc)(Q:List Rc):(P ++x::Q).getD n zR=x:=by subst h;exact Hw P x Q
theorem Kh(P:List Rc)(x z:Rc)(Q:List Rc):(P++x::Q).set P.length z=P++z::Q:=by
 induction P with
 |nil=>rfl
 |cons y P a=>simp
theorem uG{P:List Rc}{n:Nat}(h:n=P.length)(x z:Rc)(Q:List Rc):(P++x::Q).set n z=P++z::Q:=by subst h;exact Kh P x z Q
theorem xA(P:List Rc)(x:Rc)(M:List Rc)(y:Rc)(Q:List Rc){i j:Nat}(hi:i=P.length)(a:j=P.length+1+M.length):AW (P++x::(M ++y::Q)) i j=P++y::(M ++x::Q):=by
 have e:∀z w:Rc,P++z::(M ++w::Q)=(P ++z::M)++w::Q:=fun z w=>by simp
 have h1:(P ++x::(M ++y::Q)).getD i zR=x:=nI hi x _;have h2:(P++x::(M ++y::Q)).getD j zR=y:=by rw[e];exact nI (by simp;omega) y _
 unfold AW;rw[h1,h2,uG hi,e,uG (by simp;omega),e]
theorem Gu{L:List Rc}{i j:Nat}(a:i≠j):AW L i j=AW L j i:=by unfold AW;rw[List.set_comm _ _ a]
theorem Iz(P:List Rc)(x y:Rc)(Q:List Rc){i j:Nat}(hi:i=P.length)(a:j=P.length+1):AW (P ++x::y::Q) j i=P++y::x::Q:=by rw[Gu (by omega)];exact xA P x [] y Q hi (by simp[a])
def mid(S:List Rc)(x:Rc)(p:Nat):List Rc:=S.take p++x::S.drop p
theorem jJ(S:List Rc)(x:Rc){p:Nat}(h:p≤S.length):(mid S x p).length=S.length+1:=by unfold mid;simp;omega
theorem J6(S:List Rc)(x:Rc):mid S x S.length=S++[x]:=by unfold mid;simp
theorem s6(S:List Rc)(x:Rc){p:Nat}(h:p<S.length):mid S x (p +1)=S.take p++S.getD p zR::x::S.drop (p+1):=by unfold mid;rw[gh h];simp
theorem qM(S:List Rc)(x:Rc){p:Nat}(h:p<S.length):mid S x p=S.take p++x::S.getD p zR::S.drop (p+1):=by unfold mid;rw[eQ h]
theorem CO(P S:List Rc)(x:Rc)(Q:List Rc){p i j:Nat}(h:p<S.length)(hi:i=P.length+p)(a:j=P.length+p+1):AW (P ++(mid S x (p +1)++Q)) j i=P++(mid S x p++Q):=by
 rw[s6 S x h,qM S x h];have e:∀y z:Rc,P++((S.take p++y::z::S.drop (p+1))++Q)=(P ++S.take p)++y::z::(S.drop (p +1)++Q):=fun y z=>by simp
 rw[e,e];exact Iz _ _ _ _ (by simp;omega) (by simp;omega)
theorem ug(P S:List Rc)(x:Rc)(Q:List Rc){p i:Nat}(h:p≤S.length)(hi:i=P.length+p):(P++(mid S x p++Q)).getD i zR=x:=by
 have e:P++(mid S x p++Q)=(P ++S.take p)++x::(S.drop p++Q):=by unfold mid;simp
 rw[e];exact nI (by simp;omega) _ _
theorem vY(P S:List Rc)(x:Rc)(Q:List Rc){p i:Nat}(h:p<S.length)(hi:i=P.length+p):(P ++(mid S x (p +1)++Q)).getD i zR=S.getD p zR:=by
 have e:P++(mid S x (p +1)++Q)=(P++S.take p)++S.getD p zR::x::(S.drop (p+1)++Q):=by rw[s6 S x h];simp
 rw[e];exact nI (by simp;omega) _ _
theorem FF(X:List Rc)(x:Rc):cg (X ++[x])=j9 (cg X) x:=by unfold cg;rw[List.foldl_append];rfl
theorem wC{X:List Rc}{k:Nat}(h:k<X.length):cg (X.take (k +1))=j9 (cg (X.take k)) (X.getD k zR):=by rw[gh h,FF]
theorem DF{S:List Rc}{x:Rc}{p:Nat}(h:pos x S S.length=p):j9 S x=mid S x p:=by unfold j9 mid;rw[h]
theorem zW{S:List Rc}{x:Rc}{p:Nat}(h:iJ (S.getD p zR) x=false):pos x S (p +1)=p+1:=by unfold pos;rw[ai (by rw[h];simp)]
theorem Gt{S:List Rc}{x:Rc}{p:Nat}(h:iJ (S.getD p zR) x=true):pos x S (p+1)=pos x S p:=by
 conv=>lhs;unfold pos
 rw[aB h]
def Fc(P U V W Q:List Rc)(i:Nat):List Rc:=P++((W.take i++U.drop i)++(V ++((U.take i++W.drop i)++Q)))
theorem Hu(P U V W Q:List Rc):Fc P U V W Q 0=P++(U ++(V ++(W ++Q))):=by simp[Fc]
theorem JA{P U V W Q:List Rc}{n:Nat}(b:U.length=n)(a:W.length=n):Fc P U V W Q n=P++(W ++(V++(U ++Q))):=by unfold Fc;rw[cM (by omega),cM (by omega),gf (by omega),gf (by omega)];simp
theorem qA{P U V W Q:List Rc}{n i:Nat}(b:U.length=n)(a:W.length=n)(hi:i≤n):(Fc P U V W Q i).length=P.length+n+V.length+n+Q.length:=by unfold Fc;simp;omega
theorem Jg{P U V W Q:List Rc}{n i a b:Nat}(d:U.length=n)(c:W.length=n)(hi:i<n)(g:a=P.length+i)(f:b=P.length+n+V.length+i):AW (Fc P U V W Q i) a b=Fc P U V W Q (i +1):=by
 unfold Fc;rw[eQ (L:=U) (k:=i) (by omega),eQ (L:=W) (k:=i) (by omega),gh (L:=U) (k:=i) (by omega),gh (L:=W) (k:=i) (by omega)];have e:∀x y:Rc,P++((W.take i++x::U.drop (i +1))++(V++((U.take i++y::W.drop (i+1))++Q)))=(P ++W.take i)++x::((U.drop (i+1)++V++U.take i)++y::(W.drop (i +1)++Q)):=fun x y=>by simp
 rw[e,xA _ _ _ _ _ (by simp;omega) (by simp;omega)];simp
theorem Ho{S:List Rc}(c:iV S){i:Nat}{y:Rc}(h:i=0∨iJ (S.getD (i-1) zR) y=false)(hi:i≤S.length):∀x∈S.take i,iJ x y=false:=by
 intro x b;obtain⟨j,h1,h2,rfl⟩:=m0 b;rcases h with rfl|h;·omega
 ·rcases jb j (i -1)with a|a;·exact k_ (c.at a (by omega)) h
  ·obtain rfl:j=i-1:=by omega
   exact h
theorem vU{a b c:Rc}(h1:iJ a b=false)(h2:iJ c b=true):iJ c a=true:=Cz h1 h2
theorem Eu{a b c:Rc}(h1:iJ b a=true)(h2:iJ b c=false):iJ c a=true:=by rw[jg]at h2;rw[lC]at*;omega
theorem Lj{S:List Rc}(c:iV S){i:Nat}{y:Rc}(h:i=0∨iJ y (S.getD (i-1) zR)=true)(hi:i≤S.length):∀x∈S.take i,iJ y x=true:=by
 intro x b;obtain⟨j,h1,h2,rfl⟩:=m0 b;rcases h with rfl|h;·omega
 ·rcases jb j (i -1)with a|a;·exact vU (c.at a (by omega)) h
  ·obtain rfl:j=i-1:=by omega
   exact h
theorem K_{S:List Rc}(c:iV S){i:Nat}{y:Rc}(h:i=S.length∨iJ y (S.getD i zR)=false):∀x∈S.drop i,iJ y x=false:=by
 intro x b;obtain⟨j,h1,h2,rfl⟩:=nb b;rcases h with rfl|h;·omega
 ·rcases jb i j with a|a;·exact k_ h (c.at a h2)
  ·obtain rfl:j=i:=by omega
   exact h
theorem IM{S:List Rc}(c:iV S){i:Nat}{y:Rc}(h:i=S.length∨iJ (S.getD i zR) y=true):∀x∈S.drop i,iJ x y=true:=by
 intro x b;obtain⟨j,h1,h2,rfl⟩:=nb b;rcases h with rfl|h;·omega
 ·rcases jb i j with a|a;·exact Eu h (c.at a h2)
  ·obtain rfl:j=i:=by omega
   exact h
theorem BH{x:Rc}{Y:List Rc}(hy:iV Y){i:Nat}(hi:i≤Y.length)(h1:i=0∨iJ x (Y.getD (i -1) zR)=true)(h2:i=Y.length∨iJ x (Y.getD i zR)=false):Y.take i++x::Y.drop i=cg (x ::Y):=by
 have c:=Lj hy h1 hi;have d:=K_ hy h2;refine iQ.sorted ?_ ?_;·have: iQ (([x]++Y.take i)++Y.drop i) ((Y.take i++[x])++Y.drop i):=(qX (U:=[x]) (by simpa using c)).app (iQ.refl _);simpa using this
 ·unfold iV;rw[CM];refine⟨hy.take i,List.pairwise_cons.2 ⟨d,hy.drop i⟩,fun y a z b=>?_⟩;rcases List.mem_cons.1 b with rfl|b;·exact kQ (c y a)
  ·exact k_ (kQ (c y a)) (d z b)
theorem merge_right{y:Rc}{X:List Rc}(c:iV X){i:Nat}(hi:i≤X.length)(h1:i=0∨iJ (X.getD (i-1) zR) y=false)(h2:i=X.length∨iJ (X.getD i zR) y=true):X.take i++y::X.drop i=cg (X ++[y]):=by
 have e:=Ho c h1 hi;have d:=IM c h2;refine iQ.sorted ?_ ?_;·have :iQ (X.take i++(X.drop i++[y])) (X.take i++([y]++X.drop i)):=(iQ.refl _).app (qX (by simpa using d));simpa[←List.append_assoc]using this
 ·unfold iV;rw[CM];refine⟨c.take i,List.pairwise_cons.2 ⟨fun z a=>kQ (d z a),c.drop i⟩,fun x b z a=>?_⟩;rcases List.mem_cons.1 a with rfl|a;·exact e x b
  ·exact k_ (e x b) (kQ (d z a))
theorem iV.app{A B:List Rc}(b:iV A)(a:iV B)(h:∀x∈A,∀y∈B,iJ x y=false):iV (A ++B):=List.pairwise_append.2 ⟨b,a,h⟩
theorem iV.left{A B:List Rc}(h:iV (A++B)):iV A:=(List.pairwise_append.1 h).1
theorem iV.right{A B:List Rc}(h:iV (A ++B)):iV B:=(List.pairwise_append.1 h).2.1
theorem iV.KB{A B:List Rc}(h:iV (A++B)):∀x∈A,∀y∈B,iJ x y=false:=(List.pairwise_append.1 h).2.2
theorem Bj{X1 X2 Y1 Y2:List Rc}(e:iV (X1 ++X2))(d:iV (Y1 ++Y2))(h1:∀x∈X1,∀y∈Y2,iJ x y=false)(h2:∀x∈X2,∀y∈Y1,iJ x y=true):cg (X1 ++Y1)++cg (X2 ++Y2)=cg ((X1++X2)++(Y1 ++Y2)):=by
 refine iQ.sorted ?_ ?_
 ·have a:iQ (X1 ++(X2 ++Y1)++Y2) (X1 ++(Y1 ++X2)++Y2):=((iQ.refl _).app (qX h2)).app (iQ.refl _);have b:iQ ((X1 ++Y1)++(X2++Y2)) (cg (X1 ++Y1)++cg (X2 ++Y2)):=(nF _).app (nF _);have g:X1++(X2++Y1)++Y2=(X1 ++X2)++(Y1 ++Y2):=by simp
  have f:X1++(Y1 ++X2)++Y2=(X1 ++Y1)++(X2 ++Y2):=by simp
  rw[g,f]at a;exact a.trans b
 ·refine iV.app (lL _) (lL _) fun x c y hy=>?_;rw[zz,List.mem_append]at c hy;rcases c with c|c<;>rcases hy with hy|hy;·exact e.KB x c y hy
  ·exact h1 x c y hy
  ·exact kQ (h2 y hy x c)
  ·exact d.KB x c y hy
theorem DU{X Y:List Rc}(e:iV X)(d:iV Y){i j:Nat}(hi:i≤X.length)(g:j≤Y.length)(h1:i=0∨j=Y.length∨iJ (X.getD (i -1) zR) (Y.getD j zR)=false)(h2:i=X.length∨j=0∨iJ (X.getD i zR) (Y.getD (j-1) zR)=true):cg (X.take i++Y.take j)++cg (X.drop i++Y.drop j)=cg (X++Y):=by
 have key:=Bj (X1:=X.take i) (X2:=X.drop i) (Y1:=Y.take j) (Y2:=Y.drop j) (by rwa[cL]) (by rwa[cL]) ?_ ?_;·rw[cL,cL]at key;exact key
 ·intro x a y hy;rcases h1 with rfl|rfl|h1;·simp at a
  ·simp at hy
  ·obtain⟨p,f,c,rfl⟩:=nb hy;refine Ho e (i:=i) (Or.inr ?_) hi x a;rcases jb j p with b|b;·exact k_ h1 (d.at b c)
   ·obtain rfl:p=j:=by omega
    exact h1
 ·intro x a y hy;rcases h2 with rfl|rfl|h2;·simp at a
  ·simp at hy
  ·obtain⟨p,f,c,rfl⟩:=m0 hy;refine IM e (i:=i) (Or.inr ?_) x a;rcases jb p (j -1)with b|b;·exact vU (d.at b (by omega)) h2
   ·obtain rfl:p=j-1:=by omega
    exact h2
theorem qu{X Y:List Rc}(b:iV X)(a:iV Y)(h:X=[]∨Y=[]):cg (X ++Y)=X++Y:=by
 rcases h with rfl|rfl;·simpa using pE a
 ·simpa using pE b
def mK(s:Nat):List (List Rc)→Prop
 |[]=>True
 |[B]=>B.length≤s∧iV B
 |B::C::r=>B.length=s∧iV B∧mK s (C ::r)
def Full(s:Nat)(D:List (List Rc)):Prop:=∀B∈D,B.length=s∧iV B
theorem Ao(s:Nat):Full s []:=fun _ h=>by cases h
theorem Full.snoc{s:Nat}{D:List (List Rc)}(h:Full s D){Z:List Rc}(b:Z.length=s)(a:iV Z):Full s (D++[Z]):=by
 intro B c;rcases List.mem_append.1 c with h1|h1;·exact h B h1
 ·rw[List.mem_singleton.1 h1];exact⟨b,a⟩
theorem Full.J4{s:Nat}:∀{D:List (List Rc)},Full s D→∀{Z:List Rc},Z.length≤s→iV Z→mK s (D ++[Z])|[],_,_,b,a=>⟨b,a⟩|[B],h,_,b,a=>⟨(h B bT).1,(h B bT).2,b,a⟩|B::C::r,h,_,b,a=>⟨(h B bT).1,(h B bT).2,Full.J4 (D:=C::r) (fun x c=>h x (cR _ c)) b a⟩
theorem mK.two{s:Nat}(a:0<s):∀{B:List (List Rc)},mK s B→2*s≤B.flatten.length→∃X Y r,B=X::Y::r∧X.length=s∧Y.length=s∧iV X∧iV Y∧mK s r
 |[],_,h2=>by simp at h2;omega
 |[X],h,h2=>by simp[mK]at h h2;omega
 |[X,Y],h,h2=>by simp only[mK]at h;simp only[lT,List.flatten_nil,iG,a_]at h2;exact⟨X,Y,[],rfl,h.1,by omega,h.2.1,h.2.2.2,trivial⟩
 |X::Y::Z::r,h,_=>by simp only[mK]at h;exact⟨X,Y,Z::r,rfl,h.1,h.2.2.1,h.2.1,h.2.2.2.1,h.2.2.2.2⟩
theorem mK.last{s:Nat}(_hs:0<s):∀{B:List (List Rc)},mK s B→B.flatten.length<2*s→s<B.flatten.length→∃X Y,B.flatten=X++Y∧X.length=s∧iV X∧iV Y
 |[],_,h2,a=>by simp at a
 |[X],h,h2,a=>by simp[mK]at h a;omega
 |[X,Y],h,h2,a=>by simp only[mK]at h;exact⟨X,Y,by simp,h.1,h.2.1,h.2.2.2⟩|X::Y::Z::r,h,h2,_=>by simp only[mK]at h;simp only[lT,a_]at h2;omega
theorem mK.small{s:Nat}(b:0<s):∀{B:List (List Rc)},mK s B→B.flatten.length≤s→iV B.flatten
 |[],_,_=>Di
 |[X],h,_=>by simpa[mK]using h.2
 |[X,Y],h,a=>by simp only[mK]at h;simp only[lT,List.flatten_nil,iG,a_]at a;have: Y=[]:=bZ (by omega);subst this;simpa using h.2.1
 |X::Y::Z::r,h,h2=>by simp only[mK]at h;simp only[lT,a_]at h2;omega
theorem jo(D:List (List Rc))(Z:List Rc):(D++[Z]).flatten=D.flatten++Z:=by simp
theorem cut(L:List Rc){n:Nat}(h:n≤L.length):∃A B,L=A++B∧A.length=n:=⟨L.take n,L.drop n,(cL n L).symm,by simp;omega⟩
