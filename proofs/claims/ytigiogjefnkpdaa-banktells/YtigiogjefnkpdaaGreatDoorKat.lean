import Derived.Test.YtigiogjefnkpdaaGreatDoorKar
set_option maxHeartbeats 4000000
set_option maxRecDepth 100000
open Go.Proofs.Tryz
namespace Go.Proofs.YtigiogjefnkpdaaGreatDoor.Dy
open RowKit Gn
theorem oG(P U V W Q L h:List Rc)(n:Nat)(k:U.length=n)(j:W.length=n)(q:P++(U ++(V ++(W ++Q)))=L)(f:P++(W++(V++(U ++Q)))=h)(g N cap:Nat)(a b c:Int)(o:a=P.length)(m:b=P.length+n+V.length)(l:c=n)(w:World)(p:N=L.length)(d:N≤1152921504606846976)(r:iO w g L):Calls prog 159 #[.slice (some ⟨g,0,none⟩) N cap,.int .i64 a,.int .i64 b,.int .i64 c,.func (.func 129) #[] #[]] w fun e i=>e=.returned (.tuple #[])∧nO w g h i:=by subst q f;have:= vG P U V W Q n k j g N cap P.length (P.length+n+V.length) rfl rfl w p d r;subst o l m;simpa[fo]using this
theorem rA(P X Q:List Rc)(g N cap:Nat)(a b:Int)(h:a=P.length)(f:b=P.length+X.length)(w:World)(i:N=(P++(X++Q)).length)(c:N≤1152921504606846976)(j:iO w g (P ++(X ++Q))):Calls prog 150 #[.slice (some ⟨g,0,none⟩) N cap,.int .i64 a,.int .i64 b,.func (.func 129) #[] #[]] w fun e d=>e=.returned (.tuple #[])∧nO w g (P ++(cg X++Q)) d:=by have:= vE P X Q g N cap P.length (P.length+X.length) rfl rfl w i c j;subst h f;simpa[fo]using this
theorem Cd(P U V Q L C:List Rc)(hU:0<U.length)(hV:0<V.length)(hL:P++(U++(V++Q))=L)(k:P++(V ++(U ++Q))=C)(g N cap a m b:Nat)(ha:a=P.length)(hm:m=P.length+U.length)(hb:b=P.length+U.length+V.length)(w:World)(hN:N=L.length)(B:N≤1152921504606846976)(hB:iO w g L):Calls prog 158 #[.slice (some ⟨g,0,none⟩) N cap,.int .i64 a,.int .i64 m,.int .i64 b,.func (.func 129) #[] #[]] w fun e w'=>e=.returned (.tuple #[])∧nO w g C w':=by
 have Z:P.length+U.length+V.length+Q.length=N:=by rw[hN,←hL];simp;omega
 obtain⟨u0,G⟩:∃u0:Nat,U.length=u0:=⟨_,rfl⟩;obtain⟨A,F⟩:∃A:Nat,V.length=A:=⟨_,rfl⟩;have a7:a≤m:=by omega
 have a6:m≤b:=by omega
 have a5:b≤N:=by omega
 have e1:(m :Int)-a=u0:=by omega
 have e2:(b:Int)-m=A:=by omega
 have a4:IntKind.i64.wrap ((m :Int)-a)=u0:=(wrap64 (by omega) (by omega)).trans e1;have a3:IntKind.i64.wrap ((b:Int)-m)=A:=(wrap64 (by omega) (by omega)).trans e2;have y:P.length+u0=m:=by omega
 have d:Hid (P ++(V ++(U++Q))=C):=k;have HL:Hid (P ++(U ++(V ++Q))=L):=hL;have HN:Hid (N=L.length):=hN;have s:0<u0:=by omega
 have r:0<A:=by omega
 have X:P.length+u0+A+Q.length=N:=by omega
 clear hL k hN ha hm hb hU hV Z;go_enter func158,ntmps158;go_wp2;go_loopw[10,11](fun i j wr=>∃(u v p q:Nat) (P U V Q:List Rc),i=.int .i64 u∧j=.int .i64 v∧0<u∧0<v∧p+u=m∧p+u+v+q=N∧Hid (P.length =p)∧Hid (U.length =u)∧Hid (V.length =v)∧Hid (Q.length =q)∧Below g w wr∧Hid (P ++(V ++(U++Q))=C)∧Hid (iO wr g (P ++(U ++(V ++Q))))) (fun i j _=>(intOf i).toNat+(intOf j).toNat);case atStart=>exact⟨u0,A,P.length,Q.length,P,U,V,Q,rfl,rfl,s,r,y,X,rfl,G,F,rfl,Below.refl _ _,d,by rw[HL.out];exact hB⟩
 case round=>
  clear hB HL d G F y X P U V Q e1 e2 a4 a3 s r;obtain⟨u,v,p,q,P,U,V,Q,rfl,rfl,hu,hv,y,X,x,h,f,Y,o,k,l⟩:=hrel;have z:N=(P ++(U ++(V ++Q))).length:=by have:= x.out;have :=h.out;have:= f.out;have :=Y.out;simp;omega
  have t:=aW z;clear z;by_cases h1:u=v
  ·subst h1;have a2:((u :Int)!=(u:Int))=false:=by simp
   have W:P++(U ++([]++(V ++Q)))=P++(U++(V++Q)):=by simp
   have T:P++(V ++([]++(U++Q)))=C:=by rw[←k.out];simp
   have c1:=aW W;have c2:=aW T;clear W T;go_wp2_with(go_at_call 159;refine(oG P U [] V Q _ _ u h.out f.out c1.out c2.out g N cap _ _ _ (by have:= x.out;omega) (by have:= x.out;simp;omega) rfl _ t.out B l.out).mono ?_;rintro e w1 ⟨rfl,c⟩);go_end0;exact⟨rfl,o.trans c.bel,c.F'⟩
  ·have a2:((u :Int)!=(v:Int))=true:=by simp;omega
   by_cases h2:v<u
   ·have a1:(v:Int)<u:=by omega
    obtain⟨K,E,rfl,s⟩:=cut U (n:=v) (by have:= h.out;omega);have I:E.length=u-v:=by have:= h.out;simp at this;omega
    have c1:Hid (P++(K++(E++(V++Q)))=P++((K++E)++(V ++Q))):=aW (by simp);have e3:IntKind.i64.wrap ((u:Int)-v)=((u-v:Nat):Int):=(wrap64 (by omega) (by omega)).trans (by omega);have e4:IntKind.i64.wrap ((m:Int)-u)=p:=(wrap64 (by omega) (by omega)).trans (by omega);have S:=aW s;have R:=aW I;clear s I;have c3:Hid ((P++V)++(K ++(E ++Q))=C):=aW (by rw[←k.out];simp);go_wp2_with(go_at_call 159;refine(oG P K E V Q _ _ v S.out f.out c1.out rfl g N cap _ _ _ (by have :=x.out;omega) (by have :=x.out;have:= R.out;omega) rfl _ t.out B l.out).mono ?_;rintro e w1 ⟨rfl,c⟩);go_roundw
    case rel=>
     refine⟨u-v,v,p+v,q,P++V,E,K,Q,by go_num,rfl,by omega,hv,by omega,by omega,?_,R,S,Y,o.trans c.bel,c3,?_⟩;·have h3:=x.out;have h4:=f.out;exact aW (by simp;omega)
     ·have :=c.F';exact aW (by simpa using this)
    case measure=>simp[intOf];omega
   ·have a1:¬((v :Int)<u):=by omega
    obtain⟨J,D,rfl,r⟩:=cut V (n:=v-u) (by have :=f.out;omega);have H:D.length=u:=by have :=f.out;simp at this;omega
    have c1:Hid (P ++(U ++(J ++(D ++Q)))=P++(U++((J++D)++Q))):=aW (by simp);have e3:IntKind.i64.wrap ((v:Int)-u)=((v-u:Nat):Int):=(wrap64 (by omega) (by omega)).trans (by omega);have e4:IntKind.i64.wrap ((m:Int)-u)=p:=(wrap64 (by omega) (by omega)).trans (by omega);have O:=aW r;have M:=aW H;clear r H;have c3:Hid (P ++(J++(D ++(U++Q)))=C):=aW (by rw[←k.out];simp);go_wp2_with(go_at_call 159;refine(oG P U J D Q _ _ u h.out M.out c1.out rfl g N cap _ _ _ (by have:= x.out;omega) (by have:= x.out;have :=O.out;omega) rfl _ t.out B l.out).mono ?_;rintro e w1 ⟨rfl,c⟩);go_roundw
    case rel=>
     refine⟨u,v-u,p,u+q,P,D,J,U++Q,rfl,by go_num,hu,by omega,y,by omega,x,M,O,?_,o.trans c.bel,c3,?_⟩;·have h3:=h.out;have h4:=Y.out;exact aW (by simp;omega)
     ·have :=c.F';exact aW (by simpa using this)
    case measure=>simp[intOf];omega
theorem iO.eight{w:World}{g:Nat}{L:List Rc}(h:iO w g L){i j:Nat}{x y:Rc}(hi:i<L.length)(b:j<L.length)(a:L.getD i zR=x)(hy:L.getD j zR=y):w.cell? ⟨g,i*4,none⟩=some (.int .i64 x.sh)∧w.cell? ⟨g,i*4+1,none⟩=some (.int .i64 x.au)∧w.cell? ⟨g,i*4+2,none⟩=some (.int .i64 x.k)∧w.cell? ⟨g,i*4+3,none⟩=some (.int .i64 x.m)∧w.cell? ⟨g,j*4,none⟩=some (.int .i64 y.sh)∧w.cell? ⟨g,j*4+1,none⟩=some (.int .i64 y.au)∧w.cell? ⟨g,j*4+2,none⟩=some (.int .i64 y.k)∧w.cell? ⟨g,j*4+3,none⟩=some (.int .i64 y.m):=by subst a hy;obtain⟨c1,c2,c3,c4⟩:=h.cells hi;obtain⟨e,d,c,d4⟩:=h.cells b;exact⟨c1,c2,c3,c4,e,d,c,d4⟩
theorem Ik(P S:List Rc)(x:Rc)(Q:List Rc){p i j:Nat}(h:p<S.length)(hi:i=P.length+p)(a:j=P.length+p+1):AW (P ++(mid S x p++Q)) i j=P++(mid S x (p +1)++Q):=by
 rw[s6 S x h,qM S x h];have e:∀y z:Rc,P++((S.take p++y::z::S.drop (p +1))++Q)=(P++S.take p)++y::z::(S.drop (p +1)++Q):=fun y z=>by simp
 rw[e,e];exact xA _ _ [] _ _ (by simp;omega) (by simp;omega)
theorem IF(P S:List Rc)(x:Rc)(Q:List Rc){p i:Nat}(h:p<S.length)(hi:i=P.length+p+1):(P++(mid S x p++Q)).getD i zR=S.getD p zR:=by
 have e:P++(mid S x p++Q)=(P++S.take p++[x])++S.getD p zR::(S.drop (p+1)++Q):=by rw[qM S x h];simp
 rw[e];exact nI (by simp;omega) _ _
theorem rC(P Y Q:List Rc){i:Nat}(h1:P.length≤i)(h2:i<P.length+Y.length):(P++(Y++Q)).getD i zR=Y.getD (i-P.length) zR:=by simp only[List.getD];rw[qj h1,iP (by omega)]
theorem yI(P Y Q:List Rc)(x:Rc)(hY:iV Y)(g N cap a m b:Nat)(ha:a=P.length)(hm:m=a+1)(hb:b=m+Y.length)(w:World)(hN:N=(P++(mid Y x 0++Q)).length)(b3:N≤1152921504606846976)(hB:iO w g (P ++(mid Y x 0++Q))):Calls prog 151 #[.slice (some ⟨g,0,none⟩) N cap,.int .i64 a,.int .i64 m,.int .i64 b,.func (.func 129) #[] #[]] w fun e l=>e=.returned (.tuple #[])∧nO w g (P ++(cg (x ::Y)++Q)) l:=by
 have a5:P.length+1+Y.length+Q.length=N:=by rw[hN,a_,a_,jJ _ _ (bq _)];omega
 have HN:Hid (N =(P ++(mid Y x 0++Q)).length):=hN;have V:P++(mid Y x 0++Q)=(P++[x])++(Y++Q):=by simp[mid]
 have R:(P++(mid Y x 0++Q)).getD a zR=x:=ug P Y x Q (bq _) (by omega);have O:∀h,m≤h→h<b→(P ++(mid Y x 0++Q)).getD h zR=Y.getD (h -m) zR:=fun h h1 h2=>by rw[V,rC (P++[x]) Y Q (by simp;omega) (by simp;omega)];congr 1;simp;omega
 have aa:=aW R;have a9:=aW O;have Ha:=aW ha;have Hb:=aW hb;have e1:IntKind.i64.wrap ((m:Int)-a)=1:=(wrap64 (by omega) (by omega)).trans (by omega);have a2:m≤b:=by omega
 have ay:b≤N:=by omega
 have b0:a<m:=by omega
 have s:Hid (m=a+1):=hm;clear hN V R O ha hb a5 hm;go_enter func151,ntmps151;go_wp2;go_loopw[10,11] (fun i j wr=>∃(p q:Nat),i=.int .i64 p∧j=.int .i64 q∧m≤p∧p≤q∧q≤b∧Below g w wr∧Hid (p =m∨iJ x (Y.getD (p -1-m) zR)=true)∧Hid (q =b∨iJ x (Y.getD (q -m) zR)=false)∧Hid (iO wr g (P ++(mid Y x 0++Q)))) (fun i j _=>(intOf j).toNat-(intOf i).toNat);case atStart=>exact⟨m,b,rfl,rfl,aj _,a2,aj _,Below.refl _ _,Or.inl rfl,Or.inl rfl,hB⟩
 case round=>
  clear hB;obtain⟨p,q,rfl,rfl,h1,h2,h3,d,F,G,c⟩:=hrel;by_cases M:p<q
  ·have A:(p :Int)<q:=by omega
   obtain⟨h,hh,a4,aw⟩:∃h:Nat,((p :Int)+(q :Int))/2=(h :Int)∧p≤h∧h<q:=⟨(p +q)/2,by omega,by omega,by omega⟩;have H:=a9.out h (by omega) (by omega);obtain⟨y,hy⟩:∃y,Hid (Y.getD (h-m) zR=y):=⟨_,rfl⟩;rw[hy.out]at H;have a3:h<N:=by omega
   have U:a<N:=by omega
   have D:=c.out.lt;have f:∀W:World,Below wr.heap.size wr W→W.cell? ⟨g,h*4,none⟩=some (.int .i64 y.sh)∧W.cell? ⟨g,h*4+1,none⟩=some (.int .i64 y.au)∧W.cell? ⟨g,h*4+2,none⟩=some (.int .i64 y.k)∧W.cell? ⟨g,h*4+3,none⟩=some (.int .i64 y.m)∧W.cell? ⟨g,a*4,none⟩=some (.int .i64 x.sh)∧W.cell? ⟨g,a*4+1,none⟩=some (.int .i64 x.au)∧W.cell? ⟨g,a*4+2,none⟩=some (.int .i64 x.k)∧W.cell? ⟨g,a*4+3,none⟩=some (.int .i64 x.m):=fun W hb=>(c.out.below hb D).eight (by rw[←HN.out];exact a3) (by rw[←HN.out];exact U) H aa.out;obtain⟨c1,c2,c3,c4,d1,d2,d3,d4⟩:=f wr (Below.refl _ _);have Hh:=aW hh;have ak:(h:Int)<N:=by omega
   have ag:(a:Int)<N:=by omega
   obtain⟨o,ho⟩:∃o,Hid (xY y x=o):=⟨_,rfl⟩;have n:∀W:World,Calls prog 129 #[rv y,rv x] W fun e l=>e=.returned (.int .i64 o)∧Below W.heap.size W l:=fun W=>by rw[←ho.out];exact pT y x W
   unfold rv at n;clear H;go_upto_region 5 with fail;try simp only[hh]
   clear hh;go_region_held3 (fun l=>l.cell? ⟨g,h*4,none⟩=some (.int .i64 y.sh)∧l.cell? ⟨g,h*4+1,none⟩=some (.int .i64 y.au)∧l.cell? ⟨g,h*4+2,none⟩=some (.int .i64 y.k)∧l.cell? ⟨g,h*4+3,none⟩=some (.int .i64 y.m)∧l.cell? ⟨g,a*4,none⟩=some (.int .i64 x.sh)∧l.cell? ⟨g,a*4+1,none⟩=some (.int .i64 x.au)∧l.cell? ⟨g,a*4+2,none⟩=some (.int .i64 x.k)∧l.cell? ⟨g,a*4+3,none⟩=some (.int .i64 x.m)) (first|exact⟨c1,c2,c3,c4,d1,d2,d3,d4⟩|exact f _ v)
    ((go_at_call 129;refine(n _).mono ?_;rintro e w1 ⟨rfl,T⟩;have v:Below wr.heap.size wr w1:=(Below.refl wr.heap.size wr).drew.trans T;clear T));have X:=aW (c.out.below v D);have S:Below g w w1:=d.trans (v.mono (Nat.le_of_lt D));clear f n v;by_cases L:o<0
   ·have t:iJ x y=true:=rD.1 (by rw[ho.out];exact L);have r:Hid (h+1=m∨iJ x (Y.getD (h +1-1-m) zR)=true):=aW (Or.inr (by rw[Nat.add_sub_cancel,hy.out];exact t));clear t;go_wp2_with fail;go_roundw;case rel=>exact⟨h+1,q,by go_num,rfl,by omega,by omega,h3,S,r,G,X⟩
    case measure=>simp[intOf];omega
   ·have t:iJ x y=false:=tV.1 (by rw[ho.out];exact L);have r:Hid (h =b∨iJ x (Y.getD (h -m) zR)=false):=aW (Or.inr (by rw[hy.out];exact t));clear t;go_wp2_with fail;go_roundw;case rel=>exact⟨p,h,rfl,rfl,h1,a4,by omega,S,F,r,X⟩
    case measure=>simp[intOf];omega
  ·obtain rfl:q=p:=by omega
   have B:Y.take (q -m)++x::Y.drop (q -m)=cg (x::Y):=by
    refine BH hY (by have :=Hb.out;omega) ?_ ?_
    ·rcases F.out with h|h;·exact Or.inl (by omega)
     ·refine Or.inr ?_;rw[show q-m-1=q-1-m by omega];exact h
    ·rcases G.out with h|h;·exact Or.inl (by have :=Hb.out;omega)
     ·exact Or.inr h
   have Z:=aW B;have HM:∀p,p≤Y.length→(P ++(mid Y x p++Q)).length=N:=fun p hp=>by rw[HN.out,a_,a_,a_,a_,jJ _ _ hp,jJ _ _ (bq _)]
   have af:=aW HM;have I:((q :Int)-1)=((q -1:Nat):Int):=by have :=s.out;omega
   have am:IntKind.i64.wrap ((q:Int)-1)=((q-1:Nat):Int):=(wrap64 (by omega) (by omega)).trans I;have a1:a≤q-1:=by have:= s.out;omega
   clear B HM M F G I;go_wp2_with fail;generalize wr=W0 at*;go_loopw[13] (fun i wr=>∃p:Nat,i=.int .i64 p∧a≤p∧p≤q-1∧Below g w wr∧Hid (iO wr g (P++(mid Y x (p-a)++Q)))) (fun i _=>q-(intOf i).toNat);case atStart=>exact⟨a,rfl,aj _,a1,d,by rw[Nat.sub_self];exact c⟩
   case round=>
    clear c d;obtain⟨p,rfl,ao,an,d,c⟩:=hrel;by_cases M:p<q-1
    ·have A:(p :Int)<((q -1:Nat):Int):=by omega
     have J:p-a<Y.length:=by have:= s.out;have:= Hb.out;omega
     have hL:=aW (af.out (p-a) (by omega));have C:=ug P Y x Q (p:=p-a) (i:=p) (by omega) (by have :=Ha.out;omega);have u:=IF P Y x Q (p:=p-a) (i:=p+1) J (by have :=Ha.out;omega);have E:=aW (Ik P Y x Q (p:=p-a) (i:=p) (j:=p+1) J (by have :=Ha.out;omega) (by have:= Ha.out;omega));obtain⟨y,hy⟩:∃y,Hid (Y.getD (p -a) zR=y):=⟨_,rfl⟩;rw[hy.out]at u;have K:p+1<N:=by have:= s.out;have:= Hb.out;omega
     have z:p<N:=by omega
     obtain⟨c1,c2,c3,c4,d1,d2,d3,d4⟩:=c.out.eight (by rw[hL.out];exact z) (by rw[hL.out];exact K) C u;have fr:=c.out.free;have a7:=aW C;have a6:=aW u;have ak:(p :Int)+1<N:=by omega
     have ag:(p :Int)<N:=by omega
     clear C u;go_upto_region 11 with fail;go_region;have hP:=c.out.AW (i:=p) (j:=p+1) (by rw[hL.out];exact z) (by rw[hL.out];exact K) a7.out a6.out;have hQ:=i_ (i_ d g (p *4) (aj _) y) g ((p+1)*4) (aj _) x;rw[E.out]at hP;unfold xJ at hP hQ;go_wp2_with fail;go_roundw;case rel=>exact⟨p+1,by go_num,by omega,by omega,hQ.drew,by rw[show p+1-a=p-a+1 by omega];exact hP.drew⟩
     case measure=>simp[intOf];omega
    ·have A:¬((p :Int)<((q-1:Nat):Int)):=by omega
     have hE:Hid (iO wr g (P++(cg (x ::Y)++Q))):=by have :=c.out;rw[show p-a=q-m by have:= s.out;omega]at this;unfold mid at this;rw[Z.out]at this;exact this
     go_wp2_with fail;refine aA (results_none rfl _ _ _) rfl ?_;exact⟨rfl,d,hE.out⟩
theorem xG(P X Q:List Rc)(y:Rc)(hX:iV X)(g N cap a m b:Nat)(ha:a=P.length)(hm:m=a+X.length)(a3:0<X.length)(a2:X.length≠1)(hb:b=m+1)(w:World)(hN:N=(P ++(mid X y X.length++Q)).length)(b6:N≤1152921504606846976)(hB:iO w g (P ++(mid X y X.length++Q))):Calls prog 151 #[.slice (some ⟨g,0,none⟩) N cap,.int .i64 a,.int .i64 m,.int .i64 b,.func (.func 129) #[] #[]] w fun e n=>e=.returned (.tuple #[])∧nO w g (P ++(cg (X++[y])++Q)) n:=by
 have a7:P.length+X.length+1+Q.length=N:=by rw[hN,a_,a_,jJ _ _ (aj _)];omega
 have HN:Hid (N =(P ++(mid X y X.length++Q)).length):=hN;have V:P++(mid X y X.length++Q)=P++(X++([y]++Q)):=by simp[mid]
 have S:(P ++(mid X y X.length++Q)).getD m zR=y:=ug P X y Q (aj _) (by omega);have R:∀h,a≤h→h<m→(P ++(mid X y X.length++Q)).getD h zR=X.getD (h -a) zR:=fun h h1 h2=>by rw[V,rC P X _ (by omega) (by omega),ha]
 have ag:=aW S;have af:=aW R;have Ha:=aW ha;have Hb:=aW hb;obtain⟨c,hc⟩:∃c:Nat,m-a=c:=⟨_,rfl⟩;have b0:((c :Int)==1)=false:=by simp;omega
 have e1:IntKind.i64.wrap ((m:Int)-a)=c:=(wrap64 (by omega) (by omega)).trans (by omega);have e2:IntKind.i64.wrap ((b:Int)-m)=1:=(wrap64 (by omega) (by omega)).trans (by omega);have a1:a<m:=by omega
 have a6:m<N:=by omega
 have b3:b≤N:=by omega
 have A:Hid (m =a+X.length):=hm;clear hN V S R ha hb a7 hm a3 a2 hc;go_enter func151,ntmps151;go_wp2;go_loopw[14,15] (fun i j wr=>∃(p q:Nat),i=.int .i64 p∧j=.int .i64 q∧a≤p∧p≤q∧q≤m∧Below g w wr∧Hid (p=a∨iJ (X.getD (p -1-a) zR) y=false)∧Hid (q =m∨iJ (X.getD (q-a) zR) y=true)∧Hid (iO wr g (P ++(mid X y X.length++Q)))) (fun i j _=>(intOf j).toNat-(intOf i).toNat);case atStart=>exact⟨a,m,rfl,rfl,aj _,Nat.le_of_lt a1,aj _,Below.refl _ _,Or.inl rfl,Or.inl rfl,hB⟩
 case round=>
  clear hB;obtain⟨p,q,rfl,rfl,h1,h2,h3,f,I,J,d⟩:=hrel;by_cases O:p<q
  ·have D:(p :Int)<q:=by omega
   obtain⟨h,hh,a5,ay⟩:∃h:Nat,((p:Int)+(q :Int))/2=(h:Int)∧p≤h∧h<q:=⟨(p +q)/2,by omega,by omega,by omega⟩;have K:=af.out h (by omega) (by omega);obtain⟨x,hy⟩:∃x,Hid (X.getD (h-a) zR=x):=⟨_,rfl⟩;rw[hy.out]at K;have a4:h<N:=by omega
   have G:=d.out.lt;have l:∀W:World,Below wr.heap.size wr W→W.cell? ⟨g,m*4,none⟩=some (.int .i64 y.sh)∧W.cell? ⟨g,m*4+1,none⟩=some (.int .i64 y.au)∧W.cell? ⟨g,m*4+2,none⟩=some (.int .i64 y.k)∧W.cell? ⟨g,m*4+3,none⟩=some (.int .i64 y.m)∧W.cell? ⟨g,h*4,none⟩=some (.int .i64 x.sh)∧W.cell? ⟨g,h*4+1,none⟩=some (.int .i64 x.au)∧W.cell? ⟨g,h*4+2,none⟩=some (.int .i64 x.k)∧W.cell? ⟨g,h*4+3,none⟩=some (.int .i64 x.m):=fun W hb=>(d.out.below hb G).eight (by rw[←HN.out];exact a6) (by rw[←HN.out];exact a4) ag.out K;obtain⟨c1,c2,c3,c4,d1,d2,d3,d4⟩:=l wr (Below.refl _ _);have an:(h :Int)<N:=by omega
   have am:(m :Int)<N:=by omega
   obtain⟨o,ho⟩:∃o,Hid (xY y x=o):=⟨_,rfl⟩;have s:∀W:World,Calls prog 129 #[rv y,rv x] W fun e n=>e=.returned (.int .i64 o)∧Below W.heap.size W n:=fun W=>by rw[←ho.out];exact pT y x W
   unfold rv at s;clear K;go_upto_region 17 with fail;try simp only[hh]
   clear hh;go_region_held3 (fun n=>n.cell? ⟨g,m*4,none⟩=some (.int .i64 y.sh)∧n.cell? ⟨g,m*4+1,none⟩=some (.int .i64 y.au)∧n.cell? ⟨g,m*4+2,none⟩=some (.int .i64 y.k)∧n.cell? ⟨g,m*4+3,none⟩=some (.int .i64 y.m)∧n.cell? ⟨g,h*4,none⟩=some (.int .i64 x.sh)∧n.cell? ⟨g,h*4+1,none⟩=some (.int .i64 x.au)∧n.cell? ⟨g,h*4+2,none⟩=some (.int .i64 x.k)∧n.cell? ⟨g,h*4+3,none⟩=some (.int .i64 x.m)) (first|exact⟨c1,c2,c3,c4,d1,d2,d3,d4⟩|exact l _ B)
    ((go_at_call 129;refine(s _).mono ?_;rintro e w1 ⟨rfl,U⟩;have B:Below wr.heap.size wr w1:=(Below.refl wr.heap.size wr).drew.trans U;clear U));have Y:=aW (d.out.below B G);have T:Below g w w1:=f.trans (B.mono (Nat.le_of_lt G));clear l s B;by_cases z:o<0
   ·have u:iJ x y=true:=rD.1 (by rw[ho.out];exact z);have t:Hid (h=m∨iJ (X.getD (h -a) zR) y=true):=aW (Or.inr (by rw[hy.out];exact u));have hd:decide (o <0)=true:=by simpa using z
    simp only[hd,AT];clear u;go_wp2_with fail;go_roundw;case rel=>exact⟨p,h,rfl,rfl,h1,a5,by omega,T,I,t,Y⟩
    case measure=>simp[intOf];omega
   ·have u:iJ x y=false:=tV.1 (by rw[ho.out];exact z);have t:Hid (h +1=a∨iJ (X.getD (h+1-1-a) zR) y=false):=aW (Or.inr (by rw[Nat.add_sub_cancel,hy.out];exact u));have hd:decide (o <0)=false:=by simpa using z
    simp only[hd,vJ];clear u;go_wp2_with fail;go_roundw;case rel=>exact⟨h+1,q,by go_num,rfl,by omega,by omega,h3,T,t,J,Y⟩
    case measure=>simp[intOf];omega
  ·obtain rfl:q=p:=by omega
   have E:X.take (q -a)++y::X.drop (q -a)=cg (X ++[y]):=by
    refine merge_right hX (by have:= A.out;omega) ?_ ?_
    ·rcases I.out with h|h;·exact Or.inl (by omega)
     ·refine Or.inr ?_;rw[show q-a-1=q-1-a by omega];exact h
    ·rcases J.out with h|h;·exact Or.inl (by have :=A.out;omega)
     ·exact Or.inr h
   have Z:=aW E;have HM:∀p,p≤X.length→(P++(mid X y p++Q)).length=N:=fun p hp=>by rw[HN.out,a_,a_,a_,a_,jJ _ _ hp,jJ _ _ (aj _)]
   have ak:=aW HM;clear E HM O I J;go_wp2_with fail;generalize wr=W0 at*;go_loopw[17] (fun i wr=>∃p:Nat,i=.int .i64 p∧q≤p∧p≤m∧Below g w wr∧Hid (iO wr g (P ++(mid X y (p -a)++Q)))) (fun i _=>(intOf i).toNat);case atStart=>exact⟨m,rfl,h3,aj _,f,by rw[show m-a=X.length by have:= A.out;omega];exact d⟩
   case round=>
    clear d f;obtain⟨p,rfl,aw,ao,f,d⟩:=hrel;by_cases O:q<p
    ·obtain⟨r,rfl⟩:∃r,p=r+1:=⟨p-1,by omega⟩;have D:(q :Int)<(r :Int)+1:=by omega
     have L:r-a<X.length:=by have:= A.out;omega
     rw[show r+1-a=r-a+1 by omega]at d;have hL:=aW (ak.out (r -a+1) (by omega));have F:=ug P X y Q (p:=r-a+1) (i:=r+1) (by omega) (by have :=Ha.out;omega);have v:=vY P X y Q (p:=r-a) (i:=r) L (by have:= Ha.out;omega);have H:=aW (CO P X y Q (p:=r-a) (i:=r) (j:=r+1) L (by have:= Ha.out;omega) (by have :=Ha.out;omega));obtain⟨x,hy⟩:∃x,Hid (X.getD (r -a) zR=x):=⟨_,rfl⟩;rw[hy.out]at v;have M:r+1<N:=by omega
     have C:r<N:=by omega
     obtain⟨c1,c2,c3,c4,d1,d2,d3,d4⟩:=d.out.eight (by rw[hL.out];exact M) (by rw[hL.out];exact C) F v;have fr:=d.out.free;have aa:=aW F;have a9:=aW v;have an:(r :Int)+1<N:=by omega
     have am:(r :Int)<N:=by omega
     have b5:IntKind.i64.wrap ((r:Int)+1-1)=r:=(wrap64 (by omega) (by omega)).trans (by omega);have b4:IntKind.i64.wrap (r :Int)=r:=wrap64 (by omega) (by omega);clear F v;go_upto_region 23 with fail;go_region;have hP:=d.out.AW (i:=r+1) (j:=r) (by rw[hL.out];exact M) (by rw[hL.out];exact C) aa.out a9.out;have hQ:=i_ (i_ f g ((r+1)*4) (aj _) x) g (r *4) (aj _) y;rw[H.out]at hP;unfold xJ at hP hQ;go_wp2_with fail;go_roundw;case rel=>exact⟨r,by go_num,by omega,by omega,hQ.drew,hP.drew⟩
     case measure=>simp[intOf]
    ·have D:¬((q:Int)<(p :Int)):=by omega
     have hE:Hid (iO wr g (P++(cg (X ++[y])++Q))):=by have:= d.out;rw[show p-a=q-a by omega]at this;unfold mid at this;rw[Z.out]at this;exact this
     go_wp2_with fail;refine aA (results_none rfl _ _ _) rfl ?_;exact⟨rfl,f,hE.out⟩
theorem FC(P U V Q L f:List Rc)(n:0<U.length)(l:0<V.length)(p:P++(U ++(V ++Q))=L)(d:P++(V++(U++Q))=f)(g N cap:Nat)(a m b:Int)(k:a=P.length)(i:m=P.length+U.length)(j:b=P.length+U.length+V.length)(w:World)(o:N=L.length)(c:N≤1152921504606846976)(q:iO w g L):Calls prog 158 #[.slice (some ⟨g,0,none⟩) N cap,.int .i64 a,.int .i64 m,.int .i64 b,.func (.func 129) #[] #[]] w fun e h=>e=.returned (.tuple #[])∧nO w g f h:=by have :=Cd P U V Q L f n l p d g N cap P.length (P.length+U.length) (P.length+U.length+V.length) rfl rfl rfl w o c q;subst k i j;simpa using this
def Sym(P X Y Q:List Rc):Prop:=∀(g N cap:Nat) (a m b:Int) (_:a=P.length) (_:m=P.length+X.length) (_:b=P.length+X.length+Y.length) (w:World)(_:N=(P ++(X++(Y ++Q))).length) (_:N≤1152921504606846976) (_:iO w g (P++(X ++(Y ++Q)))),Calls prog 151 #[.slice (some ⟨g,0,none⟩) N cap,.int .i64 a,.int .i64 m,.int .i64 b,.func (.func 129) #[] #[]] w fun e c=>e=.returned (.tuple #[])∧nO w g (P ++(cg (X++Y)++Q)) c
theorem I7(P Y Q:List Rc)(x:Rc)(i:iV Y):Sym P [x] Y Q:=by
 intro g N cap a m b h d f w j c k;have e:P++(mid Y x 0++Q)=P++([x]++(Y++Q)):=by simp[mid]
 have:= yI P Y Q x i g N cap P.length (P.length +1) (P.length+1+Y.length) rfl rfl rfl w (by rw[e];exact j) c (by rw[e];exact k);subst h d f;simpa using this
theorem FE(P X Q:List Rc)(y:Rc)(i:iV X)(h0:0<X.length)(h1:X.length≠1):Sym P X [y] Q:=by
 intro g N cap a m b h d f w j c k;have e:P++(mid X y X.length++Q)=P++(X++([y]++Q)):=by simp[mid]
 have:= xG P X Q y i g N cap P.length (P.length+X.length) (P.length +X.length+1) rfl rfl h0 h1 rfl w (by rw[e];exact j) c (by rw[e];exact k);subst h d f;simpa using this
theorem I3(k:Nat)(ih:∀P X Y Q:List Rc,X.length+Y.length≤k→iV X→iV Y→0<X.length→0<Y.length→Sym P X Y Q)(P X Y Q:List Rc)(hk:X.length+Y.length≤k+1)(hX:iV X)(hY:iV Y)(C:1<X.length)(B:1<Y.length)(g N cap a m b:Nat)(ha:a=P.length)(hm:m=a+X.length)(hb:b=m+Y.length)(w:World)(hN:N=(P ++(X++(Y ++Q))).length)(b4:N≤1152921504606846976)(hB:iO w g (P ++(X ++(Y ++Q)))):Calls prog 151 #[.slice (some ⟨g,0,none⟩) N cap,.int .i64 a,.int .i64 m,.int .i64 b,.func (.func 129) #[] #[]] w fun e H=>e=.returned (.tuple #[])∧nO w g (P ++(cg (X ++Y)++Q)) H:=by
  have cl:P.length+X.length+Y.length+Q.length=N:=by rw[hN];simp;omega
  have HN:Hid (N =(P ++(X ++(Y ++Q))).length):=hN;have be:∀h,a≤h→h<m→(P ++(X ++(Y ++Q))).getD h zR=X.getD (h -a) zR:=fun h h1 h2=>by rw[rC P X _ (by omega) (by omega),ha]
  have bd:∀h,m≤h→h<b→(P++(X ++(Y ++Q))).getD h zR=Y.getD (h -m) zR:=fun h h1 h2=>by rw[←fi P X,rC (P++X) Y _ (by simp;omega) (by simp;omega)];congr 1;simp;omega
  have cc:=aW be;have cb:=aW bd;obtain⟨M,hM,bi,bh⟩:∃M:Nat,((a :Int)+(b :Int))/2=(M:Int)∧2*M≤a+b∧a+b≤2*M+1:=⟨(a +b)/2,by omega,by omega,by omega⟩
  obtain⟨s0,r0,s⟩:∃s0 r0:Nat,Hid ((M <m∧s0=M+m-b∧r0=M)∨(m ≤M∧s0=a∧r0=m)):=by
    by_cases h:M<m;·exact⟨_,_,Or.inl ⟨h,rfl,rfl⟩⟩
    ·exact⟨_,_,Or.inr ⟨by omega,rfl,rfl⟩⟩
  obtain⟨n,I⟩:∃n:Nat,Hid (n =M+m):=⟨_,rfl⟩;have Ha:=aW ha;have Hm:=aW hm;have Hb:=aW hb;have cn:=aW C;have cm:=aW B;have Hk:=aW hk;have U:=aW (And.intro bi bh);obtain⟨c,hc⟩:∃c:Nat,m-a=c:=⟨_,rfl⟩;obtain⟨d,hd⟩:∃d:Nat,b-m=d:=⟨_,rfl⟩;have ds:((c:Int)==1)=false:=by simp;omega
  have dn:((d :Int)==1)=false:=by simp;omega
  have e1:IntKind.i64.wrap ((m :Int)-a)=c:=(wrap64 (by omega) (by omega)).trans (by omega);have e2:IntKind.i64.wrap ((b :Int)-m)=d:=(wrap64 (by omega) (by omega)).trans (by omega);have e3:IntKind.i64.wrap ((M:Int)+m)=n:=(wrap64 (by omega) (by omega)).trans (by have:= I.out;omega);have e8:(M :Int)+m=n:=by have:= I.out;omega
  have e4:IntKind.i64.wrap ((n:Int)-1)=((n -1:Nat):Int):=(wrap64 (by have :=I.out;omega) (by have :=I.out;omega)).trans (by have:= I.out;omega);have du:a<m:=by omega
  have dh:m<b:=by omega
  have dt:b≤N:=by omega
  have d6:n≤2*N:=by have :=I.out;omega
  have d7:1<n:=by have :=I.out;omega
  have h0:s0≤r0:=by have:= s.out;omega
  have a4:∀c,s0≤c→c<r0→a≤c∧c<m∧m≤n-1-c∧n-1-c<b∧c≤n-1:=fun c h1 h2=>by have:= s.out;have:= I.out;omega
  have a5:=aW a4;have cz:r0≤N:=by have:= s.out;omega
  clear hN be bd ha hb cl hm hk C B bi bh hc hd a4;go_enter func151,ntmps151;have e5:M<m→IntKind.i64.wrap ((n:Int)-b)=(s0 :Int):=fun _=>(wrap64 (by omega) (by omega)).trans (by have :=s.out;have :=I.out;have:= U.out;omega);have q2:Hid (m≤M→s0=a):=aW fun _=>by have:= s.out;omega
  have q3:Hid (M<m→r0=M):=aW fun _=>by have:= s.out;omega
  have q4:Hid (m ≤M→r0=m):=aW fun _=>by have :=s.out;omega
  by_cases q1:M<m
  all_goals
   try have e0:=e5 q1
   try have cy:(M :Int)<m:=by omega
   try have cx:¬((M :Int)<m):=by omega
   clear e5;go_wp2_with fail;clear hM;go_loopw[20,21] (fun i j wr=>∃(p q:Nat),i=.int .i64 p∧j=.int .i64 q∧s0≤p∧p≤q∧q≤r0∧Below g w wr∧Hid (p=s0∨iJ (X.getD (p -1-a) zR) (Y.getD (n -p-m) zR)=false)∧Hid (q=r0∨iJ (X.getD (q -a) zR) (Y.getD (n-1-q-m) zR)=true)∧Hid (iO wr g (P++(X ++(Y ++Q))))) (fun i j _=>(intOf j).toNat-(intOf i).toNat);case atStart=>exact⟨s0,r0,by first|rfl|rw[q2.out (by omega)],by first|rw[q3.out (by omega)]|rw[q4.out (by omega)],aj _,h0,aj _,Below.refl _ _,Or.inl rfl,Or.inl rfl,hB⟩
   case round=>
     clear hB;obtain⟨p,q,rfl,rfl,h1,h2,h3,r,ao,aw,t⟩:=hrel;by_cases dj:p<q
     · have cw:(p:Int)<q:=by omega
       obtain⟨h,hh,ck,dm⟩:∃h:Nat,((p:Int)+(q :Int))/2=(h :Int)∧p≤h∧h<q:=⟨(p+q)/2,by omega,by omega,by omega⟩;obtain⟨t1,t2,t3,t4,t5⟩:=a5.out h (by omega) (by omega);obtain⟨l,hl⟩:∃l:Nat,l=n-1-h:=⟨_,rfl⟩;rw[←hl]at t3 t4;have b0:=cc.out h t1 t2;have ay:=cb.out l t3 t4;obtain⟨x,hx⟩:∃x,Hid (X.getD (h-a) zR=x):=⟨_,rfl⟩;obtain⟨y,hy⟩:∃y,Hid (Y.getD (l -m) zR=y):=⟨_,rfl⟩;rw[hx.out]at b0;rw[hy.out]at ay;have ci:h<N:=by omega
       have ch:l<N:=by omega
       have ag:=t.out.lt;have F:∀W:World,Below wr.heap.size wr W→W.cell? ⟨g,l*4,none⟩=some (.int .i64 y.sh)∧W.cell? ⟨g,l*4+1,none⟩=some (.int .i64 y.au)∧W.cell? ⟨g,l*4+2,none⟩=some (.int .i64 y.k)∧W.cell? ⟨g,l*4+3,none⟩=some (.int .i64 y.m)∧W.cell? ⟨g,h*4,none⟩=some (.int .i64 x.sh)∧W.cell? ⟨g,h*4+1,none⟩=some (.int .i64 x.au)∧W.cell? ⟨g,h*4+2,none⟩=some (.int .i64 x.k)∧W.cell? ⟨g,h*4+3,none⟩=some (.int .i64 x.m):=fun W hb=>(t.out.below hb ag).eight (by rw[←HN.out];exact ch) (by rw[←HN.out];exact ci) ay b0;obtain⟨c1,c2,c3,c4,d1,d2,d3,d4⟩:=F wr (Below.refl _ _);have ea:(h :Int)<N:=by omega
       have e9:(l :Int)<N:=by omega
       have e6:IntKind.i64.wrap (((n-1:Nat):Int)-h)=l:=(wrap64 (by omega) (by omega)).trans (by omega);obtain⟨o,ho⟩:∃o,Hid (xY y x=o):=⟨_,rfl⟩;have J:∀W:World,Calls prog 129 #[rv y,rv x] W fun e H=>e=.returned (.int .i64 o)∧Below W.heap.size W H:=fun W=>by rw[←ho.out];exact pT y x W
       unfold rv at J;have Hl:=aW hl;clear b0 ay hl;go_upto_region 35 with fail;try simp only[hh]
       clear hh;go_region_held3 (fun H=>H.cell? ⟨g,l*4,none⟩=some (.int .i64 y.sh)∧H.cell? ⟨g,l*4+1,none⟩=some (.int .i64 y.au)∧H.cell? ⟨g,l*4+2,none⟩=some (.int .i64 y.k)∧H.cell? ⟨g,l*4+3,none⟩=some (.int .i64 y.m)∧H.cell? ⟨g,h*4,none⟩=some (.int .i64 x.sh)∧H.cell? ⟨g,h*4+1,none⟩=some (.int .i64 x.au)∧H.cell? ⟨g,h*4+2,none⟩=some (.int .i64 x.k)∧H.cell? ⟨g,h*4+3,none⟩=some (.int .i64 x.m)) (first|exact⟨c1,c2,c3,c4,d1,d2,d3,d4⟩|exact F _ a2)
         ((go_at_call 129;refine(J _).mono ?_;rintro e w1 ⟨rfl,bg⟩;have a2:Below wr.heap.size wr w1:=(Below.refl wr.heap.size wr).drew.trans bg;clear bg));have bw:=aW (t.out.below a2 ag);have bf:Below g w w1:=r.trans (a2.mono (Nat.le_of_lt ag));clear F J a2;by_cases a1:o<0
       · have L:iJ x y=true:=rD.1 (by rw[ho.out];exact a1);have K:Hid (h =r0∨iJ (X.getD (h-a) zR) (Y.getD (n-1-h-m) zR)=true):=aW (Or.inr (by rw[←Hl.out,hx.out,hy.out];exact L));have hd:decide (o <0)=true:=by simpa using a1
         simp only[hd,AT];clear L;go_wp2_with fail;go_roundw;case rel=>exact⟨p,h,rfl,rfl,h1,ck,by omega,bf,ao,K,bw⟩
         case measure=>simp[intOf];omega
       · have L:iJ x y=false:=tV.1 (by rw[ho.out];exact a1);have K:Hid (h +1=s0∨iJ (X.getD (h+1-1-a) zR) (Y.getD (n -(h +1)-m) zR)=false):=aW (Or.inr (by rw[Nat.add_sub_cancel,show n-(h +1)=l by have:= Hl.out;omega,hx.out,hy.out];exact L));have hd:decide (o <0)=false:=by simpa using a1
         simp only[hd,vJ];clear L;go_wp2_with fail;go_roundw;case rel=>exact⟨h+1,q,by go_num,rfl,by omega,by omega,h3,bf,K,aw,bw⟩
         case measure=>simp[intOf];omega
     · obtain rfl:q=p:=by omega
       obtain⟨f,hf⟩:∃f:Nat,f=n-q:=⟨_,rfl⟩;have t0:a≤q∧q≤m∧m≤f∧f≤b∧f+q=M+m:=by have:= s.out;have :=I.out;have :=U.out;omega
       obtain⟨t1,t2,t3,t4,t5⟩:=t0;have e7:IntKind.i64.wrap ((n:Int)-q)=f:=(wrap64 (by omega) (by omega)).trans (by omega);have hcut:=DU hX hY (i:=q-a) (j:=f-m) (by have :=Hm.out;omega) (by have:= Hb.out;omega) (by
         rcases ao.out with h|h
         · rcases s.out with⟨v1,v2,v3⟩|⟨v1,v2,v3⟩;·exact Or.inr (Or.inl (by have:= Hb.out;have :=I.out;have :=U.out;omega))
           ·exact Or.inl (by omega)
         ·refine Or.inr (Or.inr ?_);rw[show q-a-1=q-1-a by omega,hf];exact h) (by
         rcases aw.out with h|h
         · rcases s.out with⟨v1,v2,v3⟩|⟨v1,v2,v3⟩;·exact Or.inr (Or.inl (by have:= I.out;omega))
           ·exact Or.inl (by have :=Hm.out;omega)
         ·refine Or.inr (Or.inr ?_);rw[show f-m-1=n-1-q-m by omega];exact h);obtain⟨X1,C⟩:∃X1,Hid (X.take (q-a)=X1):=⟨_,rfl⟩;obtain⟨X2,S⟩:∃X2,Hid (X.drop (q-a)=X2):=⟨_,rfl⟩;obtain⟨Y1,B⟩:∃Y1,Hid (Y.take (f-m)=Y1):=⟨_,rfl⟩;obtain⟨Y2,R⟩:∃Y2,Hid (Y.drop (f-m)=Y2):=⟨_,rfl⟩;have bb:X1.length=q-a:=by rw[←C.out];simp;have:= Hm.out;omega
       have ba:X2.length=m-q:=by rw[←S.out];simp;have :=Hm.out;omega
       have b6:Y1.length=f-m:=by rw[←B.out];simp;have :=Hb.out;omega
       have b5:Y2.length=b-f:=by rw[←R.out];simp;have:= Hb.out;omega
       have af:iV X1:=by rw[←C.out];exact hX.take _
       have aa:iV X2:=by rw[←S.out];exact hX.drop _
       have a9:iV Y1:=by rw[←B.out];exact hY.take _
       have a7:iV Y2:=by rw[←R.out];exact hY.drop _
       have eX:X=X1++X2:=by rw[←C.out,←S.out,cL]
       have eY:Y=Y1++Y2:=by rw[←B.out,←R.out,cL]
       rw[C.out,S.out,B.out,R.out]at hcut;have a3:(P ++X1)++(X2 ++(Y1 ++(Y2 ++Q)))=P++(X ++(Y ++Q)):=by rw[eX,eY];simp
       have bv:(P++X1)++(Y1 ++(X2 ++(Y2 ++Q)))=P++(X1 ++(Y1 ++(X2 ++(Y2 ++Q)))):=by simp
       have A:¬(q<m∧m<f)→∀W,iO W g (P++(X ++(Y++Q)))→iO W g (P ++(X1++(Y1 ++(X2 ++(Y2 ++Q))))):=fun h W T=>by
         rw[←a3]at T;rcases(show X2=[]∨Y1=[]by
           by_cases hq:q<m;·exact Or.inr (bZ (by omega))
           ·exact Or.inl (bZ (by omega)))with h|h;·rw[h]at T⊢;simpa using T
         ·rw[h]at T⊢;simpa using T
       have u:¬(a <q∧q<M)→∀W,iO W g (P ++(X1 ++(Y1 ++(X2 ++(Y2 ++Q)))))→iO W g (P ++(cg (X1 ++Y1)++(X2 ++(Y2++Q)))):=fun h W T=>by
         rw[qu af a9 (by
           by_cases hq:a<q;·exact Or.inr (bZ (by omega))
           ·exact Or.inl (bZ (by omega)))];simpa using T
       have z:¬(M<f∧f<b)→∀W,iO W g (P ++(cg (X1++Y1)++(X2 ++(Y2 ++Q))))→iO W g ((P ++cg (X1 ++Y1))++(cg (X2 ++Y2)++Q)):=fun h W T=>by
         rw[qu aa a7 (by
           by_cases hq:M<f;·exact Or.inr (bZ (by omega))
           ·exact Or.inl (bZ (by omega)))];simpa using T
       have a6:∀W,iO W g ((P++cg (X1 ++Y1))++(cg (X2++Y2)++Q))→iO W g (P++(cg (X ++Y)++Q)):=fun W T=>by rw[←hcut];simpa using T
       have bc:(cg (X1++Y1)).length=M-a:=by rw[fj,a_];omega
       have N1:N=(P ++(X1 ++(Y1 ++(X2 ++(Y2++Q))))).length:=by rw[HN.out,←a3];simp;omega
       have N2:N=((P++cg (X1 ++Y1))++(X2 ++(Y2++Q))).length:=by rw[N1];simp[fj];omega
       have c9:(P ++cg (X1++Y1))++(X2 ++(Y2 ++Q))=P++(cg (X1++Y1)++(X2 ++(Y2 ++Q))):=by simp
       have s1:a<q→q<M→Sym P X1 Y1 (X2 ++(Y2 ++Q)):=fun _ _=>ih P X1 Y1 _ (by have :=Hk.out;have:= Hm.out;have:= Hb.out;have:= U.out;omega) af a9 (by omega) (by omega);have s2:M<f→f<b→Sym (P++cg (X1 ++Y1)) X2 Y2 Q:=fun _ _=>ih _ X2 Y2 Q (by have :=Hk.out;have :=Hm.out;have :=Hb.out;have:= U.out;omega) aa a7 (by omega) (by omega);have aP:(a:Int)=P.length:=by have:= Ha.out;omega
       have v:=aW aP;have E:=aW bb;have D:=aW ba;have V:=aW b6;have ca:=aW b5;have Z:=aW bc;have cq:=aW N1;have cp:=aW N2;have ce:=aW c9;have ct:=aW a3;have cs:=aW bv;have A:=aW A;have u:=aW u;have z:=aW z;have a6:=aW a6;have s1:=aW s1;have s2:=aW s2;clear hcut C S B R bb ba b6 b5 bc N1 N2 c9 a3 bv eX eY af aa a9 a7 aP ih hX hY ao aw cc cb a5 s cn cm Hk;have d5:(q :Int)+f=M+m:=by omega
       by_cases g1:q<m<;>by_cases g2:m<f<;>by_cases g3:a<q<;>by_cases g6:f<b
       all_goals
         first
         |(exfalso;omega)
         | (have g4:q<M↔m<f:=by omega
            have g5:M<f↔q<m:=by omega
            have i1:(q :Int)<m↔q<m:=by omega
            have i2:(m:Int)<f↔m<f:=by omega
            have i3:(a :Int)<q↔a<q:=by omega
            have i4:(q:Int)<M↔m<f:=by omega
            have i5:(M :Int)<f↔q<m:=by omega
            have i6:(f :Int)<b↔f<b:=by omega
            simp only[g1,g2,g3,g6,iff_true,iff_false]at i1 i2 i3 i4 i5 i6;go_wp2_with(first
              |(go_at_call 158;refine(FC (P++X1) X2 Y1 (Y2 ++Q) _ _ (by have:= D.out;omega) (by have:= V.out;omega) ct.out cs.out g N cap _ _ _ (by have :=E.out;have:= v.out;simp;omega) (by have :=E.out;have :=D.out;have:= v.out;simp;omega) (by have:= E.out;have:= D.out;have :=V.out;have :=v.out;simp;omega) _ HN.out b4 t.out).mono ?_;rintro e w1 ⟨rfl,an⟩;have G:=aW an.F';have r:=r.trans an.bel;clear an)
              |(go_at_call 151;refine(s1.out (by omega) (by omega) g N cap _ _ _ (by have :=v.out;omega) (by have :=v.out;have:= E.out;omega) (by have:= v.out;have :=E.out;have:= V.out;omega) _ cq.out b4 (by first|exact G.out|exact A.out (by omega) _ t.out)).mono ?_;rintro e w2 ⟨rfl,am⟩;have O:=aW am.F';have r:=r.trans am.bel;clear am)
              |(go_at_call 151;refine(s2.out (by omega) (by omega) g N cap _ _ _ (by have :=v.out;have :=Z.out;simp;omega) (by have:= v.out;have :=Z.out;have :=D.out;simp;omega) (by have:= v.out;have :=Z.out;have :=D.out;have :=ca.out;simp;omega) _ cp.out b4 (by rw[ce.out];first|exact O.out|exact u.out (by omega) _ G.out|exact u.out (by omega) _ (A.out (by omega) _ t.out))).mono ?_;rintro e w3 ⟨rfl,ak⟩;have b3:=aW ak.F';have r:=r.trans ak.bel;clear ak));first|go_end0|refine aA (results_none rfl _ _ _) rfl ?_
            refine⟨rfl,r,a6.out _ ?_⟩;first|exact b3.out|exact z.out (by omega) _ O.out|exact z.out (by omega) _ (u.out (by omega) _ G.out)|exact z.out (by omega) _ (u.out (by omega) _ (A.out (by omega) _ t.out)))
theorem Jt:∀(k:Nat) (P X Y Q:List Rc),X.length+Y.length≤k→iV X→iV Y→0<X.length→0<Y.length→Sym P X Y Q:=by
 intro k
 induction k with
 |zero=>intro P X Y Q e _ _ h1 _;omega
 |succ k i=>
  intro P X Y Q e h f h1 h2;by_cases d:X.length=1;·obtain⟨x,rfl⟩:=List.length_eq_one_iff.1 d;exact I7 P Y Q x f
  by_cases hy:Y.length=1;·obtain⟨y,rfl⟩:=List.length_eq_one_iff.1 hy;exact FE P X Q y h h1 d
  intro g N cap a m b n j l w o c p;have :=I3 k i P X Y Q e h f (by omega) (by omega) g N cap P.length (P.length +X.length) (P.length+X.length+Y.length) rfl rfl rfl w o c p;subst n j l;simpa using this
