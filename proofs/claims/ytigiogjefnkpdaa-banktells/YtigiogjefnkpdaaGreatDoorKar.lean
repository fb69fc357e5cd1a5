import Derived.Test.YtigiogjefnkpdaaGreatDoorKaa
import Derived.Test.YtigiogjefnkpdaaGreatDoorKaq
set_option maxHeartbeats 4000000
set_option maxRecDepth 100000
open Go.Proofs.Tryz
namespace Go.Proofs.YtigiogjefnkpdaaGreatDoor.Dy
open RowKit Gn
def rv(r:Rc):Value:=.agg #[.int .i64 r.sh,.int .i64 r.au,.int .i64 r.k,.int .i64 r.m]
def vx(r:Rc):Obj:=.cells #[.int .i64 r.sh,.int .i64 r.au,.int .i64 r.k,.int .i64 r.m] 103
def kR:Kind Rc where
 cells:=fun r=>[.int .i64 r.sh,.int .i64 r.au,.int .i64 r.k,.int .i64 r.m]
 size:=4
 len:=fun _=>rfl
 one:=fun x u a=>by simp at a;rcases a with rfl|rfl|rfl|rfl<;>rfl
 pos:=by decide
theorem L_:(prog.info? 103).map (fun i=>(i.zero,i.size,i.bytes))=some (some (.agg #[.int .i64 0,.int .i64 0,.int .i64 0,.int .i64 0]),4,32):=by kernel_rfl
theorem mJ:sc prog kR 39 103 32:=by obtain⟨i,h1,h2,b,a⟩:=info_parts L_;exact⟨underlying39,i,_,h1,h2,b,a,rfl⟩
theorem jC{w:World}{a:Option Addr}{cap:Nat}{L:List Rc}(h:bF kR w a cap L){i:Nat}(hi:i<L.length):∃b off,a=some ⟨b,off,none⟩∧b<w.heap.size∧w.cell? ⟨b,off+i*4,none⟩=some (.int .i64 (L.getD i zR).sh)∧w.cell? ⟨b,off+i*4+1,none⟩=some (.int .i64 (L.getD i zR).au)∧w.cell? ⟨b,off+i*4+2,none⟩=some (.int .i64 (L.getD i zR).k)∧w.cell? ⟨b,off+i*4+3,none⟩=some (.int .i64 (L.getD i zR).m):=by obtain⟨b,off,e,d,c⟩:=h.elem (i:=i) (x:=L.getD i zR) (by simp[List.getD,hi]);exact⟨b,off,e,d,c 0 _ rfl,c 1 _ rfl,c 2 _ rfl,c 3 _ rfl⟩
theorem bP{k:IntKind}{a b:Int}(h:a=b):Ending.returned (.int k a)=.returned (.int k b):=by rw[h]
theorem aW{p:Prop}(h:p):Hid p:=h
theorem aM{W X:World}(h:Below W.heap.size W X)(o:Obj):Below W.heap.size W (X.alloc o):=h.alloc h.size o
def At{α:Type}(K:Kind α)(W:World)(v:Value)(L:List α):Prop:=∃a cap,v=.slice a L.length cap∧bF K W a cap L
theorem At.below{α:Type}{K:Kind α}{W b:World}{v:Value}{L:List α}(h:At K W v L)(d:Below W.heap.size W b):At K b v L:=by obtain⟨a,cap,rfl,c⟩:=h;exact⟨a,cap,rfl,c.below d⟩
theorem At.drew{α:Type}{K:Kind α}{W:World}{v:Value}{L:List α}(h:At K W v L):At K W.drew v L:=by obtain⟨a,cap,rfl,b⟩:=h;exact⟨a,cap,rfl,b.drew⟩
theorem At.len{α:Type}{K:Kind α}{W:World}{v:Value}{L:List α}(h:At K W v L):L.length≤maxLen:=by obtain⟨a,cap,rfl,b⟩:=h;exact b.len
theorem jx{α:Type}{K:Kind α}{e:TypeId}{W:World}{aq:Nat}{v:Value}{L:List α}(h:Row K e W aq v L):∃a cap,v=.slice a L.length cap∧Row K e W aq (.slice a L.length cap) L∧bF K W a cap L:=by obtain⟨a,cap,rfl,b,-,-⟩:=h.bQ;exact⟨a,cap,rfl,h,b⟩
theorem Row.at{α:Type}{K:Kind α}{e:TypeId}{W:World}{aq:Nat}{v:Value}{L:List α}(h:Row K e W aq v L):At K W v L:=by obtain⟨a,cap,h1,-,h2⟩:=jx h;exact⟨a,cap,h1,h2⟩
def iO(w:World)(g:Nat)(L:List Rc):Prop:=L.length≤maxLen∧∃rest:List Value,w.heap[g]?=some (.cells (kR.flat L++rest).toArray 103)
theorem iO.lt{w:World}{g:Nat}{L:List Rc}(h:iO w g L):g<w.heap.size:=by obtain⟨-,rest,h⟩:=h;exact ae h
theorem iO.cB{w a:World}{g:Nat}{L:List Rc}(h:iO w g L)(b:a.heap[g]?=w.heap[g]?):iO a g L:=by obtain⟨h0,rest,h⟩:=h;exact⟨h0,rest,b.trans h⟩
theorem iO.below{w a:World}{g:Nat}{L:List Rc}(h:iO w g L){B:Nat}(c:Below B w a)(b:g<B):iO a g L:=h.cB (c.block g b)
theorem iO.alloc{w:World}{g:Nat}{L:List Rc}(h:iO w g L)(o:Obj):iO (w.alloc o) g L:=h.below (ar w o) h.lt
theorem iO.bQ{w:World}{g:Nat}{L:List Rc}(h:iO w g L)(cap:Nat):bF kR w (some ⟨g,0,none⟩) cap L:=by have a:=h.lt;obtain⟨h0,rest,h⟩:=h;refine⟨h0,(fun h=>by cases h),Or.inr ⟨g,0,rfl,a,fun j u b=>?_⟩⟩;rw[dW,cell_of_row w g j _ _ _ h];have: j<(kR.flat L).length:=(List.getElem?_eq_some_iff.1 b).1;simp only[List.getElem?_toArray];rw[iP this];exact b
theorem iO.free{w:World}{g:Nat}{L:List Rc}(h:iO w g L)(p:Nat):w.frozen? ⟨g,p,none⟩=false:=by obtain⟨-,rest,h⟩:=h;simp[World.frozen?,h]
def xJ(w:World)(g p:Nat)(r:Rc):World:=(((w.setCell ⟨g,p,none⟩ (.int .i64 r.sh)).setCell ⟨g,p+1,none⟩ (.int .i64 r.au)).setCell ⟨g,p+2,none⟩ (.int .i64 r.k)).setCell ⟨g,p+3,none⟩ (.int .i64 r.m)
theorem E'(L:List Rc):(kR.flat L).length=L.length*4:=kR.ej L
theorem oH(A M:List Value)(k:Nat)(v:Value):(A++M).set (A.length +k) v=A++M.set k v:=by
 induction A with
 |nil=>simp
 |cons a A b=>rw[mU,di,show A.length+1+k=(A.length+k)+1 by omega,aN,b];rfl
theorem IU(A B:List Value)(c0 c1 c2 c3 a c v2 b:Value):((((A++c0::c1::c2::c3::B).set A.length a).set (A.length +1) c).set (A.length+2) v2).set (A.length+3) b=A++a::c::v2::b::B:=by have e:(A ++c0::c1::c2::c3::B).set A.length a=A++a::c1::c2::c3::B:=oH A (c0::c1::c2::c3::B) 0 a;rw[e,oH,oH,oH];rfl
theorem Bg{L:List Rc}{i:Nat}(hi:i<L.length)(rest:List Value):kR.flat L++rest=kR.flat (L.take i)++.int .i64 (L.getD i zR).sh::.int .i64 (L.getD i zR).au::.int .i64 (L.getD i zR).k::.int .i64 (L.getD i zR).m::(kR.flat (L.drop (i+1))++rest):=by
 have a:L=L.take i++L.getD i zR::L.drop (i+1):=by rw[←eQ hi,cL]
 conv=>lhs;rw[a,kR.lI,kR.ia]
 rw[fi,fi];rfl
theorem Ar{L:List Rc}{i:Nat}(hi:i<L.length)(r:Rc)(rest:List Value):kR.flat (L.set i r)++rest=kR.flat (L.take i)++.int .i64 r.sh::.int .i64 r.au::.int .i64 r.k::.int .i64 r.m::(kR.flat (L.drop (i +1))++rest):=by
 have a:L=L.take i++L.getD i zR::L.drop (i +1):=by rw[←eQ hi,cL]
 have b:L.set i r=L.take i++r::L.drop (i+1):=by
  conv=>lhs;rw[a]
  exact uG (by simp;omega) _ _ _
 rw[b,kR.lI,kR.ia,fi,fi];rfl
theorem iO.put{w:World}{g:Nat}{L:List Rc}(h:iO w g L){i p:Nat}(hi:i<L.length)(a:p=i*4)(r:Rc):iO (xJ w g p r) g (L.set i r):=by
 obtain⟨h0,rest,h⟩:=h;refine⟨by rw[oS];exact h0,rest,?_⟩;have b:p=(kR.flat (L.take i)).length:=by rw[E',a];simp;omega
 rw[Bg hi]at h;rw[Ar hi];generalize kR.flat (L.take i)=A at*;generalize kR.flat (L.drop (i +1))++rest=B at*;clear a;subst b;have h1:=aZ w g A.length _ _ (.int .i64 r.sh) h;have h2:=aZ _ g (A.length +1) _ _ (.int .i64 r.au) h1;have d:=aZ _ g (A.length+2) _ _ (.int .i64 r.k) h2;have c:=aZ _ g (A.length +3) _ _ (.int .i64 r.m) d;unfold xJ;rw[c];simp only[az];rw[IU]
theorem i_{B:Nat}{w W:World}(a:Below B w W)(g p:Nat)(h:B≤g)(r:Rc):Below B w (xJ W g p r):=by have h0:B≤(⟨g,p,none⟩:Addr).block:=h;have h1:B≤(⟨g,p+1,none⟩:Addr).block:=h;have h2:B≤(⟨g,p+2,none⟩:Addr).block:=h;have b:B≤(⟨g,p+3,none⟩:Addr).block:=h;exact(((a.setCell h0 _).setCell h1 _).setCell h2 _).setCell b _
theorem iO.cells{w:World}{g:Nat}{L:List Rc}(h:iO w g L){i:Nat}(hi:i<L.length):w.cell? ⟨g,i*4,none⟩=some (.int .i64 (L.getD i zR).sh)∧w.cell? ⟨g,i*4+1,none⟩=some (.int .i64 (L.getD i zR).au)∧w.cell? ⟨g,i*4+2,none⟩=some (.int .i64 (L.getD i zR).k)∧w.cell? ⟨g,i*4+3,none⟩=some (.int .i64 (L.getD i zR).m):=by obtain⟨b,off,d,-,h1,h2,c,a⟩:=jC (h.bQ 0) hi;cases d;rw[dW]at h1 h2 c a;exact⟨h1,h2,c,a⟩
theorem yL{w:World}{aq:Nat}{v:Value}{L:List Rc}(h:w.ownsRow aq 103 4 v L.length (kR.flat L))(h0:L≠[]):∃g cap,v=.slice (some ⟨g,0,none⟩) L.length cap∧L.length≤cap∧aq≤g∧iO w g L:=by
 rcases h.2 with⟨rfl,a⟩|⟨g,cap,b,rfl,f,e,a,d,i,c⟩;·exact absurd (bZ a) h0
 ·refine⟨g,cap,rfl,a,f,bE a d,b.toList.drop (L.length*4),?_⟩;rw[e];congr 2;apply Array.toList_inj.1;rw[←c];simp
def vh(a b:Int):Int:=if a<b then-1 else if b<a then 1 else 0
def KE(x y:Int):Int:=if x≠0 then x else y
def xY(a b:Rc):Int:=KE (vh a.sh b.sh) (vh a.au b.au)
theorem rD{a b:Rc}:xY a b<0↔iJ b a=true:=by rw[lC];unfold xY KE vh;grind
theorem tV{a b:Rc}:¬xY a b<0↔iJ b a=false:=by rw[rD];simp
theorem sR(x:Int)(w:World):Calls prog 152 #[.int .i64 x] w fun e a=>e=.returned (.bool false)∧a=w:=by
 have h:(x !=x)=false:=by simp
 go_enter func152,ntmps152;go_wp2;go_ret;simp
theorem Aw(x y:Int)(w:World):Calls prog 142 #[.int .i64 x,.int .i64 y] w fun e b=>e=.returned (.int .i64 (vh x y))∧b=w:=by
 have key:∀r,vh x y=r→Hid (vh x y=r):=fun r h=>h;by_cases h1:x<y;·have a:=key (-1) (by unfold vh;rw[aB h1]);clear key;go_enter func142,ntmps142;go_wp2_with(go_at_call 152;refine(sR _ _).mono ?_;rintro e b ⟨rfl,rfl⟩);go_ret;exact⟨bP a.out.symm,rfl⟩
 by_cases h2:y<x;·have a:=key 1 (by unfold vh;rw[ai h1,aB h2]);clear key;go_enter func142,ntmps142;go_wp2_with(go_at_call 152;refine(sR _ _).mono ?_;rintro e b ⟨rfl,rfl⟩);go_ret;exact⟨bP a.out.symm,rfl⟩
 ·have a:=key 0 (by unfold vh;rw[ai h1,ai h2]);clear key;go_enter func142,ntmps142;go_wp2_with(go_at_call 152;refine(sR _ _).mono ?_;rintro e b ⟨rfl,rfl⟩);go_ret;exact⟨bP a.out.symm,rfl⟩
theorem xM(b c:Nat)(x y:Int)(w:World)(m:w.cell? ⟨b,0,none⟩=some (.int .i64 x))(hy:w.cell? ⟨b,1,none⟩=some (.int .i64 y)):Calls prog 141 #[.slice (some ⟨b,0,none⟩) 2 c] w fun e j=>e=.returned (.int .i64 (KE x y))∧j=w:=by
 have key:∀r,KE x y=r→Hid (KE x y=r):=fun r h=>h;go_enter func141,ntmps141;go_wp2;go_loopw[8](fun i wr=>∃k:Nat,k≤2∧i=.int .i64 k∧wr=w∧Hid (1 ≤k→x=0)∧Hid (2≤k→y=0)) (fun i _=>2-(intOf i).toNat);case atStart=>exact⟨0,by omega,rfl,rfl,fun h=>absurd h (by decide),fun h=>absurd h (by decide)⟩
 case round=>
  obtain⟨k,n,rfl,rfl,h1,h2⟩:=hrel;obtain rfl|rfl|rfl:k=0∨k=1∨k=2:=by omega
  ·by_cases h0:x=0
   ·have g:(x==0)=true:=by simpa using h0
    have a:(x !=0)=false:=by simpa using h0
    have H:Hid (x=0):=h0;clear h0;go_wp2;go_roundw;case rel=>exact⟨1,by omega,rfl,trivial,fun _=>H.out,fun h=>absurd h (by decide)⟩
    case measure=>decide
   ·have f:=key x (by unfold KE;rw[aB h0]);have g:(x ==0)=false:=by simpa using h0
    have a:(x !=0)=true:=by simpa using h0
    clear h0;go_wp2;go_ret;exact⟨bP f.out.symm,rfl⟩
  ·have d:x=0:=h1.out (by omega);by_cases h0:y=0
   ·have g:(y==0)=true:=by simpa using h0
    have a:(y !=0)=false:=by simpa using h0
    have H:Hid (y =0):=h0;have l:Hid (x =0):=d;clear h0;go_wp2;go_roundw;case rel=>exact⟨2,by omega,rfl,trivial,fun _=>l.out,fun _=>H.out⟩
    case measure=>decide
   ·have f:=key y (by unfold KE;rw[ai (by simpa using d)]);have g:(y ==0)=false:=by simpa using h0
    have a:(y !=0)=true:=by simpa using h0
    clear h0;go_wp2;go_ret;exact⟨bP f.out.symm,rfl⟩
  ·have f:=key 0 (by unfold KE;rw[h1.out (by omega),h2.out (by omega)];rfl);go_wp2;go_ret;exact⟨bP f.out.symm,rfl⟩
theorem pT(a b:Rc)(w:World):Calls prog 129 #[rv a,rv b] w fun e f=>e=.returned (.int .i64 (xY a b))∧Below w.heap.size w f:=by
 obtain⟨d,c,j,i⟩:=a;obtain⟨b1,b2,h,g⟩:=b;unfold rv xY;dsimp only;go_enter func129,ntmps129;go_upto_region 1 with fail;have k:Below w.heap.size w ((w.alloc (.cells #[.int .i64 d,.int .i64 c,.int .i64 j,.int .i64 i] 103)).alloc (.cells #[.int .i64 b1,.int .i64 b2,.int .i64 h,.int .i64 g] 103)):=aM (aM (Below.refl _ _) _) _;have c1:((w.alloc (.cells #[.int .i64 d,.int .i64 c,.int .i64 j,.int .i64 i] 103)).alloc (.cells #[.int .i64 b1,.int .i64 b2,.int .i64 h,.int .i64 g] 103)).cell? ⟨w.heap.size,0,none⟩=some (.int .i64 d):=by simp
 have c2:((w.alloc (.cells #[.int .i64 d,.int .i64 c,.int .i64 j,.int .i64 i] 103)).alloc (.cells #[.int .i64 b1,.int .i64 b2,.int .i64 h,.int .i64 g] 103)).cell? ⟨w.heap.size,1,none⟩=some (.int .i64 c):=by simp
 have c3:((w.alloc (.cells #[.int .i64 d,.int .i64 c,.int .i64 j,.int .i64 i] 103)).alloc (.cells #[.int .i64 b1,.int .i64 b2,.int .i64 h,.int .i64 g] 103)).cell? ⟨w.heap.size+1,0,none⟩=some (.int .i64 b1):=by simp
 have c4:((w.alloc (.cells #[.int .i64 d,.int .i64 c,.int .i64 j,.int .i64 i] 103)).alloc (.cells #[.int .i64 b1,.int .i64 b2,.int .i64 h,.int .i64 g] 103)).cell? ⟨w.heap.size+1,1,none⟩=some (.int .i64 b2):=by simp
 have m:((w.alloc (.cells #[.int .i64 d,.int .i64 c,.int .i64 j,.int .i64 i] 103)).alloc (.cells #[.int .i64 b1,.int .i64 b2,.int .i64 h,.int .i64 g] 103)).heap.size=w.heap.size+2:=by simp
 generalize(w.alloc _).alloc _=W at*;have q:∀o,(W.alloc o).cell? ⟨w.heap.size,0,none⟩=some (.int .i64 d):=fun o=>by rw[aY _ _ _ (show w.heap.size<W.heap.size by omega)];exact c1
 have p:∀o,(W.alloc o).cell? ⟨w.heap.size,1,none⟩=some (.int .i64 c):=fun o=>by rw[aY _ _ _ (show w.heap.size<W.heap.size by omega)];exact c2
 have n:∀o,(W.alloc o).cell? ⟨w.heap.size+1,0,none⟩=some (.int .i64 b1):=fun o=>by rw[aY _ _ _ (show w.heap.size+1<W.heap.size by omega)];exact c3
 have d4:∀o,(W.alloc o).cell? ⟨w.heap.size+1,1,none⟩=some (.int .i64 b2):=fun o=>by rw[aY _ _ _ (show w.heap.size+1<W.heap.size by omega)];exact c4
 clear m;have l:=k.size;go_region_held3 (fun f=>f.cell? ⟨w.heap.size,0,none⟩=some (.int .i64 d)∧f.cell? ⟨w.heap.size,1,none⟩=some (.int .i64 c)∧f.cell? ⟨w.heap.size+1,0,none⟩=some (.int .i64 b1)∧f.cell? ⟨w.heap.size+1,1,none⟩=some (.int .i64 b2)) (first|exact⟨c1,c2,c3,c4⟩|exact⟨q _,p _,n _,d4 _⟩)
  (first
  |(go_at_call 142;refine(Aw _ _ _).mono ?_;rintro e f ⟨rfl,rfl⟩)
  |(go_at_call 141;refine(xM _ _ (vh d b1) (vh c b2) _ (by simp) (by simp)).mono ?_;rintro e f ⟨rfl,rfl⟩));all_goals go_wp2_with fail;go_ret;exact⟨rfl,(k.alloc (by omega) _).drew⟩
def fo:Value:=.func (.func 129) #[] #[]
structure nO(w:World)(g:Nat)(L:List Rc)(w':World):Prop where
 bel:Below g w w'
 F':iO w' g L
theorem wrap64{x:Int}(h1:-9223372036854775808≤x)(h2:x≤9223372036854775807):IntKind.i64.wrap x=x:=by simp[IntKind.wrap,IntKind.bits,IntKind.signed];omega
theorem iO.drew{w:World}{g:Nat}{L:List Rc}(h:iO w g L):iO w.drew g L:=h.cB rfl
theorem iO.AW{w:World}{g:Nat}{L:List Rc}(h:iO w g L){i j:Nat}(hi:i<L.length)(b:j<L.length){x y:Rc}(a:L.getD i zR=x)(hy:L.getD j zR=y):iO (xJ (xJ w g (i*4) y) g (j *4) x) g (AW L i j):=by subst a hy;exact(h.put hi rfl _).put (by rw[oS];exact b) rfl _
theorem vG(P U V W Q:List Rc)(n:Nat)(m:U.length=n)(l:W.length=n)(g N cap a b:Nat)(z:a=P.length)(v:b=P.length+n+V.length)(w:World)(o:N=(P++(U++(V ++(W ++Q)))).length)(L:N≤1152921504606846976)(C:iO w g (P ++(U ++(V++(W++Q))))):Calls prog 159 #[.slice (some ⟨g,0,none⟩) N cap,.int .i64 a,.int .i64 b,.int .i64 n,fo] w fun e E=>e=.returned (.tuple #[])∧nO w g (P ++(W ++(V ++(U ++Q)))) E:=by
 rw[←Hu P U V W Q]at C o;rw[←JA (P:=P) (V:=V) (Q:=Q) m l];have h:∀k,k≤n→(Fc P U V W Q k).length=N:=fun k r=>by rw[o,qA m l r,qA m l (bq _)]
 have t:P.length+n+V.length+n+Q.length=N:=by rw[o,qA m l (bq _)]
 clear o;unfold fo;go_enter func159,ntmps159;go_wp2;go_loopw[10](fun i wr=>∃k:Nat,k≤n∧i=.int .i64 k∧Below g w wr∧Hid (iO wr g (Fc P U V W Q k))) (fun i _=>n-(intOf i).toNat);case atStart=>exact⟨0,bq _,rfl,Below.refl _ _,C⟩
 case round=>
  obtain⟨k,r,rfl,f,c⟩:=hrel;by_cases p:k<n
  ·have u:(k :Int)<n:=by omega
   have B:=h k r;obtain⟨c1,c2,c3,c4⟩:=c.out.cells (i:=a+k) (by omega);obtain⟨T,S,R,d4⟩:=c.out.cells (i:=b+k) (by omega);have O:=c.out.free;have d:=Jg (P:=P) (V:=V) (Q:=Q) (a:=a+k) (b:=b+k) m l p (by omega) (by omega);have I:a+k≠b+k:=by omega
   have hi:a+k<N:=by omega
   have H:b+k<N:=by omega
   have Y:=aW z;have X:=aW v;have M:=aW d;have D:=aW B;have Z:=aW h;have J:b≤1152921504606846976:=by omega
   have K:a≤1152921504606846976:=by omega
   have G:k≤1152921504606846976:=by omega
   clear z v d B h t m l;go_upto_region 3 with fail;generalize F:(Fc P U V W Q k).getD (a +k) zR=x at*;generalize hy:(Fc P U V W Q k).getD (b+k) zR=y at*;go_region;have s:=c.out.AW (i:=a+k) (j:=b+k) (by rw[D.out];exact hi) (by rw[D.out];exact H) F hy;have A:=i_ (i_ f g ((a+k)*4) (aj _) y) g ((b+k)*4) (aj _) x;rw[M.out]at s;unfold xJ at s A;go_wp2_with fail;go_roundw;case rel=>exact⟨k+1,by omega,by go_num,A.drew,s.drew⟩
   case measure=>simp[intOf];omega
  ·have q:k=n:=by omega
   subst q;go_wp2_with fail;go_end0;exact⟨rfl,f,c.out⟩
theorem yU{X:List Rc}(h:X.length≤1):cg X=X:=by
 match X,h with
 |[],_=>rfl
 |[x],_=>exact pE (List.pairwise_singleton _ _)
theorem sS{X:List Rc}{k:Nat}(h:k≤X.length):(cg (X.take k)).length=k:=by rw[fj];simp;omega
theorem vE(P X Q:List Rc)(g N cap a b:Nat)(ha:a=P.length)(s:b=P.length+X.length)(w:World)(hN:N=(P++(X ++Q)).length)(b4:N≤1152921504606846976)(hB:iO w g (P ++(X ++Q))):Calls prog 150 #[.slice (some ⟨g,0,none⟩) N cap,.int .i64 a,.int .i64 b,fo] w fun e t=>e=.returned (.tuple #[])∧nO w g (P ++(cg X++Q)) t:=by
 have Y:P.length+X.length+Q.length=N:=by rw[hN];simp;omega
 clear hN;unfold fo;go_enter func150,ntmps150;go_wp2;go_loopw[8] (fun i wr=>∃k:Nat,1≤k∧(k≤X.length∨k=1)∧i=.int .i64 ((a :Int)+k)∧Below g w wr∧Hid (iO wr g (P ++(cg (X.take k)++(X.drop k++Q))))) (fun i _=>b+1-(intOf i).toNat);case atStart=>refine⟨1,aj _,Or.inr rfl,by go_num,Below.refl _ _,?_⟩;rw[yU (by simp;omega),←fi (X.take 1),cL];exact hB
 case round=>
  obtain⟨k,ak,ag,rfl,D,z⟩:=hrel;by_cases I:k<X.length
  ·have a7:(a:Int)+k<b:=by omega
   obtain⟨x,hx⟩:∃x,Hid (X.getD k zR=x):=⟨_,rfl⟩;obtain⟨S,hS⟩:∃S,Hid (cg (X.take k)=S):=⟨_,rfl⟩;obtain⟨R,hR⟩:∃R,Hid (X.drop (k +1)++Q=R):=⟨_,rfl⟩;have V:S.length=k:=by rw[←hS.out];exact sS (by omega)
   have h0:iO wr g (P++(mid S x k++R)):=by have:= z.out;rw[hS.out,eQ I,hx.out,mU,hR.out]at this;rw[←V,J6];simpa using this
   have O:∀p,pos x S S.length=p→Hid (iO wr g (P ++(mid S x p++R))=iO wr g (P ++(cg (X.take (k+1))++(X.drop (k+1)++Q)))):=fun p H=>by refine aW ?_;rw[wC I,hx.out,hS.out,DF H,hR.out]
   have a3:P.length+(k +1)+R.length=N:=by rw[←hR.out];simp;omega
   have C:∀p,p≤k→(P ++(mid S x p++R)).length=N:=fun p H=>by rw[a_,a_,jJ _ _ (by omega)];omega
   have a2:=aW C;have HN:=aW Y;have E:∀W p,pos x S S.length=p→iO W g (P ++(mid S x p++R))→Hid (iO W g (P++(cg (X.take (k +1))++(X.drop (k +1)++Q)))):=fun W p H hW=>by refine aW ?_;rw[wC I,hx.out,hS.out,DF H,hR.out];exact hW
   have Ha:=aW ha;have Hb:=aW s;have ay:a≤1152921504606846976:=by omega
   have ao:b≤1152921504606846976:=by omega
   have aw:a+k<N:=by omega
   clear O C z a3 Y ha s hB;go_wp2_with fail;generalize wr=W0 at*;go_loopw[9] (fun j wr=>∃q:Nat,a≤q∧q≤a+k∧j=.int .i64 (q:Int)∧Below g w wr∧Hid (pos x S S.length=pos x S (q-a))∧Hid (iO wr g (P ++(mid S x (q-a)++R)))) (fun j _=>(intOf j).toNat)
   case atStart=>
    refine⟨a+k,by omega,by omega,by go_num,D,?_,?_⟩;·rw[V,Nat.add_sub_cancel_left];exact aW rfl
    ·rw[Nat.add_sub_cancel_left];exact h0
   case round=>
    obtain⟨q,af,aa,rfl,A,f,c⟩:=hrel;by_cases L:q=a
    ·subst L;have hz:q-q=0:=Nat.sub_self q;rw[hz]at f c;have hE:=E wr 0 f.out c.out;clear hz;go_upto_region 4 with fail;go_quiet(fail);go_wp2_with fail;go_roundw;case rel=>exact⟨k+1,by omega,by omega,by go_num,br A _,hE.out.cB rfl⟩
     case measure=>simp[intOf];omega
    ·obtain⟨r,rfl⟩:∃r,q=r+1:=⟨q-1,by omega⟩;have hg:a<r+1:=by omega
     have an:a≤r:=by omega
     have hd:decide ((a:Int)<(r :Int)+1)=true:=by simp;omega
     have ba:(0 :Int)≤(r :Int)+1:=by omega
     have b6:(r :Int)+1<N:=by omega
     have b5:(r :Int)<N:=by omega
     have a4:r<N:=by omega
     have b3:IntKind.i64.wrap ((r:Int)+1-1)=r:=(wrap64 (by omega) (by omega)).trans (by omega);have b0:IntKind.i64.wrap (r :Int)=r:=wrap64 (by omega) (by omega);have H:r+1-a=(r -a)+1:=by omega
     rw[H]at f c;have hL:=a2.out (r -a+1) (by omega);have hi:r+1<N:=by omega
     obtain⟨c1,c2,c3,c4⟩:=c.out.cells (i:=r+1) (by omega);obtain⟨d1,d2,d3,d4⟩:=c.out.cells (i:=r) (by omega);have F:=ug P S x R (p:=r-a+1) (i:=r+1) (by omega) (by rw[←Ha.out];omega);have B:=vY P S x R (p:=r-a) (i:=r) (by omega) (by rw[←Ha.out];omega);have v:=CO P S x R (p:=r-a) (i:=r) (j:=r+1) (by omega) (by rw[←Ha.out];omega) (by rw[←Ha.out];omega);obtain⟨y,hy⟩:∃y,Hid (S.getD (r-a) zR=y):=⟨_,rfl⟩;rw[hy.out]at B;rw[F]at c1 c2 c3 c4;rw[B]at d1 d2 d3 d4;have fr:=c.out.free;have d:=c.out.lt;have J:=aW v;have a6:=aW F;have a5:=aW B;have HL:=aW hL;clear v F B hL H L;obtain⟨o,ho⟩:∃o,Hid (xY x y=o):=⟨_,rfl⟩;have u:∀W:World,Calls prog 129 #[rv x,rv y] W fun e t=>e=.returned (.int .i64 o)∧Below W.heap.size W t:=fun W=>by rw[←ho.out];exact pT x y W
     unfold rv at u;have h:∀W:World,Below wr.heap.size wr W→W.cell? ⟨g,(r +1)*4,none⟩=some (.int .i64 x.sh)∧W.cell? ⟨g,(r +1)*4+1,none⟩=some (.int .i64 x.au)∧W.cell? ⟨g,(r+1)*4+2,none⟩=some (.int .i64 x.k)∧W.cell? ⟨g,(r +1)*4+3,none⟩=some (.int .i64 x.m)∧W.cell? ⟨g,r*4,none⟩=some (.int .i64 y.sh)∧W.cell? ⟨g,r*4+1,none⟩=some (.int .i64 y.au)∧W.cell? ⟨g,r*4+2,none⟩=some (.int .i64 y.k)∧W.cell? ⟨g,r*4+3,none⟩=some (.int .i64 y.m):=fun W s=>⟨(s.cell (p:=⟨g,_,none⟩) d).trans c1,(s.cell (p:=⟨g,_,none⟩) d).trans c2,(s.cell (p:=⟨g,_,none⟩) d).trans c3,(s.cell (p:=⟨g,_,none⟩) d).trans c4,(s.cell (p:=⟨g,_,none⟩) d).trans d1,(s.cell (p:=⟨g,_,none⟩) d).trans d2,(s.cell (p:=⟨g,_,none⟩) d).trans d3,(s.cell (p:=⟨g,_,none⟩) d).trans d4⟩;have a1:∀W:World,Below wr.heap.size wr W→∀p,W.frozen? ⟨g,p,none⟩=false:=fun W s=>(c.out.below s d).free;go_upto_region 4 with fail;go_region_held3 (fun t=>t.cell? ⟨g,(r +1)*4,none⟩=some (.int .i64 x.sh)∧t.cell? ⟨g,(r +1)*4+1,none⟩=some (.int .i64 x.au)∧t.cell? ⟨g,(r +1)*4+2,none⟩=some (.int .i64 x.k)∧t.cell? ⟨g,(r +1)*4+3,none⟩=some (.int .i64 x.m)∧t.cell? ⟨g,r*4,none⟩=some (.int .i64 y.sh)∧t.cell? ⟨g,r*4+1,none⟩=some (.int .i64 y.au)∧t.cell? ⟨g,r*4+2,none⟩=some (.int .i64 y.k)∧t.cell? ⟨g,r*4+3,none⟩=some (.int .i64 y.m)) (first|exact⟨c1,c2,c3,c4,d1,d2,d3,d4⟩|exact h _ l)
      ((go_at_call 129;refine(u _).mono ?_;rintro e K ⟨rfl,U⟩;have l:Below wr.heap.size wr K:=(Below.refl wr.heap.size wr).drew.trans U;clear U));have a9:=l;have Z:=aW (c.out.below l d);obtain⟨c1,c2,c3,c4,d1,d2,d3,d4⟩:=h K l;have bb:=a1 K l;have T:Below g w K:=A.trans (l.mono (Nat.le_of_lt d));clear l h a1 u fr;by_cases M:o<0
     ·have n:iJ (S.getD (r -a) zR) x=true:=by rw[hy.out];exact rD.1 (by rw[ho.out];exact M)
      have G:=aW (f.out.trans (Gt n));have bc:=aW n;clear n;go_upto_region 6 with fail;go_region;have hP:=Z.out.AW (i:=r+1) (j:=r) (by rw[HL.out];exact hi) (by rw[HL.out];exact a4) a6.out a5.out;have hQ:=i_ (i_ T g ((r+1)*4) (aj _) y) g (r *4) (aj _) x;rw[J.out]at hP;unfold xJ at hP hQ;go_wp2_with fail;go_roundw;case rel=>exact⟨r,by omega,by omega,by go_num,hQ.drew,G,hP.drew⟩
      case measure=>simp[intOf]
     ·have n:iJ (S.getD (r-a) zR) x=false:=by rw[hy.out];exact tV.1 (by rw[ho.out];exact M)
      have hE:=E K (r -a+1) (f.out.trans (zW n)) Z.out;clear n;go_wp2_with fail;go_roundw;case rel=>exact⟨k+1,by omega,by omega,by go_num,T,hE.out⟩
      case measure=>simp[intOf];omega
  ·have c:iO wr g (P ++(cg X++Q)):=by have:= z.out;rw[gf (by omega),cM (by omega)]at this;simpa using this
   have am:¬((a:Int)+k<b):=by omega
   go_wp2_with fail;go_end0;exact⟨rfl,D,c⟩
