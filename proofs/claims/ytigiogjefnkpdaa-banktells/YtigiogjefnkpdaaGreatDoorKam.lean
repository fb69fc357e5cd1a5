import Derived.Test.YtigiogjefnkpdaaGreatDoorKab
set_option maxHeartbeats 4000000
set_option maxRecDepth 100000
open Go.Proofs.Tryz
namespace Go.Proofs.YtigiogjefnkpdaaGreatDoor.St
structure Ad where
 c:Int
 s:Int
 m:Int
 t:Int
structure Sd where
 cap:Int
 used:List Int
 bL:List Ad
def zA:Ad:=⟨0,0,0,0⟩
def zD:Sd:=⟨0,[],[]⟩
abbrev vQ(n:Int):Prop:=0≤n∧n≤1000000
abbrev Fits(a:Ad)(n:Int):Prop:=0≤a.c∧a.c<n∧0≤a.s∧a.s<8∧1≤a.m∧a.m≤1000000∧0≤a.t∧a.t≤1000000
def si(n:Int):Bool:=decide (vQ n)
theorem mw{n:Int}(h:vQ n):si n=true:=fQ h
theorem lv{n:Int}(h:¬vQ n):si n=false:=cD h
def oX(a:Ad)(n:Int):Bool:=decide (Fits a n)
theorem qz{a:Ad}{n:Int}(h:Fits a n):oX a n=true:=fQ h
theorem gq{a:Ad}{n:Int}(h:¬Fits a n):oX a n=false:=cD h
def g9(k:Int):List Ad→Int
 |[]=>0
 |a::r=>(if a.c=k then a.m else 0)+g9 k r
def qi(n:Nat)(G:List Ad):List Int:=(List.range n).map fun(i :Nat)=>g9 (i:Int) G
abbrev Fit(s:Sd)(i:Nat):Prop:=s.used.getD i 0=g9 (i:Int) s.bL∧g9 (i :Int) s.bL≤s.cap
def dT(s:Sd):Int:=if 8<s.used.length∨20<s.bL.length then 5
 else if¬vQ s.cap then 3
 else if∃i:Nat,i<s.bL.length∧¬Fits (s.bL.getD i zA) s.used.length then 3
 else if∃i:Nat,i<s.used.length∧¬Fit s i then 8
 else 0
def rY(a aL:Int):Sd×Int:=if aL<0∨8<aL then(zD,5)else if¬vQ a then(zD,3)else(⟨a,List.replicate aL.toNat 0,[]⟩,0)
def oV(s:Sd)(a:Ad):Sd:=⟨s.cap,s.used.set a.c.toNat (s.used.getD a.c.toNat 0+a.m),s.bL++[a]⟩
def ep(s:Sd)(a:Ad):Sd×Int:=if dT s≠0 then(zD,dT s)else if s.bL.length=20 then(zD,5)else if¬Fits a s.used.length then(zD,3)else if s.cap<s.used.getD a.c.toNat 0+a.m then(zD,10)else(oV s a,0)
theorem jL{s:Sd}(h:8<s.used.length∨20<s.bL.length):dT s=5:=by unfold dT;rw[aB h]
theorem wK{s:Sd}(h1:s.used.length≤8)(h2:s.bL.length≤20)(h:¬vQ s.cap):dT s=3:=by unfold dT;rw[ai (by omega),aB h]
theorem vO{s:Sd}(h1:s.used.length≤8)(h2:s.bL.length≤20)(a:vQ s.cap){i:Nat}(hi:i<s.bL.length)(h:¬Fits (s.bL.getD i zA) s.used.length):dT s=3:=by unfold dT;rw[ai (by omega),ai (by omega),aB ⟨i,hi,h⟩]
def nj(s:Sd)(k:Nat):Prop:=∀i:Nat,i<k→Fits (s.bL.getD i zA) s.used.length
def tI(s:Sd)(k:Nat):Prop:=∀i:Nat,i<k→Fit s i
theorem t9(s:Sd):nj s 0:=fun _ h=>absurd h (Nat.not_lt_zero _)
theorem uq(s:Sd):tI s 0:=fun _ h=>absurd h (Nat.not_lt_zero _)
theorem nj.next{s:Sd}{k:Nat}(g:nj s k)(h:Fits (s.bL.getD k zA) s.used.length):nj s (k+1):=fun i hi=>by
 rcases jb i k with h1|h1;·exact g i h1
 ·obtain rfl:i=k:=by omega
  exact h
theorem tI.next{s:Sd}{k:Nat}(g:tI s k)(h:Fit s k):tI s (k +1):=fun i hi=>by
 rcases jb i k with h1|h1;·exact g i h1
 ·obtain rfl:i=k:=by omega
  exact h
theorem wR{s:Sd}(h1:s.used.length≤8)(h2:s.bL.length≤20)(c:vQ s.cap)(g:nj s s.bL.length){i:Nat}(hi:i<s.used.length)(h:¬Fit s i):dT s=8:=by unfold dT;rw[ai (by omega),ai (by omega),ai (fun⟨j,b,a⟩=>a (g j b)),aB ⟨i,hi,h⟩]
theorem qV{s:Sd}(h1:s.used.length≤8)(h2:s.bL.length≤20)(c:vQ s.cap)(g:nj s s.bL.length)(u:tI s s.used.length):dT s=0:=by unfold dT;rw[ai (by omega),ai (by omega),ai (fun ⟨j,b,a⟩=>a (g j b)),ai (fun⟨j,b,a⟩=>a (u j b))]
structure en(s:Sd):Prop where
 u8:s.used.length≤8
 DL:s.bL.length≤20
 Lv:vQ s.cap
 bL:nj s s.bL.length
 fit:tI s s.used.length
theorem rG{s:Sd}(h:dT s=0):en s:=by
 unfold dT at h;by_cases h1:8<s.used.length∨20<s.bL.length;·rw[aB h1]at h;cases h
 rw[ai h1]at h;by_cases h2:¬vQ s.cap;·rw[aB h2]at h;cases h
 rw[ai h2]at h;by_cases b:∃i:Nat,i<s.bL.length∧¬Fits (s.bL.getD i zA) s.used.length;·rw[aB b]at h;cases h
 rw[ai b]at h;by_cases c:∃i:Nat,i<s.used.length∧¬Fit s i;·rw[aB c]at h;cases h
 exact⟨by omega,by omega,Decidable.not_not.1 h2,fun i hi=>Decidable.byContradiction fun a=>b ⟨i,hi,a⟩,fun i hi=>Decidable.byContradiction fun a=>c ⟨i,hi,a⟩⟩
theorem en.dS{s:Sd}(r:en s):dT s=0:=qV r.u8 r.DL r.Lv r.bL r.fit
theorem oF(k:Int)(G:List Ad)(a:Ad):g9 k (G++[a])=g9 k G+(if a.c=k then a.m else 0):=by
 induction G with
 |nil=>simp[g9]
 |cons x r b=>simp only[mU,g9,b];omega
theorem gh{L:List Ad}{k:Nat}(a:k<L.length):L.take (k +1)=L.take k++[L.getD k zA]:=by rw[vI];simp[List.getD,a]
theorem jQ(n:Nat)(G:List Ad):(qi n G).length=n:=by simp[qi]
theorem tU(n:Nat)(G:List Ad){i:Nat}(h:i<n):(qi n G)[i]?=some (g9 (i:Int) G):=by simp[qi,h]
theorem sO(n:Nat)(G:List Ad){i:Nat}(h:i<n):(qi n G).getD i 0=g9 (i :Int) G:=by simp[List.getD,tU n G h]
theorem IK(n:Nat):qi n []=List.replicate n 0:=by apply List.ext_getElem?;intro j;by_cases a:j<n<;>simp[qi,g9,a]
theorem vL(n:Nat)(G:List Ad)(a:Ad)(h0:0≤a.c):(qi n G).set a.c.toNat (g9 a.c G+a.m)=qi n (G ++[a]):=by
 apply List.ext_getElem?;intro j;rw[List.getElem?_set];by_cases d:j<n
 ·rw[tU n _ d,tU n _ d,jQ,oF];by_cases e:a.c.toNat=j
  ·have b:a.c=(j :Int):=by omega
   rw[aB e,aB (by omega),aB b,b]
  ·have b:¬a.c=(j:Int):=by omega
   rw[ai e,ai b];simp
 ·have h1:∀M,(qi n M)[j]?=none:=fun M=>List.getElem?_eq_none (by rw[jQ];omega);rw[h1,h1,jQ];by_cases e:a.c.toNat=j;·rw[aB e,ai (by omega)]
  ·rw[ai e]
theorem yY{k n:Int}{G:List Ad}(h:∀a∈G,Fits a n):0≤g9 k G∧g9 k G≤1000000*G.length:=by
 induction G with
 |nil=>simp[g9]
 |cons a r b=>have h1:=b fun x c=>h x (cR _ c);have h2:=h a bT;simp only[g9,di];split<;>omega
theorem oC{α:Type}{L:List α}{i:Nat}(h:i<L.length)(d:α):L.getD i d=L[i]:=by simp[List.getD,h]
theorem nj.each{s:Sd}(g:nj s s.bL.length):∀a∈s.bL,Fits a s.used.length:=fun a b=>by obtain⟨i,hi,rfl⟩:=ss b;have:= g i hi;rwa[oC hi]at this
theorem nj.small{s:Sd}(g:nj s s.bL.length)(h:s.bL.length≤20)(k:Int)(j:Nat):0≤g9 k (s.bL.take j)∧g9 k (s.bL.take j)≤20000000:=by
 have h1:=yY (k:=k) (n:=s.used.length) (G:=s.bL.take j) fun a b=>g.each a (eE b);have h2:(s.bL.take j).length≤20:=by simp;omega
 omega
theorem en.st{s:Sd}(r:en s):s.used=qi s.used.length s.bL:=by
 apply List.ext_getElem?;intro j;by_cases a:j<s.used.length;·rw[tU _ _ a,gH a];have:= (r.fit j a).1;rw[oC a]at this;rw[this]
 ·rw[List.getElem?_eq_none (by omega),List.getElem?_eq_none (by rw[jQ];omega)]
theorem en.more{s:Sd}(r:en s){a:Ad}(h1:s.bL.length≠20)(h2:Fits a s.used.length)(k:¬s.cap<s.used.getD a.c.toNat 0+a.m):en (oV s a):=by
 have f:=r.st
 have h:(oV s a).used=qi s.used.length (s.bL ++[a]):=by
  show s.used.set a.c.toNat (s.used.getD a.c.toNat 0+a.m)=_;have j:s.used.getD a.c.toNat 0=g9 a.c s.bL:=by have:= (r.fit a.c.toNat (by omega)).1;rw[this,show((a.c.toNat:Nat):Int)=a.c by omega]
  rw[j,←vL _ _ _ h2.1,←f]
 have g:(oV s a).used.length=s.used.length:=by simp[oV]
 have d:(oV s a).bL=s.bL++[a]:=rfl;refine⟨by rw[g];exact r.u8,by rw[d];simp;have :=r.DL;omega,r.Lv,fun i hi=>?_,fun i hi=>?_⟩
 ·rw[g,d];rw[d]at hi;simp at hi;by_cases b:i<s.bL.length
  ·have :=r.bL i b;have e:(s.bL ++[a]).getD i zA=s.bL.getD i zA:=by simp[List.getD,List.getElem?_append_left b]
   rw[e];exact this
  ·obtain rfl:i=s.bL.length:=by omega
   have e:(s.bL ++[a]).getD s.bL.length zA=a:=by simp[List.getD]
   rw[e];exact h2
 ·rw[g]at hi;unfold Fit;rw[h,sO _ _ hi,d];refine⟨rfl,?_⟩;show g9 (i :Int) (s.bL++[a])≤s.cap;rw[oF];obtain⟨l,n⟩:=r.fit i hi;by_cases e:a.c=(i :Int)
  ·rw[aB e,←l];have: a.c.toNat=i:=by omega
   rw[this]at k;omega
  ·rw[ai e];omega
theorem zT{s:Sd}{a:Ad}(h:dT s≠0):ep s a=(zD,dT s):=by unfold ep;rw[aB h]
theorem sW{s:Sd}{a:Ad}(h:dT s=0)(h1:s.bL.length=20):ep s a=(zD,5):=by unfold ep;rw[ai (by simpa using h),aB h1]
theorem gT{s:Sd}{a:Ad}(h:dT s=0)(h1:s.bL.length≠20)(h2:¬Fits a s.used.length):ep s a=(zD,3):=by unfold ep;rw[ai (by simpa using h),ai h1,aB h2]
theorem qO{s:Sd}{a:Ad}(h:dT s=0)(h1:s.bL.length≠20)(h2:Fits a s.used.length)(b:s.cap<s.used.getD a.c.toNat 0+a.m):ep s a=(zD,10):=by unfold ep;rw[ai (by simpa using h),ai h1,ai (by simpa using h2),aB b]
theorem yo{s:Sd}{a:Ad}(h:dT s=0)(h1:s.bL.length≠20)(h2:Fits a s.used.length)(b:¬s.cap<s.used.getD a.c.toNat 0+a.m):ep s a=(oV s a,0):=by unfold ep;rw[ai (by simpa using h),ai h1,ai (by simpa using h2),ai b]
theorem BN{s:Sd}{a:Ad}(r:en s)(h:(ep s a).2=0):ep s a=(oV s a,0)∧en (oV s a):=by
 have b:=r.dS;by_cases h1:s.bL.length=20;·rw[sW b h1]at h;cases h
 by_cases h2:Fits a s.used.length
 ·by_cases d:s.cap<s.used.getD a.c.toNat 0+a.m;·rw[qO b h1 h2 d]at h;cases h
  ·exact⟨yo b h1 h2 d,r.more h1 h2 d⟩
 ·rw[gT b h1 h2]at h;cases h
theorem zK{a aL:Int}(h:aL<0∨8<aL):rY a aL=(zD,5):=by unfold rY;rw[aB h]
theorem En{a aL:Int}(h:¬(aL<0∨8<aL))(h1:¬vQ a):rY a aL=(zD,3):=by unfold rY;rw[ai h,aB h1]
theorem Bm{a aL:Int}(h:¬(aL <0∨8<aL))(h1:vQ a):rY a aL=(⟨a,List.replicate aL.toNat 0,[]⟩,0):=by unfold rY;rw[ai h,ai (by simpa using h1)]
theorem wI{a:Int}{n:Nat}(h:n≤8)(h1:vQ a):en ⟨a,List.replicate n 0,[]⟩:=by
 refine⟨by simpa using h,by simp,h1,fun i hi=>absurd hi (Nat.not_lt_zero _),fun i hi=>?_⟩;simp at hi;unfold Fit;have :(List.replicate n (0:Int)).getD i 0=0:=by simp[List.getD,hi]
 show(List.replicate n (0 :Int)).getD i 0=0∧(0 :Int)≤a;exact⟨this,h1.1⟩
open RowKit Gn
def av(a:Ad):Value:=.agg #[.int .i64 a.c,.int .i64 a.s,.int .i64 a.m,.int .i64 a.t]
def rh(a:Ad):Obj:=.cells #[.int .i64 a.c,.int .i64 a.s,.int .i64 a.m,.int .i64 a.t] 95
def kA:Kind Ad where
 cells:=fun a=>[.int .i64 a.c,.int .i64 a.s,.int .i64 a.m,.int .i64 a.t]
 size:=4
 len:=fun _=>rfl
 one:=fun x u b=>by simp at b;rcases b with rfl|rfl|rfl|rfl<;>rfl
 pos:=by decide
theorem LB:(prog.info? 95).map (fun i=>(i.zero,i.size,i.bytes))=some (some (.agg #[.int .i64 0,.int .i64 0,.int .i64 0,.int .i64 0]),4,32):=by kernel_rfl
theorem Kr:(prog.info? 3).map (fun i=>(i.zero,i.size,i.bytes))=some (some (.int .i64 0),1,8):=by kernel_rfl
theorem DD:sc prog kA 36 95 32:=by obtain⟨i,h1,h2,b,a⟩:=info_parts LB;exact⟨underlying36,i,_,h1,h2,b,a,rfl⟩
theorem DC:sc prog kI 27 3 8:=by obtain⟨i,h1,h2,b,a⟩:=info_parts Kr;exact⟨underlying27,i,_,h1,h2,b,a,rfl⟩
theorem my(n:Nat)(h:n≤1000000)(w:World):(Instr.makeSlice 27 (.int .i64 (n:Int)) (.int .i64 (n :Int))).run prog w=.ok (.slice (some ⟨w.heap.size,0,none⟩) n n) (w.alloc (.cells (madeCells #[.int .i64 0] n) 3)):=run_make_row' 27 3 (.int .i64 0) 8 underlying27 Kr rfl .i64 .i64 n (by omega) (by omega) w
theorem nS{w:World}{a:Option Addr}{cap:Nat}{L:List Ad}(h:bF kA w a cap L){i:Nat}(hi:i<L.length):∃b off,a=some ⟨b,off,none⟩∧b<w.heap.size∧w.cell? ⟨b,off+i*4,none⟩=some (.int .i64 (L.getD i zA).c)∧w.cell? ⟨b,off+i*4+1,none⟩=some (.int .i64 (L.getD i zA).s)∧w.cell? ⟨b,off+i*4+2,none⟩=some (.int .i64 (L.getD i zA).m)∧w.cell? ⟨b,off+i*4+3,none⟩=some (.int .i64 (L.getD i zA).t):=by obtain⟨b,off,f,e,d⟩:=h.elem (i:=i) (x:=L.getD i zA) (by simp[List.getD,hi]);exact⟨b,off,f,e,d 0 _ rfl,d 1 _ rfl,d 2 _ rfl,d 3 _ rfl⟩
theorem gv{W:World}{b:Nat}{t:Ad}(a:W.heap[b]?=some (rh t)):W.cell? ⟨b,0,none⟩=some (.int .i64 t.c)∧W.cell? ⟨b,1,none⟩=some (.int .i64 t.s)∧W.cell? ⟨b,2,none⟩=some (.int .i64 t.m)∧W.cell? ⟨b,3,none⟩=some (.int .i64 t.t):=by unfold rh at a;refine⟨?_,?_,?_,?_⟩<;>simp[World.cell?,a]
def dv(n:Int)(a v2:Value):Value:=.agg #[.int .i64 n,a,v2]
def jw(n:Int)(a v2:Value):Obj:=.cells #[.int .i64 n,a,v2] 38
theorem bG{W:World}{b:Nat}{n:Int}{a v2:Value}(c:W.heap[b]?=some (jw n a v2)):W.cell? ⟨b,0,none⟩=some (.int .i64 n)∧W.cell? ⟨b,1,none⟩=some a∧W.cell? ⟨b,2,none⟩=some v2:=by unfold jw at c;refine⟨?_,?_,?_⟩<;>simp[World.cell?,c]
theorem fA{W:World}{b:Nat}{n:Int}{c v2:Value}(a:W.heap[b]?=some (jw n c v2)):W.frozen? ⟨b,0,none⟩=false∧W.frozen? ⟨b,1,none⟩=false∧W.frozen? ⟨b,2,none⟩=false:=by unfold jw at a;refine⟨?_,?_,?_⟩<;>simp[World.frozen?,a]
def vC(W:World)(b:Nat)(n:Int)(a v2:Value):World:=((W.setCell ⟨b,0,none⟩ (.int .i64 n)).setCell ⟨b,1,none⟩ a).setCell ⟨b,2,none⟩ v2
theorem EV{W:World}{b:Nat}{n:Int}{c v2:Value}(h:W.heap[b]?=some (jw n c v2))(a:Int)(u1 u2:Value):(vC W b a u1 u2).heap[b]?=some (jw a u1 u2):=by have h1:=aZ W b 0 _ _ (.int .i64 a) h;have h2:=aZ _ b 1 _ _ u1 h1;have d:=aZ _ b 2 _ _ u2 h2;unfold vC;rw[d];simp[jw]
theorem qY(W:World)(b k:Nat)(a:Int)(u1 u2:Value)(h:k≠b):(vC W b a u1 u2).heap[k]?=W.heap[k]?:=by unfold vC;rw[aF _ ⟨b,2,none⟩ _ _ h,aF _ ⟨b,1,none⟩ _ _ h,aF _ ⟨b,0,none⟩ _ _ h]
theorem FR(W:World)(b:Nat)(a:Int)(u1 u2:Value):(vC W b a u1 u2).heap.size=W.heap.size:=by simp[vC]
theorem BD{B:Nat}{w W:World}(c:Below B w W)(b:Nat)(h:B≤b)(a:Int)(u1 u2:Value):Below B w (vC W b a u1 u2):=by have h0:B≤(⟨b,0,none⟩:Addr).block:=h;have h1:B≤(⟨b,1,none⟩:Addr).block:=h;have h2:B≤(⟨b,2,none⟩:Addr).block:=h;exact((c.setCell h0 _).setCell h1 _).setCell h2 _
theorem il{a b:Bool}(h:a=b):Ending.returned (.bool a)=.returned (.bool b):=by rw[h]
theorem bP{k:IntKind}{a b:Int}(h:a=b):Ending.returned (.int k a)=.returned (.int k b):=by rw[h]
theorem aW{p:Prop}(h:p):Hid p:=h
theorem aM{W X:World}(h:Below W.heap.size W X)(o:Obj):Below W.heap.size W (X.alloc o):=h.alloc h.size o
def Ap(u v:Value):Prop:=∀k,u.ownBlock=some k→v.ownBlock=some k→False
theorem Ap.symm{u v:Value}(h:Ap u v):Ap v u:=fun k h1 h2=>h k h2 h1
theorem Row.set{α:Type}{K:Kind α}{e:TypeId}{w:World}{aq:Nat}{v:Value}{L:List α}(h:Row K e w aq v L)(p:Addr)(b:p.block<aq)(u:Value):Row K e (w.setCell p u) aq v L:=h.cB (by simp) fun k a _=>aF _ _ _ _ (by have:= (h.dV k a).1;omega)
theorem Row.xH{α:Type}{K:Kind α}{e:TypeId}{w:World}{aq:Nat}{v:Value}{L:List α}(h:Row K e w aq v L)(p:Addr)(a:∀k,v.ownBlock=some k→k≠p.block)(u:Value):Row K e (w.setCell p u) aq v L:=h.cB (by simp) fun k b _=>aF _ _ _ _ (a k b)
theorem jx{α:Type}{K:Kind α}{e:TypeId}{W:World}{aq:Nat}{v:Value}{L:List α}(h:Row K e W aq v L):∃a cap,v=.slice a L.length cap∧Row K e W aq (.slice a L.length cap) L∧bF K W a cap L:=by obtain⟨a,cap,rfl,b,-,-⟩:=h.bQ;exact⟨a,cap,rfl,h,b⟩
def At{α:Type}(K:Kind α)(W:World)(v:Value)(L:List α):Prop:=∃a cap,v=.slice a L.length cap∧bF K W a cap L
theorem At.below{α:Type}{K:Kind α}{W b:World}{v:Value}{L:List α}(h:At K W v L)(d:Below W.heap.size W b):At K b v L:=by obtain⟨a,cap,rfl,c⟩:=h;exact⟨a,cap,rfl,c.below d⟩
theorem At.drew{α:Type}{K:Kind α}{W:World}{v:Value}{L:List α}(h:At K W v L):At K W.drew v L:=by obtain⟨a,cap,rfl,b⟩:=h;exact⟨a,cap,rfl,b.drew⟩
theorem At.len{α:Type}{K:Kind α}{W:World}{v:Value}{L:List α}(h:At K W v L):L.length≤maxLen:=by obtain⟨a,cap,rfl,b⟩:=h;exact b.len
theorem Row.at{α:Type}{K:Kind α}{e:TypeId}{W:World}{aq:Nat}{v:Value}{L:List α}(h:Row K e W aq v L):At K W v L:=by obtain⟨a,cap,h1,-,h2⟩:=jx h;exact⟨a,cap,h1,h2⟩
def kv(w:World)(r:Sd×Int)(e:Ending)(a:World):Prop:=∃b v2,e=.returned (.tuple #[dv r.1.cap b v2,.int .i64 r.2])∧Row kI 3 a w.heap.size b r.1.used∧Row kA 95 a w.heap.size v2 r.1.bL∧Below w.heap.size w a
theorem Ae(n:Int):(n<0∧Hid (si n=false))∨(0 ≤n∧1000000<n∧Hid (si n=false))∨(0 ≤n∧n≤1000000∧Hid (si n=true)):=by
 by_cases h1:n<0;·exact Or.inl ⟨h1,lv (fun h=>by have:= h.1;omega)⟩
 by_cases h2:1000000<n;·exact Or.inr (Or.inl ⟨by omega,h2,lv (fun h=>by have:= h.2;omega)⟩)
 ·exact Or.inr (Or.inr ⟨by omega,by omega,mw ⟨by omega,by omega⟩⟩)
theorem nf(n:Int)(w:World):Calls prog 34 #[.int .i64 n] w fun e a=>e=.returned (.bool (si n))∧a=w:=by rcases Ae n with⟨h1,H⟩|⟨h1,h2,H⟩|⟨h1,h2,H⟩;all_goals go_enter func34,ntmps34;go_wp2;go_ret;exact⟨il (by first|exact H.out.symm|(rw[H.out];apply cD;omega)|(rw[H.out];apply fQ;omega)),rfl⟩
theorem ji(n:Int)(w:World):Calls prog 82 #[.int .i64 n] w fun e a=>e=.returned (.bool (si n))∧a=w:=by rcases Ae n with⟨h1,H⟩|⟨h1,h2,H⟩|⟨h1,h2,H⟩;all_goals go_enter func82,ntmps82;go_wp2;go_ret;exact⟨il (by first|exact H.out.symm|(rw[H.out];apply cD;omega)|(rw[H.out];apply fQ;omega)),rfl⟩
theorem ER(a:Ad)(n:Int):(a.c <0∧Hid (oX a n=false))∨(0 ≤a.c∧n≤a.c∧Hid (oX a n=false))∨(0 ≤a.c∧a.c<n∧a.s<0∧Hid (oX a n=false))∨(0 ≤a.c∧a.c<n∧0≤a.s∧8≤a.s∧Hid (oX a n=false))∨(0≤a.c∧a.c<n∧0≤a.s∧a.s<8∧a.m<1∧Hid (oX a n=false))∨(0 ≤a.c∧a.c<n∧0≤a.s∧a.s<8∧1≤a.m∧1000000<a.m∧Hid (oX a n=false))∨(0≤a.c∧a.c<n∧0≤a.s∧a.s<8∧1≤a.m∧a.m≤1000000∧a.t<0∧Hid (oX a n=false))∨(0≤a.c∧a.c<n∧0≤a.s∧a.s<8∧1≤a.m∧a.m≤1000000∧0≤a.t∧1000000<a.t∧Hid (oX a n=false))∨(0 ≤a.c∧a.c<n∧0≤a.s∧a.s<8∧1≤a.m∧a.m≤1000000∧0≤a.t∧a.t≤1000000∧Hid (oX a n=true)):=by
 by_cases h1:a.c<0;·exact Or.inl ⟨h1,gq fun h=>by have:= h.1;omega⟩
 by_cases h2:n≤a.c;·exact Or.inr (Or.inl ⟨by omega,h2,gq fun h=>by have:= h.2.1;omega⟩)
 by_cases i:a.s<0;·exact Or.inr (Or.inr (Or.inl ⟨by omega,by omega,i,gq fun h=>by have:= h.2.2.1;omega⟩))
 by_cases g:8≤a.s;·exact Or.inr (Or.inr (Or.inr (Or.inl ⟨by omega,by omega,by omega,g,gq fun h=>by have:= h.2.2.2.1;omega⟩)))
 by_cases f:a.m<1;·exact Or.inr (Or.inr (Or.inr (Or.inr (Or.inl ⟨by omega,by omega,by omega,by omega,f,gq fun h=>by have:= h.2.2.2.2.1;omega⟩))))
 by_cases e:1000000<a.m;·exact Or.inr (Or.inr (Or.inr (Or.inr (Or.inr (Or.inl ⟨by omega,by omega,by omega,by omega,by omega,e,gq fun h=>by have :=h.2.2.2.2.2.1;omega⟩)))))
 by_cases d:a.t<0;·exact Or.inr (Or.inr (Or.inr (Or.inr (Or.inr (Or.inr (Or.inl ⟨by omega,by omega,by omega,by omega,by omega,by omega,d,gq fun h=>by have:= h.2.2.2.2.2.2.1;omega⟩))))))
 by_cases b:1000000<a.t;·exact Or.inr (Or.inr (Or.inr (Or.inr (Or.inr (Or.inr (Or.inr (Or.inl ⟨by omega,by omega,by omega,by omega,by omega,by omega,by omega,b,gq fun h=>by have:= h.2.2.2.2.2.2.2;omega⟩)))))))
 exact Or.inr (Or.inr (Or.inr (Or.inr (Or.inr (Or.inr (Or.inr (Or.inr ⟨by omega,by omega,by omega,by omega,by omega,by omega,by omega,by omega,qz ⟨by omega,by omega,by omega,by omega,by omega,by omega,by omega,by omega⟩⟩)))))))
theorem mf(a:Ad)(n:Int)(w:World):Calls prog 111 #[av a,.int .i64 n] w fun e h=>e=.returned (.bool (oX a n))∧Below w.heap.size w h:=by unfold av;have j:∀o,Below w.heap.size w (w.alloc o):=ar w;rcases ER a n with⟨h1,H⟩|⟨h1,h2,H⟩|⟨h1,h2,b,H⟩|⟨h1,h2,b,c,H⟩|⟨h1,h2,b,c,d,H⟩|⟨h1,h2,b,c,d,f,H⟩|⟨h1,h2,b,c,d,f,g,H⟩|⟨h1,h2,b,c,d,f,g,i,H⟩|⟨h1,h2,b,c,d,f,g,i,H⟩;all_goals go_enter func111,ntmps111;go_wp2;go_ret;exact⟨il (by first|exact H.out.symm|(rw[H.out];apply cD;omega)|(rw[H.out];apply fQ;omega)),j _⟩
open RowKit Gn
theorem uw(a aL:Int):(aL<0∧Hid (rY a aL=(zD,5)))∨(0≤aL∧8<aL∧Hid (rY a aL=(zD,5)))∨(0≤aL∧aL≤8∧Hid (si a=false)∧Hid (rY a aL=(zD,3)))∨(∃n:Nat,aL=n∧n≤8∧Hid (si a=true)∧Hid (rY a aL=(⟨a,List.replicate n 0,[]⟩,0))):=by
 by_cases h1:aL<0;·exact Or.inl ⟨h1,zK (Or.inl h1)⟩
 by_cases h2:8<aL;·exact Or.inr (Or.inl ⟨by omega,h2,zK (Or.inr h2)⟩)
 by_cases b:vQ a;·refine Or.inr (Or.inr (Or.inr ⟨aL.toNat,by omega,by omega,mw b,?_⟩));exact Bm (by omega) b
 ·exact Or.inr (Or.inr (Or.inl ⟨by omega,by omega,lv b,En (by omega) b⟩))
theorem rJ(a aL:Int)(w:World):Calls prog 20 #[.int .i64 a,.int .i64 aL] w (kv w (rY a aL)):=by
 have c:Below w.heap.size w (w.alloc (jw 0 (.slice none 0 0) (.slice none 0 0))):=ar w _;have l:(w.alloc (jw 0 (.slice none 0 0) (.slice none 0 0))).heap[w.heap.size]?=some (jw 0 (.slice none 0 0) (.slice none 0 0)):=ah _ _ _ rfl;unfold jw at c l;have bad:∀(r:Int) (b:World),Hid (rY a aL=(zD,r))→Below w.heap.size w b→kv w (rY a aL) (.returned (.tuple #[.agg #[.int .i64 0,.slice none 0 0,.slice none 0 0],.int .i64 r])) b:=fun r b h j=>by rw[h.out];exact⟨_,_,rfl,.nil,.nil,j⟩
 rcases uw a aL with⟨h1,H⟩|⟨h1,h2,H⟩|⟨h1,h2,d,H⟩|⟨n,rfl,h2,d,H⟩
 ·go_enter func20,ntmps20;go_wp2;refine aA (v:=.tuple #[.agg #[.int .i64 0,.slice none 0 0,.slice none 0 0],.int .i64 5]) (by simp[results,results20,go_sem];try rfl) rfl (bad _ _ H ?_);repeat refine aR ?_ (by simp) _
  exact c
 ·go_enter func20,ntmps20;go_wp2;refine aA (v:=.tuple #[.agg #[.int .i64 0,.slice none 0 0,.slice none 0 0],.int .i64 5]) (by simp[results,results20,go_sem];try rfl) rfl (bad _ _ H ?_);repeat refine aR ?_ (by simp) _
  exact c
 ·go_enter func20,ntmps20;go_wp2_with(go_at_call 34;refine(nf _ _).mono ?_;rw[d.out];rintro e b ⟨rfl,rfl⟩);refine aA (v:=.tuple #[.agg #[.int .i64 0,.slice none 0 0,.slice none 0 0],.int .i64 3]) (by simp[results,results20,go_sem];try rfl) rfl (bad _ _ H ?_);repeat refine aR ?_ (by simp) _
  exact c
 ·have i:=my n (by omega);have g:(0:Int)≤(n :Int):=by omega
  have f:(n:Int)≤8:=by omega
  go_enter func20,ntmps20;go_wp2_with(go_at_call 34;refine(nf _ _).mono ?_;rw[d.out];rintro e b ⟨rfl,rfl⟩);have k:=pZ (w.alloc (jw a (.slice (some ⟨w.heap.size+1,0,none⟩) n n) (.slice none 0 0))) 3 n;refine aA (v:=.tuple #[.agg #[.int .i64 a,.slice (some ⟨w.heap.size+1,0,none⟩) n n,.slice none 0 0],.int .i64 0]) (by simp[results,results20,go_sem];try rfl) rfl ?_;rw[H.out];refine⟨_,_,rfl,?_,.nil,((ar _ _).alloc (by simp) _)⟩;have:= k.row w.heap.size (by simp) (by simp[maxLen];omega);simpa[jw]using this
structure Ow(w:World)(n:Int)(v1 v2:Value)(W:World):Prop where
 bel:Below w.heap.size w W
 box:W.heap[w.heap.size]?=some (jw n v1 v2)res:W.heap[w.heap.size+1]?=some (jw 0 (.slice none 0 0) (.slice none 0 0))
theorem Ow.lt{w:World}{n:Int}{a v2:Value}{W:World}(h:Ow w n a v2 W):w.heap.size+1<W.heap.size:=ae h.res
theorem Ow.on{w:World}{n:Int}{b v2:Value}{W c:World}(h:Ow w n b v2 W)(a:Below W.heap.size W c):Ow w n b v2 c:=⟨h.bel.trans (a.mono h.bel.size),(a.block _ (ae h.box)).trans h.box,(a.block _ (ae h.res)).trans h.res⟩
theorem Iv(w:World)(n:Int)(a v2:Value):Ow w n a v2 ((w.alloc (jw n a v2)).alloc (jw 0 (.slice none 0 0) (.slice none 0 0))):=⟨(ar _ _).alloc (by simp) _,by rw[bC _ _ _ (by simp),ah _ _ _ rfl],ah _ _ _ (by simp)⟩
theorem Ow.one{w:World}{n:Int}{a v2:Value}{W:World}(h:Ow w n a v2 W)(u:Value):Ow w n u v2 (W.setCell ⟨w.heap.size,1,none⟩ u):=by refine⟨h.bel.setCell (by simp) _,?_,(aF _ _ _ _ (by simp)).trans h.res⟩;have :=aZ W w.heap.size 1 _ _ u h.box;simpa[jw]using this
theorem Ow.two{w:World}{n:Int}{a v2:Value}{W:World}(h:Ow w n a v2 W)(u:Value):Ow w n a u (W.setCell ⟨w.heap.size,2,none⟩ u):=by refine⟨h.bel.setCell (by simp) _,?_,(aF _ _ _ _ (by simp)).trans h.res⟩;have :=aZ W w.heap.size 2 _ _ u h.box;simpa[jw]using this
def KI(w:World)(s:Sd)(e:Ending)(a:World):Prop:=∃u1 u2,e=.returned (dv s.cap u1 u2)∧Row kI 3 a w.heap.size u1 s.used∧(s.used ≠[]→a.ownsRow w.heap.size 3 kI.size u1 s.used.length (kI.flat s.used))∧Row kA 95 a w.heap.size u2 s.bL∧Ap u1 u2∧Below w.heap.size w a
theorem mA{w b:World}{aq:Nat}{e:TypeId}{size n:Nat}{v:Value}{xs:List Value}(h:w.ownsRow aq e size v n xs)(c:∀k,v.ownBlock=some k→b.heap[k]?=w.heap[k]?):b.ownsRow aq e size v n xs:=by
 refine⟨h.1,?_⟩;rcases h.2 with h0|⟨g,cap,a,rfl,f,d,r⟩;·exact Or.inl h0
 ·exact Or.inr ⟨g,cap,a,rfl,f,(c g rfl).trans d,r⟩
theorem yX{w:World}{aq base':Nat}{e:TypeId}{size n:Nat}{v:Value}{xs:List Value}(h:w.ownsRow aq e size v n xs)(c:base'≤aq):w.ownsRow base' e size v n xs:=by
 refine⟨h.1,?_⟩;rcases h.2 with h0|⟨g,cap,a,rfl,b,r⟩;·exact Or.inl h0
 ·exact Or.inr ⟨g,cap,a,rfl,bE c b,r⟩
theorem oO(s:Sd)(R v2:Value)(w:World)(h1:At kI w R s.used)(h2:At kA w v2 s.bL)(hu:s.used.length≤8)(ha:s.bL.length≤20):Calls prog 101 #[dv s.cap R v2] w (KI w s):=by
 obtain⟨T,c1,rfl,K⟩:=h1;obtain⟨S,c2,rfl,J⟩:=h2;have r:=Iv w s.cap (.slice T s.used.length c1) (.slice S s.bL.length c2);unfold jw at r;unfold dv;go_enter func101,ntmps101;go_upto_region 1 with fail;generalize(w.alloc _).alloc _=C at*;obtain⟨n,m,l⟩:=bG r.box;have Y:=r.lt;go_wp2_with(at_builtin;refine bH DC _ rfl _ _ rfl (w.heap.size+2) _ [] rfl .nil T s.used.length c1 s.used rfl rfl (K.below r.bel) ?c3 ?c4 ?c5 ?_);case c3=>simp[maxLen];omega
 case c4=>simp;omega
 case c5=>omega
 intro v' G f h M g;have x:Below C.heap.size C G:=cI (L:=[]) (Below.refl _ _) h (.nil:Row kI 3 C C.heap.size (.slice none 0 0) []) (aj _) (aj _);have F:=r.on x;clear r x h n m l M;obtain⟨j,c3,rfl,-,-⟩:=jx f;obtain⟨n,m,l⟩:=bG F.box;obtain⟨Q,P,O⟩:=fA F.box;go_upto_region 2 with fail;have A:=F.one (.slice j s.used.length c3);have c:=Row.set f ⟨w.heap.size,1,none⟩ (by simp<;>omega) (.slice j s.used.length c3);have d:s.used≠[]→(G.setCell ⟨w.heap.size,1,none⟩ (.slice j s.used.length c3)).ownsRow (w.heap.size+2) 3 kI.size (.slice j s.used.length c3) s.used.length (kI.flat s.used):=fun a=>mA (g a) fun k q=>aF _ _ _ _ (by have :=((g a).lt k q).1;simp<;>omega);clear F f g n m l Q P O;generalize G.setCell _ _=z at*;obtain⟨n,m,l⟩:=bG A.box;have X:=A.lt;go_wp2_with(at_builtin;refine bH DD _ rfl _ _ rfl z.heap.size _ [] rfl .nil S s.bL.length c2 s.bL rfl rfl (J.below A.bel) ?c3 ?c4 ?c5 ?_);case c3=>simp[maxLen];omega
 case c4=>simp;omega
 case c5=>omega
 intro U B b e _ _;have i:Below z.heap.size z B:=cI (L:=[]) (Below.refl _ _) e (.nil:Row kA 95 z z.heap.size (.slice none 0 0) []) (aj _) (aj _);have E:=A.on i;have t:=c.below i;have p:s.used≠[]→B.ownsRow (w.heap.size+2) 3 kI.size (.slice j s.used.length c3) s.used.length (kI.flat s.used):=fun a=>mA (d a) fun k q=>i.block _ ((d a).lt k q).2;have N:Ap (.slice j s.used.length c3) U:=fun k W V=>by have:= (c.dV k W).2;have :=(b.dV k V).1;omega
 have o:=b.mono (base':=w.heap.size+2) (by omega);clear A i e n m l c d b;obtain⟨y,c5,rfl,-,-⟩:=jx o;obtain⟨n,m,l⟩:=bG E.box;obtain⟨Q,P,O⟩:=fA E.box;go_upto_region 3 with fail;have D:=E.two (.slice y s.bL.length c5);have I:=Row.set t ⟨w.heap.size,2,none⟩ (by simp<;>omega) (.slice y s.bL.length c5);have H:=Row.set o ⟨w.heap.size,2,none⟩ (by simp<;>omega) (.slice y s.bL.length c5);have u:s.used≠[]→(B.setCell ⟨w.heap.size,2,none⟩ (.slice y s.bL.length c5)).ownsRow (w.heap.size +2) 3 kI.size (.slice j s.used.length c3) s.used.length (kI.flat s.used):=fun a=>mA (p a) fun k q=>aF _ _ _ _ (by have :=((p a).lt k q).1;simp<;>omega);clear E t o p n m l Q P O;generalize B.setCell _ _=W6 at*;obtain⟨n,m,l⟩:=bG D.box;obtain⟨R0,R1,Z⟩:=bG D.res;obtain⟨E0,E1,E2⟩:=fA D.res;go_wp2;refine aA (v:=.agg #[.int .i64 s.cap,.slice j s.used.length c3,.slice y s.bL.length c5]) (by simp[results,results101,go_sem,R0,R1,Z];try rfl) rfl ⟨_,_,rfl,?_,?_,?_,N,?_⟩
 ·refine Row.mono (aq:=w.heap.size+2) ?_ (by omega);repeat refine Row.set ?_ _ (by simp) _
  exact I
 ·intro a;refine yX (aq:=w.heap.size+2) ?_ (by omega)
  exact mA (u a) fun k q=>by
   have:= ((u a).lt k q).1;repeat refine(aF _ _ _ _ (by simp<;>omega)).trans ?_
   rfl
 ·refine Row.mono (aq:=w.heap.size+2) ?_ (by omega);repeat refine Row.set ?_ _ (by simp) _
  exact H
 ·repeat refine aR ?_ (by simp) _
  exact D.bel
open RowKit Gn
theorem Fo{n:Nat}{L:List Ad}{k:Nat}(b:k<L.length){j:Nat}(d:(L.getD k zA).c=(j:Int))(x:Int)(a:x=g9 (j:Int) (L.take k)):(qi n (L.take k)).set j (x +(L.getD k zA).m)=qi n (L.take (k+1)):=by rw[gh b,←vL n (L.take k) (L.getD k zA) (by omega),a,d];simp
theorem Fb(s:Sd)(G v2:Value)(w:World)(h1:At kI w G s.used)(h2:At kA w v2 s.bL)(hu:s.used.length≤8)(Q:s.bL.length≤20)(J:nj s s.bL.length):Calls prog 126 #[dv s.cap G v2] w fun e F=>∃b,e=.returned (.slice (some ⟨b,0,none⟩) s.used.length s.used.length)∧w.heap.size≤b∧ld F 3 b (qi s.used.length s.bL)∧Below w.heap.size w F:=by
 obtain⟨v,c1,rfl,O⟩:=h1;obtain⟨u,c2,rfl,z⟩:=h2;have y:=my s.used.length (by omega);have d:=pZ (w.alloc (jw s.cap (.slice v s.used.length c1) (.slice u s.bL.length c2))) 3 s.used.length;have h:Below w.heap.size w ((w.alloc (jw s.cap (.slice v s.used.length c1) (.slice u s.bL.length c2))).alloc (.cells (madeCells #[.int .i64 0] s.used.length) 3)):=(ar _ _).alloc (by simp) _;have C:((w.alloc (jw s.cap (.slice v s.used.length c1) (.slice u s.bL.length c2))).alloc (.cells (madeCells #[.int .i64 0] s.used.length) 3)).heap[w.heap.size]?=some (jw s.cap (.slice v s.used.length c1) (.slice u s.bL.length c2)):=by rw[bC _ _ _ (by simp),ah _ _ _ rfl]
 have p:(w.alloc (jw s.cap (.slice v s.used.length c1) (.slice u s.bL.length c2))).heap.size=w.heap.size+1:=by simp
 rw[p]at d;clear p;rw[←IK]at d;unfold jw at d h C;unfold dv;go_enter func126,ntmps126;go_upto_region 2 with fail;generalize(w.alloc _).alloc _=W0 at*;obtain⟨C0,C1,Y⟩:=bG C;clear y;go_wp2;clear C0 C1 Y C;go_loopw[13](fun i wr=>∃k:Nat,k≤s.bL.length∧i=.int .i64 k∧ld wr 3 (w.heap.size +1) (qi s.used.length (s.bL.take k))∧Below w.heap.size w wr) (fun i _=>s.bL.length-(intOf i).toNat);case atStart=>exact⟨0,bq _,rfl,by simpa using d,h⟩
 case round=>
  obtain⟨k,hk,rfl,r,q⟩:=hrel;clear d h;generalize wr=W at*;by_cases f:k<s.bL.length
  ·have H:(k:Int)<s.bL.length:=by omega
   obtain⟨b,off,rfl,P,K,V,U,T⟩:=nS (z.below q) f;obtain⟨S,f2,f3,f4,f5,f6,f7,f8⟩:=J k f;obtain⟨j,B⟩:∃j:Nat,(s.bL.getD k zA).c=(j :Int):=⟨_,(Int.toNat_of_nonneg S).symm⟩;have o:j<s.used.length:=by omega
   have I:(j:Int)<s.used.length:=by omega
   have L:=aW (fun x N=>Fo (n:=s.used.length) f B x N);obtain⟨q1,q2⟩:=J.small Q (j:Int) k;have l:=sO s.used.length (s.bL.take k) o;rw[B]at K;have a:=r.alloc (rh (s.bL.getD k zA));have g:=q.alloc q.size (rh (s.bL.getD k zA));have D:(W.alloc (rh (s.bL.getD k zA))).heap[W.heap.size]?=some (rh (s.bL.getD k zA)):=ah _ _ _ rfl;have R:=r.lt;unfold rh at a g D;rw[B]at a g D;generalize(s.bL.getD k zA).m=m at*;generalize(s.bL.getD k zA).s=sh at*;generalize(s.bL.getD k zA).t=M at*;clear r;go_upto_region 5 with fail;clear K V U T q;generalize W.alloc _=W1 at*;obtain⟨A0,A1,A2,A3⟩:=gv (t:=⟨j,sh,m,M⟩) D;dsimp only at A0 A1 A2 A3;have X:=a.cell (i:=j) (by rw[jQ];exact o);have I1:=a.free j;rw[l]at X;clear l;have E:=aW (L.out _ rfl);clear L;generalize g9 (j:Int) (s.bL.take k)=x at*;generalize W.heap.size=Z at*;go_region
   all_goals
    go_wp2;go_roundw;case rel=>exact⟨k+1,by omega,by go_num,by rw[←E.out];exact a.set j (x+m),(g.setCell (by simp) _).drew⟩
    case measure=>simp[intOf];omega
  ·have A:k=s.bL.length:=by omega
   subst A;rw[fc]at r;go_wp2;go_ret;exact⟨w.heap.size+1,rfl,by omega,r,q⟩
theorem dO(s:Sd)(v1 v2:Value)(w:World)(h1:At kI w v1 s.used)(h2:At kA w v2 s.bL):Calls prog 100 #[dv s.cap v1 v2] w fun e M=>e=.returned (.int .i64 (dT s))∧Below w.heap.size w M:=by
 have P:=h1.len;have O:=h2.len;unfold maxLen at P O;have X:=h1;have V:=h2;obtain⟨a1,c1,rfl,R⟩:=h1;obtain⟨a2,c2,rfl,Q⟩:=h2;have o:Below w.heap.size w (w.alloc (jw s.cap (.slice a1 s.used.length c1) (.slice a2 s.bL.length c2))):=ar _ _;have N:(w.alloc (jw s.cap (.slice a1 s.used.length c1) (.slice a2 s.bL.length c2))).heap[w.heap.size]?=some (jw s.cap (.slice a1 s.used.length c1) (.slice a2 s.bL.length c2)):=ah _ _ _ rfl;unfold dv;by_cases h8:8<s.used.length
 ·have g:=aW (jL (s:=s) (Or.inl h8));have a4:(8 :Int)<s.used.length:=by omega
  unfold jw at o;go_enter func100,ntmps100;go_wp2;go_ret;exact⟨bP g.out.symm,o⟩
 have a4:(s.used.length:Int)≤8:=by omega
 by_cases H:20<s.bL.length
 ·have g:=aW (jL (s:=s) (Or.inr H));have G:(20:Int)<s.bL.length:=by omega
  unfold jw at o;go_enter func100,ntmps100;go_wp2;go_ret;exact⟨bP g.out.symm,o⟩
 have G:(s.bL.length :Int)≤20:=by omega
 have I:s.used.length≤8:=by omega
 have n:s.bL.length≤20:=by omega
 clear h8 H;by_cases E:vQ s.cap;case neg=>have g:=aW (wK I n E);have HL:=aW (lv E);unfold jw at o;go_enter func100,ntmps100;go_wp2_with(go_at_call 34;refine(nf _ _).mono ?_;rw[HL.out];rintro e M ⟨rfl,rfl⟩);go_ret;exact⟨bP g.out.symm,o⟩
 case pos=>
  have HL:=aW (mw E);have hC:=aW E;clear E;unfold jw at o N;go_enter func100,ntmps100;go_upto_region 1 with fail;generalize w.alloc _=W0 at*;obtain⟨L,K,J⟩:=bG N;have hz:=ae N;go_wp2_with(go_at_call 34;refine(nf _ _).mono ?_;rw[HL.out];rintro e W0 ⟨rfl,rfl⟩);go_loopw[24](fun i wr=>∃k:Nat,k≤s.bL.length∧i=.int .i64 k∧Hid (nj s k)∧Below W0.heap.size W0 wr) (fun i _=>s.bL.length-(intOf i).toNat);case atStart=>exact⟨0,bq _,rfl,t9 s,Below.refl _ _⟩
  case round=>
   obtain⟨k,hk,rfl,D,v⟩:=hrel;clear L K J;generalize wr=W at*;have c:Below w.heap.size w W:=o.trans (v.mono o.size);have d:=(v.block _ hz).trans N;by_cases a:k<s.bL.length
   ·have C:(k :Int)<s.bL.length:=by omega
    obtain⟨b,off,rfl,Z,e1,e2,e3,e4⟩:=nS (Q.below c) a;have p:=aW (fun h=>vO I n hC.out a h);have u:=aW (fun h=>D.out.next h);have m:=v.alloc v.size (rh (s.bL.getD k zA));have F:=(bC W (rh (s.bL.getD k zA)) _ (ae d)).trans d;have hA:(W.alloc (rh (s.bL.getD k zA))).heap[W.heap.size]?=some (rh (s.bL.getD k zA)):=ah _ _ _ rfl;unfold rh at m hA F;clear D d v c;generalize s.bL.getD k zA=t at*;go_upto_region 8 with fail;generalize W.alloc _=W1 at*;obtain⟨A0,A1,A2,A3⟩:=gv hA;obtain⟨L,K,J⟩:=bG F;clear e1 e2 e3 e4;by_cases B:Fits t s.used.length
    ·have HF:=aW (qz B);have A:=aW (u.out B);clear B p u;go_wp2_with(go_at_call 111;refine(mf t _ _).mono ?_;rw[HF.out];rintro e M ⟨rfl,z⟩);go_roundw;case rel=>exact⟨k+1,by omega,by go_num,A,m.trans (z.mono m.size)⟩
     case measure=>simp[intOf];omega
    ·have HF:=aW (gq B);have g:=aW (p.out B);clear B p u;go_wp2_with(go_at_call 111;refine(mf t _ _).mono ?_;rw[HF.out];rintro e M ⟨rfl,z⟩);go_ret;have f:=m.trans (z.mono m.size);exact⟨bP g.out.symm,o.trans (f.mono o.size)⟩
   ·have T:k=s.bL.length:=by omega
    subst T;obtain⟨L,K,J⟩:=bG d;go_wp2_with fail;refine(Fb s _ _ _ (X.below c) (V.below c) I n D.out).mono ?_;rintro e w3 ⟨S,rfl,hS,hI,f⟩;have a6:=v.trans (f.mono v.size);have a3:=(f.block _ (ae d)).trans d;have r:=c.trans (f.mono c.size);clear L K J d v c f;obtain⟨L,K,J⟩:=bG a3;go_wp2;go_loopw[38](fun i wr=>∃j:Nat,j≤s.used.length∧i=.int .i64 j∧Hid (tI s j)∧wr=w3) (fun i _=>s.used.length-(intOf i).toNat);case atStart=>exact⟨0,bq _,rfl,uq s,rfl⟩
    case round=>
     obtain⟨j,hj,rfl,hu,rfl⟩:=hrel;generalize wr=W at*;by_cases a:j<s.used.length
     ·have C:(j:Int)<s.used.length:=by omega
      obtain⟨b,off,rfl,Z,e1⟩:=lB (R.below r) a;have I0:=hI.cell (i:=j) (by rw[jQ];exact a);rw[sO _ _ a]at I0;have p:=aW (fun h=>wR I n hC.out D.out a h);have u:=aW (fun h=>hu.out.next (k:=j) h);unfold Fit at p u;generalize s.used.getD j 0=x at*;generalize g9 (j :Int) s.bL=y at*;by_cases q:x=y
      ·subst q;by_cases l:x≤s.cap
       ·have A:=aW (u.out ⟨rfl,l⟩);clear p u;go_wp2;go_roundw;case rel=>exact⟨j+1,by omega,by go_num,A,trivial⟩
        case measure=>simp[intOf];omega
       ·have g:=aW (p.out (fun h=>l h.2));have Y:s.cap<x:=by omega
        clear p u l;go_wp2;go_ret;exact⟨bP g.out.symm,r⟩
      ·have g:=aW (p.out (fun h=>q h.1));have a5:(x !=y)=true:=by simpa using q
       clear p u q;go_wp2;go_ret;exact⟨bP g.out.symm,r⟩
     ·have U:j=s.used.length:=by omega
      subst U;have g:=aW (qV I n hC.out D.out hu.out);go_wp2;go_ret;exact⟨bP g.out.symm,r⟩
open RowKit Gn
structure Gi(w:World)(n:Int)(v1 v2:Value)(t:Ad)(W:World):Prop where
 bel:Below w.heap.size w W
 box:W.heap[w.heap.size]?=some (jw n v1 v2)tb:W.heap[w.heap.size+1]?=some (rh t)res:W.heap[w.heap.size+2]?=some (jw 0 (.slice none 0 0) (.slice none 0 0))
variable {w W W' : World} {n : Int} {v1 v2 : Value} {t : Ad}
theorem Gi.lt(h:Gi w n v1 v2 t W):w.heap.size+3≤W.heap.size:=ae h.res
theorem Gi.L9(h:Gi w n v1 v2 t W)(a:Below (w.heap.size +3) W W'):Gi w n v1 v2 t W':=⟨h.bel.trans (a.mono (by omega)),(a.block _ (by omega)).trans h.box,(a.block _ (by omega)).trans h.tb,(a.block _ (by omega)).trans h.res⟩
theorem Gi.on(h:Gi w n v1 v2 t W)(a:Below W.heap.size W W'):Gi w n v1 v2 t W':=h.L9 (a.mono h.lt)
theorem Ck(w:World)(n:Int)(v1 v2:Value)(t:Ad):Gi w n v1 v2 t (((w.alloc (jw n v1 v2)).alloc (rh t)).alloc (jw 0 (.slice none 0 0) (.slice none 0 0))):=by
 refine⟨((ar _ _).alloc (by simp) _).alloc (by simp;omega) _,?_,?_,ah _ _ _ (by simp)⟩;·rw[bC _ _ _ (by simp;omega),bC _ _ _ (by simp),ah _ _ _ rfl]
 ·rw[bC _ _ _ (by simp),ah _ _ _ (by simp)]
theorem Gi.put(h:Gi w n v1 v2 t W)(a:Int)(u1 u2:Value):Gi w a u1 u2 t (vC W w.heap.size a u1 u2):=⟨BD h.bel _ (aj _) _ _ _,EV h.box _ _ _,(qY _ _ _ _ _ _ (by omega)).trans h.tb,(qY _ _ _ _ _ _ (by omega)).trans h.res⟩
theorem Gi.two(h:Gi w n v1 v2 t W)(u:Value):Gi w n v1 u t (W.setCell ⟨w.heap.size,2,none⟩ u):=by refine⟨h.bel.setCell (by simp) _,?_,(aF _ _ _ _ (by simp)).trans h.tb,(aF _ _ _ _ (by simp)).trans h.res⟩;have :=aZ W w.heap.size 2 _ _ u h.box;simpa[jw]using this
theorem Gi.one(h:Gi w n v1 v2 t W)(u:Value):Gi w n u v2 t (W.setCell ⟨w.heap.size,1,none⟩ u):=by refine⟨h.bel.setCell (by simp) _,?_,(aF _ _ _ _ (by simp)).trans h.tb,(aF _ _ _ _ (by simp)).trans h.res⟩;have :=aZ W w.heap.size 1 _ _ u h.box;simpa[jw]using this
theorem iF{r:Sd×Int}{x:Int}{a:World}(h:r=(zD,x))(b:Below w.heap.size w a):kv w r (.returned (.tuple #[.agg #[.int .i64 0,.slice none 0 0,.slice none 0 0],.int .i64 x])) a:=by rw[h];exact⟨_,_,rfl,.nil,.nil,b⟩
structure mm(W:World)(B:Nat)(v1:Value)(L1:List Int)(v2:Value)(L2:List Ad):Prop where
 r1:Row kI 3 W B v1 L1
 o1:L1≠[]→W.ownsRow B 3 kI.size v1 L1.length (kI.flat L1)r2:Row kA 95 W B v2 L2
 ap:Ap v1 v2
theorem mm.cB{B:Nat}{e:List Int}{d:List Ad}(h:mm W B v1 e v2 d)(c:W.heap.size≤W'.heap.size)(b:∀k,B≤k→k<W.heap.size→W'.heap[k]?=W.heap[k]?):mm W' B v1 e v2 d:=⟨h.r1.cB c fun k h1 h2=>b k (h.r1.dV k h1).1 h2,fun a=>mA (h.o1 a) fun k h1=>b k ((h.o1 a).lt k h1).1 ((h.o1 a).lt k h1).2,h.r2.cB c fun k h1 h2=>b k (h.r2.dV k h1).1 h2,h.ap⟩
theorem mm.below{B:Nat}{c:List Int}{b:List Ad}(h:mm W B v1 c v2 b)(a:Below W.heap.size W W'):mm W' B v1 c v2 b:=h.cB a.size fun k _ h2=>a.block k h2
theorem mm.mono{B e:Nat}{d:List Int}{c:List Ad}(h:mm W B v1 d v2 c)(b:e≤B):mm W e v1 d v2 c:=⟨h.r1.mono b,fun a=>yX (h.o1 a) b,h.r2.mono b,h.ap⟩
theorem mm.set{B:Nat}{b:List Int}{a:List Ad}(h:mm W B v1 b v2 a)(p:Addr)(c:p.block<B)(u:Value):mm (W.setCell p u) B v1 b v2 a:=h.cB (by simp) fun k h1 _=>aF _ _ _ _ (by omega)
theorem mm.put{B:Nat}{c:List Int}{a:List Ad}(h:mm W B v1 c v2 a)(b:Nat)(e:b<B)(d:Int)(u1 u2:Value):mm (vC W b d u1 u2) B v1 c v2 a:=h.cB (by rw[FR];exact aj _) fun k h1 _=>qY _ _ _ _ _ _ (by omega)
theorem mm.grow{B:Nat}{f:List Int}{j:List Ad}(h:mm W B v1 f v2 j)(c:W.grownBy W' v2.ownBlock){v':Value}{g:List Ad}(i:Row kA 95 W' B v' g)(b:∀k,v'.ownBlock=some k→v2.ownBlock=some k∨W.heap.size≤k):mm W' B v1 f v' g:=⟨h.r1.grown c fun k h1 h2=>h.ap k h1 h2,fun a=>mA (h.o1 a) fun k h1=>c.block k ((h.o1 a).lt k h1).2 (fun e=>h.ap k h1 e.symm),i,fun k h1 h2=>by
  rcases b k h2 with d|d;·exact h.ap k h1 d
  ·have:= (h.r1.dV k h1).2;omega⟩
theorem mm.store{B:Nat}{a:List Int}{f:List Ad}(h:mm W B v1 a v2 f){i:Nat}(hi:i<a.length):∃g cap,v1=.slice (some ⟨g,0,none⟩) a.length cap∧B≤g∧g<W.heap.size∧W.cell? ⟨g,i,none⟩=some (.int .i64 (a.getD i 0))∧W.frozen? ⟨g,i,none⟩=false∧∀x,mm (W.setCell ⟨g,i,none⟩ (.int .i64 x)) B v1 (a.set i x) v2 f:=by
 have b:a≠[]:=by intro h0;subst h0;simp at hi
 obtain⟨g,cap,rfl,l,c,-,n,m,d⟩:=Dn (h.o1 b) hi;refine⟨g,cap,rfl,l,c,n,m,fun x=>⟨?_,fun _=>d x,?_,h.ap⟩⟩;·exact .own _ _ (d x)
 ·exact Row.xH h.r2 _ (fun k j e=>h.ap k (by rw[e];rfl) j) _
theorem xy{s:Sd}{e:Ending}(h:KI w s e W):∃u1 u2,e=.returned (dv s.cap u1 u2)∧mm W w.heap.size u1 s.used u2 s.bL∧Below w.heap.size w W:=by obtain⟨u1,u2,a,r1,o1,r2,ap,b⟩:=h;exact⟨u1,u2,a,⟨r1,o1,r2,ap⟩,b⟩
theorem Ii(s:Sd)(v1 v2:Value)(t:Ad)(w:World)(h1:At kI w v1 s.used)(h2:At kA w v2 s.bL):Calls prog 89 #[dv s.cap v1 v2,av t] w (kv w (ep s t)):=by
 have X:=Ck w s.cap v1 v2 t;have a6:=h1;have a5:=h2;obtain⟨a1,c1,rfl,ak⟩:=h1;obtain⟨a2,c2,rfl,b0⟩:=h2;unfold jw rh at X;unfold dv av;go_enter func89,ntmps89;go_upto_region 1 with fail;generalize((w.alloc _).alloc _).alloc _=W0 at*;obtain⟨i,f,d⟩:=bG X.box;go_wp2_with fail;refine(dO s _ _ _ (a6.below X.bel) (a5.below X.bel)).mono ?_;rintro e w1 ⟨rfl,a9⟩;have l:=X.on a9;clear i f d X a9;by_cases M:dT s=0
 case neg=>
  have q:=aW (zT (a:=t) M);have ay:(dT s !=0)=true:=by simpa using M
  clear M;generalize dT s=r at*;obtain⟨H,G,F⟩:=bG l.res;obtain⟨E0,E1,E2⟩:=fA l.res;go_wp2;refine aA (v:=.tuple #[.agg #[.int .i64 0,.slice none 0 0,.slice none 0 0],.int .i64 r]) (by simp[results,results89,go_sem,H,G,F];try rfl) rfl (iF q.out ?_);repeat refine aR ?_ (by simp<;>omega) _
  exact l.bel
 case pos=>
  have R:=rG M;have u8:=R.u8;have DL:=R.DL;have HW:=aW M;rw[M];clear M;by_cases m:s.bL.length=20
  ·have q:=aW (sW (a:=t) HW.out m);have af:((s.bL.length :Int)==20)=true:=by simp[m]
   obtain⟨i,f,d⟩:=bG l.box;obtain⟨H,G,F⟩:=bG l.res;obtain⟨E0,E1,E2⟩:=fA l.res;clear m;go_wp2;refine aA (v:=.tuple #[.agg #[.int .i64 0,.slice none 0 0,.slice none 0 0],.int .i64 5]) (by simp[results,results89,go_sem,H,G,F];try rfl) rfl (iF q.out ?_);repeat refine aR ?_ (by simp<;>omega) _
   exact l.bel
  have af:((s.bL.length:Int)==20)=false:=by simp;omega
  by_cases V:Fits t s.used.length
  case neg=>
   have q:=aW (gT HW.out m V);have HF:=aW (gq V);obtain⟨i,f,d⟩:=bG l.box;obtain⟨E,D,C,B⟩:=gv l.tb;clear V;go_wp2_with fail;refine(mf t _ _).mono ?_;rw[HF.out];rintro e w2 ⟨rfl,n⟩;have K:=l.on n;clear i f d E D C B l n;obtain⟨H,G,F⟩:=bG K.res;obtain⟨E0,E1,E2⟩:=fA K.res;go_wp2;refine aA (v:=.tuple #[.agg #[.int .i64 0,.slice none 0 0,.slice none 0 0],.int .i64 3]) (by simp[results,results89,go_sem,H,G,F];try rfl) rfl (iF q.out ?_);repeat refine aR ?_ (by simp<;>omega) _
   exact K.bel
  case pos=>
   have HF:=aW (qz V);have z:=aW V;obtain⟨i,f,d⟩:=bG l.box;obtain⟨E,D,C,B⟩:=gv l.tb;clear V;go_wp2_with fail;refine(mf t _ _).mono ?_;rw[HF.out];rintro e w2 ⟨rfl,n⟩;have K:=l.on n;clear i f d E D C B l n;have I:=aW (fun h=>qO HW.out m z.out h);have p:=aW (fun h=>yo HW.out m z.out h);obtain⟨f1,f2,f3,f4,f5,f6,f7,f8⟩:=z.out;clear z HF;obtain⟨tc,y,tm,u⟩:=t;dsimp only at f1 f2 f3 f4 f5 f6 f7 f8;obtain⟨j,rfl⟩:∃j:Nat,tc=(j:Int):=⟨_,(Int.toNat_of_nonneg f1).symm⟩;have hj:j<s.used.length:=by omega
   obtain⟨b,off,rfl,b5,e1⟩:=lB (ak.below K.bel) hj;have hx:=(R.fit j hj).1;have ag:=(R.fit j hj).2;have Z:=(R.bL.small DL (j :Int) s.bL.length).1;rw[fc]at Z;have b4:=R.Lv.2;rw[←hx]at ag Z;clear hx;unfold oV at p;dsimp only[Int.toNat_natCast]at I p;go_upto_region 8 with fail;go_cut[36]from 25 to 37 (fun v wc=>v=.bool (decide (s.cap<s.used.getD j 0+tm))∧Gi w s.cap (.slice (some ⟨b,off,none⟩) s.used.length c1) (.slice a2 s.bL.length c2) ⟨j,y,tm,u⟩ wc);case first=>obtain⟨i,f,d⟩:=bG K.box;obtain⟨E,D,C,B⟩:=gv K.tb;generalize s.used.getD j 0=x at*;go_quiet(fail);go_wp2_with fail;go_meet;exact⟨rfl,K.on (br (Below.refl _ _) _)⟩
   case rest=>
    obtain⟨rfl,J⟩:=hcut;generalize wc=W3 at*;clear K e1;by_cases am:s.cap<s.used.getD j 0+tm
    ·have q:=aW (I.out am);clear I p;obtain⟨H,G,F⟩:=bG J.res;obtain⟨E0,E1,E2⟩:=fA J.res;go_wp2;refine aA (v:=.tuple #[.agg #[.int .i64 0,.slice none 0 0,.slice none 0 0],.int .i64 10]) (by simp[results,results89,go_sem,H,G,F];try rfl) rfl (iF q.out ?_);repeat refine aR ?_ (by simp<;>omega) _
     exact J.bel
    ·have q:=aW (p.out (by omega));obtain⟨O,hO⟩:∃O,Hid (O=s.bL++[(⟨j,y,tm,u⟩:Ad)]):=⟨_,rfl⟩;rw[←hO.out]at q;clear I p;obtain⟨i,f,d⟩:=bG J.box;go_wp2_with fail;refine(oO s _ _ _ (a6.below J.bel) (a5.below J.bel) u8 DL).mono ?_;rintro e w4 ho;obtain⟨x1,x2,rfl,hT,a7⟩:=xy ho;have G4:=J.on a7;have A:=hT.mono J.lt;clear i f d J hT a7 ho;obtain⟨b1,d1,rfl,-,-⟩:=jx A.r1;obtain⟨b2,d2,rfl,-,-⟩:=jx A.r2;obtain⟨i,f,d⟩:=bG G4.box;obtain⟨F0,F1,F2⟩:=fA G4.box;unfold dv;go_upto_region 11 with fail;have W:=G4.put s.cap (.slice b1 s.used.length d1) (.slice b2 s.bL.length d2);have Q:=A.put w.heap.size (by omega) s.cap (.slice b1 s.used.length d1) (.slice b2 s.bL.length d2);unfold vC at W Q;clear i f d F0 F1 F2 G4 A;generalize((w4.setCell _ _).setCell _ _).setCell _ _=U at*;obtain⟨i,f,d⟩:=bG W.box;obtain⟨E,D,C,B⟩:=gv W.tb;dsimp only at E D C B;have aw:=W.lt;have o:=Q.below (ar U (rh ⟨j,y,tm,u⟩));have S:=W.on (ar U (rh ⟨j,y,tm,u⟩));have T:(U.alloc (rh ⟨j,y,tm,u⟩)).heap[U.heap.size]?=some (rh ⟨j,y,tm,u⟩):=ah _ _ _ rfl;have Y:(U.alloc (rh ⟨j,y,tm,u⟩)).heap.size=U.heap.size+1:=by simp
     unfold rh at o S T Y;go_wp2_with(at_builtin;refine bH DD _ rfl _ _ rfl (w.heap.size+3) _ _ rfl o.r2 (some ⟨U.heap.size,0,none⟩) 1 1 [⟨j,y,tm,u⟩] rfl rfl (cV T rfl _) ?c3 ?c4 ?c5 ?_);case c3=>simp[maxLen];omega
     case c4=>first|omega|(simp;omega)
     case c5=>omega
     intro v6 w6 k c L _;rw[←hO.out]at k;have P:=o.grow c k (by simpa using L);have G6:=S.L9 (cI (Below.refl _ _) c o.r2 (aj _) (by omega));clear i f d E D C B o S T Y W Q c k L;obtain⟨b6,d6,rfl,-,-⟩:=jx P.r2;obtain⟨i,f,d⟩:=bG G6.box;obtain⟨F0,F1,F2⟩:=fA G6.box;go_upto_region 12 with fail;have G7:=G6.two (.slice b6 O.length d6);have N:=P.set ⟨w.heap.size,2,none⟩ (by simp<;>omega) (.slice b6 O.length d6);clear i f d F0 F1 F2 G6 P;generalize w6.setCell _ _=W7 at*;go_cut[]from 46 to 56 (fun wc=>Gi w s.cap (.slice b1 s.used.length d1) (.slice b6 O.length d6) ⟨j,y,tm,u⟩ wc∧mm wc (w.heap.size+3) (.slice b1 s.used.length d1) (s.used.set j (s.used.getD j 0+tm)) (.slice b6 O.length d6) O);case first=>obtain⟨g,ao,hv,hg,b3,X0,X1,a4⟩:=N.store hj;obtain⟨rfl,-,-⟩:=bB hv;obtain⟨i,f,d⟩:=bG G7.box;obtain⟨E,D,C,B⟩:=gv G7.tb;have a3:=a4 (s.used.getD j 0+tm);have an:=G7.L9 ((Below.refl (w.heap.size +3) W7).setCell (show w.heap.size+3≤(⟨g,j,none⟩:Addr).block from hg) (.int .i64 (s.used.getD j 0+tm)));dsimp only at E D C B;clear a4 N G7 hv;generalize s.used.getD j 0=x at*;go_region;all_goals go_wp2_with fail;go_meet;exact⟨an.on (Below.refl _ _).drew,a3.below (Below.refl _ _).drew⟩
     case rest=>
      obtain⟨G8,aa⟩:=hcut;generalize wc=W8 at*;clear G7 N;obtain⟨i,f,d⟩:=bG G8.box;obtain⟨H,G,F⟩:=bG G8.res;obtain⟨E0,E1,E2⟩:=fA G8.res;go_wp2;refine aA (v:=.tuple #[.agg #[.int .i64 s.cap,.slice b1 s.used.length d1,.slice b6 O.length d6],.int .i64 0]) (by simp[results,results89,go_sem,H,G,F];try rfl) rfl ?_;rw[q.out];refine⟨_,_,rfl,?_,?_,?_⟩
      ·refine Row.mono (aq:=w.heap.size+3) ?_ (by omega);repeat refine Row.set ?_ _ (by simp) _
       exact aa.r1
      ·refine Row.mono (aq:=w.heap.size+3) ?_ (by omega);repeat refine Row.set ?_ _ (by simp) _
       exact aa.r2
      ·repeat refine aR ?_ (by simp<;>omega) _
       exact G8.bel
open RowKit Gn
def uF(s:Sd):Sd×List Ad×Int:=if dT s≠0 then(zD,[],dT s)else(⟨s.cap,List.replicate s.used.length 0,[]⟩,s.bL,0)
theorem D_{s:Sd}(h:dT s≠0):uF s=(zD,[],dT s):=by unfold uF;rw[aB h]
theorem y'{s:Sd}(h:dT s=0):uF s=(⟨s.cap,List.replicate s.used.length 0,[]⟩,s.bL,0):=by unfold uF;rw[ai (by simpa using h)]
theorem Fj{s:Sd}(r:en s):rY s.cap s.used.length=(⟨s.cap,List.replicate s.used.length 0,[]⟩,0):=by have:= r.u8;rw[Bm (by omega) r.Lv,bN]
def yW(w:World)(r:Sd×List Ad×Int)(e:Ending)(a:World):Prop:=∃c v2 b,e=.returned (.tuple #[dv r.1.cap c v2,b,.int .i64 r.2.2])∧Row kI 3 a w.heap.size c r.1.used∧Row kA 95 a w.heap.size v2 r.1.bL∧Row kA 95 a w.heap.size b r.2.1∧Below w.heap.size w a
theorem Cw(n:Int)(b:Value)(a:Option Addr)(l c:Nat)(w:World):(Instr.field 38 (.agg #[.int .i64 n,b,.slice a l c]) 2).run prog w=.ok (.slice a l c) w:=by kernel_rfl
theorem ES(s:Sd)(z v2:Value)(w:World)(h1:At kI w z s.used)(h2:At kA w v2 s.bL):Calls prog 76 #[dv s.cap z v2] w (yW w (uF s)):=by
  have j:=Iv w s.cap z v2;have o:=h1;have n:=h2;obtain⟨a1,c1,rfl,U⟩:=h1;obtain⟨a2,c2,rfl,T⟩:=h2;unfold jw at j;unfold dv;go_enter func76,ntmps76;go_upto_region 1 with fail;generalize(w.alloc _).alloc _=W0 at*;obtain⟨y,x,u⟩:=bG j.box;go_wp2_with fail;refine(dO s _ _ _ (o.below j.bel) (n.below j.bel)).mono ?_;rintro e w1 ⟨rfl,q⟩;have f:=j.on q;clear y x u j q;by_cases d:dT s=0
  case neg=>
    have K:=aW (D_ d);have S:(dT s !=0)=true:=by simpa using d
    clear d;generalize dT s=r at*;obtain⟨H,G,F⟩:=bG f.res;obtain⟨Z,Y,X⟩:=fA f.res;go_wp2;refine aA (v:=.tuple #[.agg #[.int .i64 0,.slice none 0 0,.slice none 0 0],.slice none 0 0,.int .i64 r]) (by simp[results,results76,go_sem,H,G,F];try rfl) rfl ?_;rw[K.out];refine⟨_,_,_,rfl,.nil,.nil,.nil,?_⟩;repeat refine aR ?_ (by simp<;>omega) _
    exact f.bel
  case pos=>
    have R:=rG d;have u8:=R.u8;have DL:=R.DL;have K:=aW (y' d);have W:=aW (Fj R);rw[d];clear d;obtain⟨y,x,u⟩:=bG f.box;go_wp2_with fail;refine(rJ _ _ _).mono ?_;rw[W.out];rintro e w2 ⟨n1,n2,rfl,b,a,p⟩;have J:=f.on p;have Q:=f.lt;have b:=b.mono (base':=w.heap.size+2) (by omega);have a:=a.mono (base':=w.heap.size+2) (by omega);clear y x u f p;obtain⟨b1,h,rfl,-,-⟩:=jx b;obtain⟨b2,g,rfl,-,-⟩:=jx a;dsimp only[List.length_replicate,List.length_nil,dv]at b a⊢;have i:=J.on (ar w2 (jw s.cap (.slice b1 s.used.length h) (.slice b2 0 g)));have t:(w2.alloc (jw s.cap (.slice b1 s.used.length h) (.slice b2 0 g))).heap[w2.heap.size]?=some (jw s.cap (.slice b1 s.used.length h) (.slice b2 0 g)):=ah _ _ _ rfl;have m:=b.alloc (jw s.cap (.slice b1 s.used.length h) (.slice b2 0 g));have l:=a.alloc (jw s.cap (.slice b1 s.used.length h) (.slice b2 0 g));have P:=J.lt;unfold jw at i t m l;clear b a;go_upto_region 5 with fail;generalize w2.alloc _=M at*;clear J;generalize w2.heap.size=E at*;obtain⟨y,x,u⟩:=bG i.box;obtain⟨D0,D1,D2⟩:=bG t;have V:=Cw;go_region_with (go_at_call 101;refine(oO s _ _ _ (o.below i.bel.drew) (n.below i.bel.drew) u8 DL).mono ?_;rintro e L ⟨u1,u2,rfl,-,-,A,-,c⟩;have c:Below M.heap.size M L:=((Below.refl _ _).drew).trans c;have I:=i.on c;have D:=(c.block _ (ae t)).trans t;have C:=m.below c;have B:=l.below c;have k:Row kA 95 L (w.heap.size +2) u2 s.bL:=A.mono i.lt;obtain⟨O,N,rfl,-,-⟩:=jx k;obtain⟨H,G,F⟩:=bG I.res;obtain⟨Z,Y,X⟩:=fA I.res;obtain⟨a5,a4,a3⟩:=bG D;unfold dv)
    all_goals
      go_wp2;refine aA (v:=.tuple #[.agg #[.int .i64 s.cap,.slice b1 s.used.length h,.slice b2 0 g],.slice O s.bL.length N,.int .i64 0]) (by simp[results,results76,go_sem,H,G,F];try rfl) rfl ?_;rw[K.out];refine⟨_,_,_,rfl,?_,?_,?_,?_⟩
      · refine Row.mono (aq:=w.heap.size+2) ?_ (by omega);repeat refine Row.set ?_ _ (by simp) _
        simpa using C
      · refine Row.mono (aq:=w.heap.size+2) ?_ (by omega);repeat refine Row.set ?_ _ (by simp) _
        exact B
      · refine Row.mono (aq:=w.heap.size+2) ?_ (by omega);repeat refine Row.set ?_ _ (by simp) _
        exact k
      · repeat refine aR ?_ (by simp<;>omega) _
        exact I.bel
open RowKit Gn
theorem jD(n:Int)(K v2 u1 u2:Value)(U:List Int)(A:List Ad)(w:World)(h1:At kI w K U)(h2:At kA w v2 A)(O:At kI w u1 U)(N:At kA w u2 A):Calls prog 15 #[dv n K v2,dv n u1 u2] w fun e L=>e=.returned (.bool true)∧Below w.heap.size w L:=by
 have E:=h1.len;have D:=h2.len;unfold maxLen at E D;obtain⟨p,c1,rfl,I⟩:=h1;obtain⟨o,c2,rfl,H⟩:=h2;obtain⟨m,c3,rfl,G⟩:=O;obtain⟨l,c4,rfl,F⟩:=N;have B:((w.alloc (jw n (.slice p U.length c1) (.slice o A.length c2))).alloc (jw n (.slice m U.length c3) (.slice l A.length c4))).heap[w.heap.size]?=some (jw n (.slice p U.length c1) (.slice o A.length c2)):=by rw[bC _ _ _ (by simp),ah _ _ _ rfl]
 have z:((w.alloc (jw n (.slice p U.length c1) (.slice o A.length c2))).alloc (jw n (.slice m U.length c3) (.slice l A.length c4))).heap[w.heap.size+1]?=some (jw n (.slice m U.length c3) (.slice l A.length c4)):=ah _ _ _ (by simp);have d:Below w.heap.size w ((w.alloc (jw n (.slice p U.length c1) (.slice o A.length c2))).alloc (jw n (.slice m U.length c3) (.slice l A.length c4))):=(ar _ _).alloc (by simp) _;have C:w.heap.size+1<((w.alloc (jw n (.slice p U.length c1) (.slice o A.length c2))).alloc (jw n (.slice m U.length c3) (.slice l A.length c4))).heap.size:=by simp
 unfold jw at B z d C;unfold dv;go_enter func15,ntmps15;go_upto_region 1 with fail;generalize(w.alloc _).alloc _=y at*;obtain⟨Y,X,V⟩:=bG B;obtain⟨T,S,R⟩:=bG z;go_wp2;go_loopw[33](fun i wr=>∃k:Nat,k≤U.length∧i=.int .i64 k∧Below y.heap.size y wr) (fun i _=>U.length-(intOf i).toNat);case atStart=>exact⟨0,bq _,rfl,Below.refl _ _⟩
 case round=>
  obtain⟨k,M,rfl,f⟩:=hrel;generalize wr=W at*;have a:Below w.heap.size w W:=d.trans (f.mono d.size);obtain⟨x,v,u⟩:=bG ((f.block _ (by omega)).trans B);obtain⟨s,r,q⟩:=bG ((f.block _ (by omega)).trans z);clear Y X V T S R;by_cases c:k<U.length
  ·have h:(k :Int)<U.length:=by omega
   obtain⟨b,off,rfl,J,Q⟩:=lB (I.below a) c;obtain⟨b2,g,rfl,j,P⟩:=lB (G.below a) c;generalize U.getD k 0=t at*;go_wp2;go_quiet(fail);go_wp2;go_roundw;case rel=>exact⟨k+1,by omega,by go_num,br f _⟩
   case measure=>simp[intOf];omega
  ·go_wp2;go_loopw[51](fun i wr=>∃k:Nat,k≤A.length∧i=.int .i64 k∧Below y.heap.size y wr) (fun i _=>A.length-(intOf i).toNat);case atStart=>exact⟨0,bq _,rfl,f⟩
   case round=>
    clear x v u s r q f a;obtain⟨k,M,rfl,f⟩:=hrel;generalize wr=W at*;have a:Below w.heap.size w W:=d.trans (f.mono d.size);obtain⟨x,v,u⟩:=bG ((f.block _ (by omega)).trans B);obtain⟨s,r,q⟩:=bG ((f.block _ (by omega)).trans z);by_cases c:k<A.length
    ·have h:(k:Int)<A.length:=by omega
     obtain⟨b,off,rfl,J,Q,e2,e3,e4⟩:=nS (H.below a) c;obtain⟨b2,g,rfl,j,P,f2,f3,Z⟩:=nS (F.below a) c;generalize A.getD k zA=t at*;go_wp2;go_quiet(fail);go_wp2;go_roundw;case rel=>exact⟨k+1,by omega,by go_num,br f _⟩
     case measure=>simp[intOf];omega
    ·go_wp2;go_ret;exact⟨rfl,a⟩
