import Derived.Test.YtigiogjefnkpdaaGreatDoorKaa
set_option maxHeartbeats 4000000
set_option maxRecDepth 100000
open Go.Proofs.Tryz
namespace Go.Proofs.YtigiogjefnkpdaaGreatDoor.Po
structure Tr where
 n:Int
 k:Int
 a:Int
 s:Int
structure Se where
 bD:Int
 bj:List Tr
def dA:Tr:=⟨0,0,0,0⟩
def kN:Se:=⟨0,[]⟩
abbrev noKind(k:Int):Prop:=k≠1∧k≠2∧k≠3
abbrev jq(a s:Int):Prop:=a<0∨30≤a∨s<1∨1000000<s
def fF(t:Tr)(m:Int):Int:=if noKind t.k then 1 else if jq t.a t.s then 3 else if t.n≠m then 2 else 0
def cZ(i:Nat)(m:Int):List Tr→Int×Int
 |[]=>(0,0)|t::r=>if fF t m≠0 then(fF t m,i)else cZ (i +1) (m +1) r
def bX(s:Se):Int×Int:=if 40<s.bj.length then(5,0)else if s.bD<s.bj.length∨1000000<s.bD then(3,0)else cZ 0 (s.bD -s.bj.length+1) s.bj
theorem eQ{L:List Tr}{k:Nat}(a:k<L.length):L.drop k=L.getD k dA::L.drop (k+1):=by rw[gj a];simp[List.getD,a]
theorem gh{L:List Tr}{k:Nat}(a:k<L.length):L.take (k +1)=L.take k++[L.getD k dA]:=by rw[vI];simp[List.getD,a]
theorem gM{L:List Tr}{k:Nat}(a:k<L.length):L.getD k dA∈L:=by simp[List.getD,a]
theorem tC{s:Se}(h:40<s.bj.length):bX s=(5,0):=by unfold bX;rw[aB h]
theorem mb{s:Se}(h:s.bj.length≤40)(h2:s.bD<s.bj.length∨1000000<s.bD):bX s=(3,0):=by unfold bX;rw[ai (by omega),aB h2]
def Good(s:Se)(k:Nat):Prop:=bX s=cZ k (s.bD -s.bj.length+1+k) (s.bj.drop k)
theorem iq{s:Se}(h:s.bj.length≤40)(h2:s.bj.length≤s.bD)(a:s.bD≤1000000):Good s 0:=by unfold Good bX;rw[ai (by omega),ai (by omega)];simp
theorem Good.bad{s:Se}{k:Nat}(g:Good s k)(a:k<s.bj.length)(h:fF (s.bj.getD k dA) (s.bD -s.bj.length+1+k)≠0):bX s=(fF (s.bj.getD k dA) (s.bD -s.bj.length+1+k),(k :Int)):=by rw[g,eQ a];simp only[cZ,aB h]
theorem Good.next{s:Se}{k:Nat}(g:Good s k)(a:k<s.bj.length)(h:fF (s.bj.getD k dA) (s.bD-s.bj.length+1+k)=0):Good s (k +1):=by unfold Good;rw[g,eQ a];simp only[cZ,h];simp;rw[show s.bD-s.bj.length+1+(k:Int)+1=s.bD-s.bj.length+1+((k:Int)+1)by omega]
theorem Good.done{s:Se}{k:Nat}(g:Good s k)(a:s.bj.length≤k):bX s=(0,0):=by rw[g,cM a];rfl
structure en(s:Se):Prop where
 iv:s.bj.length≤40
 lo:s.bj.length≤s.bD
 hi:s.bD≤1000000
 each:∀(i:Nat) (t:Tr),s.bj[i]?=some t→¬noKind t.k∧¬jq t.a t.s∧t.n=s.bD-s.bj.length+1+i
theorem xr{t:Tr}{m:Int}:fF t m=0↔¬noKind t.k∧¬jq t.a t.s∧t.n=m:=by
 unfold fF;by_cases h1:noKind t.k;·rw[aB h1];exact⟨fun h=>(by cases h),fun h=>absurd h1 h.1⟩
 rw[ai h1];by_cases h2:jq t.a t.s;·rw[aB h2];exact⟨fun h=>(by cases h),fun h=>absurd h2 h.2.1⟩
 rw[ai h2];by_cases b:t.n=m;·rw[ai (by simpa using b)];exact⟨fun _=>⟨h1,h2,b⟩,fun _=>rfl⟩
 ·rw[aB b];exact⟨fun h=>(by cases h),fun h=>absurd h.2.2 b⟩
theorem mI{L:List Tr}:∀{i:Nat}{m:Int},(cZ i m L).1=0↔∀(j:Nat) (t:Tr),L[j]?=some t→fF t (m +j)=0:=by
 induction L with
 |nil=>intro i m;simp[cZ]
 |cons t r b=>
  intro i m;simp only[cZ];by_cases h:fF t m=0
  ·rw[ai (by simpa using h),b];constructor
   ·intro H j u a
    cases j with
    |zero=>simp at a;subst a;simpa using h
    |succ j=>have:= H j u (by simpa using a);rw[show m+((j+1:Nat):Int)=m+1+j by omega];exact this
   ·intro H j u a;have :=H (j+1) u (by simpa using a);rw[show m+1+(j:Int)=m+((j+1:Nat):Int)by omega];exact this
  ·rw[aB h];exact⟨fun h0=>absurd h0 h,fun H=>absurd (by simpa using H 0 t rfl) h⟩
theorem mx{s:Se}:(bX s).1=0↔en s:=by
 unfold bX;by_cases h1:40<s.bj.length;·rw[aB h1];exact⟨fun h=>(by cases h),fun h=>absurd h.iv (by omega)⟩
 rw[ai h1];by_cases h2:s.bD<s.bj.length∨1000000<s.bD;·rw[aB h2];exact⟨fun h=>(by cases h),fun h=>by have :=h.lo;have :=h.hi;omega⟩
 rw[ai h2,mI];constructor;·intro H;exact⟨by omega,by omega,by omega,fun i t a=>xr.1 (H i t a)⟩
 ·intro R i t a;exact xr.2 (R.each i t a)
def ju(s:Se)(t:Tr):Tr:=⟨s.bD+1,t.k,t.a,t.s⟩
def kj(s:Se)(t:Tr):Se:=⟨s.bD+1,s.bj++[ju s t]⟩
def fV(s:Se)(t:Tr):Se×Int:=if(bX s).1≠0 then(kN,(bX s).1)else if(bX (kj s t)).1≠0 then(kN,(bX (kj s t)).1)else(kj s t,0)
def eW(aX:Int)(L:List Tr):List Tr:=L.filter fun t=>decide (aX <t.n)
def eR(s:Se)(aX:Int):Se×Int:=if(bX s).1≠0 then(kN,(bX s).1)else if aX<0∨s.bD<aX then(kN,3)else(⟨s.bD,eW aX s.bj⟩,0)
theorem tX{s:Se}{t:Tr}(h:(bX s).1≠0):fV s t=(kN,(bX s).1):=by unfold fV;rw[aB h]
theorem uZ{s:Se}{t:Tr}(h:(bX s).1=0)(h2:(bX (kj s t)).1≠0):fV s t=(kN,(bX (kj s t)).1):=by unfold fV;rw[ai (by simpa using h),aB h2]
theorem yl{s:Se}{t:Tr}(h:(bX s).1=0)(h2:(bX (kj s t)).1=0):fV s t=(kj s t,0):=by unfold fV;rw[ai (by simpa using h),ai (by simpa using h2)]
theorem sz{s:Se}{aX:Int}(h:(bX s).1≠0):eR s aX=(kN,(bX s).1):=by unfold eR;rw[aB h]
theorem pe{s:Se}{aX:Int}(h:(bX s).1=0)(h2:aX<0∨s.bD<aX):eR s aX=(kN,3):=by unfold eR;rw[ai (by simpa using h),aB h2]
theorem vq{s:Se}{aX:Int}(h:(bX s).1=0)(h2:¬(aX <0∨s.bD<aX)):eR s aX=(⟨s.bD,eW aX s.bj⟩,0):=by unfold eR;rw[ai (by simpa using h),ai h2]
def taken(aX n:Int):Bool:=decide (0≤aX)&&decide (aX <1000000)&&decide (n=aX+1)
theorem lh{aX n:Int}:taken aX n=true↔0≤aX∧aX<1000000∧n=aX+1:=by simp[taken,and_assoc]
theorem lK{aX n:Int}:taken aX n=false↔¬(0 ≤aX∧aX<1000000∧n=aX+1):=by rw[←lh];simp
theorem xf{aX:Int}{L:List Tr}{k:Nat}(a:k<L.length)(h:aX<(L.getD k dA).n):eW aX (L.take (k +1))=eW aX (L.take k)++[L.getD k dA]:=by rw[gh a];unfold eW;rw[ei,gY];simp only[fQ h];simp
theorem uV{aX:Int}{L:List Tr}{k:Nat}(a:k<L.length)(h:¬aX<(L.getD k dA).n):eW aX (L.take (k +1))=eW aX (L.take k):=by rw[gh a];unfold eW;rw[ei,gY];simp only[cD h];simp
theorem wv{aX:Int}{L:List Tr}{k:Nat}(a:L.length≤k):eW aX (L.take k)=eW aX L:=by rw[gf a]
theorem Jc(aX:Int)(L:List Tr):(eW aX L).length≤L.length:=List.length_filter_le _ _
theorem qy(aX:Int)(L:List Tr)(k:Nat):(eW aX (L.take k)).length≤L.length:=by have h1:=Jc aX (L.take k);have h2:=List.length_take_le' k L;omega
theorem ux{s:Se}{aX:Int}(R:en s)(h1:aX≤s.bD):∃j,eW aX s.bj=s.bj.drop j∧j≤s.bj.length∧((j :Int)=s.bj.length-(s.bD -aX)∨(j=0∧s.bj.length≤s.bD-aX)):=by
 have a:∀(L:List Tr) (m:Int),(∀ (i:Nat) (t:Tr),L[i]?=some t→t.n=m+i)→∀j:Nat,(m +j=aX+1∨(j=0∧aX<m))→j≤L.length→eW aX L=L.drop j:=by
  intro L
  induction L with
  |nil=>intro m _ j _ _;simp[eW]
  |cons t r c=>
   intro m H j h f;have b:=H 0 t rfl;have d:∀(i:Nat) (u:Tr),r[i]?=some u→u.n=m+1+i:=fun i u e=>by have :=H (i +1) u (by simpa using e);omega
   cases j with
   |zero=>
    have: eW aX (t ::r)=t::eW aX r:=by unfold eW;rw[gY,aB (by simp;omega)]
    rw[this];have:= c (m +1) d 0 (Or.inr ⟨rfl,by omega⟩) (bq _);rw[this];simp
   |succ j=>
    have: eW aX (t::r)=eW aX r:=by unfold eW;rw[gY,ai (by simp;omega)]
    rw[this];have :=c (m +1) d j (Or.inl (by omega)) (by simpa using f);rw[this];simp
 have k:=R.lo;by_cases g:s.bj.length≤s.bD-aX;·refine⟨0,?_,bq _,Or.inr ⟨rfl,g⟩⟩;exact a s.bj (s.bD-s.bj.length+1) (fun i t b=>(R.each i t b).2.2) 0 (Or.inr ⟨rfl,by omega⟩) (bq _)
 ·refine⟨(s.bj.length-(s.bD -aX)).toNat,?_,by omega,Or.inl (by omega)⟩;exact a s.bj (s.bD -s.bj.length+1) (fun i t b=>(R.each i t b).2.2) _ (Or.inl (by omega)) (by omega)
theorem Cu{s:Se}(R:en s)(j:Nat)(f:j≤s.bj.length):en ⟨s.bD,s.bj.drop j⟩:=by have h1:=R.iv;have h2:=R.lo;have e:=R.hi;refine⟨by simp;omega,by simp;omega,e,fun i t d=>?_⟩;simp at d;obtain⟨a,b,c⟩:=R.each _ t d;refine⟨a,b,?_⟩;simp;omega
theorem yF{s:Se}{aX:Int}(R:en s)(h1:aX≤s.bD):en ⟨s.bD,eW aX s.bj⟩:=by obtain⟨j,b,a,-⟩:=ux R h1;rw[b];exact Cu R j a
open RowKit Gn
def tv(t:Tr):Value:=.agg #[.int .i64 t.n,.int .i64 t.k,.int .i64 t.a,.int .i64 t.s]
def nN(t:Tr):Obj:=.cells #[.int .i64 t.n,.int .i64 t.k,.int .i64 t.a,.int .i64 t.s] 82
def kT:Kind Tr where
 cells:=fun t=>[.int .i64 t.n,.int .i64 t.k,.int .i64 t.a,.int .i64 t.s]
 size:=4
 len:=fun _=>rfl
 one:=fun x u b=>by simp at b;rcases b with rfl|rfl|rfl|rfl<;>rfl
 pos:=by decide
theorem LO:(prog.info? 82).map (fun i=>(i.zero,i.size,i.bytes))=some (some (.agg #[.int .i64 0,.int .i64 0,.int .i64 0,.int .i64 0]),4,32):=by kernel_rfl
theorem tG:sc prog kT 29 82 32:=by obtain⟨i,h1,h2,b,a⟩:=info_parts LO;exact⟨underlying29,i,_,h1,h2,b,a,rfl⟩
theorem nA{w:World}{a:Option Addr}{cap:Nat}{L:List Tr}(h:bF kT w a cap L){i:Nat}(hi:i<L.length):∃b off,a=some ⟨b,off,none⟩∧b<w.heap.size∧w.cell? ⟨b,off+i*4,none⟩=some (.int .i64 (L.getD i dA).n)∧w.cell? ⟨b,off+i*4+1,none⟩=some (.int .i64 (L.getD i dA).k)∧w.cell? ⟨b,off+i*4+2,none⟩=some (.int .i64 (L.getD i dA).a)∧w.cell? ⟨b,off+i*4+3,none⟩=some (.int .i64 (L.getD i dA).s):=by obtain⟨b,off,e,d,c⟩:=h.elem (i:=i) (x:=L.getD i dA) (by simp[List.getD,hi]);exact⟨b,off,e,d,c 0 _ rfl,c 1 _ rfl,c 2 _ rfl,c 3 _ rfl⟩
theorem ic{W:World}{b:Nat}{t:Tr}(c:W.heap[b]?=some (nN t)):W.cell? ⟨b,0,none⟩=some (.int .i64 t.n)∧W.cell? ⟨b,1,none⟩=some (.int .i64 t.k)∧W.cell? ⟨b,2,none⟩=some (.int .i64 t.a)∧W.cell? ⟨b,3,none⟩=some (.int .i64 t.s):=by unfold nN at c;refine⟨?_,?_,?_,?_⟩<;>simp[World.cell?,c]
def sv(s:Se)(a:Option Addr)(cap:Nat):Value:=.agg #[.int .i64 s.bD,.slice a s.bj.length cap]
def so(s:Se)(a:Option Addr)(cap:Nat):Obj:=.cells #[.int .i64 s.bD,.slice a s.bj.length cap] 31
theorem cH{W:World}{b:Nat}{s:Se}{a:Option Addr}{cap:Nat}(c:W.heap[b]?=some (so s a cap)):W.cell? ⟨b,0,none⟩=some (.int .i64 s.bD)∧W.cell? ⟨b,1,none⟩=some (.slice a s.bj.length cap):=by unfold so at c;refine⟨?_,?_⟩<;>simp[World.cell?,c]
theorem fH{W:World}{b:Nat}{s:Se}{a:Option Addr}{cap:Nat}(c:W.heap[b]?=some (so s a cap)):W.frozen? ⟨b,0,none⟩=false∧W.frozen? ⟨b,1,none⟩=false:=by unfold so at c;refine⟨?_,?_⟩<;>simp[World.frozen?,c]
theorem il{a b:Bool}(h:a=b):Ending.returned (.bool a)=.returned (.bool b):=by rw[h]
theorem bP{k:IntKind}{a b:Int}(h:a=b):Ending.returned (.int k a)=.returned (.int k b):=by rw[h]
theorem aW{p:Prop}(h:p):Hid p:=h
theorem Aq(m:Int)(w:World):Calls prog 137 #[.int .i64 m] w fun e b=>e=.returned (.func (.func 149) #[] #[.pointer (some ⟨w.heap.size,0,none⟩)])∧b=w.alloc (.cells #[.int .i64 m] 3):=by have c:∀(a:Fn) (first cap:Array Value) (w:World),(Instr.makeFunc a first cap).run prog w=.ok (.func a first cap) w:=fun _ _ _ _=>rfl;go_enter func137,ntmps137;go_wp2;go_ret;exact⟨rfl,rfl⟩
theorem CH(c:Nat)(m:Int)(w:World)(a:w.heap[c]?=some (.cells #[.int .i64 m] 3))(h1:-1000000000≤m)(h2:m≤1000000000):Calls prog 149 #[.pointer (some ⟨c,0,none⟩)] w fun e b=>e=.returned (.int .i64 (m+1))∧b=w.setCell ⟨c,0,none⟩ (.int .i64 (m +1)):=by have f:w.cell? ⟨c,0,none⟩=some (.int .i64 m):=cell_of_one a;have d:w.frozen? ⟨c,0,none⟩=false:=free_of_one a;clear a;go_enter func149,ntmps149;go_wp2;go_ret;exact⟨rfl,rfl⟩
theorem tB(t:Tr)(m:Int):((t.k !=1)=true∧(t.k !=2)=true∧(t.k !=3)=true∧Hid (fF t m=1))∨(((t.k !=1)=false∨((t.k !=1)=true∧(t.k !=2)=false)∨((t.k !=1)=true∧(t.k !=2)=true∧(t.k !=3)=false))∧((t.a<0∧Hid (fF t m=3))∨(0 ≤t.a∧30≤t.a∧Hid (fF t m=3))∨(0≤t.a∧t.a<30∧t.s<1∧Hid (fF t m=3))∨(0≤t.a∧t.a<30∧1≤t.s∧1000000<t.s∧Hid (fF t m=3))∨(0≤t.a∧t.a<30∧1≤t.s∧t.s≤1000000∧(t.n !=m)=true∧Hid (fF t m=2))∨(0 ≤t.a∧t.a<30∧1≤t.s∧t.s≤1000000∧(t.n !=m)=false∧Hid (fF t m=0)))):=by
 by_cases b:noKind t.k;·exact Or.inl ⟨by simpa using b.1,by simpa using b.2.1,by simpa using b.2.2,by unfold Hid fF;rw[aB b]⟩
 right
 have f:((t.k !=1)=false∨((t.k !=1)=true∧(t.k !=2)=false)∨((t.k !=1)=true∧(t.k !=2)=true∧(t.k !=3)=false)):=by
  unfold noKind at b;by_cases h1:t.k=1;·exact Or.inl (by simpa using h1)
  by_cases h2:t.k=2;·exact Or.inr (Or.inl ⟨by simpa using h1,by simpa using h2⟩)
  by_cases d:t.k=3;·exact Or.inr (Or.inr ⟨by simpa using h1,by simpa using h2,by simpa using d⟩)
  ·exact absurd ⟨h1,h2,d⟩ b
 refine⟨f,?_⟩;have y:jq t.a t.s→Hid (fF t m=3):=fun h=>by unfold Hid fF;rw[ai b,aB h]
 by_cases h1:t.a<0;·exact Or.inl ⟨h1,y (by unfold jq;omega)⟩
 by_cases h2:30≤t.a;·exact Or.inr (Or.inl ⟨by omega,h2,y (by unfold jq;omega)⟩)
 by_cases d:t.s<1;·exact Or.inr (Or.inr (Or.inl ⟨by omega,by omega,d,y (by unfold jq;omega)⟩))
 by_cases g:1000000<t.s;·exact Or.inr (Or.inr (Or.inr (Or.inl ⟨by omega,by omega,by omega,g,y (by unfold jq;omega)⟩)))
 have e:¬jq t.a t.s:=by unfold jq;omega
 by_cases c:t.n=m;·exact Or.inr (Or.inr (Or.inr (Or.inr (Or.inr ⟨by omega,by omega,by omega,by omega,by simpa using c,by unfold Hid fF;rw[ai b,ai e,ai (by simpa using c)]⟩))))
 ·exact Or.inr (Or.inr (Or.inr (Or.inr (Or.inl ⟨by omega,by omega,by omega,by omega,by simpa using c,by unfold Hid fF;rw[ai b,ai e,aB c]⟩))))
theorem rL(t:Tr)(m:Int)(w:World):Calls prog 138 #[tv t,.int .i64 m] w fun e f=>e=.returned (.int .i64 (fF t m))∧Below w.heap.size w f:=by
 unfold tv;have d:∀o,Below w.heap.size w (w.alloc o):=ar w;rcases tB t m with⟨h1,h2,a,H⟩|⟨i,h⟩;·go_enter func138,ntmps138;go_wp2;go_ret;exact⟨bP H.out.symm,d _⟩
 ·rcases i with b|⟨b,g⟩|⟨b,g,k⟩<;>rcases h with⟨h1,H⟩|⟨h1,h2,H⟩|⟨h1,h2,a,H⟩|⟨h1,h2,a,c,H⟩|⟨h1,h2,a,c,j,H⟩|⟨h1,h2,a,c,j,H⟩;all_goals go_enter func138,ntmps138;go_wp2;go_ret;exact⟨bP H.out.symm,d _⟩
theorem Es(aX:Int)(w:World):Calls prog 124 #[.int .i64 aX] w fun e b=>e=.returned (.func (.func 139) #[] #[.pointer (some ⟨w.heap.size,0,none⟩)])∧b=w.alloc (.cells #[.int .i64 aX] 3):=by have c:∀(a:Fn) (first cap:Array Value) (w:World),(Instr.makeFunc a first cap).run prog w=.ok (.func a first cap) w:=fun _ _ _ _=>rfl;go_enter func124,ntmps124;go_wp2;go_ret;exact⟨rfl,rfl⟩
theorem wN(t:Tr)(c:Nat)(aX:Int)(w:World)(b:w.heap[c]?=some (.cells #[.int .i64 aX] 3)):Calls prog 139 #[tv t,.pointer (some ⟨c,0,none⟩)] w fun e f=>e=.returned (.bool (decide (aX<t.n)))∧Below w.heap.size w f:=by
 have a:c<w.heap.size:=ae b;have g:∀d,(w.alloc d).cell? ⟨c,0,none⟩=some (.int .i64 aX):=fun d=>by rw[aY _ _ _ a];exact cell_of_one b
 clear b;unfold tv;by_cases h:aX<t.n;all_goals go_enter func139,ntmps139;go_wp2;go_ret;exact⟨il (by simp[h]),ar _ _⟩
