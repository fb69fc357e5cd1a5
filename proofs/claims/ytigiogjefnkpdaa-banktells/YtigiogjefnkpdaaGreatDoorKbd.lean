import Derived.Test.YtigiogjefnkpdaaGreatDoorKac
import Derived.Test.YtigiogjefnkpdaaGreatDoorKae
import Derived.Test.YtigiogjefnkpdaaGreatDoorKai
import Derived.Test.YtigiogjefnkpdaaGreatDoorKam
import Derived.Test.YtigiogjefnkpdaaGreatDoorKas
import Derived.Test.YtigiogjefnkpdaaGreatDoorKax
set_option maxHeartbeats 4000000
set_option maxRecDepth 100000
open Go.Proofs.Tryz
namespace Go.Proofs.YtigiogjefnkpdaaGreatDoor.Bn
structure Pk where
 t:Po.Tr
 aX:Int
structure Dd where
 id:Int
 kind:Int
 n:Int
 aQ:Int
 mv:Int
 sum:Int
structure aJ where
 time:Int
 down:Bool
 aL:List Ca
 due:List Int
 ax:List Au.Au
 snd:Bool→Po.Se
 aX:Bool→Int
 dY:Bool→List Pk
 bn:St.Sd
 bt:List Dy.Rc
 days:List (List Int)bM:List (Int ×Int)
def eu{α:Type}(f:Bool→α)(i:Bool)(x:α):Bool→α:=fun j=>if j=i then x else f j
theorem rO{α:Type}(f:Bool→α)(i:Bool)(x:α):eu f i x i=x:=by simp[eu]
theorem qc{α:Type}(f:Bool→α)(i:Bool)(x:α):eu f i x (!i)=f (!i):=by cases i<;>simp[eu]
def zA:Au.Au:=Au.fO
def bW(l:List (Int ×Int))(src dst sum:Int):List (Int ×Int)×Int:=if sum<0∨1000000000000<sum then([],3)else Bk.post l [(src,-sum),(dst,sum)]
def aJ.aK(b:aJ)(k:Int):Ca:=b.aL.getD k.toNat b7
def aJ.bz(b:aJ)(k:Int):Au.Au:=b.ax.getD k.toNat zA
def aJ.dG(b:aJ)(k:Int):Int:=b.due.getD k.toNat 0
def nZ(b:aJ)(d:Dd):aJ×Int:=if d.n<0∨(b.aL.length :Int)≤d.n then(b,6)else if d.sum<1∨1000000<d.sum then(b,3)else if(cF (b.aK d.n) 0 d.sum).2≠0 then(b,(cF (b.aK d.n) 0 d.sum).2)else if(bW b.bM 0 (10+d.n) d.sum).2≠0 then(b,(bW b.bM 0 (10+d.n) d.sum).2)else({ b with aL:=b.aL.set d.n.toNat (cF (b.aK d.n) 0 d.sum).1,bM:=(bW b.bM 0 (10+d.n) d.sum).1},0)
def gC(b:aJ)(d:Dd):St.Ad:=⟨d.n,d.aQ,d.sum,b.time⟩
def eA(b:aJ)(d:Dd):aJ×Int×Int:=if(St.ep b.bn (gC b d)).2≠0 then(b,(if (St.ep b.bn (gC b d)).2=10 then 12 else(St.ep b.bn (gC b d)).2),0)else if 30≤b.ax.length+b.bn.bL.length then(b,5,0)else({ b with bn:=(St.ep b.bn (gC b d)).1},0,((b.ax.length+b.bn.bL.length:Nat):Int))
def gI(b:aJ)(d:Dd):aJ×Int×Int:=if(Au.fK d.n d.aQ d.sum b.time).2≠0 then(b,(Au.fK d.n d.aQ d.sum b.time).2,0)else if 30≤b.ax.length then(b,5,0)else if(ek (b.aK d.n) d.sum b.time).2≠0 then(b,(ek (b.aK d.n) d.sum b.time).2,0)else({b with aL:=b.aL.set d.n.toNat (ek (b.aK d.n) d.sum b.time).1,ax:=b.ax++[(Au.fK d.n d.aQ d.sum b.time).1]},0,(b.ax.length:Int))
def lq(b:aJ)(d:Dd):aJ×Int×Int:=if d.n<0∨(b.aL.length:Int)≤d.n∨d.aQ<0∨(b.due.length:Int)≤d.aQ then(b,6,0)else if b.down=true then eA b d else gI b d
def fq(k n:Int):Int:=if k=2∨k=3∨k=8 then-n else if k=6 then n else 0
def nk(k n:Int):Int:=if k=5 then-n else 0
def eK(l:List (Int ×Int))(a:Au.Au)(k n:Int):List (Int×Int)×Int:=if k=2∨k=3 then bW l (10 +a.aK) 1 n
 else if k=5 then bW l (50 +a.aQ) 1 n
 else if k=6 then bW l 2 (10 +a.aK) n
 else if k=8 then bW l (10 +a.aK) 2 n
 else(l,0)
def dE(s:Bool→Po.Se)(k bz n:Int):(Bool→Po.Se)×Int:=if k=2∨k=3 then(eu s false (Po.fV (s false) ⟨0,1,bz,n⟩).1,(Po.fV (s false) ⟨0,1,bz,n⟩).2)else if k=5 then(eu s true (Po.fV (s true) ⟨0,2,bz,n⟩).1,(Po.fV (s true) ⟨0,2,bz,n⟩).2)else if k=7 then(eu s false (Po.fV (s false) ⟨0,3,bz,n⟩).1,(Po.fV (s false) ⟨0,3,bz,n⟩).2)else(s,0)
def iT(b:aJ)(d:Dd):Au.Au:=Au.step (b.bz d.n) d.mv d.sum
def gi(b:aJ)(d:Dd):Ca×Int:=cF (b.aK (b.bz d.n).aK) (Au.bK (iT b d)-Au.bK (b.bz d.n)) (fq d.mv d.sum)
def iW(b:aJ)(d:Dd):aJ:=
  { b with aL:=b.aL.set (b.bz d.n).aK.toNat (gi b d).1
           due:=b.due.set (b.bz d.n).aQ.toNat (b.dG (b.bz d.n).aQ+nk d.mv d.sum)
           bM:=(eK b.bM (b.bz d.n) d.mv d.sum).1
           snd:=(dE b.snd d.mv d.n d.sum).1
           bt:=b.bt++[⟨(b.bz d.n).aQ,d.n,d.mv,d.sum⟩]
           ax:=b.ax.set d.n.toNat (iT b d)}
def mD(b:aJ)(d:Dd):aJ×Int:=if b.down=true then(b,12)else if d.n<0∨(b.ax.length :Int)≤d.n then(b,6)else if Au.ez (b.bz d.n) d.mv d.sum≠0 then(b,Au.ez (b.bz d.n) d.mv d.sum)else if d.mv=1∧(b.aK (b.bz d.n).aK).m-(b.aK (b.bz d.n).aK).h<d.sum then(b,10)else if(gi b d).2≠0 then(b,(gi b d).2)else if(eK b.bM (b.bz d.n) d.mv d.sum).2≠0 then(b,(eK b.bM (b.bz d.n) d.mv d.sum).2)else if(dE b.snd d.mv d.n d.sum).2≠0 then(b,(dE b.snd d.mv d.n d.sum).2)else if 100≤b.bt.length then(b,5)else(iW b d,0)
def jr(time:Int)(cs:List Ca)(a:Au.Au):List Ca:=cs.set a.aK.toNat ⟨(cs.getD a.aK.toNat b7).m,(cs.getD a.aK.toNat b7).h+(Au.bK (Au.ey a time)-Au.bK a),(cs.getD a.aK.toNat b7).p,(cs.getD a.aK.toNat b7).u⟩
def mQ(b:aJ):aJ:={b with aL:=b.ax.foldl (jr b.time) b.aL,ax:=b.ax.map fun a=>Au.ey a b.time}
def iU(b:aJ)(d:Dd):aJ×Int:=if d.sum<0∨1000000<d.sum∨1000000<b.time+d.sum then(b,3)else if b.down=true then({ b with time:=b.time+d.sum},0)else(mQ {b with time:=b.time+d.sum},0)
def jv(b:aJ):aJ×Int:=if b.down=true then(b,8)else({ b with down:=true},0)
def fT(cs:List Ca)(x:St.Ad):List Ca:=cs.set x.c.toNat ⟨(cs.getD x.c.toNat b7).m,(cs.getD x.c.toNat b7).h+x.m,(cs.getD x.c.toNat b7).p,(cs.getD x.c.toNat b7).u⟩
def kE(x:St.Ad):Au.Au:=⟨x.c,x.s,x.m,0,0,0,x.t+100,false⟩
def xU(b:aJ):aJ×Int:=if b.down=true then
  (mQ {b with aL:=b.bn.bL.foldl fT b.aL,ax:=b.ax++b.bn.bL.map kE,down:=false,bn:=⟨b.bn.cap,List.replicate b.aL.length 0,[]⟩},0)else(b,8)
def yt(b:aJ):aJ×Int:=({ b with days:=b.days++[Dy.qv b.bt],bt:=[]},0)
def sa(b:aJ)(d:Dd):aJ×Int:=if d.n<0∨(b.due.length :Int)≤d.n then(b,6)else if b.dG d.n<1 then(b,10)else if(bW b.bM (50+d.n) 0 (b.dG d.n)).2≠0 then(b,(bW b.bM (50 +d.n) 0 (b.dG d.n)).2)else({ b with due:=b.due.set d.n.toNat 0,bM:=(bW b.bM (50+d.n) 0 (b.dG d.n)).1},0)
def eC(n:Int):Bool:=n==1
def bD(b:aJ)(i:Bool):List Pk:=b.dY (!i)++(b.snd i).bj.map (fun t=>(⟨t,-1⟩:Pk))++[⟨Po.dA,b.aX i⟩]
def lX(b:aJ)(d:Dd):aJ×Int:=if d.n<0∨1<d.n then(b,6)else if 60<(bD b (eC d.n)).length then(b,5)else({ b with dY:=eu b.dY (!eC d.n) (bD b (eC d.n))},0)
def gone(b:aJ)(i:Bool):aJ:={b with dY:=eu b.dY i (b.dY i).tail}
def comes(b:aJ)(i:Bool)(t:Po.Tr):aJ×Int:=if t.k=1 then
  if(bW b.bM 1 (50 +(b.bz t.a).aQ) t.s).2≠0 then(b,(bW b.bM 1 (50+(b.bz t.a).aQ) t.s).2)else({gone b i with aX:=eu b.aX i (b.aX i+1),due:=b.due.set (b.bz t.a).aQ.toNat (b.dG (b.bz t.a).aQ+t.s),bM:=(bW b.bM 1 (50+(b.bz t.a).aQ) t.s).1},0)else if t.k=2 then
  if(cF (b.aK (b.bz t.a).aK) 0 t.s).2≠0 then(b,(cF (b.aK (b.bz t.a).aK) 0 t.s).2)else if(bW b.bM 1 (10 +(b.bz t.a).aK) t.s).2≠0 then(b,(bW b.bM 1 (10 +(b.bz t.a).aK) t.s).2)else({ gone b i with aX:=eu b.aX i (b.aX i+1),aL:=b.aL.set (b.bz t.a).aK.toNat (cF (b.aK (b.bz t.a).aK) 0 t.s).1,bM:=(bW b.bM 1 (10 +(b.bz t.a).aK) t.s).1},0)else if t.k=3 then
  if(bW b.bM (50+(b.bz t.a).aQ) 2 t.s).2≠0 then(b,(bW b.bM (50 +(b.bz t.a).aQ) 2 t.s).2)else({gone b i with aX:=eu b.aX i (b.aX i+1),due:=b.due.set (b.bz t.a).aQ.toNat (b.dG (b.bz t.a).aQ-t.s),bM:=(bW b.bM (50+(b.bz t.a).aQ) 2 t.s).1},0)else({ gone b i with aX:=eu b.aX i (b.aX i+1)},0)
def i7(b:aJ)(i:Bool)(p:Pk):aJ×Int:=if 0≤p.aX then
  if(Po.eR (b.snd i) p.aX).2≠0 then(b,(Po.eR (b.snd i) p.aX).2)else({ gone b i with snd:=eu b.snd i (Po.eR (b.snd i) p.aX).1},0)else if p.t.n≠b.aX i+1∨1000000≤b.aX i then(gone b i,0)else comes b i p.t
def dB(b:aJ)(d:Dd)(a:Bool):aJ×Int:=if d.n<0∨1<d.n then(b,6)else match b.dY (eC d.n)with
  |[]=>(b,6)|p::_=>if a=true then(gone b (eC d.n),0)else i7 b (eC d.n) p
def two(x:aJ×Int):aJ×Int×Int:=(x.1,x.2,0)
def jA(b:aJ)(d:Dd):aJ×Int×Int:=if d.kind=1 then two (nZ b d)else if d.kind=2 then lq b d
 else if d.kind=3 then two (mD b d)else if d.kind=4 then two (iU b d)else if d.kind=5 then two (lX b d)else if d.kind=6 then two (dB b d false)else if d.kind=7 then two (dB b d true)else if d.kind=8 then two (jv b)else if d.kind=9 then two (xU b)else if d.kind=10 then two (yt b)else if d.kind=11 then two (sa b d)else(b,1,0)
abbrev An:=Int×Int
def told(id:Int):List (Dd ×An)→Option An
 |[]=>none
 |x::r=>if x.1.id=id then some x.2 else told id r
def ie(s:aJ×List (Dd×An))(d:Dd):aJ×List (Dd×An):=match(if d.id=0 then none else told d.id s.2)with
 |some a=>(s.1,s.2++[(d,a)])|none=>((jA s.1 d).1,s.2++[(d,((jA s.1 d).2.1,(jA s.1 d).2.2))])
def dQ(b:aJ)(l:List Dd):aJ×List (Dd×An):=l.foldl ie (b,[])
theorem qZ(b:aJ)(l:List Dd)(d:Dd):dQ b (l ++[d])=ie (dQ b l) d:=by unfold dQ;simp
theorem gp{b:aJ}{x:aJ×Int}(h:x.2≠0→x.1=b):(two x).2.1≠0→(two x).1=b:=h
theorem lG(b:aJ)(d:Dd):(jA b d).2.1≠0→(jA b d).1=b:=by
 have f:∀{c:Prop}[Decidable c]{x y:aJ×Int},(x.2≠0→x.1=b)→(y.2≠0→y.1=b)→((if c then x else y).2≠0→(if c then x else y).1=b):=by
  intro c _ x y m hy;split;·exact m
  ·exact hy
 have i:∀{c:Prop}[Decidable c]{x y:aJ×Int×Int},(x.2.1≠0→x.1=b)→(y.2.1≠0→y.1=b)→((if c then x else y).2.1≠0→(if c then x else y).1=b):=by
  intro c _ x y m hy;split;·exact m
  ·exact hy
 have a:∀e:Int,((b,e):aJ×Int).2≠0→((b,e):aJ×Int).1=b:=fun _ _=>rfl;have g:∀x:aJ,((x,0):aJ×Int).2≠0→((x,0):aJ×Int).1=b:=fun _ h=>absurd rfl h;have j:∀e k:Int,((b,e,k):aJ×Int×Int).2.1≠0→((b,e,k):aJ×Int×Int).1=b:=fun _ _ _=>rfl;have l:∀(x:aJ) (k:Int),((x,0,k):aJ×Int×Int).2.1≠0→((x,0,k):aJ×Int×Int).1=b:=fun _ _ h=>absurd rfl h;unfold jA;refine i (gp ?_) (i ?_ (i (gp ?_) (i (gp ?_) (i (gp ?_) (i (gp ?_) (i (gp ?_) (i (gp ?_) (i (gp ?_) (i (gp ?_) (i (gp ?_) (j _ _)))))))))));·exact f (a _) (f (a _) (f (a _) (f (a _) (g _))))
 ·exact i (j _ _) (i (i (j _ _) (i (j _ _) (l _ _))) (i (j _ _) (i (j _ _) (i (j _ _) (l _ _)))))
 ·exact f (a _) (f (a _) (f (a _) (f (a _) (f (a _) (f (a _) (f (a _) (f (a _) (g _))))))))
 ·exact f (a _) (f (g _) (g _))
 ·exact f (a _) (f (a _) (g _))
 ·unfold dB;refine f (a _) ?_;split;·exact a _
  ·refine f (g _) ?_;unfold i7;refine f (f (a _) (g _)) (f (g _) ?_);exact f (f (a _) (g _)) (f (f (a _) (f (a _) (g _))) (f (f (a _) (g _)) (g _)))
 ·unfold dB;refine f (a _) ?_;split;·exact a _
  ·refine f (g _) ?_;unfold i7;refine f (f (a _) (g _)) (f (g _) ?_);exact f (f (a _) (g _)) (f (f (a _) (f (a _) (g _))) (f (f (a _) (g _)) (g _)))
 ·exact f (a _) (g _)
 ·exact f (g _) (a _)
 ·exact g _
 ·exact f (a _) (f (a _) (f (a _) (g _)))
def b8{α:Type}(f:α→Int):List α→Int
 |[]=>0
 |x::r=>f x+b8 f r
theorem gO{α:Type}(f:α→Int)(a b:List α):b8 f (a++b)=b8 f a+b8 f b:=by
 induction a with
 |nil=>simp[b8]
 |cons x r c=>simp only[mU,b8,c];omega
theorem nK{α:Type}(f:α→Int)(x:α):b8 f [x]=f x:=by simp[b8]
theorem qe{α β:Type}(f:β→Int)(g:α→β)(l:List α):b8 f (l.map g)=b8 (fun x=>f (g x)) l:=by
 induction l with
 |nil=>rfl
 |cons x r a=>simp only[List.map_cons,b8,a]
theorem EX{α:Type}(f g:α→Int)(l:List α):b8 (fun x=>f x+g x) l=b8 f l+b8 g l:=by
 induction l with
 |nil=>rfl
 |cons x r a=>simp only[b8,a];omega
theorem ph{α:Type}{f g:α→Int}{l:List α}(h:∀x∈l,f x=g x):b8 f l=b8 g l:=by
 induction l with
 |nil=>rfl
 |cons x r a=>simp only[b8];rw[h x bT,a fun y hy=>h y (cR _ hy)]
theorem AZ{α:Type}{f:α→Int}{l:List α}(h:∀x∈l,f x=0):b8 f l=0:=by
 induction l with
 |nil=>rfl
 |cons x r a=>simp only[b8];rw[h x bT,a fun y hy=>h y (cR _ hy)];rfl
theorem sH{α:Type}(f:α→Int)(l:List α)(i:Nat)(x d:α)(h:i<l.length):b8 f (l.set i x)=b8 f l-f (l.getD i d)+f x:=by
 induction l generalizing i with
 |nil=>simp at h
 |cons y r a=>
  cases i with
  |zero=>simp[b8];omega
  |succ i=>have :=a i (by simpa using h);simp only[aN,b8,List.getD_cons_succ,this];omega
theorem jU{α:Type}{f:α→Int}{c:Int}{l:List α}(h:∀x∈l,0≤f x∧f x≤c):0≤b8 f l∧b8 f l≤c*l.length:=by
 induction l with
 |nil=>simp[b8]
 |cons x r a=>have h1:=a fun y hy=>h y (cR _ hy);have h2:=h x bT;simp only[b8,di,Int.natCast_add,Int.natCast_one,Int.mul_add,Int.mul_one];omega
theorem f'{α:Type}(l:List α)(i j:Nat)(x d:α)(h:i<l.length):(l.set i x).getD j d=if i=j then x else l.getD j d:=by
 simp only[List.getD_eq_getElem?_getD,List.getElem?_set];by_cases e:i=j;·subst e;simp[h]
 ·simp[e]
theorem ev{α:Type}{l:List α}{i:Nat}(d:α)(h:i<l.length):l.getD i d∈l:=by simp[List.getD,h]
theorem zX{α:Type}{l:List α}{x:α}(d:α)(h:x∈l):∃i,i<l.length∧l.getD i d=x:=by obtain⟨i,hi,rfl⟩:=ss h;exact⟨i,hi,by simp[List.getD,hi]⟩
theorem mH{α:Type}{l:List α}{i:Nat}{x y:α}(h:y∈l.set i x):y=x∨y∈l:=by
 rcases List.mem_or_eq_of_mem_set h with h|h;·exact Or.inr h
 ·exact Or.inl h
theorem gB{l:List (Int×Int)}{src dst n:Int}(h:(bW l src dst n).2=0):(Bk.dS (bW l src dst n).1).1=0∧∀acc,Bk.et (bW l src dst n).1 acc=Bk.et l acc+(if src=acc then-n else 0)+(if dst=acc then n else 0):=by
 unfold bW at h⊢;by_cases h0:n<0∨1000000000000<n;·rw[aB h0]at h;cases h
 ·rw[ai h0]at h⊢;have a:Bk.post l [(src,-n),(dst,n)]=((Bk.post l [(src,-n),(dst,n)]).1,0):=by rw[←h]
  obtain⟨-,-,c,b⟩:=Bk.BI a;refine⟨c,fun acc=>?_⟩;rw[b acc];simp only[Bk.given];omega
def heldBy(k:Nat)(a:Au.Au):Int:=if a.aK=(k :Int)then Au.bK a else 0
def fg(k:Nat)(l:List Au.Au):Int:=b8 (heldBy k) l
def jY(eJ:Int)(t:Po.Tr):Int:=if eJ<t.n∧t.k≠3 then t.s else 0
def ij(eJ:Int)(t:Po.Tr):Int:=if eJ<t.n∧t.k=3 then t.s else 0
def Dt(b:aJ):Int:=b8 (jY (b.aX true)) (b.snd false).bj+b8 (jY (b.aX false)) (b.snd true).bj
def sN(b:aJ):Int:=b8 (ij (b.aX true)) (b.snd false).bj+b8 (ij (b.aX false)) (b.snd true).bj
def iM(b:aJ):Int:=b8 Au.Au.eB b.ax
structure xP(b:aJ):Prop where
 eZ:b.aL.length≤8
 kF:b.due.length≤8
 right:∀c∈b.aL,jM c
 iv:b.ax.length+b.bn.bL.length≤30
 ax:∀a∈b.ax,Au.wj a∧Au.Fit a∧a.aK<b.aL.length∧a.aQ<b.due.length
 held:∀k:Nat,k<b.aL.length→(b.aL.getD k b7).h=fg k b.ax
 bn:St.en b.bn
 gE:b.bn.used.length=b.aL.length
 mS:∀x∈b.bn.bL,x.s<b.due.length∧x.t≤b.time
 lW:b.down=false→b.bn.bL=[]
 jR:0≤b.time
 kJ:b.time≤1000000
 bt:Dy.en b.bt
structure xC(b:aJ):Prop where
 right:∀i,Po.en (b.snd i)i9:∀i,0≤b.aX i
 j5:∀i,b.aX i≤(b.snd (!i)).bD
 keeps:∀i,(b.snd i).bD-(b.snd i).bj.length≤b.aX (!i)ax:∀i,∀t∈(b.snd i).bj,t.a<b.ax.length
 j1:∀t∈(b.snd false).bj,t.k=1∨t.k=3
 ka:∀t∈(b.snd true).bj,t.k=2
 ways:∀i,∀p∈b.dY i,(p.aX =-1∧(p.t.n≤b.aX i∨p.t∈(b.snd (!i)).bj))∨(0 ≤p.aX∧p.aX≤b.aX (!i))jP:∀i,(b.dY i).length≤60
structure Kt(b:aJ):Prop where
 right:(Bk.dS b.bM).1=0
 nM:∀k:Nat,k<b.aL.length→Bk.et b.bM (10+(k :Int))=(b.aL.getD k b7).m
 nQ:∀k:Nat,k<b.due.length→Bk.et b.bM (50 +(k :Int))=b.due.getD k 0
 o9:Bk.et b.bM 1=Dt b
 oZ:Bk.et b.bM 2=-iM b-sN b
structure Inv(b:aJ):Prop where
 held:xP b
 bD:xC b
 zj:Kt b
theorem xP.aK{b:aJ}(h:xP b){k:Int}(h0:0≤k)(h1:k<b.aL.length):jM (b.aK k):=h.right _ (ev _ (by omega))
theorem xP.bz{b:aJ}(h:xP b){k:Int}(h0:0≤k)(h1:k<b.ax.length):Au.wj (b.bz k)∧Au.Fit (b.bz k)∧(b.bz k).aK<b.aL.length∧(b.bz k).aQ<b.due.length:=h.ax _ (ev _ (by omega))
theorem gF{a:Au.Au}(h1:Au.wj a)(h2:Au.Fit a):0≤Au.bK a∧Au.bK a≤1000000:=by
 unfold Au.bK;obtain⟨⟨e,d⟩,⟨c,b⟩,-⟩:=h1;split;·omega
 ·have :=h2.1;omega
theorem xP.small{b:aJ}(h:xP b)(k:Nat):0≤fg k b.ax∧fg k b.ax≤30000000:=by
 have h1:=jU (f:=heldBy k) (c:=1000000) (l:=b.ax) fun a d=>by have:= gF (h.ax a d).1 (h.ax a d).2.1;unfold heldBy;split<;>omega
 have:= h.iv;unfold fg;omega
theorem mO{c:Ca}{x y:Int}(h:(cF c y x).2=0):jM c∧(cF c y x).1=⟨c.m+x,c.h+y,c.p,c.u⟩∧jM ⟨c.m+x,c.h+y,c.p,c.u⟩:=by obtain⟨h0,h1,h2,a⟩:=Bb h;refine⟨fE.1 h0,by rw[a],?_⟩;have R:=fE.1 h0;unfold off at h2;exact⟨by dsimp only;omega,by dsimp only;omega,by dsimp only;omega,by dsimp only;omega,R.me,R.cP⟩
theorem IC{b:aJ}{d:Dd}(I:Inv b)(h:(nZ b d).2=0):Inv (nZ b d).1:=by
 unfold nZ at h⊢;split at h;·cases h
 rename_i h1;rw[ai h1];split at h;·cases h
 rename_i h2;rw[ai h2];split at h;·rename_i g;exact absurd h g
 rename_i g;rw[ai g];split at h;·rename_i f;exact absurd h f
 rename_i f;rw[ai f];have g:(cF (b.aK d.n) 0 d.sum).2=0:=Decidable.not_not.1 g;have f:(bW b.bM 0 (10 +d.n) d.sum).2=0:=Decidable.not_not.1 f;obtain⟨g1,g2,l⟩:=mO g;obtain⟨m1,m2⟩:=gB f;have j:d.n.toNat<b.aL.length:=by omega
 obtain⟨H,S,B⟩:=I;refine⟨⟨by simpa using H.eZ,H.kF,?_,H.iv,by simpa using H.ax,?_,H.bn,by simpa using H.gE,H.mS,H.lW,H.jR,H.kJ,H.bt⟩,⟨S.right,S.i9,S.j5,S.keeps,S.ax,S.j1,S.ka,S.ways,S.jP⟩,⟨m1,?_,?_,?_,?_⟩⟩
 ·intro c i;rcases mH i with rfl|i;·rw[g2];exact l
  ·exact H.right c i
 ·intro k a;have a:k<b.aL.length:=by simpa using a
  show((b.aL.set d.n.toNat (cF (b.aK d.n) 0 d.sum).1).getD k b7).h=fg k b.ax;rw[f' _ _ _ _ _ j,g2];split;·rename_i e;subst e;have:= H.held _ a;show(b.aK d.n).h+0=_;rw[q9];exact this
  ·exact H.held k a
 ·intro k a;have a:k<b.aL.length:=by simpa using a
  show Bk.et (bW b.bM 0 (10+d.n) d.sum).1 (10 +(k :Int))=((b.aL.set d.n.toNat (cF (b.aK d.n) 0 d.sum).1).getD k b7).m;rw[m2,f' _ _ _ _ _ j,g2,B.nM k a,ai (by omega)];split
  ·rename_i e;rw[aB (by omega)];have o:k=d.n.toNat:=by omega
   subst o;show _=(b.aK d.n).m+d.sum;unfold aJ.aK;omega
  ·rename_i e;rw[ai (by omega)];omega
 ·intro k a;have:= H.eZ;show Bk.et (bW b.bM 0 (10 +d.n) d.sum).1 (50+(k :Int))=b.due.getD k 0;rw[m2,B.nQ k a,ai (by omega),ai (by omega)];omega
 ·show Bk.et (bW b.bM 0 (10 +d.n) d.sum).1 1=Dt b;rw[m2,B.o9,ai (by omega),ai (by omega)];omega
 ·show Bk.et (bW b.bM 0 (10+d.n) d.sum).1 2=_;rw[m2,B.oZ,ai (by omega),ai (by omega)];show _=-iM b-sN b;omega
theorem JS{b:aJ}{d:Dd}(I:Inv b)(h:(sa b d).2=0):Inv (sa b d).1:=by
 unfold sa at h⊢;split at h;·cases h
 rename_i h1;rw[ai h1];split at h;·cases h
 rename_i h2;rw[ai h2];split at h;·rename_i c;exact absurd h c
 rename_i c;rw[ai c];have c:(bW b.bM (50 +d.n) 0 (b.dG d.n)).2=0:=Decidable.not_not.1 c;obtain⟨m1,m2⟩:=gB c;have f:d.n.toNat<b.due.length:=by omega
 obtain⟨H,S,B⟩:=I;refine⟨⟨H.eZ,by simpa using H.kF,H.right,H.iv,by simpa using H.ax,H.held,H.bn,H.gE,by simpa using H.mS,H.lW,H.jR,H.kJ,H.bt⟩,⟨S.right,S.i9,S.j5,S.keeps,S.ax,S.j1,S.ka,S.ways,S.jP⟩,⟨m1,?_,?_,?_,?_⟩⟩;·intro k a;have a:k<b.aL.length:=a;have :=H.eZ;show Bk.et (bW b.bM (50+d.n) 0 (b.dG d.n)).1 (10+(k:Int))=(b.aL.getD k b7).m;rw[m2,B.nM k a,ai (by omega),ai (by omega)];omega
 ·intro k a;have a:k<b.due.length:=by simpa using a
  show Bk.et (bW b.bM (50+d.n) 0 (b.dG d.n)).1 (50 +(k :Int))=(b.due.set d.n.toNat 0).getD k 0;rw[m2,f' _ _ _ _ _ f,B.nQ k a,ai (show ¬(0:Int)=50+(k:Int)by omega)];by_cases e:d.n.toNat=k;·rw[aB e,aB (by omega)];subst e;unfold aJ.dG;omega
  ·rw[ai e,ai (by omega)];omega
 ·show Bk.et (bW b.bM (50 +d.n) 0 (b.dG d.n)).1 1=Dt b;rw[m2,B.o9,ai (by omega),ai (by omega)];omega
 ·show Bk.et (bW b.bM (50+d.n) 0 (b.dG d.n)).1 2=-iM b-sN b;rw[m2,B.oZ,ai (by omega),ai (by omega)];omega
theorem xv:Dy.en []:=⟨by simp,fun r h=>by cases h⟩
theorem Jy{b:aJ}(I:Inv b):Inv (yt b).1:=by obtain⟨H,S,B⟩:=I;exact⟨⟨H.eZ,H.kF,H.right,H.iv,H.ax,H.held,H.bn,H.gE,H.mS,H.lW,H.jR,H.kJ,xv⟩,⟨S.right,S.i9,S.j5,S.keeps,S.ax,S.j1,S.ka,S.ways,S.jP⟩,⟨B.right,B.nM,B.nQ,B.o9,B.oZ⟩⟩
theorem GI{b:aJ}(I:Inv b)(h:(jv b).2=0):Inv (jv b).1:=by
 unfold jv at h⊢;split at h;·cases h
 rename_i h1;rw[ai h1];obtain⟨H,S,B⟩:=I;exact⟨⟨H.eZ,H.kF,H.right,H.iv,H.ax,H.held,H.bn,H.gE,H.mS,(fun h=>by cases h),H.jR,H.kJ,H.bt⟩,⟨S.right,S.i9,S.j5,S.keeps,S.ax,S.j1,S.ka,S.ways,S.jP⟩,⟨B.right,B.nM,B.nQ,B.o9,B.oZ⟩⟩
theorem za{b:aJ}{d:Dd}(I:Inv b)(e:b.down=true)(h1:¬(d.n<0∨(b.aL.length :Int)≤d.n∨d.aQ<0∨(b.due.length:Int)≤d.aQ))(h:(eA b d).2.1=0):Inv (eA b d).1:=by
 unfold eA at h⊢;split at h
 ·rename_i h2;dsimp only at h;split at h;·cases h
  ·exact absurd h h2
 rename_i h2;rw[ai h2];split at h;·cases h
 rename_i f;rw[ai f];have h2:(St.ep b.bn (gC b d)).2=0:=Decidable.not_not.1 h2;obtain⟨H,S,B⟩:=I;obtain⟨g1,g2⟩:=St.BN H.bn h2;rw[g1];have c:(St.oV b.bn (gC b d)).bL=b.bn.bL++[gC b d]:=rfl;refine⟨⟨H.eZ,H.kF,H.right,?_,H.ax,H.held,g2,?_,?_,?_,H.jR,H.kJ,H.bt⟩,⟨S.right,S.i9,S.j5,S.keeps,S.ax,S.j1,S.ka,S.ways,S.jP⟩,⟨B.right,B.nM,B.nQ,B.o9,B.oZ⟩⟩;·show b.ax.length+(b.bn.bL ++[gC b d]).length≤30;simp;omega
 ·show(b.bn.used.set _ _).length=_;simpa using H.gE
 ·intro x a;have a:x∈b.bn.bL++[gC b d]:=a;rcases List.mem_append.1 a with a|a;·exact H.mS x a
  ·obtain rfl:=List.mem_singleton.1 a;exact⟨by show d.aQ<(b.due.length :Int);omega,nz _⟩
 ·intro h0;rw[e]at h0;cases h0
theorem DM{c s n t:Int}(h:(Au.fK c s n t).2=0):(Au.fK c s n t).1=⟨c,s,n,0,0,0,t+100,false⟩∧1≤n∧n≤1000000∧0≤t∧t≤1000000∧0≤c∧c<8∧0≤s∧s<8:=by
 unfold Au.fK at h⊢;split at h;·rename_i h1;rw[aB h1];exact⟨rfl,h1.1.1,h1.1.2,h1.2.1,h1.2.2.1,h1.2.2.2.1.1,h1.2.2.2.1.2,h1.2.2.2.2.1,h1.2.2.2.2.2⟩
 ·cases h
theorem EA{b:aJ}{d:Dd}(I:Inv b)(s:b.down=false)(h1:¬(d.n<0∨(b.aL.length:Int)≤d.n∨d.aQ<0∨(b.due.length:Int)≤d.aQ))(h:(gI b d).2.1=0):Inv (gI b d).1:=by
 unfold gI at h⊢;split at h;·rename_i h2;exact absurd h h2
 rename_i h2;rw[ai h2];split at h;·cases h
 rename_i u;rw[ai u];split at h;·rename_i j;exact absurd h j
 rename_i j;rw[ai j];have h2:(Au.fK d.n d.aQ d.sum b.time).2=0:=Decidable.not_not.1 h2;have j:(ek (b.aK d.n) d.sum b.time).2=0:=Decidable.not_not.1 j;obtain⟨n1,D,C,A,z,y,x,w,v⟩:=DM h2;obtain⟨-,-,-,-,c1,c2,c3⟩:=CE j;rw[n1];obtain⟨H,S,B⟩:=I;have q:d.n.toNat<b.aL.length:=by omega
 have o:=H.lW s;have l:iM {b with aL:=b.aL.set d.n.toNat (ek (b.aK d.n) d.sum b.time).1,ax:=b.ax++[⟨d.n,d.aQ,d.sum,0,0,0,b.time+100,false⟩]}=iM b:=by show b8 Au.Au.eB (b.ax ++[_])=b8 Au.Au.eB b.ax;rw[gO,nK];dsimp only;omega
 refine⟨⟨by simpa using H.eZ,H.kF,?_,?_,?_,?_,H.bn,by simpa using H.gE,H.mS,H.lW,H.jR,H.kJ,H.bt⟩,⟨S.right,S.i9,S.j5,S.keeps,?_,S.j1,S.ka,S.ways,S.jP⟩,⟨B.right,?_,B.nQ,B.o9,by rw[l];exact B.oZ⟩⟩
 ·intro c p;rcases mH p with rfl|p;·exact fE.1 c1
  ·exact H.right c p
 ·show(b.ax ++[_]).length+b.bn.bL.length≤30;rw[o];simp;omega
 ·intro a g;have g:a∈b.ax++[_]:=g;show _∧_∧a.aK<((b.aL.set _ _).length:Int)∧a.aQ<(b.due.length :Int);rw[oS];rcases List.mem_append.1 g with g|g;·exact H.ax a g
  ·obtain rfl:=List.mem_singleton.1 g;unfold Au.wj Au.Fit;dsimp only;omega
 ·intro k f;have f:k<b.aL.length:=by simpa using f
  show((b.aL.set d.n.toNat (ek (b.aK d.n) d.sum b.time).1).getD k b7).h=b8 (heldBy k) (b.ax ++[_]);rw[f' _ _ _ _ _ q,gO,nK];have :=H.held k f;unfold fg at this;split;·rename_i e;subst e;rw[c3];unfold aJ.aK;rw[this];unfold heldBy Au.bK;dsimp only;rw[aB (by omega)];simp
  ·rename_i e;rw[this];unfold heldBy;dsimp only;rw[ai (by omega)];simp
 ·intro i t r;have :=S.ax i t r;show t.a<((b.ax++[_]).length:Int);simp;omega
 ·intro k f;have f:k<b.aL.length:=by simpa using f
  show Bk.et b.bM (10 +(k:Int))=((b.aL.set d.n.toNat (ek (b.aK d.n) d.sum b.time).1).getD k b7).m;rw[f' _ _ _ _ _ q,B.nM k f];split;·rename_i e;subst e;rw[c2];rfl
  ·rfl
theorem Js{b:aJ}{d:Dd}(I:Inv b)(h:(lq b d).2.1=0):Inv (lq b d).1:=by
 unfold lq at h⊢;split at h;·cases h
 rename_i h1;rw[ai h1];split at h;·rename_i h2;rw[aB h2];exact za I h2 h1 h
 ·rename_i h2;rw[ai h2];exact EA I (by simpa using h2) h1 h
theorem mg(i:Bool):(!(!i))=i:=by cases i<;>rfl
theorem uh{b:aJ}{i j:Bool}{p:Pk}(h:p∈(gone b i).dY j):p∈b.dY j:=by
 unfold gone eu at h;dsimp only at h;split at h;·rename_i e;subst e;exact List.mem_of_mem_tail h
 ·exact h
theorem uJ(b:aJ)(i j:Bool):((gone b i).dY j).length≤(b.dY j).length:=by
 unfold gone eu;dsimp only;split;·rename_i e;subst e;simp
 ·exact aj _
theorem Am{b:aJ}(I:Inv b)(i:Bool):Inv (gone b i):=by obtain⟨H,S,B⟩:=I;exact⟨⟨H.eZ,H.kF,H.right,H.iv,H.ax,H.held,H.bn,H.gE,H.mS,H.lW,H.jR,H.kJ,H.bt⟩,⟨S.right,S.i9,S.j5,S.keeps,S.ax,S.j1,S.ka,fun j p a=>S.ways j p (uh a),fun j=>bE (uJ b i j) (S.jP j)⟩,⟨B.right,B.nM,B.nQ,B.o9,B.oZ⟩⟩
theorem G'{b:aJ}{d:Dd}(I:Inv b)(h:(lX b d).2=0):Inv (lX b d).1:=by
 unfold lX at h⊢;split at h;·cases h
 rename_i h1;rw[ai h1];split at h;·cases h
 rename_i h2;rw[ai h2];generalize eC d.n=i at*;obtain⟨H,S,B⟩:=I;refine⟨⟨H.eZ,H.kF,H.right,H.iv,H.ax,H.held,H.bn,H.gE,H.mS,H.lW,H.jR,H.kJ,H.bt⟩,⟨S.right,S.i9,S.j5,S.keeps,S.ax,S.j1,S.ka,?_,?_⟩,⟨B.right,B.nM,B.nQ,B.o9,B.oZ⟩⟩
 ·intro j p a;replace a:p∈eu b.dY (!i) (bD b i) j:=a;show(p.aX =-1∧(p.t.n≤b.aX j∨p.t∈(b.snd (!j)).bj))∨(0 ≤p.aX∧p.aX≤b.aX (!j));unfold eu at a;split at a
  ·rename_i e;subst e;unfold bD at a;rcases List.mem_append.1 a with a|a
   ·rcases List.mem_append.1 a with a|a;·exact S.ways _ p a
    ·obtain⟨t,c,rfl⟩:=List.mem_map.1 a;rw[mg];exact Or.inl ⟨rfl,Or.inr c⟩
   ·obtain rfl:=List.mem_singleton.1 a;rw[mg];exact Or.inr ⟨S.i9 i,nz _⟩
  ·exact S.ways j p a
 ·intro j;show(eu b.dY (!i) (bD b i) j).length≤60;unfold eu;split;·omega
  ·exact S.jP j
theorem EC{s eJ:Int}(h:s≤eJ)(L:List Po.Tr):b8 (jY eJ) (Po.eW s L)=b8 (jY eJ) L∧b8 (ij eJ) (Po.eW s L)=b8 (ij eJ) L:=by
 unfold Po.eW
 induction L with
 |nil=>exact⟨rfl,rfl⟩|cons t r a=>
  by_cases e:s<t.n;·rw[List.filter_cons_of_pos (by simpa using e)];simp only[b8,a.1,a.2,and_self]
  ·rw[List.filter_cons_of_neg (by simpa using e),a.1,a.2];simp only[b8];unfold jY ij;rw[ai (by omega),ai (by omega)];omega
theorem BL{s:Po.Se}{n:Int}(h:(Po.eR s n).2=0):Po.en s∧0≤n∧n≤s.bD∧(Po.eR s n).1=⟨s.bD,Po.eW n s.bj⟩:=by
 by_cases h0:(Po.bX s).1=0
 ·by_cases h1:n<0∨s.bD<n;·rw[Po.pe h0 h1]at h;cases h
  ·rw[Po.vq h0 h1];exact⟨Po.mx.1 h0,by omega,by omega,rfl⟩
 ·rw[Po.sz h0]at h;exact absurd h h0
theorem Gw{b:aJ}{i:Bool}{n:Int}(I:Inv b)(r:n≤b.aX (!i))(h:(Po.eR (b.snd i) n).2=0):Inv {gone b i with snd:=eu b.snd i (Po.eR (b.snd i) n).1}:=by
 obtain⟨R,n0,n1,w⟩:=BL h;rw[w];obtain⟨H,S,B⟩:=I
 have s:∀j,(eu b.snd i ⟨(b.snd i).bD,Po.eW n (b.snd i).bj⟩ j).bD=(b.snd j).bD:=fun j=>by
  unfold eu;split;·rename_i e;subst e;rfl
  ·rfl
 have l:∀j,∀t∈(eu b.snd i ⟨(b.snd i).bD,Po.eW n (b.snd i).bj⟩ j).bj,t∈(b.snd j).bj:=fun j t a=>by
  unfold eu at a;split at a;·rename_i e;subst e;exact(List.mem_filter.1 a).1
  ·exact a
 have u:∀j,Po.en (eu b.snd i ⟨(b.snd i).bD,Po.eW n (b.snd i).bj⟩ j):=fun j=>by
  unfold eu;split;·exact Po.yF R n1
  ·exact S.right j
 have o:∀j,b8 (jY (b.aX (!j))) (eu b.snd i ⟨(b.snd i).bD,Po.eW n (b.snd i).bj⟩ j).bj=b8 (jY (b.aX (!j))) (b.snd j).bj∧b8 (ij (b.aX (!j))) (eu b.snd i ⟨(b.snd i).bD,Po.eW n (b.snd i).bj⟩ j).bj=b8 (ij (b.aX (!j))) (b.snd j).bj:=fun j=>by
  unfold eu;split;·rename_i e;subst e;exact EC r _
  ·exact⟨rfl,rfl⟩
 have g:=o false;have f:=o true;refine⟨⟨H.eZ,H.kF,H.right,H.iv,H.ax,H.held,H.bn,H.gE,H.mS,H.lW,H.jR,H.kJ,H.bt⟩,⟨u,S.i9,fun j=>by show b.aX j≤(eu b.snd i _ (!j)).bD;rw[s];exact S.j5 j,?_,fun j t a=>S.ax j t (l j t a),fun t a=>S.j1 t (l false t a),fun t a=>S.ka t (l true t a),?_,fun j=>bE (uJ b i j) (S.jP j)⟩,⟨B.right,B.nM,B.nQ,?_,?_⟩⟩
 ·intro j;show(eu b.snd i _ j).bD-((eu b.snd i ⟨(b.snd i).bD,Po.eW n (b.snd i).bj⟩ j).bj.length:Int)≤b.aX (!j);rw[s];unfold eu;split
  ·rename_i e;subst e;obtain⟨q,h1,h2,m⟩:=Po.ux R n1;show(b.snd j).bD-((Po.eW n (b.snd j).bj).length:Int)≤b.aX (!j);rw[h1,List.length_drop];have:= S.keeps j;rcases m with m|⟨m,x⟩;·omega
   ·omega
  ·exact S.keeps j
 ·intro j p k;have k:=S.ways j p (uh k);show(p.aX=-1∧(p.t.n ≤b.aX j∨p.t∈(eu b.snd i _ (!j)).bj))∨(0≤p.aX∧p.aX≤b.aX (!j));rcases k with⟨h1,h2⟩|k
  ·refine Or.inl ⟨h1,?_⟩;rcases h2 with h2|h2;·exact Or.inl h2
   ·unfold eu;split
    ·rename_i e;by_cases v:n<p.t.n;·exact Or.inr (List.mem_filter.2 ⟨by rw[←e];exact h2,by simpa using v⟩)
     ·refine Or.inl ?_;rw[←e,mg]at r;omega
    ·exact Or.inr h2
  ·exact Or.inr k
 ·show Bk.et b.bM 1=b8 (jY (b.aX true)) (eu b.snd i _ false).bj+b8 (jY (b.aX false)) (eu b.snd i _ true).bj;rw[B.o9];have d:=g.1;have c:=f.1;simp only[vJ,AT]at d c;rw[d,c];rfl
 ·show Bk.et b.bM 2=-iM b-(b8 (ij (b.aX true)) (eu b.snd i _ false).bj+b8 (ij (b.aX false)) (eu b.snd i _ true).bj);rw[B.oZ];have d:=g.2;have c:=f.2;simp only[vJ,AT]at d c;rw[d,c];rfl
theorem CX{f g:Po.Tr→Int}{L:List Po.Tr}(d:L.Pairwise fun x y=>x.n<y.n){t:Po.Tr}(a:t∈L)(h:∀x∈L,x.n≠t.n→f x=g x):b8 f L=b8 g L+(f t-g t):=by
 induction L with
 |nil=>cases a
 |cons y r c=>
  obtain⟨h1,h2⟩:=List.pairwise_cons.1 d;simp only[b8];rcases List.mem_cons.1 a with rfl|a;·have :b8 f r=b8 g r:=ph fun x b=>h x (cR _ b) (by have:= h1 x b;omega);rw[this];omega
  ·rw[c h2 a fun x b=>h x (cR _ b),h y bT (by have:= h1 t a;omega)];omega
theorem uE{s:Po.Se}(R:Po.en s):s.bj.Pairwise fun x y=>x.n<y.n:=by rw[List.pairwise_iff_getElem];intro i j hi a b;have h1:=(R.each i _ (gH hi)).2.2;have h2:=(R.each j _ (gH a)).2.2;rw[h1,h2];omega
theorem pM{s:Po.Se}(R:Po.en s){t:Po.Tr}(c:t∈s.bj):¬Po.noKind t.k∧¬Po.jq t.a t.s∧s.bD-s.bj.length<t.n∧t.n≤s.bD:=by obtain⟨i,hi,rfl⟩:=ss c;obtain⟨h1,h2,b⟩:=R.each i _ (gH hi);exact⟨h1,h2,by rw[b];omega,by rw[b];omega⟩
theorem Gy{s:Po.Se}(R:Po.en s){t:Po.Tr}(b:t∈s.bj){eJ:Int}(d:t.n=eJ+1):b8 (jY (eJ+1)) s.bj=b8 (jY eJ) s.bj-(if t.k≠3 then t.s else 0)∧b8 (ij (eJ +1)) s.bj=b8 (ij eJ) s.bj-(if t.k=3 then t.s else 0):=by
 constructor
 ·rw[CX (uE R) b (f:=jY (eJ +1)) (g:=jY eJ)]
  ·unfold jY;rw[ai (by omega)];by_cases a:t.k=3;·rw[ai (by omega),ai (by omega)];omega
   ·rw[aB (by omega),aB a];omega
  ·intro x _ c;unfold jY;by_cases h1:eJ<x.n∧x.k≠3;·rw[aB h1,aB (by omega)]
   ·rw[ai h1,ai (by omega)]
 ·rw[CX (uE R) b (f:=ij (eJ+1)) (g:=ij eJ)]
  ·unfold ij;rw[ai (by omega)];by_cases a:t.k=3;·rw[aB (by omega),aB a];omega
   ·rw[ai (by omega),ai a];omega
  ·intro x _ c;unfold ij;by_cases h1:eJ<x.n∧x.k=3;·rw[aB h1,aB (by omega)]
   ·rw[ai h1,ai (by omega)]
def rW(snd:Bool→Po.Se)(aX:Bool→Int):Int:=b8 (jY (aX true)) (snd false).bj+b8 (jY (aX false)) (snd true).bj
def mZ(snd:Bool→Po.Se)(aX:Bool→Int):Int:=b8 (ij (aX true)) (snd false).bj+b8 (ij (aX false)) (snd true).bj
theorem ru(b:aJ):Dt b=rW b.snd b.aX:=rfl
theorem pN(b:aJ):sN b=mZ b.snd b.aX:=rfl
theorem Ip{b:aJ}(S:xC b){i:Bool}{t:Po.Tr}(d:t∈(b.snd (!i)).bj)(e:t.n=b.aX i+1):rW b.snd (eu b.aX i (b.aX i+1))=rW b.snd b.aX-(if t.k≠3 then t.s else 0)∧mZ b.snd (eu b.aX i (b.aX i+1))=mZ b.snd b.aX-(if t.k=3 then t.s else 0):=by
 obtain⟨h1,h2⟩:=Gy (S.right (!i)) d e;unfold rW mZ
 cases i with
 |true=>simp only[AT]at h1 h2;have c:eu b.aX true (b.aX true+1) true=b.aX true+1:=rO _ _ _;have a:eu b.aX true (b.aX true+1) false=b.aX false:=qc b.aX true _;rw[c,a,h1,h2];omega
 |false=>simp only[vJ]at h1 h2;have c:eu b.aX false (b.aX false+1) false=b.aX false+1:=rO _ _ _;have a:eu b.aX false (b.aX false+1) true=b.aX true:=qc b.aX false _;rw[c,a,h1,h2];omega
theorem sw{b:aJ}(S:xC b){i:Bool}{t:Po.Tr}(a:t∈(b.snd (!i)).bj)(h:t.n=b.aX i+1){x:aJ}(h1:x.snd=b.snd)(h2:x.aX=eu b.aX i (b.aX i+1))(f:x.dY=(gone b i).dY)(g:x.ax=b.ax):xC x:=by
 have c:∀j,b.aX j≤x.aX j:=fun j=>by
  rw[h2];unfold eu;split;·rename_i e;subst e;omega
  ·exact nz _
 refine⟨fun j=>by rw[h1];exact S.right j,fun j=>Int.le_trans (S.i9 j) (c j),fun j=>?_,fun j=>?_,fun j t a=>?_,fun t a=>?_,fun t a=>?_,fun j p d=>?_,fun j=>?_⟩
 ·rw[h1,h2];unfold eu;split;·rename_i e;subst e;have :=(pM (S.right (!j)) a).2.2.2;omega
  ·exact S.j5 j
 ·rw[h1];exact Int.le_trans (S.keeps j) (c (!j))
 ·rw[h1]at a;rw[g];exact S.ax j t a
 ·rw[h1]at a;exact S.j1 t a
 ·rw[h1]at a;exact S.ka t a
 ·rw[f]at d;rw[h1];rcases S.ways j p (uh d)with⟨g1,g2|g2⟩|⟨g1,g2⟩;·exact Or.inl ⟨g1,Or.inl (Int.le_trans g2 (c j))⟩
  ·exact Or.inl ⟨g1,Or.inr g2⟩
  ·exact Or.inr ⟨g1,Int.le_trans g2 (c (!j))⟩
 ·rw[f];exact bE (uJ b i j) (S.jP j)
theorem DN{b:aJ}{i:Bool}{t:Po.Tr}(I:Inv b)(f:t∈(b.snd (!i)).bj)(o:t.n=b.aX i+1)(h:(comes b i t).2=0):Inv (comes b i t).1:=by
 obtain⟨H,S,B⟩:=I;obtain⟨g,w2⟩:=Ip S f o;obtain⟨-,l,-,-⟩:=pM (S.right (!i)) f;unfold Po.jq at l;have v:=S.ax (!i) t f;obtain⟨r1,r2,C,A⟩:=H.bz (k:=t.a) (by omega) v;have y:0≤(b.bz t.a).aK:=r1.2.2.2.2.1.1;have x:0≤(b.bz t.a).aQ:=r1.2.2.2.2.2.1.1;have c8:=H.eZ;have d8:=H.kF;unfold comes at h⊢;by_cases r:t.k=1
 ·rw[aB r]at h⊢;split at h;·rename_i h1;exact absurd h h1
  rename_i h1;rw[ai h1];have h1:(bW b.bM 1 (50+(b.bz t.a).aQ) t.s).2=0:=Decidable.not_not.1 h1;obtain⟨m1,m2⟩:=gB h1;rw[aB (by omega)]at g;rw[ai (by omega)]at w2;have j:(b.bz t.a).aQ.toNat<b.due.length:=by omega
  refine⟨⟨H.eZ,by simpa[gone]using H.kF,H.right,H.iv,by simpa[gone]using H.ax,H.held,H.bn,H.gE,by simpa[gone]using H.mS,H.lW,H.jR,H.kJ,H.bt⟩,sw S f o rfl rfl rfl rfl,⟨m1,?_,?_,?_,?_⟩⟩;·intro k d;replace d:k<b.aL.length:=d;show Bk.et (bW b.bM 1 (50+(b.bz t.a).aQ) t.s).1 (10+(k:Int))=(b.aL.getD k b7).m;rw[m2,B.nM k d,ai (by omega),ai (by omega)];omega
  ·intro k d;replace d:k<b.due.length:=by simpa[gone]using d
   show Bk.et (bW b.bM 1 (50 +(b.bz t.a).aQ) t.s).1 (50+(k:Int))=(b.due.set (b.bz t.a).aQ.toNat _).getD k 0;rw[m2,f' _ _ _ _ _ j,B.nQ k d,ai (show ¬(1 :Int)=50+(k :Int)by omega)];by_cases e:(b.bz t.a).aQ.toNat=k;·rw[aB e,aB (by omega)];subst e;unfold aJ.dG;omega
   ·rw[ai e,ai (by omega)];omega
  ·show Bk.et (bW b.bM 1 (50+(b.bz t.a).aQ) t.s).1 1=rW b.snd (eu b.aX i (b.aX i+1));rw[m2,B.o9,ru,g,aB rfl,ai (by omega)];omega
  ·show Bk.et (bW b.bM 1 (50 +(b.bz t.a).aQ) t.s).1 2=-iM b-mZ b.snd (eu b.aX i (b.aX i+1));rw[m2,B.oZ,pN,w2,ai (by omega),ai (by omega)];omega
 rw[ai r]at h⊢;by_cases p:t.k=2
 ·rw[aB p]at h⊢;split at h;·rename_i h1;exact absurd h h1
  rename_i h1;rw[ai h1];split at h;·rename_i h2;exact absurd h h2
  rename_i h2;rw[ai h2];have h1:(cF (b.aK (b.bz t.a).aK) 0 t.s).2=0:=Decidable.not_not.1 h1;have h2:(bW b.bM 1 (10+(b.bz t.a).aK) t.s).2=0:=Decidable.not_not.1 h2;obtain⟨m1,m2⟩:=gB h2;obtain⟨-,g2,z⟩:=mO h1;rw[aB (by omega)]at g;rw[ai (by omega)]at w2;have j:(b.bz t.a).aK.toNat<b.aL.length:=by omega
  refine⟨⟨by simpa[gone]using H.eZ,H.kF,?_,H.iv,by simpa[gone]using H.ax,?_,H.bn,by simpa[gone]using H.gE,H.mS,H.lW,H.jR,H.kJ,H.bt⟩,sw S f o rfl rfl rfl rfl,⟨m1,?_,?_,?_,?_⟩⟩
  ·intro c u;rcases mH u with rfl|u;·rw[g2];exact z
   ·exact H.right c u
  ·intro k d;replace d:k<b.aL.length:=by simpa[gone]using d
   show((b.aL.set (b.bz t.a).aK.toNat _).getD k b7).h=fg k b.ax;rw[f' _ _ _ _ _ j,g2];split;·rename_i e;subst e;show(b.aK (b.bz t.a).aK).h+0=_;rw[q9];exact H.held _ d
   ·exact H.held k d
  ·intro k d;replace d:k<b.aL.length:=by simpa[gone]using d
   show Bk.et (bW b.bM 1 (10 +(b.bz t.a).aK) t.s).1 (10+(k :Int))=((b.aL.set (b.bz t.a).aK.toNat _).getD k b7).m;rw[m2,f' _ _ _ _ _ j,g2,B.nM k d,ai (show ¬(1 :Int)=10+(k :Int)by omega)];by_cases e:(b.bz t.a).aK.toNat=k;·rw[aB e,aB (by omega)];subst e;unfold aJ.aK;dsimp only;omega
   ·rw[ai e,ai (by omega)];omega
  ·intro k d;replace d:k<b.due.length:=d;show Bk.et (bW b.bM 1 (10+(b.bz t.a).aK) t.s).1 (50 +(k :Int))=b.due.getD k 0;rw[m2,B.nQ k d,ai (by omega),ai (by omega)];omega
  ·show Bk.et (bW b.bM 1 (10+(b.bz t.a).aK) t.s).1 1=rW b.snd (eu b.aX i (b.aX i+1));rw[m2,B.o9,ru,g,aB rfl,ai (by omega)];omega
  ·show Bk.et (bW b.bM 1 (10 +(b.bz t.a).aK) t.s).1 2=-iM b-mZ b.snd (eu b.aX i (b.aX i+1));rw[m2,B.oZ,pN,w2,ai (by omega),ai (by omega)];omega
 rw[ai p]at h⊢
 have w:t.k=3:=by
  cases i with
  |true=>rcases S.j1 t f with q|q;exact absurd q r;exact q
  |false=>exact absurd (S.ka t f) p
 rw[aB w]at h⊢;split at h;·rename_i h1;exact absurd h h1
 rename_i h1;rw[ai h1];have h1:(bW b.bM (50 +(b.bz t.a).aQ) 2 t.s).2=0:=Decidable.not_not.1 h1;obtain⟨m1,m2⟩:=gB h1;rw[ai (by omega)]at g;rw[aB (by omega)]at w2;have j:(b.bz t.a).aQ.toNat<b.due.length:=by omega
 refine⟨⟨H.eZ,by simpa[gone]using H.kF,H.right,H.iv,by simpa[gone]using H.ax,H.held,H.bn,H.gE,by simpa[gone]using H.mS,H.lW,H.jR,H.kJ,H.bt⟩,sw S f o rfl rfl rfl rfl,⟨m1,?_,?_,?_,?_⟩⟩;·intro k d;replace d:k<b.aL.length:=d;show Bk.et (bW b.bM (50 +(b.bz t.a).aQ) 2 t.s).1 (10 +(k :Int))=(b.aL.getD k b7).m;rw[m2,B.nM k d,ai (by omega),ai (by omega)];omega
 ·intro k d;replace d:k<b.due.length:=by simpa[gone]using d
  show Bk.et (bW b.bM (50+(b.bz t.a).aQ) 2 t.s).1 (50+(k:Int))=(b.due.set (b.bz t.a).aQ.toNat _).getD k 0;rw[m2,f' _ _ _ _ _ j,B.nQ k d,ai (show¬(2 :Int)=50+(k:Int)by omega)];by_cases e:(b.bz t.a).aQ.toNat=k;·rw[aB e,aB (by omega)];subst e;unfold aJ.dG;omega
  ·rw[ai e,ai (by omega)];omega
 ·show Bk.et (bW b.bM (50 +(b.bz t.a).aQ) 2 t.s).1 1=rW b.snd (eu b.aX i (b.aX i+1));rw[m2,B.o9,ru,g,ai (by omega),ai (by omega)];omega
 ·show Bk.et (bW b.bM (50+(b.bz t.a).aQ) 2 t.s).1 2=-iM b-mZ b.snd (eu b.aX i (b.aX i+1));rw[m2,B.oZ,pN,w2,ai (by omega),aB rfl];omega
theorem uD{b:aJ}{d:Dd}{a:Bool}(I:Inv b)(h:(dB b d a).2=0):Inv (dB b d a).1:=by
 unfold dB at h⊢;by_cases h1:d.n<0∨1<d.n;·rw[aB h1]at h;cases h
 rw[ai h1]at h⊢;generalize eC d.n=i at*
 cases e:b.dY i with
 |nil=>rw[e]at h;cases h
 |cons p r=>
  rw[e]at h;dsimp only at h⊢
  cases a with
  |true=>rw[aB rfl];exact Am I i
  |false=>
   rw[ai (by simp)]at h⊢;have g:=I.bD.ways i p (by rw[e];exact bT);unfold i7 at h⊢;by_cases h2:0≤p.aX
   ·rw[aB h2]at h⊢;split at h;·rename_i c;exact absurd h c
    rename_i c;rw[ai c]
    have f:p.aX≤b.aX (!i):=by
     rcases g with⟨g1,-⟩|⟨-,g2⟩;·omega
     ·exact g2
    exact Gw I f (Decidable.not_not.1 c)
   ·rw[ai h2]at h⊢;by_cases c:p.t.n≠b.aX i+1∨1000000≤b.aX i;·rw[aB c];exact Am I i
    ·rw[ai c]at h⊢;have f:p.t.n=b.aX i+1:=by omega
     refine DN I ?_ f h;rcases g with⟨-,g1|g1⟩|⟨g1,-⟩;·omega
     ·exact g1
     ·omega
def i'(time:Int)(k:Nat)(a:Au.Au):Int:=if a.aK=(k :Int)then Au.bK (Au.ey a time)-Au.bK a else 0
theorem sQ(time:Int)(L:List Au.Au):∀cs:List Ca,(∀ a∈L,0≤a.aK∧a.aK<cs.length)→(L.foldl (jr time) cs).length=cs.length∧∀k,k<cs.length→(L.foldl (jr time) cs).getD k b7=⟨(cs.getD k b7).m,(cs.getD k b7).h+b8 (i' time k) L,(cs.getD k b7).p,(cs.getD k b7).u⟩:=by
 induction L with
 |nil=>intro cs _;exact⟨rfl,fun k _=>by simp[b8]⟩
 |cons a r c=>
  intro cs h;obtain⟨h1,h2⟩:=h a bT;have b:(jr time cs a).length=cs.length:=by simp[jr]
  obtain⟨f,d⟩:=c (jr time cs a) fun x g=>by rw[b];exact h x (cR _ g)
  refine⟨by rw[lN,f,b],fun k i=>?_⟩;rw[lN,d k (by rw[b];exact i)];unfold jr;rw[f' _ _ _ _ _ (by omega)];simp only[b8];by_cases e:a.aK.toNat=k;·rw[aB e];subst e;unfold i';rw[aB (by omega)];dsimp only;congr 1;omega
  ·rw[ai e];have :i' time k a=0:=by unfold i';rw[ai (by omega)]
   rw[this,Int.zero_add]
theorem xk(time:Int)(k:Nat)(L:List Au.Au):fg k (L.map fun a=>Au.ey a time)=fg k L+b8 (i' time k) L:=by
 unfold fg;rw[qe,←EX];refine ph fun a _=>?_;unfold heldBy i';show(if a.aK=(k :Int)then _ else _)=_;by_cases e:a.aK=(k :Int);·rw[aB e,aB e,aB e];omega
 ·rw[ai e,ai e,ai e];rfl
theorem zp{b:aJ}(I:Inv b):Inv (mQ b):=by
 obtain⟨H,S,B⟩:=I;obtain⟨l1,l2⟩:=sQ b.time b.ax b.aL fun a g=>⟨(H.ax a g).1.2.2.2.2.1.1,(H.ax a g).2.2.1⟩;have o:∀a∈b.ax.map (fun a=>Au.ey a b.time),Au.wj a∧Au.Fit a∧a.aK<b.aL.length∧a.aQ<b.due.length:=fun a g=>by obtain⟨x,p,rfl⟩:=List.mem_map.1 g;exact H.ax x p
 have e:∀k:Nat,k<b.aL.length→((b.ax.foldl (jr b.time) b.aL).getD k b7).h=fg k (b.ax.map fun a=>Au.ey a b.time):=fun k d=>by rw[l2 k d,xk];dsimp only;rw[H.held k d]
 have n:∀k:Nat,0≤fg k (b.ax.map fun a=>Au.ey a b.time)∧fg k (b.ax.map fun a=>Au.ey a b.time)≤30000000:=fun k=>by
  have h1:=jU (f:=heldBy k) (c:=1000000) (l:=b.ax.map fun a=>Au.ey a b.time) fun a g=>by have :=gF (o a g).1 (o a g).2.1;unfold heldBy;split<;>omega
  have:= H.iv;rw[jF]at h1;unfold fg;omega
 have j:b8 Au.Au.eB (b.ax.map fun a=>Au.ey a b.time)=b8 Au.Au.eB b.ax:=by rw[qe];rfl
 refine⟨⟨by show(b.ax.foldl (jr b.time) b.aL).length≤8;rw[l1];exact H.eZ,H.kF,?_,?_,?_,?_,H.bn,?_,H.mS,H.lW,H.jR,H.kJ,H.bt⟩,⟨S.right,S.i9,S.j5,S.keeps,?_,S.j1,S.ka,S.ways,S.jP⟩,⟨B.right,?_,B.nQ,B.o9,?_⟩⟩;·intro c r;obtain⟨k,d,rfl⟩:=zX b7 (show c∈b.ax.foldl (jr b.time) b.aL from r);rw[l1]at d;have R:=H.right _ (ev b7 d);have h1:=e k d;have h2:=n k;rw[←h1]at h2;rw[l2 k d]at h2⊢;dsimp only at h2;exact⟨R.m1,R.m2,h2.1,by dsimp only;omega,R.me,R.cP⟩
 ·show(b.ax.map fun a=>Au.ey a b.time).length+b.bn.bL.length≤30;rw[jF];exact H.iv
 ·intro a g;show _∧_∧a.aK<((b.ax.foldl (jr b.time) b.aL).length:Int)∧_;rw[l1];exact o a g
 ·intro k d;replace d:k<(b.ax.foldl (jr b.time) b.aL).length:=d;rw[l1]at d;exact e k d
 ·show b.bn.used.length=(b.ax.foldl (jr b.time) b.aL).length;rw[l1];exact H.gE
 ·intro i t q;show t.a<((b.ax.map fun a=>Au.ey a b.time).length:Int);rw[jF];exact S.ax i t q
 ·intro k d;replace d:k<(b.ax.foldl (jr b.time) b.aL).length:=d;rw[l1]at d;show Bk.et b.bM (10 +(k:Int))=((b.ax.foldl (jr b.time) b.aL).getD k b7).m;rw[l2 k d];exact B.nM k d
 ·show Bk.et b.bM 2=-b8 Au.Au.eB (b.ax.map fun a=>Au.ey a b.time)-sN b;rw[j];exact B.oZ
theorem Hz{b:aJ}{d:Dd}(I:Inv b)(h:(iU b d).2=0):Inv (iU b d).1:=by
 unfold iU at h⊢;split at h;·cases h
 rename_i h1;rw[ai h1]
 have c:Inv {b with time:=b.time+d.sum}:=by
  obtain⟨H,S,B⟩:=I;refine⟨⟨H.eZ,H.kF,H.right,H.iv,H.ax,H.held,H.bn,H.gE,fun x a=>⟨(H.mS x a).1,?_⟩,H.lW,?_,?_,H.bt⟩,⟨S.right,S.i9,S.j5,S.keeps,S.ax,S.j1,S.ka,S.ways,S.jP⟩,⟨B.right,B.nM,B.nQ,B.o9,B.oZ⟩⟩;·have:= (H.mS x a).2;show x.t≤b.time+d.sum;omega
  ·have:= H.jR;show 0≤b.time+d.sum;omega
  ·show b.time+d.sum≤1000000;omega
 split;·exact c
 ·exact zp c
def mj(k:Nat)(x:St.Ad):Int:=if x.c=(k :Int)then x.m else 0
theorem qD(L:List St.Ad):∀cs:List Ca,(∀x∈L,0≤x.c∧x.c<cs.length)→(L.foldl fT cs).length=cs.length∧∀k,k<cs.length→(L.foldl fT cs).getD k b7=⟨(cs.getD k b7).m,(cs.getD k b7).h+b8 (mj k) L,(cs.getD k b7).p,(cs.getD k b7).u⟩:=by
 induction L with
 |nil=>intro cs _;exact⟨rfl,fun k _=>by simp[b8]⟩
 |cons x r b=>
  intro cs h;obtain⟨h1,h2⟩:=h x bT;have a:(fT cs x).length=cs.length:=by simp[fT]
  obtain⟨f,d⟩:=b (fT cs x) fun y hy=>by rw[a];exact h y (cR _ hy)
  refine⟨by rw[lN,f,a],fun k g=>?_⟩;rw[lN,d k (by rw[a];exact g)];unfold fT;rw[f' _ _ _ _ _ (by omega)];simp only[b8];by_cases e:x.c.toNat=k;·rw[aB e];subst e;unfold mj;rw[aB (by omega)];dsimp only;congr 1;omega
  ·rw[ai e];have :mj k x=0:=by unfold mj;rw[ai (by omega)]
   rw[this,Int.zero_add]
theorem IP(k:Nat)(L:List St.Ad):fg k (L.map kE)=b8 (mj k) L:=by
 unfold fg;rw[qe];refine ph fun x _=>?_;unfold heldBy mj kE Au.bK;dsimp only;by_cases e:x.c=(k :Int);·rw[aB e,aB e];simp
 ·rw[ai e,ai e]
theorem vy(k:Nat)(a b:List Au.Au):fg k (a ++b)=fg k a+fg k b:=gO _ _ _
theorem CF{b:aJ}(I:Inv b)(_:b.down=true):Inv {b with aL:=b.bn.bL.foldl fT b.aL,ax:=b.ax++b.bn.bL.map kE,down:=false,bn:=⟨b.bn.cap,List.replicate b.aL.length 0,[]⟩}:=by
 obtain⟨H,S,B⟩:=I;have r:∀x∈b.bn.bL,St.Fits x b.bn.used.length:=H.bn.bL.each;obtain⟨l1,l2⟩:=qD b.bn.bL b.aL fun x j=>by have:= r x j;rw[H.gE]at this;exact⟨this.1,this.2.1⟩
 have d8:=H.kF;have c8:=H.eZ
 have q:∀a∈b.ax++b.bn.bL.map kE,Au.wj a∧Au.Fit a∧a.aK<b.aL.length∧a.aQ<b.due.length:=fun a g=>by
  rcases List.mem_append.1 g with g|g;·exact H.ax a g
  ·obtain⟨x,j,rfl⟩:=List.mem_map.1 g;have h1:=r x j;rw[H.gE]at h1;have h2:=(H.mS x j).1;unfold St.Fits at h1;unfold kE Au.wj Au.Fit;dsimp only;omega
 have n:(b.ax ++b.bn.bL.map kE).length≤30:=by have:= H.iv;simp;omega
 have e:∀k:Nat,k<b.aL.length→((b.bn.bL.foldl fT b.aL).getD k b7).h=fg k (b.ax++b.bn.bL.map kE):=fun k d=>by rw[l2 k d,vy,IP];dsimp only;rw[H.held k d]
 have p:∀k:Nat,0≤fg k (b.ax ++b.bn.bL.map kE)∧fg k (b.ax ++b.bn.bL.map kE)≤30000000:=fun k=>by
  have h1:=jU (f:=heldBy k) (c:=1000000) (l:=b.ax++b.bn.bL.map kE) fun a g=>by have :=gF (q a g).1 (q a g).2.1;unfold heldBy;split<;>omega
  unfold fg;omega
 have o:b8 Au.Au.eB (b.ax ++b.bn.bL.map kE)=b8 Au.Au.eB b.ax:=by rw[gO,qe,AZ (f:=fun x=>(kE x).eB) (fun _ _=>rfl)];omega
 refine⟨⟨by show(b.bn.bL.foldl fT b.aL).length≤8;rw[l1];exact H.eZ,H.kF,?_,?_,?_,?_,St.wI c8 H.bn.Lv,?_,(fun x j=>by cases j),(fun _=>rfl),H.jR,H.kJ,H.bt⟩,⟨S.right,S.i9,S.j5,S.keeps,?_,S.j1,S.ka,S.ways,S.jP⟩,⟨B.right,?_,B.nQ,B.o9,?_⟩⟩;·intro c u;obtain⟨k,d,rfl⟩:=zX b7 (show c∈b.bn.bL.foldl fT b.aL from u);rw[l1]at d;have R:=H.right _ (ev b7 d);have h1:=e k d;have h2:=p k;rw[←h1]at h2;rw[l2 k d]at h2⊢;dsimp only at h2;exact⟨R.m1,R.m2,h2.1,by dsimp only;omega,R.me,R.cP⟩
 ·show(b.ax ++b.bn.bL.map kE).length+([]:List St.Ad).length≤30;simpa using n
 ·intro a g;show _∧_∧a.aK<((b.bn.bL.foldl fT b.aL).length:Int)∧_;rw[l1];exact q a g
 ·intro k d;replace d:k<(b.bn.bL.foldl fT b.aL).length:=d;rw[l1]at d;exact e k d
 ·show(List.replicate b.aL.length (0 :Int)).length=(b.bn.bL.foldl fT b.aL).length;rw[l1];simp
 ·intro i t s;have :=S.ax i t s;show t.a<((b.ax++b.bn.bL.map kE).length:Int);simp;omega
 ·intro k d;replace d:k<(b.bn.bL.foldl fT b.aL).length:=d;rw[l1]at d;show Bk.et b.bM (10 +(k :Int))=((b.bn.bL.foldl fT b.aL).getD k b7).m;rw[l2 k d];exact B.nM k d
 ·show Bk.et b.bM 2=-b8 Au.Au.eB (b.ax ++b.bn.bL.map kE)-sN b;rw[o];exact B.oZ
theorem KV{b:aJ}(I:Inv b)(h:(xU b).2=0):Inv (xU b).1:=by
 unfold xU at h⊢;split at h;·rename_i h1;rw[aB h1];exact zp (CF I h1)
 ·cases h
theorem eight{k:Int}(h1:1≤k)(h2:k≤8):k=1∨k=2∨k=3∨k=4∨k=5∨k=6∨k=7∨k=8:=by omega
def wV(k n:Int):Int:=if k=6 then n else if k=7∨k=8 then-n else 0
theorem mz{a:Au.Au}{k n:Int}(h:Au.Ma a k n):Au.wj (Au.step a k n)∧Au.Fit (Au.step a k n)∧(Au.step a k n).aK=a.aK∧(Au.step a k n).aQ=a.aQ∧(Au.step a k n).eB=a.eB+wV k n:=by obtain⟨r,f,h1,h2,m,l,-,b⟩:=h;obtain⟨r1,r2,j,i,g,e,d,c⟩:=r;obtain⟨p,o⟩:=f;unfold Au.room at b;rcases eight h1 h2 with rfl|rfl|rfl|rfl|rfl|rfl|rfl|rfl;all_goals simp[Au.step,Au.wj,Au.Fit,wV]at b⊢;omega
def ig(a:Au.Au)(k n acc:Int):Int:=if k=2∨k=3 then(if 10+a.aK=acc then-n else 0)+(if 1=acc then n else 0)else if k=5 then(if 50+a.aQ=acc then-n else 0)+(if 1=acc then n else 0)else if k=6 then(if 2=acc then-n else 0)+(if 10+a.aK=acc then n else 0)else if k=8 then(if 10+a.aK=acc then-n else 0)+(if 2=acc then n else 0)else 0
theorem wU{l:List (Int ×Int)}{a:Au.Au}{k n:Int}(h0:(Bk.dS l).1=0)(h:(eK l a k n).2=0):(Bk.dS (eK l a k n).1).1=0∧∀acc,Bk.et (eK l a k n).1 acc=Bk.et l acc+ig a k n acc:=by
 unfold eK at h⊢;unfold ig;by_cases b:k=2∨k=3;·rw[aB b]at h⊢;obtain⟨m1,m2⟩:=gB h;exact⟨m1,fun acc=>by rw[m2,aB b];omega⟩
 rw[ai b]at h⊢;by_cases c:k=5;·rw[aB c]at h⊢;obtain⟨m1,m2⟩:=gB h;exact⟨m1,fun acc=>by rw[m2,ai b,aB c];omega⟩
 rw[ai c]at h⊢;by_cases d:k=6;·rw[aB d]at h⊢;obtain⟨m1,m2⟩:=gB h;exact⟨m1,fun acc=>by rw[m2,ai b,ai c,aB d];omega⟩
 rw[ai d]at h⊢;by_cases e:k=8;·rw[aB e]at h⊢;obtain⟨m1,m2⟩:=gB h;exact⟨m1,fun acc=>by rw[m2,ai b,ai c,ai d,aB e];omega⟩
 rw[ai e]at h⊢;exact⟨h0,fun acc=>by show Bk.et l acc=_;rw[ai b,ai c,ai d,ai e];omega⟩
theorem yQ{s:Po.Se}{t:Po.Tr}(h:(Po.fV s t).2=0):(Po.fV s t).1=Po.kj s t∧Po.en (Po.kj s t):=by
 by_cases h0:(Po.bX s).1=0
 ·by_cases h1:(Po.bX (Po.kj s t)).1=0;·rw[Po.yl h0 h1];exact⟨rfl,Po.mx.1 h1⟩
  ·rw[Po.uZ h0 h1]at h;exact absurd h h1
 ·rw[Po.tX h0]at h;exact absurd h h0
theorem uI{b:aJ}(S:xC b){i:Bool}{t:Po.Tr}(h:(Po.fV (b.snd i) t).2=0)(s:t.a<b.ax.length)(l:i=false→t.k=1∨t.k=3)(f:i=true→t.k=2){x:aJ}(h1:x.snd=eu b.snd i (Po.fV (b.snd i) t).1)(h2:x.aX=b.aX)(n:x.dY=b.dY)(u:x.ax.length=b.ax.length):xC x:=by
 obtain⟨q,o⟩:=yQ h;rw[q]at h1
 have r:∀j,(b.snd j).bD≤(x.snd j).bD:=fun j=>by
  rw[h1];unfold eu;split;·rename_i e;subst e;show _≤(b.snd j).bD+1;omega
  ·exact nz _
 have d:∀j,∀y∈(x.snd j).bj,y∈(b.snd j).bj∨(j =i∧y=Po.ju (b.snd i) t):=fun j y hy=>by
  rw[h1]at hy;unfold eu at hy;split at hy
  ·rename_i e;subst e;have hy:y∈(b.snd j).bj++[Po.ju (b.snd j) t]:=hy;rcases List.mem_append.1 hy with hy|hy;·exact Or.inl hy
   ·exact Or.inr ⟨rfl,List.mem_singleton.1 hy⟩
  ·exact Or.inl hy
 have c:∀j,∀y∈(b.snd j).bj,y∈(x.snd j).bj:=fun j y hy=>by
  rw[h1];unfold eu;split;·rename_i e;subst e;exact List.mem_append.2 (Or.inl hy)
  ·exact hy
 refine⟨fun j=>?_,fun j=>by rw[h2];exact S.i9 j,fun j=>by rw[h2];exact Int.le_trans (S.j5 j) (r (!j)),fun j=>?_,fun j y hy=>?_,fun y hy=>?_,fun y hy=>?_,fun j p m=>?_,fun j=>by rw[n];exact S.jP j⟩
 ·rw[h1];unfold eu;split;·exact o
  ·exact S.right j
 ·rw[h1,h2];unfold eu;split;·rename_i e;subst e;have:= S.keeps j;show(b.snd j).bD+1-(((b.snd j).bj++[Po.ju (b.snd j) t]).length:Int)≤_;simp;omega
  ·exact S.keeps j
 ·rw[u];rcases d j y hy with hy|⟨-,rfl⟩;·exact S.ax j y hy
  ·exact s
 ·rcases d false y hy with hy|⟨e,rfl⟩;·exact S.j1 y hy
  ·exact l e.symm
 ·rcases d true y hy with hy|⟨e,rfl⟩;·exact S.ka y hy
  ·exact f e.symm
 ·rw[n]at m;rw[h2];rcases S.ways j p m with⟨g1,g2|g2⟩|g;·exact Or.inl ⟨g1,Or.inl g2⟩
  ·exact Or.inl ⟨g1,Or.inr (c _ _ g2)⟩
  ·exact Or.inr g
theorem xW{b:aJ}(S:xC b){i:Bool}{t:Po.Tr}(h:(Po.fV (b.snd i) t).2=0):rW (eu b.snd i (Po.fV (b.snd i) t).1) b.aX=rW b.snd b.aX+(if t.k≠3 then t.s else 0)∧mZ (eu b.snd i (Po.fV (b.snd i) t).1) b.aX=mZ b.snd b.aX+(if t.k=3 then t.s else 0):=by
 obtain⟨l,-⟩:=yQ h;rw[l];have j:b.aX (!i)<(Po.ju (b.snd i) t).n:=by have :=S.j5 (!i);rw[mg]at this;show _<(b.snd i).bD+1;omega
 have g:(Po.ju (b.snd i) t).k=t.k:=rfl;have f:(Po.ju (b.snd i) t).s=t.s:=rfl
 have c:b8 (jY (b.aX (!i))) (Po.kj (b.snd i) t).bj=b8 (jY (b.aX (!i))) (b.snd i).bj+(if t.k≠3 then t.s else 0):=by
  show b8 _ ((b.snd i).bj++[Po.ju (b.snd i) t])=_;rw[gO,nK];unfold jY;rw[g,f];by_cases a:t.k=3;·rw[ai (by omega),ai (by omega)]
  ·rw[aB ⟨j,a⟩,aB a]
 have w2:b8 (ij (b.aX (!i))) (Po.kj (b.snd i) t).bj=b8 (ij (b.aX (!i))) (b.snd i).bj+(if t.k=3 then t.s else 0):=by
  show b8 _ ((b.snd i).bj++[Po.ju (b.snd i) t])=_;rw[gO,nK];unfold ij;rw[g,f];by_cases a:t.k=3;·rw[aB ⟨j,a⟩,aB a]
  ·rw[ai (by omega),ai a]
 unfold rW mZ
 cases i with
 |true=>simp only[AT]at c w2;have e:eu b.snd true (Po.kj (b.snd true) t) true=Po.kj (b.snd true) t:=rO _ _ _;have d:eu b.snd true (Po.kj (b.snd true) t) false=b.snd false:=qc b.snd true _;rw[e,d,c,w2];omega
 |false=>simp only[vJ]at c w2;have e:eu b.snd false (Po.kj (b.snd false) t) false=Po.kj (b.snd false) t:=rO _ _ _;have d:eu b.snd false (Po.kj (b.snd false) t) true=b.snd true:=qc b.snd false _;rw[e,d,c,w2];omega
def ud(k n:Int):Int:=if k=2∨k=3∨k=5 then n else 0
def sP(k n:Int):Int:=if k=7 then n else 0
theorem Fg{b:aJ}(S:xC b){k bz n:Int}(h:(dE b.snd k bz n).2=0)(f:bz<b.ax.length){x:aJ}(h1:x.snd=(dE b.snd k bz n).1)(h2:x.aX=b.aX)(c:x.dY=b.dY)(d:x.ax.length=b.ax.length):xC x∧rW (dE b.snd k bz n).1 b.aX=rW b.snd b.aX+ud k n∧mZ (dE b.snd k bz n).1 b.aX=mZ b.snd b.aX+sP k n:=by
 unfold dE at h h1⊢;unfold ud sP;by_cases j:k=2∨k=3
 ·rw[aB j]at h h1⊢;obtain⟨a,w2⟩:=xW S h;refine⟨uI S h f (fun _=>Or.inl rfl) (fun e=>by cases e) h1 h2 c d,?_,?_⟩;·rw[a,aB (by simp),aB (by omega)]
  ·rw[w2,ai (by simp),ai (by omega)]
 rw[ai j]at h h1⊢;by_cases i:k=5
 ·rw[aB i]at h h1⊢;obtain⟨a,w2⟩:=xW S h;refine⟨uI S h f (fun e=>by cases e) (fun _=>rfl) h1 h2 c d,?_,?_⟩;·rw[a,aB (by simp),aB (by omega)]
  ·rw[w2,ai (by simp),ai (by omega)]
 rw[ai i]at h h1⊢;by_cases g:k=7
 ·rw[aB g]at h h1⊢;obtain⟨a,w2⟩:=xW S h;refine⟨uI S h f (fun _=>Or.inr rfl) (fun e=>by cases e) h1 h2 c d,?_,?_⟩;·rw[a,ai (by simp),ai (by omega)]
  ·rw[w2,aB (by simp),aB (by omega)]
 rw[ai g]at h h1⊢;refine⟨?_,by show rW b.snd b.aX=_;rw[ai (by omega)];omega,by show mZ b.snd b.aX=_;rw[ai (by omega)];omega⟩;exact⟨by rw[h1];exact S.right,by rw[h2];exact S.i9,by rw[h1,h2];exact S.j5,by rw[h1,h2];exact S.keeps,by rw[h1,d];exact S.ax,by rw[h1];exact S.j1,by rw[h1];exact S.ka,by rw[h1,h2,c];exact S.ways,by rw[c];exact S.jP⟩
theorem Gs{b:aJ}{d:Dd}(I:Inv b)(h:(mD b d).2=0):Inv (mD b d).1:=by
 unfold mD at h⊢;split at h;·cases h
 rename_i Z;rw[ai Z];split at h;·cases h
 rename_i Y;rw[ai Y];split at h;·rename_i q;exact absurd h q
 rename_i o;rw[ai o];split at h;·cases h
 rename_i X;rw[ai X];split at h;·rename_i q;exact absurd h q
 rename_i F;rw[ai F];split at h;·rename_i q;exact absurd h q
 rename_i E;rw[ai E];split at h;·rename_i q;exact absurd h q
 rename_i D;rw[ai D];split at h;·cases h
 rename_i W;rw[ai W];replace o:=Au.iB.1 (Decidable.not_not.1 o);replace F:(gi b d).2=0:=Decidable.not_not.1 F;replace E:(eK b.bM (b.bz d.n) d.mv d.sum).2=0:=Decidable.not_not.1 E;replace D:(dE b.snd d.mv d.n d.sum).2=0:=Decidable.not_not.1 D;obtain⟨H,S,B⟩:=I;obtain⟨s1,s2,L,T,R⟩:=mz o;obtain⟨g1,g2,g3⟩:=mO F;obtain⟨m1,m2⟩:=wU B.right E;obtain⟨Q,P,w2⟩:=Fg (x:=iW b d) S D (by omega) rfl rfl rfl (by simp[iW]);have M:d.n.toNat<b.ax.length:=by omega
 obtain⟨r1,r2,V,U⟩:=H.bz (k:=d.n) (by omega) (by omega);have a2:0≤(b.bz d.n).aK:=r1.2.2.2.2.1.1;have a1:0≤(b.bz d.n).aQ:=r1.2.2.2.2.2.1.1;have c8:=H.eZ;have d8:=H.kF;have N:(b.bz d.n).aK.toNat<b.aL.length:=by omega
 have hs:(b.bz d.n).aQ.toNat<b.due.length:=by omega
 have w:=o.2.2.1;have v:=o.2.2.2.1;have n1:=o.2.2.2.2.1;have n2:=o.2.2.2.2.2.1;have t:(gi b d).1=⟨(b.aK (b.bz d.n).aK).m+fq d.mv d.sum,(b.aK (b.bz d.n).aK).h+(Au.bK (iT b d)-Au.bK (b.bz d.n)),(b.aK (b.bz d.n).aK).p,(b.aK (b.bz d.n).aK).u⟩:=g2;have A:iM (iW b d)=iM b+wV d.mv d.sum:=by show b8 Au.Au.eB (b.ax.set d.n.toNat (iT b d))=b8 Au.Au.eB b.ax+_;rw[sH _ _ _ _ zA M];have: (iT b d).eB=(b.ax.getD d.n.toNat zA).eB+wV d.mv d.sum:=R;rw[this];omega
 have g:(iW b d).aL.length=b.aL.length:=by simp[iW]
 have l:(iW b d).due.length=b.due.length:=by simp[iW]
 have J:(iW b d).ax.length=b.ax.length:=by simp[iW]
 refine⟨⟨by rw[g];exact c8,by rw[l];exact d8,?_,by rw[J];exact H.iv,?_,?_,H.bn,by rw[g];exact H.gE,by rw[l];exact H.mS,H.lW,H.jR,H.kJ,?_⟩,Q,⟨m1,?_,?_,?_,?_⟩⟩
 ·intro c G;rcases mH G with rfl|G;·rw[t];exact g3
  ·exact H.right c G
 ·intro a K;rw[g,l];rcases mH K with rfl|K
  ·refine⟨s1,s2,?_,?_⟩;·show(Au.step (b.bz d.n) d.mv d.sum).aK<_;rw[L];exact V
   ·show(Au.step (b.bz d.n) d.mv d.sum).aQ<_;rw[T];exact U
  ·exact H.ax a K
 ·intro k f;rw[g]at f;show((b.aL.set (b.bz d.n).aK.toNat (gi b d).1).getD k b7).h=b8 (heldBy k) (b.ax.set d.n.toNat (iT b d));rw[f' _ _ _ _ _ N,sH _ _ _ _ zA M,t];have h1:=H.held k f;unfold fg at h1;have h2:(iT b d).aK=(b.bz d.n).aK:=L;have O:(b.ax.getD d.n.toNat zA).aK=(b.bz d.n).aK:=rfl;have h4:Au.bK (b.ax.getD d.n.toNat zA)=Au.bK (b.bz d.n):=rfl;by_cases e:(b.bz d.n).aK.toNat=k
  ·rw[aB e];unfold heldBy at h1⊢;rw[h2,O,h4,aB (by omega),aB (by omega)];have C:(b.aK (b.bz d.n).aK).h=(b.aL.getD k b7).h:=by unfold aJ.aK;rw[e]
   dsimp only;rw[C,h1];omega
  ·rw[ai e,h1];unfold heldBy;rw[h2,O,ai (by omega),ai (by omega)];omega
 ·refine⟨?_,?_⟩;·show(b.bt ++[_]).length≤100;simp;omega
  ·intro r s;replace s:r∈b.bt++[_]:=s;rcases List.mem_append.1 s with s|s;·exact H.bt.each r s
   ·obtain rfl:=List.mem_singleton.1 s;have:= H.iv;unfold Dy.noKind Dy.jq;dsimp only;omega
 ·intro k f;rw[g]at f;show Bk.et (eK b.bM (b.bz d.n) d.mv d.sum).1 (10 +(k:Int))=((b.aL.set (b.bz d.n).aK.toNat (gi b d).1).getD k b7).m;rw[m2,f' _ _ _ _ _ N,B.nM k f,t];have C:(b.bz d.n).aK.toNat=k→(b.aK (b.bz d.n).aK).m=(b.aL.getD k b7).m:=fun e=>by unfold aJ.aK;rw[e]
  generalize d.mv=mv at*;by_cases e:(b.bz d.n).aK.toNat=k
  ·rw[aB e];dsimp only;rw[C e];have j:10+(b.bz d.n).aK=10+(k:Int):=by omega
   have i:¬50+(b.bz d.n).aQ=10+(k :Int):=by omega
   have z:¬(1 :Int)=10+(k :Int):=by omega
   have y:¬(2:Int)=10+(k :Int):=by omega
   unfold ig fq;rcases eight w v with rfl|rfl|rfl|rfl|rfl|rfl|rfl|rfl<;>simp[j,i,z,y]
  ·rw[ai e];have j:¬10+(b.bz d.n).aK=10+(k :Int):=by omega
   have i:¬50+(b.bz d.n).aQ=10+(k :Int):=by omega
   have z:¬(1:Int)=10+(k:Int):=by omega
   have y:¬(2 :Int)=10+(k :Int):=by omega
   unfold ig;rcases eight w v with rfl|rfl|rfl|rfl|rfl|rfl|rfl|rfl<;>simp[j,i,z,y]
 ·intro k f;rw[l]at f;show Bk.et (eK b.bM (b.bz d.n) d.mv d.sum).1 (50+(k :Int))=(b.due.set (b.bz d.n).aQ.toNat _).getD k 0;rw[m2,f' _ _ _ _ _ hs,B.nQ k f];have C:(b.bz d.n).aQ.toNat=k→b.dG (b.bz d.n).aQ=b.due.getD k 0:=fun e=>by unfold aJ.dG;rw[e]
  generalize d.mv=mv at*;have j:¬10+(b.bz d.n).aK=50+(k :Int):=by omega
  have z:¬(1 :Int)=50+(k:Int):=by omega
  have y:¬(2:Int)=50+(k:Int):=by omega
  by_cases e:(b.bz d.n).aQ.toNat=k
  ·rw[aB e,C e];have i:50+(b.bz d.n).aQ=50+(k:Int):=by omega
   unfold ig nk;rcases eight w v with rfl|rfl|rfl|rfl|rfl|rfl|rfl|rfl<;>simp[j,i,z,y]
  ·rw[ai e];have i:¬50+(b.bz d.n).aQ=50+(k :Int):=by omega
   unfold ig;rcases eight w v with rfl|rfl|rfl|rfl|rfl|rfl|rfl|rfl<;>simp[j,i,z,y]
 ·show Bk.et (eK b.bM (b.bz d.n) d.mv d.sum).1 1=rW (dE b.snd d.mv d.n d.sum).1 b.aX;rw[m2,B.o9,ru,P];generalize d.mv=mv at*;have j:¬10+(b.bz d.n).aK=1:=by omega
  have i:¬50+(b.bz d.n).aQ=1:=by omega
  unfold ig ud;rcases eight w v with rfl|rfl|rfl|rfl|rfl|rfl|rfl|rfl<;>simp[j,i]
 ·rw[A];show Bk.et (eK b.bM (b.bz d.n) d.mv d.sum).1 2=-(iM b+wV d.mv d.sum)-mZ (dE b.snd d.mv d.n d.sum).1 b.aX;rw[m2,B.oZ,pN,w2];generalize d.mv=mv at*;have j:¬10+(b.bz d.n).aK=2:=by omega
  have i:¬50+(b.bz d.n).aQ=2:=by omega
  unfold ig wV sP;rcases eight w v with rfl|rfl|rfl|rfl|rfl|rfl|rfl|rfl<;>simp[j,i]<;>omega
theorem La{b:aJ}{d:Dd}(I:Inv b):Inv (jA b d).1:=by
 by_cases h:(jA b d).2.1=0;case neg=>rw[lG b d h];exact I
 unfold jA at h⊢;split at h;·rename_i e;rw[aB e];exact IC I h
 rename_i e;rw[ai e];split at h;·rename_i e;rw[aB e];exact Js I h
 rename_i e;rw[ai e];split at h;·rename_i e;rw[aB e];exact Gs I h
 rename_i e;rw[ai e];split at h;·rename_i e;rw[aB e];exact Hz I h
 rename_i e;rw[ai e];split at h;·rename_i e;rw[aB e];exact G' I h
 rename_i e;rw[ai e];split at h;·rename_i e;rw[aB e];exact uD I h
 rename_i e;rw[ai e];split at h;·rename_i e;rw[aB e];exact uD I h
 rename_i e;rw[ai e];split at h;·rename_i e;rw[aB e];exact GI I h
 rename_i e;rw[ai e];split at h;·rename_i e;rw[aB e];exact KV I h
 rename_i e;rw[ai e];split at h;·rename_i e;rw[aB e];exact Jy I
 rename_i e;rw[ai e];split at h;·rename_i e;rw[aB e];exact JS I h
 rename_i e;rw[ai e];exact I
theorem xj{s:aJ×List (Dd×An)}(I:Inv s.1)(d:Dd):Inv (ie s d).1:=by
 unfold ie;split;·exact I
 ·exact La I
theorem EJ(l:List Dd):∀s:aJ×List (Dd ×An),Inv s.1→Inv (l.foldl ie s).1:=by
 induction l with
 |nil=>intro s h;exact h
 |cons d r a=>intro s h;exact a _ (xj h d)
theorem Jk{b:aJ}(I:Inv b)(l:List Dd):Inv (dQ b l).1:=EJ l (b,[]) I
def cO(a:List Pa)(b:Nat)(cap:Int):aJ:=
  { time:=0,down:=false,aL:=a.map (fun p=>⟨0,0,p,[]⟩),due:=List.replicate b 0,ax:=[],snd:=fun _=>⟨0,[]⟩,aX:=fun _=>0,dY:=fun _=>[]
    bn:=⟨cap,List.replicate a.length 0,[]⟩,bt:=[],days:=[],bM:=[]}
theorem FQ{d:List Pa}{b:Nat}{cap:Int}(h1:d.length≤8)(h2:b≤8)(r:St.vQ cap)(q:∀p∈d,cf p=0):Inv (cO d b cap):=by
 have g:∀k:Nat,k<d.length→((cO d b cap).aL.getD k b7).h=0∧((cO d b cap).aL.getD k b7).m=0:=fun k e=>by
  have :(cO d b cap).aL.getD k b7=⟨0,0,d[k],[]⟩:=by simp[cO,List.getD,e]
  rw[this];exact⟨rfl,rfl⟩
 refine⟨⟨by simpa[cO]using h1,by simpa[cO]using h2,?_,by simp[cO],(fun a o=>by cases o),?_,St.wI h1 r,by simp[cO],(fun x n=>by cases n),(fun _=>rfl),nz _,by simp[cO],xv⟩,⟨?_,fun _=>nz _,fun _=>nz _,fun _=>by simp[cO],(fun i t f=>by cases f),(fun t f=>by cases f),(fun t f=>by cases f),(fun i p l=>by cases l),fun _=>bq _⟩,⟨rfl,?_,?_,rfl,rfl⟩⟩;·intro c g;obtain⟨p,l,rfl⟩:=List.mem_map.1 g;exact⟨by dsimp only;omega,by dsimp only;omega,by dsimp only;omega,by dsimp only;omega,q p l,rfl⟩
 ·intro k e;exact(g k (by simpa[cO]using e)).1
 ·intro i;exact⟨by simp[cO],by simp[cO],by simp[cO],fun j t h=>by simp[cO]at h⟩
 ·intro k e;rw[(g k (by simpa[cO]using e)).2];rfl
 ·intro k e;have e:k<b:=by simpa[cO]using e
  show Bk.et [] _=(List.replicate b (0:Int)).getD k 0;rw[show(List.replicate b (0:Int)).getD k 0=0 by simp[List.getD,e]];rfl
theorem tx(id:Int)(L M:List (Dd ×An)):told id (L++M)=match told id L with|some a=>some a|none=>told id M:=by
 induction L with
 |nil=>rfl
 |cons x r b=>
  simp only[mU,told];split;·rfl
  ·exact b
theorem Ec(s:aJ×List (Dd×An))(d:Dd):(ie s d).2.map (·.1)=s.2.map (·.1)++[d]:=by unfold ie;split<;>simp
theorem xw(b:aJ)(l:List Dd):(dQ b l).2.map (·.1)=l:=by
 have key:∀(l:List Dd) (s:aJ×List (Dd×An)),(l.foldl ie s).2.map (·.1)=s.2.map (·.1)++l:=by
  intro l
  induction l with
  |nil=>intro s;simp
  |cons d r a=>intro s;rw[lN,a,Ec];simp
 exact key l (b,[])
def na(b x:aJ):Prop:=b.ax.length≤x.ax.length∧∀n:Nat,n<b.ax.length→(x.ax.getD n zA).aQ=(b.ax.getD n zA).aQ
theorem A_(b:aJ):na b b:=⟨aj _,fun _ _=>rfl⟩
theorem fx{b x:aJ}(h:x.ax=b.ax):na b x:=by unfold na;rw[h];exact⟨aj _,fun _ _=>rfl⟩
theorem na.trans{a b c:aJ}(h1:na a b)(h2:na b c):na a c:=⟨bE h1.1 h2.1,fun n d=>(h2.2 n (bp d h1.1)).trans (h1.2 n d)⟩
theorem rQ{b x:aJ}{l:List Au.Au}(h:x.ax=b.ax++l):na b x:=by unfold na;rw[h];refine⟨by simp,fun n a=>?_⟩;simp[List.getD,List.getElem?_append_left a]
theorem DQ(a:Au.Au)(k n:Int):(Au.step a k n).aQ=a.aQ:=by
 unfold Au.step;repeat' split
 all_goals rfl
theorem Er{b x:aJ}{i:Nat}{k n:Int}(hi:i<b.ax.length)(h:x.ax=b.ax.set i (Au.step (b.ax.getD i zA) k n)):na b x:=by
 unfold na;rw[h];refine⟨by simp,fun j a=>?_⟩;rw[f' _ _ _ _ _ hi];split;·rename_i e;subst e;exact DQ _ _ _
 ·rfl
theorem vg(b:aJ):na b (mQ b):=by refine⟨by simp[mQ],fun n c=>?_⟩;show((b.ax.map fun a=>Au.ey a b.time).getD n zA).aQ=_;simp[List.getD,c,Au.ey]
structure Quiet(b x:aJ):Prop where
 stays:na b x
 bt:x.bt=b.bt
 days:x.days=b.days
theorem cX(b:aJ):Quiet b b:=⟨A_ b,rfl,rfl⟩
theorem dD{b:aJ}{c:Prop}[Decidable c]{x y:aJ×Int}(h1:Quiet b x.1)(h2:Quiet b y.1):Quiet b (if c then x else y).1:=by
 split;·exact h1
 ·exact h2
theorem eN{b:aJ}{c:Prop}[Decidable c]{x y:aJ×Int×Int}(h1:Quiet b x.1)(h2:Quiet b y.1):Quiet b (if c then x else y).1:=by
 split;·exact h1
 ·exact h2
theorem Cr(b:aJ)(d:Dd):Quiet b (nZ b d).1:=dD (cX b) (dD (cX b) (dD (cX b) (dD (cX b) ⟨fx rfl,rfl,rfl⟩)))
theorem FW(b:aJ)(d:Dd):Quiet b (lq b d).1:=by unfold lq eA gI;exact eN (cX b) (eN (eN (cX b) (eN (cX b) ⟨fx rfl,rfl,rfl⟩)) (eN (cX b) (eN (cX b) (eN (cX b) ⟨rQ rfl,rfl,rfl⟩))))
theorem BG(b:aJ)(d:Dd):Quiet b (iU b d).1:=by unfold iU;refine dD (cX b) (dD ⟨fx rfl,rfl,rfl⟩ ⟨?_,rfl,rfl⟩);exact(fx (b:=b) (x:={b with time:=b.time+d.sum}) rfl).trans (vg _)
theorem Cn(b:aJ)(d:Dd):Quiet b (lX b d).1:=dD (cX b) (dD (cX b) ⟨fx rfl,rfl,rfl⟩)
theorem rT(b:aJ)(d:Dd)(a:Bool):Quiet b (dB b d a).1:=by
 unfold dB;refine dD (cX b) ?_;split;·exact cX b
 ·refine dD ⟨fx rfl,rfl,rfl⟩ ?_;unfold i7;refine dD (dD (cX b) ⟨fx rfl,rfl,rfl⟩) (dD ⟨fx rfl,rfl,rfl⟩ ?_);unfold comes;exact dD (dD (cX b) ⟨fx rfl,rfl,rfl⟩) (dD (dD (cX b) (dD (cX b) ⟨fx rfl,rfl,rfl⟩)) (dD (dD (cX b) ⟨fx rfl,rfl,rfl⟩) ⟨fx rfl,rfl,rfl⟩))
theorem BT(b:aJ):Quiet b (jv b).1:=dD (cX b) ⟨fx rfl,rfl,rfl⟩
theorem Gp(b:aJ):Quiet b (xU b).1:=by unfold xU;refine dD ⟨?_,rfl,rfl⟩ (cX b);exact(rQ (b:=b) (x:={b with aL:=b.bn.bL.foldl fT b.aL,ax:=b.ax++b.bn.bL.map kE,down:=false,bn:=⟨b.bn.cap,List.replicate b.aL.length 0,[]⟩}) rfl).trans (vg _)
theorem EZ(b:aJ)(d:Dd):Quiet b (sa b d).1:=dD (cX b) (dD (cX b) (dD (cX b) ⟨fx rfl,rfl,rfl⟩))
theorem Iw{b:aJ}{d:Dd}(c:d.kind≠3)(a:d.kind≠10):Quiet b (jA b d).1:=by unfold jA;refine eN (Cr b d) (eN (FW b d) ?_);rw[ai c];refine eN (BG b d) (eN (Cn b d) (eN (rT b d false) (eN (rT b d true) (eN (BT b) (eN (Gp b) ?_)))));rw[ai a];exact eN (EZ b d) (cX b)
theorem Jp{b:aJ}{d:Dd}(m:d.kind=3)(h:(jA b d).2.1=0):0≤d.n∧d.n<b.ax.length∧na b (jA b d).1∧(jA b d).1.bt=b.bt++[⟨(b.bz d.n).aQ,d.n,d.mv,d.sum⟩]∧(jA b d).1.days=b.days:=by
 have e:jA b d=two (mD b d):=by unfold jA;rw[ai (by omega),ai (by omega),aB m]
 rw[e]at h⊢;unfold two at h⊢;dsimp only at h⊢;unfold mD at h⊢;split at h;·cases h
 rename_i l;rw[ai l];split at h;·cases h
 rename_i k;rw[ai k];split at h;·rename_i q;exact absurd h q
 rename_i j;rw[ai j];split at h;·cases h
 rename_i i;rw[ai i];split at h;·rename_i q;exact absurd h q
 rename_i g;rw[ai g];split at h;·rename_i q;exact absurd h q
 rename_i f;rw[ai f];split at h;·rename_i q;exact absurd h q
 rename_i c;rw[ai c];split at h;·cases h
 rename_i a;rw[ai a];exact⟨by omega,by omega,Er (by omega) rfl,rfl,rfl⟩
theorem Lr{b:aJ}{d:Dd}(a:d.kind=10):jA b d=((yt b).1,0,0):=by unfold jA;rw[ai (by omega),ai (by omega),ai (by omega),ai (by omega),ai (by omega),ai (by omega),ai (by omega),ai (by omega),ai (by omega),aB a];rfl
structure Ds where
 qh:List Int
 bt:List Dy.Rc
 days:List (List Dy.Rc)
