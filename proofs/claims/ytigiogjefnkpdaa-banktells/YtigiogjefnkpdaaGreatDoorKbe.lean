import Derived.Test.YtigiogjefnkpdaaGreatDoorKbd
set_option maxHeartbeats 4000000
set_option maxRecDepth 100000
open Go.Proofs.Tryz
namespace Go.Proofs.YtigiogjefnkpdaaGreatDoor.Bn
def ft(K:Nat)(b:aJ):Prop:=∀acc:Int,acc≠0→-(1000000*(K:Int))≤Bk.et b.bM acc∧Bk.et b.bM acc≤1000000*(K :Int)
theorem ft.more{K:Nat}{b x:aJ}(h:ft K b)(c:∀acc:Int,acc≠0→-1000000≤Bk.et x.bM acc-Bk.et b.bM acc∧Bk.et x.bM acc-Bk.et b.bM acc≤1000000):ft (K +1) x:=fun acc a=>by have h1:=h acc a;have h2:=c acc a;rw[Int.natCast_add,Int.natCast_one,Int.mul_add];omega
theorem ft.same{K:Nat}{b x:aJ}(h:ft K b)(a:x.bM=b.bM):ft (K+1) x:=h.more fun acc _=>by rw[a];omega
theorem ft.mono{K L:Nat}{b:aJ}(h:ft K b)(c:K≤L):ft L b:=fun acc a=>by have:= h acc a;omega
theorem zS{l:List (Int×Int)}(h:Bk.en l)(i:Nat):Bk.mh Bk.gZ l i=Bk.et l i:=by rw[Bk.xQ (fun e a=>(h.all e a).1),Bk.oN h.Im];simp[Bk.gZ]
theorem BV{l:List (Int×Int)}{src dst n:Int}(b:(Bk.dS l).1=0)(k:0≤src∧src<58)(o:0≤dst∧dst<58)(d:src≠dst)(m:0≤n∧n≤1000000000000)(h1:-1000000000000≤Bk.et l src-n)(h2:Bk.et l dst+n≤1000000000000):(bW l src dst n).2=0:=by
 have R:=Bk.gP.1 b;have t1:=Bk.Ag R src;have t2:=Bk.Ag R dst;unfold bW;rw[ai (by omega)]
 have g:Bk.fL [(src,-n),(dst,n)]=0:=by
  rw[Bk.oq];refine⟨by simp,?_,by simp;omega⟩;intro e a;rcases List.mem_cons.1 a with rfl|a;·exact Bk.dI.2 (by dsimp only;omega)
  ·obtain rfl:=List.mem_singleton.1 a;exact Bk.dI.2 (by dsimp only;omega)
 have j:((src.toNat:Nat):Int)=src:=by omega
 have i:((dst.toNat:Nat):Int)=dst:=by omega
 have g1:=zS R src.toNat;have g2:=zS R dst.toNat;rw[j]at g1;rw[i]at g2
 have h:Bk.gG (Bk.mh Bk.gZ l) [(src,-n),(dst,n)]≠none:=by
  simp only[Bk.gG];rw[aB (Bk.jN.2 (by rw[g1];omega))];have: Bk.eu (Bk.mh Bk.gZ l) src.toNat (Bk.mh Bk.gZ l src.toNat+-n) dst.toNat=Bk.mh Bk.gZ l dst.toNat:=by unfold Bk.eu;rw[ai (by omega)]
  rw[this,aB (Bk.jN.2 (by rw[g2];omega))];simp
 cases c:Bk.gG (Bk.mh Bk.gZ l) [(src,-n),(dst,n)]with
 |none=>exact absurd c h
 |some f=>rw[Bk.qd b g c]
theorem om{l:List (Int ×Int)}{src dst n:Int}(h:(bW l src dst n).2=0)(c:0≤n∧n≤1000000)(b:src≠dst)(acc:Int):-1000000≤Bk.et (bW l src dst n).1 acc-Bk.et l acc∧Bk.et (bW l src dst n).1 acc-Bk.et l acc≤1000000:=by
 rw[(gB h).2 acc];by_cases a:src=acc;·rw[aB a,ai (by omega)];omega
 ·rw[ai a];split<;>omega
theorem Bs{K:Nat}{b:aJ}{d:Dd}(B:ft K b)(h:(nZ b d).2=0):ft (K +1) (nZ b d).1:=by
 unfold nZ at h⊢;split at h;·cases h
 rename_i h1;rw[ai h1];split at h;·cases h
 rename_i h2;rw[ai h2];split at h;·rename_i c;exact absurd h c
 rename_i c;rw[ai c];split at h;·rename_i a;exact absurd h a
 rename_i a;rw[ai a];exact B.more fun acc _=>om (Decidable.not_not.1 a) (by omega) (by omega) acc
theorem yG{a:Au.Au}{k n acc:Int}(h:0≤n∧n≤1000000)(b:0≤a.aK∧0≤a.aQ):-1000000≤ig a k n acc∧ig a k n acc≤1000000:=by
 unfold ig;repeat' split
 all_goals omega
theorem CC{K:Nat}{b:aJ}{d:Dd}(I:Inv b)(B:ft K b)(h:(mD b d).2=0):ft (K +1) (mD b d).1:=by
 unfold mD at h⊢;split at h;·cases h
 rename_i m;rw[ai m];split at h;·cases h
 rename_i l;rw[ai l];split at h;·rename_i q;exact absurd h q
 rename_i c;rw[ai c];split at h;·cases h
 rename_i j;rw[ai j];split at h;·rename_i q;exact absurd h q
 rename_i i;rw[ai i];split at h;·rename_i q;exact absurd h q
 rename_i e;rw[ai e];split at h;·rename_i q;exact absurd h q
 rename_i g;rw[ai g];split at h;·cases h
 rename_i f;rw[ai f];replace c:=Au.iB.1 (Decidable.not_not.1 c);obtain⟨-,m2⟩:=wU I.zj.right (Decidable.not_not.1 e);obtain⟨r1,-⟩:=I.held.bz (k:=d.n) (by omega) (by omega);refine B.more fun acc _=>?_;show _≤Bk.et (eK b.bM (b.bz d.n) d.mv d.sum).1 acc-_∧Bk.et (eK b.bM (b.bz d.n) d.mv d.sum).1 acc-_≤_;rw[m2 acc];have :=yG (a:=b.bz d.n) (k:=d.mv) (n:=d.sum) (acc:=acc) ⟨by have:= c.2.2.2.2.1;omega,c.2.2.2.2.2.1⟩ ⟨r1.2.2.2.2.1.1,r1.2.2.2.2.2.1.1⟩;omega
theorem EM{K:Nat}{b:aJ}{d:Dd}(I:Inv b)(B:ft K b)(h:(sa b d).2=0):ft (K +1) (sa b d).1:=by
 unfold sa at h⊢;split at h;·cases h
 rename_i h1;rw[ai h1];split at h;·cases h
 rename_i h2;rw[ai h2];split at h;·rename_i c;exact absurd h c
 rename_i c;rw[ai c];obtain⟨-,m2⟩:=gB (Decidable.not_not.1 c);have f:=I.zj.nQ d.n.toNat (by omega);rw[show((d.n.toNat :Nat):Int)=d.n by omega]at f;refine(show ft K _ from fun acc a=>?_).mono (fs K);show _≤Bk.et (bW b.bM (50 +d.n) 0 (b.dG d.n)).1 acc∧Bk.et (bW b.bM (50+d.n) 0 (b.dG d.n)).1 acc≤_;rw[m2 acc,ai (show ¬(0 :Int)=acc by omega)];have g:=B acc a;by_cases e:50+d.n=acc;·rw[aB e,←e,f];unfold aJ.dG;omega
 ·rw[ai e];omega
theorem Ai{K:Nat}{b:aJ}{i:Bool}{t:Po.Tr}(I:Inv b)(B:ft K b)(l:t∈(b.snd (!i)).bj)(h:(comes b i t).2=0):ft (K+1) (comes b i t).1:=by
 obtain⟨-,c,-,-⟩:=pM (I.bD.right (!i)) l;unfold Po.jq at c;have j:=I.bD.ax (!i) t l;obtain⟨r1,-⟩:=I.held.bz (k:=t.a) (by omega) j;have n:0≤(b.bz t.a).aK:=r1.2.2.2.2.1.1;have m:0≤(b.bz t.a).aQ:=r1.2.2.2.2.2.1.1;unfold comes at h⊢;split at h
 ·rename_i g;rw[aB g];split at h;·rename_i q;exact absurd h q
  rename_i q;rw[ai q];exact B.more fun acc _=>om (Decidable.not_not.1 q) (by omega) (by omega) acc
 rename_i g;rw[ai g];split at h
 ·rename_i f;rw[aB f];split at h;·rename_i q;exact absurd h q
  rename_i q;rw[ai q];split at h;·rename_i d;exact absurd h d
  rename_i d;rw[ai d];exact B.more fun acc _=>om (Decidable.not_not.1 d) (by omega) (by omega) acc
 rename_i f;rw[ai f];split at h
 ·rename_i e;rw[aB e];split at h;·rename_i q;exact absurd h q
  rename_i q;rw[ai q];exact B.more fun acc _=>om (Decidable.not_not.1 q) (by omega) (by omega) acc
 ·rename_i e;rw[ai e];exact B.same rfl
theorem rE{K:Nat}{b:aJ}{d:Dd}{a:Bool}(I:Inv b)(B:ft K b)(h:(dB b d a).2=0):ft (K +1) (dB b d a).1:=by
 unfold dB at h⊢;by_cases h1:d.n<0∨1<d.n;·rw[aB h1]at h;cases h
 rw[ai h1]at h⊢;generalize eC d.n=i at*
 cases e:b.dY i with
 |nil=>rw[e]at h;cases h
 |cons p r=>
  rw[e]at h;dsimp only at h⊢
  cases a with
  |true=>rw[aB rfl];exact B.same rfl
  |false=>
   rw[ai (by simp)]at h⊢;have f:=I.bD.ways i p (by rw[e];exact bT);unfold i7 at h⊢;by_cases h2:0≤p.aX
   ·rw[aB h2]at h⊢;split at h;·rename_i c;exact absurd h c
    rename_i c;rw[ai c];exact B.same rfl
   ·rw[ai h2]at h⊢;by_cases c:p.t.n≠b.aX i+1∨1000000≤b.aX i;·rw[aB c];exact B.same rfl
    ·rw[ai c]at h⊢;refine Ai I B ?_ h;rcases f with⟨-,g1|g1⟩|⟨g1,-⟩;·omega
     ·exact g1
     ·omega
theorem It{K:Nat}{b:aJ}{d:Dd}(I:Inv b)(B:ft K b):ft (K+1) (jA b d).1:=by
 by_cases h:(jA b d).2.1=0;case neg=>rw[lG b d h];exact B.mono (fs K)
 unfold jA at h⊢;split at h;·rename_i e;rw[aB e];exact Bs B h
 rename_i e;rw[ai e];split at h
 ·rename_i e;rw[aB e];unfold lq eA gI;repeat' split
  all_goals exact B.same rfl
 rename_i e;rw[ai e];split at h;·rename_i e;rw[aB e];exact CC I B h
 rename_i e;rw[ai e];split at h
 ·rename_i e;rw[aB e];unfold two iU;repeat' split
  all_goals exact B.same rfl
 rename_i e;rw[ai e];split at h
 ·rename_i e;rw[aB e];unfold two lX;repeat' split
  all_goals exact B.same rfl
 rename_i e;rw[ai e];split at h;·rename_i e;rw[aB e];exact rE I B h
 rename_i e;rw[ai e];split at h;·rename_i e;rw[aB e];exact rE I B h
 rename_i e;rw[ai e];split at h
 ·rename_i e;rw[aB e];unfold two jv;repeat' split
  all_goals exact B.same rfl
 rename_i e;rw[ai e];split at h
 ·rename_i e;rw[aB e];unfold two xU;repeat' split
  all_goals exact B.same rfl
 rename_i e;rw[ai e];split at h;·rename_i e;rw[aB e];exact B.same rfl
 rename_i e;rw[ai e];split at h;·rename_i e;rw[aB e];exact EM I B h
 rename_i e;rw[ai e];exact B.same rfl
theorem BX{b:aJ}(I:Inv b)(B:ft 0 b)(l:List Dd):ft l.length (dQ b l).1:=by
 have key:∀(l:List Dd) (K:Nat) (s:aJ×List (Dd×An)),Inv s.1→ft K s.1→ft (K+l.length) (l.foldl ie s).1:=by
  intro l
  induction l with
  |nil=>intro K s _ h;exact h
  |cons d r e=>
   intro K s a c;have:= e (K+1) (ie s d) (xj a d) (by
    unfold ie;split;·exact c.mono (fs K)
    ·exact It a c);rw[lN,di];rwa[show K+(r.length +1)=K+1+r.length by omega]
 have :=key l 0 (b,[]) I B;rwa[dW]at this
def nY(x y:Int):Int:=if x≠0 then x else y
theorem dq(y:Int):nY 0 y=y:=rfl
theorem kn{x y:Int}(h:x≠0):nY x y=x:=aB h
theorem IS(x:Int):nY x 0=x:=by unfold nY;split<;>omega
def kx(x:aJ×Int)(f:aJ→aJ×Int):aJ×Int:=((f x.1).1,nY x.2 (f x.1).2)
def cN(b:aJ)(n held rp:Int):aJ×Int:=if(cF (b.aK n) held rp).2≠0 then(b,(cF (b.aK n) held rp).2)else({ b with aL:=b.aL.set n.toNat (cF (b.aK n) held rp).1},0)
def b9(b:aJ)(src dst sum:Int):aJ×Int:=if(bW b.bM src dst sum).2≠0 then(b,(bW b.bM src dst sum).2)else({b with bM:=(bW b.bM src dst sum).1},0)
def fM(b:aJ)(i:Bool)(t:Po.Tr):aJ×Int:=if(Po.fV (b.snd i) t).2≠0 then(b,(Po.fV (b.snd i) t).2)else({ b with snd:=eu b.snd i (Po.fV (b.snd i) t).1},0)
def eU(b:aJ)(n src sum:Int):aJ×Int:=kx (cN b n 0 sum) fun x=>b9 x src (10+n) sum
def df(b:aJ)(n dst sum:Int):aJ×Int:=kx (cN b n 0 (-sum)) fun x=>b9 x (10 +n) dst sum
def ky(b:aJ)(n a:Int):aJ:={b with due:=b.due.set n.toNat (b.dG n+a)}
def jV(b:aJ)(n src sum:Int):aJ×Int:=b9 (ky b n sum) src (50 +n) sum
def dH(b:aJ)(n dst sum:Int):aJ×Int:=b9 (ky b n (-sum)) (50+n) dst sum
def lV(b:aJ)(r:Dy.Rc):aJ×Int:=if 100≤b.bt.length then(b,5)else({ b with bt:=b.bt++[r]},0)
def dL(b:aJ)(n:Int)(a:Au.Au):aJ×Int:=cN {b with ax:=b.ax.set n.toNat a} a.aK (Au.bK a-Au.bK (b.bz n)) 0
def eM(b:aJ)(a:Au.Au)(d:Dd):aJ×Int:=if d.mv=2∨d.mv=3 then kx (df b a.aK 1 d.sum) fun x=>fM x false ⟨0,1,d.n,d.sum⟩else if d.mv=5 then kx (dH b a.aQ 1 d.sum) fun x=>fM x true ⟨0,2,d.n,d.sum⟩else if d.mv=6 then eU b a.aK 2 d.sum
 else if d.mv=7 then fM b false ⟨0,3,d.n,d.sum⟩else if d.mv=8 then df b a.aK 2 d.sum
 else(b,0)
def KU(b:aJ)(d:Dd)(a:Au.Au):aJ×Int:=kx (dL b d.n a) fun x=>kx (eM x a d) fun y=>lV y ⟨a.aQ,d.n,d.mv,d.sum⟩
theorem yP{c:Ca}{h m:Int}(R:jM c)(h1:¬jq h m)(h2:¬off (c.m +m) (c.h+h)):cF c h m=(⟨c.m+m,c.h+h,c.p,c.u⟩,0):=pY (fE.2 R) h1 h2
theorem Hc{c:Ca}{h m:Int}(R:jM c)(h2:¬off (c.m+m) (c.h +h)):jM ⟨c.m+m,c.h+h,c.p,c.u⟩:=fE.1 ((tD (fE.2 R)).2 h2)
theorem zr{α:Type}(l:List α)(i:Nat)(d x:α)(h:x=l.getD i d):l.set i x=l:=by
 subst h;by_cases hi:i<l.length
 ·apply List.ext_getElem?;intro j;rw[List.getElem?_set];by_cases e:i=j;·subst e;simp[hi,List.getD]
  ·simp[e]
 ·exact List.set_eq_of_length_le (by omega)
theorem te{b:aJ}{n h m:Int}(R:jM (b.aK n))(h1:¬jq h m)(h2:¬off ((b.aK n).m+m) ((b.aK n).h+h)):cN b n h m=({ b with aL:=b.aL.set n.toNat ⟨(b.aK n).m+m,(b.aK n).h+h,(b.aK n).p,(b.aK n).u⟩},0):=by unfold cN;rw[yP R h1 h2];simp
theorem gx{b:aJ}{src dst sum:Int}(h:(bW b.bM src dst sum).2=0):b9 b src dst sum=({ b with bM:=(bW b.bM src dst sum).1},0):=by unfold b9;rw[ai (by simpa using h)]
theorem Hj(b:aJ)(cs:List Ca)(n:Int)(c:Ca)(h:n.toNat<cs.length):({ b with aL:=cs.set n.toNat c}:aJ).aK n=c:=by unfold aJ.aK;dsimp only;rw[f' _ _ _ _ _ h,aB rfl]
structure KN(b:aJ)(d:Dd):Prop where
 may:Au.Ma (b.bz d.n) d.mv d.sum
 n0:0≤d.n
 n1:d.n.toNat<b.ax.length
 c0:0≤(b.bz d.n).aK
 c1:(b.bz d.n).aK.toNat<b.aL.length
 c8:(b.bz d.n).aK<8
 s0:0≤(b.bz d.n).aQ
 s1:(b.bz d.n).aQ.toNat<b.due.length
 s8:(b.bz d.n).aQ<8
 right:jM (b.aK (b.bz d.n).aK)m1:-400000000≤(b.aK (b.bz d.n).aK).m
 m2:(b.aK (b.bz d.n).aK).m≤400000000
 h0:0≤(b.aK (b.bz d.n).aK).h+(Au.bK (iT b d)-Au.bK (b.bz d.n))h1:(b.aK (b.bz d.n).aK).h+(Au.bK (iT b d)-Au.bK (b.bz d.n))≤31000000
 g1:-1000000≤Au.bK (iT b d)-Au.bK (b.bz d.n)g2:Au.bK (iT b d)-Au.bK (b.bz d.n)≤1000000
 aK:(iT b d).aK=(b.bz d.n).aK
 aQ:(iT b d).aQ=(b.bz d.n).aQ
theorem J0{K:Nat}{b:aJ}{d:Dd}(I:Inv b)(B:ft K b)(L:K≤400)(D:¬(d.n <0∨(b.ax.length :Int)≤d.n))(w:Au.ez (b.bz d.n) d.mv d.sum=0):KN b d:=by
 have may:=Au.iB.1 w;obtain⟨H,S,Bo⟩:=I;have p:d.n.toNat<b.ax.length:=by omega
 obtain⟨r1,r2,C,A⟩:=H.bz (k:=d.n) (by omega) (by omega);have g:0≤(b.bz d.n).aK:=r1.2.2.2.2.1.1;have o:0≤(b.bz d.n).aQ:=r1.2.2.2.2.2.1.1;have r:(b.bz d.n).aK<8:=r1.2.2.2.2.1.2;have j:(b.bz d.n).aQ<8:=r1.2.2.2.2.2.1.2;obtain⟨t1,t2,v,u,-⟩:=mz may;have F:=gF r1 r2;have E:0≤Au.bK (iT b d)∧Au.bK (iT b d)≤1000000:=gF t1 t2;have q:(b.bz d.n).aK.toNat<b.aL.length:=by omega
 have x:=Bo.nM (b.bz d.n).aK.toNat q;have z:=B (10 +(((b.bz d.n).aK.toNat:Nat):Int)) (by omega);rw[x]at z;have t:=H.held (b.bz d.n).aK.toNat q;have G:=H.small (b.bz d.n).aK.toNat;have s:b.bz d.n∈b.ax:=ev _ p
 have y:Au.bK (b.bz d.n)≤fg (b.bz d.n).aK.toNat b.ax:=by
  have e:=sH (heldBy (b.bz d.n).aK.toNat) b.ax d.n.toNat zA zA p;have h0:heldBy (b.bz d.n).aK.toNat (b.ax.getD d.n.toNat zA)=Au.bK (b.bz d.n):=by show heldBy _ (b.bz d.n)=_;unfold heldBy;rw[aB (by omega)]
  have h1:heldBy (b.bz d.n).aK.toNat zA=0:=by unfold heldBy zA Au.fO Au.bK;split<;>simp
  have h2:=jU (f:=heldBy (b.bz d.n).aK.toNat) (c:=1000000) (l:=b.ax.set d.n.toNat zA) fun a i=>by
   rcases mH i with rfl|i;·unfold heldBy zA Au.fO Au.bK;split<;>simp
   ·have :=gF (H.ax a i).1 (H.ax a i).2.1;unfold heldBy;split<;>omega
  rw[h0,h1]at e;unfold fg;omega
 have J:(1000000 :Int)*(K :Int)≤400000000:=by omega
 refine⟨may,by omega,p,g,q,r,o,by omega,j,H.aK g (by omega),?_,?_,?_,?_,by omega,by omega,v,u⟩;·show-400000000≤(b.aL.getD _ b7).m;omega
 ·show(b.aL.getD _ b7).m≤400000000;omega
 ·show 0≤(b.aL.getD _ b7).h+_;rw[t];omega
 ·show(b.aL.getD _ b7).h+_≤31000000;rw[t];omega
theorem Ea{b:aJ}{d:Dd}(N:KN b d):dL b d.n (iT b d)=({ b with ax:=b.ax.set d.n.toNat (iT b d),aL:=b.aL.set (b.bz d.n).aK.toNat ⟨(b.aK (b.bz d.n).aK).m,(b.aK (b.bz d.n).aK).h+(Au.bK (iT b d)-Au.bK (b.bz d.n)),(b.aK (b.bz d.n).aK).p,(b.aK (b.bz d.n).aK).u⟩},0):=by
 unfold dL;have h0:=N.h0;have h1:=N.h1;have g1:=N.g1;have g2:=N.g2;have m1:=N.m1;have m2:=N.m2;have e:({ b with ax:=b.ax.set d.n.toNat (iT b d)}:aJ).aK (iT b d).aK=b.aK (b.bz d.n).aK:=by rw[N.aK];rfl
 rw[te (by rw[e];exact N.right) (by unfold jq;omega) (by rw[e];unfold off;omega),e,N.aK,q9]
theorem Fi{K:Nat}{b:aJ}{src dst n:Int}(Bo:Kt b)(B:ft K b)(f:K≤400)(c:1≤src∧src<58)(e:1≤dst∧dst<58)(a:src≠dst)(d:0≤n∧n≤1000000):(bW b.bM src dst n).2=0:=by have h1:=B src (by omega);have h2:=B dst (by omega);exact BV Bo.right (by omega) (by omega) a (by omega) (by omega) (by omega)
theorem pJ{b x:aJ}{i:Bool}{t:Po.Tr}(h:x.snd=b.snd):(fM x i t).2=(Po.fV (b.snd i) t).2:=by
 unfold fM;rw[h];split;·rfl
 ·rename_i q;exact(Decidable.not_not.1 q).symm
theorem nV{x:aJ}{i:Bool}{t:Po.Tr}(h:(Po.fV (x.snd i) t).2=0):fM x i t=({ x with snd:=eu x.snd i (Po.fV (x.snd i) t).1},0):=by unfold fM;rw[ai (by simpa using h)]
theorem pV{x:aJ}{i:Bool}{t:Po.Tr}:(fM x i t).1.bt=x.bt:=by unfold fM;split<;>rfl
theorem Jb{b x:aJ}{e:Int}{r:Dy.Rc}{P:aJ×Int}(h2:P.2=e)(d:P.1.bt=b.bt):(kx P fun y=>lV y r).2=(if e≠0 then e else if 100≤b.bt.length then 5 else 0)∧(e =0→¬100≤b.bt.length→P.1=x→(kx P fun y=>lV y r).1={x with bt:=b.bt++[r]}):=by
 unfold kx lV;dsimp only;rw[h2,d];constructor
 ·unfold nY;split;·rfl
  ·split<;>rfl
 ·intro _ c a;rw[ai c];dsimp only;rw[a]
theorem rZ{x:aJ×Int}{f:aJ→aJ×Int}(h:x.2=0):kx x f=f x.1:=by unfold kx;rw[h,dq]
theorem pP(y:aJ)(f:aJ→aJ×Int):kx (y,0) f=f y:=rfl
theorem go_in{K:Nat}{b:aJ}{d:Dd}(I:Inv b)(B:ft K b)(hK:K≤400)(N:KN b d):(gi b d).2=0∧(eK b.bM (b.bz d.n) d.mv d.sum).2=0∧(KU b d (iT b d)).2=(if(dE b.snd d.mv d.n d.sum).2≠0 then(dE b.snd d.mv d.n d.sum).2 else if 100≤b.bt.length then 5 else 0)∧((dE b.snd d.mv d.n d.sum).2=0→¬100≤b.bt.length→(KU b d (iT b d)).1=iW b d):=by
  have R:=N.right;have may:=N.may;have n1:=may.2.2.2.2.1;have n2:=may.2.2.2.2.2.1;have h0:=N.h0;have h1:=N.h1;have g1:=N.g1;have g2:=N.g2;have m1:=N.m1;have m2:=N.m2;have c0:=N.c0;have c8:=N.c8;have s0:=N.s0;have s8:=N.s8;have a2:∀x:Int,-1000000≤x→x≤1000000→cF (b.aK (b.bz d.n).aK) (Au.bK (iT b d)-Au.bK (b.bz d.n)) x=(⟨(b.aK (b.bz d.n).aK).m+x,(b.aK (b.bz d.n).aK).h+(Au.bK (iT b d)-Au.bK (b.bz d.n)),(b.aK (b.bz d.n).aK).p,(b.aK (b.bz d.n).aK).u⟩,0):=fun x h2 h3=>
    yP R (by unfold jq;omega) (by unfold off;omega)
  have J : -1000000 ≤ fq d.mv d.sum ∧ fq d.mv d.sum ≤ 1000000 := by unfold fq;repeat' split
                                                                    all_goals omega
  have H:gi b d=(⟨(b.aK (b.bz d.n).aK).m+fq d.mv d.sum,(b.aK (b.bz d.n).aK).h+(Au.bK (iT b d)-Au.bK (b.bz d.n)),(b.aK (b.bz d.n).aK).p,(b.aK (b.bz d.n).aK).u⟩,0):=a2 _ J.1 J.2;have f:∀src dst:Int,1≤src→src<58→1≤dst→dst<58→src≠dst→(bW b.bM src dst d.sum).2=0:=fun src dst p1 Z Y X W=>Fi I.zj B hK ⟨p1,Z⟩ ⟨Y,X⟩ W (by omega)
  have a3:(eK b.bM (b.bz d.n) d.mv d.sum).2=0:=by
    unfold eK;repeat' split
    ·exact f _ _ (by omega) (by omega) (by omega) (by omega) (by omega)
    ·exact f _ _ (by omega) (by omega) (by omega) (by omega) (by omega)
    ·exact f _ _ (by omega) (by omega) (by omega) (by omega) (by omega)
    ·exact f _ _ (by omega) (by omega) (by omega) (by omega) (by omega)
    ·rfl
  refine⟨by rw[H],a3,?_⟩;have C:=Ea N;obtain⟨x,j⟩:∃x,x=(dL b d.n (iT b d)).1:=⟨_,rfl⟩;have F:=j;rw[C]at j;have G:KU b d (iT b d)=kx (eM x (iT b d) d) fun y=>lV y ⟨(iT b d).aQ,d.n,d.mv,d.sum⟩:=by unfold KU;rw[rZ (by rw[C]),←F]
  clear F;have xs:x.snd=b.snd:=by rw[j]
  have A:x.bt=b.bt:=by rw[j]
  have t:x.bM=b.bM:=by rw[j]
  have xd:x.due=b.due:=by rw[j]
  have S:x.aK (b.bz d.n).aK=⟨(b.aK (b.bz d.n).aK).m,(b.aK (b.bz d.n).aK).h+(Au.bK (iT b d)-Au.bK (b.bz d.n)),(b.aK (b.bz d.n).aK).p,(b.aK (b.bz d.n).aK).u⟩:=by rw[j];exact Hj {b with ax:=b.ax.set d.n.toNat (iT b d)} b.aL _ _ N.c1
  have xR:jM (x.aK (b.bz d.n).aK):=by rw[S];have :=Hc (c:=b.aK (b.bz d.n).aK) (h:=Au.bK (iT b d)-Au.bK (b.bz d.n)) (m:=0) R (by unfold off;omega);rw[q9]at this;exact this
  have v:∀y:Int,-1000000≤y→y≤1000000→cN x (b.bz d.n).aK 0 y=({x with aL:=b.aL.set (b.bz d.n).aK.toNat ⟨(b.aK (b.bz d.n).aK).m+y,(b.aK (b.bz d.n).aK).h+(Au.bK (iT b d)-Au.bK (b.bz d.n)),(b.aK (b.bz d.n).aK).p,(b.aK (b.bz d.n).aK).u⟩},0):=by intro y y1 y2;rw[te xR (by unfold jq;omega) (by rw[S];unfold off;dsimp only;omega),S];dsimp only;rw[q9];rw[j];simp only[List.set_set]
  have D:∀y:Int,ky x (b.bz d.n).aQ y={x with due:=b.due.set (b.bz d.n).aQ.toNat (b.dG (b.bz d.n).aQ+y)}:=by intro y;unfold ky aJ.dG;rw[xd]
  have i:(gi b d).1=⟨(b.aK (b.bz d.n).aK).m+fq d.mv d.sum,(b.aK (b.bz d.n).aK).h+(Au.bK (iT b d)-Au.bK (b.bz d.n)),(b.aK (b.bz d.n).aK).p,(b.aK (b.bz d.n).aK).u⟩:=by rw[H]
  have l:b.due.set (b.bz d.n).aQ.toNat (b.dG (b.bz d.n).aQ+0)=b.due:=zr _ _ 0 _ (by rw[q9];rfl)
  have g:∀(c:Ca) (du:List Int) (bk:List (Int ×Int)) (U:Bool→Po.Se),c=(gi b d).1→du=b.due.set (b.bz d.n).aQ.toNat (b.dG (b.bz d.n).aQ+nk d.mv d.sum)→bk=(eK b.bM (b.bz d.n) d.mv d.sum).1→U=(dE b.snd d.mv d.n d.sum).1→({b with ax:=b.ax.set d.n.toNat (iT b d),aL:=b.aL.set (b.bz d.n).aK.toNat c,due:=du,bM:=bk,snd:=U,bt:=b.bt++[⟨(iT b d).aQ,d.n,d.mv,d.sum⟩]}:aJ)=iW b d:=by intro c du bk U k s o w;subst k s o w;rw[N.aQ];rfl
  rw[G];have a1:=eight may.2.2.1 may.2.2.2.1;clear G C
  -- a4 is put Q a step a5 is right
  have fin:∀(P:aJ×Int) (e:Int) (z:aJ),P.2=e→P.1.bt=b.bt→e=(dE b.snd d.mv d.n d.sum).2→(e =0→P.1=z)→((e =0)→({ z with bt:=b.bt++[⟨(iT b d).aQ,d.n,d.mv,d.sum⟩]}:aJ)=iW b d)→(kx P fun y=>lV y ⟨(iT b d).aQ,d.n,d.mv,d.sum⟩).2=(if (dE b.snd d.mv d.n d.sum).2≠0 then(dE b.snd d.mv d.n d.sum).2 else if 100≤b.bt.length then 5 else 0)∧((dE b.snd d.mv d.n d.sum).2=0→¬100≤b.bt.length→(kx P fun y=>lV y ⟨(iT b d).aQ,d.n,d.mv,d.sum⟩).1=iW b d):=by intro P e z p1 Z Y X W;obtain⟨l1,l2⟩:=Jb (b:=b) (x:=z) (r:=⟨(iT b d).aQ,d.n,d.mv,d.sum⟩) p1 Z;rw[←Y];exact⟨l1,fun V q2=>(l2 V q2 (X V)).trans (W V)⟩
  rcases a1 with h|h|h|h|h|h|h|h;·rw[show eM x (iT b d) d=(x,0)by unfold eM;rw[h];simp];refine fin _ 0 x rfl A (by unfold dE;rw[h];simp) (fun _=>rfl) fun _=>?_;rw[j];exact g _ _ _ _ (by rw[i];unfold fq;rw[h];simp) (by unfold nk;rw[h];exact l.symm) (by unfold eK;rw[h];simp) (by unfold dE;rw[h];simp)
  -- M
  · have k:eM x (iT b d) d=kx (df x (iT b d).aK 1 d.sum) fun x=>fM x false ⟨0,1,d.n,d.sum⟩:=by unfold eM;rw[aB (by omega)]
    have s:(bW b.bM (10+(b.bz d.n).aK) 1 d.sum).2=0:=f _ _ (by omega) (by omega) (by omega) (by omega) (by omega);have o:df x (iT b d).aK 1 d.sum=({x with aL:=b.aL.set (b.bz d.n).aK.toNat ⟨(b.aK (b.bz d.n).aK).m+-d.sum,(b.aK (b.bz d.n).aK).h+(Au.bK (iT b d)-Au.bK (b.bz d.n)),(b.aK (b.bz d.n).aK).p,(b.aK (b.bz d.n).aK).u⟩,bM:=(bW b.bM (10 +(b.bz d.n).aK) 1 d.sum).1},0):=by unfold df;rw[N.aK,v _ (by omega) (by omega),rZ rfl,gx (by dsimp only;rw[t];exact s)];dsimp only;rw[t]
    rw[o,pP]at k;rw[k];have w:(dE b.snd d.mv d.n d.sum).2=(Po.fV (b.snd false) ⟨0,1,d.n,d.sum⟩).2:=by unfold dE;rw[aB (by omega)]
    refine fin _ _ _ (pJ (b:=b) xs) (pV.trans A) w.symm (fun q=>ix Prod.fst (nV (by show(Po.fV (x.snd false) _).2=0;rw[xs];exact q))) fun _=>?_;dsimp only;rw[j];exact g _ _ _ _ (by rw[i];unfold fq;rw[aB (by omega)]) (by unfold nk;rw[ai (by omega)];exact l.symm) (by unfold eK;rw[aB (by omega)]) (by unfold dE;rw[aB (by omega)])
  -- last
  · have k:eM x (iT b d) d=kx (df x (iT b d).aK 1 d.sum) fun x=>fM x false ⟨0,1,d.n,d.sum⟩:=by unfold eM;rw[aB (by omega)]
    have s:(bW b.bM (10 +(b.bz d.n).aK) 1 d.sum).2=0:=f _ _ (by omega) (by omega) (by omega) (by omega) (by omega);have o:df x (iT b d).aK 1 d.sum=({x with aL:=b.aL.set (b.bz d.n).aK.toNat ⟨(b.aK (b.bz d.n).aK).m+-d.sum,(b.aK (b.bz d.n).aK).h+(Au.bK (iT b d)-Au.bK (b.bz d.n)),(b.aK (b.bz d.n).aK).p,(b.aK (b.bz d.n).aK).u⟩,bM:=(bW b.bM (10 +(b.bz d.n).aK) 1 d.sum).1},0):=by unfold df;rw[N.aK,v _ (by omega) (by omega),rZ rfl,gx (by dsimp only;rw[t];exact s)];dsimp only;rw[t]
    rw[o,pP]at k;rw[k];have w:(dE b.snd d.mv d.n d.sum).2=(Po.fV (b.snd false) ⟨0,1,d.n,d.sum⟩).2:=by unfold dE;rw[aB (by omega)]
    refine fin _ _ _ (pJ (b:=b) xs) (pV.trans A) w.symm (fun q=>ix Prod.fst (nV (by show(Po.fV (x.snd false) _).2=0;rw[xs];exact q))) fun _=>?_;dsimp only;rw[j];exact g _ _ _ _ (by rw[i];unfold fq;rw[aB (by omega)]) (by unfold nk;rw[ai (by omega)];exact l.symm) (by unfold eK;rw[aB (by omega)]) (by unfold dE;rw[aB (by omega)])
  -- E
  ·rw[show eM x (iT b d) d=(x,0)by unfold eM;rw[h];simp];refine fin _ 0 x rfl A (by unfold dE;rw[h];simp) (fun _=>rfl) fun _=>?_;rw[j];exact g _ _ _ _ (by rw[i];unfold fq;rw[h];simp) (by unfold nk;rw[h];exact l.symm) (by unfold eK;rw[h];simp) (by unfold dE;rw[h];simp)
  -- O
  · have k:eM x (iT b d) d=kx (dH x (iT b d).aQ 1 d.sum) fun x=>fM x true ⟨0,2,d.n,d.sum⟩:=by unfold eM;rw[ai (by omega),aB h]
    have s:(bW b.bM (50+(b.bz d.n).aQ) 1 d.sum).2=0:=f _ _ (by omega) (by omega) (by omega) (by omega) (by omega);have o:dH x (iT b d).aQ 1 d.sum=({x with due:=b.due.set (b.bz d.n).aQ.toNat (b.dG (b.bz d.n).aQ+-d.sum),bM:=(bW b.bM (50+(b.bz d.n).aQ) 1 d.sum).1},0):=by unfold dH;rw[N.aQ,D,gx (by dsimp only;rw[t];exact s)];dsimp only;rw[t]
    rw[o,pP]at k;rw[k];have w:(dE b.snd d.mv d.n d.sum).2=(Po.fV (b.snd true) ⟨0,2,d.n,d.sum⟩).2:=by unfold dE;rw[ai (by omega),aB h]
    refine fin _ _ _ (pJ (b:=b) xs) (pV.trans A) w.symm (fun q=>ix Prod.fst (nV (by show(Po.fV (x.snd true) _).2=0;rw[xs];exact q))) fun _=>?_;dsimp only;rw[j];exact g _ _ _ _ (by rw[i];unfold fq;rw[h];simp) (by unfold nk;rw[aB h]) (by unfold eK;rw[ai (by omega),aB h]) (by unfold dE;rw[ai (by omega),aB h])
  -- L
  · have k:eM x (iT b d) d=eU x (iT b d).aK 2 d.sum:=by unfold eM;rw[ai (by omega),ai (by omega),aB h]
    have s:(bW b.bM 2 (10 +(b.bz d.n).aK) d.sum).2=0:=f _ _ (by omega) (by omega) (by omega) (by omega) (by omega);have o:eU x (iT b d).aK 2 d.sum=({ x with aL:=b.aL.set (b.bz d.n).aK.toNat ⟨(b.aK (b.bz d.n).aK).m+d.sum,(b.aK (b.bz d.n).aK).h+(Au.bK (iT b d)-Au.bK (b.bz d.n)),(b.aK (b.bz d.n).aK).p,(b.aK (b.bz d.n).aK).u⟩,bM:=(bW b.bM 2 (10+(b.bz d.n).aK) d.sum).1},0):=by unfold eU;rw[N.aK,v _ (by omega) (by omega),rZ rfl,gx (by dsimp only;rw[t];exact s)];dsimp only;rw[t]
    rw[k,o];refine fin _ 0 _ rfl A (by unfold dE;rw[h];simp) (fun _=>rfl) fun _=>?_;dsimp only;rw[j];exact g _ _ _ _ (by rw[i];unfold fq;rw[h];simp) (by unfold nk;rw[ai (by omega)];exact l.symm) (by unfold eK;rw[ai (by omega),ai (by omega),aB h]) (by unfold dE;rw[h];simp)
  -- for T aK
  · have k:eM x (iT b d) d=fM x false ⟨0,3,d.n,d.sum⟩:=by unfold eM;rw[ai (by omega),ai (by omega),ai (by omega),aB h]
    rw[k];have w:(dE b.snd d.mv d.n d.sum).2=(Po.fV (b.snd false) ⟨0,3,d.n,d.sum⟩).2:=by unfold dE;rw[ai (by omega),ai (by omega),aB h]
    refine fin _ _ _ (pJ (b:=b) xs) (pV.trans A) w.symm (fun q=>ix Prod.fst (nV (by rw[xs];exact q))) fun _=>?_;dsimp only;rw[j];exact g _ _ _ _ (by rw[i];unfold fq;rw[h];simp) (by unfold nk;rw[ai (by omega)];exact l.symm) (by unfold eK;rw[h];simp) (by unfold dE;rw[ai (by omega),ai (by omega),aB h])
  -- for T aQ
  · have k:eM x (iT b d) d=df x (iT b d).aK 2 d.sum:=by unfold eM;rw[ai (by omega),ai (by omega),ai (by omega),ai (by omega),aB h]
    have s:(bW b.bM (10 +(b.bz d.n).aK) 2 d.sum).2=0:=f _ _ (by omega) (by omega) (by omega) (by omega) (by omega);have o:df x (iT b d).aK 2 d.sum=({x with aL:=b.aL.set (b.bz d.n).aK.toNat ⟨(b.aK (b.bz d.n).aK).m+-d.sum,(b.aK (b.bz d.n).aK).h+(Au.bK (iT b d)-Au.bK (b.bz d.n)),(b.aK (b.bz d.n).aK).p,(b.aK (b.bz d.n).aK).u⟩,bM:=(bW b.bM (10 +(b.bz d.n).aK) 2 d.sum).1},0):=by unfold df;rw[N.aK,v _ (by omega) (by omega),rZ rfl,gx (by dsimp only;rw[t];exact s)];dsimp only;rw[t]
    rw[k,o];refine fin _ 0 _ rfl A (by unfold dE;rw[h];simp) (fun _=>rfl) fun _=>?_;dsimp only;rw[j];exact g _ _ _ _ (by rw[i];unfold fq;rw[h];simp) (by unfold nk;rw[ai (by omega)];exact l.symm) (by unfold eK;rw[ai (by omega),ai (by omega),ai (by omega),aB h]) (by unfold dE;rw[h];simp)
def Dg(b:aJ)(d:Dd):aJ×Int:=if b.down=true then(b,12)else if d.n<0∨(b.ax.length:Int)≤d.n then(b,6)else if Au.ez (b.bz d.n) d.mv d.sum≠0 then(b,Au.ez (b.bz d.n) d.mv d.sum)else if d.mv=1∧(b.aK (b.bz d.n).aK).m-(b.aK (b.bz d.n).aK).h<d.sum then(b,10)else KU b d (iT b d)
def jz(x y:aJ×Int):Prop:=x.2=y.2∧(y.2=0→x.1=y.1)
theorem fS(x:aJ×Int):jz x x:=⟨rfl,fun _=>rfl⟩
theorem fp{c:Prop}[Decidable c]{x y z:aJ×Int}(h:¬c→jz y z):jz (if c then x else y) (if c then x else z):=by
 split;·exact fS x
 ·rename_i q;exact h q
theorem DP{K:Nat}{b:aJ}{d:Dd}(I:Inv b)(B:ft K b)(c:K≤400):jz (Dg b d) (mD b d):=by
 unfold Dg mD;refine fp fun k=>fp fun f=>fp fun e=>fp fun j=>?_;obtain⟨g1,g2,i,g⟩:=go_in I B c (J0 I B c f (Decidable.not_not.1 e));rw[ai (by simpa using g1),ai (by simpa using g2)];refine⟨?_,?_⟩
 ·rw[i];split;·rfl
  ·split<;>rfl
 ·intro h;split at h;·rename_i q;exact absurd h q
  ·rename_i q;rw[ai q];split at h;·cases h
   ·rename_i a;rw[ai a];exact g (Decidable.not_not.1 q) a
theorem ll(b:aJ)(src dst sum:Int):(b9 b src dst sum).2=(bW b.bM src dst sum).2:=by
 unfold b9;split;·rfl
 ·rename_i q;exact(Decidable.not_not.1 q).symm
theorem qK(b:aJ)(n h m:Int):(cN b n h m).2=(cF (b.aK n) h m).2:=by
 unfold cN;split;·rfl
 ·rename_i q;exact(Decidable.not_not.1 q).symm
theorem v_(b:aJ)(n src sum:Int)(z:aJ×Int)(h1:(cF (b.aK n) 0 sum).2≠0→z.2=(cF (b.aK n) 0 sum).2)(h2:(cF (b.aK n) 0 sum).2=0→z.2=(bW b.bM src (10+n) sum).2)(a:(cF (b.aK n) 0 sum).2=0→(bW b.bM src (10 +n) sum).2=0→z.1={b with aL:=b.aL.set n.toNat (cF (b.aK n) 0 sum).1,bM:=(bW b.bM src (10 +n) sum).1}):jz (eU b n src sum) z:=by
 unfold eU jz;by_cases q:(cF (b.aK n) 0 sum).2=0
 ·have e:cN b n 0 sum=({b with aL:=b.aL.set n.toNat (cF (b.aK n) 0 sum).1},0):=by unfold cN;rw[ai (by simpa using q)]
  rw[e,pP,ll];refine⟨(h2 q).symm,fun h=>?_⟩;rw[h2 q]at h;rw[a q h,gx (show (bW ({ b with aL:=b.aL.set n.toNat (cF (b.aK n) 0 sum).1}:aJ).bM src (10 +n) sum).2=0 from h)]
 ·unfold kx;dsimp only;rw[qK,kn q];exact⟨(h1 q).symm,fun h=>absurd ((h1 q).symm.trans h) q⟩
def m6(b:aJ)(d:Dd):aJ×Int:=if d.n<0∨(b.aL.length :Int)≤d.n then(b,6)else if d.sum<1∨1000000<d.sum then(b,3)else eU b d.n 0 d.sum
theorem wo(b:aJ)(d:Dd):jz (m6 b d) (nZ b d):=by
 unfold m6 nZ;refine fp fun _=>fp fun _=>v_ _ _ _ _ _ ?_ ?_ ?_;·intro h;rw[aB h]
 ·intro h;rw[ai (by simpa using h)];split;·rfl
  ·rename_i q;exact(Decidable.not_not.1 q).symm
 ·intro h h2;rw[ai (by simpa using h),ai (by simpa using h2)]
def u_(b:aJ)(d:Dd):aJ×Int:=if d.n<0∨(b.due.length :Int)≤d.n then(b,6)else if b.dG d.n<1 then(b,10)else dH b d.n 0 (b.dG d.n)
theorem GY(b:aJ)(d:Dd):jz (u_ b d) (sa b d):=by
 unfold u_ sa;refine fp fun _=>fp fun _=>?_;unfold dH jz;rw[ll];show(bW b.bM (50+d.n) 0 (b.dG d.n)).2=_∧_;by_cases q:(bW b.bM (50+d.n) 0 (b.dG d.n)).2=0;·rw[ai (by simpa using q)];refine⟨q,fun _=>?_⟩;rw[gx (show(bW (ky b d.n (-b.dG d.n)).bM _ _ _).2=0 from q)];unfold ky;dsimp only;rw[Int.add_right_neg]
 ·rw[aB q];exact⟨rfl,fun h=>absurd h q⟩
def kK(b:aJ)(t:Po.Tr):aJ×Int:=if t.k=1 then jV b (b.bz t.a).aQ 1 t.s
 else if t.k=2 then eU b (b.bz t.a).aK 1 t.s
 else dH b (b.bz t.a).aQ 2 t.s
def eJ(b:aJ)(i:Bool):aJ:={gone b i with aX:=eu b.aX i (b.aX i+1)}
theorem Eo{b:aJ}{i:Bool}{t:Po.Tr}(j:t.k=1∨t.k=2∨t.k=3):jz (kK (eJ b i) t) (comes b i t):=by
 unfold kK comes;by_cases e:t.k=1
 ·rw[aB e,aB e];show jz (jV (eJ b i) (b.bz t.a).aQ 1 t.s) _;unfold jV jz;rw[ll];show(bW b.bM 1 (50+(b.bz t.a).aQ) t.s).2=_∧_;by_cases q:(bW b.bM 1 (50 +(b.bz t.a).aQ) t.s).2=0;·rw[ai (by simpa using q)];refine⟨q,fun _=>?_⟩;rw[gx (show (bW (ky (eJ b i) (b.bz t.a).aQ t.s).bM _ _ _).2=0 from q)];rfl
  ·rw[aB q];exact⟨rfl,fun h=>absurd h q⟩
 rw[ai e,ai e];by_cases d:t.k=2
 ·rw[aB d,aB d];show jz (eU (eJ b i) (b.bz t.a).aK 1 t.s) _;refine v_ _ _ _ _ _ ?_ ?_ ?_;·intro h;have c:(cF (b.aK (b.bz t.a).aK) 0 t.s).2≠0:=h;rw[aB c];rfl
  ·intro h;have c:(cF (b.aK (b.bz t.a).aK) 0 t.s).2=0:=h;rw[ai (by simpa using c)];show _=(bW b.bM 1 (10 +(b.bz t.a).aK) t.s).2;split;·rfl
   ·rename_i q;exact(Decidable.not_not.1 q).symm
  ·intro h h2;have c:(cF (b.aK (b.bz t.a).aK) 0 t.s).2=0:=h;have f:(bW b.bM 1 (10 +(b.bz t.a).aK) t.s).2=0:=h2;rw[ai (by simpa using c),ai (by simpa using f)];rfl
 have g:t.k=3:=by omega
 rw[ai d,ai d,aB g];show jz (dH (eJ b i) (b.bz t.a).aQ 2 t.s) _;unfold dH jz;rw[ll];show(bW b.bM (50 +(b.bz t.a).aQ) 2 t.s).2=_∧_;by_cases q:(bW b.bM (50 +(b.bz t.a).aQ) 2 t.s).2=0;·rw[ai (by simpa using q)];refine⟨q,fun _=>?_⟩;rw[gx (show(bW (ky (eJ b i) (b.bz t.a).aQ (-t.s)).bM _ _ _).2=0 from q)];show({ gone b i with aX:=_,due:=b.due.set (b.bz t.a).aQ.toNat (b.dG (b.bz t.a).aQ+-t.s),bM:=_}:aJ)=_;rw[←Int.sub_eq_add_neg];rfl
 ·rw[aB q];exact⟨rfl,fun h=>absurd h q⟩
theorem pW{b:aJ}(I:Inv b){i:Bool}{p:Pk}(a:p∈b.dY i)(h0:¬0≤p.aX)(c:p.t.n=b.aX i+1):p.t∈(b.snd (!i)).bj:=by
 rcases I.bD.ways i p a with⟨-,h|h⟩|⟨h,-⟩;·omega
 ·exact h
 ·exact absurd h h0
theorem wY{b:aJ}(I:Inv b){i:Bool}{t:Po.Tr}(a:t∈(b.snd (!i)).bj):t.k=1∨t.k=2∨t.k=3:=by
 cases i with
 |false=>exact Or.inr (Or.inl (I.bD.ka t a))|true=>rcases I.bD.j1 t a with h|h<;>omega
theorem sA{b:aJ}(I:Inv b){i:Bool}{t:Po.Tr}(c:t∈(b.snd i).bj):0≤t.a∧t.a<b.ax.length∧1≤t.s∧t.s≤1000000:=by obtain⟨j,d,rfl⟩:=ss c;have h:=((I.bD.right i).each j _ (gH d)).2.1;have h2:=I.bD.ax i _ c;unfold Po.jq at h;omega
def dZ(b:aJ)(k:Nat):aJ:={b with aL:=(b.ax.take k).foldl (jr b.time) b.aL,ax:=(b.ax.take k).map (fun a=>Au.ey a b.time)++b.ax.drop k}
theorem uW(b:aJ):dZ b 0=b:=by unfold dZ;simp
theorem wM(b:aJ):dZ b b.ax.length=mQ b:=by unfold dZ mQ;simp
theorem tH(b:aJ)(k:Nat):(dZ b k).ax.length=b.ax.length:=by unfold dZ;simp;omega
theorem rN(b:aJ)(k:Nat)(a:k<b.ax.length):(dZ b k).ax.getD k zA=b.ax.getD k zA:=by unfold dZ;simp only[List.getD_eq_getElem?_getD];rw[qj (by simp;omega)];simp only[jF,List.length_take];rw[Nat.min_eq_left (by omega),Nat.sub_self,List.getElem?_drop,dr]
theorem take_one{α:Type}(l:List α)(k:Nat)(d:α)(a:k<l.length):l.take (k+1)=l.take k++[l.getD k d]:=by rw[vI];simp[List.getD,a]
theorem tO{α:Type}(f:α→Int)(l:List α)(k:Nat):b8 f l=b8 f (l.take k)+b8 f (l.drop k):=by conv=>lhs;rw[←cL k l,gO]
theorem zN{b:aJ}(H:xP b)(c k:Nat):0≤fg c b.ax+b8 (i' b.time c) (b.ax.take k)∧b8 (i' b.time c) (b.ax.take k)≤0:=by
 have h1:=xk b.time c (b.ax.take k)
 have j:∀(L:List Au.Au),(∀a∈L,Au.wj a∧Au.Fit a)→0≤fg c L:=by
  intro L e;have :=jU (f:=heldBy c) (c:=1000000) (l:=L) fun a d=>by have:= gF (e a d).1 (e a d).2;unfold heldBy;split<;>omega
  exact this.1
 have h2:=j ((b.ax.take k).map fun a=>Au.ey a b.time) fun a d=>by obtain⟨x,g,rfl⟩:=List.mem_map.1 d;have :=H.ax x (eE g);exact⟨this.1,this.2.1⟩
 have o:=j (b.ax.drop k) fun a d=>by have:= H.ax a (List.mem_of_mem_drop d);exact⟨this.1,this.2.1⟩
 have n:fg c b.ax=fg c (b.ax.take k)+fg c (b.ax.drop k):=tO _ _ _;refine⟨by omega,?_⟩
 have :∀L:List Au.Au,(∀ a∈L,Au.wj a∧Au.Fit a)→b8 (i' b.time c) L≤0:=by
  intro L
  induction L with
  |nil=>intro _;simp[b8]
  |cons a r m=>
   intro e;have q:=m fun x g=>e x (cR _ g);have i:=gF (e a bT).1 (e a bT).2
   have: i' b.time c a≤0:=by
    unfold i';split
    ·unfold Au.bK Au.ey at*;dsimp only;cases h:a.shut
     ·rw[h]at i;simp only[Bool.false_or]at*;split;·simp at i⊢;omega
      ·simp
     ·simp
    ·omega
   simp only[b8];omega
 exact this _ fun a d=>by have :=H.ax a (eE d);exact⟨this.1,this.2.1⟩
theorem vK{b:aJ}(I:Inv b){k:Nat}(d:k<b.ax.length):dL (dZ b k) (k :Int) (Au.ey (b.ax.getD k zA) b.time)=(dZ b (k+1),0):=by
 have H:=I.held;have e:b.ax.getD k zA∈b.ax:=ev _ d;obtain⟨r1,r2,y,w⟩:=H.ax _ e;have c0:0≤(b.ax.getD k zA).aK:=r1.2.2.2.2.1.1;obtain⟨C,o⟩:=sQ b.time (b.ax.take k) b.aL fun a l=>⟨(H.ax a (eE l)).1.2.2.2.2.1.1,(H.ax a (eE l)).2.2.1⟩;have f:(b.ax.getD k zA).aK.toNat<b.aL.length:=by omega
 have g:=o _ f;have R:=H.right _ (ev b7 f);have B:=H.held _ f;have s1:=zN H (b.ax.getD k zA).aK.toNat k;have s2:=zN H (b.ax.getD k zA).aK.toNat (k +1);have v:=H.small (b.ax.getD k zA).aK.toNat;have D:b8 (i' b.time (b.ax.getD k zA).aK.toNat) (b.ax.take (k +1))=b8 (i' b.time (b.ax.getD k zA).aK.toNat) (b.ax.take k)+(Au.bK (Au.ey (b.ax.getD k zA) b.time)-Au.bK (b.ax.getD k zA)):=by rw[take_one _ _ zA d,gO,nK];congr 1;unfold i';rw[aB (by omega)]
 have A:=gF r1 r2;have z:0≤Au.bK (Au.ey (b.ax.getD k zA) b.time)∧Au.bK (Au.ey (b.ax.getD k zA) b.time)≤1000000:=gF (a:=Au.ey (b.ax.getD k zA) b.time) r1 r2;unfold dL;have s:(dZ b k).bz (k :Int)=b.ax.getD k zA:=by show(dZ b k).ax.getD ((k :Int)).toNat zA=_;rw[bN,rN b k d]
 rw[s];generalize j:b.ax.getD k zA=x at*;have i:({dZ b k with ax:=(dZ b k).ax.set ((k :Int)).toNat (Au.ey x b.time)}:aJ).aK (Au.ey x b.time).aK=⟨(b.aL.getD x.aK.toNat b7).m,(b.aL.getD x.aK.toNat b7).h+b8 (i' b.time x.aK.toNat) (b.ax.take k),(b.aL.getD x.aK.toNat b7).p,(b.aL.getD x.aK.toNat b7).u⟩:=g;have t:jM ⟨(b.aL.getD x.aK.toNat b7).m,(b.aL.getD x.aK.toNat b7).h+b8 (i' b.time x.aK.toNat) (b.ax.take k),(b.aL.getD x.aK.toNat b7).p,(b.aL.getD x.aK.toNat b7).u⟩:=⟨R.m1,R.m2,by dsimp only;omega,by dsimp only;omega,R.me,R.cP⟩;have m1:=R.m1;have m2:=R.m2;rw[te (by rw[i];exact t) (by unfold jq;omega) (by rw[i];unfold off;dsimp only;omega),i];have r:(dZ b k).ax.set ((k:Int)).toNat (Au.ey x b.time)=(dZ b (k+1)).ax:=by rw[bN];show((b.ax.take k).map (fun a=>Au.ey a b.time)++b.ax.drop k).set k _=(b.ax.take (k+1)).map (fun a=>Au.ey a b.time)++b.ax.drop (k +1);rw[take_one _ _ zA d,j,oT,List.set_append_right _ _ (by simp;omega)];simp only[jF,List.length_take];rw[Nat.min_eq_left (by omega),Nat.sub_self,gj d,aO];simp
 have q:(dZ b k).aL.set (Au.ey x b.time).aK.toNat ⟨(b.aL.getD x.aK.toNat b7).m+0,(b.aL.getD x.aK.toNat b7).h+b8 (i' b.time x.aK.toNat) (b.ax.take k)+(Au.bK (Au.ey x b.time)-Au.bK x),(b.aL.getD x.aK.toNat b7).p,(b.aL.getD x.aK.toNat b7).u⟩=(dZ b (k +1)).aL:=by show((b.ax.take k).foldl (jr b.time) b.aL).set x.aK.toNat _=(b.ax.take (k+1)).foldl (jr b.time) b.aL;rw[take_one _ _ zA d,j,List.foldl_append];show _=jr b.time ((b.ax.take k).foldl (jr b.time) b.aL) x;unfold jr;have n:=g;unfold jr at n;rw[n,q9]
 show(({ dZ b k with ax:=_,aL:=_}:aJ),(0 :Int))=_;rw[r];refine ix (fun c=>((({dZ b k with ax:=(dZ b (k +1)).ax,aL:=c}:aJ)),(0 :Int))) q
def mW(b:aJ)(x:St.Ad):aJ×Int:=if(Au.fK x.c x.s x.m x.t).2≠0 then(b,(Au.fK x.c x.s x.m x.t).2)else if(fU (b.aK x.c) x.m).2≠0 then(b,(fU (b.aK x.c) x.m).2)else({ b with ax:=b.ax++[(Au.fK x.c x.s x.m x.t).1],aL:=b.aL.set x.c.toNat (fU (b.aK x.c) x.m).1},0)
def ua:St.Ad:=⟨0,0,0,0⟩
def oP(b:aJ)(k:Nat):aJ:={b with aL:=(b.bn.bL.take k).foldl fT b.aL,ax:=b.ax++(b.bn.bL.take k).map kE}
theorem yS(b:aJ):oP b 0=b:=by unfold oP;simp
theorem CU{b:aJ}(I:Inv b){k:Nat}(n:k<b.bn.bL.length):mW (oP b k) (b.bn.bL.getD k ua)=(oP b (k+1),0)∧(0≤(b.bn.bL.getD k ua).c∧(b.bn.bL.getD k ua).c<b.aL.length)∧(oP b k).aL.length=b.aL.length:=by
 have H:=I.held;have a:b.bn.bL.getD k ua∈b.bn.bL:=ev _ n;have q:∀x∈b.bn.bL,St.Fits x b.bn.used.length:=H.bn.bL.each;have j:∀x∈b.bn.bL,0≤x.c∧x.c<b.aL.length:=fun x d=>by have:= q x d;rw[H.gE]at this;exact⟨this.1,this.2.1⟩
 obtain⟨A,z⟩:=qD (b.bn.bL.take k) b.aL fun x d=>j x (eE d);have d:=q _ a;have y:=j _ a;have E:=H.mS _ a;have c8:=H.eZ;have d8:=H.kF;have t1:=H.kJ;refine⟨?_,y,A⟩;have e:(b.bn.bL.getD k ua).c.toNat<b.aL.length:=by omega
 have g:=z _ e;have R:=H.right _ (ev b7 e);have G:=H.held _ e;have D:=H.small (b.bn.bL.getD k ua).c.toNat;have C:=jU (f:=mj (b.bn.bL.getD k ua).c.toNat) (c:=1000000) (l:=b.bn.bL.take k) fun x d=>by have h1:=q x (eE d);unfold St.Fits at h1;unfold mj;split<;>omega
 have F:(b.bn.bL.take k).length≤30:=by have :=H.iv;simp;omega
 unfold St.Fits at d;rw[H.gE]at d;generalize hy:b.bn.bL.getD k ua=x at*;have i:Au.fK x.c x.s x.m x.t=(kE x,0):=by unfold Au.fK kE;rw[aB (by omega)]
 have r:(oP b k).aK x.c=⟨(b.aL.getD x.c.toNat b7).m,(b.aL.getD x.c.toNat b7).h+b8 (mj x.c.toNat) (b.bn.bL.take k),(b.aL.getD x.c.toNat b7).p,(b.aL.getD x.c.toNat b7).u⟩:=g;have B:jM ((oP b k).aK x.c):=by rw[r];exact⟨R.m1,R.m2,by dsimp only;omega,by dsimp only;omega,R.me,R.cP⟩
 have o:fU ((oP b k).aK x.c) x.m=(⟨((oP b k).aK x.c).m,((oP b k).aK x.c).h+x.m,((oP b k).aK x.c).p,((oP b k).aK x.c).u⟩,0):=sG (fE.2 B) (by rw[r];dsimp only;omega);unfold mW;rw[i,o];simp only[ne_eq,not_true_eq_false,CL];have w:(oP b k).ax++[kE x]=(oP b (k +1)).ax:=by show b.ax++(b.bn.bL.take k).map kE++[kE x]=b.ax++(b.bn.bL.take (k +1)).map kE;rw[take_one _ _ ua n,hy,oT,fi];rfl
 have v:(oP b k).aL.set x.c.toNat ⟨((oP b k).aK x.c).m,((oP b k).aK x.c).h+x.m,((oP b k).aK x.c).p,((oP b k).aK x.c).u⟩=(oP b (k +1)).aL:=by show((b.bn.bL.take k).foldl fT b.aL).set x.c.toNat _=(b.bn.bL.take (k +1)).foldl fT b.aL;rw[take_one _ _ ua n,hy,List.foldl_append];rfl
 rw[w,v];rfl
def run(b:aJ)(a:List Dd):aJ:=a.foldl (fun b d=>(jA b d).1) b
theorem DG{α:Type}(f:Bool→α)(i:Bool)(x y:α):eu (eu f i x) i y=eu f i y:=by funext j;unfold eu;split<;>rfl
theorem nB{α:Type}(f:Bool→α)(i:Bool):eu f i (f i)=f:=by
 funext j;unfold eu;split;·rename_i e;rw[e]
 ·rfl
def zD:Dd:=⟨0,0,0,0,0,0⟩
theorem sU(l:List Dd){i:Nat}(hi:i<l.length):l.take (i +1)=l.take i++[l.getD i zD]:=by rw[vI];simp[List.getD,hi]
theorem ID{b:aJ}{d:Dd}(I:Inv b)(h1:¬(d.sum<0∨1000000<d.sum∨1000000<b.time+d.sum)):Inv {b with time:=b.time+d.sum}:=by
 obtain⟨H,S,B⟩:=I;refine⟨⟨H.eZ,H.kF,H.right,H.iv,H.ax,H.held,H.bn,H.gE,fun x a=>⟨(H.mS x a).1,?_⟩,H.lW,?_,?_,H.bt⟩,⟨S.right,S.i9,S.j5,S.keeps,S.ax,S.j1,S.ka,S.ways,S.jP⟩,⟨B.right,B.nM,B.nQ,B.o9,B.oZ⟩⟩;·have :=(H.mS x a).2;show x.t≤b.time+d.sum;omega
 ·have :=H.jR;show 0≤b.time+d.sum;omega
 ·show b.time+d.sum≤1000000;omega
def MQ(b:aJ)(d:Dd)(k:Nat):Int:=if d.kind=1∧(jA b d).2.1=0∧d.n=(k :Int)then d.sum else 0
def pD(b:aJ)(i:Bool)(n:Int):aJ×Int:=if(Po.eR (b.snd i) n).2≠0 then(b,(Po.eR (b.snd i) n).2)else({ b with snd:=eu b.snd i (Po.eR (b.snd i) n).1},0)
def h_(b:aJ)(i:Bool)(p:Pk):aJ×Int:=if 0≤p.aX then pD (gone b i) i p.aX
 else if Po.taken (b.aX i) p.t.n=true then kK (eJ b i) p.t
 else(gone b i,0)
theorem pI{b:aJ}(I:Inv b){i:Bool}{p:Pk}(d:p∈b.dY i):jz (h_ b i p) (i7 b i p):=by
 unfold h_ i7;by_cases c:0≤p.aX
 ·rw[aB c,aB c];unfold pD;show jz (if(Po.eR (b.snd i) p.aX).2≠0 then(gone b i,(Po.eR (b.snd i) p.aX).2)else({ gone b i with snd:=eu b.snd i (Po.eR (b.snd i) p.aX).1},0)) _;by_cases a:(Po.eR (b.snd i) p.aX).2=0;·rw[ai (by simpa using a),ai (by simpa using a)];exact fS _
  ·rw[aB a,aB a];exact⟨rfl,fun h=>absurd h a⟩
 rw[ai c,ai c];have s0:=I.bD.i9 i;by_cases a:Po.taken (b.aX i) p.t.n=true;·obtain⟨h1,h2,e⟩:=Po.lh.1 a;rw[aB a,ai (by omega)];exact Eo (wY I (pW I d c e))
 ·rw[ai a,aB (by have :=Po.lK.1 (Bool.not_eq_true _▸a);omega)];exact fS _
theorem nH{K:Nat}{b:aJ}(I:Inv b)(B:ft K b)(c:K≤400):∀k:Nat,k<b.due.length→-400000000≤b.due.getD k 0∧b.due.getD k 0≤400000000:=fun k a=>by have h:=B (50 +(k :Int)) (by omega);rw[I.zj.nQ k a]at h;omega
theorem Av{K:Nat}{b:aJ}(I:Inv b)(B:ft K b)(c:K≤400):∀k:Nat,k<b.aL.length→(-400000000≤(b.aL.getD k b7).m∧(b.aL.getD k b7).m≤400000000)∧0≤(b.aL.getD k b7).h∧(b.aL.getD k b7).h≤30000000:=fun k a=>by have h:=B (10+(k:Int)) (by omega);rw[I.zj.nM k a]at h;have h2:=I.held.held k a;have d:=I.held.small k;omega
theorem El(b:aJ)(d:Dd):(jA b d).1.days.length≤b.days.length+1:=by
 by_cases a:d.kind=10;·rw[Lr a];show(b.days++[Dy.qv b.bt]).length≤_;simp
 by_cases c:d.kind=3
 ·by_cases h:(jA b d).2.1=0;·rw[(Jp c h).2.2.2.2];omega
  ·rw[lG b d h];omega
 ·rw[(Iw c a).days];omega
theorem AV(s:aJ×List (Dd ×An))(d:Dd):(ie s d).1.days.length≤s.1.days.length+1:=by
 unfold ie;split;·exact fs _
 ·exact El _ _
def wk(s:aJ×Int)(f:aJ→aJ×Int):aJ×Int:=if s.2=0 then f s.1 else s
theorem zy{s:aJ×Int}{f:aJ→aJ×Int}(h:s.2≠0):wk s f=s:=ai h
theorem lO(b:aJ)(f:aJ→aJ×Int):wk (b,0) f=f b:=rfl
theorem IV(x:aJ×Int)(f:aJ→aJ×Int):jz (wk x f) (kx x f):=by
 obtain⟨b,e⟩:=x;by_cases h:e=0;·subst h;exact fS _
 ·rw[zy h];unfold kx jz;dsimp only;rw[kn h];exact⟨rfl,fun q=>absurd q h⟩
theorem jz.trans{x y z:aJ×Int}(h:jz x y)(g:jz y z):jz x z:=⟨h.1.trans g.1,fun q=>(h.2 (g.1.trans q)).trans (g.2 q)⟩
def mL(s:aJ×Int)(a:Au.Au)(d:Dd):aJ×Int:=if d.mv=2∨d.mv=3 then wk (wk s fun x=>b9 x (10+a.aK) 1 d.sum) fun x=>fM x false ⟨0,1,d.n,d.sum⟩else if d.mv=5 then wk (wk (ky s.1 a.aQ (-d.sum),s.2) fun x=>b9 x (50+a.aQ) 1 d.sum) fun x=>fM x true ⟨0,2,d.n,d.sum⟩else if d.mv=6 then wk s fun x=>b9 x 2 (10 +a.aK) d.sum
 else if d.mv=7 then wk s fun x=>fM x false ⟨0,3,d.n,d.sum⟩else if d.mv=8 then wk s fun x=>b9 x (10+a.aK) 2 d.sum
 else s
def rS(s:aJ×Int)(a:Au.Au)(d:Dd):aJ×Int:=if 100≤s.1.bt.length then(s.1,nY s.2 5)else({ s.1 with bt:=s.1.bt++[⟨a.aQ,d.n,d.mv,d.sum⟩],ax:=s.1.ax.set d.n.toNat a},s.2)
def Mq(b:aJ)(d:Dd)(a:Au.Au):aJ×Int:=rS (mL (cN b a.aK (Au.bK a-Au.bK (b.bz d.n)) (fq d.mv d.sum)) a d) a d
theorem GK{s:aJ×Int}(a:Au.Au)(d:Dd)(h:s.2≠0):(mL s a d).2=s.2∧(mL s a d).1.bt=s.1.bt:=by
 unfold mL;simp only[zy h,zy (s:=(ky s.1 a.aQ (-d.sum),s.2)) h];repeat' split
 all_goals exact⟨rfl,rfl⟩
theorem xe{x:aJ}{src dst n:Int}{i:Bool}{t:Po.Tr}:(wk (b9 x src dst n) fun y=>fM y i t).2=nY (bW x.bM src dst n).2 (Po.fV (x.snd i) t).2∧(wk (b9 x src dst n) fun y=>fM y i t).1.bt=x.bt∧((wk (b9 x src dst n) fun y=>fM y i t).2=0→(wk (b9 x src dst n) fun y=>fM y i t).1={x with bM:=(bW x.bM src dst n).1,snd:=eu x.snd i (Po.fV (x.snd i) t).1}):=by
 by_cases h:(bW x.bM src dst n).2=0
 ·rw[gx h,lO,h,dq];unfold fM;dsimp only;split;·rename_i q;exact⟨rfl,rfl,fun z=>absurd z q⟩
  ·rename_i q;exact⟨(Decidable.not_not.1 q).symm,rfl,fun _=>rfl⟩
 ·have e:b9 x src dst n=(x,(bW x.bM src dst n).2):=by unfold b9;rw[aB h]
  rw[e,zy h,kn h];exact⟨rfl,rfl,fun z=>absurd z h⟩
theorem wD{x:aJ}{src dst n:Int}:(b9 x src dst n).2=nY (bW x.bM src dst n).2 0∧(b9 x src dst n).1.bt=x.bt∧((b9 x src dst n).2=0→(b9 x src dst n).1={x with bM:=(bW x.bM src dst n).1}):=by
 rw[IS];unfold b9;split;·rename_i q;exact⟨rfl,rfl,fun z=>absurd z q⟩
 ·rename_i q;exact⟨(Decidable.not_not.1 q).symm,rfl,fun _=>rfl⟩
theorem Jj{x:aJ}{k:Int}:x.due.set k.toNat (x.dG k+0)=x.due:=by rw[q9];exact zr _ _ 0 _ rfl
theorem DY(x:aJ)(a:Au.Au)(d:Dd):(mL (x,0) a d).2=nY (eK x.bM a d.mv d.sum).2 (dE x.snd d.mv d.n d.sum).2∧(mL (x,0) a d).1.bt=x.bt∧((mL (x,0) a d).2=0→(mL (x,0) a d).1={x with due:=x.due.set a.aQ.toNat (x.dG a.aQ+nk d.mv d.sum),bM:=(eK x.bM a d.mv d.sum).1,snd:=(dE x.snd d.mv d.n d.sum).1}):=by
 unfold mL eK dE;by_cases c:d.mv=5
 ·have k:¬(d.mv =2∨d.mv=3):=by omega
  have e:nk d.mv d.sum=-d.sum:=aB c;simp only[ai k,aB c,lO,e];exact xe (x:=ky x a.aQ (-d.sum))
 have e:nk d.mv d.sum=0:=ai c;rw[e,Jj];by_cases h:d.mv=2∨d.mv=3;·simp only[aB h,lO];exact xe
 simp only[ai h,ai c,lO];by_cases b:d.mv=6
 ·have j:¬d.mv=7:=by omega
  simp only[aB b,ai j];exact wD
 by_cases f:d.mv=7
 ·have i:¬d.mv=8:=by omega
  simp only[ai b,aB f,ai i,dq];unfold fM;split;·rename_i q;exact⟨rfl,rfl,fun z=>absurd z q⟩
  ·rename_i q;exact⟨(Decidable.not_not.1 q).symm,rfl,fun _=>rfl⟩
 by_cases g:d.mv=8;·simp only[ai b,ai f,aB g];exact wD
 ·simp only[ai b,ai f,ai g];exact⟨rfl,trivial,fun _=>trivial⟩
def xh(b:aJ)(d:Dd):aJ×Int:=if b.down=true then(b,12)else if d.n<0∨(b.ax.length:Int)≤d.n then(b,6)else if Au.ez (b.bz d.n) d.mv d.sum≠0 then(b,Au.ez (b.bz d.n) d.mv d.sum)else if d.mv=1∧(b.aK (b.bz d.n).aK).m-(b.aK (b.bz d.n).aK).h<d.sum then(b,10)else Mq b d (iT b d)
theorem Cj{b:aJ}{d:Dd}(i:(iT b d).aK=(b.bz d.n).aK)(h:(iT b d).aQ=(b.bz d.n).aQ):jz (xh b d) (mD b d):=by
 unfold xh mD;refine fp fun _=>fp fun _=>fp fun _=>fp fun _=>?_;unfold Mq;have j:eK b.bM (iT b d) d.mv d.sum=eK b.bM (b.bz d.n) d.mv d.sum:=by unfold eK;rw[i,h]
 rw[i];by_cases h1:(gi b d).2=0
 ·have e:cN b (b.bz d.n).aK (Au.bK (iT b d)-Au.bK (b.bz d.n)) (fq d.mv d.sum)=({ b with aL:=b.aL.set (b.bz d.n).aK.toNat (gi b d).1},0):=by unfold gi at h1⊢;unfold cN;rw[ai (by simpa using h1)]
  rw[e,ai (by simpa using h1)];obtain⟨a,f,c⟩:=DY {b with aL:=b.aL.set (b.bz d.n).aK.toNat (gi b d).1} (iT b d) d;dsimp only at a f c;rw[j]at a c;rw[h]at c;generalize mL ({ b with aL:=b.aL.set (b.bz d.n).aK.toNat (gi b d).1},0) (iT b d) d=s at a f c;obtain⟨y,k⟩:=s;dsimp only at a f c;unfold rS;dsimp only;rw[f];by_cases h2:(eK b.bM (b.bz d.n) d.mv d.sum).2=0
  ·rw[h2,dq]at a;rw[ai (show ¬(eK b.bM (b.bz d.n) d.mv d.sum).2≠0 from fun q=>q h2)];by_cases g:(dE b.snd d.mv d.n d.sum).2=0
   ·rw[g]at a;subst a;rw[ai (show ¬(dE b.snd d.mv d.n d.sum).2≠0 from fun q=>q g),c rfl,h];split;·exact⟨rfl,fun q=>absurd q (by show¬(5 :Int)=0;decide)⟩
    ·exact⟨rfl,fun _=>rfl⟩
   ·rw[aB g,a];split;·exact⟨kn g,fun q=>absurd q g⟩
    ·exact⟨rfl,fun q=>absurd q g⟩
  ·rw[kn h2]at a;rw[aB h2,a];split;·exact⟨kn h2,fun q=>absurd q h2⟩
   ·exact⟨rfl,fun q=>absurd q h2⟩
 ·have e:cN b (b.bz d.n).aK (Au.bK (iT b d)-Au.bK (b.bz d.n)) (fq d.mv d.sum)=(b,(gi b d).2):=by unfold gi at h1⊢;unfold cN;rw[aB h1]
  rw[e,aB h1];obtain⟨a,f⟩:=GK (s:=(b,(gi b d).2)) (iT b d) d h1;unfold rS;rw[a,f];split;·exact⟨kn h1,fun q=>absurd q h1⟩
  ·exact⟨rfl,fun q=>absurd q h1⟩
def qn(b:aJ)(d:Dd):aJ×Int:=if d.n<0∨(b.aL.length:Int)≤d.n then(b,6)else if d.sum<1∨1000000<d.sum then(b,3)else wk (cN b d.n 0 d.sum) fun x=>b9 x 0 (10 +d.n) d.sum
theorem BK(b:aJ)(d:Dd):jz (qn b d) (nZ b d):=by refine jz.trans (y:=m6 b d) ?_ (wo b d);unfold qn m6;exact fp fun _=>fp fun _=>IV _ _
def vF(b:aJ)(d:Dd):aJ×Int:=if d.n<0∨(b.due.length :Int)≤d.n then(b,6)else if b.dG d.n<1 then(b,10)else({(b9 b (50 +d.n) 0 (b.dG d.n)).1 with due:=b.due.set d.n.toNat 0},(b9 b (50 +d.n) 0 (b.dG d.n)).2)
theorem EG(b:aJ)(d:Dd):jz (vF b d) (sa b d):=by
 unfold vF sa;refine fp fun _=>fp fun _=>?_;by_cases q:(bW b.bM (50+d.n) 0 (b.dG d.n)).2=0;·rw[gx q,ai (by simpa using q)];exact⟨rfl,fun _=>rfl⟩
 ·have e:b9 b (50+d.n) 0 (b.dG d.n)=(b,(bW b.bM (50 +d.n) 0 (b.dG d.n)).2):=by unfold b9;rw[aB q]
  rw[e,aB q];exact⟨rfl,fun h=>absurd h q⟩
def qt(b:aJ)(t:Po.Tr):aJ×Int:=if t.k=1 then b9 (ky b (b.bz t.a).aQ t.s) 1 (50+(b.bz t.a).aQ) t.s
 else if t.k=2 then wk (cN b (b.bz t.a).aK 0 t.s) fun x=>b9 x 1 (10 +(b.bz t.a).aK) t.s
 else b9 (ky b (b.bz t.a).aQ (-t.s)) (50 +(b.bz t.a).aQ) 2 t.s
def sj(b:aJ)(i:Bool)(p:Pk):aJ×Int:=if 0≤p.aX then pD (gone b i) i p.aX
 else if p.t.n≠b.aX i+1∨1000000≤b.aX i then(gone b i,0)else qt (eJ b i) p.t
theorem x_{b:aJ}(I:Inv b){i:Bool}{p:Pk}(c:p∈b.dY i):jz (sj b i p) (i7 b i p):=by
 refine jz.trans (y:=h_ b i p) ?_ (pI I c);unfold sj h_;refine fp fun _=>?_;have s0:=I.bD.i9 i;by_cases a:Po.taken (b.aX i) p.t.n=true
 ·obtain⟨h1,h2,d⟩:=Po.lh.1 a;rw[aB a,ai (by omega)];unfold qt kK;refine fp fun _=>?_;split;·exact IV _ _
  ·exact fS _
 ·rw[ai a,aB (by have :=Po.lK.1 (Bool.not_eq_true _▸a);omega)];exact fS _
theorem FA{b:aJ}(I:Inv b){k:Nat}(a:k<b.ax.length):∃cs,cN (dZ b k) (b.ax.getD k zA).aK (Au.bK (Au.ey (b.ax.getD k zA) b.time)-Au.bK (b.ax.getD k zA)) 0=({ dZ b k with aL:=cs},0)∧dZ b (k +1)={dZ b k with aL:=cs,ax:=(dZ b k).ax.set k (Au.ey (b.ax.getD k zA) b.time)}:=by
 have h:=vK I a;unfold dL at h;have c:(dZ b k).bz (k :Int)=b.ax.getD k zA:=rN b k a;rw[c,bN]at h;unfold cN at h⊢;show∃cs,(if (cF ((dZ b k).aK (b.ax.getD k zA).aK) (Au.bK (Au.ey (b.ax.getD k zA) b.time)-Au.bK (b.ax.getD k zA)) 0).2≠0 then _ else _)=_∧_;split at h;·rename_i q;exact absurd (ix Prod.snd h) q
 ·rename_i q;rw[ai (show¬(cF ((dZ b k).aK (b.ax.getD k zA).aK) (Au.bK (Au.ey (b.ax.getD k zA) b.time)-Au.bK (b.ax.getD k zA)) 0).2≠0 from q)];exact⟨_,rfl,(ix Prod.fst h).symm⟩
theorem wu(id:Int)(y:Dd×An):∀T:List (Dd×An),told id (T++[y])=match told id T with|some a=>some a|none=>if y.1.id=id then some y.2 else none
 |[]=>rfl
 |x::r=>by
  show(if x.1.id=id then some x.2 else told id (r ++[y]))=match(if x.1.id=id then some x.2 else told id r)with|some a=>some a|none=>if y.1.id=id then some y.2 else none;by_cases q:x.1.id=id;·rw[aB q,aB q]
  ·rw[ai q,ai q,wu id y r]
def Jl(T:List (Dd ×An)):Prop:=∀x∈T,x.1.id≠0→told x.1.id T=some x.2
theorem JB:Jl []:=fun _ h=>by cases h
theorem Jl.snoc{T:List (Dd×An)}(h:Jl T){y:Dd×An}(hy:y.1.id≠0→told y.1.id T=none∨told y.1.id T=some y.2):Jl (T ++[y]):=by
 intro x a h0;rw[wu];rcases List.mem_append.1 a with a|a;·rw[h x a h0]
 ·obtain rfl:=List.mem_singleton.1 a;rcases hy h0 with q|q;·rw[q];simp
  ·rw[q]
theorem DW{b:aJ}{T:List (Dd ×An)}(h:Jl T)(d:Dd):Jl (ie (b,T) d).2:=by
 unfold ie;by_cases h0:d.id=0;·rw[aB h0];exact h.snoc fun q=>absurd h0 q
 ·rw[ai h0]
  cases c:told d.id T with
  |none=>exact h.snoc fun _=>Or.inl c
  |some a=>exact h.snoc fun _=>Or.inr c
theorem IB(l:List Dd):∀s:aJ×List (Dd ×An),Jl s.2→Jl (l.foldl ie s).2:=by
 induction l with
 |nil=>exact fun _ h=>h
 |cons d r a=>exact fun s h=>a _ (DW (b:=s.1) (T:=s.2) h d)
theorem GZ(b:aJ)(l:List Dd):Jl (dQ b l).2:=IB l (b,[]) JB
theorem wG{id:Int}:∀{T:List (Dd ×An)},(∀ x∈T,x.1.id≠id)→told id T=none
 |[],_=>rfl
 |x::r,h=>by unfold told;rw[ai (h x bT)];exact wG fun y hy=>h y (cR _ hy)
theorem Lf(b:aJ)(d:Dd):(jA b d).2.1≠0→(jA b d).2.2=0:=by
 unfold jA;by_cases c:d.kind=1;·rw[aB c];exact fun _=>rfl
 rw[ai c];by_cases a:d.kind=2
 ·rw[aB a];unfold lq eA gI;repeat' split
  all_goals first|exact fun _=>rfl|exact fun h=>absurd rfl h
 rw[ai a];repeat' split
 all_goals exact fun _=>rfl
