import Derived.Test.YtigiogjefnkpdaaGreatDoorKad
import Derived.Test.YtigiogjefnkpdaaGreatDoorKaf
import Derived.Test.YtigiogjefnkpdaaGreatDoorKaj
import Derived.Test.YtigiogjefnkpdaaGreatDoorKau
import Derived.Test.YtigiogjefnkpdaaGreatDoorKba
import Derived.Test.YtigiogjefnkpdaaGreatDoorKbe
set_option maxHeartbeats 4000000
set_option maxRecDepth 100000
open Go.Proofs.Tryz
namespace Go.Proofs.YtigiogjefnkpdaaGreatDoor.Bn
open RowKit Gn
structure CV where
 c:Ca
 a:Option Addr
 cap:Nat
structure DV where
 l:List Int
 a:Option Addr
 cap:Nat
 fit:l.length≤cap
def j0:CV:=⟨b7,none,0⟩
def Lu:Pk:=⟨Po.dA,0⟩
def kC:Kind CV where
 cells:=fun x=>[.int .i64 x.c.m,.int .i64 x.c.h,.int .i64 x.c.p.t,.int .i64 x.c.p.c,.int .i64 x.c.p.s,.slice x.a x.c.u.length x.cap]
 size:=6
 len:=fun _=>rfl
 one:=fun x u b=>by simp at b;rcases b with rfl|rfl|rfl|rfl|rfl|rfl<;>rfl
 pos:=by decide
def kU:Kind (Int ×Int) where
 cells:=fun x=>[.int .i64 x.1,.int .i64 x.2]
 size:=2
 len:=fun _=>rfl
 one:=fun x u a=>by simp at a;rcases a with rfl|rfl<;>rfl
 pos:=by decide
def qx:Kind Au.Au where
 cells:=fun a=>[.int .i64 a.aK,.int .i64 a.aQ,.int .i64 a.sum,.int .i64 a.cap,.int .i64 a.ref,.int .i64 a.eB,.int .i64 a.cJ,.bool a.shut]
 size:=8
 len:=fun _=>rfl
 one:=fun x u b=>by simp at b;rcases b with rfl|rfl|rfl|rfl|rfl|rfl|rfl|rfl<;>rfl
 pos:=by decide
def kP:Kind Pk where
 cells:=fun p=>[.int .i64 p.t.n,.int .i64 p.t.k,.int .i64 p.t.a,.int .i64 p.t.s,.int .i64 p.aX]
 size:=5
 len:=fun _=>rfl
 one:=fun x u b=>by simp at b;rcases b with rfl|rfl|rfl|rfl|rfl<;>rfl
 pos:=by decide
def kD:Kind DV where
 cells:=fun x=>[.slice x.a x.l.length x.cap]
 size:=1
 len:=fun _=>rfl
 one:=fun x u b=>by simp at b;subst b;rfl
 pos:=by decide
theorem LY:(prog.info? 66).map (fun i=>(i.zero,i.size,i.bytes))=some (some (.agg #[.int .i64 0,.int .i64 0,.int .i64 0,.int .i64 0,.int .i64 0,.slice none 0 0]),6,64):=by kernel_rfl
theorem KS:(prog.info? 78).map (fun i=>(i.zero,i.size,i.bytes))=some (some (.agg #[.int .i64 0,.int .i64 0,.int .i64 0,.int .i64 0,.int .i64 0,.int .i64 0,.int .i64 0,.bool false]),8,64):=by kernel_rfl
theorem LJ:(prog.info? 84).map (fun i=>(i.zero,i.size,i.bytes))=some (some (.agg #[.int .i64 0,.int .i64 0,.int .i64 0,.int .i64 0,.int .i64 0]),5,40):=by kernel_rfl
theorem LP:(prog.info? 79).map (fun i=>(i.zero,i.size,i.bytes))=some (some (.slice none 0 0),1,24):=by kernel_rfl
theorem DK:sc prog kC 26 66 64:=by obtain⟨i,h1,h2,b,a⟩:=info_parts LY;exact⟨underlying26,i,_,h1,h2,b,a,rfl⟩
theorem s_:sc prog qx 28 78 64:=by obtain⟨i,h1,h2,b,a⟩:=info_parts KS;exact⟨underlying28,i,_,h1,h2,b,a,rfl⟩
theorem rB:sc prog kP 34 84 40:=by obtain⟨i,h1,h2,b,a⟩:=info_parts LJ;exact⟨underlying34,i,_,h1,h2,b,a,rfl⟩
theorem Db:sc prog kD 40 79 24:=by obtain⟨i,h1,h2,b,a⟩:=info_parts LP;exact⟨underlying40,i,_,h1,h2,b,a,rfl⟩
theorem Hp{L:List (Int×Int)}{i:Nat}(hi:i<L.length):(kU.flat L)[i*2]?=some (.int .i64 (L.getD i (0,0)).1)∧(kU.flat L)[i*2+1]?=some (.int .i64 (L.getD i (0,0)).2):=by
 have a:L[i]?=some (L.getD i (0,0)):=by simp[List.getD,hi]
 exact⟨kU.oo a (j:=0) rfl,kU.oo a (j:=1) rfl⟩
theorem yJ{w:World}{b off:Nat}{L:List (Int ×Int)}(h:∀j u,(kU.flat L)[j]?=some u→w.cell? ⟨b,off+j,none⟩=some u):∀i,i<L.length→w.cell? ⟨b,off+i*2,none⟩=some (.int .i64 (L.getD i (0,0)).1)∧w.cell? ⟨b,off+i*2+1,none⟩=some (.int .i64 (L.getD i (0,0)).2):=fun i hi=>
 ⟨h _ _ (Hp hi).1,by rw[Nat.add_assoc];exact h _ _ (Hp hi).2⟩
theorem zt{w:World}{b off:Nat}{L:List (Int ×Int)}(h:∀i,i<L.length→w.cell? ⟨b,off+i*2,none⟩=some (.int .i64 (L.getD i (0,0)).1)∧w.cell? ⟨b,off+i*2+1,none⟩=some (.int .i64 (L.getD i (0,0)).2)):∀j u,(kU.flat L)[j]?=some u→w.cell? ⟨b,off+j,none⟩=some u:=by
 intro j u a;have g:j<L.length*2:=by have :=(List.getElem?_eq_some_iff.1 a).1;rw[kU.ej]at this;exact this
 obtain⟨d,c⟩:=Hp (L:=L) (i:=j/2) (by omega);obtain⟨c1,c2⟩:=h (j /2) (by omega);rcases Nat.mod_two_eq_zero_or_one j with f|f
 ·have e:j/2*2=j:=by omega
  rw[e]at d c1;rw[d]at a;cases a;exact c1
 ·have e:j/2*2+1=j:=by omega
  rw[Nat.add_assoc]at c2;rw[e]at c c2;rw[c]at a;cases a;exact c2
theorem pO{w:World}{a:Option Addr}{cap:Nat}{L:List (Int ×Int)}(h:Gn.bF kU w a cap L):Bk.ff w a L:=by
 refine⟨h.len,?_⟩;rcases h.at' with h0|⟨b,off,e,c,d⟩;·exact Or.inl h0
 ·exact Or.inr ⟨b,off,e,c,yJ d⟩
theorem w_{w:World}{a:Option Addr}{cap:Nat}{L:List (Int×Int)}(h:Bk.ff w a L)(d:a=none→cap=0):Gn.bF kU w a cap L:=by
 refine⟨h.1,d,?_⟩;rcases h.2 with h0|⟨b,off,f,c,e⟩;·exact Or.inl h0
 ·exact Or.inr ⟨b,off,f,c,zt e⟩
theorem jh{w:World}{a:Option Addr}{cap:Nat}{L:List (Int×Int)}(h:Gn.bF kU w a cap L):Go.Proofs.YtigiogjefnkpdaaGreatDoor.bF w a cap L:=by
 refine⟨⟨h.len,?_⟩,h.nil⟩;rcases h.at' with h0|⟨b,off,e,c,d⟩;·exact Or.inl h0
 ·exact Or.inr ⟨b,off,e,c,yJ d⟩
theorem ib{w:World}{a:Option Addr}{cap:Nat}{L:List (Int ×Int)}(h:Go.Proofs.YtigiogjefnkpdaaGreatDoor.bF w a cap L):Gn.bF kU w a cap L:=by
 refine⟨h.oz.1,h.nil,?_⟩;rcases h.oz.2 with h0|⟨b,off,e,c,d⟩;·exact Or.inl h0
 ·exact Or.inr ⟨b,off,e,c,zt d⟩
structure Vs where
 c:Value
 d:Value
 a:Value
 kp:Bool→Value
 wy:Bool→Value
 us:Value
 ad:Value
 td:Value
 dy:Value
 bk:Value
def wl(i:Bool):Nat:=if i=true then 6 else 5
theorem kH(i:Bool)(j:Nat)(h:j<5∨6<j):wl i≠j:=by unfold wl;split<;>omega
theorem yC{i j:Bool}(h:i≠j):wl i≠wl j:=by cases i<;>cases j<;>simp_all[wl]
structure Mem(w:World)(aI:bI)(aq:Nat)(b:aJ)(v:Vs)(cs:List CV)(ds:List DV):Prop where
 aL:Tp kC 66 aI aq w v.c cs 2
 ov:cs.map CV.c=b.aL
 cP:∀x∈cs,Ap kU aI w (.slice x.a x.c.u.length x.cap) x.c.u 0
 due:Tp kI 3 aI aq w v.d b.due 3
 ax:Tp qx 78 aI aq w v.a b.ax 4
 bj:∀i,Ap Po.kT aI w (v.kp i) (b.snd i).bj 0
 ways:∀i,Ap kP aI w (v.wy i) (b.dY i) (wl i)used:Ap kI aI w v.us b.bn.used 0
 bL:Ap St.kA aI w v.ad b.bn.bL 0
 bt:Tp Dy.kR 103 aI aq w v.td b.bt 7
 days:Tp kD 79 aI aq w v.dy ds 8
 ox:ds.map DV.l=b.days
 files:∀x∈ds,Ap kB aI w (.slice x.a x.l.length x.cap) x.l 0
 bM:Ap kU aI w v.bk b.bM 0
 hi:∀k,1≤aI k→aI k≤8→aq≤k
 lo:aq≤w.heap.size
theorem fZ{aI:bI}{aq n j:Nat}(h:∀k,1≤aI k→aI k≤8→aq≤k)(b:aq≤n):∀k,1≤aT aI n j k→aT aI n j k≤8→aq≤k:=by
 intro k;by_cases a:k<n;·rw[aV a];exact h k
 ·intro _ _;omega
theorem Mem.on{w d:World}{aI:bI}{aq:Nat}{b:aJ}{v:Vs}{cs:List CV}{e:List DV}{j:Nat}(h:Mem w aI aq b v cs e)(a:fh aI j w d)(f:j=0∨j=1):Mem d (aT aI w.heap.size j) aq b v cs e:=⟨h.aL.move a (by omega),h.ov,fun x c=>(h.cP x c).move a (by omega),h.due.move a (by omega),h.ax.move a (by omega),fun i=>(h.bj i).move a (by omega),fun i=>(h.ways i).move a (by have:= kH i 1 (by omega);omega),h.used.move a (by omega),h.bL.move a (by omega),h.bt.move a (by omega),h.days.move a (by omega),h.ox,fun x c=>(h.files x c).move a (by omega),h.bM.move a (by omega),fZ h.hi h.lo,bE h.lo a.size⟩
theorem Mem.JQ{w e:World}{aI:bI}{aq:Nat}{b:aJ}{v:Vs}{cs:List CV}{g:List DV}(h:Mem w aI aq b v cs g)(d:fh aI 2 w e){cs':List CV}(k:Tp kC 66 (aT aI w.heap.size 2) aq e v.c cs' 2)(j:∀x∈cs',Ap kU aI w (.slice x.a x.c.u.length x.cap) x.c.u 0):Mem e (aT aI w.heap.size 2) aq {b with aL:=cs'.map CV.c} v cs' g:=⟨k,rfl,fun x f=>(j x f).move d (by omega),h.due.move d (by omega),h.ax.move d (by omega),fun i=>(h.bj i).move d (by omega),fun i=>(h.ways i).move d (by have:= kH i 2 (by omega);omega),h.used.move d (by omega),h.bL.move d (by omega),h.bt.move d (by omega),h.days.move d (by omega),h.ox,fun x f=>(h.files x f).move d (by omega),h.bM.move d (by omega),fZ h.hi h.lo,bE h.lo d.size⟩
theorem Mem.Ly{w c:World}{aI:bI}{aq:Nat}{b:aJ}{v:Vs}{cs:List CV}{f:List DV}(h:Mem w aI aq b v cs f)(a:fh aI 3 w c){L:List Int}(g:Tp kI 3 (aT aI w.heap.size 3) aq c v.d L 3):Mem c (aT aI w.heap.size 3) aq {b with due:=L} v cs f:=⟨h.aL.move a (by omega),h.ov,fun x e=>(h.cP x e).move a (by omega),g,h.ax.move a (by omega),fun i=>(h.bj i).move a (by omega),fun i=>(h.ways i).move a (by have:= kH i 3 (by omega);omega),h.used.move a (by omega),h.bL.move a (by omega),h.bt.move a (by omega),h.days.move a (by omega),h.ox,fun x e=>(h.files x e).move a (by omega),h.bM.move a (by omega),fZ h.hi h.lo,bE h.lo a.size⟩
theorem Mem.rn{w d:World}{aI:bI}{aq:Nat}{b:aJ}{v:Vs}{cs:List CV}{f:List DV}(h:Mem w aI aq b v cs f)(c:fh aI 4 w d){L:List Au.Au}{va:Value}(g:Tp qx 78 (aT aI w.heap.size 4) aq d va L 4):Mem d (aT aI w.heap.size 4) aq {b with ax:=L} {v with a:=va} cs f:=⟨h.aL.move c (by omega),h.ov,fun x e=>(h.cP x e).move c (by omega),h.due.move c (by omega),g,fun i=>(h.bj i).move c (by omega),fun i=>(h.ways i).move c (by have:= kH i 4 (by omega);omega),h.used.move c (by omega),h.bL.move c (by omega),h.bt.move c (by omega),h.days.move c (by omega),h.ox,fun x e=>(h.files x e).move c (by omega),h.bM.move c (by omega),fZ h.hi h.lo,bE h.lo c.size⟩
theorem Mem.xZ{w c:World}{aI:bI}{aq:Nat}{b:aJ}{v:Vs}{cs:List CV}{e:List DV}(h:Mem w aI aq b v cs e)(a:fh aI 7 w c){L:List Dy.Rc}{va:Value}(f:Tp Dy.kR 103 (aT aI w.heap.size 7) aq c va L 7):Mem c (aT aI w.heap.size 7) aq {b with bt:=L} {v with td:=va} cs e:=⟨h.aL.move a (by omega),h.ov,fun x d=>(h.cP x d).move a (by omega),h.due.move a (by omega),h.ax.move a (by omega),fun i=>(h.bj i).move a (by omega),fun i=>(h.ways i).move a (by have :=kH i 7 (by omega);omega),h.used.move a (by omega),h.bL.move a (by omega),f,h.days.move a (by omega),h.ox,fun x d=>(h.files x d).move a (by omega),h.bM.move a (by omega),fZ h.hi h.lo,bE h.lo a.size⟩
theorem Mem.KP{w e:World}{aI:bI}{aq:Nat}{b:aJ}{v:Vs}{cs:List CV}{k:List DV}(h:Mem w aI aq b v cs k)(c:fh aI 8 w e){d:List DV}{va:Value}(j:Tp kD 79 (aT aI w.heap.size 8) aq e va d 8)(g:∀x∈d,Ap kB aI w (.slice x.a x.l.length x.cap) x.l 0):Mem e (aT aI w.heap.size 8) aq {b with days:=d.map DV.l} {v with dy:=va} cs d:=⟨h.aL.move c (by omega),h.ov,fun x f=>(h.cP x f).move c (by omega),h.due.move c (by omega),h.ax.move c (by omega),fun i=>(h.bj i).move c (by omega),fun i=>(h.ways i).move c (by have:= kH i 8 (by omega);omega),h.used.move c (by omega),h.bL.move c (by omega),h.bt.move c (by omega),j,rfl,fun x f=>(g x f).move c (by omega),h.bM.move c (by omega),fZ h.hi h.lo,bE h.lo c.size⟩
theorem Mem.LN{w c:World}{aI:bI}{aq:Nat}{b:aJ}{v:Vs}{cs:List CV}{f:List DV}(h:Mem w aI aq b v cs f)(i:Bool)(a:fh aI (wl i) w c){L:List Pk}{va:Value}(g:Ap kP (aT aI w.heap.size (wl i)) c va L (wl i)):Mem c (aT aI w.heap.size (wl i)) aq {b with dY:=eu b.dY i L} {v with wy:=eu v.wy i va} cs f:=by
 have o:=kH i 2 (by omega);have n:=kH i 3 (by omega);have m:=kH i 4 (by omega);have l:=kH i 7 (by omega);have k:=kH i 8 (by omega);have n0:=kH i 0 (by omega);refine⟨h.aL.move a (by omega),h.ov,fun x d=>(h.cP x d).move a (by omega),h.due.move a (by omega),h.ax.move a (by omega),fun i=>(h.bj i).move a (by omega),fun j=>?_,h.used.move a (by omega),h.bL.move a (by omega),h.bt.move a (by omega),h.days.move a (by omega),h.ox,fun x d=>(h.files x d).move a (by omega),h.bM.move a (by omega),fZ h.hi h.lo,bE h.lo a.size⟩;unfold eu;by_cases e:j=i;·subst e;simp only[if_true];exact g
 ·simp only[e,CL];exact(h.ways j).move a (Or.inr (yC e))
theorem Mem.qN{w:World}{aI:bI}{aq:Nat}{b:aJ}{v:Vs}{cs:List CV}{a:List DV}(h:Mem w aI aq b v cs a)(i:Bool){s:Po.Se}{va:Value}(c:Ap Po.kT aI w va s.bj 0):Mem w aI aq {b with snd:=eu b.snd i s} {v with kp:=eu v.kp i va} cs a:=by
 refine⟨h.aL,h.ov,h.cP,h.due,h.ax,fun j=>?_,h.ways,h.used,h.bL,h.bt,h.days,h.ox,h.files,h.bM,h.hi,h.lo⟩;unfold eu;by_cases e:j=i;·subst e;simp only[if_true];exact c
 ·simp only[e,CL];exact h.bj j
theorem Mem.Gj{w:World}{aI:bI}{aq:Nat}{b:aJ}{v:Vs}{cs:List CV}{a:List DV}(h:Mem w aI aq b v cs a){L:List (Int×Int)}{va:Value}(c:Ap kU aI w va L 0):Mem w aI aq {b with bM:=L} {v with bk:=va} cs a:=⟨h.aL,h.ov,h.cP,h.due,h.ax,h.bj,h.ways,h.used,h.bL,h.bt,h.days,h.ox,h.files,c,h.hi,h.lo⟩
theorem Mem.JL{w:World}{aI:bI}{aq:Nat}{b:aJ}{v:Vs}{cs:List CV}{c:List DV}(h:Mem w aI aq b v cs c){s:St.Sd}{a v2:Value}(h1:Ap kI aI w a s.used 0)(h2:Ap St.kA aI w v2 s.bL 0):Mem w aI aq {b with bn:=s} {v with us:=a,ad:=v2} cs c:=⟨h.aL,h.ov,h.cP,h.due,h.ax,h.bj,h.ways,h1,h2,h.bt,h.days,h.ox,h.files,h.bM,h.hi,h.lo⟩
theorem Mem.Ic{w:World}{aI:bI}{aq:Nat}{b:aJ}{v:Vs}{cs:List CV}{a:List DV}(h:Mem w aI aq b v cs a)(i:Bool){L:List Pk}{va:Value}(c:Ap kP aI w va L (wl i)):Mem w aI aq {b with dY:=eu b.dY i L} {v with wy:=eu v.wy i va} cs a:=by
 refine⟨h.aL,h.ov,h.cP,h.due,h.ax,h.bj,fun j=>?_,h.used,h.bL,h.bt,h.days,h.ox,h.files,h.bM,h.hi,h.lo⟩;unfold eu;by_cases e:j=i;·subst e;simp only[if_true];exact c
 ·simp only[e,CL];exact h.ways j
theorem Mem.zO{w:World}{aI:bI}{aq:Nat}{b:aJ}{v:Vs}{cs:List CV}{a:List DV}(h:Mem w aI aq b v cs a):Mem w aI aq {b with bt:=[]} {v with td:=.slice none 0 0} cs a:=⟨h.aL,h.ov,h.cP,h.due,h.ax,h.bj,h.ways,h.used,h.bL,ve,h.days,h.ox,h.files,h.bM,h.hi,h.lo⟩
theorem Mem.plain{w:World}{aI:bI}{aq:Nat}{b:aJ}{v:Vs}{cs:List CV}{a:List DV}(h:Mem w aI aq b v cs a)(t:Int)(d:Bool)(c:Bool→Int):Mem w aI aq {b with time:=t,down:=d,aX:=c} v cs a:=⟨h.aL,h.ov,h.cP,h.due,h.ax,h.bj,h.ways,h.used,h.bL,h.bt,h.days,h.ox,h.files,h.bM,h.hi,h.lo⟩
def dc(b:aJ)(v:Vs)(tm:Value):Array Value:=#[.int .i64 b.time,.bool b.down,v.c,v.d,v.a,.int .i64 (b.snd false).bD,v.kp false,.int .i64 (b.snd true).bD,v.kp true,.int .i64 (b.aX false),.int .i64 (b.aX true),v.wy false,v.wy true,.int .i64 b.bn.cap,v.us,v.ad,v.td,v.dy,v.bk,tm]
def KQ:Value→TypeId
 |.int _ _=>70
 |_=>58
def jZ(b:aJ)(v:Vs)(tm:Value):Obj:=.cells (dc b v tm) (KQ tm)
structure Hand(w:World)(g aq:Nat)(aI:bI)(b:aJ)(v:Vs)(cs:List CV)(ds:List DV)(tm:Value):Prop where
 mem:Mem w aI aq b v cs ds
 bR:w.heap[g]?=some (jZ b v tm)lb:aI g=1
def cC(w:World)(g aq:Nat)(aI:bI)(b:aJ)(tm:Value):Prop:=∃v cs a,Hand w g aq aI b v cs a tm
theorem aW{p:Prop}(h:p):Hid p:=h
theorem aM{W X:World}(h:Below W.heap.size W X)(o:Obj):Below W.heap.size W (X.alloc o):=h.alloc h.size o
theorem bP{k:IntKind}{a b:Int}(h:a=b):Ending.returned (.int k a)=.returned (.int k b):=by rw[h]
def AY:List Int→Int
 |[]=>0
 |x::r=>if x≠0 then x else AY r
theorem CS(x y:Int):AY [x,y]=nY x y:=by
 unfold nY;simp only[AY];split;·rfl
 ·split;·rfl
  ·rename_i h;exact(Decidable.not_not.1 h).symm
theorem Ey(x y z:Int):AY [x,y,z]=nY x (nY y z):=by have :=CS y z;unfold nY at*;simp only[AY]at*;rw[this]
theorem Gq{L:List Int}{k:Nat}(a:k<L.length):L.drop k=L.getD k 0::L.drop (k+1):=by rw[gj a];simp[List.getD,a]
theorem xM(L:List Int)(b c:Nat)(w:World)(p:L.length≤10)(h:∀i,i<L.length→w.cell? ⟨b,i,none⟩=some (.int .i64 (L.getD i 0))):Calls prog 66 #[.slice (some ⟨b,0,none⟩) L.length c] w fun e m=>e=.returned (.int .i64 (AY L))∧m=w:=by
 go_enter func66,ntmps66;go_wp2;go_loopw[8](fun i wr=>∃k:Nat,k≤L.length∧i=.int .i64 k∧wr=w∧Hid (AY L=AY (L.drop k))) (fun i _=>L.length-(intOf i).toNat);case atStart=>exact⟨0,bq _,rfl,rfl,aW (by simp)⟩
 case round=>
  obtain⟨k,o,rfl,rfl,g⟩:=hrel;by_cases d:k<L.length
  ·have l:(k :Int)<L.length:=by omega
   have q:=h k d;have f:=aW (g.out.trans (ix AY (Gq d)));clear g h;generalize L.getD k 0=x at*;by_cases h0:x=0
   ·have n:(x==0)=true:=by simpa using h0
    have j:(x !=0)=false:=by simpa using h0
    have a:Hid (AY L=AY (L.drop (k +1))):=aW (by rw[f.out];simp only[AY];rw[ai (by simpa using h0)]);clear h0 f;go_wp2;go_roundw;case rel=>exact⟨k+1,by omega,by go_num,trivial,a⟩
    case measure=>simp[intOf];omega
   ·have n:(x ==0)=false:=by simpa using h0
    have j:(x !=0)=true:=by simpa using h0
    have a:Hid (AY L=x):=aW (by rw[f.out];simp only[AY];rw[aB h0]);clear h0 f;go_wp2;go_ret;exact⟨bP a.out.symm,rfl⟩
  ·have a:Hid (AY L=0):=aW (by rw[g.out,cM (by omega)];rfl);go_wp2;go_ret;exact⟨bP a.out.symm,rfl⟩
def xE(n:Int)(m:Nat):Bool:=decide (0 ≤n)&&decide (n <m)
theorem jW{n:Int}{m:Nat}:xE n m=true↔0≤n∧n<m:=by unfold xE;simp
theorem kV{n:Int}{m:Nat}:xE n m=false↔n<0∨(m :Int)≤n:=by rw[←Bool.not_eq_true,jW];omega
theorem aU{w:World}{g:Nat}{b:aJ}{v:Vs}{tm:Value}(h:w.heap[g]?=some (jZ b v tm)):w.cell? ⟨g,0,none⟩=some (.int .i64 b.time)∧w.cell? ⟨g,1,none⟩=some (.bool b.down)∧w.cell? ⟨g,2,none⟩=some v.c∧w.cell? ⟨g,3,none⟩=some v.d∧w.cell? ⟨g,4,none⟩=some v.a∧w.cell? ⟨g,5,none⟩=some (.int .i64 (b.snd false).bD)∧w.cell? ⟨g,6,none⟩=some (v.kp false)∧w.cell? ⟨g,7,none⟩=some (.int .i64 (b.snd true).bD)∧w.cell? ⟨g,8,none⟩=some (v.kp true)∧w.cell? ⟨g,9,none⟩=some (.int .i64 (b.aX false))∧w.cell? ⟨g,10,none⟩=some (.int .i64 (b.aX true))∧w.cell? ⟨g,11,none⟩=some (v.wy false)∧w.cell? ⟨g,12,none⟩=some (v.wy true)∧w.cell? ⟨g,13,none⟩=some (.int .i64 b.bn.cap)∧w.cell? ⟨g,14,none⟩=some v.us∧w.cell? ⟨g,15,none⟩=some v.ad∧w.cell? ⟨g,16,none⟩=some v.td∧w.cell? ⟨g,17,none⟩=some v.dy∧w.cell? ⟨g,18,none⟩=some v.bk∧w.cell? ⟨g,19,none⟩=some tm:=by unfold jZ dc at h;refine⟨?_,?_,?_,?_,?_,?_,?_,?_,?_,?_,?_,?_,?_,?_,?_,?_,?_,?_,?_,?_⟩<;>simp[World.cell?,h]
theorem bO{w:World}{g:Nat}{b:aJ}{v:Vs}{tm:Value}(h:w.heap[g]?=some (jZ b v tm))(p:Nat):w.frozen? ⟨g,p,none⟩=false:=by unfold jZ at h;simp[World.frozen?,h]
theorem mV{w:World}{g:Nat}{b:aJ}{v:Vs}{tm:Value}(h:w.heap[g]?=some (jZ b v tm))(i:Nat)(x:Value):(w.setCell ⟨g,i,none⟩ x).heap[g]?=some (.cells ((dc b v tm).setIfInBounds i x) (KQ tm)):=aZ _ _ _ _ _ _ h
theorem Mem.dx{w:World}{aI:bI}{aq:Nat}{b:aJ}{v:Vs}{cs:List CV}{a:List DV}(h:Mem w aI aq b v cs a):cs.length=b.aL.length:=by rw[←h.ov];simp
theorem Mem.CQ{w:World}{aI:bI}{aq:Nat}{b:aJ}{v:Vs}{cs:List CV}{a:List DV}(h:Mem w aI aq b v cs a):a.length=b.days.length:=by rw[←h.ox];simp
theorem mE(n:Int)(w:World):Calls prog 71 #[.int .i64 n] w fun e a=>e=.returned (.bool (xE n 2))∧a=w:=by unfold xE;by_cases h1:0≤n<;>by_cases h2:n<2;all_goals go_enter func71,ntmps71;go_wp2;go_ret;simp[h1,h2]
theorem lp(g aq:Nat)(aI:bI)(b:aJ)(tm:Value)(n:Int)(w:World)(h:cC w g aq aI b tm):Calls prog 59 #[.pointer (some ⟨g,0,none⟩),.int .i64 n] w fun e i=>e=.returned (.bool (xE n b.aL.length))∧i=w:=by obtain⟨v,cs,m,f,l,-⟩:=h;obtain⟨a,cap,j,k⟩:=f.aL.ap.bQ;have c:=f.dx;have d:=k.len;unfold maxLen at d;obtain⟨-,-,c2,-⟩:=aU l;rw[j,c]at c2;rw[c]at d;unfold xE;by_cases h1:0≤n<;>by_cases h2:n<b.aL.length;all_goals go_enter func59,ntmps59;go_wp2;go_ret;simp[h1,h2]
theorem lf(g aq:Nat)(aI:bI)(b:aJ)(tm:Value)(n:Int)(w:World)(h:cC w g aq aI b tm):Calls prog 61 #[.pointer (some ⟨g,0,none⟩),.int .i64 n] w fun e d=>e=.returned (.bool (xE n b.due.length))∧d=w:=by obtain⟨v,cs,l,i,k,-⟩:=h;obtain⟨a,cap,f,j⟩:=i.due.ap.bQ;have c:=j.len;unfold maxLen at c;obtain⟨-,-,-,c3,-⟩:=aU k;rw[f]at c3;unfold xE;by_cases h1:0≤n<;>by_cases h2:n<b.due.length;all_goals go_enter func61,ntmps61;go_wp2;go_ret;simp[h1,h2]
theorem cW{B:Nat}{a w:World}(h:Below B a w)(g p:Nat)(l:List Value)(c:B≤g):Below B a (cY w g p l):=by
 induction l generalizing w p with
 |nil=>exact h
 |cons x r b=>exact b (h.setCell c _) _
theorem eO{aI:bI}{j:Nat}(w:World)(g p:Nat)(l:List Value)(h:aI g=j)(c:j≠0):fh aI j w (cY w g p l):=have b:=cW (Below.refl 0 w) g p l (bq _)
 ⟨b.os,b.tape,b.output,Nat.le_of_eq (m_ _ _ _ _).symm,fun k _ a=>cE _ _ _ _ _ (by rintro rfl;rcases a with a|a;exact c a;exact a h)⟩
theorem xI(w:World)(g p:Nat)(a b c d e f:Value):cY w g p [a,b,c,d,e,f]=(((((w.setCell ⟨g,p,none⟩ a).setCell ⟨g,p+1,none⟩ b).setCell ⟨g,p+2,none⟩ c).setCell ⟨g,p+3,none⟩ d).setCell ⟨g,p+4,none⟩ e).setCell ⟨g,p+5,none⟩ f:=rfl
theorem DH(w:World)(g p:Nat)(a b c d e f x y:Value):cY w g p [a,b,c,d,e,f,x,y]=(((((((w.setCell ⟨g,p,none⟩ a).setCell ⟨g,p+1,none⟩ b).setCell ⟨g,p+2,none⟩ c).setCell ⟨g,p+3,none⟩ d).setCell ⟨g,p+4,none⟩ e).setCell ⟨g,p+5,none⟩ f).setCell ⟨g,p+6,none⟩ x).setCell ⟨g,p+7,none⟩ y:=rfl
theorem Hand.below{w a:World}{g aq:Nat}{aI:bI}{b:aJ}{v:Vs}{cs:List CV}{d:List DV}{tm:Value}(h:Hand w g aq aI b v cs d tm)(c:Below w.heap.size w a):Hand a g aq (aT aI w.heap.size 0) b v cs d tm:=⟨h.mem.on (cA c) (Or.inl rfl),(c.block _ (ae h.bR)).trans h.bR,by rw[aV (ae h.bR)];exact h.lb⟩
theorem Hand.cj{w:World}{g aq:Nat}{aI:bI}{b:aJ}{v:Vs}{cs:List CV}{a:List DV}{tm:Value}(h:Hand w g aq aI b v cs a tm):cC w g aq aI b tm:=⟨v,cs,a,h⟩
theorem cC.below{w a:World}{g aq:Nat}{aI:bI}{b:aJ}{tm:Value}(h:cC w g aq aI b tm)(c:Below w.heap.size w a):cC a g aq (aT aI w.heap.size 0) b tm:=by obtain⟨v,cs,d,H⟩:=h;exact⟨v,cs,d,H.below c⟩
theorem Mem.drew{w:World}{aI:bI}{aq:Nat}{b:aJ}{v:Vs}{cs:List CV}{d:List DV}(h:Mem w aI aq b v cs d):Mem w.drew aI aq b v cs d:=by
 have a:fh aI 0 w w.drew:=cA ((Below.refl _ _).drew);exact⟨h.aL.stay a (by omega),h.ov,fun x c=>(h.cP x c).stay a (by omega),h.due.stay a (by omega),h.ax.stay a (by omega),fun i=>(h.bj i).stay a (by omega),fun i=>(h.ways i).stay a (by omega),h.used.stay a (by omega),h.bL.stay a (by omega),h.bt.stay a (by omega),h.days.stay a (by omega),h.ox,fun x c=>(h.files x c).stay a (by omega),h.bM.stay a (by omega),h.hi,h.lo⟩
theorem Hand.drew{w:World}{g aq:Nat}{aI:bI}{b:aJ}{v:Vs}{cs:List CV}{a:List DV}{tm:Value}(h:Hand w g aq aI b v cs a tm):Hand w.drew g aq aI b v cs a tm:=⟨h.mem.drew,h.bR,h.lb⟩
theorem cC.drew{w:World}{g aq:Nat}{aI:bI}{b:aJ}{tm:Value}(h:cC w g aq aI b tm):cC w.drew g aq aI b tm:=by obtain⟨v,cs,a,H⟩:=h;exact⟨v,cs,a,H.drew⟩
theorem cC.lo{w:World}{g aq:Nat}{aI:bI}{b:aJ}{tm:Value}(h:cC w g aq aI b tm):aq≤w.heap.size:=by obtain⟨v,cs,a,H⟩:=h;exact H.mem.lo
structure Bl(w:World)(aI:bI)(aq:Nat)(v:Vs)(cs:List CV)(k gc cap:Nat)(x:CV):Prop where
 val:v.c=.slice (some ⟨gc,0,none⟩) cs.length cap
 ge:aq≤gc
 lt:gc<w.heap.size
 lb:aI gc=2
 c0:w.cell? ⟨gc,k*6,none⟩=some (.int .i64 x.c.m)
 c1:w.cell? ⟨gc,k*6+1,none⟩=some (.int .i64 x.c.h)
 c2:w.cell? ⟨gc,k*6+2,none⟩=some (.int .i64 x.c.p.t)
 c3:w.cell? ⟨gc,k*6+3,none⟩=some (.int .i64 x.c.p.c)
 c4:w.cell? ⟨gc,k*6+4,none⟩=some (.int .i64 x.c.p.s)
 c5:w.cell? ⟨gc,k*6+5,none⟩=some (.slice x.a x.c.u.length x.cap)
 fz:∀p,w.frozen? ⟨gc,p,none⟩=false
 cP:Ap kU aI w (.slice x.a x.c.u.length x.cap) x.c.u 0
 put:∀y,(cY w gc (k*6) (kC.cells y)).ownsRow aq 66 kC.size v.c (cs.set k y).length (kC.flat (cs.set k y))
theorem Mem.aK{w:World}{aI:bI}{aq:Nat}{b:aJ}{v:Vs}{cs:List CV}{C:List DV}(h:Mem w aI aq b v cs C){k:Nat}(D:k<b.aL.length):∃g cap,Bl w aI aq v cs k g cap (cs.getD k j0)∧(cs.getD k j0).c=b.aK (k :Int):=by
 have r:=h.dx;have d:k<cs.length:=by omega
 have m:cs≠[]:=by intro h0;rw[h0]at d;simp at d
 obtain⟨g,cap,l,o,n,s,p,f⟩:=Row.put (h.aL.own m) d;obtain⟨a,c,e,y⟩:=h.aL.ap.bQ;rw[l]at e;obtain⟨rfl,-,rfl⟩:=bB e;obtain⟨E,off,B,-,A⟩:=y.elem (i:=k) (x:=cs.getD k j0) (by simp[List.getD,d]);cases B;have t:cs.getD k j0∈cs:=by simp[List.getD,d]
 have q:∀j u,(kC.cells (cs.getD k j0))[j]?=some u→w.cell? ⟨g,k*6+j,none⟩=some u:=fun j u z=>by have :=A j u z;rwa[dW]at this
 refine⟨g,cap,⟨l,o,n,h.aL.aI g (by rw[l];rfl),q 0 _ rfl,q 1 _ rfl,q 2 _ rfl,q 3 _ rfl,q 4 _ rfl,q 5 _ rfl,p,h.cP _ t,f⟩,?_⟩;unfold aJ.aK;rw[←h.ov,bN];simp[List.getD,d]
theorem Mem.ml{w:World}{aI:bI}{aq:Nat}{b:aJ}{v:Vs}{cs:List CV}{i:List DV}(h:Mem w aI aq b v cs i){k f cap:Nat}{x:CV}(e:Bl w aI aq v cs k f cap x){y:CV}(hy:Ap kU aI w (.slice y.a y.c.u.length y.cap) y.c.u 0):Mem (cY w f (k*6) (kC.cells y)) (aT aI w.heap.size 2) aq {b with aL:=b.aL.set k y.c} v (cs.set k y) i:=by
 have l:=eO (aI:=aI) (j:=2) w f (k *6) (kC.cells y) e.lb (by decide)
 have :=h.JQ l (cs':=cs.set k y) ⟨.own _ _ (e.put y),fun _=>e.put y,fun j g=>by rw[aV (h.aL.row.dV j g).2];exact h.aL.aI j g⟩ fun z d=>by
  rcases mH d with rfl|d;·exact hy
  ·exact h.cP z d
 rw[List.map_set,h.ov]at this;exact this
def cT(w:World)(g aq:Nat)(aI:bI)(tm:Value)(r:aJ×Int)(e:Ending)(a:World):Prop:=e=.returned (.int .i64 r.2)∧∃lab',cC a g aq lab' r.1 tm∧ir w aI a lab'
theorem Ap.out{α:Type}{K:Kind α}{aI:bI}{w:World}{a:Option Addr}{n cap:Nat}{L:List α}{j:Nat}(h:Ap K aI w (.slice a n cap) L j):Gn.bF K w a cap L:=by obtain⟨e,b,c,d,-⟩:=h;obtain⟨rfl,-,rfl⟩:=bB c;exact d
theorem sV{b:aJ}{n h m:Int}(q:(cF (b.aK n) h m).2≠0):cN b n h m=(b,(cF (b.aK n) h m).2):=by unfold cN;rw[aB q]
theorem qW{b:aJ}{n h m:Int}(q:(cF (b.aK n) h m).2=0):cN b n h m=({ b with aL:=b.aL.set n.toNat (cF (b.aK n) h m).1},0):=by unfold cN;rw[ai (by simpa using q)]
theorem BJ(g aq:Nat)(aI:bI)(b:aJ)(tm:Value)(k:Nat)(l i:Int)(w:World)(h:cC w g aq aI b tm)(hk:k<b.aL.length):Calls prog 87 #[.pointer (some ⟨g,0,none⟩),.int .i64 (k :Int),.int .i64 l,.int .i64 i] w (cT w g aq aI tm (cN b k l i)):=by
 have ao:=h.lo;have a5:=h;obtain⟨v,cs,ds,H⟩:=h;have T:=H.mem;have U:=H.bR;have h1:=H.lb;obtain⟨I,cap,C,O⟩:=T.aK hk;have ag:=T.dx;have ay:k<cs.length:=by omega
 have aw:(k :Int)<cs.length:=by omega
 obtain⟨-,-,c2,-⟩:=aU U;rw[C.val]at c2;have S:=jh C.cP.out;have K:Ap kU aI w (.slice (cs.getD k j0).a (cs.getD k j0).c.u.length (cs.getD k j0).cap) (cs.getD k j0).c.u 0:=C.cP;obtain⟨q0,q1,q2,q3,q4,q5⟩:=(⟨C.c0,C.c1,C.c2,C.c3,C.c4,C.c5⟩:_∧_∧_∧_∧_∧_);have V:=aW (sV (b:=b) (n:=k) (h:=l) (m:=i));have R:=aW (qW (b:=b) (n:=k) (h:=l) (m:=i));rw[←O]at V R;rw[bN]at R;have Q:=vM (cs.getD k j0).c (cs.getD k j0).a (cs.getD k j0).cap l i w S;unfold cv at Q;clear O S;generalize hx:cs.getD k j0=x at*;unfold da cv at Q;by_cases G:(cF x.c l i).2=0
 case neg=>
  have hE:=aW (V.out G);have a1:((cF x.c l i).2 !=0)=true:=by simpa using G
  clear V R G;generalize(cF x.c l i).1=r1 at*;generalize(cF x.c l i).2=r2 at*;go_enter func87,ntmps87;go_wp2_with(go_at_call 109;refine Q.mono ?_;rintro e F ⟨r,d,rfl,M,J,q⟩);go_ret;unfold cT;rw[hE.out];exact⟨rfl,_,a5.below (aM q _),aG (aM q _)⟩
 case pos=>
  have hE:=aW (R.out G);have a1:((cF x.c l i).2 !=0)=false:=by simpa using G
  clear V R G;generalize(cF x.c l i).1=r1 at*;generalize(cF x.c l i).2=r2 at*;go_enter func87,ntmps87;go_upto_region 4 with(go_at_call 109;refine Q.mono ?_;rintro e F ⟨r,d,rfl,M,J,q⟩);have E:=aM q (.cells #[.int .i64 r1.m,.int .i64 r1.h,.int .i64 r1.p.t,.int .i64 r1.p.c,.int .i64 r1.p.s,.slice r r1.u.length d] 66);have P:(F.alloc (.cells #[.int .i64 r1.m,.int .i64 r1.h,.int .i64 r1.p.t,.int .i64 r1.p.c,.int .i64 r1.p.s,.slice r r1.u.length d] 66)).heap[F.heap.size]?=some (co r1 r d):=ah _ _ _ rfl;have L:=(ib M).alloc (.cells #[.int .i64 r1.m,.int .i64 r1.h,.int .i64 r1.p.t,.int .i64 r1.p.c,.int .i64 r1.p.s,.slice r r1.u.length d] 66);have hZ:w.heap.size≤F.heap.size:=q.size;generalize F.alloc _=W at*;generalize F.heap.size=Z at*;have B:=T.on (cA (j:=0) E) (Or.inl rfl);have D:=(E.block _ (ae U)).trans U;have af:aT aI w.heap.size 0 g=1:=by rw[aV (ae U)];exact h1
  have z:Ap kU (aT aI w.heap.size 0) W (.slice r r1.u.length d) r1.u 0:=by
   rcases J with hp|⟨ha,S⟩;·exact ki rfl L hp
   ·obtain⟨a2,c2,Y,a4,a3⟩:=K;obtain⟨rfl,-,rfl⟩:=bB Y;subst ha;refine⟨_,_,rfl,L,fun ad qh o=>?_⟩;rw[S]at o;rw[aV (ni a4 o ad qh)];exact a3 ad qh o
  obtain⟨b0,am,f,-⟩:=B.aK hk;have X:=C.val.symm.trans f.val;obtain⟨a6,-,a7⟩:=bB X;cases a6;subst a7;rw[hx]at f;obtain⟨-,-,d2,-⟩:=aU D;rw[C.val]at d2;obtain⟨u0,u1,u2,u3,u4,u5⟩:=dz P;have z0:=f.fz (k *6);have z1:=f.fz (k *6+1);have z2:=f.fz (k*6+2);have z3:=f.fz (k*6+3);have z4:=f.fz (k*6+4);have z5:=f.fz (k*6+5);have ak:=ae P;have an:I≠Z:=by have:= C.lt;omega
  have A:=B.ml f (y:=⟨r1,r,d⟩) z;have o:g≠I:=fun h=>by have:= f.lb;rw[←h]at this;omega
  have N:(cY W I (k *6) (kC.cells ⟨r1,r,d⟩)).heap[g]?=some (jZ b v tm):=(cE _ _ _ _ _ o).trans D;have a9:ir w aI (cY W I (k *6) (kC.cells ⟨r1,r,d⟩)) (aT (aT aI w.heap.size 0) W.heap.size 2):=(aG E).trans (gD (eO W I (k *6) _ f.lb (by decide)) (by decide));have aa:cC (cY W I (k*6) (kC.cells ⟨r1,r,d⟩)) g aq (aT (aT aI w.heap.size 0) W.heap.size 2) {b with aL:=b.aL.set k r1} tm:=⟨v,_,ds,A,N,by rw[aV (ae D)];exact af⟩;clear Q q0 q1 q2 q3 q4 q5 c2 A N z B T;obtain⟨y0,y1,y2,y3,y4,y5⟩:=(⟨f.c0,f.c1,f.c2,f.c3,f.c4,f.c5⟩:_∧_∧_∧_∧_∧_);go_region;all_goals go_wp2_with fail;go_ret;unfold cT;rw[hE.out];exact⟨rfl,_,aa.drew,a9.drew⟩
theorem Mem.tK{w:World}{aI:bI}{aq:Nat}{b:aJ}{v:Vs}{cs:List CV}{a:List DV}(h:Mem w aI aq b v cs a){g:Nat}(c:aI g=1)(i:Nat)(x:Value):Mem (w.setCell ⟨g,i,none⟩ x) (aT aI w.heap.size 1) aq b v cs a:=h.on (iH w ⟨g,i,none⟩ x c (by decide)) (Or.inr rfl)
theorem Hand.pB{w:World}{g aq:Nat}{aI:bI}{b b':aJ}{v v':Vs}{cs:List CV}{a:List DV}{tm:Value}(h:Hand w g aq aI b v cs a tm)(c:Mem w aI aq b' v' cs a){i:Nat}{x:Value}(d:(dc b v tm).setIfInBounds i x=dc b' v' tm):Hand (w.setCell ⟨g,i,none⟩ x) g aq (aT aI w.heap.size 1) b' v' cs a tm:=⟨c.tK h.lb i x,by rw[mV h.bR,d];rfl,by rw[aV (ae h.bR)];exact h.lb⟩
theorem Hand.Bq{w:World}{g aq:Nat}{aI:bI}{b b':aJ}{v v':Vs}{cs:List CV}{a:List DV}{tm:Value}(h:Hand w g aq aI b v cs a tm)(c:Mem w aI aq b' v' cs a){i j:Nat}{x y:Value}(d:((dc b v tm).setIfInBounds i x).setIfInBounds j y=dc b' v' tm):Hand ((w.setCell ⟨g,i,none⟩ x).setCell ⟨g,j,none⟩ y) g aq (aT (aT aI w.heap.size 1) (w.setCell ⟨g,i,none⟩ x).heap.size 1) b' v' cs a tm:=by
 have h1:(w.setCell ⟨g,i,none⟩ x).heap[g]?=some (.cells ((dc b v tm).setIfInBounds i x) (KQ tm)):=mV h.bR i x;have l1:aT aI w.heap.size 1 g=1:=by rw[aV (ae h.bR)];exact h.lb
 refine⟨(c.tK h.lb i x).tK l1 j y,?_,by rw[aV (ae h1)];exact l1⟩;rw[aZ _ _ _ _ _ _ h1,d];rfl
theorem dg{w:World}{aI:bI}{g:Nat}(a:aI g=1)(i:Nat)(x:Value):ir w aI (w.setCell ⟨g,i,none⟩ x) (aT aI w.heap.size 1):=gD (iH w ⟨g,i,none⟩ x a (by decide)) (by decide)
theorem Hand.Cs{w:World}{g aq:Nat}{aI:bI}{b:aJ}{v:Vs}{cs:List CV}{a:List DV}{tm:Value}(h:Hand w g aq aI b v cs a tm)(i j:Nat)(x y:Value):ir w aI ((w.setCell ⟨g,i,none⟩ x).setCell ⟨g,j,none⟩ y) (aT (aT aI w.heap.size 1) (w.setCell ⟨g,i,none⟩ x).heap.size 1):=(dg h.lb i x).trans (dg (by rw[aV (ae h.bR)];exact h.lb) j y)
theorem cC.hand{w:World}{g aq:Nat}{aI:bI}{b:aJ}{tm:Value}(h:cC w g aq aI b tm):∃v cs a,Hand w g aq aI b v cs a tm:=h
theorem Af(l:List (Int ×Int))(src dst sum:Int):Bk.move l src dst sum=bW l src dst sum:=rfl
theorem xg{b:aJ}{src dst sum:Int}(q:(bW b.bM src dst sum).2≠0):b9 b src dst sum=(b,(bW b.bM src dst sum).2):=by unfold b9;rw[aB q]
theorem yg(g aq:Nat)(aI:bI)(b:aJ)(tm:Value)(src dst sum:Int)(w:World)(h:cC w g aq aI b tm):Calls prog 88 #[.pointer (some ⟨g,0,none⟩),.int .i64 src,.int .i64 dst,.int .i64 sum] w (cT w g aq aI tm (b9 b src dst sum)):=by
 obtain⟨v,cs,F,H⟩:=h.hand;obtain⟨a,cap,A,B,E⟩:=H.mem.bM;have s:=(aU H.bR).2.2.2.2.2.2.2.2.2.2.2.2.2.2.2.2.2.2.1;rw[A]at s;have o:=Bk.Hv a cap b.bM src dst sum w (pO B);rw[Af]at o;unfold Bk.de at o;have y:=aW (xg (b:=b) (src:=src) (dst:=dst) (sum:=sum));have u:=aW (gx (b:=b) (src:=src) (dst:=dst) (sum:=sum));by_cases f:(bW b.bM src dst sum).2=0
 case neg=>
  have q:=aW (y.out f);have p:((bW b.bM src dst sum).2 !=0)=true:=by simpa using f
  clear y u f;generalize(bW b.bM src dst sum).1=r1 at*;generalize(bW b.bM src dst sum).2=r2 at*;go_enter func88,ntmps88;go_wp2_with(go_at_call 110;refine o.mono ?_;rintro e z ⟨t,d,rfl,m,j,l,c⟩);go_ret;unfold cT;rw[q.out];exact⟨rfl,_,h.below c,aG c⟩
 case pos=>
  have q:=aW (u.out f);have p:((bW b.bM src dst sum).2 !=0)=false:=by simpa using f
  clear y u f;generalize(bW b.bM src dst sum).1=r1 at*;generalize(bW b.bM src dst sum).2=r2 at*;go_enter func88,ntmps88;go_upto_region 4 with(go_at_call 110;refine o.mono ?_;rintro e z ⟨t,d,rfl,m,j,l,c⟩);have n:=H.below c;have k:Ap kU (aT aI w.heap.size 0) z (.slice t r1.length d) r1 0:=ki rfl (w_ m l) j;have D:=n.pB (n.mem.Gj k) (i:=18) (x:=.slice t r1.length d) rfl;have r:=(aU n.bR).2.2.2.2.2.2.2.2.2.2.2.2.2.2.2.2.2.2.1;have C:=bO n.bR 18;rw[A]at r;go_wp2;go_ret;unfold cT;rw[q.out];exact⟨rfl,_,D.cj,(aG c).trans (dg n.lb _ _)⟩
theorem JH{b:aJ}{i:Bool}{t:Po.Tr}(q:(Po.fV (b.snd i) t).2≠0):fM b i t=(b,(Po.fV (b.snd i) t).2):=by unfold fM;rw[aB q]
def fe(i:Bool):Int:=if i=true then 1 else 0
def pK(b:aJ)(i:Bool)(n:Int):aJ×Int:=if(Po.eR (b.snd i) n).2≠0 then(b,(Po.eR (b.snd i) n).2)else({ b with snd:=eu b.snd i (Po.eR (b.snd i) n).1},0)
theorem Hy{b:aJ}{i:Bool}{n:Int}(q:(Po.eR (b.snd i) n).2≠0):pK b i n=(b,(Po.eR (b.snd i) n).2):=by unfold pK;rw[aB q]
theorem FK{b:aJ}{i:Bool}{n:Int}(q:(Po.eR (b.snd i) n).2=0):pK b i n=({ b with snd:=eu b.snd i (Po.eR (b.snd i) n).1},0):=by unfold pK;rw[ai (by simpa using q)]
theorem iN{W:World}{z:Nat}{s:Int}{u:Value}(h:W.heap[z]?=some (.cells #[.int .i64 s,u] 31)):W.cell? ⟨z,0,none⟩=some (.int .i64 s)∧W.cell? ⟨z,1,none⟩=some u:=by refine⟨?_,?_⟩<;>simp[World.cell?,h]
theorem Ku(g aq:Nat)(aI:bI)(b:aJ)(tm:Value)(i:Bool)(n:Int)(w:World)(h:cC w g aq aI b tm):Calls prog 72 #[.pointer (some ⟨g,0,none⟩),.int .i64 (fe i),.int .i64 n] w (cT w g aq aI tm (pK b i n)):=by
 obtain⟨v,cs,N,H⟩:=h.hand;obtain⟨a,cap,s,F,I⟩:=H.mem.bj i;obtain⟨-,-,-,-,-,c5,c6,c7,c8,-⟩:=aU H.bR;have z:=Po.Ig (b.snd i) a cap n w F;unfold Po.dN Po.sv at z;have D:=aW (Hy (b:=b) (i:=i) (n:=n));have C:=aW (FK (b:=b) (i:=i) (n:=n));by_cases t:(Po.eR (b.snd i) n).2=0
 case neg=>
  have A:=aW (D.out t);have B:((Po.eR (b.snd i) n).2 !=0)=true:=by simpa using t
  clear D C t;generalize(Po.eR (b.snd i) n).1=r1 at*;generalize(Po.eR (b.snd i) n).2=r2 at*
  cases i with
  |false=>rw[s]at c6;show Calls _ _ #[_,.int .i64 0,_] _ _;go_enter func72,ntmps72;go_wp2_with(go_at_call 97;refine z.mono ?_;rintro e m ⟨u,rfl,d,f⟩;obtain⟨k,c,rfl,-,-,-⟩:=d.bQ);go_ret;unfold cT;rw[A.out];exact⟨rfl,_,h.below (aM f _),aG (aM f _)⟩
  |true=>rw[s]at c8;show Calls _ _ #[_,.int .i64 1,_] _ _;go_enter func72,ntmps72;go_wp2_with(go_at_call 97;refine z.mono ?_;rintro e m ⟨u,rfl,d,f⟩;obtain⟨k,c,rfl,-,-,-⟩:=d.bQ);go_ret;unfold cT;rw[A.out];exact⟨rfl,_,h.below (aM f _),aG (aM f _)⟩
 case pos=>
  have A:=aW (C.out t);have B:((Po.eR (b.snd i) n).2 !=0)=false:=by simpa using t
  clear D C t;generalize(Po.eR (b.snd i) n).1=r1 at*;generalize(Po.eR (b.snd i) n).2=r2 at*
  cases i with
  |false=>rw[s]at c6;show Calls _ _ #[_,.int .i64 0,_] _ _;go_enter func72,ntmps72;go_upto_region 4 with(go_at_call 97;refine z.mono ?_;rintro e m ⟨u,rfl,d,f⟩;obtain⟨k,c,rfl,-,-,-⟩:=d.bQ);have p:=aM f (.cells #[.int .i64 r1.bD,.slice k r1.bj.length c] 31);have r:(m.alloc (.cells #[.int .i64 r1.bD,.slice k r1.bj.length c] 31)).heap[m.heap.size]?=some (.cells #[.int .i64 r1.bD,.slice k r1.bj.length c] 31):=ah _ _ _ rfl;have q:=d.alloc (.cells #[.int .i64 r1.bD,.slice k r1.bj.length c] 31);generalize m.alloc _=W at*;generalize m.heap.size=Z at*;have l:=H.below p;have o:Ap Po.kT (aT aI w.heap.size 0) W (.slice k r1.bj.length c) r1.bj 0:=pq q;have E:=l.Bq (l.mem.qN false o) (i:=5) (j:=6) (x:=.int .i64 r1.bD) (y:=.slice k r1.bj.length c) (by rfl);obtain⟨-,-,-,-,-,P,G,-⟩:=aU l.bR;have M:=bO l.bR 5;have L:=bO l.bR 6;obtain⟨u0,u1⟩:=iN r;rw[s]at G;go_region;all_goals go_wp2_with fail;go_ret;unfold cT;rw[A.out];exact⟨rfl,_,E.cj.drew,((aG p).trans (l.Cs _ _ _ _)).drew⟩
  |true=>rw[s]at c8;show Calls _ _ #[_,.int .i64 1,_] _ _;go_enter func72,ntmps72;go_upto_region 4 with(go_at_call 97;refine z.mono ?_;rintro e m ⟨u,rfl,d,f⟩;obtain⟨k,c,rfl,-,-,-⟩:=d.bQ);have p:=aM f (.cells #[.int .i64 r1.bD,.slice k r1.bj.length c] 31);have r:(m.alloc (.cells #[.int .i64 r1.bD,.slice k r1.bj.length c] 31)).heap[m.heap.size]?=some (.cells #[.int .i64 r1.bD,.slice k r1.bj.length c] 31):=ah _ _ _ rfl;have q:=d.alloc (.cells #[.int .i64 r1.bD,.slice k r1.bj.length c] 31);generalize m.alloc _=W at*;generalize m.heap.size=Z at*;have l:=H.below p;have o:Ap Po.kT (aT aI w.heap.size 0) W (.slice k r1.bj.length c) r1.bj 0:=pq q;have E:=l.Bq (l.mem.qN true o) (i:=7) (j:=8) (x:=.int .i64 r1.bD) (y:=.slice k r1.bj.length c) (by rfl);obtain⟨-,-,-,-,-,-,-,O,d8,-⟩:=aU l.bR;have K:=bO l.bR 7;have J:=bO l.bR 8;obtain⟨u0,u1⟩:=iN r;rw[s]at d8;go_region;all_goals go_wp2_with fail;go_ret;unfold cT;rw[A.out];exact⟨rfl,_,E.cj.drew,((aG p).trans (l.Cs _ _ _ _)).drew⟩
theorem qI{W:World}{z:Nat}{x y:Value}(h:W.heap[z]?=some (.cells #[x,y] 31))(u v:Value):((W.setCell ⟨z,0,none⟩ u).setCell ⟨z,1,none⟩ v).heap[z]?=some (.cells #[u,v] 31):=by have h1:=aZ W z 0 _ _ u h;have h2:=aZ _ z 1 _ _ v h1;rw[h2];simp
theorem sx{W:World}{z B:Nat}{e:TypeId}{v:Value}{L:List Po.Tr}(h:Row Po.kT e W (B +1) v L)(i j:Nat)(u x:Value)(b:z≤B):Row Po.kT e ((W.setCell ⟨z,i,none⟩ u).setCell ⟨z,j,none⟩ x) B v L:=by refine(h.mono (fs _)).cB (by simp) fun k a _=>?_;have:= (h.dV k a).1;rw[aF _ ⟨z,j,none⟩ _ _ (by simp;omega),aF _ ⟨z,i,none⟩ _ _ (by simp;omega)]
theorem tK(g aq:Nat)(aI:bI)(b:aJ)(tm:Value)(i:Bool)(t:Po.Tr)(w:World)(h:cC w g aq aI b tm):Calls prog 95 #[.pointer (some ⟨g,0,none⟩),.int .i64 (fe i),Po.tv t] w (cT w g aq aI tm (fM b i t)):=by
  obtain⟨v,cs,ds,H⟩:=h.hand;have F:=ar w (.cells #[.int .i64 t.n,.int .i64 t.k,.int .i64 t.a,.int .i64 t.s] 82);have I:=H.below F;have m:(w.alloc (.cells #[.int .i64 t.n,.int .i64 t.k,.int .i64 t.a,.int .i64 t.s] 82)).heap[w.heap.size]?=some (.cells #[.int .i64 t.n,.int .i64 t.k,.int .i64 t.a,.int .i64 t.s] 82):=ah _ _ _ rfl;obtain⟨W,G⟩:∃W,w.alloc (.cells #[.int .i64 t.n,.int .i64 t.k,.int .i64 t.a,.int .i64 t.s] 82)=W:=⟨_,rfl⟩;rw[G]at F I m;obtain⟨Q,t1,t2,P⟩:W.cell? ⟨w.heap.size,0,none⟩=some (.int .i64 t.n)∧W.cell? ⟨w.heap.size,1,none⟩=some (.int .i64 t.k)∧W.cell? ⟨w.heap.size,2,none⟩=some (.int .i64 t.a)∧W.cell? ⟨w.heap.size,3,none⟩=some (.int .i64 t.s):=by refine⟨?_,?_,?_,?_⟩<;>simp[World.cell?,m]
  obtain⟨a,cap,R,hl,hn⟩:=I.mem.bj i;obtain⟨-,-,-,-,-,c5,c6,c7,c8,-⟩:=aU I.bR;have N:∀X:World,Below W.heap.size W X→Calls prog 121 #[.agg #[.int .i64 (b.snd i).bD,.slice a (b.snd i).bj.length cap],.agg #[.int .i64 t.n,.int .i64 t.k,.int .i64 t.a,.int .i64 t.s]] X (Po.dN X (Po.fV (b.snd i) t)):=fun X z=>Po.Kd (b.snd i) a cap t X (hl.below z);unfold Po.dN at N;have V:=aW (JH (b:=b) (i:=i) (t:=t));have U:=aW (nV (x:=b) (i:=i) (t:=t));unfold Po.tv;have a2:w.heap.size≤W.heap.size:=F.size;have S:Hid (((Po.fV (b.snd i) t).2≠0→fM b i t=(b,(Po.fV (b.snd i) t).2))∧((Po.fV (b.snd i) t).2=0→fM b i t=({b with snd:=eu b.snd i (Po.fV (b.snd i) t).1},0))):=⟨V.out,U.out⟩;clear V U;generalize(Po.fV (b.snd i) t).1=r1 at*;generalize(Po.fV (b.snd i) t).2=r2 at*
  cases i with
    |false=>
      rw[R]at c6;show Calls _ _ #[_,.int .i64 0,_] _ _;have cB:∀X:World,Below W.heap.size W X→X.cell? ⟨g,5,none⟩=some (.int .i64 (b.snd false).bD)∧X.cell? ⟨g,6,none⟩=some (.slice a (b.snd false).bj.length cap)∧X.cell? ⟨w.heap.size,0,none⟩=some (.int .i64 t.n)∧X.cell? ⟨w.heap.size,1,none⟩=some (.int .i64 t.k)∧X.cell? ⟨w.heap.size,2,none⟩=some (.int .i64 t.a)∧X.cell? ⟨w.heap.size,3,none⟩=some (.int .i64 t.s):=fun X z=>
        ⟨(z.cell (p:=⟨g,5,none⟩) (ae I.bR)).trans c5,(z.cell (p:=⟨g,6,none⟩) (ae I.bR)).trans c6,(z.cell (p:=⟨w.heap.size,0,none⟩) (ae m)).trans Q,(z.cell (p:=⟨w.heap.size,1,none⟩) (ae m)).trans t1,(z.cell (p:=⟨w.heap.size,2,none⟩) (ae m)).trans t2,(z.cell (p:=⟨w.heap.size,3,none⟩) (ae m)).trans P⟩;go_enter func95,ntmps95;go_upto_region 1 with fail;try rw[G]
      clear G;go_cut[7,8]from 9 to 20 (fun p q wc=>∃Z l c,p=.pointer (some ⟨Z,0,none⟩)∧q=.int .i64 r2∧W.heap.size≤Z∧wc.heap[Z]?=some (.cells #[.int .i64 r1.bD,.slice l r1.bj.length c] 31)∧Row Po.kT 82 wc W.heap.size (.slice l r1.bj.length c) r1.bj∧Below W.heap.size W wc)
      case first=>
        go_region_held3 (fun X=>X.cell? ⟨g,5,none⟩=some (.int .i64 (b.snd false).bD)∧X.cell? ⟨g,6,none⟩=some (.slice a (b.snd false).bj.length cap)∧X.cell? ⟨w.heap.size,0,none⟩=some (.int .i64 t.n)∧X.cell? ⟨w.heap.size,1,none⟩=some (.int .i64 t.k)∧X.cell? ⟨w.heap.size,2,none⟩=some (.int .i64 t.a)∧X.cell? ⟨w.heap.size,3,none⟩=some (.int .i64 t.s))
          ((refine cB _ ?_;repeat(first|exact d|exact Below.refl _ _|refine Below.drew ?_|refine aM ?_ _|refine aR ?_ (by simp) _)))
          (first
            |(go_at_call 121;refine(N W.drew ((Below.refl _ _).drew)).mono ?_;rintro e r ⟨u,rfl,f,d⟩;obtain⟨l,c,rfl,-,-,-⟩:=f.bQ;have d:Below W.heap.size W r:=((Below.refl _ _).drew).trans d;have f:Row Po.kT 82 r W.heap.size (.slice l r1.bj.length c) r1.bj:=f)
            | (go_at_call 121;refine(N (W.alloc (.cells #[.int .i64 0,.slice none 0 0] 31)).drew ((ar _ _).drew)).mono ?_;rintro e r ⟨u,rfl,f,d⟩;obtain⟨l,c,rfl,-,-,-⟩:=f.bQ;have o:r.heap[W.heap.size]?=some (.cells #[.int .i64 0,.slice none 0 0] 31):=(d.block _ (by simp)).trans (ah _ _ _ rfl);have d:Below W.heap.size W r:=((ar W (.cells #[.int .i64 0,.slice none 0 0] 31)).drew).trans (d.mono (by simp));have K:Row Po.kT 82 r (W.heap.size +1) (.slice l r1.bj.length c) r1.bj:=f.mono (by simp);obtain⟨x0,x1⟩:=iN o;have y0:r.frozen? ⟨W.heap.size,0,none⟩=false:=by simp[World.frozen?,o]
               have Y:r.frozen? ⟨W.heap.size,1,none⟩=false:=by simp[World.frozen?,o])
            |fail)
        all_goals
          go_wp2_with fail;go_meet
          first
            |exact⟨_,l,c,rfl,rfl,d.size,ah _ _ _ rfl,f.alloc _,aM d _⟩
            |exact⟨W.heap.size,l,c,rfl,rfl,aj _,qI o _ _,sx K _ _ _ _ (by omega),(d.setCell (aj _) _).setCell (aj _) _⟩
            |fail
      case rest=>
        obtain⟨Z,l,c,rfl,rfl,hZ,M,J,D⟩:=hcut;clear N cB Q t1 t2 P c5 c6 c7 c8;generalize wc=X at*;have A:=I.below D;have E:=(aG (aI:=aI) F).trans (aG D);by_cases B:r2=0
        · have L:(r2 !=0)=false:=by simpa using B
          have O:=aW (S.out.2 B);clear B;have C:Ap Po.kT (aT (aT aI w.heap.size 0) W.heap.size 0) X (.slice l r1.bj.length c) r1.bj 0:=pq J;have T:=A.Bq (A.mem.qN false C) (i:=5) (j:=6) (x:=.int .i64 r1.bD) (y:=.slice l r1.bj.length c) (by rfl);obtain⟨-,-,-,-,-,d5,d6,-⟩:=aU A.bR;have f0:=bO A.bR 5;have f1:=bO A.bR 6;obtain⟨u0,u1⟩:=iN M;rw[R]at d6;go_upto_region 4 with fail;go_region;all_goals go_wp2_with fail;go_ret;unfold cT;rw[O.out];exact⟨rfl,_,T.cj.drew,(E.trans (A.Cs _ _ _ _)).drew⟩
        · have L:(r2 !=0)=true:=by simpa using B
          have O:=aW (S.out.1 B);clear B;go_wp2_with fail;go_ret;unfold cT;rw[O.out];exact⟨rfl,_,A.cj,E⟩
    |true=>
      rw[R]at c8;show Calls _ _ #[_,.int .i64 1,_] _ _;have cB:∀X:World,Below W.heap.size W X→X.cell? ⟨g,7,none⟩=some (.int .i64 (b.snd true).bD)∧X.cell? ⟨g,8,none⟩=some (.slice a (b.snd true).bj.length cap)∧X.cell? ⟨w.heap.size,0,none⟩=some (.int .i64 t.n)∧X.cell? ⟨w.heap.size,1,none⟩=some (.int .i64 t.k)∧X.cell? ⟨w.heap.size,2,none⟩=some (.int .i64 t.a)∧X.cell? ⟨w.heap.size,3,none⟩=some (.int .i64 t.s):=fun X z=>
        ⟨(z.cell (p:=⟨g,7,none⟩) (ae I.bR)).trans c7,(z.cell (p:=⟨g,8,none⟩) (ae I.bR)).trans c8,(z.cell (p:=⟨w.heap.size,0,none⟩) (ae m)).trans Q,(z.cell (p:=⟨w.heap.size,1,none⟩) (ae m)).trans t1,(z.cell (p:=⟨w.heap.size,2,none⟩) (ae m)).trans t2,(z.cell (p:=⟨w.heap.size,3,none⟩) (ae m)).trans P⟩;go_enter func95,ntmps95;go_upto_region 1 with fail;try rw[G]
      clear G;go_cut[7,8]from 9 to 20 (fun p q wc=>∃Z l c,p=.pointer (some ⟨Z,0,none⟩)∧q=.int .i64 r2∧W.heap.size≤Z∧wc.heap[Z]?=some (.cells #[.int .i64 r1.bD,.slice l r1.bj.length c] 31)∧Row Po.kT 82 wc W.heap.size (.slice l r1.bj.length c) r1.bj∧Below W.heap.size W wc)
      case first=>
        go_region_held3 (fun X=>X.cell? ⟨g,7,none⟩=some (.int .i64 (b.snd true).bD)∧X.cell? ⟨g,8,none⟩=some (.slice a (b.snd true).bj.length cap)∧X.cell? ⟨w.heap.size,0,none⟩=some (.int .i64 t.n)∧X.cell? ⟨w.heap.size,1,none⟩=some (.int .i64 t.k)∧X.cell? ⟨w.heap.size,2,none⟩=some (.int .i64 t.a)∧X.cell? ⟨w.heap.size,3,none⟩=some (.int .i64 t.s))
          ((refine cB _ ?_;repeat(first|exact d|exact Below.refl _ _|refine Below.drew ?_|refine aM ?_ _|refine aR ?_ (by simp) _)))
          (first
            |(go_at_call 121;refine(N W.drew ((Below.refl _ _).drew)).mono ?_;rintro e r ⟨u,rfl,f,d⟩;obtain⟨l,c,rfl,-,-,-⟩:=f.bQ;have d:Below W.heap.size W r:=((Below.refl _ _).drew).trans d;have f:Row Po.kT 82 r W.heap.size (.slice l r1.bj.length c) r1.bj:=f)
            | (go_at_call 121;refine(N (W.alloc (.cells #[.int .i64 0,.slice none 0 0] 31)).drew ((ar _ _).drew)).mono ?_;rintro e r ⟨u,rfl,f,d⟩;obtain⟨l,c,rfl,-,-,-⟩:=f.bQ;have o:r.heap[W.heap.size]?=some (.cells #[.int .i64 0,.slice none 0 0] 31):=(d.block _ (by simp)).trans (ah _ _ _ rfl);have d:Below W.heap.size W r:=((ar W (.cells #[.int .i64 0,.slice none 0 0] 31)).drew).trans (d.mono (by simp));have K:Row Po.kT 82 r (W.heap.size +1) (.slice l r1.bj.length c) r1.bj:=f.mono (by simp);obtain⟨x0,x1⟩:=iN o;have y0:r.frozen? ⟨W.heap.size,0,none⟩=false:=by simp[World.frozen?,o]
               have Y:r.frozen? ⟨W.heap.size,1,none⟩=false:=by simp[World.frozen?,o])
            |fail)
        all_goals
          go_wp2_with fail;go_meet
          first
            |exact⟨_,l,c,rfl,rfl,d.size,ah _ _ _ rfl,f.alloc _,aM d _⟩
            |exact⟨W.heap.size,l,c,rfl,rfl,aj _,qI o _ _,sx K _ _ _ _ (by omega),(d.setCell (aj _) _).setCell (aj _) _⟩
            |fail
      case rest=>
        obtain⟨Z,l,c,rfl,rfl,hZ,M,J,D⟩:=hcut;clear N cB Q t1 t2 P c5 c6 c7 c8;generalize wc=X at*;have A:=I.below D;have E:=(aG (aI:=aI) F).trans (aG D);by_cases B:r2=0
        · have L:(r2 !=0)=false:=by simpa using B
          have O:=aW (S.out.2 B);clear B;have C:Ap Po.kT (aT (aT aI w.heap.size 0) W.heap.size 0) X (.slice l r1.bj.length c) r1.bj 0:=pq J;have T:=A.Bq (A.mem.qN true C) (i:=7) (j:=8) (x:=.int .i64 r1.bD) (y:=.slice l r1.bj.length c) (by rfl);obtain⟨-,-,-,-,-,-,-,d7,d8,-⟩:=aU A.bR;have f0:=bO A.bR 7;have f1:=bO A.bR 8;obtain⟨u0,u1⟩:=iN M;rw[R]at d8;go_upto_region 4 with fail;go_region;all_goals go_wp2_with fail;go_ret;unfold cT;rw[O.out];exact⟨rfl,_,T.cj.drew,(E.trans (A.Cs _ _ _ _)).drew⟩
        · have L:(r2 !=0)=true:=by simpa using B
          have O:=aW (S.out.1 B);clear B;go_wp2_with fail;go_ret;unfold cT;rw[O.out];exact⟨rfl,_,A.cj,E⟩
theorem Tp.form{α:Type}{K:Kind α}{e:TypeId}{aI:bI}{aq:Nat}{w:World}{v:Value}{L:List α}{j:Nat}(h:Tp K e aI aq w v L j):∃a cap,v=.slice a L.length cap:=by obtain⟨a,cap,b,-⟩:=h.row.bQ;exact⟨a,cap,b⟩
theorem Hand.off{w:World}{g aq:Nat}{aI:bI}{b:aJ}{v:Vs}{cs:List CV}{f:List DV}{tm:Value}(h:Hand w g aq aI b v cs f tm){α:Type}{K:Kind α}{e:TypeId}{u:Value}{L:List α}{j:Nat}(a:Tp K e aI aq w u L j)(d:j≠1):u.ownBlock≠some g:=fun c=>by have:= a.aI g c;rw[h.lb]at this;exact d this.symm
theorem Hand.app{w w2:World}{g aq:Nat}{aI:bI}{b b':aJ}{v v':Vs}{cs cs':List CV}{n e:List DV}{tm:Value}{j:Nat}(H:Hand w g aq aI b v cs n tm)(f:fh aI j w w2)(l:j≠1)(k:Mem w2 (aT aI w.heap.size j) aq b' v' cs' e){i:Nat}{x:Value}(m:(dc b v tm).setIfInBounds i x=dc b' v' tm):Hand (w2.setCell ⟨g,i,none⟩ x) g aq (aT (aT aI w.heap.size j) w2.heap.size 1) b' v' cs' e tm:=by
 have c:=ae H.bR;have d:w2.heap[g]?=some (jZ b v tm):=(f.block g c (Or.inr (by rw[H.lb];exact fun h=>l h.symm))).trans H.bR;have a:aT aI w.heap.size j g=1:=by rw[aV c];exact H.lb
 exact⟨k.tK a i x,by rw[mV d,m];rfl,by rw[aV (ae d)];exact a⟩
theorem Hand.lR{w w2:World}{g aq:Nat}{aI:bI}{b:aJ}{v:Vs}{cs:List CV}{d:List DV}{tm:Value}{j:Nat}(H:Hand w g aq aI b v cs d tm)(a:fh aI j w w2)(c:j≠1):w2.heap[g]?=some (jZ b v tm):=(a.block g (ae H.bR) (Or.inr (by rw[H.lb];exact fun h=>c h.symm))).trans H.bR
theorem LK(g aq:Nat)(aI:bI)(b:aJ)(tm:Value)(r:Dy.Rc)(w:World)(h:cC w g aq aI b tm)(K:b.bt.length≤100):Calls prog 69 #[.pointer (some ⟨g,0,none⟩),.agg #[.int .i64 r.sh,.int .i64 r.au,.int .i64 r.k,.int .i64 r.m]] w (cT w g aq aI tm (lV b r)):=by
  obtain⟨v,cs,R,H⟩:=h.hand;have c:=ar w (.cells #[.int .i64 r.sh,.int .i64 r.au,.int .i64 r.k,.int .i64 r.m] 103);have d:=H.below c;have y:(w.alloc (.cells #[.int .i64 r.sh,.int .i64 r.au,.int .i64 r.k,.int .i64 r.m] 103)).heap[w.heap.size]?=some (.cells #[.int .i64 r.sh,.int .i64 r.au,.int .i64 r.k,.int .i64 r.m] 103):=ah _ _ _ rfl;obtain⟨W,p⟩:∃W,w.alloc (.cells #[.int .i64 r.sh,.int .i64 r.au,.int .i64 r.k,.int .i64 r.m] 103)=W:=⟨_,rfl⟩;rw[p]at c d y;have N:w.heap.size≤W.heap.size:=c.size;obtain⟨V,U,T,S⟩:W.cell? ⟨w.heap.size,0,none⟩=some (.int .i64 r.sh)∧W.cell? ⟨w.heap.size,1,none⟩=some (.int .i64 r.au)∧W.cell? ⟨w.heap.size,2,none⟩=some (.int .i64 r.k)∧W.cell? ⟨w.heap.size,3,none⟩=some (.int .i64 r.m):=by refine⟨?_,?_,?_,?_⟩<;>simp[World.cell?,y]
  obtain⟨a,cap,s⟩:=d.mem.bt.form;have z:=(aU d.bR).2.2.2.2.2.2.2.2.2.2.2.2.2.2.2.2.1;rw[s]at z;by_cases J:100≤b.bt.length
  · have G:Hid (lV b r=(b,5)):=aW (by unfold lV;rw[aB J]);have B:(100 :Int)≤b.bt.length:=by omega
    go_enter func69,ntmps69;go_wp2_with fail;go_ret;unfold cT;rw[G.out];exact⟨rfl,_,d.cj,aG c⟩
  · have G:Hid (lV b r=({b with bt:=b.bt++[r]},0)):=aW (by unfold lV;rw[ai J]);have B:¬((100 :Int)≤b.bt.length):=by omega
    have D:=ae d.bR;have X:∀o,(W.alloc o).cell? ⟨g,16,none⟩=some (.slice a b.bt.length cap):=fun o=>(aY _ _ _ D).trans z;have e:=d.mem.bt.row;rw[s]at e;have t:=d.off d.mem.bt (by decide);rw[s]at t;have O:aq≤W.heap.size:=d.mem.lo;go_enter func69,ntmps69;go_upto_region 3 with fail;try rw[p]
    clear p;go_region_law
      (first
        |(refine step_append Dy.mJ _ rfl (.tmp 17) (.tmp 19) rfl aq (.slice a b.bt.length cap) b.bt rfl (by repeat(first|exact e|refine Row.drew ?_|refine Row.alloc ?_ _)) _ 1 1 [r] rfl rfl (cV (by repeat(first|exact ah _ _ _ (by first|omega|(simp;done)|(simp;omega))|rw[eH])) rfl _) (by simp[maxLen];omega) (by simp;omega) (by first|omega|(simp;done)|(simp;omega)) ?_;intro Q w2 f n E C;have q:=d.below (aM (Below.refl _ _) (.cells #[.int .i64 r.sh,.int .i64 r.au,.int .i64 r.k,.int .i64 r.m] 103)).drew;have F:=q.mem.bt;rw[s]at F;have A:=fW n F.aI (by decide);have u:=q.lR A (by decide);have I:=(aU u).2.2.2.2.2.2.2.2.2.2.2.2.2.2.2.2.1;rw[s]at I;have P:=bO u 16;obtain⟨L,l,rfl,-,-,-⟩:=f.bQ;have M:=q.app A (by decide) (q.mem.xZ A (F.grow f (fun _=>C (by simp)) E)) (i:=16) (x:=.slice L (b.bt ++[r]).length l) (by rfl);have j:=((aG (aI:=aI) c).trans (aG (aM (Below.refl _ _) (.cells #[.int .i64 r.sh,.int .i64 r.au,.int .i64 r.k,.int .i64 r.m] 103)).drew)).trans ((gD A (by decide)).trans (dg (x:=.slice L (b.bt++[r]).length l) (i:=16) (by rw[aV (ae q.bR)];exact q.lb))))
        |fail);all_goals go_wp2_with fail;go_ret;unfold cT;rw[G.out];rw[a_]at M j;exact⟨rfl,_,M.cj,j⟩
theorem eS{x:Int}(h1:-9223372036854775808≤x)(h2:x≤9223372036854775807):IntKind.i64.wrap x=x:=by simp[IntKind.wrap,IntKind.bits,IntKind.signed];omega
structure IZ(w:World)(aI:bI)(aq:Nat)(v:Vs)(L:List Int)(k gd cap:Nat):Prop where
 val:v.d=.slice (some ⟨gd,0,none⟩) L.length cap
 ge:aq≤gd
 lt:gd<w.heap.size
 lb:aI gd=3
 c0:w.cell? ⟨gd,k,none⟩=some (.int .i64 (L.getD k 0))fz:w.frozen? ⟨gd,k,none⟩=false
 put:∀y:Int,(w.setCell ⟨gd,k,none⟩ (.int .i64 y)).ownsRow aq 3 kI.size v.d (L.set k y).length (kI.flat (L.set k y))
theorem Mem.rq{w:World}{aI:bI}{aq:Nat}{b:aJ}{v:Vs}{cs:List CV}{r:List DV}(h:Mem w aI aq b v cs r){k:Nat}(f:k<b.due.length):∃gd cap,IZ w aI aq v b.due k gd cap:=by
 have i:b.due≠[]:=by intro h0;rw[h0]at f;simp at f
 obtain⟨gd,cap,g,l,j,n,m,e⟩:=Row.put (h.due.own i) f;obtain⟨a,c,d,p⟩:=h.due.ap.bQ;rw[g]at d;obtain⟨rfl,-,rfl⟩:=bB d;obtain⟨s,off,q,-,o⟩:=lB p f;cases q;rw[dW]at o;refine⟨gd,cap,g,l,j,h.due.aI gd (by rw[g];rfl),o,m _,fun y=>?_⟩;have :=e y;rw[show k*kI.size=k from Nat.mul_one k]at this;exact this
theorem Hand.tg{w:World}{g aq:Nat}{aI:bI}{b:aJ}{v:Vs}{cs:List CV}{d:List DV}{tm:Value}(H:Hand w g aq aI b v cs d tm){k gd cap:Nat}(D:IZ w aI aq v b.due k gd cap)(y:Int):Hand (w.setCell ⟨gd,k,none⟩ (.int .i64 y)) g aq (aT aI w.heap.size 3) {b with due:=b.due.set k y} v cs d tm:=by have a:fh aI 3 w (w.setCell ⟨gd,k,none⟩ (.int .i64 y)):=iH w ⟨gd,k,none⟩ _ D.lb (by decide);refine⟨H.mem.Ly a ⟨.own _ _ (D.put y),fun _=>D.put y,fun j c=>by rw[aV (H.mem.due.row.dV j c).2];exact H.mem.due.aI j c⟩,H.lR a (by decide),by rw[aV (ae H.bR)];exact H.lb⟩
theorem Hand.th{w:World}{g aq:Nat}{aI:bI}{b:aJ}{v:Vs}{cs:List CV}{a:List DV}{tm:Value}(_:Hand w g aq aI b v cs a tm){k gd cap:Nat}(D:IZ w aI aq v b.due k gd cap)(y:Int):ir w aI (w.setCell ⟨gd,k,none⟩ (.int .i64 y)) (aT aI w.heap.size 3):=gD (iH w ⟨gd,k,none⟩ _ D.lb (by decide)) (by decide)
theorem FJ(g aq:Nat)(aI:bI)(b:aJ)(tm:Value)(k:Nat)(src sum:Int)(w:World)(h:cC w g aq aI b tm)(n:k<b.due.length)(j:k≤1000000)(A:-1000000000000000≤b.due.getD k 0)(z:b.due.getD k 0≤1000000000000000)(y:-1000000000000000≤sum)(u:sum≤1000000000000000):Calls prog 98 #[.pointer (some ⟨g,0,none⟩),.int .i64 (k :Int),.int .i64 src,.int .i64 sum] w (cT w g aq aI tm (jV b k src sum)):=by
 obtain⟨v,cs,B,H⟩:=h.hand;obtain⟨gd,cap,D⟩:=H.mem.rq n;have m:(k :Int)<b.due.length:=by omega
 obtain⟨-,-,-,c3,-⟩:=aU H.bR;rw[D.val]at c3;have d0:=D.c0;have C:=D.fz;have i:=H.tg D (b.due.getD k 0+sum);have f:Hid (jV b k src sum=b9 {b with due:=b.due.set k (b.due.getD k 0+sum)} src (50 +k) sum):=aW (by unfold jV ky aJ.dG;rw[bN]);have a:=H.th D (b.due.getD k 0+sum);generalize b.due.getD k 0=x at*;have d:∀(X:World) (l:bI),cC X g aq l {b with due:=b.due.set k (x +sum)} tm→Calls prog 88 #[.pointer (some ⟨g,0,none⟩),.int .i64 src,.int .i64 (50 +k),.int .i64 sum] X (cT X g aq l tm (b9 {b with due:=b.due.set k (x +sum)} src (50+k) sum)):=fun X l o=>yg g aq l _ tm src (50 +k) sum X o;rw[←f.out]at d;have s:=i.cj;clear f i H D;generalize jV b k src sum=r at*;go_enter func98,ntmps98;go_upto_region 2 with fail;generalize w.setCell _ _=W at*;go_wp2_with(go_at_call 88;refine(d _ _ s).mono ?_;rintro e t ⟨rfl,c,p,q⟩);go_ret;exact⟨rfl,_,p,a.trans q⟩
theorem qL(g aq:Nat)(aI:bI)(b:aJ)(tm:Value)(k:Nat)(dst sum:Int)(w:World)(h:cC w g aq aI b tm)(n:k<b.due.length)(j:k≤1000000)(A:-1000000000000000≤b.due.getD k 0)(z:b.due.getD k 0≤1000000000000000)(y:-1000000000000000≤sum)(u:sum≤1000000000000000):Calls prog 78 #[.pointer (some ⟨g,0,none⟩),.int .i64 (k :Int),.int .i64 dst,.int .i64 sum] w (cT w g aq aI tm (dH b k dst sum)):=by
 obtain⟨v,cs,B,H⟩:=h.hand;obtain⟨gd,cap,D⟩:=H.mem.rq n;have m:(k :Int)<b.due.length:=by omega
 obtain⟨-,-,-,c3,-⟩:=aU H.bR;rw[D.val]at c3;have d0:=D.c0;have C:=D.fz;have i:=H.tg D (b.due.getD k 0-sum);have f:Hid (dH b k dst sum=b9 {b with due:=b.due.set k (b.due.getD k 0-sum)} (50 +k) dst sum):=aW (by unfold dH ky aJ.dG;rw[bN,←Int.sub_eq_add_neg]);have a:=H.th D (b.due.getD k 0-sum);generalize b.due.getD k 0=x at*;have d:∀(X:World) (l:bI),cC X g aq l {b with due:=b.due.set k (x -sum)} tm→Calls prog 88 #[.pointer (some ⟨g,0,none⟩),.int .i64 (50 +k),.int .i64 dst,.int .i64 sum] X (cT X g aq l tm (b9 {b with due:=b.due.set k (x-sum)} (50+k) dst sum)):=fun X l o=>yg g aq l _ tm (50 +k) dst sum X o;rw[←f.out]at d;have s:=i.cj;clear f i H D;generalize dH b k dst sum=r at*;go_enter func78,ntmps78;go_upto_region 2 with fail;generalize w.setCell _ _=W at*;go_wp2_with(go_at_call 88;refine(d _ _ s).mono ?_;rintro e t ⟨rfl,c,p,q⟩);go_ret;exact⟨rfl,_,p,a.trans q⟩
theorem sD(x y:Int)(c:Nat)(w:World):Calls prog 66 #[.slice (some ⟨w.heap.size,0,none⟩) 2 c] (w.alloc (.cells #[.int .i64 x,.int .i64 y] 45)) fun e a=>e=.returned (.int .i64 (nY x y))∧a=w.alloc (.cells #[.int .i64 x,.int .i64 y] 45):=by
 have:= xM [x,y] w.heap.size c (w.alloc (.cells #[.int .i64 x,.int .i64 y] 45)) (by simp) (fun i hi=>by
  match i,hi with
  |0,_=>simp
  |1,_=>simp);rw[CS]at this;exact this
theorem Gm(x y z:Int)(c:Nat)(w:World):Calls prog 66 #[.slice (some ⟨w.heap.size,0,none⟩) 3 c] (w.alloc (.cells #[.int .i64 x,.int .i64 y,.int .i64 z] 45)) fun e a=>e=.returned (.int .i64 (nY x (nY y z)))∧a=w.alloc (.cells #[.int .i64 x,.int .i64 y,.int .i64 z] 45):=by
 have :=xM [x,y,z] w.heap.size c (w.alloc (.cells #[.int .i64 x,.int .i64 y,.int .i64 z] 45)) (by simp) (fun i hi=>by
  match i,hi with
  |0,_=>simp
  |1,_=>simp
  |2,_=>simp);rw[Ey]at this;exact this
theorem sK(g aq:Nat)(aI:bI)(b:aJ)(tm:Value)(k:Nat)(src sum:Int)(w:World)(h:cC w g aq aI b tm)(p:k<b.aL.length)(o:k≤1000000):Calls prog 60 #[.pointer (some ⟨g,0,none⟩),.int .i64 (k:Int),.int .i64 src,.int .i64 sum] w (cT w g aq aI tm (eU b k src sum)):=by
 have m:=BJ g aq aI b tm k 0 sum w h p;have t:Hid (eU b k src sum=((b9 (cN b k 0 sum).1 src (10 +k) sum).1,nY (cN b k 0 sum).2 (b9 (cN b k 0 sum).1 src (10+k) sum).2)):=aW rfl;have n:∀(X:World) (l:bI),cC X g aq l (cN b k 0 sum).1 tm→Calls prog 88 #[.pointer (some ⟨g,0,none⟩),.int .i64 src,.int .i64 (10 +k),.int .i64 sum] X (cT X g aq l tm (b9 (cN b k 0 sum).1 src (10+k) sum)):=fun X l s=>yg g aq l _ tm src (10 +k) sum X s;unfold cT at m n;generalize cN b k 0 sum=r at*;generalize b9 r.1 src (10+k) sum=q at*;go_enter func60,ntmps60;go_wp2_with(first
  |(go_at_call 87;refine m.mono ?_;rintro e v ⟨rfl,j,c,f⟩)
  |(go_at_call 88;refine(n _ _ c).mono ?_;rintro e w2 ⟨rfl,i,a,d⟩)
  |(go_at_call 66;refine(sD r.2 q.2 _ w2).mono ?_;rintro e u ⟨rfl,rfl⟩));go_ret;unfold cT;rw[t.out];exact⟨rfl,_,a.below (ar _ _),(f.trans d).trans (aG (ar _ _))⟩
theorem BO(g aq:Nat)(aI:bI)(b:aJ)(tm:Value)(k:Nat)(dst sum:Int)(w:World)(h:cC w g aq aI b tm)(p:k<b.aL.length)(o:k≤1000000)(y:-1000000000000000≤sum)(x:sum≤1000000000000000):Calls prog 94 #[.pointer (some ⟨g,0,none⟩),.int .i64 (k :Int),.int .i64 dst,.int .i64 sum] w (cT w g aq aI tm (df b k dst sum)):=by
 have m:=BJ g aq aI b tm k 0 (-sum) w h p;have t:Hid (df b k dst sum=((b9 (cN b k 0 (-sum)).1 (10 +k) dst sum).1,nY (cN b k 0 (-sum)).2 (b9 (cN b k 0 (-sum)).1 (10 +k) dst sum).2)):=aW rfl;have n:∀(X:World) (l:bI),cC X g aq l (cN b k 0 (-sum)).1 tm→Calls prog 88 #[.pointer (some ⟨g,0,none⟩),.int .i64 (10+k),.int .i64 dst,.int .i64 sum] X (cT X g aq l tm (b9 (cN b k 0 (-sum)).1 (10 +k) dst sum)):=fun X l s=>yg g aq l _ tm (10 +k) dst sum X s;unfold cT at m n;generalize cN b k 0 (-sum)=r at*;generalize b9 r.1 (10+k) dst sum=q at*;go_enter func94,ntmps94;go_wp2_with(first
  |(go_at_call 87;refine m.mono ?_;rintro e v ⟨rfl,j,c,f⟩)
  |(go_at_call 88;refine(n _ _ c).mono ?_;rintro e w2 ⟨rfl,i,a,d⟩)
  |(go_at_call 66;refine(sD r.2 q.2 _ w2).mono ?_;rintro e u ⟨rfl,rfl⟩));go_ret;unfold cT;rw[t.out];exact⟨rfl,_,a.below (ar _ _),(f.trans d).trans (aG (ar _ _))⟩
structure nX(w:World)(z p:Nat)(a:Au.Au):Prop where
 c0:w.cell? ⟨z,p,none⟩=some (.int .i64 a.aK)c1:w.cell? ⟨z,p+1,none⟩=some (.int .i64 a.aQ)c2:w.cell? ⟨z,p+2,none⟩=some (.int .i64 a.sum)c3:w.cell? ⟨z,p+3,none⟩=some (.int .i64 a.cap)c4:w.cell? ⟨z,p+4,none⟩=some (.int .i64 a.ref)c5:w.cell? ⟨z,p+5,none⟩=some (.int .i64 a.eB)c6:w.cell? ⟨z,p+6,none⟩=some (.int .i64 a.cJ)c7:w.cell? ⟨z,p+7,none⟩=some (.bool a.shut)
theorem nX.all{w:World}{z p:Nat}{a:Au.Au}(h:nX w z p a):w.cell? ⟨z,p,none⟩=some (.int .i64 a.aK)∧w.cell? ⟨z,p+1,none⟩=some (.int .i64 a.aQ)∧w.cell? ⟨z,p+2,none⟩=some (.int .i64 a.sum)∧w.cell? ⟨z,p+3,none⟩=some (.int .i64 a.cap)∧w.cell? ⟨z,p+4,none⟩=some (.int .i64 a.ref)∧w.cell? ⟨z,p+5,none⟩=some (.int .i64 a.eB)∧w.cell? ⟨z,p+6,none⟩=some (.int .i64 a.cJ)∧w.cell? ⟨z,p+7,none⟩=some (.bool a.shut):=⟨h.c0,h.c1,h.c2,h.c3,h.c4,h.c5,h.c6,h.c7⟩
theorem nX.on{w b:World}{z p:Nat}{a:Au.Au}(h:nX w z p a)(c:b.heap[z]?=w.heap[z]?):nX b z p a:=by have e:∀q,b.cell? ⟨z,q,none⟩=w.cell? ⟨z,q,none⟩:=fun q=>ri (a:=⟨z,q,none⟩) c;exact⟨(e _).trans h.c0,(e _).trans h.c1,(e _).trans h.c2,(e _).trans h.c3,(e _).trans h.c4,(e _).trans h.c5,(e _).trans h.c6,(e _).trans h.c7⟩
def iA(a:Au.Au):Obj:=.cells #[.int .i64 a.aK,.int .i64 a.aQ,.int .i64 a.sum,.int .i64 a.cap,.int .i64 a.ref,.int .i64 a.eB,.int .i64 a.cJ,.bool a.shut] 78
theorem bJ{w:World}{z:Nat}{a:Au.Au}(h:w.heap[z]?=some (iA a)):nX w z 0 a:=by unfold iA at h;refine⟨?_,?_,?_,?_,?_,?_,?_,?_⟩<;>simp[World.cell?,h]
structure Ie(w:World)(aI:bI)(aq:Nat)(v:Vs)(L:List Au.Au)(k ga cap:Nat):Prop where
 val:v.a=.slice (some ⟨ga,0,none⟩) L.length cap
 ge:aq≤ga
 lt:ga<w.heap.size
 lb:aI ga=4
 cells:nX w ga (k *8) (L.getD k zA)fz:∀p,w.frozen? ⟨ga,p,none⟩=false
 put:∀y,(cY w ga (k*8) (qx.cells y)).ownsRow aq 78 qx.size v.a (L.set k y).length (qx.flat (L.set k y))
theorem Mem.jy{w:World}{aI:bI}{aq:Nat}{b:aJ}{v:Vs}{cs:List CV}{A:List DV}(h:Mem w aI aq b v cs A){k:Nat}(g:k<b.ax.length):∃f cap,Ie w aI aq v b.ax k f cap:=by
 have m:b.ax≠[]:=by intro h0;rw[h0]at g;simp at g
 obtain⟨f,cap,l,o,n,r,p,e⟩:=Row.put (h.ax.own m) g;obtain⟨a,c,d,s⟩:=h.ax.ap.bQ;rw[l]at d;obtain⟨rfl,-,rfl⟩:=bB d;obtain⟨B,off,z,-,y⟩:=s.elem (i:=k) (x:=b.ax.getD k zA) (by simp[List.getD,g]);cases z;have q:∀j u,(qx.cells (b.ax.getD k zA))[j]?=some u→w.cell? ⟨f,k*8+j,none⟩=some u:=fun j u t=>by have :=y j u t;rwa[dW]at this
 exact⟨f,cap,l,o,n,h.ax.aI f (by rw[l];rfl),⟨q 0 _ rfl,q 1 _ rfl,q 2 _ rfl,q 3 _ rfl,q 4 _ rfl,q 5 _ rfl,q 6 _ rfl,q 7 _ rfl⟩,p,e⟩
theorem Hand.tQ{w:World}{g aq:Nat}{aI:bI}{b:aJ}{v:Vs}{cs:List CV}{f:List DV}{tm:Value}(H:Hand w g aq aI b v cs f tm){k c cap:Nat}(A:Ie w aI aq v b.ax k c cap)(y:Au.Au):Hand (cY w c (k*8) (qx.cells y)) g aq (aT aI w.heap.size 4) {b with ax:=b.ax.set k y} v cs f tm:=by have d:fh aI 4 w (cY w c (k*8) (qx.cells y)):=eO w c (k *8) (qx.cells y) A.lb (by decide);refine⟨H.mem.rn (va:=v.a) d ⟨.own _ _ (A.put y),fun _=>A.put y,fun j e=>by rw[aV (H.mem.ax.row.dV j e).2];exact H.mem.ax.aI j e⟩,H.lR d (by decide),by rw[aV (ae H.bR)];exact H.lb⟩
theorem iE{w:World}{aI:bI}{a j:Nat}(h:aI a=j)(h0:j≠0)(b:j≤8)(p:Nat)(l:List Value):ir w aI (cY w a p l) (aT aI w.heap.size j):=gD (eO w a p l h h0) b
theorem gg{a:Au.Au}(h:Au.b_ a=0):0≤Au.bK a∧Au.bK a≤1000000∧0≤a.aK:=by obtain⟨h1,h2⟩:=Au.dX.1 h;have :=gF h1 h2;exact⟨this.1,this.2,h1.2.2.2.2.1.1⟩
theorem Jx(g aq:Nat)(aI:bI)(b:aJ)(tm:Value)(k:Nat)(a:Au.Au)(w:World)(h:cC w g aq aI b tm)(hk:k<b.ax.length)(P:Au.b_ a=0)(w2:Au.b_ (b.ax.getD k zA)=0)(L:a.aK<b.aL.length):Calls prog 67 #[.pointer (some ⟨g,0,none⟩),.int .i64 (k:Int),Au.av a] w (cT w g aq aI tm (dL b k a)):=by
 obtain⟨v,cs,ds,H⟩:=h.hand;have C:=ar w (iA a);have F:=H.below C;have n:(w.alloc (iA a)).heap[w.heap.size]?=some (iA a):=ah _ _ _ rfl;have U:aT aI w.heap.size 0 w.heap.size=0:=bu (aj _);obtain⟨W,q⟩:∃W,w.alloc (iA a)=W:=⟨_,rfl⟩;rw[q]at C F n;unfold iA at q;have S0:=aG (aI:=aI) C;obtain⟨m,cap,A⟩:=F.mem.jy hk;have aa:(k :Int)<b.ax.length:=by omega
 obtain⟨-,-,-,-,c4,-⟩:=aU F.bR;rw[A.val]at c4;have ha:=gg P;have ho:=gg w2;have D:∀X:World,Calls prog 93 #[Au.av a] X fun e E=>e=.returned (.int .i64 (Au.bK a))∧Below X.heap.size X E:=fun X=>Au.ry a X P;have s:∀X:World,Calls prog 93 #[Au.av (b.ax.getD k zA)] X fun e E=>e=.returned (.int .i64 (Au.bK (b.ax.getD k zA)))∧Below X.heap.size X E:=fun X=>Au.ry _ X w2;have hE:Hid (dL b k a=cN {b with ax:=b.ax.set k a} a.aK (Au.bK a-Au.bK (b.ax.getD k zA)) 0):=aW (by unfold dL aJ.bz;rw[bN]);have A0:=bJ n;have V:=ae F.bR;have u:=ae n;have cB:∀X:World,Below W.heap.size W X→(X.cell? ⟨g,4,none⟩=some (.slice (some ⟨m,0,none⟩) b.ax.length cap))∧nX X w.heap.size 0 a∧nX X m (k *8) (b.ax.getD k zA):=fun X hX=>
  ⟨(hX.cell (p:=⟨g,4,none⟩) V).trans c4,A0.on (hX.block _ u),A.cells.on (hX.block _ A.lt)⟩;unfold Au.av at D s⊢;have z:Hid (a.aK<b.aL.length∧0≤a.aK):=aW ⟨L,ha.2.2⟩;clear P w2 L;obtain⟨x,hx⟩:∃x,Hid (x=b.ax.getD k zA):=⟨_,rfl⟩;rw[←hx.out]at s hE cB ho;obtain⟨ag,af,-⟩:=ha;obtain⟨a9,a7,-⟩:=ho;generalize Au.bK a=h1 at*;generalize Au.bK x=h2 at*;have O:Hid True:=trivial;have a5:IntKind.i64.wrap (h1 -h2)=h1-h2:=eS (by omega) (by omega);go_enter func67,ntmps67;go_upto_region 1 with fail;try rw[q]
 clear q;go_cut[7]from 8 to 19 (fun p wc=>p=.int .i64 (h1-h2)∧Below W.heap.size W wc)
 case first=>
  refine bm (S:=(fun X=>X.cell? ⟨g,4,none⟩=some (.slice (some ⟨m,0,none⟩) b.ax.length cap)∧nX X w.heap.size 0 a∧nX X m (k*8) x)) (by kernel_rfl) (cB _ ((Below.refl _ _).drew)) (fun d=>?_);refine tk 0 (.agg #[.int .i64 a.aK,.int .i64 a.aQ,.int .i64 a.sum,.int .i64 a.cap,.int .i64 a.ref,.int .i64 a.eB,.int .i64 a.cJ,.bool a.shut]) d ?_ ?_;·intro E j;obtain⟨C4,N,M⟩:=j;obtain⟨c0,c1,c2,c3,c4,c5,c6,c7⟩:=N.all;obtain⟨d0,d1,d2,d3,d4,d5,d6,d7⟩:=M.all;go_simp
  refine tj 2 (.pointer (some ⟨g,0,none⟩)) d ?_;refine tj 3 (.pointer (some ⟨g,0,none⟩)) d ?_;refine tj 4 (.pointer (some ⟨g,0,none⟩)) d ?_;try simp only[Act.put]
  refine tj 5 (.pointer (some ⟨g,4,none⟩)) d ?_;refine tk 6 (.slice (some ⟨m,0,none⟩) b.ax.length cap) d ?_ ?_;·intro E j;obtain⟨C4,N,M⟩:=j;obtain⟨c0,c1,c2,c3,c4,c5,c6,c7⟩:=N.all;obtain⟨d0,d1,d2,d3,d4,d5,d6,d7⟩:=M.all;go_simp
  refine tj 7 (.int .i64 (k:Int)) d ?_;refine tj 8 (.pointer (some ⟨m,k*8,none⟩)) d ?_;try simp only[Act.put]
  refine tk 9 (.agg #[.int .i64 x.aK,.int .i64 x.aQ,.int .i64 x.sum,.int .i64 x.cap,.int .i64 x.ref,.int .i64 x.eB,.int .i64 x.cJ,.bool x.shut]) d ?_ ?_;·intro E j;obtain⟨C4,N,M⟩:=j;obtain⟨c0,c1,c2,c3,c4,c5,c6,c7⟩:=N.all;obtain⟨d0,d1,d2,d3,d4,d5,d6,d7⟩:=M.all;go_simp
  try simp only[Act.put]
  refine rj [1] (.cons rfl (fun K t=>?_) .nil);go_simp;refine(D _).mono ?_;rintro e wA ⟨rfl,i⟩;have i:Below W.heap.size W wA:=((Below.refl _ _).drew).trans i;go_simp;refine t.out _ _ (cB _ i) (fun d=>?_);clear t K;try simp only[cU,Act.put]
  refine rj [10] (.cons rfl (fun K t=>?_) .nil);go_simp;refine(s _).mono ?_;rintro e wB ⟨rfl,f⟩;have f:Below W.heap.size W wB:=i.trans (f.mono i.size);go_simp;refine t.out _ _ (cB _ f) (fun d=>?_);clear t K;refine tj 11 (.int .i64 (h1-h2)) d ?_;try simp only[Act.put]
  refine rj [12] (.cons rfl (fun K t=>?_) .nil);go_simp;refine t.out _ _ (cB _ f) (fun d=>?_);clear t K;try simp only[cU,Act.put]
  refine bA (by kernel_rfl) ?_ _;go_wp2_with fail;go_meet;exact⟨rfl,f⟩
 case rest=>
  obtain⟨rfl,o⟩:=hcut;generalize wc=X at*;obtain⟨q0,q1,-⟩:=cB X o;have H2:=F.below o;have S1:=S0.trans (aG o);have Q:X.heap[w.heap.size]?=some (iA a):=(o.block _ u).trans n;obtain⟨gb,a6,B⟩:=H2.mem.jy hk;have R:=A.val.symm.trans B.val;obtain⟨Z,-,a1⟩:=bB R;cases Z;subst a1;obtain⟨y0,y1,y2,y3,y4,y5,y6,y7⟩:=B.cells.all;obtain⟨u0,u1,u2,u3,u4,u5,u6,u7⟩:=q1.all;have z0:=B.fz (k *8);have z1:=B.fz (k*8+1);have z2:=B.fz (k*8+2);have z3:=B.fz (k *8+3);have z4:=B.fz (k *8+4);have z5:=B.fz (k *8+5);have z6:=B.fz (k*8+6);have z7:=B.fz (k*8+7);have H3:=(H2.tQ B a).drew;have S2:=(S1.trans (iE B.lb (by decide) (by decide) (k *8) (qx.cells a))).drew;have T:w.heap.size≠m:=fun h=>by have:= B.lb;rw[←h,aV (bp u (aj _)),U]at this;cases this
  have y:(cY X m (k*8) (qx.cells a)).drew.heap[w.heap.size]?=some (iA a):=by rw[eH,cE X m (k *8) w.heap.size (qx.cells a) T];exact Q
  clear cB A0 A F c4 D s;generalize b.ax.getD k zA=xx at*;have I:=DH X m (k*8) (.int .i64 a.aK) (.int .i64 a.aQ) (.int .i64 a.sum) (.int .i64 a.cap) (.int .i64 a.ref) (.int .i64 a.eB) (.int .i64 a.cJ) (.bool a.shut);have G:qx.cells a=[.int .i64 a.aK,.int .i64 a.aQ,.int .i64 a.sum,.int .i64 a.cap,.int .i64 a.ref,.int .i64 a.eB,.int .i64 a.cJ,.bool a.shut]:=rfl;rw[G,I]at H3 S2 y;obtain⟨c,L⟩:∃c:Nat,a.aK=c:=⟨a.aK.toNat,by have:= z.out;omega⟩;have J:c<b.aL.length:=by have :=z.out;omega
  clear I G;have d:∀(Y:World) (l:bI),cC Y g aq l {b with ax:=b.ax.set k a} tm→Calls prog 87 #[.pointer (some ⟨g,0,none⟩),.int .i64 a.aK,.int .i64 (h1 -h2),.int .i64 0] Y (cT Y g aq l tm (dL b k a)):=fun Y l hY=>by have:= BJ g aq l _ tm c (h1 -h2) 0 Y hY J;rw[hE.out,L];exact this
  generalize dL b k a=r at*;have r0:=(bJ y).c0;have G3:=H3.cj;clear hE L J y z q1 hx;go_upto_region 2 with fail;go_region;all_goals generalize((((((((X.setCell _ _).setCell _ _).setCell _ _).setCell _ _).setCell _ _).setCell _ _).setCell _ _).setCell _ _).drew=Y at*;go_wp2_with(go_at_call 87;refine(d _ _ G3).mono ?_;rintro e w5 ⟨rfl,a4,a3,a2⟩);go_ret;exact⟨rfl,_,a3,S2.trans a2⟩
