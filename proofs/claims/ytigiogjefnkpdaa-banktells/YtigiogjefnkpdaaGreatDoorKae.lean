import Derived.Test.YtigiogjefnkpdaaGreatDoorKa
set_option maxHeartbeats 4000000
set_option maxRecDepth 100000
open Go.Proofs.Tryz
namespace Go.Proofs.YtigiogjefnkpdaaGreatDoor.Au
structure Au where
 aK:Int
 aQ:Int
 sum:Int
 cap:Int
 ref:Int
 eB:Int
 cJ:Int
 shut:Bool
def fO:Au:=⟨0,0,0,0,0,0,0,false⟩
def qw(n:Int):Bool:=decide (0≤n)&&decide (n ≤1000000)
def AB(n:Int):Bool:=decide (1≤n)&&decide (n ≤1000000)
def vA(n:Int):Bool:=decide (0≤n)&&decide (n <8)
theorem pH{n:Int}:qw n=true↔0≤n∧n≤1000000:=by unfold qw;simp
theorem vi{n:Int}:AB n=true↔1≤n∧n≤1000000:=by unfold AB;simp
theorem pa{n:Int}:vA n=true↔0≤n∧n<8:=by unfold vA;simp
theorem p'{n:Int}:qw n=false↔¬(0 ≤n∧n≤1000000):=by rw[←pH];simp
theorem wO{n:Int}:AB n=false↔¬(1 ≤n∧n≤1000000):=by rw[←vi];simp
theorem mo{n:Int}:vA n=false↔¬(0 ≤n∧n<8):=by rw[←pa];simp
abbrev wj(a:Au):Prop:=(0 ≤a.sum∧a.sum≤1000000)∧(0 ≤a.cap∧a.cap≤1000000)∧(0 ≤a.ref∧a.ref≤1000000)∧(0≤a.eB∧a.eB≤1000000)∧(0≤a.aK∧a.aK<8)∧(0 ≤a.aQ∧a.aQ<8)∧0≤a.cJ∧a.cJ≤1000100
abbrev Fit(a:Au):Prop:=a.cap≤a.sum∧a.ref+a.eB≤a.cap
def b_(a:Au):Int:=if wj a then(if Fit a then 0 else 8)else 3
theorem dX{a:Au}:b_ a=0↔wj a∧Fit a:=by
 unfold b_;by_cases h:wj a
 ·rw[aB h];by_cases h2:Fit a;·rw[aB h2];exact⟨fun _=>⟨h,h2⟩,fun _=>rfl⟩
  ·rw[ai h2];exact⟨fun e=>absurd e (by decide),fun e=>absurd e.2 h2⟩
 ·rw[ai h];exact⟨fun e=>absurd e (by decide),fun e=>absurd e.1 h⟩
theorem iY{a:Au}(h:¬wj a):b_ a=3:=by unfold b_;rw[ai h]
theorem uX{a:Au}(h:wj a)(h2:¬Fit a):b_ a=8:=by unfold b_;rw[aB h,ai h2]
def room(a:Au)(k:Int):Int:=if k=1 then 1000000-a.sum else if k≤4 then a.sum-a.cap else if k≤6 then a.cap-a.ref-a.eB else a.eB
def ez(a:Au)(k n:Int):Int:=if b_ a≠0 then b_ a
 else if k<1∨8<k then 1
 else if n<1∨1000000<n then 3
 else if a.shut=true∧k≤4 then 9
 else if n≤room a k then 0
 else if k=1 then 4 else 10
def step(a:Au)(k n:Int):Au:=if k=1 then⟨a.aK,a.aQ,a.sum+n,a.cap,a.ref,a.eB,a.cJ,a.shut⟩else if k=2 then⟨a.aK,a.aQ,a.sum,a.cap+n,a.ref,a.eB,a.cJ,a.cap+n==a.sum⟩else if k=3 then⟨a.aK,a.aQ,a.sum,a.cap+n,a.ref,a.eB,a.cJ,true⟩else if k=4 then⟨a.aK,a.aQ,a.sum-n,a.cap,a.ref,a.eB,a.cJ,a.cap==a.sum-n⟩else if k=5 then⟨a.aK,a.aQ,a.sum,a.cap,a.ref+n,a.eB,a.cJ,a.shut⟩else if k=6 then⟨a.aK,a.aQ,a.sum,a.cap,a.ref,a.eB+n,a.cJ,a.shut⟩else if k=7 then⟨a.aK,a.aQ,a.sum,a.cap,a.ref+n,a.eB-n,a.cJ,a.shut⟩else⟨a.aK,a.aQ,a.sum,a.cap,a.ref,a.eB-n,a.cJ,a.shut⟩
def mv(a:Au)(k n:Int):Au×Int:=if ez a k n=0 then(step a k n,0)else(fO,ez a k n)
theorem yA{a:Au}{k n:Int}(h:ez a k n≠0):mv a k n=(fO,ez a k n):=by unfold mv;rw[ai h]
theorem uy{a:Au}{k n:Int}(h:ez a k n=0):mv a k n=(step a k n,0):=by unfold mv;rw[aB h]
abbrev Ma(a:Au)(k n:Int):Prop:=wj a∧Fit a∧1≤k∧k≤8∧1≤n∧n≤1000000∧(k ≤4→a.shut=false)∧n≤room a k
theorem iB{a:Au}{k n:Int}:ez a k n=0↔Ma a k n:=by
 unfold ez Ma;rw[←and_assoc,←dX];by_cases h1:b_ a=0
 ·rw[ai (by simpa using h1)];by_cases h2:k<1∨8<k
  ·rw[aB h2];constructor;·intro h;simp at h
   ·rintro⟨-,p,q,-⟩;omega
  ·rw[ai h2];by_cases e:n<1∨1000000<n
   ·rw[aB e];constructor;·intro h;simp at h
    ·rintro⟨-,-,-,p,q,-⟩;omega
   ·rw[ai e];by_cases b:a.shut=true∧k≤4
    ·rw[aB b];constructor;·intro h;simp at h
     ·rintro⟨-,-,-,-,-,p,-⟩;have :=p b.2;rw[b.1]at this;cases this
    ·rw[ai b]
     have d:k≤4→a.shut=false:=fun h=>by
      cases f:a.shut;·rfl
      ·exact absurd ⟨f,h⟩ b
     by_cases c:n≤room a k;·rw[aB c];exact⟨fun _=>⟨h1,by omega,by omega,by omega,by omega,d,c⟩,fun _=>rfl⟩
     ·rw[ai c];constructor;·intro h;split at h<;>simp at h
      ·rintro⟨-,-,-,-,-,-,p⟩;exact absurd p c
 ·rw[aB h1];constructor;·intro h;exact absurd h h1
  ·rintro⟨h,-⟩;exact absurd h h1
def fK(aK aQ n time:Int):Au×Int:=if(1 ≤n∧n≤1000000)∧0≤time∧time≤1000000∧(0 ≤aK∧aK<8)∧0≤aQ∧aQ<8 then(⟨aK,aQ,n,0,0,0,time+100,false⟩,0)else(fO,3)
def bK(a:Au):Int:=if a.shut=true then 0 else a.sum-a.cap
def ey(a:Au)(time:Int):Au:=⟨a.aK,a.aQ,a.sum,a.cap,a.ref,a.eB,a.cJ,a.shut||decide (a.cJ≤time)⟩
open RowKit
def av(a:Au):Value:=.agg #[.int .i64 a.aK,.int .i64 a.aQ,.int .i64 a.sum,.int .i64 a.cap,.int .i64 a.ref,.int .i64 a.eB,.int .i64 a.cJ,.bool a.shut]
theorem bP{k:IntKind}{a b:Int}(h:a=b):Ending.returned (.int k a)=.returned (.int k b):=by rw[h]
theorem aW{p:Prop}(h:p):Hid p:=h
theorem jf(s:Int)(w:World):Calls prog 136 #[.int .i64 s] w fun e a=>e=.returned (.bool (qw s))∧a=w:=by unfold qw;by_cases h1:0≤s<;>by_cases h2:s≤1000000;all_goals go_enter func136,ntmps136;go_wp2;go_ret;simp[h1,h2]
theorem gX(s:Int)(w:World):Calls prog 82 #[.int .i64 s] w fun e a=>e=.returned (.bool (qw s))∧a=w:=by unfold qw;by_cases h1:0≤s<;>by_cases h2:s≤1000000;all_goals go_enter func82,ntmps82;go_wp2;go_ret;simp[h1,h2]
theorem lp(s:Int)(w:World):Calls prog 113 #[.int .i64 s] w fun e a=>e=.returned (.bool (vA s))∧a=w:=by unfold vA;by_cases h1:0≤s<;>by_cases h2:s<8;all_goals go_enter func113,ntmps113;go_wp2;go_ret;simp[h1,h2]
theorem lf(s:Int)(w:World):Calls prog 114 #[.int .i64 s] w fun e a=>e=.returned (.bool (vA s))∧a=w:=by unfold vA;by_cases h1:0≤s<;>by_cases h2:s<8;all_goals go_enter func114,ntmps114;go_wp2;go_ret;simp[h1,h2]
theorem mG(s:Int)(w:World):Calls prog 112 #[.int .i64 s] w fun e a=>e=.returned (.bool (AB s))∧a=w:=by unfold AB;by_cases h1:1≤s<;>by_cases h2:s≤1000000;all_goals go_enter func112,ntmps112;go_wp2;go_ret;simp[h1,h2]
theorem t8(a:Au):(qw a.sum=false∧Hid (b_ a=3))∨(qw a.sum=true∧qw a.cap=false∧Hid (b_ a=3))∨(qw a.sum=true∧qw a.cap=true∧qw a.ref=false∧Hid (b_ a=3))∨(qw a.sum=true∧qw a.cap=true∧qw a.ref=true∧qw a.eB=false∧Hid (b_ a=3))∨(qw a.sum=true∧qw a.cap=true∧qw a.ref=true∧qw a.eB=true∧((vA a.aK=false∧Hid (¬(0 ≤a.aK∧a.aK<8))∧Hid (b_ a=3))∨(vA a.aK=true∧0≤a.aK∧a.aK<8∧vA a.aQ=false∧Hid (¬(0 ≤a.aQ∧a.aQ<8))∧Hid (b_ a=3))∨(vA a.aK=true∧0≤a.aK∧a.aK<8∧vA a.aQ=true∧0≤a.aQ∧a.aQ<8∧((a.cJ<0∧Hid (b_ a=3))∨(0 ≤a.cJ∧1000100<a.cJ∧Hid (b_ a=3))∨(0 ≤a.cJ∧a.cJ≤1000100∧0≤a.ref∧a.ref≤1000000∧0≤a.eB∧a.eB≤1000000∧((a.sum<a.cap∧Hid (b_ a=8))∨(a.cap ≤a.sum∧a.cap<a.ref+a.eB∧Hid (b_ a=8))∨(a.cap≤a.sum∧a.ref+a.eB≤a.cap∧Hid (b_ a=0)))))))):=by
 have key:∀p:Bool,p=false∨p=true:=by decide
 rcases key (qw a.sum)with h1|h1;·exact Or.inl ⟨h1,iY fun h=>p'.1 h1 h.1⟩
 rcases key (qw a.cap)with h2|h2;·exact Or.inr (Or.inl ⟨h1,h2,iY fun h=>p'.1 h2 h.2.1⟩)
 rcases key (qw a.ref)with d|d;·exact Or.inr (Or.inr (Or.inl ⟨h1,h2,d,iY fun h=>p'.1 d h.2.2.1⟩))
 rcases key (qw a.eB)with e|e;·exact Or.inr (Or.inr (Or.inr (Or.inl ⟨h1,h2,d,e,iY fun h=>p'.1 e h.2.2.2.1⟩)))
 refine Or.inr (Or.inr (Or.inr (Or.inr ⟨h1,h2,d,e,?_⟩)));rcases key (vA a.aK)with b|b;·exact Or.inl ⟨b,mo.1 b,iY fun h=>mo.1 b h.2.2.2.2.1⟩
 have c5:=pa.1 b;rcases key (vA a.aQ)with c|c;·exact Or.inr (Or.inl ⟨b,c5.1,c5.2,c,mo.1 c,iY fun h=>mo.1 c h.2.2.2.2.2.1⟩)
 have c6:=pa.1 c;refine Or.inr (Or.inr ⟨b,c5.1,c5.2,c,c6.1,c6.2,?_⟩);by_cases j:a.cJ<0;·exact Or.inl ⟨j,iY fun h=>by have:= h.2.2.2.2.2.2.1;omega⟩
 by_cases i:1000100<a.cJ;·exact Or.inr (Or.inl ⟨by omega,i,iY fun h=>by have:= h.2.2.2.2.2.2.2;omega⟩)
 have c3:=pH.1 d;have c4:=pH.1 e;have R:wj a:=⟨pH.1 h1,pH.1 h2,c3,c4,c5,c6,by omega,by omega⟩;refine Or.inr (Or.inr ⟨by omega,by omega,c3.1,c3.2,c4.1,c4.2,?_⟩);by_cases g:a.sum<a.cap;·exact Or.inl ⟨g,uX R fun h=>by have:= h.1;omega⟩
 by_cases f:a.cap<a.ref+a.eB;·exact Or.inr (Or.inl ⟨by omega,f,uX R fun h=>by have :=h.2;omega⟩)
 ·exact Or.inr (Or.inr ⟨by omega,by omega,dX.2 ⟨R,by omega,by omega⟩⟩)
theorem dO(a:Au)(w:World):Calls prog 118 #[av a] w fun e b=>e=.returned (.int .i64 (b_ a))∧Below w.heap.size w b:=by unfold av;have l:∀o,Below w.heap.size w (w.alloc o):=fun o=>(Below.refl _ _).alloc (aj _) _;rcases t8 a with⟨h1,H⟩|⟨h1,h2,H⟩|⟨h1,h2,h,H⟩|⟨h1,h2,h,k,H⟩|⟨h1,h2,h,k,⟨g,-,H⟩|⟨g,-,-,j,-,H⟩|⟨g,-,-,j,-,-,⟨f,H⟩|⟨f,i,H⟩|⟨f,i,q,p,n,m,⟨d,H⟩|⟨d,c,H⟩|⟨d,c,H⟩⟩⟩⟩;all_goals go_enter func118,ntmps118;go_wp2_with(first|(go_at_call 136;refine(jf _ _).mono ?_;rintro e b ⟨rfl,rfl⟩)|(go_at_call 113;refine(lp _ _).mono ?_;rintro e b ⟨rfl,rfl⟩)|(go_at_call 114;refine(lf _ _).mono ?_;rintro e b ⟨rfl,rfl⟩));go_ret;exact⟨bP H.out.symm,l _⟩
open RowKit
theorem cr(a:Au)(w:World):Calls prog 55 #[av a] w fun e b=>e=.returned (.int .i64 (b_ a))∧Below w.heap.size w b:=by
 unfold av;have f:∀o,Below w.heap.size w (w.alloc o):=fun o=>(Below.refl _ _).alloc (aj _) _;rcases t8 a with⟨h1,H⟩|⟨h1,h2,H⟩|⟨h1,h2,m,H⟩|⟨h1,h2,m,r,H⟩|⟨h1,h2,m,r,⟨-,c,H⟩|⟨-,c,q,-,g,H⟩|⟨-,c,q,-,g,x,⟨l,H⟩|⟨l,k,H⟩|⟨l,k,v,u,t,s,⟨d,H⟩|⟨d,j,H⟩|⟨d,j,H⟩⟩⟩⟩
 case inr.inr.inr.inr.inl=>
  by_cases n:a.aK<0;·clear c;go_enter func55,ntmps55;go_wp2_with(go_at_call 82;refine(gX _ _).mono ?_;rintro e b ⟨rfl,rfl⟩);go_ret;exact⟨bP H.out.symm,f _⟩
  ·have i:0≤a.aK:=by omega
   have h:7<a.aK:=by have :=c.out;omega
   clear c;go_enter func55,ntmps55;go_wp2_with(go_at_call 82;refine(gX _ _).mono ?_;rintro e b ⟨rfl,rfl⟩);go_ret;exact⟨bP H.out.symm,f _⟩
 case inr.inr.inr.inr.inr.inl=>
  have p:a.aK≤7:=by omega
  by_cases n:a.aQ<0;·clear g;go_enter func55,ntmps55;go_wp2_with(go_at_call 82;refine(gX _ _).mono ?_;rintro e b ⟨rfl,rfl⟩);go_ret;exact⟨bP H.out.symm,f _⟩
  ·have i:0≤a.aQ:=by omega
   have h:7<a.aQ:=by have:= g.out;omega
   clear g;go_enter func55,ntmps55;go_wp2_with(go_at_call 82;refine(gX _ _).mono ?_;rintro e b ⟨rfl,rfl⟩);go_ret;exact⟨bP H.out.symm,f _⟩
 all_goals
  try have g1:a.aK≤7:=by omega
  try have g2:a.aQ≤7:=by omega
  go_enter func55,ntmps55;go_wp2_with(go_at_call 82;refine(gX _ _).mono ?_;rintro e b ⟨rfl,rfl⟩);go_ret;exact⟨bP H.out.symm,f _⟩
