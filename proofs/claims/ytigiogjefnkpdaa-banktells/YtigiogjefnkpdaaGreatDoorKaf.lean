import Derived.Test.YtigiogjefnkpdaaGreatDoorKae
set_option maxHeartbeats 4000000
set_option maxRecDepth 100000
open Go.Proofs.Tryz
namespace Go.Proofs.YtigiogjefnkpdaaGreatDoor.Au
open RowKit
theorem ry(a:Au)(w:World)(h:b_ a=0):Calls prog 93 #[av a] w fun e b=>e=.returned (.int .i64 (bK a))∧Below w.heap.size w b:=by unfold av bK;have c:∀o,Below w.heap.size w (w.alloc o):=fun o=>(Below.refl _ _).alloc (aj _) _;obtain⟨⟨⟨i,g⟩,⟨f,d⟩,-⟩,-⟩:=dX.1 h;clear h;cases j:a.shut;all_goals go_enter func93,ntmps93;go_wp2;go_ret;exact⟨bP (by simp),c _⟩
theorem pA(a:Au)(w:World)(h:b_ a=0):Calls prog 51 #[av a] w fun e b=>e=.returned (.int .i64 (bK a))∧Below w.heap.size w b:=by unfold av bK;have c:∀o,Below w.heap.size w (w.alloc o):=fun o=>(Below.refl _ _).alloc (aj _) _;obtain⟨⟨⟨i,g⟩,⟨f,d⟩,-⟩,-⟩:=dX.1 h;clear h;cases j:a.shut;all_goals go_enter func51,ntmps51;go_wp2;go_ret;exact⟨bP (by simp),c _⟩
theorem Me{W a:World}(c:Below W.heap.size W a):(∀b o,b<W.heap.size→a.cell? ⟨b,o,none⟩=W.cell? ⟨b,o,none⟩)∧(∀ b o,b<W.heap.size→a.frozen? ⟨b,o,none⟩=W.frozen? ⟨b,o,none⟩):=⟨fun b o h=>c.cell (p:=⟨b,o,none⟩) h,fun b o h=>c.frozen (p:=⟨b,o,none⟩) h⟩
theorem sE(w:World)(o:Obj):Below w.heap.size w (w.alloc o):=(Below.refl _ _).alloc (aj _) _
theorem qT(w:World)(o a:Obj):Below w.heap.size w ((w.alloc o).alloc a):=(sE w o).alloc (by simp) _
theorem yH{w a:World}{o:Obj}(b:Below (w.alloc o).heap.size (w.alloc o) a):Below w.heap.size w a:=(sE w o).trans (b.mono (by simp))
theorem pG{w b:World}{o a:Obj}(c:Below ((w.alloc o).alloc a).heap.size ((w.alloc o).alloc a) b):Below w.heap.size w b:=(qT w o a).trans (c.mono (by simp;omega))
def Perm(w:World)(b:Nat)(a:Au):Prop:=(w.cell? ⟨b,0,none⟩=some (.int .i64 a.aK)∧w.cell? ⟨b,1,none⟩=some (.int .i64 a.aQ)∧w.cell? ⟨b,2,none⟩=some (.int .i64 a.sum)∧w.cell? ⟨b,3,none⟩=some (.int .i64 a.cap)∧w.cell? ⟨b,4,none⟩=some (.int .i64 a.ref)∧w.cell? ⟨b,5,none⟩=some (.int .i64 a.eB)∧w.cell? ⟨b,6,none⟩=some (.int .i64 a.cJ)∧w.cell? ⟨b,7,none⟩=some (.bool a.shut))∧∀i,w.frozen? ⟨b,i,none⟩=false
abbrev nx(a:Au):Array Value:=#[.int .i64 a.aK,.int .i64 a.aQ,.int .i64 a.sum,.int .i64 a.cap,.int .i64 a.ref,.int .i64 a.eB,.int .i64 a.cJ,.bool a.shut]
theorem mC(w:World)(a:Au):Perm (w.alloc (.cells (nx a) 78)) w.heap.size a:=by refine⟨⟨?_,?_,?_,?_,?_,?_,?_,?_⟩,fun i=>gr _ _ _ _ rfl⟩<;>(rw[cd _ _ _ _ rfl];rfl)
theorem Perm.alloc{w:World}{b:Nat}{a:Au}(h:Perm w b a)(c:b<w.heap.size)(o:Obj):Perm (w.alloc o) b a:=by unfold Perm at h⊢;simp only[aY _ _ _ c,dF _ _ _ c];exact h
theorem Perm.below{W d:World}{b:Nat}{a:Au}(h:Perm W b a)(c:b<W.heap.size)(g:Below W.heap.size W d):Perm d b a:=by obtain⟨f,e⟩:=Me g;unfold Perm at h⊢;simp only[f _ _ c,e _ _ c];exact h
theorem GQ(a:Au)(t:Int)(w:World):Calls prog 96 #[av a,.int .i64 t] w fun e b=>e=.returned (av (ey a t))∧Below w.heap.size w b:=by
 unfold av ey;by_cases h:a.cJ≤t;·go_enter func96,ntmps96;go_wp2;exact aA (v:=.agg #[.int .i64 a.aK,.int .i64 a.aQ,.int .i64 a.sum,.int .i64 a.cap,.int .i64 a.ref,.int .i64 a.eB,.int .i64 a.cJ,.bool true]) (by simp[results,results96,go_sem]) rfl ⟨by simp[h],qT _ _ _⟩
 ·have c:decide (a.cJ≤t)=false:=by simpa using h
  go_enter func96,ntmps96;go_wp2;exact aA (v:=.agg #[.int .i64 a.aK,.int .i64 a.aQ,.int .i64 a.sum,.int .i64 a.cap,.int .i64 a.ref,.int .i64 a.eB,.int .i64 a.cJ,.bool a.shut]) (by simp[results,results96,go_sem]) rfl ⟨rfl,qT _ _ _⟩
theorem Ac(a:Au)(t:Int)(w:World):Calls prog 53 #[av a,.int .i64 t] w fun e b=>e=.returned (av (ey a t))∧Below w.heap.size w b:=by
 unfold av ey;cases c:a.shut
 ·by_cases h:a.cJ≤t;·go_enter func53,ntmps53;go_wp2;exact aA (v:=.agg #[.int .i64 a.aK,.int .i64 a.aQ,.int .i64 a.sum,.int .i64 a.cap,.int .i64 a.ref,.int .i64 a.eB,.int .i64 a.cJ,.bool true]) (by simp[results,results53,go_sem]) rfl ⟨by simp[h],qT _ _ _⟩
  ·have d:decide (a.cJ ≤t)=false:=by simpa using h
   go_enter func53,ntmps53;go_wp2;exact aA (v:=.agg #[.int .i64 a.aK,.int .i64 a.aQ,.int .i64 a.sum,.int .i64 a.cap,.int .i64 a.ref,.int .i64 a.eB,.int .i64 a.cJ,.bool false]) (by simp[results,results53,go_sem]) rfl ⟨rfl,qT _ _ _⟩
 ·go_enter func53,ntmps53;go_wp2;exact aA (v:=.agg #[.int .i64 a.aK,.int .i64 a.aQ,.int .i64 a.sum,.int .i64 a.cap,.int .i64 a.ref,.int .i64 a.eB,.int .i64 a.cJ,.bool true]) (by simp[results,results53,go_sem]) rfl ⟨by simp,qT _ _ _⟩
theorem uw(c s n t:Int):(AB n=false∧Hid (fK c s n t=(fO,3)))∨(AB n=true∧t<0∧Hid (fK c s n t=(fO,3)))∨(AB n=true∧0≤t∧1000000<t∧Hid (fK c s n t=(fO,3)))∨(AB n=true∧0≤t∧t≤1000000∧vA c=false∧Hid (fK c s n t=(fO,3)))∨(AB n=true∧0≤t∧t≤1000000∧vA c=true∧vA s=false∧Hid (fK c s n t=(fO,3)))∨(AB n=true∧0≤t∧t≤1000000∧vA c=true∧vA s=true∧Hid (fK c s n t=(⟨c,s,n,0,0,0,t+100,false⟩,0))):=by
 have key:∀p:Bool,p=false∨p=true:=by decide
 unfold fK;rcases key (AB n)with h1|h1;·exact Or.inl ⟨h1,ai fun h=>wO.1 h1 h.1⟩
 by_cases h2:t<0;·exact Or.inr (Or.inl ⟨h1,h2,ai fun h=>by have:= h.2.1;omega⟩)
 by_cases d:1000000<t;·exact Or.inr (Or.inr (Or.inl ⟨h1,by omega,d,ai fun h=>by have :=h.2.2.1;omega⟩))
 rcases key (vA c)with a|a;·exact Or.inr (Or.inr (Or.inr (Or.inl ⟨h1,by omega,by omega,a,ai fun h=>mo.1 a h.2.2.2.1⟩)))
 rcases key (vA s)with b|b;·exact Or.inr (Or.inr (Or.inr (Or.inr (Or.inl ⟨h1,by omega,by omega,a,b,ai fun h=>mo.1 b h.2.2.2.2⟩))))
 ·exact Or.inr (Or.inr (Or.inr (Or.inr (Or.inr ⟨h1,by omega,by omega,a,b,aB ⟨vi.1 h1,by omega,by omega,pa.1 a,pa.1 b⟩⟩))))
theorem rJ(c s n t:Int)(w:World):Calls prog 90 #[.int .i64 c,.int .i64 s,.int .i64 n,.int .i64 t] w fun e a=>e=.returned (.tuple #[av (fK c s n t).1,.int .i64 (fK c s n t).2])∧Below w.heap.size w a:=by
 rcases uw c s n t with⟨h1,H⟩|⟨h1,h2,H⟩|⟨h1,h2,b,H⟩|⟨h1,h2,b,d,H⟩|⟨h1,h2,b,d,f,H⟩|⟨h1,h2,b,d,f,H⟩;case inr.inr.inr.inr.inr=>go_enter func90,ntmps90;go_wp2_with(first|(go_at_call 112;refine(mG _ _).mono ?_;rintro e a ⟨rfl,rfl⟩)|(go_at_call 113;refine(lp _ _).mono ?_;rintro e a ⟨rfl,rfl⟩)|(go_at_call 114;refine(lf _ _).mono ?_;rintro e a ⟨rfl,rfl⟩));refine aA (v:=.tuple #[.agg #[.int .i64 c,.int .i64 s,.int .i64 n,.int .i64 0,.int .i64 0,.int .i64 0,.int .i64 (t +100),.bool false],.int .i64 0]) (by simp[results,results90,go_sem]) rfl ⟨?_,sE _ _⟩;rw[H.out];rfl
 all_goals go_enter func90,ntmps90;go_wp2_with(first|(go_at_call 112;refine(mG _ _).mono ?_;rintro e a ⟨rfl,rfl⟩)|(go_at_call 113;refine(lp _ _).mono ?_;rintro e a ⟨rfl,rfl⟩)|(go_at_call 114;refine(lf _ _).mono ?_;rintro e a ⟨rfl,rfl⟩));refine aA (v:=.tuple #[.agg #[.int .i64 0,.int .i64 0,.int .i64 0,.int .i64 0,.int .i64 0,.int .i64 0,.int .i64 0,.bool false],.int .i64 3]) (by simp[results,results90,go_sem]) rfl ⟨?_,sE _ _⟩;rw[H.out];rfl
theorem z_(c s n t:Int):(n<1∧Hid (fK c s n t=(fO,3)))∨(1 ≤n∧t<0∧Hid (fK c s n t=(fO,3)))∨(1≤n∧0≤t∧1000000<t∧Hid (fK c s n t=(fO,3)))∨(1 ≤n∧0≤t∧t≤1000000∧(b_ ⟨c,s,n,0,0,0,100,false⟩!=0)=true∧Hid (fK c s n t=(fO,3)))∨(1≤n∧0≤t∧t≤1000000∧(b_ ⟨c,s,n,0,0,0,100,false⟩!=0)=false∧Hid (fK c s n t=(⟨c,s,n,0,0,0,t+100,false⟩,0))):=by
 unfold fK;by_cases h1:n<1;·exact Or.inl ⟨h1,ai fun h=>by have :=h.1;omega⟩
 by_cases h2:t<0;·exact Or.inr (Or.inl ⟨by omega,h2,ai fun h=>by have :=h.2.1;omega⟩)
 by_cases f:1000000<t;·exact Or.inr (Or.inr (Or.inl ⟨by omega,by omega,f,ai fun h=>by have:= h.2.2.1;omega⟩))
 by_cases b:b_ ⟨c,s,n,0,0,0,100,false⟩=0;·refine Or.inr (Or.inr (Or.inr (Or.inr ⟨by omega,by omega,by omega,by simpa using b,aB ?_⟩)));obtain⟨⟨a,-,-,-,e,d,-⟩,-⟩:=dX.1 b;exact⟨⟨by omega,a.2⟩,by omega,by omega,e,d⟩
 ·refine Or.inr (Or.inr (Or.inr (Or.inl ⟨by omega,by omega,by omega,by simpa using b,ai fun h=>b (dX.2 ?_)⟩)));obtain⟨a,-,-,e,d⟩:=h;exact⟨⟨⟨by have :=a.1;show 0≤n;omega,a.2⟩,⟨nz _,by show(0:Int)≤1000000;decide⟩,⟨nz _,by show(0 :Int)≤1000000;decide⟩,⟨nz _,by show(0 :Int)≤1000000;decide⟩,e,d,by show(0 :Int)≤100;decide,by show(100:Int)≤1000100;decide⟩,by have :=a.1;show 0≤n;omega,by show(0 :Int)+0≤0;omega⟩
theorem vm(c s n t:Int)(w:World):Calls prog 30 #[.int .i64 c,.int .i64 s,.int .i64 n,.int .i64 t] w fun e E=>e=.returned (.tuple #[av (fK c s n t).1,.int .i64 (fK c s n t).2])∧Below w.heap.size w E:=by
 rcases z_ c s n t with⟨h1,H⟩|⟨h1,h2,H⟩|⟨h1,h2,C,H⟩|⟨h1,h2,C,I,H⟩|⟨h1,h2,C,I,H⟩
 case inr.inr.inr.inl=>
  go_enter func30,ntmps30;go_wp2_with fail;refine(cr ⟨c,s,n,0,0,0,100,false⟩ _).mono ?_;rintro e D ⟨rfl,a⟩;generalize b_ ⟨c,s,n,0,0,0,100,false⟩=r at*;have B:=Perm.below ((mC w fO).alloc (by simp) _) (by simp;omega) a;have A:=Perm.below (mC (w.alloc (.cells (nx fO) 78)) ⟨c,s,n,0,0,0,100,false⟩) (by simp) a;have b:=pG a;clear a;obtain⟨⟨l,k,j,i,h,g,f,d⟩,F⟩:=B;obtain⟨⟨z,y,x,u,q,p,o,m⟩,G⟩:=A;simp only[fO,eG]at l k j i h g f d z y x u q p o m G;go_wp2;refine aA (v:=.tuple #[.agg #[.int .i64 0,.int .i64 0,.int .i64 0,.int .i64 0,.int .i64 0,.int .i64 0,.int .i64 0,.bool false],.int .i64 3]) (by simp[results,results30,go_sem,l,k,j,i,h,g,f,d]) rfl ⟨?_,?_⟩;·rw[H.out];rfl
  ·repeat refine aR ?_ (by simp) _
   exact b
 case inr.inr.inr.inr=>
  go_enter func30,ntmps30;go_wp2_with fail;refine(cr ⟨c,s,n,0,0,0,100,false⟩ _).mono ?_;rintro e D ⟨rfl,a⟩;generalize b_ ⟨c,s,n,0,0,0,100,false⟩=r at*;have B:=Perm.below ((mC w fO).alloc (by simp) _) (by simp;omega) a;have A:=Perm.below (mC (w.alloc (.cells (nx fO) 78)) ⟨c,s,n,0,0,0,100,false⟩) (by simp) a;have b:=pG a;clear a;obtain⟨⟨l,k,j,i,h,g,f,d⟩,F⟩:=B;obtain⟨⟨z,y,x,u,q,p,o,m⟩,G⟩:=A;simp only[fO,eG]at l k j i h g f d z y x u q p o m G;go_wp2;refine aA (v:=.tuple #[.agg #[.int .i64 c,.int .i64 s,.int .i64 n,.int .i64 0,.int .i64 0,.int .i64 0,.int .i64 (t +100),.bool false],.int .i64 0]) (by simp[results,results30,go_sem,l,k,j,i,h,g,f,d]) rfl ⟨?_,?_⟩;·rw[H.out];rfl
  ·repeat refine aR ?_ (by simp) _
   exact b
 all_goals go_enter func30,ntmps30;go_wp2;refine aA (v:=.tuple #[.agg #[.int .i64 0,.int .i64 0,.int .i64 0,.int .i64 0,.int .i64 0,.int .i64 0,.int .i64 0,.bool false],.int .i64 3]) (by simp[results,results30,go_sem]) rfl ⟨?_,qT _ _ _⟩;rw[H.out];rfl
theorem kinds{k:Int}(h1:1≤k)(h2:k≤8):k=1∨k=2∨k=3∨k=4∨k=5∨k=6∨k=7∨k=8:=by omega
theorem wS(k:Int)(w:World)(h1:1≤k)(h2:k≤8):Calls prog 119 #[.int .i64 k] w fun e a=>e=.returned (.bool (decide (k ≤4)))∧a=w:=by rcases kinds h1 h2 with rfl|rfl|rfl|rfl|rfl|rfl|rfl|rfl;all_goals go_enter func119,ntmps119;go_wp2;go_ret;simp
theorem HU(a:Au)(k:Int)(w:World)(h:b_ a=0)(h1:1≤k)(h2:k≤8):Calls prog 120 #[av a,.int .i64 k] w fun e b=>e=.returned (.int .i64 (room a k))∧Below w.heap.size w b:=by unfold av;obtain⟨⟨⟨m,l⟩,⟨j,i⟩,⟨g,f⟩,⟨d,c⟩,-⟩,o,n⟩:=dX.1 h;clear h;rcases kinds h1 h2 with rfl|rfl|rfl|rfl|rfl|rfl|rfl|rfl;all_goals clear h1 h2;go_enter func120,ntmps120;go_wp2;go_ret;exact⟨bP (by simp[room]),sE _ _⟩
theorem JJ(a:Au)(k n:Int):((b_ a !=0)=true∧Hid (ez a k n=b_ a))∨((b_ a !=0)=false∧Hid (b_ a=0)∧((k <1∧Hid (ez a k n=1))∨(1 ≤k∧8<k∧Hid (ez a k n=1))∨(1 ≤k∧k≤8∧((AB n=false∧Hid (ez a k n=3))∨(AB n=true∧a.shut=true∧decide (k≤4)=true∧Hid (ez a k n=9))∨(AB n=true∧a.shut=true∧decide (k ≤4)=false∧Hid (ez a k n=if n≤room a k then 0 else if k=1 then 4 else 10))∨(AB n=true∧a.shut=false∧Hid (ez a k n=if n≤room a k then 0 else if k=1 then 4 else 10)))))):=by
 have key:∀p:Bool,p=false∨p=true:=by decide
 unfold ez;by_cases h1:b_ a=0
 ·refine Or.inr ⟨by simpa using h1,h1,?_⟩;rw[ai (by simpa using h1)];by_cases h2:k<1;·exact Or.inl ⟨h2,aB (Or.inl h2)⟩
  by_cases e:8<k;·exact Or.inr (Or.inl ⟨by omega,e,aB (Or.inr e)⟩)
  refine Or.inr (Or.inr ⟨by omega,by omega,?_⟩);rw[ai (by omega)];rcases key (AB n)with b|b;·exact Or.inl ⟨b,aB (by have:= wO.1 b;omega)⟩
  have c4:=vi.1 b;rw[ai (by omega)];refine Or.inr ?_;rcases key a.shut with c|c;·refine Or.inr (Or.inr ⟨b,c,?_⟩);rw[ai (by simp[c])];exact rfl
  rcases key (decide (k≤4))with d|d;·refine Or.inr (Or.inl ⟨b,c,d,?_⟩);rw[ai (by simp at d;omega)];exact rfl
  ·exact Or.inl ⟨b,c,d,aB ⟨c,by simpa using d⟩⟩
 ·exact Or.inl ⟨by simpa using h1,aB h1⟩
theorem Lo{w b:World}{a:Au}(c:Below (w.alloc (.cells (nx a) 78)).heap.size (w.alloc (.cells (nx a) 78)) b):Perm b w.heap.size a∧Below w.heap.size w b∧w.heap.size+1≤b.heap.size:=⟨Perm.below (mC w a) (by simp) c,yH c,by have:= c.size;simpa using this⟩
theorem qo(a:Au)(k n:Int)(w:World):Calls prog 92 #[av a,.int .i64 k,.int .i64 n] w fun e g=>e=.returned (.int .i64 (ez a k n))∧Below w.heap.size w g:=by
 rcases JJ a k n with⟨h1,H⟩|⟨h1,W,⟨h2,H⟩|⟨h2,l,H⟩|⟨h2,l,⟨u,H⟩|⟨u,j,L,H⟩|⟨u,j,L,H⟩|⟨u,j,H⟩⟩⟩
 all_goals
  obtain⟨c,s,m,v,o,d,t,sh⟩:=a;try(simp only at j;subst j)
  simp only[av];go_enter func92,ntmps92;go_wp2_with fail;refine(dO ⟨c,s,m,v,o,d,t,_⟩ _).mono ?_;rintro e N ⟨rfl,z⟩;obtain⟨⟨⟨J,I,G,E,D,C,B,A⟩,F⟩,f,O⟩:=Lo (a:=⟨c,s,m,v,o,d,t,_⟩) z;simp only at J I G E D C B A;generalize x:b_ _=r at*;have M:=aW x;clear x z
 iterate 3·go_wp2;go_ret;exact⟨bP H.out.symm,f⟩
 ·go_wp2_with(go_at_call 112;refine(mG _ _).mono ?_;rintro e g ⟨rfl,rfl⟩);go_ret;exact⟨bP H.out.symm,f⟩
 ·go_wp2_with(first|(go_at_call 112;refine(mG _ _).mono ?_;rintro e g ⟨rfl,rfl⟩)|(go_at_call 119;refine(wS _ _ h2 l).mono ?_;rintro e g ⟨rfl,rfl⟩));go_ret;exact⟨bP H.out.symm,f⟩
 all_goals
  go_wp2_with(first|(go_at_call 112;refine(mG _ _).mono ?_;rintro e g ⟨rfl,rfl⟩)|(go_at_call 119;refine(wS _ _ h2 l).mono ?_;rintro e g ⟨rfl,rfl⟩));refine(HU ⟨c,s,m,v,o,d,t,_⟩ k _ (M.out.trans W.out) h2 l).mono ?_;rintro e w2 ⟨rfl,i⟩;have b:=f.trans (i.mono (by omega));clear i J I G E D C B A F;generalize K:room _ k=q at*;clear K;by_cases y:n≤q;·rw[aB y]at H;go_wp2;go_ret;exact⟨bP H.out.symm,b⟩
  ·rw[ai y]at H;by_cases h:k=1
   ·rw[aB h]at H;have p:(k==1)=true:=by simpa using h
    clear h;go_wp2;go_ret;exact⟨bP H.out.symm,b⟩
   ·rw[ai h]at H;have p:(k ==1)=false:=by simpa using h
    clear h;go_wp2;go_ret;exact⟨bP H.out.symm,b⟩
theorem ur{w b:World}{a:Au}(c:Below ((w.alloc (.cells (nx a) 78)).alloc (.cells (nx fO) 78)).heap.size ((w.alloc (.cells (nx a) 78)).alloc (.cells (nx fO) 78)) b):Perm b w.heap.size a∧Perm b (w.heap.size +1) fO∧Below w.heap.size w b∧w.heap.size+2≤b.heap.size:=by refine⟨Perm.below ((mC w a).alloc (by simp) _) (by simp;omega) c,?_,pG c,by have:= c.size;simpa using this⟩;have :=Perm.below (mC (w.alloc (.cells (nx a) 78)) fO) (by simp) c;simpa only[eG]using this
theorem JN(a:Au)(k n:Int)(w:World)(h:ez a k n≠0):Calls prog 64 #[av a,.int .i64 k,.int .i64 n] w fun e z=>e=.returned (.tuple #[av (mv a k n).1,.int .i64 (mv a k n).2])∧Below w.heap.size w z:=by
 have H:=aW (yA h);have C:(ez a k n !=0)=true:=by simpa using h
 clear h;obtain⟨c,s,m,g,b,d,t,sh⟩:=a;unfold av;go_enter func64,ntmps64;go_wp2_with fail;refine(qo ⟨c,s,m,g,b,d,t,sh⟩ k n _).mono ?_;rintro e A ⟨rfl,i⟩;obtain⟨-,⟨⟨y,x,u,q,p,o,l,j⟩,G⟩,f,B⟩:=ur (a:=⟨c,s,m,g,b,d,t,sh⟩) i;simp only[fO]at y x u q p o l j;generalize ez ⟨c,s,m,g,b,d,t,sh⟩ k n=r at*;clear i;go_wp2;refine aA (v:=.tuple #[.agg #[.int .i64 0,.int .i64 0,.int .i64 0,.int .i64 0,.int .i64 0,.int .i64 0,.int .i64 0,.bool false],.int .i64 r]) (by simp[results,results64,go_sem,y,x,u,q,p,o,l,j]) rfl ⟨?_,?_⟩;·rw[H.out];rfl
 ·repeat refine aR ?_ (by simp) _
  exact f
theorem GA(a:Au)(k n:Int)(w:World)(h:ez a k n=0):Calls prog 64 #[av a,.int .i64 k,.int .i64 n] w fun e z=>e=.returned (.tuple #[av (mv a k n).1,.int .i64 (mv a k n).2])∧Below w.heap.size w z:=by
 have H:=aW (uy h);have X:=aW h;have M:=iB.1 h;clear h;obtain⟨⟨⟨K,J⟩,⟨I,E⟩,⟨D,C⟩,⟨B,A⟩,-⟩,⟨O,N⟩,i,g,n1,Z,-,L⟩:=M;obtain⟨c,s,m,l,f,d,t,sh⟩:=a;simp only at K J I E D C B A O N;rcases kinds i g with rfl|rfl|rfl|rfl|rfl|rfl|rfl|rfl
 all_goals
  simp[room]at L;unfold av;go_enter func64,ntmps64;go_wp2_with fail;refine(qo ⟨c,s,m,l,f,d,t,sh⟩ _ n _).mono ?_;rintro e Y ⟨rfl,j⟩;obtain⟨⟨⟨W,V,U,T,S,R,Q,P⟩,F⟩,⟨⟨y,x,v,u,r,q,p,o⟩,G⟩,b,hz⟩:=ur (a:=⟨c,s,m,l,f,d,t,sh⟩) j;simp only[fO]at W V U T S R Q P y x v u r q p o;rw[X.out];clear j i g;go_wp2;refine aA (by simp[results,results64,go_sem,y,x,v,u,r,q,p,o];try rfl) rfl ⟨?_,?_⟩;·rw[H.out];simp[step]
  ·repeat refine aR ?_ (by simp) _
   exact b
theorem uj(a:Au)(k n:Int)(w:World):Calls prog 64 #[av a,.int .i64 k,.int .i64 n] w fun e b=>e=.returned (.tuple #[av (mv a k n).1,.int .i64 (mv a k n).2])∧Below w.heap.size w b:=by
 by_cases h:ez a k n=0;·exact GA a k n w h
 ·exact JN a k n w h
