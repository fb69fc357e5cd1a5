import Derived.Test.YtigiogjefnkpdaaGreatDoorKaf
set_option maxHeartbeats 4000000
set_option maxRecDepth 100000
open Go.Proofs.Tryz
namespace Go.Proofs.YtigiogjefnkpdaaGreatDoor.Au
open RowKit Maps
theorem LV:Keyed prog 3:=int_keyed underlying3
theorem Md(w:World):(zeroValue 3).run prog w=.ok (.int .i64 0) w:=by kernel_rfl
def Mg(g v2 f e d c b a k:Int):Int:=if k=1 then g else if k=2 then v2 else if k=3 then f else if k=4 then e else if k=5 then d else if k=6 then c else if k=7 then b else a
abbrev Ja(w:World)(b n:Nat)(D:DataW Unit):Prop:=w.ownsMap prog 3 (plainElem prog 3) b n D
theorem ins{W w:World}{b n:Nat}{D:DataW Unit}(h:Ja w b n D)(d:Below b W w)(j:n≤8){x v:Int}(g:1≤x∧x≤8)(i:-1000000≤v∧v≤1000000):∃a,(Instr.mapUpdate 122 (.map (some b)) (.int .i64 x) (.int .i64 v)).run prog w=.ok () a∧Below b W a∧Ja a b (n +1) (D.put (.int .i64 x) (.lit (.int .i64 v))):=by obtain⟨a,h1,h2,f⟩:=h.update (t:=122) (e:=3) LV underlying122 (by unfold maxLen;omega) (keyOf_int_mk underlying3 (WalkArith.wf_i64 (n:=x) (by omega))) (plainElem_int underlying3 (WalkArith.wf_i64 (n:=v) (by omega)));exact⟨a,h1,d.grown f (Nat.le_of_lt h.lt) (fun k c=>by cases c;exact aj _),h2⟩
theorem EW(g v2 f e d c b a k:Int)(h1:1≤k)(h2:k≤8):((((((((((DataW.map []:DataW Unit).put (.int .i64 1) (.lit (.int .i64 g))).put (.int .i64 2) (.lit (.int .i64 v2))).put (.int .i64 3) (.lit (.int .i64 f))).put (.int .i64 4) (.lit (.int .i64 e))).put (.int .i64 5) (.lit (.int .i64 d))).put (.int .i64 6) (.lit (.int .i64 c))).put (.int .i64 7) (.lit (.int .i64 b))).put (.int .i64 8) (.lit (.int .i64 a))).atKey (.int .i64 k) (.lit (.int .i64 0)))=.lit (.int .i64 (Mg g v2 f e d c b a k)):=by rcases kinds h1 h2 with rfl|rfl|rfl|rfl|rfl|rfl|rfl|rfl<;>kernel_rfl
theorem LR(w:World)(i v2 h g f e d b k:Int)(h1:1≤k)(h2:k≤8)(r1:-1000000≤i∧i≤1000000)(r2:-1000000≤v2∧v2≤1000000)(I:-1000000≤h∧h≤1000000)(H:-1000000≤g∧g≤1000000)(G:-1000000≤f∧f≤1000000)(F:-1000000≤e∧e≤1000000)(E:-1000000≤d∧d≤1000000)(D:-1000000≤b∧b≤1000000):∃q p wc o m l j a:World,((Instr.mapUpdate 122 (.map (some w.heap.size)) (.int .i64 1) (.int .i64 i)).run prog (w.alloc (.map #[] 0))=.ok () q∧Below w.heap.size w q)∧((Instr.mapUpdate 122 (.map (some w.heap.size)) (.int .i64 2) (.int .i64 v2)).run prog q=.ok () p∧Below w.heap.size w p)∧((Instr.mapUpdate 122 (.map (some w.heap.size)) (.int .i64 3) (.int .i64 h)).run prog p=.ok () wc∧Below w.heap.size w wc)∧((Instr.mapUpdate 122 (.map (some w.heap.size)) (.int .i64 4) (.int .i64 g)).run prog wc=.ok () o∧Below w.heap.size w o)∧((Instr.mapUpdate 122 (.map (some w.heap.size)) (.int .i64 5) (.int .i64 f)).run prog o=.ok () m∧Below w.heap.size w m)∧((Instr.mapUpdate 122 (.map (some w.heap.size)) (.int .i64 6) (.int .i64 e)).run prog m=.ok () l∧Below w.heap.size w l)∧((Instr.mapUpdate 122 (.map (some w.heap.size)) (.int .i64 7) (.int .i64 d)).run prog l=.ok () j∧Below w.heap.size w j)∧((Instr.mapUpdate 122 (.map (some w.heap.size)) (.int .i64 8) (.int .i64 b)).run prog j=.ok () a∧Below w.heap.size w a)∧(Instr.lookup 122 (.map (some w.heap.size)) (.int .i64 k) false).run prog a=.ok (.int .i64 (Mg i v2 h g f e d b k)) a:=by
 have Q:Ja (w.alloc (.map #[] 0)) w.heap.size 0 (.map []):=World.ownsMap_made w prog 3 (plainElem prog 3);obtain⟨q,Z,C,P⟩:=ins Q (sE w _) (by omega) (x:=1) (by omega) r1;obtain⟨p,Y,B,ob⟩:=ins P C (by omega) (x:=2) (by omega) r2;obtain⟨wc,X,A,O⟩:=ins ob B (by omega) (x:=3) (by omega) I;obtain⟨o,W,z,N⟩:=ins O A (by omega) (x:=4) (by omega) H;obtain⟨m,V,y,M⟩:=ins N z (by omega) (x:=5) (by omega) G;obtain⟨l,U,v,L⟩:=ins M y (by omega) (x:=6) (by omega) F;obtain⟨j,T,u,K⟩:=ins L v (by omega) (x:=7) (by omega) E;obtain⟨a,S,bh,J⟩:=ins K u (by omega) (x:=8) (by omega) D;obtain⟨c,r,s,-⟩:=J.lookup_int (t:=122) LV underlying122 underlying3 (Md _) (keyOf_int_mk underlying3 (WalkArith.wf_i64 (n:=k) (by omega)));rw[EW i v2 h g f e d b k h1 h2]at s;have R:Mg i v2 h g f e d b k=c:=by simpa using s
 rw[R];exact⟨q,p,wc,o,m,l,j,a,⟨Z,C⟩,⟨Y,B⟩,⟨X,A⟩,⟨W,z⟩,⟨V,y⟩,⟨U,v⟩,⟨T,u⟩,⟨S,bh⟩,r⟩
open RowKit
theorem je(a:Au)(k n:Int)(w:World)(h:(b_ a≠0)∨(b_ a=0∧k<1)∨(b_ a=0∧1≤k∧8<k)∨(b_ a=0∧1≤k∧k≤8∧n<1)∨(b_ a=0∧1≤k∧k≤8∧1≤n∧1000000<n)∨(b_ a=0∧1≤k∧k≤8∧1≤n∧n≤1000000∧k≤4∧a.shut=true)):Calls prog 50 #[av a,.int .i64 k,.int .i64 n] w fun e J=>e=.returned (.tuple #[av (mv a k n).1,.int .i64 (mv a k n).2])∧Below w.heap.size w J:=by
 have l:∃q:Int,Hid (mv a k n=(fO,q))∧((Hid (q =b_ a)∧(b_ a !=0)=true)∨(q =1∧(b_ a !=0)=false∧k<1)∨(q=1∧(b_ a !=0)=false∧1≤k∧8<k)∨(q =3∧(b_ a !=0)=false∧1≤k∧k≤8∧n<1)∨(q =3∧(b_ a !=0)=false∧1≤k∧k≤8∧1≤n∧1000000<n)∨(q =9∧(b_ a !=0)=false∧1≤k∧k≤8∧1≤n∧n≤1000000∧k≤4∧a.shut=true)):=by
  have go:∀q:Int,q≠0→ez a k n=q→Hid (mv a k n=(fO,q)):=fun q h0 h1=>by have :=yA (a:=a) (k:=k) (n:=n) (by rw[h1];exact h0);rw[h1]at this;exact this
  rcases h with h|⟨h,h1⟩|⟨h,h1,h2⟩|⟨h,h1,h2,b⟩|⟨h,h1,h2,b,i⟩|⟨h,h1,h2,b,i,o,g⟩;·exact⟨b_ a,go _ h (by unfold ez;rw[aB h]),Or.inl ⟨rfl,by simpa using h⟩⟩
  ·exact⟨1,go _ (by decide) (by unfold ez;rw[ai (by simpa using h),aB (by omega)]),Or.inr (Or.inl ⟨rfl,by simpa using h,h1⟩)⟩
  ·exact⟨1,go _ (by decide) (by unfold ez;rw[ai (by simpa using h),aB (by omega)]),Or.inr (Or.inr (Or.inl ⟨rfl,by simpa using h,h1,h2⟩))⟩
  ·exact⟨3,go _ (by decide) (by unfold ez;rw[ai (by simpa using h),ai (by omega),aB (by omega)]),Or.inr (Or.inr (Or.inr (Or.inl ⟨rfl,by simpa using h,h1,h2,b⟩)))⟩
  ·exact⟨3,go _ (by decide) (by unfold ez;rw[ai (by simpa using h),ai (by omega),aB (by omega)]),Or.inr (Or.inr (Or.inr (Or.inr (Or.inl ⟨rfl,by simpa using h,h1,h2,b,i⟩))))⟩
  ·exact⟨9,go _ (by decide) (by unfold ez;rw[ai (by simpa using h),ai (by omega),ai (by omega),aB ⟨g,o⟩]),Or.inr (Or.inr (Or.inr (Or.inr (Or.inr ⟨rfl,by simpa using h,h1,h2,b,i,o,g⟩))))⟩
 clear h;obtain⟨q,H,l⟩:=l;rcases l with⟨I,h⟩|⟨rfl,h,h1⟩|⟨rfl,h,h1,h2⟩|⟨rfl,h,h1,h2,b⟩|⟨rfl,h,h1,h2,b,i⟩|⟨rfl,h,h1,h2,b,i,o,g⟩
 all_goals
  obtain⟨c,s,m,p,j,d,t,sh⟩:=a;try(simp only at g;subst g)
  simp only[av];go_enter func50,ntmps50;go_wp2_with fail;refine(cr ⟨c,s,m,p,j,d,t,_⟩ _).mono ?_;rintro e T ⟨rfl,E⟩;obtain⟨⟨⟨S,R,Q,P,O,N,M,L⟩,F⟩,⟨⟨D,C,B,A,z,y,x,u⟩,G⟩,f,U⟩:=ur (a:=⟨c,s,m,p,j,d,t,_⟩) E;simp only[fO]at S R Q P O N M L D C B A z y x u;clear E
 ·have K:=I.out;clear I;generalize b_ ⟨c,s,m,p,j,d,t,sh⟩=r at*;subst K;go_wp2;refine aA (v:=.tuple #[.agg #[.int .i64 0,.int .i64 0,.int .i64 0,.int .i64 0,.int .i64 0,.int .i64 0,.int .i64 0,.bool false],.int .i64 q]) (by simp[results,results50,go_sem,D,C,B,A,z,y,x,u]) rfl ⟨?_,?_⟩;·rw[H.out];rfl
  ·repeat refine aR ?_ (by simp) _
   exact f
 all_goals
  generalize b_ _=r at*;go_wp2;refine aA (by simp[results,results50,go_sem,D,C,B,A,z,y,x,u];try rfl) rfl ⟨?_,?_⟩;·rw[H.out];rfl
  ·repeat refine aR ?_ (by simp) _
   exact f
open RowKit
theorem zY(a:Au)(k:Int)(h1:1≤k)(h2:k≤8):Mg (1000000 -a.sum) (a.sum -a.cap) (a.sum -a.cap) (a.sum -a.cap) (a.cap -a.ref-a.eB) (a.cap -a.ref-a.eB) a.eB a.eB k=room a k:=by rcases kinds h1 h2 with rfl|rfl|rfl|rfl|rfl|rfl|rfl|rfl<;>rfl
theorem zG(a:Au)(k n:Int)(w:World)(o:b_ a=0)(y:1≤k)(x:k≤8)(n1:1≤n)(n2:n≤1000000)(g:k≤4→a.shut=false)(hr:room a k<n):Calls prog 50 #[av a,.int .i64 k,.int .i64 n] w fun e W=>e=.returned (.tuple #[av (mv a k n).1,.int .i64 (mv a k n).2])∧Below w.heap.size w W:=by
 have a1:=@run_makeMap prog;obtain⟨⟨⟨q1,q2⟩,⟨q3,q4⟩,⟨q5,Z⟩,⟨Y,X⟩,-⟩,f1,f2⟩:=dX.1 o
 have H:Hid (mv a k n=(fO,if k=1 then 4 else 10)):=by
  have e:ez a k n=if k=1 then 4 else 10:=by unfold ez;rw[ai (by simpa using o),ai (by omega),ai (by omega),ai (fun h=>by have:= g h.2;rw[h.1]at this;cases this),ai (by omega)]
  have:= yA (a:=a) (k:=k) (n:=n) (by rw[e];split<;>decide);rw[e]at this;exact this
 have U:=aW o;have V:=aW (zY a k y x);clear o;obtain⟨c,s,m,f,l,d,t,sh⟩:=a;simp only at q1 q2 q3 q4 q5 Z Y X f1 f2 g
 have b:∃q:Int,Hid ((if k=1 then 4 else 10)=q)∧((q=4∧(k ==1)=true∧k≤4∧sh=false)∨(q =10∧(k==1)=false∧k≤4∧sh=false)∨(q =10∧(k ==1)=false∧4<k)):=by
  by_cases h:k≤4
  ·by_cases h1:k=1;·exact⟨4,aB h1,Or.inl ⟨rfl,by simpa using h1,h,g h⟩⟩
   ·exact⟨10,ai h1,Or.inr (Or.inl ⟨rfl,by simpa using h1,h,g h⟩)⟩
  ·exact⟨10,ai (by omega),Or.inr (Or.inr ⟨rfl,by simp;omega,by omega⟩)⟩
 clear g;obtain⟨q,HQ,b⟩:=b;rcases b with⟨rfl,i,z,rfl⟩|⟨rfl,i,z,rfl⟩|⟨rfl,i,z⟩
 all_goals
  simp only[av];go_enter func50,ntmps50;go_wp2_with fail;refine(cr ⟨c,s,m,f,l,d,t,_⟩ _).mono ?_;rintro e p ⟨rfl,A⟩;rw[U.out];obtain⟨P,Q,u,hz⟩:=ur (a:=⟨c,s,m,f,l,d,t,_⟩) A;have hy:w.heap.size<p.heap.size:=by omega
  have r:w.heap.size+1<p.heap.size:=by omega
  obtain⟨wa,wb,wc,wd,we,wf,wg,wh,⟨ea,J⟩,⟨eb,I⟩,⟨ec,F⟩,⟨ed,E⟩,⟨ee,D⟩,⟨ef,C⟩,⟨eg,B⟩,⟨eh,v⟩,el⟩:=LR p (1000000-m) (m -f) (m -f) (m-f) (f -l-d) (f -l-d) d d k y x (by omega) (by omega) (by omega) (by omega) (by omega) (by omega) (by omega) (by omega);rw[V.out]at el;clear A V;have P':=P;obtain⟨⟨-,-,A2,A3,A4,A5,-,A7⟩,-⟩:=P';obtain⟨⟨-,-,B2,B3,-,-,-,-⟩,-⟩:=P.below hy J;obtain⟨⟨-,-,C2,C3,-,-,-,-⟩,-⟩:=P.below hy I;obtain⟨⟨-,-,D2,D3,-,-,-,-⟩,-⟩:=P.below hy F;obtain⟨⟨-,-,-,E3,E4,E5,-,-⟩,-⟩:=P.below hy E;obtain⟨⟨-,-,-,F3,F4,F5,-,-⟩,-⟩:=P.below hy D;obtain⟨⟨-,-,-,-,-,G5,-,-⟩,-⟩:=P.below hy C;obtain⟨⟨-,-,-,-,-,I5,-,-⟩,-⟩:=P.below hy B;obtain⟨⟨T,S,R,O,N,M,L,K⟩,G⟩:=Q.below r v;simp only[fO]at A2 A3 A4 A5 A7 B2 B3 C2 C3 D2 D3 E3 E4 E5 F3 F4 F5 G5 I5 T S R O N M L K;have j:=u.trans (v.mono (by omega));clear J I F E D C B v P Q U;generalize room _ k=q at*;go_wp2;refine aA (by simp[results,results50,go_sem,T,S,R,O,N,M,L,K];try rfl) rfl ⟨?_,?_⟩;·rw[H.out,HQ.out];rfl
  ·repeat refine aR ?_ (by simp) _
   exact j
