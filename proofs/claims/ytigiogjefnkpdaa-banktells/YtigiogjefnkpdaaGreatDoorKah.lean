import Derived.Test.YtigiogjefnkpdaaGreatDoorKag
set_option maxHeartbeats 4000000
set_option maxRecDepth 100000
open Go.Proofs.Tryz
namespace Go.Proofs.YtigiogjefnkpdaaGreatDoor.Au
open RowKit
theorem JO{a:Au}{k n:Int}(h:Ma a k n):(k =1∧a.shut=false∧Hid (step a k n=⟨a.aK,a.aQ,a.sum+n,a.cap,a.ref,a.eB,a.cJ,false⟩))∨(k=2∧a.shut=false∧(a.sum ==a.cap+n)=true∧Hid (step a k n=⟨a.aK,a.aQ,a.sum,a.cap+n,a.ref,a.eB,a.cJ,true⟩))∨(k =2∧a.shut=false∧(a.sum==a.cap+n)=false∧Hid (step a k n=⟨a.aK,a.aQ,a.sum,a.cap+n,a.ref,a.eB,a.cJ,false⟩))∨(k=3∧a.shut=false∧Hid (step a k n=⟨a.aK,a.aQ,a.sum,a.cap+n,a.ref,a.eB,a.cJ,true⟩))∨(k=4∧a.shut=false∧(a.sum -n==a.cap)=true∧Hid (step a k n=⟨a.aK,a.aQ,a.sum-n,a.cap,a.ref,a.eB,a.cJ,true⟩))∨(k=4∧a.shut=false∧(a.sum -n==a.cap)=false∧Hid (step a k n=⟨a.aK,a.aQ,a.sum-n,a.cap,a.ref,a.eB,a.cJ,false⟩))∨(k=5∧Hid (step a k n=⟨a.aK,a.aQ,a.sum,a.cap,a.ref+n,a.eB,a.cJ,a.shut⟩))∨(k =6∧Hid (step a k n=⟨a.aK,a.aQ,a.sum,a.cap,a.ref,a.eB+n,a.cJ,a.shut⟩))∨(k=7∧Hid (step a k n=⟨a.aK,a.aQ,a.sum,a.cap,a.ref+n,a.eB-n,a.cJ,a.shut⟩))∨(k=8∧Hid (step a k n=⟨a.aK,a.aQ,a.sum,a.cap,a.ref,a.eB-n,a.cJ,a.shut⟩)):=by
 have b:=h.2.2.2.2.2.2.1;rcases kinds h.2.2.1 h.2.2.2.1 with rfl|rfl|rfl|rfl|rfl|rfl|rfl|rfl;·have h0:=b (by decide);refine Or.inl ⟨rfl,h0,?_⟩;show step a 1 n=_;simp[step,h0]
 ·have h0:=b (by decide);by_cases e:a.sum=a.cap+n;·refine Or.inr (Or.inl ⟨rfl,h0,by simpa using e,?_⟩);show step a 2 n=_;simp[step,e]
  ·refine Or.inr (Or.inr (Or.inl ⟨rfl,h0,by simpa using e,?_⟩));show step a 2 n=_;simp[step];omega
 ·have h0:=b (by decide);refine Or.inr (Or.inr (Or.inr (Or.inl ⟨rfl,h0,?_⟩)));show step a 3 n=_;simp[step]
 ·have h0:=b (by decide);by_cases e:a.sum-n=a.cap;·refine Or.inr (Or.inr (Or.inr (Or.inr (Or.inl ⟨rfl,h0,by simpa using e,?_⟩))));show step a 4 n=_;simp[step,e]
  ·refine Or.inr (Or.inr (Or.inr (Or.inr (Or.inr (Or.inl ⟨rfl,h0,by simpa using e,?_⟩)))));show step a 4 n=_;simp[step];omega
 ·exact Or.inr (Or.inr (Or.inr (Or.inr (Or.inr (Or.inr (Or.inl ⟨rfl,rfl⟩))))))
 ·exact Or.inr (Or.inr (Or.inr (Or.inr (Or.inr (Or.inr (Or.inr (Or.inl ⟨rfl,rfl⟩)))))))
 ·exact Or.inr (Or.inr (Or.inr (Or.inr (Or.inr (Or.inr (Or.inr (Or.inr (Or.inl ⟨rfl,rfl⟩))))))))
 ·exact Or.inr (Or.inr (Or.inr (Or.inr (Or.inr (Or.inr (Or.inr (Or.inr (Or.inr ⟨rfl,rfl⟩))))))))
theorem EK(a:Au)(k n:Int)(w:World)(h:ez a k n=0):Calls prog 50 #[av a,.int .i64 k,.int .i64 n] w fun e T=>e=.returned (.tuple #[av (mv a k n).1,.int .i64 (mv a k n).2])∧Below w.heap.size w T:=by
 have a1:=@run_makeMap prog;have H:=aW (uy h);have g:=iB.1 h;have r:=JO g;have R:Hid (b_ a=0):=dX.2 ⟨g.1,g.2.1⟩;have S:=aW (zY a k g.2.2.1 g.2.2.2.1);obtain⟨⟨⟨q1,q2⟩,⟨Z,Y⟩,⟨X,W⟩,⟨V,U⟩,-⟩,⟨f1,f2⟩,k1,k2,n1,n2,-,hr⟩:=g;clear h;obtain⟨c,s,m,f,j,d,t,sh⟩:=a;simp only at q1 q2 Z Y X W V U f1 f2 r;rcases r with⟨rfl,rfl,b⟩|⟨rfl,rfl,h1,b⟩|⟨rfl,rfl,h1,b⟩|⟨rfl,rfl,b⟩|⟨rfl,rfl,h1,b⟩|⟨rfl,rfl,h1,b⟩|⟨rfl,b⟩|⟨rfl,b⟩|⟨rfl,b⟩|⟨rfl,b⟩
 all_goals
  simp[room]at hr;simp only[av];go_enter func50,ntmps50;go_wp2_with fail;refine(cr ⟨c,s,m,f,j,d,t,_⟩ _).mono ?_;rintro e o ⟨rfl,u⟩;rw[R.out];obtain⟨P,Q,q,hz⟩:=ur (a:=⟨c,s,m,f,j,d,t,_⟩) u;have hy:w.heap.size<o.heap.size:=by omega
  have p:w.heap.size+1<o.heap.size:=by omega
  obtain⟨wa,wb,wc,wd,we,wf,wg,wh,⟨ea,D⟩,⟨eb,C⟩,⟨ec,B⟩,⟨ed,A⟩,⟨ee,z⟩,⟨ef,y⟩,⟨eg,x⟩,⟨eh,l⟩,v⟩:=LR o (1000000-m) (m-f) (m-f) (m-f) (f-j-d) (f -j-d) d d _ k1 k2 (by omega) (by omega) (by omega) (by omega) (by omega) (by omega) (by omega) (by omega);rw[S.out]at v;simp[room]at v;clear u S;have P':=P;obtain⟨⟨-,-,A2,A3,A4,A5,-,A7⟩,-⟩:=P';obtain⟨⟨-,-,B2,B3,-,-,-,-⟩,-⟩:=P.below hy D;obtain⟨⟨-,-,C2,C3,-,-,-,-⟩,-⟩:=P.below hy C;obtain⟨⟨-,-,D2,D3,-,-,-,-⟩,-⟩:=P.below hy B;obtain⟨⟨-,-,-,E3,E4,E5,-,-⟩,-⟩:=P.below hy A;obtain⟨⟨-,-,-,F3,F4,F5,-,-⟩,-⟩:=P.below hy z;obtain⟨⟨-,-,-,-,-,G5,-,-⟩,-⟩:=P.below hy y;obtain⟨⟨-,-,-,-,-,I5,-,-⟩,-⟩:=P.below hy x;obtain⟨⟨R0,R1,R2,R3,R4,R5,R6,R7⟩,F⟩:=P.below hy l;obtain⟨⟨O,N,M,L,K,J,I,E⟩,G⟩:=Q.below p l;simp only[fO]at A2 A3 A4 A5 A7 B2 B3 C2 C3 D2 D3 E3 E4 E5 F3 F4 F5 G5 I5 R0 R1 R2 R3 R4 R5 R6 R7 O N M L K J I E;have i:=q.trans (l.mono (by omega));clear D C B A z y x l P Q R;go_wp2;refine aA (by simp[results,results50,go_sem,O,N,M,L,K,J,I,E];try rfl) rfl ⟨?_,?_⟩;·rw[H.out,b.out]
  ·repeat refine aR ?_ (by simp) _
   exact i
theorem Bi(a:Au)(k n:Int)(w:World):Calls prog 50 #[av a,.int .i64 k,.int .i64 n] w fun e d=>e=.returned (.tuple #[av (mv a k n).1,.int .i64 (mv a k n).2])∧Below w.heap.size w d:=by
 by_cases h0:b_ a=0
 ·by_cases h1:k<1;·exact je a k n w (Or.inr (Or.inl ⟨h0,h1⟩))
  by_cases h2:8<k;·exact je a k n w (Or.inr (Or.inr (Or.inl ⟨h0,by omega,h2⟩)))
  by_cases m:n<1;·exact je a k n w (Or.inr (Or.inr (Or.inr (Or.inl ⟨h0,by omega,by omega,m⟩))))
  by_cases l:1000000<n;·exact je a k n w (Or.inr (Or.inr (Or.inr (Or.inr (Or.inl ⟨h0,by omega,by omega,by omega,l⟩)))))
  by_cases c:k≤4∧a.shut=true;·exact je a k n w (Or.inr (Or.inr (Or.inr (Or.inr (Or.inr ⟨h0,by omega,by omega,by omega,by omega,c.1,c.2⟩)))))
  have b:k≤4→a.shut=false:=fun h=>by
   cases f:a.shut;·rfl
   ·exact absurd ⟨h,f⟩ c
  by_cases j:n≤room a k;·obtain⟨g,i⟩:=dX.1 h0;exact EK a k n w (iB.2 ⟨g,i,by omega,by omega,by omega,by omega,b,j⟩)
  ·exact zG a k n w h0 (by omega) (by omega) (by omega) (by omega) b (by omega)
 ·exact je a k n w (Or.inl h0)
