import Derived.Test.YtigiogjefnkpdaaGreatDoorKam
set_option maxHeartbeats 4000000
set_option maxRecDepth 100000
open Go.Proofs.Tryz
namespace Go.Proofs.YtigiogjefnkpdaaGreatDoor.St
open RowKit Gn
theorem vj(a:Ad)(n:Int):(a.c <0∧Hid (¬ Fits a n))∨(0 ≤a.c∧n≤a.c∧Hid (¬Fits a n))∨(0≤a.c∧a.c<n∧a.s<0∧Hid (¬ Fits a n))∨(0 ≤a.c∧a.c<n∧0≤a.s∧7<a.s∧Hid (¬ Fits a n))∨(0 ≤a.c∧a.c<n∧0≤a.s∧a.s≤7∧a.m<1∧Hid (¬Fits a n))∨(0≤a.c∧a.c<n∧0≤a.s∧a.s≤7∧1≤a.m∧Hid (si a.m=false)∧Hid (¬ Fits a n))∨(0≤a.c∧a.c<n∧0≤a.s∧a.s≤7∧1≤a.m∧Hid (si a.m=true)∧a.t<0∧Hid (¬ Fits a n))∨(0 ≤a.c∧a.c<n∧0≤a.s∧a.s≤7∧1≤a.m∧Hid (si a.m=true)∧0≤a.t∧1000000<a.t∧Hid (¬ Fits a n))∨(0 ≤a.c∧a.c<n∧0≤a.s∧a.s≤7∧1≤a.m∧Hid (si a.m=true)∧0≤a.t∧a.t≤1000000∧Hid (Fits a n)):=by
 by_cases h1:a.c<0;·exact Or.inl ⟨h1,fun h=>by have :=h.1;omega⟩
 by_cases h2:n≤a.c;·exact Or.inr (Or.inl ⟨by omega,h2,fun h=>by have:= h.2.1;omega⟩)
 by_cases i:a.s<0;·exact Or.inr (Or.inr (Or.inl ⟨by omega,by omega,i,fun h=>by have:= h.2.2.1;omega⟩))
 by_cases g:7<a.s;·exact Or.inr (Or.inr (Or.inr (Or.inl ⟨by omega,by omega,by omega,g,fun h=>by have :=h.2.2.2.1;omega⟩)))
 by_cases f:a.m<1;·exact Or.inr (Or.inr (Or.inr (Or.inr (Or.inl ⟨by omega,by omega,by omega,by omega,f,fun h=>by have :=h.2.2.2.2.1;omega⟩))))
 by_cases j:1000000<a.m;·exact Or.inr (Or.inr (Or.inr (Or.inr (Or.inr (Or.inl ⟨by omega,by omega,by omega,by omega,by omega,lv (fun h=>by have :=h.2;omega),fun h=>by have :=h.2.2.2.2.2.1;omega⟩)))))
 have b:Hid (si a.m=true):=mw ⟨by omega,by omega⟩;by_cases e:a.t<0;·exact Or.inr (Or.inr (Or.inr (Or.inr (Or.inr (Or.inr (Or.inl ⟨by omega,by omega,by omega,by omega,by omega,b,e,fun h=>by have:= h.2.2.2.2.2.2.1;omega⟩))))))
 by_cases d:1000000<a.t;·exact Or.inr (Or.inr (Or.inr (Or.inr (Or.inr (Or.inr (Or.inr (Or.inl ⟨by omega,by omega,by omega,by omega,by omega,b,by omega,d,fun h=>by have:= h.2.2.2.2.2.2.2;omega⟩)))))))
 exact Or.inr (Or.inr (Or.inr (Or.inr (Or.inr (Or.inr (Or.inr (Or.inr ⟨by omega,by omega,by omega,by omega,by omega,b,by omega,by omega,⟨by omega,by omega,by omega,by omega,by omega,by omega,by omega,by omega⟩⟩)))))))
theorem BQ{L:List Ad}{j:Nat}(a:j<L.length)(k:Int):g9 k (L.take (j+1))=g9 k (L.take j)+(if(L.getD j zA).c=k then(L.getD j zA).m else 0):=by rw[gh a,oF]
theorem cr(s:Sd)(v1 v2:Value)(w:World)(h1:At kI w v1 s.used)(h2:At kA w v2 s.bL):Calls prog 81 #[dv s.cap v1 v2] w fun e w'=>e=.returned (.int .i64 (dT s))∧Below w.heap.size w w':=by
 have a5:=h1.len;have a4:=h2.len;unfold maxLen at a5 a4;obtain⟨a1,c1,rfl,a6⟩:=h1;obtain⟨a2,c2,rfl,S⟩:=h2;have p:Below w.heap.size w (w.alloc (jw s.cap (.slice a1 s.used.length c1) (.slice a2 s.bL.length c2))):=ar _ _;have P:(w.alloc (jw s.cap (.slice a1 s.used.length c1) (.slice a2 s.bL.length c2))).heap[w.heap.size]?=some (jw s.cap (.slice a1 s.used.length c1) (.slice a2 s.bL.length c2)):=ah _ _ _ rfl;unfold dv;by_cases h8:8<s.used.length
 ·have a:=aW (jL (s:=s) (Or.inl h8));have ag:(8:Int)<s.used.length:=by omega
  unfold jw at p;go_enter func81,ntmps81;go_wp2;go_ret;exact⟨bP a.out.symm,p⟩
 have ag:(s.used.length :Int)≤8:=by omega
 by_cases X:20<s.bL.length
 ·have a:=aW (jL (s:=s) (Or.inr X));have V:(20:Int)<s.bL.length:=by omega
  unfold jw at p;go_enter func81,ntmps81;go_wp2;go_ret;exact⟨bP a.out.symm,p⟩
 have V:(s.bL.length :Int)≤20:=by omega
 have Z:s.used.length≤8:=by omega
 have A:s.bL.length≤20:=by omega
 clear h8 X;by_cases U:vQ s.cap;case neg=>have a:=aW (wK Z A U);have HL:=aW (lv U);unfold jw at p;go_enter func81,ntmps81;go_wp2_with(go_at_call 82;refine(ji _ _).mono ?_;rw[HL.out];rintro e w' ⟨rfl,rfl⟩);go_ret;exact⟨bP a.out.symm,p⟩
 case pos=>
  have HL:=aW (mw U);have hC:=aW U;clear U;unfold jw at p P;go_enter func81,ntmps81;go_upto_region 1 with fail;generalize w.alloc _=J at*;obtain⟨N,M,L⟩:=bG P;have hz:=ae P;go_wp2_with(go_at_call 82;refine(ji _ _).mono ?_;rw[HL.out];rintro e J ⟨rfl,rfl⟩);go_loopw[27](fun i wr=>∃k:Nat,k≤s.bL.length∧i=.int .i64 k∧Hid (nj s k)∧Below J.heap.size J wr) (fun i _=>s.bL.length-(intOf i).toNat);case atStart=>exact⟨0,bq _,rfl,t9 s,Below.refl _ _⟩
  case round=>
   obtain⟨k,hk,rfl,O,l⟩:=hrel;clear N M L;generalize wr=W at*;have f:Below w.heap.size w W:=p.trans (l.mono p.size);have g:=(l.block _ hz).trans P;by_cases r:k<s.bL.length
   ·have R:(k :Int)<s.bL.length:=by omega
    obtain⟨b,off,rfl,af,e1,e2,e3,e4⟩:=nS (S.below f) r;have d:=aW (fun h=>vO Z A hC.out r h);have n:=aW (fun h=>O.out.next h);have o:=l.alloc l.size (rh (s.bL.getD k zA));have F:=(bC W (rh (s.bL.getD k zA)) _ (ae g)).trans g;have hA:(W.alloc (rh (s.bL.getD k zA))).heap[W.heap.size]?=some (rh (s.bL.getD k zA)):=ah _ _ _ rfl;unfold rh at o hA F;clear O g l f;generalize s.bL.getD k zA=t at*;go_upto_region 8 with fail;generalize W.alloc _=W1 at*;obtain⟨A0,A1,A2,A3⟩:=gv hA;obtain⟨N,M,L⟩:=bG F;have m:=p.trans (o.mono p.size);clear e1 e2 e3 e4 hA F;rcases vj t s.used.length with⟨C,H⟩|⟨C,I,H⟩|⟨C,I,Q,H⟩|⟨C,I,Q,Y,H⟩|⟨C,I,Q,Y,f5,H⟩|⟨C,I,Q,Y,f5,G,H⟩|⟨C,I,Q,Y,f5,G,f7,H⟩|⟨C,I,Q,Y,f5,G,f7,f8,H⟩|⟨C,I,Q,Y,f5,G,f7,f8,H⟩;·have a:=aW (d.out H.out);clear d n H;go_wp2;go_ret;exact⟨bP a.out.symm,m⟩
    ·have a:=aW (d.out H.out);clear d n H;go_wp2;go_ret;exact⟨bP a.out.symm,m⟩
    ·have a:=aW (d.out H.out);clear d n H;go_wp2;go_ret;exact⟨bP a.out.symm,m⟩
    ·have a:=aW (d.out H.out);clear d n H;go_wp2;go_ret;exact⟨bP a.out.symm,m⟩
    ·have a:=aW (d.out H.out);clear d n H;go_wp2;go_ret;exact⟨bP a.out.symm,m⟩
    ·have a:=aW (d.out H.out);clear d n H;go_wp2_with(go_at_call 82;refine(ji _ _).mono ?_;rw[G.out];rintro e W1 ⟨rfl,rfl⟩);go_ret;exact⟨bP a.out.symm,m⟩
    ·have a:=aW (d.out H.out);clear d n H;go_wp2_with(go_at_call 82;refine(ji _ _).mono ?_;rw[G.out];rintro e W1 ⟨rfl,rfl⟩);go_ret;exact⟨bP a.out.symm,m⟩
    ·have a:=aW (d.out H.out);clear d n H;go_wp2_with(go_at_call 82;refine(ji _ _).mono ?_;rw[G.out];rintro e W1 ⟨rfl,rfl⟩);go_ret;exact⟨bP a.out.symm,m⟩
    ·have K:=aW (n.out H.out);clear d n H;go_wp2_with(go_at_call 82;refine(ji _ _).mono ?_;rw[G.out];rintro e W1 ⟨rfl,rfl⟩);go_roundw;case rel=>exact⟨k+1,by omega,by go_num,K,o⟩
     case measure=>simp[intOf];omega
   ·have a7:k=s.bL.length:=by omega
    subst a7;obtain⟨N,M,L⟩:=bG g;go_wp2;clear N M L;go_loopw[77](fun i wr=>∃j:Nat,j≤s.used.length∧i=.int .i64 j∧Hid (tI s j)∧Below J.heap.size J wr) (fun i _=>s.used.length-(intOf i).toNat);case atStart=>exact⟨0,bq _,rfl,uq s,l⟩
    case round=>
     clear l f g r;obtain⟨j,hj,rfl,hu,l⟩:=hrel;generalize wr=W2 at*;have f:Below w.heap.size w W2:=p.trans (l.mono p.size);have g:=(l.block _ hz).trans P;by_cases r:j<s.used.length
     ·have R:(j :Int)<s.used.length:=by omega
      obtain⟨b,off,rfl,af,e1⟩:=lB (a6.below f) r;obtain⟨N,M,L⟩:=bG g;have d:=aW (fun h=>wR Z A hC.out O.out r h);have n:=aW (fun h=>hu.out.next (k:=j) h);unfold Fit at d n;generalize s.used.getD j 0=x at*;go_wp2;clear N M L e1;go_loopw[7,85](fun v i wr=>∃q:Nat,q≤s.bL.length∧i=.int .i64 q∧v=.int .i64 (g9 (j :Int) (s.bL.take q))∧Below J.heap.size J wr) (fun _ i _=>s.bL.length-(intOf i).toNat);case atStart=>exact⟨0,bq _,rfl,rfl,l⟩
      case round=>
       clear l f g;obtain⟨q,hq,rfl,rfl,l⟩:=hrel;generalize wr=W3 at*;have f:Below w.heap.size w W3:=p.trans (l.mono p.size);have g:=(l.block _ hz).trans P;by_cases D:q<s.bL.length
       ·have am:(q :Int)<s.bL.length:=by omega
        obtain⟨b3,ak,rfl,an,e1,e2,e3,e4⟩:=nS (S.below f) D;have HS:=aW (BQ D (j :Int));obtain⟨z1,z2⟩:=O.out.small A (j :Int) q;have E:=O.out q D;have z3:=E.2.2.2.2.1;have z4:=E.2.2.2.2.2.1;clear E;have o:=l.alloc l.size (rh (s.bL.getD q zA));unfold rh at o;generalize s.bL.getD q zA=t at*;generalize g9 (j :Int) (s.bL.take q)=y at*;by_cases u:t.c=(j :Int)
        ·rw[aB u]at HS;have T:(t.c==(j :Int))=true:=by simpa using u
         clear u;go_wp2;go_roundw;case rel=>exact⟨q+1,by omega,by go_num,by rw[HS.out],o⟩
         case measure=>simp[intOf];omega
        ·rw[ai u]at HS;have T:(t.c==(j :Int))=false:=by simpa using u
         clear u;go_wp2;go_roundw;case rel=>exact⟨q+1,by omega,by go_num,by rw[HS.out,q9],o⟩
         case measure=>simp[intOf];omega
       ·have a3:q=s.bL.length:=by omega
        subst a3;rw[fc];obtain⟨N,M,L⟩:=bG g;generalize g9 (j:Int) s.bL=y at*;by_cases B:x=y
        ·subst B;by_cases z:x≤s.cap
         ·have K:=aW (n.out ⟨rfl,z⟩);clear d n;go_wp2;go_roundw;case rel=>exact⟨j+1,by omega,by go_num,K,l⟩
          case measure=>simp[intOf];omega
         ·have a:=aW (d.out (fun h=>z h.2));have aa:s.cap<x:=by omega
          clear d n z;go_wp2;go_ret;exact⟨bP a.out.symm,f⟩
        ·have a:=aW (d.out (fun h=>B h.1));have ao:(x !=y)=true:=by simpa using B
         clear d n B;go_wp2;go_ret;exact⟨bP a.out.symm,f⟩
     ·have a9:j=s.used.length:=by omega
      subst a9;have a:=aW (qV Z A hC.out O.out hu.out);go_wp2;go_ret;exact⟨bP a.out.symm,f⟩
