import Derived.Test.YtigiogjefnkpdaaGreatDoorKas
set_option maxHeartbeats 4000000
set_option maxRecDepth 100000
open Go.Proofs.Tryz
namespace Go.Proofs.YtigiogjefnkpdaaGreatDoor.Dy
open RowKit Gn
theorem Ct{W:World}{b:Nat}{t:Rc}(a:W.heap[b]?=some (vx t)):W.cell? ⟨b,0,none⟩=some (.int .i64 t.sh)∧W.cell? ⟨b,1,none⟩=some (.int .i64 t.au)∧W.cell? ⟨b,2,none⟩=some (.int .i64 t.k)∧W.cell? ⟨b,3,none⟩=some (.int .i64 t.m):=by unfold vx at a;refine⟨?_,?_,?_,?_⟩<;>simp[World.cell?,a]
def DO(x:Int):Bool:=decide (0≤x)&&decide (x ≤1000000)
theorem ji(x:Int)(w:World):Calls prog 82 #[.int .i64 x] w fun e a=>e=.returned (.bool (DO x))∧a=w:=by unfold DO;by_cases h1:0≤x<;>by_cases h2:x≤1000000;all_goals go_enter func82,ntmps82;go_wp2;go_ret;simp[h1,h2]
theorem cr(L:List Rc)(v:Value)(w:World)(h:At kR w v L):Calls prog 57 #[v] w fun e x=>e=.returned (fv (eL L))∧Below w.heap.size w x:=by
 have hm:=h.len;unfold maxLen at hm;obtain⟨a,c,rfl,hl⟩:=h;unfold fv;by_cases B:100<L.length
 ·have j:=aW (jL B);have s:(100:Int)<L.length:=by omega
  go_enter func57,ntmps57;go_wp2;refine aA (v:=.agg #[.int .i64 5,.int .i64 0]) (by simp[results,results57,go_sem]) rfl ⟨?_,?_⟩;·rw[j.out]
  ·repeat(first|exact Below.refl _ _|refine aR ?_ (by simp) _|refine aM ?_ _)
 have s:(L.length:Int)≤100:=by omega
 have G:=iq (l:=L) (by omega);have S:Below w.heap.size w (w.alloc (.cells #[.int .i64 0,.int .i64 0] 47)):=ar _ _;have A:(w.alloc (.cells #[.int .i64 0,.int .i64 0] 47)).heap[w.heap.size]?=some (.cells #[.int .i64 0,.int .i64 0] 47):=ah _ _ _ rfl;go_enter func57,ntmps57;go_wp2;generalize w.alloc _=D at*;go_loopw[11](fun i wr=>∃k:Nat,k≤L.length∧i=.int .i64 k∧Hid (Good L k)∧Below D.heap.size D wr) (fun i _=>L.length-(intOf i).toNat);case atStart=>exact⟨0,bq _,rfl,G,Below.refl _ _⟩
 case round=>
  obtain⟨k,hk,rfl,H,y⟩:=hrel;generalize wr=W at*;have K:=ae A;have z:=(y.block _ K).trans A;have p:Below w.heap.size w W:=S.trans (y.mono S.size);by_cases o:k<L.length
  ·have M:(k:Int)<L.length:=by omega
   obtain⟨b,off,rfl,a2,R,Q,P,O⟩:=jC (hl.below p) o;have u:=aW fun h=>H.out.bad o h;have C:=aW fun h=>H.out.next o h;have T:=CW (L.getD k zR);generalize L.getD k zR=r at*;obtain⟨sh,au,kk,m⟩:=r;dsimp only at R Q P O T;have E:w.heap.size<W.heap.size:=bp K y.size;have I:Below D.heap.size D (W.alloc (.cells #[.int .i64 sh,.int .i64 au,.int .i64 kk,.int .i64 m] 103)):=y.alloc y.size _;have g:Below w.heap.size w (W.alloc (.cells #[.int .i64 sh,.int .i64 au,.int .i64 kk,.int .i64 m] 103)):=aM p _;obtain⟨r0,r1,f0,f1⟩:=jO ((jB W (.cells #[.int .i64 sh,.int .i64 au,.int .i64 kk,.int .i64 m] 103) E).trans z);have d:∀X:World,DO m=true→Calls prog 82 #[.int .i64 m] X fun e x=>e=.returned (.bool true)∧x=X:=fun X h=>by have:= ji m X;rw[h]at this;exact this
   have f:∀X:World,DO m=false→Calls prog 82 #[.int .i64 m] X fun e x=>e=.returned (.bool false)∧x=X:=fun X h=>by have:= ji m X;rw[h]at this;exact this
   obtain⟨x0,Y,V,U⟩:=Ct (W:=W.alloc (.cells #[.int .i64 sh,.int .i64 au,.int .i64 kk,.int .i64 m] 103)) (b:=W.heap.size) (t:=⟨sh,au,kk,m⟩) (ah _ _ _ rfl);dsimp only at x0 Y V U;go_upto_region 6 with fail;generalize W.alloc _=W1 at*;generalize W.heap.size=Z at*;clear R Q P O;rcases T with⟨n,h|⟨h,h1⟩⟩|⟨⟨k1,k2⟩,⟨n,q⟩|⟨n,h,h1,h2,J,N,h5⟩⟩
   case inr.inr=>
    have j:=aW (C.out n.out);have F:=aW (d · (by unfold DO;simp;omega));clear u C d f;go_wp2_with(go_at_call 82;refine(F.out _).mono ?_;rintro e w1 ⟨rfl,rfl⟩);go_roundw;case rel=>exact⟨k+1,by omega,by go_num,j,I⟩
    case measure=>simp[intOf];omega
   case inr.inl=>
    have j:=aW (u.out (by rw[n.out];decide));have a1:=n;rcases q with h|⟨h,h1⟩|⟨h,h1,h2⟩|⟨h,h1,h2,J⟩|⟨h,h1,h2,J,N⟩|⟨h,h1,h2,J,N,h5⟩;case inr.inr.inr.inr.inr=>have F:=aW (f · (by unfold DO;simp;omega));clear u C d f;go_wp2_with(go_at_call 82;refine(F.out _).mono ?_;rintro e w1 ⟨rfl,rfl⟩);refine aA (v:=.agg #[.int .i64 3,.int .i64 k]) (by simp[results,results57,go_sem,r0,r1]) rfl ⟨?_,(g.setCell (aj _) _).setCell (aj _) _⟩;rw[j.out,n.out]
    all_goals clear u C d f;go_wp2_with fail;refine aA (v:=.agg #[.int .i64 3,.int .i64 k]) (by simp[results,results57,go_sem,r0,r1]) rfl ⟨?_,(g.setCell (aj _) _).setCell (aj _) _⟩;rw[j.out,n.out]
   all_goals have j:=aW (u.out (by rw[n.out];decide));clear u C d f;go_wp2_with fail;refine aA (v:=.agg #[.int .i64 1,.int .i64 k]) (by simp[results,results57,go_sem,r0,r1]) rfl ⟨?_,(g.setCell (aj _) _).setCell (aj _) _⟩;rw[j.out,n.out]
  ·have j:=aW (H.out.done (by omega));obtain⟨r0,r1,f0,f1⟩:=jO z;go_wp2;refine aA (v:=.agg #[.int .i64 0,.int .i64 0]) (by simp[results,results57,go_sem,r0,r1]) rfl ⟨?_,(p.setCell (aj _) _).setCell (aj _) _⟩;rw[j.out]
