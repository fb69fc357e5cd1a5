import Derived.Test.YtigiogjefnkpdaaGreatDoorKax
set_option maxHeartbeats 4000000
set_option maxRecDepth 100000
open Go.Proofs.Tryz
namespace Go.Proofs.YtigiogjefnkpdaaGreatDoor
open RowKit
theorem cr(p:Pa)(w:World):Calls prog 14 #[pv p] w fun e d=>e=.returned (.int .i64 (cf p))∧Below w.heap.size w d:=by unfold pv;have g:∀o,Below w.heap.size w (w.alloc o):=fun o=>(Below.refl _ _).alloc (aj _) _;rcases tr p with⟨h1,H⟩|⟨h1,h2,H⟩|⟨h1,h2,a,H⟩|⟨h1,h2,a,b,H⟩|⟨h1,h2,a,b,c,H⟩|⟨h1,h2,a,b,c,f,H⟩|⟨h1,h2,a,b,c,f,H⟩;all_goals go_enter func14,ntmps14;go_wp2;go_ret;exact⟨bP H.out.symm,g _⟩
def qw(s:Int):Bool:=decide (0≤s)&&decide (s ≤1000000)
theorem gX(s:Int)(w:World):Calls prog 82 #[.int .i64 s] w fun e a=>e=.returned (.bool (qw s))∧a=w:=by unfold qw;by_cases h1:0≤s<;>by_cases h2:s≤1000000;all_goals go_enter func82,ntmps82;go_wp2;go_ret;simp[h1,h2]
theorem Fa(a b:Int)(h:mT (a,b)=false):a<0∨(0≤a∧1000000<a)∨(0 ≤a∧a≤1000000∧qw b=false):=by
 have d:¬(0 ≤a∧a≤1000000∧0≤b∧b≤1000000):=fun c=>by rw[j7.2 c]at h;cases h
 by_cases h1:a<0;·exact Or.inl h1
 by_cases h2:1000000<a;·exact Or.inr (Or.inl ⟨by omega,h2⟩)
 ·refine Or.inr (Or.inr ⟨by omega,by omega,?_⟩);unfold qw;simp;omega
theorem Jm(a c:Int)(h:mT (a,c)=true):0≤a∧a≤1000000∧qw c=true:=by have b:=j7.1 h;exact⟨b.1,b.2.1,by unfold qw;simp;exact b.2.2⟩
theorem lF(a:Option Addr)(cap:Nat)(L:List (Int ×Int))(w:World)(H:ff w a L):Calls prog 86 #[.slice a L.length cap] w fun e s=>e=.returned (.agg #[.int .i64 (cP L).1,.int .i64 (cP L).2])∧Below w.heap.size w s:=by
 obtain⟨Q,H⟩:=H;unfold maxLen at Q;have b1:Below w.heap.size w (w.alloc (.cells #[.int .i64 0,.int .i64 0] 47)):=(Below.refl _ _).alloc (aj _) _;by_cases J:30<L.length
 ·have g:=aW (vR J);have F:(30 :Int)<L.length:=by omega
  go_enter func86,ntmps86;go_wp2;refine aA (v:=.agg #[.int .i64 5,.int .i64 0]) (by simp[results,results86,go_sem];try rfl) rfl ⟨?_,?_⟩;·rw[g.out]
  ·first|exact(Below.refl _ _).alloc (aj _) _|exact(b1.setCell (aj _) _).setCell (aj _) _
 have E:L.length≤30:=by omega
 have F:(L.length :Int)≤30:=by omega
 clear J;go_enter func86,ntmps86;go_wp2;go_loopw[11](fun i wr=>∃(k:Nat),k≤L.length∧i=.int .i64 k∧Hid (Good L k)∧Below (w.heap.size +1) (w.alloc (.cells #[.int .i64 0,.int .i64 0] 47)) wr) (fun i _=>L.length-(intOf i).toNat);case atStart=>exact⟨0,bq _,rfl,iq E,Below.refl _ _⟩
 case round=>
  obtain⟨k,hk,rfl,l,t⟩:=hrel;have s1:=t.size;simp only[eG]at s1;have n:=b1.trans (t.mono (by omega));obtain⟨r0,r1,U,T⟩:=dJ t;by_cases f:k<L.length
  ·rcases H with rfl|⟨b,off,rfl,m,c⟩;·simp at f
   obtain⟨c1,c2⟩:=c k f;have I:(k:Int)<L.length:=by omega
   have W:=(n.cell (p:=⟨b,off+k*2,none⟩) m).trans c1;have V:=(n.cell (p:=⟨b,off+k*2+1,none⟩) m).trans c2;have y:0<k→wr.cell? ⟨b,off+(k -1)*2,none⟩=some (.int .i64 (L.getD (k -1) (0,0)).1):=fun h0=>(n.cell (p:=⟨b,off+(k -1)*2,none⟩) m).trans (c (k-1) (by omega)).1;have G:=fun h=>l.out.range f h;have z:=fun h=>l.out.order f h;have r:=fun h=>l.out.next f h;clear c1 c2 c;generalize M:L.getD k (0,0)=x at*;clear M;have j:w.heap.size<wr.heap.size:=by omega
   have C:b<wr.heap.size:=by omega
   have R0:∀o,(wr.alloc o).cell? ⟨w.heap.size,0,none⟩=some (.int .i64 0):=fun o=>(aY _ _ _ j).trans r0;have Z:∀o,(wr.alloc o).cell? ⟨w.heap.size,1,none⟩=some (.int .i64 0):=fun o=>(aY _ _ _ j).trans r1;have F0:∀o,(wr.alloc o).frozen? ⟨w.heap.size,0,none⟩=false:=fun o=>(dF _ _ _ j).trans U;have F1:∀o,(wr.alloc o).frozen? ⟨w.heap.size,1,none⟩=false:=fun o=>(dF _ _ _ j).trans T;have Y:∀v u o,(((wr.setCell ⟨w.heap.size,0,none⟩ v).setCell ⟨w.heap.size,1,none⟩ u).alloc o).cell? ⟨w.heap.size,0,none⟩=some v:=fun v u o=>by rw[aY _ _ _ (by simp;omega)];simp[go_sem,r0]
   have X:∀v u o,(((wr.setCell ⟨w.heap.size,0,none⟩ v).setCell ⟨w.heap.size,1,none⟩ u).alloc o).cell? ⟨w.heap.size,1,none⟩=some u:=fun v u o=>by rw[aY _ _ _ (by simp;omega)];simp[go_sem,r1]
   have K:∀o,Below w.heap.size w (wr.alloc o):=fun o=>n.alloc (by omega) o;obtain⟨q,A⟩:=x;dsimp only at W V;by_cases d:mT (q,A)=false
   ·have g:=aW (G d);have P:=Fa q A d;clear G z r l d y;rcases P with h1|⟨h1,h2⟩|⟨h1,h2,S⟩
    all_goals
     go_wp2_with(go_at_call 82;refine(gX _ _).mono ?_;rintro e s ⟨rfl,rfl⟩);refine aA (v:=.agg #[.int .i64 3,.int .i64 k]) (by simp[results,results86,go_sem,Y,X];try rfl) rfl ⟨?_,?_⟩;·rw[g.out]
     ·first|exact((K _).setCell (aj _) _).setCell (aj _) _|exact((n.setCell (aj _) _).setCell (aj _) _).alloc (by simp;omega) _
   ·have d:mT (q,A)=true:=by simpa using d
    obtain⟨h1,h2,S⟩:=Jm q A d;by_cases h0:k=0
    ·have g:=aW (r d (by omega));have D:decide (0 <k)=false:=by simp;omega
     clear G z r l y h0 d;go_wp2_with(go_at_call 82;refine(gX _ _).mono ?_;rintro e s ⟨rfl,rfl⟩);go_quiet(fail);go_wp2;go_roundw;case rel=>exact⟨k+1,by omega,by go_num,g,t.trans (br ((Below.refl _ _).alloc (by omega) _) _)⟩
     case measure=>simp[intOf];omega
    ·have D:decide (0 <k)=true:=by simp;omega
     have R:0<k:=by omega
     have EP:=y (by omega);generalize O:(L.getD (k-1) (0,0)).1=pv at*;clear O;have a1:∀o,(wr.alloc o).cell? ⟨b,off+(k-1)*2,none⟩=some (.int .i64 pv):=fun o=>(aY _ _ _ C).trans EP;by_cases B:q<pv
     ·have g:=aW (z d (by omega) B);clear G z r l y h0 d;go_wp2_with(go_at_call 82;refine(gX _ _).mono ?_;rintro e s ⟨rfl,rfl⟩);go_quiet(fail);go_wp2;refine aA (v:=.agg #[.int .i64 2,.int .i64 k]) (by simp[results,results86,go_sem,R0,Z];try rfl) rfl ⟨?_,?_⟩;·rw[g.out]
      ·first|exact((br (K _) _).setCell (aj _) _).setCell (aj _) _|exact br (((n.setCell (aj _) _).setCell (aj _) _).alloc (by simp;omega) _) _
     ·have g:=aW (r d (fun _=>by simpa using B));have N:pv≤q:=by omega
      clear G z r l y h0 d B;go_wp2_with(go_at_call 82;refine(gX _ _).mono ?_;rintro e s ⟨rfl,rfl⟩);go_quiet(fail);go_wp2;go_roundw;case rel=>exact⟨k+1,by omega,by go_num,g,t.trans (br ((Below.refl _ _).alloc (by omega) _) _)⟩
      case measure=>simp[intOf];omega
  ·have g:=aW (l.out.done (by omega));clear l;go_wp2;refine aA (v:=.agg #[.int .i64 0,.int .i64 0]) (by simp[results,results86,go_sem,r0,r1]) rfl ⟨?_,(n.setCell (aj _) _).setCell (aj _) _⟩;rw[g.out]
theorem ql(p:Pa)(a:Option Addr)(cap:Nat)(L:List (Int×Int))(time:Int)(w:World)(B:ff w a L)(h1:1≤p.t)(h2:p.t≤1000000)(T:0≤time)(S:time≤1000000)(q:L.length*16≤140737488351232):Calls prog 107 #[pv p,.slice a L.length cap,.int .i64 time] w (Made w (gW (time-p.t) L)):=by
 obtain⟨M,hi,z,y,s⟩:=info_parts pQ;obtain⟨t,r,ps⟩:=p;dsimp only at h1 h2⊢;unfold pv;dsimp only;have b1:Below w.heap.size w (w.alloc (.cells #[.int .i64 t,.int .i64 r,.int .i64 ps] 63)):=(Below.refl _ _).alloc (aj _) _;obtain⟨O,B⟩:=B;unfold maxLen at O;go_enter func107,ntmps107;go_wp2;go_loopw[7,12](fun v i wr=>∃k:Nat,k≤L.length∧i=.int .i64 k∧wr.ownsRow (w.heap.size +1) 132 2 v (gW (time -t) (L.take k)).length (flat (gW (time -t) (L.take k)))∧Below (w.heap.size+1) (w.alloc (.cells #[.int .i64 t,.int .i64 r,.int .i64 ps] 63)) wr) (fun _ i _=>L.length-(intOf i).toNat);case atStart=>exact⟨0,bq _,rfl,d_ _ _ _ _,Below.refl _ _⟩
 case round=>
  obtain⟨k,R,rfl,c,m⟩:=hrel;have h:=m.size;simp only[eG]at h;have C:=b1.trans (m.mono (by omega));by_cases f:k<L.length
  ·rcases B with rfl|⟨b,off,rfl,l,e⟩;·simp at f
   obtain⟨c1,c2⟩:=e k f;have J:(k:Int)<L.length:=by omega
   have W:=(C.cell (p:=⟨b,off+k*2,none⟩) l).trans c1;have V:=(C.cell (p:=⟨b,off+k*2+1,none⟩) l).trans c2;have U:∀G,(wr.alloc G).cell? ⟨w.heap.size,0,none⟩=some (.int .i64 t):=fun G=>(aY _ _ _ (by omega)).trans ((m.cell (p:=⟨w.heap.size,0,none⟩) (by simp)).trans (by rw[cd _ _ _ _ rfl];rfl));have F:=aW (uT (o:=time-t) f);have E:=aW (tw (o:=time-t) f);have P:=jG (time-t) L k;clear c1 c2 e;generalize N:L.getD k (0,0)=x at*;clear N;by_cases I:time-t<x.1
   ·have n:=aW (F.out I);have g:=jG (time -t) L (k +1);rw[n.out]at g;simp at g;clear F E;go_wp2_with(at_builtin;refine wpList_append_own _ rfl _ _ 64 rfl (w.heap.size +1) 132 M (.agg #[.int .i64 0,.int .i64 0]) 2 16 underlying64 hi z y s rfl (by decide) _ _ _ rfl ((c.alloc _).alloc _) ⟨wr.heap.size+1,0,none⟩ 1 1 [.int .i64 x.1,.int .i64 x.2] rfl rfl ?c1 ?c2 ?c3 ?c4 ?c5 ?_);case c1=>simpa only[eG]using cell_two_new (wr.alloc (.cells #[.int .i64 x.1,.int .i64 x.2] 132)) (.int .i64 x.1) (.int .i64 x.2) 132
    case c2=>intro u H;simp at H;rcases H with rfl|rfl<;>rfl
    case c3=>unfold maxLen;omega
    case c4=>omega
    case c5=>simp;omega
    intro v' K j d _;have A:Below (w.heap.size+1) (w.alloc (.cells #[.int .i64 t,.int .i64 r,.int .i64 ps] 63)) K:=((m.alloc h _).alloc (by simp;omega) _).grown d (by simp;omega) (gR c);clear d c;go_wp2;go_roundw;case rel=>exact⟨k+1,by omega,by go_num,by rw[n.out,mu,a_];exact j,A⟩
    case measure=>simp[intOf];omega
   ·have D:=aW (E.out I);clear F E;go_wp2;go_roundw;case rel=>exact⟨k+1,by omega,by go_num,by rw[D.out];exact c.alloc _,m.alloc h _⟩
    case measure=>simp[intOf];omega
  ·have Q:=aW (ue (o:=time-t) (L:=L) (k:=k) (by omega));go_wp2;go_ret;exact⟨_,rfl,iC (by rw[←Q.out];exact c) (by omega),C⟩
