import Derived.Test.YtigiogjefnkpdaaGreatDoorKac
set_option maxHeartbeats 4000000
set_option maxRecDepth 100000
open Go.Proofs.Tryz
namespace Go.Proofs.YtigiogjefnkpdaaGreatDoor.Bk
open RowKit
def fG(w:World)(r:List (Int×Int)×Int)(e:Ending)(b:World):Prop:=∃a cap,e=.returned (.tuple #[.slice a r.1.length cap,.int .i64 r.2])∧ff b a r.1∧Below w.heap.size w b
def de(w:World)(r:List (Int×Int)×Int)(e:Ending)(b:World):Prop:=∃a cap,e=.returned (.tuple #[.slice a r.1.length cap,.int .i64 r.2])∧ff b a r.1∧(∀ad,a=some ad→w.heap.size≤ad.block)∧(a =none→cap=0)∧Below w.heap.size w b
theorem zF{w:World}{aq:Nat}{v:Value}{L:List (Int×Int)}(h:w.ownsRow aq 105 2 v L.length (flat L)):∃a cap,v=.slice a L.length cap∧ff w a L∧(∀ad,a=some ad→aq≤ad.block)∧(a =none→cap=0):=by
 obtain⟨a,cap,b,c⟩:=jk h;rcases h.2 with⟨h0,-⟩|⟨g,d,f,h0,e,-⟩;·rw[b]at h0;obtain⟨rfl,-,rfl⟩:=bB h0;exact⟨none,0,b,c,(fun _ h=>by cases h),fun _=>rfl⟩
 ·rw[b]at h0;obtain⟨rfl,-,-⟩:=bB h0;exact⟨_,cap,b,c,(fun _ h=>by cases h;exact e),fun h=>by cases h⟩
theorem iI(w:World)(a:Option Addr):ff w a []:=⟨by simp[maxLen],Or.inl rfl⟩
theorem IQ(a:Option Addr)(cap:Nat)(l:List (Int ×Int))(f:Option Addr)(c:Nat)(E:List (Int ×Int))(w:World)(j:ff w a l)(_hE:ff w f E)(d:(dS l).1≠0):Calls prog 131 #[.slice a l.length cap,.slice f E.length c] w fun e g=>de w (post l E) e g:=by
 have k:=aW (qR (E:=E) d);have i:((dS l).1 !=0)=true:=by simpa using d
 clear d;go_enter func131,ntmps131;go_wp2_with fail;refine(dO _ _ _ _ j).mono ?_;rintro e m ⟨rfl,b⟩;generalize dS l=r at*;go_wp2;go_quiet(fail);go_wp2;go_ret2;unfold de;rw[k.out];exact⟨none,0,rfl,iI _ _,(fun _ h=>by cases h),(fun _=>rfl),br (b.alloc b.size _) _⟩
theorem DX(a:Option Addr)(cap:Nat)(l:List (Int ×Int))(j:Option Addr)(d:Nat)(E:List (Int×Int))(w:World)(q:ff w a l)(s:ff w j E)(f:(dS l).1=0)(c:fL E≠0):Calls prog 131 #[.slice a l.length cap,.slice j E.length d] w fun e n=>de w (post l E) e n:=by
 have t:=aW (j4 f c);have p:((dS l).1 !=0)=false:=by simpa using f
 have k:(fL E !=0)=true:=by simpa using c
 clear f c;go_enter func131,ntmps131;go_wp2_with fail;refine(dO _ _ _ _ q).mono ?_;rintro e m ⟨rfl,b⟩;generalize dS l=r at*;have i:∀o,ff (m.alloc o) j E:=fun o=>s.below (b.alloc b.size o);go_wp2_with fail;refine(nD _ _ _ _ (i _)).mono ?_;rintro e w2 ⟨rfl,g⟩;go_wp2;go_ret2;unfold de;rw[t.out];exact⟨none,0,rfl,iI _ _,(fun _ h=>by cases h),(fun _=>rfl),(b.alloc b.size _).trans (g.mono (by have:= b.size;simp;omega))⟩
theorem Fw(a:Option Addr)(cap:Nat)(l:List (Int ×Int))(a2:Option Addr)(Z:Nat)(E:List (Int ×Int))(w:World)(T:ff w a l)(X:ff w a2 E)(N:(dS l).1=0)(t:fL E=0):Calls prog 131 #[.slice a l.length cap,.slice a2 E.length Z] w fun e w'=>de w (post l E) e w':=by
 have HR:=aW (gP.1 N);have HE:=aW (oq.1 t);have HP:=aW (s9 N t);have HQ:=aW (fun f=>qd (f:=f) N t);have aa:((dS l).1 !=0)=false:=by simpa using N
 have a7:(fL E !=0)=false:=by simpa using t
 clear N t;go_enter func131,ntmps131;go_wp2_with fail;refine(dO _ _ _ _ T).mono ?_;rintro e w1 ⟨rfl,s⟩;generalize(dS l).1=r at*;generalize(dS l).2=r2 at*;have W:∀o,ff (w1.alloc o) a2 E:=fun o=>X.below (s.alloc s.size o);go_wp2_with fail;refine(nD _ _ _ _ (W _)).mono ?_;rintro e w2 ⟨rfl,d⟩;generalize fL E=r3 at*;have n:Below w.heap.size w w2:=(s.alloc s.size _).trans (d.mono (by have :=s.size;simp;omega));clear W d;go_wp2_with fail;refine(AU _).mono ?_;rintro e w3 ⟨rfl,V,P,a1⟩;have C:Below w.heap.size w w3:=n.trans (V.mono n.size);have u:=n.size;generalize w2.heap.size=S at*;clear s n V a1;obtain⟨hm,T⟩:=T;obtain⟨a3,X⟩:=X;unfold maxLen at hm a3;have a9:l.length≤58:=HR.out.iv;have a4:E.length≤10:=HE.out.1;go_wp2;go_loopw[32](fun i wr=>∃(k:Nat) (g:Nat→Int),k≤l.length∧i=.int .i64 k∧Hid (BF l k g)∧lJ wr S g∧Below w.heap.size w wr) (fun i _=>l.length-(intOf i).toNat);case atStart=>exact⟨0,gZ,bq _,rfl,Ei l,P,C⟩
 case round=>
  obtain⟨k,g,hk,rfl,K,hs,L⟩:=hrel;have s1:=L.size;have hS:=hs.lt;by_cases z:k<l.length
  ·rcases T with rfl|⟨b,off,rfl,y,c⟩;·simp at z
   obtain⟨c1,c2⟩:=c k z;have R:(k :Int)<l.length:=by omega
   have e1:=(L.cell (p:=⟨b,off+k*2,none⟩) y).trans c1;have e2:=(L.cell (p:=⟨b,off+k*2+1,none⟩) y).trans c2;have Q:=(HR.out.all _ (gM z)).1;have J:=aW (K.out.next z Q);have HB:=aW (fun i=>K.out.small i);clear c1 c2 c K;generalize l.getD k (0,0)=x at*;obtain⟨ra,rb,rc,rd⟩:=dI.1 Q;go_wp2_with fail;refine(tR x.1 x.2 S g _ (hs.below ((Below.refl wr.heap.size wr).alloc (aj _) _) hS) x.1.toNat (by omega) (by omega) (by have :=HB.out x.1.toNat;omega) (by have:= HB.out x.1.toNat;omega) rc rd).mono ?_;rintro e w4 ⟨rfl,A,D⟩;go_wp2;go_roundw;case rel=>exact⟨k+1,_,by omega,by go_num,J,D,L.trans (((Below.refl _ _).alloc s1 _).trans (A.mono u))⟩
   case measure=>simp[intOf];omega
  ·have HF:=aW (K.out.done (by omega));have O:∀i,-58000000000000≤g i∧g i≤58000000000000:=fun i=>by have:= K.out.small i;omega
   have HA:=aW (tE E O);clear K O P C T;go_wp2;go_loopw[42](fun i M=>∃(k:Nat) (g2:Nat→Int),k≤E.length∧i=.int .i64 k∧Hid (nr g E k g2)∧lJ M S g2∧Below w.heap.size w M) (fun i _=>E.length-(intOf i).toNat);case atStart=>exact⟨0,g,bq _,rfl,HA,hs,L⟩
   case round=>
    clear hs L hS s1 HA;obtain⟨j,g2,hj,rfl,q,F,d⟩:=hrel;have s1:=d.size;have hS:=F.lt;by_cases m:j<E.length
    ·rcases X with rfl|⟨b,off,rfl,y,c⟩;·simp at m
     obtain⟨c1,c2⟩:=c j m;have R:(j:Int)<E.length:=by omega
     have e1:=(d.cell (p:=⟨b,off+j*2,none⟩) y).trans c1;have e2:=(d.cell (p:=⟨b,off+j*2+1,none⟩) y).trans c2;have Q:=HE.out.2.1 _ (gM m);have J:=aW (q.out.next m Q);have HM:=aW (q.out.L5 m);have HB:=aW (fun i=>q.out.small i);clear c1 c2 c q;generalize E.getD j (0,0)=x at*;obtain⟨ra,rb,rc,rd⟩:=dI.1 Q;go_wp2_with fail;refine(tR x.1 x.2 S g2 _ (F.below ((Below.refl _ _).alloc (aj _) _) hS) x.1.toNat (by omega) (by omega) (by have:= HB.out x.1.toNat;omega) (by have:= HB.out x.1.toNat;omega) rc rd).mono ?_;rintro e w4 ⟨rfl,A,D⟩
     cases ht:kM (g2 x.1.toNat+x.2)with
     |true=>
      have I:=aW (J.out ht);clear J HM ht;go_wp2;go_roundw;case rel=>exact⟨j+1,_,by omega,by go_num,I,D,d.trans (((Below.refl _ _).alloc s1 _).trans (A.mono u))⟩
      case measure=>simp[intOf];omega
     |false=>have I:=aW (HM.out ht);clear J HM ht;go_wp2;go_ret2;unfold de;rw[HP.out (by rw[HF.out];exact I.out)];exact⟨none,0,rfl,iI _ _,(fun _ h=>by cases h),(fun _=>rfl),d.trans (((Below.refl _ _).alloc s1 _).trans (A.mono u))⟩
    ·have J:=aW (q.out.done (by omega));clear q X;go_wp2_with fail;refine(Cb S g2 _ F).mono ?_;rintro e w5 ⟨v,rfl,B,a6⟩;obtain⟨a5,Y,hv,U,G,H⟩:=zF B;rw[hv];clear B hv;go_wp2;go_ret2;unfold de;rw[HQ.out g2 (by rw[HF.out];exact J.out)];exact⟨a5,Y,rfl,U,(fun ad qh=>by have:= G ad qh;omega),H,d.trans (a6.mono s1)⟩
theorem Gd(a:Option Addr)(cap:Nat)(l:List (Int×Int))(c:Option Addr)(b:Nat)(E:List (Int×Int))(w:World)(d:ff w a l)(f:ff w c E):Calls prog 131 #[.slice a l.length cap,.slice c E.length b] w fun e g=>de w (post l E) e g:=by
 by_cases h1:(dS l).1=0
 ·by_cases h2:fL E=0;·exact Fw a cap l c b E w d f h1 h2
  ·exact DX a cap l c b E w d f h1 h2
 ·exact IQ a cap l c b E w d f h1
def move(l:List (Int ×Int))(src dst sum:Int):List (Int ×Int)×Int:=if sum<0∨1000000000000<sum then([],3)else post l [(src,-sum),(dst,sum)]
theorem Aj(w:World)(x y z u:Int):ff (w.alloc (.cells #[.int .i64 x,.int .i64 y,.int .i64 z,.int .i64 u] 105)) (some ⟨w.heap.size,0,none⟩) [(x,y),(z,u)]:=by
 refine⟨by simp[maxLen],Or.inr ⟨w.heap.size,0,rfl,by simp,fun i hi=>?_⟩⟩;rw[cd _ _ _ _ rfl,cd _ _ _ _ rfl]
 match i,hi with
 |0,_=>exact⟨rfl,rfl⟩|1,_=>exact⟨rfl,rfl⟩
theorem de.up{w d f:World}{r:List (Int ×Int)×Int}{e:Ending}(c:Below w.heap.size w d)(h:de d r e f):de w r e f:=by obtain⟨a,cap,j,k,g,i,b⟩:=h;exact⟨a,cap,j,k,(fun ad qh=>bE c.size (g ad qh)),i,c.trans (b.mono c.size)⟩
theorem Hv(a:Option Addr)(cap:Nat)(l:List (Int×Int))(src dst sum:Int)(w:World)(n:ff w a l):Calls prog 110 #[.slice a l.length cap,.int .i64 src,.int .i64 dst,.int .i64 sum] w fun e m=>de w (move l src dst sum) e m:=by
 by_cases h:sum<0∨1000000000000<sum
 ·have d:Hid (move l src dst sum=([],3)):=aW (by unfold move;rw[aB h]);rcases h with h|h;·go_enter func110,ntmps110;go_wp2;go_ret2;unfold de;rw[d.out];exact⟨none,0,rfl,iI _ _,(fun _ h=>by cases h),(fun _=>rfl),Below.refl _ _⟩
  ·have h0:0≤sum:=by omega
   go_enter func110,ntmps110;go_wp2;go_ret2;unfold de;rw[d.out];exact⟨none,0,rfl,iI _ _,(fun _ h=>by cases h),(fun _=>rfl),Below.refl _ _⟩
 ·have d:Hid (move l src dst sum=post l [(src,-sum),(dst,sum)]):=aW (by unfold move;rw[ai h]);have h0:0≤sum:=by omega
  have h1:sum≤1000000000000:=by omega
  clear h;have b:∀o,Below w.heap.size w (w.alloc o):=fun o=>(Below.refl _ _).alloc (aj _) o;go_enter func110,ntmps110;go_wp2_with fail;refine(Gd a cap l (some ⟨w.heap.size,0,none⟩) 2 [(src,-sum),(dst,sum)] _ (n.below (b _)) (Aj w src (-sum) dst sum)).mono ?_;intro e q k;obtain⟨p,c,rfl,j,f,g,i⟩:=de.up (b _) k;generalize post l [(src,-sum),(dst,sum)]=r at*;clear k;go_wp2;go_ret2;unfold de;rw[d.out];exact⟨p,c,rfl,j,f,g,i⟩
theorem ET(a:Option Addr)(cap:Nat)(L:List (Int ×Int))(r:Option Addr)(m:Nat)(w:World)(n:ff w a L)(o:ff w r L):Calls prog 17 #[.slice a L.length cap,.slice r L.length m] w fun e s=>e=.returned (.bool true)∧Below w.heap.size w s:=by
 obtain⟨t,n⟩:=n;obtain⟨-,o⟩:=o;unfold maxLen at t;go_enter func17,ntmps17;go_wp2;go_loopw[13](fun i wr=>∃k:Nat,k≤L.length∧i=.int .i64 k∧Below w.heap.size w wr) (fun i _=>L.length-(intOf i).toNat);case atStart=>exact⟨0,bq _,rfl,Below.refl _ _⟩
 case round=>
  obtain⟨k,x,rfl,j⟩:=hrel;by_cases f:k<L.length
  ·rcases n with rfl|⟨b,off,rfl,l,d⟩;·simp at f
   rcases o with rfl|⟨b2,g,rfl,h,c⟩;·simp at f
   obtain⟨c1,c2⟩:=d k f;obtain⟨c3,c4⟩:=c k f;have q:(k:Int)<L.length:=by omega
   have B:=(j.cell (p:=⟨b,off+k*2,none⟩) l).trans c1;have A:=(j.cell (p:=⟨b,off+k*2+1,none⟩) l).trans c2;have z:=(j.cell (p:=⟨b2,g+k*2,none⟩) h).trans c3;have y:=(j.cell (p:=⟨b2,g+k*2+1,none⟩) h).trans c4;clear c1 c2 c3 c4 d c;generalize(L.getD k (0,0)).1=v at*;generalize(L.getD k (0,0)).2=u at*;go_wp2;go_quiet(fail);go_wp2;go_roundw;case rel=>exact⟨k+1,by omega,by go_num,br j _⟩
   case measure=>simp[intOf];omega
  ·go_wp2;go_ret;exact⟨rfl,j⟩
theorem cr(a:Option Addr)(cap:Nat)(L:List (Int ×Int))(w:World)(N:ff w a L):Calls prog 106 #[.slice a L.length cap] w fun e Z=>e=.returned (.agg #[.int .i64 (dS L).1,.int .i64 (dS L).2])∧Below w.heap.size w Z:=by
 obtain⟨hm,N⟩:=N;unfold maxLen at hm;have b1:Below w.heap.size w (w.alloc (.cells #[.int .i64 0,.int .i64 0] 47)):=(Below.refl _ _).alloc (aj _) _;go_enter func106,ntmps106;go_wp2;go_loopw[3,8] (fun t i wr=>∃(k:Nat) (fP:Int),k≤L.length∧i=.int .i64 k∧t=.int .i64 fP∧-58000000000000≤fP∧fP≤58000000000000∧Hid (Good L k fP)∧Below (w.heap.size+1) (w.alloc (.cells #[.int .i64 0,.int .i64 0] 47)) wr) (fun _ i _=>L.length-(intOf i).toNat);case atStart=>exact⟨0,0,bq _,rfl,rfl,by omega,by omega,iq L,Below.refl _ _⟩
 case round=>
  obtain⟨k,fP,hk,rfl,rfl,t1,t2,m,u⟩:=hrel;have s1:=u.size;simp only[eG]at s1;have A:=b1.trans (u.mono (by omega));have r0:wr.cell? ⟨w.heap.size,0,none⟩=some (.int .i64 0):=(u.cell (p:=⟨w.heap.size,0,none⟩) (by simp)).trans (by rw[cd _ _ _ _ rfl];rfl);have r1:wr.cell? ⟨w.heap.size,1,none⟩=some (.int .i64 0):=(u.cell (p:=⟨w.heap.size,1,none⟩) (by simp)).trans (by rw[cd _ _ _ _ rfl];rfl);have f0:wr.frozen? ⟨w.heap.size,0,none⟩=false:=(u.frozen (p:=⟨w.heap.size,0,none⟩) (by simp)).trans (gr _ _ _ _ rfl);have f1:wr.frozen? ⟨w.heap.size,1,none⟩=false:=(u.frozen (p:=⟨w.heap.size,1,none⟩) (by simp)).trans (gr _ _ _ _ rfl);by_cases l:k<L.length
  ·rcases N with rfl|⟨b,off,rfl,z,g⟩;·simp at l
   obtain⟨c1,c2⟩:=g k l;have T:(k :Int)<L.length:=by omega
   have V:=(A.cell (p:=⟨b,off+k*2,none⟩) z).trans c1;have U:=(A.cell (p:=⟨b,off+k*2+1,none⟩) z).trans c2;have C:0<k→wr.cell? ⟨b,off+(k-1)*2,none⟩=some (.int .i64 (L.getD (k-1) (0,0)).1):=fun h0=>(A.cell (p:=⟨b,off+(k-1)*2,none⟩) z).trans (g (k-1) (by omega)).1;have G:=fun h=>m.out.range l h;have E:=fun h=>m.out.zero l h;have D:=fun h=>m.out.order l h;have B:=fun h=>m.out.next l h;clear c1 c2 g;generalize hx:L.getD k (0,0)=x at*;clear hx;have s:w.heap.size<wr.heap.size:=by omega
   have J:b<wr.heap.size:=by omega
   have X:∀o,(wr.alloc o).cell? ⟨w.heap.size,0,none⟩=some (.int .i64 0):=fun o=>(aY _ _ _ s).trans r0;have W:∀o,(wr.alloc o).cell? ⟨w.heap.size,1,none⟩=some (.int .i64 0):=fun o=>(aY _ _ _ s).trans r1;have F0:∀o,(wr.alloc o).frozen? ⟨w.heap.size,0,none⟩=false:=fun o=>(dF _ _ _ s).trans f0;have F1:∀o,(wr.alloc o).frozen? ⟨w.heap.size,1,none⟩=false:=fun o=>(dF _ _ _ s).trans f1;have Y:∀o,Below w.heap.size w (wr.alloc o):=fun o=>A.alloc (by omega) o;obtain⟨n,f⟩:=x;by_cases j:oj (n,f)=false
   ·have c:=aW (G j)
    have H:n<0∨(0 ≤n∧57<n)∨(0 ≤n∧n≤57∧1000000000000<f)∨(0≤n∧n≤57∧f≤1000000000000∧f< -1000000000000):=by
     have S:¬oj (n,f)=true:=by simp[j]
     rw[dI]at S;simp only at S;omega
    clear G E D B m j C;dsimp only at V U;have R:∀o,(((wr.setCell ⟨w.heap.size,0,none⟩ (.int .i64 3)).setCell ⟨w.heap.size,1,none⟩ (.int .i64 k)).alloc o).cell? ⟨w.heap.size,0,none⟩=some (.int .i64 3):=fun o=>by rw[aY _ _ _ (by simp;omega)];simp[go_sem,r0]
    have Q:∀o,(((wr.setCell ⟨w.heap.size,0,none⟩ (.int .i64 3)).setCell ⟨w.heap.size,1,none⟩ (.int .i64 k)).alloc o).cell? ⟨w.heap.size,1,none⟩=some (.int .i64 k):=fun o=>by rw[aY _ _ _ (by simp;omega)];simp[go_sem,r1]
    rcases H with H|⟨H,F⟩|⟨H,F,I⟩|⟨H,F,I,a1⟩;all_goals go_wp2;refine aA (v:=.agg #[.int .i64 3,.int .i64 k]) (by simp[results,results106,go_sem,R,Q]) rfl ⟨?_,((A.setCell (aj _) _).setCell (aj _) _).alloc (by simp;omega) _⟩;rw[c.out]
   ·have j:oj (n,f)=true:=by simpa using j
    obtain⟨ra,rb,rc,rd⟩:=dI.1 j;dsimp only at V U ra rb rc rd;by_cases d:f=0
    ·have c:=aW (E j d);have y:(f ==0)=true:=by simpa using d
     clear G E D B m d C j;go_wp2;go_quiet(fail);go_wp2;refine aA (v:=.agg #[.int .i64 2,.int .i64 k]) (by simp[results,results106,go_sem,X,W]) rfl ⟨?_,((br (Y _) _).setCell (aj _) _).setCell (aj _) _⟩;rw[c.out]
    ·have y:(f==0)=false:=by simpa using d
     by_cases h0:k=0
     ·have c:=aW (B j d (by omega));have M:decide (0 <k)=false:=by simp;omega
      have r:=c.out.lo;have q:=c.out.hi;have K:=c.out.iv;dsimp only at r q;have P:-58000000000000≤fP+f:=by omega
      have O:fP+f≤58000000000000:=by omega
      clear G E D B m d C h0 r q j;go_wp2;go_quiet(fail);go_wp2;go_roundw;case rel=>exact⟨k+1,fP+f,by omega,by go_num,rfl,P,O,c,u.trans (br ((Below.refl _ _).alloc s1 _) _)⟩
      case measure=>simp[intOf];omega
     ·have M:decide (0<k)=true:=by simp;omega
      have a2:0<k:=by omega
      have EP:=C (by omega);generalize hp:(L.getD (k-1) (0,0)).1=pv at*;clear hp;have a3:∀o,(wr.alloc o).cell? ⟨b,off+(k-1)*2,none⟩=some (.int .i64 pv):=fun o=>(aY _ _ _ J).trans EP;by_cases hq:n≤pv;·have c:=aW (D j d (by omega) hq);clear G E D B m d C h0 j;go_wp2;go_quiet(fail);go_wp2;refine aA (v:=.agg #[.int .i64 2,.int .i64 k]) (by simp[results,results106,go_sem,X,W]) rfl ⟨?_,((br (Y _) _).setCell (aj _) _).setCell (aj _) _⟩;rw[c.out]
      ·have c:=aW (B j d (fun _=>by dsimp only;omega));have r:=c.out.lo;have q:=c.out.hi;have K:=c.out.iv;dsimp only at r q;have P:-58000000000000≤fP+f:=by omega
       have O:fP+f≤58000000000000:=by omega
       clear G E D B m d C h0 r q j;go_wp2;go_quiet(fail);go_wp2;go_roundw;case rel=>exact⟨k+1,fP+f,by omega,by go_num,rfl,P,O,c,u.trans (br ((Below.refl _ _).alloc s1 _) _)⟩
       case measure=>simp[intOf];omega
  ·by_cases d:fP=0
   ·have c:=aW (m.out.done (by omega) d);have y:(fP !=0)=false:=by simpa using d
    clear d m;go_wp2;refine aA (v:=.agg #[.int .i64 0,.int .i64 0]) (by simp[results,results106,go_sem,r0,r1]) rfl ⟨?_,(A.setCell (aj _) _).setCell (aj _) _⟩;rw[c.out]
   ·have c:=aW (m.out.fit (by omega) d);have y:(fP !=0)=true:=by simpa using d
    clear d m;go_wp2;refine aA (v:=.agg #[.int .i64 8,.int .i64 0]) (by simp[results,results106,go_sem,r0,r1]) rfl ⟨?_,(A.setCell (aj _) _).setCell (aj _) _⟩;rw[c.out]
theorem yV(a:Option Addr)(cap:Nat)(l:List (Int ×Int))(j:Option Addr)(c:Nat)(E:List (Int×Int))(w:World)(i:ff w a l)(d:(dS l).1≠0):Calls prog 80 #[.slice a l.length cap,.slice j E.length c] w fun e f=>de w (post l E) e f:=by
 have k:=aW (qR (E:=E) d);have g:((dS l).1 !=0)=true:=by simpa using d
 clear d;go_enter func80,ntmps80;go_wp2_with fail;refine(cr _ _ _ _ i).mono ?_;rintro e m ⟨rfl,b⟩;generalize dS l=r at*;go_wp2;go_quiet(fail);go_wp2;go_ret2;unfold de;rw[k.out];exact⟨none,0,rfl,iI _ _,(fun _ h=>by cases h),(fun _=>rfl),br (b.alloc b.size _) _⟩
theorem xX(a:Option Addr)(cap:Nat)(l:List (Int ×Int))(m:Option Addr)(c:Nat)(E:List (Int×Int))(w:World)(k:ff w a l)(d:(dS l).1=0)(f:10<E.length):Calls prog 80 #[.slice a l.length cap,.slice m E.length c] w fun e g=>de w (post l E) e g:=by
 have n:Hid (post l E=([],5)):=aW (by rw[j4 d (by rw[mn f];decide),mn f]);have i:((dS l).1 !=0)=false:=by simpa using d
 have j:(10 :Int)<E.length:=by omega
 clear d;go_enter func80,ntmps80;go_wp2_with fail;refine(cr _ _ _ _ k).mono ?_;rintro e o ⟨rfl,b⟩;generalize dS l=r at*;go_wp2;go_ret2;unfold de;rw[n.out];exact⟨none,0,rfl,iI _ _,(fun _ h=>by cases h),(fun _=>rfl),b.alloc b.size _⟩
theorem yb(a:Option Addr)(cap:Nat)(l:List (Int ×Int))(a2:Option Addr)(af:Nat)(E:List (Int×Int))(w:World)(hl:ff w a l)(hE:ff w a2 E)(hw:(dS l).1=0)(f:E.length≤10):Calls prog 80 #[.slice a l.length cap,.slice a2 E.length af] w fun e w'=>de w (post l E) e w':=by
 have V:=aW (gP.1 hw);have bc:((dS l).1 !=0)=false:=by simpa using hw
 have ba:l.length≤58:=V.out.iv;have bg:(E.length :Int)≤10:=by omega
 obtain⟨i0,hi,aw,ao,an⟩:=info_parts Ht;clear hw;go_enter func80,ntmps80;go_wp2_with fail;refine(cr _ _ _ _ hl).mono ?_;rintro e w1 ⟨rfl,R⟩;have a9:∀o,Below w.heap.size w (w1.alloc o):=fun o=>R.alloc R.size o;obtain⟨hm,hl⟩:=hl;obtain⟨b5,hE⟩:=hE;unfold maxLen at hm b5;generalize ay:(dS l).1=r at*;generalize(dS l).2=r2 at*;clear ay;go_wp2;go_loopw[7,30] (fun t i wr=>∃(k:Nat) (fP:Int),k≤E.length∧i=.int .i64 k∧t=.int .i64 fP∧-10000000000000≤fP∧fP≤10000000000000∧Hid (oW E k fP)∧Below w.heap.size w wr) (fun _ i _=>E.length-(intOf i).toNat);case atStart=>exact⟨0,0,bq _,rfl,rfl,by omega,by omega,tY E,a9 _⟩
 case round=>
  clear R a9;obtain⟨k,fP,hk,rfl,rfl,t1,t2,I,d⟩:=hrel;have s1:=d.size;by_cases m:k<E.length
  ·rcases hE with rfl|⟨b,off,rfl,A,c⟩;·simp at m
   obtain⟨c1,c2⟩:=c k m;have J:(k :Int)<E.length:=by omega
   have e1:=(d.cell (p:=⟨b,off+k*2,none⟩) A).trans c1;have e2:=(d.cell (p:=⟨b,off+k*2+1,none⟩) A).trans c2;have G:=fun h=>I.out.range m h;have G4:=fun h=>I.out.next m h;clear c1 c2 c I;generalize E.getD k (0,0)=x at*;obtain⟨x1,B⟩:=x;dsimp only at e1 e2 G4;by_cases C:oj (x1,B)=false;·have n:=aW (G C);have ho:=Fq C;clear G G4 C;rcases ho with ho|⟨ho,a3⟩|⟨ho,a3,b3⟩|⟨ho,a3,b3,bb⟩;all_goals go_wp2;go_ret2;unfold de;rw[j4 (gP.2 V.out) (by rw[iz f,n.out];decide),iz f,n.out];exact⟨none,0,rfl,iI _ _,(fun _ h=>by cases h),(fun _=>rfl),d.alloc s1 _⟩
   ·have C:oj (x1,B)=true:=by simpa using C
    have n:=aW (G4 C);obtain⟨N,rb,Z,Y⟩:=dI.1 C;dsimp only at N rb Z Y;have am:=n.out.lo;have ak:=n.out.hi;have T1:-10000000000000≤fP+B:=by omega
    have T2:fP+B≤10000000000000:=by omega
    clear G G4 C am ak;go_wp2;go_roundw;case rel=>exact⟨k+1,fP+B,by omega,by go_num,rfl,T1,T2,n,d.alloc s1 _⟩
    case measure=>simp[intOf];omega
  ·by_cases F:fP=0
   ·have n:=aW (I.out.done (by omega) F);have P:(fP !=0)=false:=by simpa using F
    clear F I;have HB:=aW (lJ.born wr);have a7:Below w.heap.size w (wr.alloc (.cells (pb fun _=>0) 161)):=d.alloc s1 _;clear d;have HE:=aW (oq.1 ((iz f).trans n.out));have ag:=aW ((iz f).trans n.out);clear n t1 t2;have T:w.heap.size≤wr.heap.size:=s1;go_wp2;generalize wr.heap.size=S at*;go_loopw[61] (fun i s=>∃(k:Nat) (g:Nat→Int),k≤l.length∧i=.int .i64 k∧Hid (CG l k g)∧lJ s S g∧Below w.heap.size w s) (fun i _=>l.length-(intOf i).toNat);case atStart=>exact⟨0,gZ,bq _,rfl,Ew l,HB.out,a7⟩
    case round=>
     clear HB a7;obtain⟨O,g,be,rfl,I,D,d⟩:=hrel;have s2:=d.size;have U:=D.lt;by_cases m:O<l.length
     ·rcases hl with rfl|⟨b,off,rfl,A,c⟩;·simp at m
      obtain⟨c1,c2⟩:=c O m;have J:(O :Int)<l.length:=by omega
      have e1:=(d.cell (p:=⟨b,off+O*2,none⟩) A).trans c1;have e2:=(d.cell (p:=⟨b,off+O*2+1,none⟩) A).trans c2;have C:=(V.out.all _ (gM m)).1;have n:=aW (I.out.next m C);clear c1 c2 c I;generalize l.getD O (0,0)=x at*;obtain⟨N,rb,Z,Y⟩:=dI.1 C;obtain⟨x1,B⟩:=x;dsimp only at e1 e2 N rb Z Y n;obtain⟨i,rfl⟩:=Int.eq_ofNat_of_zero_le N;have K:i<58:=by omega
      have c0:=D.cell K;have z0:=D.frozen i;have c1:∀o,(wr.alloc o).cell? ⟨S,i,none⟩=some (.int .i64 (g i)):=fun o=>(aY _ _ _ U).trans c0;have z1:∀o,(wr.alloc o).frozen? ⟨S,i,none⟩=false:=fun o=>(dF _ _ _ U).trans z0;have HS:=aW (D.set i B);clear C D;go_wp2;go_roundw;case rel=>refine⟨O+1,_,by omega,by go_num,n,?_,(d.setCell (p:=⟨S,i,none⟩) T (.int .i64 B)).alloc (by simp;omega) _⟩;exact HS.out.below ((Below.refl (S +1) _).alloc (by simp;omega) _) (by omega)
      case measure=>simp[intOf];omega
     ·have HF:=aW ((V.out.set.symm).trans (I.out.done (by omega)));have a1:∀i,-58000000000000≤g i∧g i≤58000000000000:=fun i=>by have:= I.out.small i;omega
      have HA:=aW (tE E a1);clear I a1 hl;go_wp2;go_loopw[73] (fun i s=>∃(k:Nat) (g2:Nat→Int),k≤E.length∧i=.int .i64 k∧Hid (nr g E k g2)∧lJ s S g2∧Below w.heap.size w s) (fun i _=>E.length-(intOf i).toNat);case atStart=>exact⟨0,g,bq _,rfl,HA,D,d⟩
      case round=>
       clear D d U s2 HA;obtain⟨j,g2,hj,rfl,H,D,d⟩:=hrel;have s2:=d.size;have U:=D.lt;by_cases z:j<E.length
       ·rcases hE with rfl|⟨b,off,rfl,A,c⟩;·simp at z
        obtain⟨c1,c2⟩:=c j z;have J:(j :Int)<E.length:=by omega
        have e1:=(d.cell (p:=⟨b,off+j*2,none⟩) A).trans c1;have e2:=(d.cell (p:=⟨b,off+j*2+1,none⟩) A).trans c2;have C:=HE.out.2.1 _ (gM z);have n:=aW (H.out.next z C);have M:=aW (H.out.L5 z);have HB:=aW (fun i=>H.out.small i);clear c1 c2 c H;generalize E.getD j (0,0)=x at*;obtain⟨N,rb,Z,Y⟩:=dI.1 C;obtain⟨x1,B⟩:=x;dsimp only at e1 e2 N rb Z Y n M;obtain⟨i,rfl⟩:=Int.eq_ofNat_of_zero_le N;rw[bN]at n M;have K:i<58:=by omega
        have c0:=D.cell K;have z0:=D.frozen i;obtain⟨y1,y2⟩:=HB.out i;have HS:=aW (D.set i (g2 i+B));generalize g2 i=y at*;have Y1:-68000000000000≤y:=by omega
        have Y2:y≤68000000000000:=by omega
        have c1:∀o,(wr.alloc o).cell? ⟨S,i,none⟩=some (.int .i64 y):=fun o=>(aY _ _ _ U).trans c0;have z1:∀o,(wr.alloc o).frozen? ⟨S,i,none⟩=false:=fun o=>(dF _ _ _ U).trans z0;clear C D y1 y2 HB
        cases X:kM (y +B)with
        |true=>
         have W:=aW (n.out X);obtain⟨q1,q2⟩:=jN.1 X;clear n M X;go_wp2;go_region;go_wp2;go_roundw;case rel=>refine⟨j+1,_,by omega,by go_num,W,?_,((d.setCell (p:=⟨S,i,none⟩) T (.int .i64 (y +B))).alloc (by simp;omega) _).drew⟩;exact HS.out.below ((Below.refl (S +1) _).alloc (by simp;omega) _).drew (by omega)
         case measure=>simp[intOf];omega
        |false=>
         have W:=aW (M.out X);have hq:=zE.1 X;have hq:1000000000000<y+B∨(y+B≤1000000000000∧y+B< -1000000000000):=by omega
         clear n M X;rcases hq with q1|⟨q1,q2⟩;all_goals go_wp2;go_region;go_wp2;go_ret2;unfold de;rw[s9 (gP.2 V.out) ag.out (by rw[HF.out];exact W.out)];exact⟨none,0,rfl,iI _ _,(fun _ h=>by cases h),(fun _=>rfl),((d.setCell (p:=⟨S,i,none⟩) T (.int .i64 (y +B))).alloc (by simp;omega) _).drew⟩
       ·have HP:=aW (qd (gP.2 V.out) ag.out (by rw[HF.out];exact H.out.done (by omega)));clear H hE;go_wp2_with(refine wpList_load_row rfl 161 _ rfl S rfl 161 _ (0,0) _ D underlying161 rfl (by rw[mR];exact Ia) ?_);go_loopw[15,101] (fun v i s=>∃k:Nat,k≤58∧i=.int .i64 k∧s.ownsRow w.heap.size 105 2 v (jt g2 k).length (flat (jt g2 k))∧Below w.heap.size w s) (fun _ i _=>58-(intOf i).toNat);case atStart=>exact⟨0,by omega,rfl,d_ _ _ _ _,d⟩
        case round=>
         clear D d U s2;obtain⟨k,hk,rfl,q,d⟩:=hrel;by_cases m:k<58
         ·have J:(k:Int)<58:=by omega
          have bf:=CR g2 k m;have bd:=zJ g2 k;by_cases F:g2 k=0
          ·have P:(g2 k !=0)=false:=by simpa using F
           have M:=aW (mM g2 k F);clear F;go_wp2;go_roundw;case rel=>exact⟨k+1,by omega,by go_num,by rw[M.out];exact q,d⟩
           case measure=>simp[intOf];omega
          ·have P:(g2 k !=0)=true:=by simpa using F
           have M:=aW (nR g2 k F);clear F;generalize g2 k=y at*;go_wp2_with(at_builtin;refine wpList_append_own _ rfl _ _ 41 rfl w.heap.size 105 i0 (.agg #[.int .i64 0,.int .i64 0]) 2 16 underlying41 hi aw ao an rfl (by decide) _ _ _ rfl (q.alloc _) ⟨wr.heap.size,0,none⟩ 1 1 [.int .i64 k,.int .i64 y] rfl rfl ?c1 ?c2 ?c3 ?c4 ?c5 ?_);case c1=>exact cell_two_new _ _ _ _
           case c2=>intro u hu;simp at hu;rcases hu with rfl|rfl<;>rfl
           case c3=>unfold maxLen;omega
           case c4=>omega
           case c5=>have :=d.size;simp;omega
           intro v' w1 Q L _;have b6:Below w.heap.size w w1:=(d.alloc d.size _).grown L (by have:= d.size;simp;omega) (gR q);clear L q;go_wp2;go_roundw;case rel=>exact⟨k+1,by omega,by go_num,by rw[M.out,mu,a_];exact Q,b6⟩
           case measure=>simp[intOf];omega
         ·have a4:k=58:=by omega
          subst a4;obtain⟨a5,aa,hv,a6,b0,b4⟩:=zF q;rw[hv];clear q hv;go_wp2;go_ret2;unfold de;rw[HP.out];exact⟨a5,aa,rfl,a6,b0,b4,d⟩
   ·have n:=aW (I.out.fit (by omega) F);have P:(fP !=0)=true:=by simpa using F
    clear F I;go_wp2;go_ret2;unfold de;rw[j4 (gP.2 V.out) (by rw[iz f,n.out];decide),iz f,n.out];exact⟨none,0,rfl,iI _ _,(fun _ h=>by cases h),(fun _=>rfl),d⟩
theorem AE(a:Option Addr)(cap:Nat)(l:List (Int×Int))(c:Option Addr)(b:Nat)(E:List (Int×Int))(w:World)(d:ff w a l)(g:ff w c E):Calls prog 80 #[.slice a l.length cap,.slice c E.length b] w fun e f=>de w (post l E) e f:=by
 by_cases h1:(dS l).1=0
 ·by_cases h2:10<E.length;·exact xX a cap l c b E w d h1 h2
  ·exact yb a cap l c b E w d g h1 (by omega)
 ·exact yV a cap l c b E w d h1
theorem AI(a:Option Addr)(cap:Nat)(l:List (Int×Int))(src dst sum:Int)(w:World)(n:ff w a l):Calls prog 47 #[.slice a l.length cap,.int .i64 src,.int .i64 dst,.int .i64 sum] w fun e m=>de w (move l src dst sum) e m:=by
 by_cases h:sum<0∨1000000000000<sum
 ·have d:Hid (move l src dst sum=([],3)):=aW (by unfold move;rw[aB h]);rcases h with h|h;·go_enter func47,ntmps47;go_wp2;go_ret2;unfold de;rw[d.out];exact⟨none,0,rfl,iI _ _,(fun _ h=>by cases h),(fun _=>rfl),Below.refl _ _⟩
  ·have h0:0≤sum:=by omega
   go_enter func47,ntmps47;go_wp2;go_ret2;unfold de;rw[d.out];exact⟨none,0,rfl,iI _ _,(fun _ h=>by cases h),(fun _=>rfl),Below.refl _ _⟩
 ·have d:Hid (move l src dst sum=post l [(src,-sum),(dst,sum)]):=aW (by unfold move;rw[ai h]);have h0:0≤sum:=by omega
  have h1:sum≤1000000000000:=by omega
  clear h;have b:∀o,Below w.heap.size w (w.alloc o):=fun o=>(Below.refl _ _).alloc (aj _) o;go_enter func47,ntmps47;go_wp2_with fail;refine(AE a cap l (some ⟨w.heap.size,0,none⟩) 2 [(src,-sum),(dst,sum)] _ (n.below (b _)) (Aj w src (-sum) dst sum)).mono ?_;intro e q k;obtain⟨p,c,rfl,j,f,g,i⟩:=de.up (b _) k;generalize post l [(src,-sum),(dst,sum)]=r at*;clear k;go_wp2;go_ret2;unfold de;rw[d.out];exact⟨p,c,rfl,j,f,g,i⟩
