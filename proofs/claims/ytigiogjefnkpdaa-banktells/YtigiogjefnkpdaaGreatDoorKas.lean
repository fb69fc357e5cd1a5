import Derived.Test.YtigiogjefnkpdaaGreatDoorKar
set_option maxHeartbeats 4000000
set_option maxRecDepth 100000
open Go.Proofs.Tryz
namespace Go.Proofs.YtigiogjefnkpdaaGreatDoor.Dy
def enc(r:Rc):List Int:=[r.sh,r.au,r.k,r.m/65536,r.m/256%256,r.m%256]
def tP(n:Int):List Int:=[n/16777216,n/65536%256,n/256%256,n%256]
def total(l:List Rc):Int:=gk Rc.m l
def qv(l:List Rc):List Int:=((l.length :Int)::(cg l).flatMap enc)++tP (total l)
def pw(l:List Rc):List Int×(Int ×Int):=if(eL l).1≠0 then([],eL l)else(qv l,(0,0))
theorem jK(r:Rc):(enc r).length=6:=rfl
theorem ej(s:List Rc):(s.flatMap enc).length=6*s.length:=by
 induction s with
 |nil=>rfl
 |cons r t a=>rw[List.flatMap_cons,a_,a,jK,di];omega
theorem oo{s:List Rc}{i:Nat}(hi:i<s.length){j:Nat}(b:j<6):(s.flatMap enc)[6*i+j]?=(enc (s.getD i zR))[j]?:=by
 induction s generalizing i with
 |nil=>simp at hi
 |cons r t a=>
  rw[List.flatMap_cons]
  cases i with
  |zero=>rw[iP (by rw[jK];omega),Nat.mul_zero,dW];rfl
  |succ i=>rw[qj (by rw[jK];omega),jK,show 6*(i +1)+j-6=6*i+j by omega,a (by simpa using hi)];rfl
theorem pg{l:List Rc}(h:en l):0≤total l∧total l≤100000000:=by
 have h0:∀L:List Rc,(∀r∈L,¬noKind r∧¬jq r)→0≤gk Rc.m L∧gk Rc.m L≤1000000*L.length:=by
  intro L
  induction L with
  |nil=>intro _;simp[gk]
  |cons r t b=>intro a;have h1:=b fun x c=>a x (cR _ c);have h2:=(a r bT).2;unfold jq at h2;simp only[gk,di,Int.natCast_add,Int.natCast_one];omega
 have h1:=h0 l h.each;have:= h.iv;unfold total;omega
def MS(b:List Int):Prop:=∀x∈b,0≤x∧x≤255
theorem MS.at{b:List Int}(h:MS b)(i:Nat):0≤b.getD i 0∧b.getD i 0≤255:=by
 by_cases hi:i<b.length
 ·have :b.getD i 0=b[i]:=by simp[List.getD,hi]
  rw[this];exact h _ (List.getElem_mem hi)
 ·have :b.getD i 0=0:=by simp[List.getD,hi]
  rw[this];omega
theorem xn{l:List Rc}(h:(eL l).1≠0):pw l=([],eL l):=by unfold pw;rw[aB h]
theorem rz{l:List Rc}(h:(eL l).1=0):pw l=(qv l,(0,0)):=by unfold pw;rw[ai (by simpa using h)]
open RowKit Gn
theorem CW(r:Rc):Hid (gJ r=1)∧(r.k<1∨(1 ≤r.k∧8<r.k))∨(1≤r.k∧r.k≤8)∧(Hid (gJ r=3)∧(r.sh<0∨(0≤r.sh∧8≤r.sh)∨(0 ≤r.sh∧r.sh<8∧r.au<0)∨(0 ≤r.sh∧r.sh<8∧0≤r.au∧30≤r.au)∨(0 ≤r.sh∧r.sh<8∧0≤r.au∧r.au<30∧r.m<1)∨(0 ≤r.sh∧r.sh<8∧0≤r.au∧r.au<30∧1≤r.m∧1000000<r.m))∨Hid (gJ r=0)∧0≤r.sh∧r.sh<8∧0≤r.au∧r.au<30∧1≤r.m∧r.m≤1000000):=by
 unfold gJ;by_cases h1:noKind r;·refine Or.inl ⟨aW (aB h1),?_⟩;unfold noKind at h1;omega
 ·refine Or.inr ⟨by unfold noKind at h1;omega,?_⟩;rw[ai h1];by_cases h2:jq r;·refine Or.inl ⟨aW (aB h2),?_⟩;unfold jq at h2;omega
  ·refine Or.inr ⟨aW (ai h2),?_⟩;unfold jq at h2;omega
theorem tM(r:Rc)(w:World):Calls prog 127 #[rv r] w fun e f=>e=.returned (.int .i64 (gJ r))∧Below w.heap.size w f:=by have W:=CW r;have c:Below w.heap.size w (w.alloc (vx r)):=ar _ _;unfold vx at c;unfold rv;generalize gJ r=u at*;obtain⟨sh,au,k,m⟩:=r;dsimp only at W c⊢;rcases W with⟨a,h|⟨h,h1⟩⟩|⟨⟨j,i⟩,⟨a,h|⟨h,h1⟩|⟨h,h1,h2⟩|⟨h,h1,h2,b⟩|⟨h,h1,h2,b,d⟩|⟨h,h1,h2,b,d,g⟩⟩|⟨a,h,h1,h2,b,d,g⟩⟩;all_goals go_enter func127,ntmps127;go_wp2;go_ret;exact⟨bP a.out.symm,c⟩
def fv(f:Int×Int):Value:=.agg #[.int .i64 f.1,.int .i64 f.2]
theorem jO{w W:World}{a b:Int}{t:TypeId}(h:W.heap[w.heap.size]?=some (.cells #[.int .i64 a,.int .i64 b] t)):W.cell? ⟨w.heap.size,0,none⟩=some (.int .i64 a)∧W.cell? ⟨w.heap.size,1,none⟩=some (.int .i64 b)∧W.frozen? ⟨w.heap.size,0,none⟩=false∧W.frozen? ⟨w.heap.size,1,none⟩=false:=by refine⟨?_,?_,?_,?_⟩<;>simp[World.cell?,World.frozen?,h]
theorem dO(L:List Rc)(v:Value)(w:World)(h:At kR w v L):Calls prog 102 #[v] w fun e B=>e=.returned (fv (eL L))∧Below w.heap.size w B:=by
 have P:=h.len;unfold maxLen at P;obtain⟨a,c,rfl,Q⟩:=h;unfold fv;by_cases z:100<L.length
 ·have q:=aW (jL z);have p:(100 :Int)<L.length:=by omega
  go_enter func102,ntmps102;go_wp2;refine aA (v:=.agg #[.int .i64 5,.int .i64 0]) (by simp[results,results102,go_sem]) rfl ⟨?_,?_⟩;·rw[q.out]
  ·repeat(first|exact Below.refl _ _|refine aR ?_ (by simp) _|refine aM ?_ _)
 have p:(L.length :Int)≤100:=by omega
 have D:=iq (l:=L) (by omega);have M:Below w.heap.size w (w.alloc (.cells #[.int .i64 0,.int .i64 0] 47)):=ar _ _;have y:(w.alloc (.cells #[.int .i64 0,.int .i64 0] 47)).heap[w.heap.size]?=some (.cells #[.int .i64 0,.int .i64 0] 47):=ah _ _ _ rfl;go_enter func102,ntmps102;go_wp2;generalize w.alloc _=A at*;go_loopw[12](fun i wr=>∃k:Nat,k≤L.length∧i=.int .i64 k∧Hid (Good L k)∧Below A.heap.size A wr) (fun i _=>L.length-(intOf i).toNat);case atStart=>exact⟨0,bq _,rfl,D,Below.refl _ _⟩
 case round=>
  obtain⟨k,U,rfl,E,s⟩:=hrel;generalize wr=W at*;have J:=ae y;have x:=(s.block _ J).trans y;have j:Below w.heap.size w W:=M.trans (s.mono M.size);by_cases g:k<L.length
  ·have K:(k :Int)<L.length:=by omega
   obtain⟨b,off,rfl,R,e1,Z,Y,V⟩:=jC (Q.below j) g;have I:=aW fun h=>E.out.bad g h;have H:=aW fun h=>E.out.next g h;generalize L.getD k zR=r at*;have n:∀X:World,Calls prog 127 #[rv r] X fun e B=>e=.returned (.int .i64 (gJ r))∧Below X.heap.size X B:=fun X=>tM r X;unfold rv at n;have F:∀o,Below A.heap.size A (W.alloc o):=fun o=>s.alloc s.size o;have t:∀o,Below w.heap.size w (W.alloc o):=fun o=>aM j o;by_cases h0:gJ r=0
   ·have G:(gJ r !=0)=false:=by simpa using h0
    have q:=aW (H.out h0);clear I H h0;generalize gJ r=u at*;go_wp2_with(go_at_call 127;refine(n _).mono ?_;rintro e f ⟨rfl,d⟩);go_roundw;case rel=>exact⟨k+1,by omega,by go_num,q,(F _).trans (d.mono (by have:= s.size;simp;omega))⟩
    case measure=>simp[intOf];omega
   ·have G:(gJ r !=0)=true:=by simpa using h0
    have q:=aW (I.out h0);clear I H h0;generalize gJ r=u at*
    have key:∀f:World,Below (W.alloc (.cells #[.int .i64 r.sh,.int .i64 r.au,.int .i64 r.k,.int .i64 r.m] 103)).heap.size (W.alloc (.cells #[.int .i64 r.sh,.int .i64 r.au,.int .i64 r.k,.int .i64 r.m] 103)) f→f.heap[w.heap.size]?=some (.cells #[.int .i64 0,.int .i64 0] 47)∧Below w.heap.size w f:=fun f d=>by have C:w.heap.size<W.heap.size:=bp J s.size;exact⟨(d.block _ (by simp;omega)).trans ((jB _ _ C).trans x),(t _).trans (d.mono (by simp;omega))⟩
    go_upto_region 8 with(go_at_call 127;refine(n _).mono ?_;rintro e f ⟨rfl,d⟩);obtain⟨O,N⟩:=key f d;obtain⟨r0,r1,T,S⟩:=jO O;go_wp2_with fail;refine aA (v:=.agg #[.int .i64 u,.int .i64 k]) (by simp[results,results102,go_sem,r0,r1]) rfl ⟨?_,(N.setCell (aj _) _).setCell (aj _) _⟩;rw[q.out]
  ·have q:=aW (E.out.done (by omega));obtain⟨r0,r1,T,S⟩:=jO x;go_wp2;refine aA (v:=.agg #[.int .i64 0,.int .i64 0]) (by simp[results,results102,go_sem,r0,r1]) rfl ⟨?_,(j.setCell (aj _) _).setCell (aj _) _⟩;rw[q.out]
open RowKit Gn
theorem eS{x:Int}(h1:-9223372036854775808≤x)(h2:x≤9223372036854775807):IntKind.i64.wrap x=x:=by simp[IntKind.wrap,IntKind.bits,IntKind.signed];omega
theorem Cg{L:List Rc}(h:en L){k:Nat}(a:k<L.length):1≤(L.getD k zR).m∧(L.getD k zR).m≤1000000:=by have :=(h.each _ (gM a)).2;unfold jq at this;omega
theorem FY(L:List Rc)(v:Value)(w:World)(h:At kR w v L)(p:en L):Calls prog 105 #[v] w fun e q=>e=.returned (.int .i64 (total L))∧Below w.heap.size w q:=by
 have z:=h.len;unfold maxLen at z;obtain⟨a,c,rfl,A⟩:=h;go_enter func105,ntmps105;go_wp2;go_loopw[8,3](fun i s wr=>∃(k:Nat) (x:Int),k≤L.length∧i=.int .i64 k∧s=.int .i64 x∧0≤x∧x≤1000000*k∧Hid (x=total (L.take k))∧Below w.heap.size w wr) (fun i _ _=>L.length-(intOf i).toNat);case atStart=>exact⟨0,0,bq _,rfl,rfl,by omega,by omega,rfl,Below.refl _ _⟩
 case round=>
  obtain⟨k,x,H,rfl,rfl,u,t,l,g⟩:=hrel;by_cases f:k<L.length
  ·have n:(k :Int)<L.length:=by omega
   obtain⟨b,off,rfl,B,G,F,E,D⟩:=jC (A.below g) f;have y:=Cg p f;have d:total (L.take (k +1))=total (L.take k)+(L.getD k zR).m:=uC _ f;have o:=p.iv;rw[←l.out]at d;generalize L.getD k zR=r at*;obtain⟨sh,au,kk,m⟩:=r;dsimp only at G F E D y d;have j:=aW d;clear d;go_wp2_with fail;go_roundw;case rel=>exact⟨k+1,x+m,by omega,by go_num,by go_num,by omega,by omega,j.out.symm,by repeat(first|exact g|refine Below.drew ?_|refine aM ?_ _)⟩
   case measure=>simp[intOf];omega
  ·have C:Hid (x=total L):=by rw[l.out,gf (by omega)];exact aW rfl
   go_wp2;go_ret;exact⟨bP C.out,g⟩
open RowKit Gn
theorem L4:(prog.info? 5).map (fun i=>(i.zero,i.size,i.bytes))=some (some (.int .u8 0),1,1):=by kernel_rfl
theorem wJ:sc prog kB 79 5 1:=by obtain⟨i,h1,h2,b,a⟩:=info_parts L4;exact⟨underlying79,i,_,h1,h2,b,a,rfl⟩
def Jr(n:Int):Nat→Int
 |0=>n%256
 |1=>n/256%256
 |2=>n/65536%256
 |3=>n/16777216%256
 |_=>0
def kb(n:Int):Nat→List Int
 |0=>[]
 |k+1=>Jr n k::kb n k
theorem iZ(n:Int):∀k,(kb n k).length=k
 |0=>rfl
 |k+1=>by simp[kb,iZ n k]
theorem wW{w b w2:World}{r c:Option Nat}(h:w.grownBy b r)(a:b.grownBy w2 c)(f:∀k,c=some k→r=some k∨w.heap.size≤k):w.grownBy w2 r:=⟨a.os.trans h.os,a.tape.trans h.tape,a.output.trans h.output,bE h.size a.size,fun k e d=>(a.block k (bp e h.size) (fun h=>by
  rcases f k h.symm with h1|h1;·exact d h1.symm
  ·omega)).trans (h.block k e d)⟩
theorem DS(w:World)(o:Obj)(r:Option Nat):w.grownBy (w.alloc o) r:=⟨rfl,rfl,rfl,by simp,fun k a _=>jB _ _ a⟩
def fB(w:World)(aq:Nat)(v:Value)(B:List Int)(e:Ending)(a:World):Prop:=∃v',e=.returned v'∧Row kB 5 a aq v' B∧w.grownBy a v.ownBlock∧∀k,v'.ownBlock=some k→v.ownBlock=some k∨w.heap.size≤k
theorem sF(B:List Int)(n:Int)(s:Nat)(aq:Nat)(v:Value)(w:World)(h:Row kB 5 w aq v B)(r:s≤4)(t:B.length≤1000000)(m:aq≤w.heap.size):Calls prog 103 #[v,.int .i64 n,.int .i64 s] w (fB w aq v (B++kb n s)):=by
  go_enter func103,ntmps103;go_wp2;go_loopw[0,7](fun u i wr=>∃(k:Nat) (C:List Int),k≤s∧i=.int .i64 ((k:Int)-1)∧Hid (C ++kb n k=B++kb n s)∧Row kB 5 wr aq u C∧C.length≤1000000+4-k∧w.grownBy wr v.ownBlock∧∀k,u.ownBlock=some k→v.ownBlock=some k∨w.heap.size≤k) (fun _ i _=>((intOf i)+1).toNat);case atStart=>exact⟨s,B,aj _,by go_num,rfl,h,by omega,World.grownBy.refl _ _,fun k j=>Or.inl j⟩
  case round=>
    obtain⟨k,C,j,rfl,p,a,q,f,b⟩:=hrel
    cases k with
    |zero=>
      have o:Hid (C =B++kb n s):=by have:= p.out;simp[kb]at this;exact this
      go_wp2;go_ret;exact⟨_,rfl,by rw[←o.out];exact a,f,b⟩
    |succ k=>
      have o:Hid ((C++[Jr n k])++kb n k=B++kb n s):=by have :=p.out;simp[kb]at this;exact aW (by simpa using this)
      obtain rfl|rfl|rfl|rfl:k=0∨k=1∨k=2∨k=3:=by omega
      all_goals
        go_wp2_with(first
          |(at_builtin;refine bH wJ _ rfl _ _ rfl aq _ C rfl (a.alloc _) (some ⟨wr.heap.size,0,none⟩) 1 1 [Jr n 0] rfl rfl (cV (ah _ _ _ rfl) rfl 1) ?c3 ?c4 ?c5 ?_)
          |(at_builtin;refine bH wJ _ rfl _ _ rfl aq _ C rfl (a.alloc _) (some ⟨wr.heap.size,0,none⟩) 1 1 [Jr n 1] rfl rfl (cV (ah _ _ _ rfl) rfl 1) ?c3 ?c4 ?c5 ?_)
          |(at_builtin;refine bH wJ _ rfl _ _ rfl aq _ C rfl (a.alloc _) (some ⟨wr.heap.size,0,none⟩) 1 1 [Jr n 2] rfl rfl (cV (ah _ _ _ rfl) rfl 1) ?c3 ?c4 ?c5 ?_)
          |(at_builtin;refine bH wJ _ rfl _ _ rfl aq _ C rfl (a.alloc _) (some ⟨wr.heap.size,0,none⟩) 1 1 [Jr n 3] rfl rfl (cV (ah _ _ _ rfl) rfl 1) ?c3 ?c4 ?c5 ?_));case c3=>simp[maxLen];omega
        case c4=>simp;omega
        case c5=>have:= f.size;simp;omega
        intro v2 w2 d e c _;have l:w.grownBy w2 v.ownBlock:=wW (wW f (DS _ _ none) (fun k h=>by cases h)) e b
        have g:∀k,v2.ownBlock=some k→v.ownBlock=some k∨w.heap.size≤k:=fun k j=>by
          rcases c k j with h1|h1;·exact b k h1
          · exact Or.inr (by have :=f.size;have h2:(wr.alloc (.cells #[.int .u8 0] 5)).heap.size=wr.heap.size+1:=by simp
                             try simp at h1
                             omega)
        clear e c f b a p;go_wp2_with fail;go_roundw;case rel=>exact⟨_,_,by omega,by go_num,o,d,by simp;omega,l,g⟩
        case measure=>simp[intOf]
open RowKit Gn
def LU{α:Type}(K:Kind α)(W:World)(v:Value)(L:List α):Prop:=∃a cap,v=.slice a L.length cap∧bF K W a cap L∧L.length≤cap
theorem LU.at{α:Type}{K:Kind α}{W:World}{v:Value}{L:List α}(h:LU K W v L):At K W v L:=by obtain⟨a,cap,rfl,b,-⟩:=h;exact⟨a,cap,rfl,b⟩
theorem LU.below{α:Type}{K:Kind α}{W b:World}{v:Value}{L:List α}(h:LU K W v L)(e:Below W.heap.size W b):LU K b v L:=by obtain⟨a,cap,rfl,c,d⟩:=h;exact⟨a,cap,rfl,c.below e,d⟩
open RowKit Gn
theorem jD(L:List Rc)(v v2:Value)(w:World)(h:At kR w v L)(h2:At kR w v2 L):Calls prog 16 #[v,v2] w fun e n=>e=.returned (.bool true)∧Below w.heap.size w n:=by
 have o:=h.len;unfold maxLen at o;obtain⟨a,c,rfl,p⟩:=h;obtain⟨D,c2,rfl,g⟩:=h2;go_enter func16,ntmps16;go_wp2;go_loopw[13](fun i wr=>∃k:Nat,k≤L.length∧i=.int .i64 k∧Below w.heap.size w wr) (fun i _=>L.length-(intOf i).toNat);case atStart=>exact⟨0,bq _,rfl,Below.refl _ _⟩
 case round=>
  obtain⟨k,r,rfl,f⟩:=hrel;generalize wr=W at*;by_cases d:k<L.length
  ·have l:(k :Int)<L.length:=by omega
   obtain⟨b,off,rfl,q,C,B,A,z⟩:=jC (p.below f) d;obtain⟨b2,j,rfl,m,y,x,u,s⟩:=jC (g.below f) d;generalize L.getD k zR=t at*;go_wp2;go_quiet(fail);go_wp2;go_roundw;case rel=>exact⟨k+1,by omega,by go_num,br f _⟩
   case measure=>simp[intOf];omega
  ·go_wp2;go_ret;exact⟨rfl,f⟩
