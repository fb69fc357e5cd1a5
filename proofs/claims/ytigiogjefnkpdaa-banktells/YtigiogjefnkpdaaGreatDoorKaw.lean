import Derived.Test.YtigiogjefnkpdaaGreatDoorKau
import Derived.Test.YtigiogjefnkpdaaGreatDoorKav
set_option maxHeartbeats 4000000
set_option maxRecDepth 100000
open Go.Proofs.Tryz
namespace Go.Proofs.YtigiogjefnkpdaaGreatDoor.Dy
open RowKit Gn
theorem gw{α:Type}(K:Kind α)(e:TypeId){w:World}{aq g:Nat}(h1:aq≤g)(h2:g<w.heap.size):Row K e w aq (.slice (some ⟨g,0,none⟩) 0 0) []:=.full g [] h1 ⟨by simp[maxLen],(fun h=>by cases h),Or.inl rfl⟩ h2
theorem qS{W:World}{b:Nat}{t:Rc}(a:W.heap[b]?=some (vx t)):W.cell? ⟨b,0,none⟩=some (.int .i64 t.sh)∧W.cell? ⟨b,1,none⟩=some (.int .i64 t.au)∧W.cell? ⟨b,2,none⟩=some (.int .i64 t.k)∧W.cell? ⟨b,3,none⟩=some (.int .i64 t.m):=by unfold vx at a;refine⟨?_,?_,?_,?_⟩<;>simp[World.cell?,a]
theorem Kf{α:Type}{K:Kind α}{e:TypeId}{w:World}{aq:Nat}{a:Option Addr}{cap:Nat}{L:List α}(h:Row K e w aq (.slice a L.length cap) L):L.length≤cap:=by
 rcases h with⟨-,rfl⟩|h|⟨g,b,-⟩;·exact bq _
 ·rcases h.2 with⟨-,c⟩|⟨g,d,f,b,-,-,c,-⟩;·omega
  ·obtain⟨-,-,rfl⟩:=bB b;exact c
 ·obtain⟨-,-,rfl⟩:=bB b;exact aj _
theorem fm(g n c:Nat):(Value.slice (some ⟨g,0,none⟩) n c).ownBlock=some g:=rfl
theorem FO{w:World}{a:Option Addr}{cap:Nat}{S:List Rc}(h:bF kR w a cap S)(n:Nat):bF kR w a cap (S.take n):=by
 refine⟨by have:= h.len;simp;omega,h.nil,?_⟩;rcases h.at' with rfl|⟨b,off,f,d,e⟩;·exact Or.inl (by simp)
 ·refine Or.inr ⟨b,off,f,d,fun j u c=>e j u ?_⟩;rw[←kR.Et,List.getElem?_take]at c;split at c;·exact c
  ·cases c
theorem DR{w:World}{b off cap:Nat}{S:List Rc}(h:bF kR w (some ⟨b,off,none⟩) cap S)(n a:Nat):bF kR w (some ⟨b,off+n*4,none⟩) a (S.drop n):=by
 refine⟨by have :=h.len;simp;omega,(fun h=>by cases h),?_⟩;rcases h.at' with rfl|⟨b',d,g,c,f⟩;·exact Or.inl (by simp)
 ·cases g;refine Or.inr ⟨b,off+n*4,rfl,c,fun j u e=>?_⟩;rw[←kR.FH,List.getElem?_drop]at e;have :=f _ _ e;rwa[←Nat.add_assoc]at this
theorem Fu{w:World}{a:Option Addr}{cap:Nat}(h:a≠none):bF kR w a cap []:=⟨by simp[maxLen],fun h0=>absurd h0 h,Or.inl rfl⟩
theorem KD{x:Int}(h1:-9223372036854775808≤x)(h2:x≤9223372036854775807):IntKind.i64.wrap x=x:=by simp[IntKind.wrap,IntKind.bits,IntKind.signed];omega
theorem JF(x r:Rc):(Hid (iJ x r=true)∧r.sh<x.sh)∨(Hid (iJ x r=true)∧¬r.sh<x.sh∧(x.sh ==r.sh)=true∧r.au<x.au)∨(Hid (iJ x r=false)∧¬r.sh<x.sh∧(x.sh==r.sh)=true∧¬r.au<x.au)∨(Hid (iJ x r=false)∧¬r.sh<x.sh∧(x.sh==r.sh)=false):=by
 by_cases h1:r.sh<x.sh;·exact Or.inl ⟨lC.2 (Or.inl h1),h1⟩
 by_cases h2:x.sh=r.sh
 ·by_cases a:r.au<x.au;·exact Or.inr (Or.inl ⟨lC.2 (Or.inr ⟨h2,a⟩),h1,by simpa using h2,a⟩)
  ·exact Or.inr (Or.inr (Or.inl ⟨jg.2 (by omega),h1,by simpa using h2,a⟩))
 ·exact Or.inr (Or.inr (Or.inr ⟨jg.2 (by omega),h1,by simpa using h2⟩))
def Kq(S:List Rc)(r:Rc)(n:Nat):Bool:=decide (0<n)&&iJ (S.getD (n-1) zR) r
theorem vB(L:List Rc)(v:Value)(w:World)(h:At kR w v L)(hN:L.length*32≤140737488355328):Calls prog 58 #[v] w fun e w'=>∃v',e=.returned v'∧Row kR 103 w' w.heap.size v' (cg L)∧Below w.heap.size w w':=by
  have hm:=h.len;unfold maxLen at hm;obtain⟨a,c,rfl,hl⟩:=h;go_enter func58,ntmps58;go_wp2;go_loopw[9,3] (fun i u wr=>∃k:Nat,k≤L.length∧i=.int .i64 k∧Row kR 103 wr w.heap.size u ((L.take k).foldl j9 [])∧Hid (k=0→u=.slice none 0 0)∧Below w.heap.size w wr) (fun i _ _=>L.length-(intOf i).toNat);case atStart=>exact⟨0,bq _,rfl,by simpa using Row.nil,fun _=>rfl,Below.refl _ _⟩
  case round=>
    obtain⟨k,hk,rfl,hr,hz,hb⟩:=hrel;by_cases ay:k<L.length
    · have bw:(k :Int)<L.length:=by omega
      obtain⟨b,off,rfl,bc,e1,e2,e3,e4⟩:=jC (hl.below hb) ay;have Q:Hid ((L.take (k+1)).foldl j9 []=j9 ((L.take k).foldl j9 []) (L.getD k zR)):=by rw[gh ay,List.foldl_append];rfl
      have O:Hid (((L.take k).foldl j9 []).length=k):=by rw[sf];exact aW (by simp;omega)
      generalize(L.take k).foldl j9 []=S at*;generalize L.getD k zR=r at*;by_cases h0:k=0
      · have bg:S=[]:=bZ (by rw[O.out];exact h0);subst bg;have hu:=hz.out h0;subst hu;have F:=aM hb (vx r);have V:(wr.alloc (vx r)).heap[wr.heap.size]?=some (vx r):=ah _ _ _ rfl;unfold vx at F V;have a2:Hid (k+1≤L.length):=aW (by omega);have M:Hid (([]:List Rc)++[r]++[]=j9 [] r):=aW rfl;clear hr hz O h0;go_wp2_with fail;generalize wr.alloc _=W1 at*;generalize wr.heap.size=Z at*;clear e1 e2 e3 e4 hb bc;go_loopw[6] (fun i X=>i=.int .i64 0∧Below W1.heap.size W1 X) (fun _ _=>0);case atStart=>exact⟨rfl,Below.refl _ _⟩
        case round=>
          obtain⟨rfl,y⟩:=hrel;generalize wr=X0 at*;go_upto_region 6 with fail;go_quiet(fail);have E:=br y nq;generalize X0.drewN nq=X at*;go_upto_region 8 with fail;have C:=(E.block _ (ae V)).trans V;have ak:=ae C;have N:Below w.heap.size w X:=F.trans (E.mono F.size);have J:=N.size;have D:∀Y:World,Below X.heap.size X Y→Y.cell? ⟨Z,0,none⟩=some (.int .i64 r.sh)∧Y.cell? ⟨Z,1,none⟩=some (.int .i64 r.au)∧Y.cell? ⟨Z,2,none⟩=some (.int .i64 r.k)∧Y.cell? ⟨Z,3,none⟩=some (.int .i64 r.m):=fun Y hY=>qS ((hY.block _ ak).trans C);clear y E V C F;go_region_held3 (fun Y=>Y.cell? ⟨Z,0,none⟩=some (.int .i64 r.sh)∧Y.cell? ⟨Z,1,none⟩=some (.int .i64 r.au)∧Y.cell? ⟨Z,2,none⟩=some (.int .i64 r.k)∧Y.cell? ⟨Z,3,none⟩=some (.int .i64 r.m))
            ((refine D _ ?_;repeat(first|exact H|exact j|exact z|exact Below.refl _ _|refine Below.drew ?_|refine aM ?_ _)))
            (first
              | (refine step_append mJ _ rfl (.tmp 52) (.tmp 55) rfl X.heap.size (.slice (some ⟨_,0,none⟩) 0 0) [] rfl (gw kR _ (by first|omega|(simp;done)|(simp;omega)) (by first|omega|(simp;done)|(simp;omega))) none 0 0 [] rfl rfl (dd _ _) (by simp[maxLen]) (by simp) (by first|omega|(simp;done)|(simp;omega)) ?_;intro v1 w2 g d I _;have z:=cI (B:=X.heap.size) (w:=X) (by repeat(first|exact Below.refl _ _|refine Below.drew ?_|refine aM ?_ _)) d (gw kR 103 (aq:=X.heap.size) (by first|omega|(simp;done)|(simp;omega)) (by first|omega|(simp;done)|(simp;omega))) (aj _) (by first|omega|(simp;done)|(simp;omega));rw[dC]at g;have P:=d.size;have ao:=z.size;simp only[fm,cS]at I;try simp at P
                 try simp at I)
              |(refine step_append mJ _ rfl (.tmp 56) (.tmp 58) rfl X.heap.size v1 [] rfl (by repeat(first|exact g|refine Row.drew ?_|refine Row.alloc ?_ _)) _ 1 1 [r] rfl rfl (cV (by repeat(first|exact ah _ _ _ (by first|omega|(simp;done)|(simp;omega))|refine(bC _ _ _ (by first|omega|(simp;done)|(simp;omega))).trans ?_|refine(d.block _ (by first|omega|(simp;done)|(simp;omega)) (by simp only[fm,ne_eq,cS];omega)).trans ?_|rw[eH])) rfl _) (by simp[maxLen]) (by simp) (by first|omega|(simp;done)|(simp;omega)) ?_;intro v3 w3 f o a7 _;have j:=cI (K:=kR) (e:=103) (aq:=X.heap.size) (L:=[]) (B:=X.heap.size) (w:=X) (by repeat(first|exact z|refine Below.drew ?_|refine aM ?_ _)) o (by repeat(first|exact g|refine Row.drew ?_|refine Row.alloc ?_ _)) (aj _) (by first|omega|(simp;done)|(simp;omega));have an:=j.size)
              |(refine step_append mJ _ rfl (.tmp 59) (.tmp 62) rfl X.heap.size v3 ([]++[r]) rfl (by repeat(first|exact f|refine Row.drew ?_|refine Row.alloc ?_ _)) none 0 0 [] rfl rfl (dd _ _) (by simp[maxLen]) (by simp) (by first|omega|(simp;done)|(simp;omega)) ?_;intro v4 w4 s l a6 _;have H:=cI (K:=kR) (e:=103) (aq:=X.heap.size) (L:=[]++[r]) (B:=X.heap.size) (w:=X) (by repeat(first|exact j|refine Below.drew ?_|refine aM ?_ _)) l (by repeat(first|exact f|refine Row.drew ?_|refine Row.alloc ?_ _)) (aj _) (by first|omega|(simp;done)|(simp;omega)))
              |fail)
          all_goals
            have G:Row kR 103 w4 w.heap.size v4 ((L.take (k+1)).foldl j9 []):=by rw[Q.out,←M.out];exact s.mono J
            have U:Below w.heap.size w w4:=N.trans (H.mono J);have T:k+1≤L.length:=a2.out;go_wp2_with fail;go_roundw;·exact⟨k+1,T,by go_num,G,fun h=>by omega,U⟩
            ·simp[intOf];omega
      · obtain⟨a3,c3,rfl,bd,b6⟩:=jx hr;have be:S≠[]:=by intro h;have :=O.out;rw[h]at this;simp at this;omega
        obtain⟨b3,p,rfl⟩:∃b3 p,a3=some ⟨b3,p,none⟩:=by
          rcases b6.at' with h|⟨b3,p,h,-⟩;·exact absurd h be
          ·exact⟨b3,p,h⟩
        have W:=hr.alloc (vx r);have F:=aM hb (vx r);have V:(wr.alloc (vx r)).heap[wr.heap.size]?=some (vx r):=ah _ _ _ rfl;unfold vx at W F V;clear hr bd b6;go_wp2_with fail;generalize wr.alloc _=W1 at*;generalize wr.heap.size=Z at*;clear e1 e2 e3 e4 hb bc;have cm:S.length≤1000000000000000:=by have:= O.out;omega
        go_loopw[6] (fun i X=>∃n:Nat,n≤S.length∧i=.int .i64 n∧Hid (pos r S S.length=pos r S n)∧Below W1.heap.size W1 X) (fun i _=>(intOf i).toNat);case atStart=>exact⟨S.length,aj _,rfl,rfl,Below.refl _ _⟩
        case round=>
          obtain⟨n,hn,rfl,hp,y⟩:=hrel;generalize wr=X at*;obtain⟨a4,c4,a9,-,a1⟩:=jx (W.below y);obtain⟨rfl,-,rfl⟩:=bB a9;have C:=(y.block _ (ae V)).trans V;obtain⟨z0,z1,z2,z3⟩:=qS (t:=r) C;go_upto_region 6 with fail;go_cut[49]from 15 to 48 (fun q wc=>q=.bool (Kq S r n)∧Below W1.heap.size W1 wc)
          case first=>
            rcases Nat.eq_zero_or_pos n with rfl|aw;· have bb:decide (0<(0 :Nat))=false:=rfl;have A:Hid (Kq S r 0=false):=rfl;go_quiet(fail);go_wp2_with fail;go_meet;exact⟨by rw[A.out],br y _⟩
            · obtain⟨m,rfl⟩:∃m,n=m+1:=⟨n-1,by omega⟩;have bb:decide (0<m+1)=true:=by simp
              have A:Hid (Kq S r (m +1)=iJ (S.getD m zR) r):=by unfold Kq;rw[bb];rfl
              obtain⟨b5,bv,h5,ch,d1,d2,-,-⟩:=jC a1 (i:=m) (by omega);cases h5;have cp:(m :Int)<S.length:=by omega
              have cn:m<S.length:=by omega
              have ck:IntKind.i64.wrap ((m :Int)+1-1)=m:=(KD (by omega) (by omega)).trans (by omega);have ci:IntKind.i64.wrap (m :Int)=m:=KD (by omega) (by omega);generalize S.getD m zR=x at*;rcases JF x r with⟨hg,g1⟩|⟨hg,g1,g2,g3⟩|⟨hg,g1,g2,g3⟩|⟨hg,g1,g2⟩;· have am:decide (r.sh<x.sh)=true:=fQ g1;go_quiet(fail);go_wp2_with fail;go_meet;exact⟨by rw[A.out,hg.out],br y _⟩
              · have am:decide (r.sh <x.sh)=false:=cD g1;have bi:decide (r.au<x.au)=true:=fQ g3;go_quiet(fail);go_wp2_with fail;go_meet;exact⟨by rw[A.out,hg.out],br y _⟩
              · have am:decide (r.sh <x.sh)=false:=cD g1;have bi:decide (r.au <x.au)=false:=cD g3;go_quiet(fail);go_wp2_with fail;go_meet;exact⟨by rw[A.out,hg.out],br y _⟩
              · have am:decide (r.sh<x.sh)=false:=cD g1;go_quiet(fail);go_wp2_with fail;go_meet;exact⟨by rw[A.out,hg.out],br y _⟩
          case rest=>
            obtain⟨rfl,E⟩:=hcut;clear z0 z1 z2 z3 C a1 y;generalize wc=X at*
            cases hq:Kq S r n with
            |true=>
              obtain⟨m,rfl⟩:∃m,n=m+1:=⟨n-1,by unfold Kq at hq;simp at hq;omega⟩;have ba:iJ (S.getD m zR) r=true:=by unfold Kq at hq;simpa using hq
              have bh:=aW (hp.out.trans (Gt ba));clear hq ba hp;go_wp2_with fail;go_roundw;case rel=>exact⟨m,by omega,by go_num,bh,E⟩
              case measure=>simp[intOf]
            |false=>
              have hP:Hid (pos r S S.length=n):=by
                rw[hp.out];rcases Nat.eq_zero_or_pos n with rfl|aw;·exact aW rfl
                ·obtain⟨m,rfl⟩:∃m,n=m+1:=⟨n-1,by omega⟩;exact aW (zW (by unfold Kq at hq;simpa using hq))
              clear hq hp;go_upto_region 8 with fail;have aa:=W.below E;have c9:=Kf aa;have ag:bF kR X (some ⟨b3,p,none⟩) c3 S:=by obtain⟨a4,c4,a9,-,a1⟩:=jx aa;obtain⟨rfl,-,rfl⟩:=bB a9;exact a1
              have b0:=FO ag n;have R:c3=n→∀q,bF kR X (some ⟨b3,p,none⟩) q (S.drop n):=fun h q=>by have: S.drop n=[]:=cM (by omega);rw[this];exact Fu (by simp)
              have a5:=DR ag n (c3 -n);have C:=(E.block _ (ae V)).trans V;have ak:=ae C;have N:Below w.heap.size w X:=F.trans (E.mono F.size);have J:=N.size;have M:Hid (S.take n++[r]++S.drop n=j9 S r):=by unfold j9;rw[hP.out];exact aW (by simp)
              have cl:Hid (S.length=k):=O;have a2:Hid (k +1≤L.length):=aW (by omega);have af:Hid (n =(S.take n).length):=aW (by simp;omega);have cc:Hid ((S.take n).length=n):=aW af.out.symm;have ce:(S.length +1)*32≤140737488355328:=by have:= O.out;omega
              have q1:n≤c3:=by omega
              have cb:(n:Int)≤c3:=by omega
              have ca:(n:Int)≤S.length:=by omega
              have D:∀Y:World,Below X.heap.size X Y→Y.cell? ⟨Z,0,none⟩=some (.int .i64 r.sh)∧Y.cell? ⟨Z,1,none⟩=some (.int .i64 r.au)∧Y.cell? ⟨Z,2,none⟩=some (.int .i64 r.k)∧Y.cell? ⟨Z,3,none⟩=some (.int .i64 r.m):=fun Y hY=>qS ((hY.block _ ak).trans C);clear ag aa W E V C F hP;by_cases A:c3=n
              · obtain rfl:n=c3:=A.symm;have b4:=R rfl;clear R A;go_region_held3 (fun Y=>Y.cell? ⟨Z,0,none⟩=some (.int .i64 r.sh)∧Y.cell? ⟨Z,1,none⟩=some (.int .i64 r.au)∧Y.cell? ⟨Z,2,none⟩=some (.int .i64 r.k)∧Y.cell? ⟨Z,3,none⟩=some (.int .i64 r.m))
                  ((refine D _ ?_;repeat(first|exact H|exact j|exact z|exact Below.refl _ _|refine Below.drew ?_|refine aM ?_ _)))
                  (first
                    | (refine step_append mJ _ rfl (.tmp 52) (.tmp 55) rfl X.heap.size (.slice (some ⟨_,0,none⟩) 0 0) [] rfl (gw kR _ (by first|omega|(simp;done)|(simp;omega)) (by first|omega|(simp;done)|(simp;omega))) (some ⟨b3,p,none⟩) n n (S.take n) rfl af.out (by repeat(first|exact b0|refine bF.drew ?_|refine bF.alloc ?_ _)) (by simp[maxLen];omega) (by simp;omega) (by first|omega|(simp;done)|(simp;omega)) ?_;intro v1 w2 g d I _;have z:=cI (B:=X.heap.size) (w:=X) (by repeat(first|exact Below.refl _ _|refine Below.drew ?_|refine aM ?_ _)) d (gw kR 103 (aq:=X.heap.size) (by first|omega|(simp;done)|(simp;omega)) (by first|omega|(simp;done)|(simp;omega))) (aj _) (by first|omega|(simp;done)|(simp;omega));rw[dC]at g;have P:=d.size;have ao:=z.size;simp only[fm,cS]at I;try simp at P
                       try simp at I)
                    |(refine step_append mJ _ rfl (.tmp 56) (.tmp 58) rfl X.heap.size v1 (S.take n) rfl (by repeat(first|exact g|refine Row.drew ?_|refine Row.alloc ?_ _)) _ 1 1 [r] rfl rfl (cV (by repeat(first|exact ah _ _ _ (by first|omega|(simp;done)|(simp;omega))|refine(bC _ _ _ (by first|omega|(simp;done)|(simp;omega))).trans ?_|refine(d.block _ (by first|omega|(simp;done)|(simp;omega)) (by simp only[fm,ne_eq,cS];omega)).trans ?_|rw[eH])) rfl _) (by simp[maxLen];omega) (by simp;omega) (by first|omega|(simp;done)|(simp;omega)) ?_;intro v3 w3 f o a7 _;have j:=cI (K:=kR) (e:=103) (aq:=X.heap.size) (L:=S.take n) (B:=X.heap.size) (w:=X) (by repeat(first|exact z|refine Below.drew ?_|refine aM ?_ _)) o (by repeat(first|exact g|refine Row.drew ?_|refine Row.alloc ?_ _)) (aj _) (by first|omega|(simp;done)|(simp;omega));have an:=j.size)
                    |(refine step_append mJ _ rfl (.tmp 59) (.tmp 62) rfl X.heap.size v3 (S.take n++[r]) rfl (by repeat(first|exact f|refine Row.drew ?_|refine Row.alloc ?_ _)) _ _ _ (S.drop n) rfl (by first|(simp;done)|(simp;omega)) (by repeat(first|exact(b4 _).below j|exact a5.below j|refine bF.drew ?_|refine bF.alloc ?_ _)) (by simp[maxLen];omega) (by simp;omega) (by first|omega|(simp;done)|(simp;omega)) ?_;intro v4 w4 s l a6 _;have H:=cI (K:=kR) (e:=103) (aq:=X.heap.size) (L:=S.take n++[r]) (B:=X.heap.size) (w:=X) (by repeat(first|exact j|refine Below.drew ?_|refine aM ?_ _)) l (by repeat(first|exact f|refine Row.drew ?_|refine Row.alloc ?_ _)) (aj _) (by first|omega|(simp;done)|(simp;omega)))
                    |fail)
                all_goals
                  have G:Row kR 103 w4 w.heap.size v4 ((L.take (k+1)).foldl j9 []):=by rw[Q.out,←M.out];exact s.mono J
                  have U:Below w.heap.size w w4:=N.trans (H.mono J);have T:k+1≤L.length:=a2.out;go_wp2_with fail;go_roundw;·exact⟨k+1,T,by go_num,G,fun h=>by omega,U⟩
                  ·simp[intOf];omega
              · go_region_held3 (fun Y=>Y.cell? ⟨Z,0,none⟩=some (.int .i64 r.sh)∧Y.cell? ⟨Z,1,none⟩=some (.int .i64 r.au)∧Y.cell? ⟨Z,2,none⟩=some (.int .i64 r.k)∧Y.cell? ⟨Z,3,none⟩=some (.int .i64 r.m))
                  ((refine D _ ?_;repeat(first|exact H|exact j|exact z|exact Below.refl _ _|refine Below.drew ?_|refine aM ?_ _)))
                  (first
                    | (refine step_append mJ _ rfl (.tmp 52) (.tmp 55) rfl X.heap.size (.slice (some ⟨_,0,none⟩) 0 0) [] rfl (gw kR _ (by first|omega|(simp;done)|(simp;omega)) (by first|omega|(simp;done)|(simp;omega))) (some ⟨b3,p,none⟩) n c3 (S.take n) rfl af.out (by repeat(first|exact b0|refine bF.drew ?_|refine bF.alloc ?_ _)) (by simp[maxLen];omega) (by simp;omega) (by first|omega|(simp;done)|(simp;omega)) ?_;intro v1 w2 g d I _;have z:=cI (B:=X.heap.size) (w:=X) (by repeat(first|exact Below.refl _ _|refine Below.drew ?_|refine aM ?_ _)) d (gw kR 103 (aq:=X.heap.size) (by first|omega|(simp;done)|(simp;omega)) (by first|omega|(simp;done)|(simp;omega))) (aj _) (by first|omega|(simp;done)|(simp;omega));rw[dC]at g;have P:=d.size;have ao:=z.size;simp only[fm,cS]at I;try simp at P
                       try simp at I)
                    |(refine step_append mJ _ rfl (.tmp 56) (.tmp 58) rfl X.heap.size v1 (S.take n) rfl (by repeat(first|exact g|refine Row.drew ?_|refine Row.alloc ?_ _)) _ 1 1 [r] rfl rfl (cV (by repeat(first|exact ah _ _ _ (by first|omega|(simp;done)|(simp;omega))|refine(bC _ _ _ (by first|omega|(simp;done)|(simp;omega))).trans ?_|refine(d.block _ (by first|omega|(simp;done)|(simp;omega)) (by simp only[fm,ne_eq,cS];omega)).trans ?_|rw[eH])) rfl _) (by simp[maxLen];omega) (by simp;omega) (by first|omega|(simp;done)|(simp;omega)) ?_;intro v3 w3 f o a7 _;have j:=cI (K:=kR) (e:=103) (aq:=X.heap.size) (L:=S.take n) (B:=X.heap.size) (w:=X) (by repeat(first|exact z|refine Below.drew ?_|refine aM ?_ _)) o (by repeat(first|exact g|refine Row.drew ?_|refine Row.alloc ?_ _)) (aj _) (by first|omega|(simp;done)|(simp;omega));have an:=j.size)
                    |(refine step_append mJ _ rfl (.tmp 59) (.tmp 62) rfl X.heap.size v3 (S.take n++[r]) rfl (by repeat(first|exact f|refine Row.drew ?_|refine Row.alloc ?_ _)) _ (S.length-n) (c3-n) (S.drop n) rfl (by simp) (by repeat(first|exact(R A).below j|exact a5.below j|refine bF.drew ?_|refine bF.alloc ?_ _)) (by simp[maxLen];omega) (by simp;omega) (by first|omega|(simp;done)|(simp;omega)) ?_;intro v4 w4 s l a6 _;have H:=cI (K:=kR) (e:=103) (aq:=X.heap.size) (L:=S.take n++[r]) (B:=X.heap.size) (w:=X) (by repeat(first|exact j|refine Below.drew ?_|refine aM ?_ _)) l (by repeat(first|exact f|refine Row.drew ?_|refine Row.alloc ?_ _)) (aj _) (by first|omega|(simp;done)|(simp;omega)))
                    |fail)
                all_goals
                  have G:Row kR 103 w4 w.heap.size v4 ((L.take (k +1)).foldl j9 []):=by rw[Q.out,←M.out];exact s.mono J
                  have U:Below w.heap.size w w4:=N.trans (H.mono J);have T:k+1≤L.length:=a2.out;go_wp2_with fail;go_roundw;·exact⟨k+1,T,by go_num,G,fun h=>by omega,U⟩
                  ·simp[intOf];omega
    · have bf:L.take k=L:=gf (by omega);rw[bf]at hr;obtain⟨a3,c3,rfl,-,-⟩:=jx hr;go_wp2;go_ret;exact⟨_,rfl,hr,hb⟩
theorem Ks{α:Type}{K:Kind α}{w:World}{b:Nat}{L:List α}{t:TypeId}{cs:Array Value}(h:w.heap[b]?=some (.cells cs t))(e:cs.toList=K.flat L)(d:L.length≤maxLen)(c:Nat):bF K w (some ⟨b,0,none⟩) c L:=by refine⟨d,(fun h=>by cases h),Or.inr ⟨b,0,rfl,ae h,fun j u a=>?_⟩⟩;rw[←e]at a;rw[dW,cell_of_row w b j cs t _ h];simpa using a
theorem Lh.on{w W c:World}{a:Option Addr}{cap:Nat}{S:List Rc}{u:Value}{C:List Int}{Z:Nat}{r:Rc}(h:Lh w W a cap S u C Z r)(b:Below W.heap.size W c):Lh w c a cap S u C Z r:=⟨h.toBv.on b,(b.block _ (ae h.box)).trans h.box,h.Mw⟩
theorem EH(r:Rc):(#[.int .u8 r.sh,.int .u8 r.au,.int .u8 r.k,.int .u8 (r.m/65536),.int .u8 (r.m /256%256),.int .u8 (r.m %256)]:Array Value).toList=kB.flat (enc r):=rfl
theorem Ev(n:Int):(#[.int .u8 (n/16777216),.int .u8 (n/65536%256),.int .u8 (n /256%256),.int .u8 (n%256)]:Array Value).toList=kB.flat (tP n):=rfl
theorem ym(L:List Rc)(v:Value)(w:World)(h:At kR w v L):Calls prog 32 #[v] w (rk w (pw L)):=by
 have V:Below w.heap.size w (w.alloc (.cells #[.int .i64 0,.int .i64 0] 47)):=ar _ _;have T:(w.alloc (.cells #[.int .i64 0,.int .i64 0] 47)).heap[w.heap.size]?=some (.cells #[.int .i64 0,.int .i64 0] 47):=ah _ _ _ rfl;have g:w.heap.size<(w.alloc (.cells #[.int .i64 0,.int .i64 0] 47)).heap.size:=by simp
 have hh:=h;obtain⟨a0,c0,rfl,hl⟩:=h;by_cases M:(eL L).1=0
 case neg=>
  have hE:=aW (xn M);have bd:((eL L).1 !=0)=true:=by simpa using M
  have R:∀X:World,Below w.heap.size w X→Calls prog 57 #[.slice a0 L.length c0] X fun e w'=>e=.returned (.agg #[.int .i64 (eL L).1,.int .i64 (eL L).2])∧Below X.heap.size X w':=fun X hX=>cr L _ X (hh.below hX);have b6:Hid (pw L=([],((eL L).1,(eL L).2))):=by rw[hE.out];exact aW rfl
  clear M hE;generalize(eL L).1=K at*;generalize(eL L).2=J at*;go_enter func32,ntmps32;go_upto_region 1 with fail;generalize w.alloc _=W0 at*;go_upto_region 3 with(go_at_call 57;refine(R _ V).mono ?_;rintro e d ⟨rfl,c⟩);have D:=(c.block _ g).trans T;have q:w.heap.size<d.heap.size:=bp g c.size;have y:Below w.heap.size w (d.alloc (.cells #[.int .i64 K,.int .i64 J] 47)):=aM (V.trans (c.mono V.size)) _;have o:(d.alloc (.cells #[.int .i64 K,.int .i64 J] 47)).heap[w.heap.size]?=some (.cells #[.int .i64 0,.int .i64 0] 47):=(jB _ _ q).trans D;have C0:(d.alloc (.cells #[.int .i64 K,.int .i64 J] 47)).cell? ⟨d.heap.size,0,none⟩=some (.int .i64 K):=by simp
  have C1:(d.alloc (.cells #[.int .i64 K,.int .i64 J] 47)).cell? ⟨d.heap.size,1,none⟩=some (.int .i64 J):=by simp
  obtain⟨r0,r1,f0,f1⟩:=jO o;have bf:w.heap.size≠d.heap.size:=by omega
  have bb:d.heap.size≠w.heap.size:=by omega
  generalize d.alloc _=f at*;generalize d.heap.size=Z at*;go_region;all_goals go_wp2_with fail;refine aA (v:=.tuple #[.slice none 0 0,.agg #[.int .i64 K,.int .i64 J]]) (by simp[results,results32,go_sem,r0,r1];try rfl) rfl ?_;rw[b6.out];refine⟨_,rfl,.nil,?_⟩;repeat(first|exact y|refine Below.drew ?_|refine aR ?_ (by simp) _)
 case pos=>
  have hR:=gP.1 M;have hE:=aW (rz M);have a2:=um M;have R:∀X:World,Below w.heap.size w X→Calls prog 57 #[.slice a0 L.length c0] X fun e w'=>e=.returned (.agg #[.int .i64 0,.int .i64 0])∧Below X.heap.size X w':=fun X hX=>by have :=cr L _ X (hh.below hX);rw[a2]at this;exact this
  have ak:=hR.iv;have HR:=aW hR;have Q:L.length*32≤140737488355328:=by omega
  have b3:IntKind.u8.wrap (L.length :Int)=L.length:=by simp[IntKind.wrap,IntKind.bits,IntKind.signed];omega
  clear M a2 hR;go_enter func32,ntmps32;go_upto_region 1 with fail;generalize w.alloc _=W0 at*;go_upto_region 4 with(go_at_call 57;refine(R _ V).mono ?_;rintro e d ⟨rfl,c⟩);have D:=(c.block _ g).trans T;have q:w.heap.size<d.heap.size:=bp g c.size;have y:Below w.heap.size w (d.alloc (.cells #[.int .i64 0,.int .i64 0] 47)):=aM (V.trans (c.mono V.size)) _;have o:(d.alloc (.cells #[.int .i64 0,.int .i64 0] 47)).heap[w.heap.size]?=some (.cells #[.int .i64 0,.int .i64 0] 47):=(jB _ _ q).trans D;generalize d.alloc _=f at*;have a1:=ae o;clear c D q T g V;go_upto_region 5 with fail;have aa:bF kB (f.alloc (.cells #[.int .u8 (L.length :Int)] 5)) (some ⟨f.heap.size,0,none⟩) 1 [(L.length :Int)]:=cV (ah _ _ _ rfl) rfl 1;have E:f.heap.size<(f.alloc (.cells #[.int .u8 (L.length:Int)] 5)).heap.size:=by simp
  have O:Row kB 5 (f.alloc (.cells #[.int .u8 (L.length:Int)] 5)) (w.heap.size +1) (.slice (some ⟨f.heap.size,0,none⟩) 1 1) [(L.length :Int)]:=.full f.heap.size [(L.length :Int)] (by omega) aa E;have n:Below w.heap.size w (f.alloc (.cells #[.int .u8 (L.length :Int)] 5)):=aM y _;have B:(f.alloc (.cells #[.int .u8 (L.length:Int)] 5)).heap[w.heap.size]?=some (.cells #[.int .i64 0,.int .i64 0] 47):=(jB _ _ a1).trans o;generalize f.alloc _=W3 at*;generalize f.heap.size=Y at*;clear aa;go_wp2_with(go_at_call 58;refine(vB L _ _ (hh.below n) Q).mono ?_;rintro e w4 ⟨v4,rfl,a6,z⟩;obtain⟨a4,c4,rfl,a9,a7,H⟩:=a6.bQ);have p:Bv w w4 a4 c4 (cg L) (.slice (some ⟨Y,0,none⟩) 1 1) [(L.length:Int)]:=⟨n.trans (z.mono (by have:= ae B;omega)),(z.block _ (ae B)).trans B,a9,H,O.below z,fun ad qh hk=>by have h1:=a7 ad qh;have h2:=(O.dV _ hk).2;omega⟩;clear a9 a7 H z O n B o y a1 E a6;have an:(cg L).length≤100:=by rw[fj];exact ak
  have A:=aW HR.out.sort;have a5:Hid (total L=gk Rc.m (cg L)):=aW (Bt _ _).symm;obtain⟨S,hS⟩:∃S,Hid (cg L=S):=⟨_,rfl⟩;rw[hS.out]at p an A a5⊢;have a3:=pg HR.out;go_loopw[22,5,6] (fun i u s wr=>∃k:Nat,k≤S.length∧i=.int .i64 k∧s=.int .i64 (gk Rc.m (S.take k))∧Bv w wr a4 c4 S u ((L.length:Int)::(S.take k).flatMap enc)) (fun i _ _ _=>S.length-(intOf i).toNat);case atStart=>exact⟨0,bq _,rfl,by simp[gk],by simpa using p⟩
  case round=>
   clear p;obtain⟨k,hk,rfl,rfl,p⟩:=hrel;have U:Hid (((L.length:Int)::(S.take k).flatMap enc).length=1+6*k):=by rw[di,ej,List.length_take];exact aW (by omega)
   by_cases x:k<S.length
   ·have bc:(k :Int)<S.length:=by omega
    obtain⟨b,off,rfl,bg,K,J,e3,e4⟩:=jC p.bQ x;have l:=A.out.each _ (gM x);have G:Hid (((L.length:Int)::(S.take (k +1)).flatMap enc)=((L.length:Int)::(S.take k).flatMap enc)++enc (S.getD k zR)):=by rw[gh x];exact aW (by simp)
    have F:=aW (uC Rc.m x);have be:0≤gk Rc.m (S.take k)∧gk Rc.m (S.take k)≤100000000:=pg ⟨by have:= A.out.iv;simp;omega,fun r hr=>A.out.each r (eE hr)⟩;generalize(L.length :Int)::(S.take k).flatMap enc=C at*;generalize gk Rc.m (S.take k)=t at*;generalize S.getD k zR=r at*;have X0:=p.take r;unfold vx at X0;go_upto_region 9 with fail;generalize wr.alloc _=W1 at*;generalize wr.heap.size=Z at*;clear K J e3 e4 p;obtain⟨g0,g1,g2,g3⟩:=mr X0.box;have hq:=X0.I6;have f1:=l.1;have f2:=l.2;unfold noKind at f1;unfold jq at f2;have W:=X0.on (ar W1 (.cells #[.int .u8 r.sh,.int .u8 r.au,.int .u8 r.k,.int .u8 (r.m/65536),.int .u8 (r.m/256%256),.int .u8 (r.m %256)] 5));have ba:C.length≤601:=by have :=U.out;omega
    have P:bF kB (W1.alloc (.cells #[.int .u8 r.sh,.int .u8 r.au,.int .u8 r.k,.int .u8 (r.m /65536),.int .u8 (r.m /256%256),.int .u8 (r.m %256)] 5)) (some ⟨W1.heap.size,0,none⟩) 6 (enc r):=Ks (ah _ _ _ rfl) (EH r) (by simp[jK,maxLen]) 6;have q1:C.length+(enc r).length≤maxLen:=by rw[jK];simp[maxLen];omega
    have q2:(C.length +(enc r).length)*1≤140737488355328:=by rw[jK];omega
    have q3:w.heap.size+1≤(W1.alloc (.cells #[.int .u8 r.sh,.int .u8 r.au,.int .u8 r.k,.int .u8 (r.m /65536),.int .u8 (r.m/256%256),.int .u8 (r.m%256)] 5)).heap.size:=by simp;omega
    go_upto_region 10 with(at_builtin;refine bH wJ _ rfl _ _ rfl (w.heap.size+1) _ C rfl W.row (some ⟨W1.heap.size,0,none⟩) 6 6 (enc r) rfl rfl P q1 q2 q3 ?_;intro v2 w2 j af I _);have X1:=W.grow j af I;obtain⟨p0,p1,p2,p3⟩:=mr X1.box;have b5:Hid (C ++enc r=(L.length:Int)::(S.take (k +1)).flatMap enc):=aW G.out.symm;have hT:Hid (t+r.m=gk Rc.m (S.take (k +1))):=aW F.out.symm;clear X0 W j af I g0 g1 g2 g3 G F;go_wp2_with fail;go_roundw;case rel=>exact⟨k+1,by omega,by go_num,by rw[hT.out],by rw[←b5.out];exact X1.toBv⟩
    case measure=>simp[intOf];omega
   ·have aw:k=S.length:=by omega
    subst aw;rw[fc]at p U;have ag:Hid (((L.length :Int)::S.flatMap enc)++tP (total L)=qv L):=by rw[←hS.out];exact aW rfl
    rw[fc,←a5.out];generalize total L=a at*;generalize(L.length :Int)::S.flatMap enc=C at*;have ba:C.length≤601:=by have:= U.out;omega
    have hq:=p.I6;have am:=p.on (ar wr (.cells #[.int .u8 (a/16777216),.int .u8 (a /65536%256),.int .u8 (a/256%256),.int .u8 (a%256)] 5));obtain⟨t1,t2⟩:=a3;have P:bF kB (wr.alloc (.cells #[.int .u8 (a /16777216),.int .u8 (a /65536%256),.int .u8 (a /256%256),.int .u8 (a %256)] 5)) (some ⟨wr.heap.size,0,none⟩) 4 (tP a):=Ks (ah _ _ _ rfl) (Ev a) (by simp[tP,maxLen]) 4;have q1:C.length+(tP a).length≤maxLen:=by simp[tP,maxLen];omega
    have q2:(C.length +(tP a).length)*1≤140737488355328:=by simp[tP];omega
    have q3:w.heap.size+1≤(wr.alloc (.cells #[.int .u8 (a/16777216),.int .u8 (a/65536%256),.int .u8 (a /256%256),.int .u8 (a %256)] 5)).heap.size:=by simp;omega
    go_wp2_with(at_builtin;refine bH wJ _ rfl _ _ rfl (w.heap.size +1) _ C rfl am.row (some ⟨wr.heap.size,0,none⟩) 4 4 (tP a) rfl rfl P q1 q2 q3 ?_;intro v6 w6 ao ay b4 _;have B2:=am.grow ao ay b4;obtain⟨r0,r1,f0,f1⟩:=jO B2.res);refine aA (v:=.tuple #[v6,.agg #[.int .i64 0,.int .i64 0]]) (by simp[results,results32,go_sem,r0,r1];try rfl) rfl ?_;rw[hE.out];refine⟨v6,rfl,?_,(B2.bel.setCell (aj _) _).setCell (aj _) _⟩;have N:=B2.row;rw[ag.out]at N;refine(N.cB (by simp) fun k hk _=>?_).mono (by omega);have :=(N.dV k hk).1;rw[aF _ ⟨w.heap.size,1,none⟩ _ _ (by simp;omega),aF _ ⟨w.heap.size,0,none⟩ _ _ (by simp;omega)]
