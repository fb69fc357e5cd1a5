import Derived.Test.YtigiogjefnkpdaaGreatDoorKba
set_option maxHeartbeats 4000000
set_option maxRecDepth 100000
open Go.Proofs.Tryz
namespace Go.Proofs.YtigiogjefnkpdaaGreatDoor
open RowKit
structure St(w:World)(p:Pa)(x:Int×Int)(a:Option Addr)(L:List (Int×Int))(W:World):Prop where
 bel:Below w.heap.size w W
 lt:w.heap.size+1<W.heap.size
 me:W.heap[w.heap.size]?=some (.cells #[.int .i64 p.t,.int .i64 p.c,.int .i64 p.s] 63)use:W.heap[w.heap.size+1]?=some (.cells #[.int .i64 x.1,.int .i64 x.2] 132)oz:ff W a L
theorem St.on{w W c:World}{p:Pa}{x:Int×Int}{a:Option Addr}{L:List (Int×Int)}(h:St w p x a L W)(b:Below W.heap.size W c):St w p x a L c:=by have:= h.lt;have:= b.size;exact⟨h.bel.trans (b.mono h.bel.size),by omega,(b.block _ (by omega)).trans h.me,(b.block _ h.lt).trans h.use,h.oz.below b⟩
theorem yT(p:Pa)(a:Option Addr)(cap:Nat)(L:List (Int ×Int))(x:Int×Int)(w:World)(hL:ff w a L)(h1:cf p=0)(h2:(cP L).1=0)(M:mT x=true):Calls prog 83 #[pv p,.slice a L.length cap,uv x] w (fG w (gU p L x)):=by
  have ba:(cf p !=0)=false:=by simpa using h1
  have b3:((cP L).1 !=0)=false:=by simpa using h2
  have D:(cP [x]).1=0:=by rw[AN,M];rfl
  have H4:=aW (qs (L:=L) h1 h2 M);have H5:=aW (qp (L:=L) h1 h2 M);clear h1 h2 M;unfold pv uv;go_enter func83,ntmps83;go_wp2_with fail;refine(cr p _).mono ?_;rintro e w1 ⟨rfl,a5⟩;obtain⟨bb,n,a2,F⟩:=boxes a5;have S1:St w p x a L w1:=⟨bb,n,a2,F,hL.below bb⟩;generalize cf p=r at*;clear hL a5 bb n a2 F;go_wp2_with fail;refine(lF a cap L _ S1.oz).mono ?_;rintro e w2 ⟨rfl,h⟩;generalize(cP L).1=r1 at*;generalize(cP L).2=r2 at*;have S2:=S1.on h;have X0:=fun o=>(gK (S2.on (ar w2 o)).use).1;have X1:=fun o=>(gK (S2.on (ar w2 o)).use).2;clear S1 h;go_wp2_with fail;refine(tJ x _ _ (by simp)).mono ?_;rintro e P ⟨rfl,B⟩;rw[D];generalize(cP [x]).2=r3 at*;have S3:St w p x a L P:=((S2.on (ar w2 _)).on (ar _ _)).on B;clear X0 X1 S2 B D;go_upto_region 10 with fail;have Y:=S3.on (ar P (.cells #[.int .i64 0,.int .i64 r3] 47));generalize P.alloc _=w4 at*;obtain⟨X0,X1⟩:=gK Y.use;clear S3;by_cases g:0<L.length∧x.1<(L.getD (L.length -1) (0,0)).1
  · have W:=H4.out g;have HP:=aW ((px (by rw[W];decide)).trans (by rw[W]:(([],dp p L x):List (Int ×Int)×Int)=([],2)));obtain⟨q,Z⟩:=g;have a4:decide (0<L.length)=true:=fQ q;have E:=Y.oz;obtain⟨hm,E⟩:=E;unfold maxLen at hm;rcases E with rfl|⟨b,off,rfl,H,f⟩;·simp at q
    obtain⟨c1,-⟩:=f (L.length-1) (by omega);clear f H4 H5 W;generalize(L.getD (L.length-1) (0,0)).1=pv at*;go_quiet(fail);go_wp2;go_ret2;unfold fG;rw[HP.out];exact⟨.slice none 0 0,rfl,d_ _ _ _ _,br Y.bel _⟩
  have h5:=H5.out g;have N:=aW (po h5);have H1:=aW (vV h5);have H2:=aW (DE h5);clear H4 H5 h5;go_cut[49]from 35 to 49 (fun s wc=>s=.bool false∧St w p x a L wc)
  case first=>
    have E:=Y.oz;obtain⟨hm,E⟩:=E;unfold maxLen at hm;by_cases h0:L.length=0;· have a4:decide (0 <L.length)=false:=cD (by omega);clear E h0 g;go_quiet(fail);go_wp2;go_meet;exact⟨rfl,Y.on (br (Below.refl _ _) _)⟩
    · have q:0<L.length:=by omega
      have a4:decide (0 <L.length)=true:=fQ q;have Z:(L.getD (L.length -1) (0,0)).1≤x.1:=Int.not_lt.1 fun hh=>g ⟨q,hh⟩;rcases E with rfl|⟨b,off,rfl,H,f⟩;·simp at q
      obtain⟨c1,-⟩:=f (L.length-1) (by omega);clear f g h0;generalize(L.getD (L.length-1) (0,0)).1=pv at*;go_quiet(fail);go_wp2;go_meet;exact⟨by rw[cD (Int.not_lt.2 Z)],Y.on (br (Below.refl _ _) _)⟩
  case rest=>
    obtain⟨rfl,I⟩:=hcut;generalize wc=m at*;clear Y X0 X1 g;have h1:=N.out.me.t1;have h2:=N.out.me.t2;obtain⟨M,W,-,-⟩:=j7.1 N.out.Mu;have hr:L.length*16≤140737488351232:=by have:= N.out.iv;omega
    have an:=pL (x.1-p.t) L;have n:=I.lt;have J:w.heap.size+2≤m.heap.size:=n;obtain⟨i0,hi,T,S,Q⟩:=info_parts pQ;go_upto_region 12 with fail;go_cut[11]from 50 to 57 (fun v wc=>wc.ownsRow (w.heap.size+2) 132 2 v (out p L x).length (flat (out p L x))∧Below (w.heap.size +2) m wc)
    case first=>
      obtain⟨P0,P1,P2⟩:=oy I.me;obtain⟨X0,X1⟩:=gK I.use;have a7:=I.oz;have F:=I.use;have U:w.heap.size<m.heap.size:=by omega
      have Q0:∀o,(m.alloc o).cell? ⟨w.heap.size,0,none⟩=some (.int .i64 p.t):=fun o=>(aY _ _ _ U).trans P0;have Q1:∀o,(m.alloc o).cell? ⟨w.heap.size,1,none⟩=some (.int .i64 p.c):=fun o=>(aY _ _ _ U).trans P1;have Q2:∀o,(m.alloc o).cell? ⟨w.heap.size,2,none⟩=some (.int .i64 p.s):=fun o=>(aY _ _ _ U).trans P2;have Z0:∀o,(m.alloc o).cell? ⟨w.heap.size+1,0,none⟩=some (.int .i64 x.1):=fun o=>(aY _ _ _ n).trans X0;have Z1:∀o,(m.alloc o).cell? ⟨w.heap.size+1,1,none⟩=some (.int .i64 x.2):=fun o=>(aY _ _ _ n).trans X1;clear I;go_region_law (first
        |(rw[aB (by simp[Region.wanted])];go_simp;go_at_call 107;refine(ql p a cap L x.1 _ ?_ h1 h2 M W hr).mono ?_;exact a7.below ((Below.refl _ _).drew);rintro e w2 ⟨v,rfl,d,C⟩;have h:=qk (aj _) C;have aa:=(h.block _ n).trans F;obtain⟨Y0,Y1⟩:=gK aa;have V:=h.size;clear C)
        |(rw[aB (by simp[Region.wanted])];go_simp;go_at_call 107;refine(ql p a cap L x.1 _ ?_ h1 h2 M W hr).mono ?_;exact a7.below (((Below.refl _ _).alloc (aj _) _).drew);rintro e w2 ⟨v,rfl,d,C⟩;have h:=nJ (aj _) C;have am:=nL C;have V:=h.size;have d:=iC d (base':=m.heap.size) (by show _≤(m.heap.push _).size;simp);clear C)
        |(refine jH rfl (.tmp 54) (.tmp 56) 64 rfl m.heap.size 132 i0 (.agg #[.int .i64 0,.int .i64 0]) 2 16 underlying64 hi T S Q rfl (by decide) v _ _ (by simp[Act.eval]) (d.alloc _) ⟨w2.heap.size,0,none⟩ 1 1 [.int .i64 x.1,.int .i64 x.2] (by simp[Act.eval]) rfl (p_ (ah _ _ _ rfl)) (by intro u D;simp at D;rcases D with rfl|rfl<;>rfl) (by unfold maxLen;omega) (by omega) (by simp;omega) ?_;intro v' P z j;have B:Below m.heap.size m P:=(h.alloc h.size _).grown j (by simp;omega) (gR d);clear j d h)
        |(refine jH rfl (.tmp 54) (.tmp 56) 64 rfl m.heap.size 132 i0 (.agg #[.int .i64 0,.int .i64 0]) 2 16 underlying64 hi T S Q rfl (by decide) v _ _ (by simp[Act.eval]) d ⟨m.heap.size,0,none⟩ 1 1 [.int .i64 x.1,.int .i64 x.2] (by simp[Act.eval]) rfl (p_ am) (by intro u D;simp at D;rcases D with rfl|rfl<;>rfl) (by unfold maxLen;omega) (by omega) V ?_;intro v' P z j;have B:Below m.heap.size m P:=h.grown j V (gR d);clear j d h));all_goals(go_wp2_with fail;go_meet;exact⟨Dw z J,B.mono J⟩)
    case rest=>
      obtain⟨d,C⟩:=hcut;obtain⟨a6,a9,rfl,bd,bc,aw⟩:=jk d;have HO:=aW d;have ak:=(C.block _ (by omega)).trans I.me;have b6:=C.size;have X:Below w.heap.size w wc:=I.bel.trans (C.mono (by omega));have K:=xO N.out;have b5:=DJ N.out;obtain⟨-,-,c1,c2,s1,s2⟩:=N.out.me;generalize gU p L x=R at*;generalize out p L x=O at*;clear d C an hr h1 h2 M W N I hi T S Q;generalize wc=w6 at*;obtain⟨hm,E⟩:=aw;unfold maxLen at hm;have HA:=aW K;clear K;go_wp2;go_loopw[12,60] (fun t i wr=>∃k:Nat,k≤O.length∧i=.int .i64 k∧t=.int .i64 (fP (O.take k))∧Below w6.heap.size w6 wr) (fun _ i _=>O.length-(intOf i).toNat);case atStart=>exact⟨0,bq _,rfl,by simp[fP],Below.refl _ _⟩
      case round=>
        obtain⟨k,hk,rfl,rfl,l⟩:=hrel;have af:=l.size;by_cases G:k<O.length
        · rcases E with rfl|⟨b,off,rfl,H,f⟩;·simp at G
          obtain⟨e1,e2⟩:=f k G;have b4:(k:Int)<O.length:=by omega
          have e1:=(l.cell (p:=⟨b,off+k*2,none⟩) H).trans e1;have e2:=(l.cell (p:=⟨b,off+k*2+1,none⟩) H).trans e2;have hx:=j7.1 (HA.out _ (gM G));have ht:=sI (A:=O.take k) fun u D=>HA.out u (eE D);have a3:=List.length_take_le k O;have ay:Hid (fP (O.take (k +1))=fP (O.take k)+(O.getD k (0,0)).2):=aW (by rw[gh G,yE]);obtain⟨-,-,x1,x2⟩:=hx;clear f;generalize O.getD k (0,0)=y at*;have t1:0≤fP (O.take k):=ht.1;have t2:fP (O.take k)≤1000000000:=by omega
          clear ht a3;generalize fP (O.take k)=t at*;go_wp2;go_roundw;case rel=>exact⟨k+1,by omega,by go_num,by rw[ay.out],l.alloc af _⟩
          case measure=>simp[intOf];omega
        · have ao:k=O.length:=by omega
          have Hk:Hid (fP (O.take k)=fP O):=aW (by rw[ao,fc]);obtain⟨P0,P1,P2⟩:=oy ((l.block _ (by omega)).trans ak);by_cases Z:p.c<O.length;· have HR:=aW (H1.out (Or.inl Z));generalize fP (O.take k)=t at*;go_wp2;go_ret2;unfold fG;rw[HR.out];exact⟨.slice none 0 0,rfl,d_ _ _ _ _,X.trans (l.mono (by omega))⟩
          · by_cases a1:p.s<fP (O.take k)
            · have HR:=aW (H1.out (Or.inr (by rw[←Hk.out];exact a1)));generalize fP (O.take k)=t at*;have ag:(O.length :Int)≤p.c:=by omega
              clear Z;go_wp2;go_ret2;unfold fG;rw[HR.out];exact⟨.slice none 0 0,rfl,d_ _ _ _ _,X.trans (l.mono (by omega))⟩
            · have HR:=aW (H2.out (by rw[←Hk.out];omega));generalize fP (O.take k)=t at*;have ag:(O.length :Int)≤p.c:=by omega
              have b0:t≤p.s:=by omega
              clear Z a1;go_wp2;go_ret2;unfold fG;rw[HR.out];exact⟨.slice a6 O.length a9,rfl,iC (ly HO.out l) (by omega),X.trans (l.mono (by omega))⟩
theorem Bw(p:Pa)(a:Option Addr)(cap:Nat)(L:List (Int ×Int))(x:Int×Int)(w:World)(b:ff w a L):Calls prog 83 #[pv p,.slice a L.length cap,uv x] w (fG w (gU p L x)):=by
 by_cases h1:cf p=0
 ·by_cases h2:(cP L).1=0
  ·cases c:mT x with
   |true=>exact yT p a cap L x w b h1 h2 c
   |false=>exact Hd p a cap L x w b h1 h2 c
  ·exact ze p a cap L x w b h1 h2
 ·exact AA p a cap L x w h1
