import Derived.Test.YtigiogjefnkpdaaGreatDoorKax
set_option maxHeartbeats 4000000
set_option maxRecDepth 100000
open Go.Proofs.Tryz
namespace Go.Proofs.YtigiogjefnkpdaaGreatDoor
open RowKit
def fG(w:World)(r:List (Int×Int)×Int)(e:Ending)(a:World):Prop:=∃v,e=.returned (.tuple #[v,.int .i64 r.2])∧a.ownsRow w.heap.size 132 2 v r.1.length (flat r.1)∧Below w.heap.size w a
theorem fG.read{w b:World}{r:List (Int×Int)×Int}{e:Ending}(h:fG w r e b):∃a cap,e=.returned (.tuple #[.slice a r.1.length cap,.int .i64 r.2])∧ff b a r.1∧Below w.heap.size w b:=by obtain⟨v,d,c,f⟩:=h;obtain⟨a,cap,rfl,-,-,g⟩:=jk c;exact⟨a,cap,d,g,f⟩
theorem Kj(p:Pa)(a:Option Addr)(cap:Nat)(L:List (Int ×Int))(x:Int×Int)(w:World)(h:ff w a L)(b:dp p L x≠0):Calls prog 117 #[pv p,.slice a L.length cap,uv x] w (fG w (gU p L x)):=by
 have j:=aW (px b);have g:(dp p L x !=0)=true:=by simpa using b
 have d:∀o f,ff ((w.alloc o).alloc f) a L:=fun o f=>h.below (((Below.refl _ _).alloc (aj _) _).alloc (by simp) _);clear b;unfold pv uv;go_enter func117,ntmps117;go_wp2_with fail;refine(sr p a cap L x _ (d _ _)).mono ?_;rintro e k ⟨rfl,c⟩;obtain⟨i,-,-,-⟩:=boxes c;generalize dp p L x=r at*;go_wp2;go_ret2;unfold fG;rw[j.out];exact⟨.slice none 0 0,rfl,d_ _ _ _ _,i⟩
theorem jH{P:Program}{ops:Array Oper}{o:Oper}{a:Act}{w:World}{K:Act→World→Prop}{Q:Exit→Act→World→Prop}{E:Prop}(H:o.guard=none)(s x:Operand)(t:TypeId)(r:o.op=Op.call {callee:=Callee.builtin Builtin.append,args:=#[s,x],argTypes:=#[t,t]})(aq:Nat)(e:TypeId)(i:TypeInfo)(z:Value)(size bytes:Nat)(D:P.underlying t=some (.slice e))(hi:P.info? e=some i)(B:i.zero=some z)(f:i.size=size)(y:i.bytes=bytes)(p:z.cells.size=size)(q:0<size)(v:Value)(n:Nat)(xs:List Value)(F:a.eval s=v)(l:w.ownsRow aq e size v n xs)(ad:Addr)(m c:Nat)(b:List Value)(C:a.eval x=.slice (some ad) m c)(G:b.length=m*size)(g:∀j u,b[j]?=some u→w.cell? (ad.add j)=some u)(h1:∀u∈b,u.oneCell'=true)(A:n+m≤maxLen)(d:(n+m)*bytes≤140737488355328)(h:aq≤w.heap.size)(I:∀v' k,k.ownsRow aq e size v' (n +m) (xs++b)→w.grownBy k v.ownBlock→K (a.put o.dst v') k):if Region.wanted o (yielded ops a.tmps)=true then Oper.wp P o a w K Q else E:=by rw[aB (show Region.wanted o (yielded ops a.tmps)=true by simp[Region.wanted,H])];exact wp_append_own w s x t r aq e i z size bytes D hi B f y p q v n xs F l ad m c b C G g h1 A d h fun v' k h2 J _=>I v' k h2 J
theorem p_{w:World}{b:Nat}{x:Int×Int}(h:w.heap[b]?=some (.cells #[.int .i64 x.1,.int .i64 x.2] 132)):∀j u,[Value.int .i64 x.1,Value.int .i64 x.2][j]?=some u→w.cell? ((⟨b,0,none⟩:Addr).add j)=some u:=by
 intro j u a
 match j,a with
 |0,a=>simp at a;subst a;simp[Addr.add,World.cell?,h]
 |1,a=>simp at a;subst a;simp[Addr.add,World.cell?,h]
 |j+2,a=>simp at a
theorem Dw{w:World}{aq base':Nat}{v:Value}{p:Pa}{L:List (Int×Int)}{x:Int×Int}(h:w.ownsRow aq 132 2 v ((gW (x.1-p.t) L).length+1) (flat (gW (x.1-p.t) L)++[Value.int .i64 x.1,Value.int .i64 x.2]))(a:base'≤aq):w.ownsRow base' 132 2 v (out p L x).length (flat (out p L x)):=by unfold out;rw[mu,a_];exact iC h a
theorem qk{B:Nat}{w w2:World}(b:B≤w.heap.size)(a:Below w.drew.heap.size w.drew w2):Below B w w2:=((Below.refl B w).drew).trans (a.mono b)
theorem nJ{B:Nat}{w w2:World}{o:Obj}(b:B≤w.heap.size)(a:Below (w.alloc o).drew.heap.size (w.alloc o).drew w2):Below B w w2:=by
 have c:(w.alloc o).drew.heap.size=w.heap.size+1:=by show(w.heap.push o).size=_;simp
 exact(((Below.refl B w).alloc b o).drew).trans (a.mono (by omega))
theorem nL{w w2:World}{o:Obj}(a:Below (w.alloc o).drew.heap.size (w.alloc o).drew w2):w2.heap[w.heap.size]?=some o:=by rw[a.block _ (by show _<(w.heap.push o).size;simp)];exact ah w o _ rfl
theorem vV{p:Pa}{L:List (Int ×Int)}{x:Int×Int}(h:dp p L x=0)(h2:p.c<(out p L x).length∨p.s<fP (out p L x)):gU p L x=([],11):=by unfold gU;rw[ai (by simpa using h),aB h2]
theorem DE{p:Pa}{L:List (Int×Int)}{x:Int×Int}(h:dp p L x=0)(h2:¬(p.c<(out p L x).length∨p.s<fP (out p L x))):gU p L x=(out p L x,0):=by unfold gU;rw[ai (by simpa using h),ai h2]
def KK(p:Pa)(O:List (Int ×Int))(k:Nat):Prop:=0<k→(k :Int)≤p.c∧fP (O.take k)≤p.s
theorem AM{p:Pa}{O:List (Int×Int)}(a:∀u∈O,mT u=true){k:Nat}(b:k<O.length)(h:¬((k:Int)+1≤p.c∧fP (O.take (k +1))≤p.s)):p.c<O.length∨p.s<fP O:=by have:= AD a (k+1);omega
theorem GU(p:Pa)(a:Option Addr)(cap:Nat)(L:List (Int×Int))(x:Int×Int)(w:World)(hL:ff w a L)(hw:dp p L x=0):Calls prog 117 #[pv p,.slice a L.length cap,uv x] w (fG w (gU p L x)):=by
  have b4:(dp p L x !=0)=false:=by simpa using hw
  have a3:∀o o',ff ((w.alloc o).alloc o') a L:=fun o o'=>hL.below (((Below.refl _ _).alloc (aj _) _).alloc (by simp) _);have Z:=aW (po hw);have H1:=aW (vV hw);have H2:=aW (DE hw);clear hw;unfold pv uv;go_enter func117,ntmps117;go_wp2_with fail;refine(sr p a cap L x _ (a3 _ _)).mono ?_;rintro e j ⟨rfl,a2⟩;obtain⟨bb,C,T,M⟩:=boxes a2;generalize dp p L x=r at*;have W:=hL.below bb;have h1:=Z.out.me.t1;have h2:=Z.out.me.t2;obtain⟨h3,h4,-,-⟩:=j7.1 Z.out.Mu;have hr:L.length*16≤140737488351232:=by have :=Z.out.iv;omega
  have af:=pL (x.1-p.t) L;have F:w.heap.size+2≤j.heap.size:=C;obtain⟨i0,hi,K,J,I⟩:=info_parts pQ;clear a2 a3 hL;go_upto_region 4 with fail;go_cut[9]from 20 to 27 (fun v wc=>wc.ownsRow (w.heap.size+2) 132 2 v (out p L x).length (flat (out p L x))∧Below (w.heap.size +2) j wc)
  case first=>
    obtain⟨P0,P1,P2⟩:=oy T;obtain⟨X0,X1⟩:=gK M;have N:w.heap.size<j.heap.size:=by omega
    have Q0:∀o,(j.alloc o).cell? ⟨w.heap.size,0,none⟩=some (.int .i64 p.t):=fun o=>(aY _ _ _ N).trans P0;have Q1:∀o,(j.alloc o).cell? ⟨w.heap.size,1,none⟩=some (.int .i64 p.c):=fun o=>(aY _ _ _ N).trans P1;have Q2:∀o,(j.alloc o).cell? ⟨w.heap.size,2,none⟩=some (.int .i64 p.s):=fun o=>(aY _ _ _ N).trans P2;have Z0:∀o,(j.alloc o).cell? ⟨w.heap.size+1,0,none⟩=some (.int .i64 x.1):=fun o=>(aY _ _ _ C).trans X0;have Z1:∀o,(j.alloc o).cell? ⟨w.heap.size+1,1,none⟩=some (.int .i64 x.2):=fun o=>(aY _ _ _ C).trans X1;go_region_law (first
      |(rw[aB (by simp[Region.wanted])];go_simp;go_at_call 134;refine(uk p a cap L x.1 _ ?_ h1 h2 h3 h4 hr).mono ?_;exact W.below ((Below.refl _ _).drew);rintro e w2 ⟨v,rfl,d,B⟩;have g:=qk (aj _) B;have a7:=(g.block _ C).trans M;obtain⟨Y0,Y1⟩:=gK a7;have Q:=g.size;clear B)
      |(rw[aB (by simp[Region.wanted])];go_simp;go_at_call 134;refine(uk p a cap L x.1 _ ?_ h1 h2 h3 h4 hr).mono ?_;exact W.below (((Below.refl _ _).alloc (aj _) _).drew);rintro e w2 ⟨v,rfl,d,B⟩;have g:=nJ (aj _) B;have a9:=nL B;have Q:=g.size;have d:=iC d (base':=j.heap.size) (by show _≤(j.heap.push _).size;simp);clear B)
      |(refine jH rfl (.tmp 24) (.tmp 26) 64 rfl j.heap.size 132 i0 (.agg #[.int .i64 0,.int .i64 0]) 2 16 underlying64 hi K J I rfl (by decide) v _ _ (by simp[Act.eval]) (d.alloc _) ⟨w2.heap.size,0,none⟩ 1 1 [.int .i64 x.1,.int .i64 x.2] (by simp[Act.eval]) rfl (p_ (ah _ _ _ rfl)) (by intro u P;simp at P;rcases P with rfl|rfl<;>rfl) (by unfold maxLen;omega) (by omega) (by simp;omega) ?_;intro v' w3 n f;have m:Below j.heap.size j w3:=(g.alloc g.size _).grown f (by simp;omega) (gR d);clear f d g)
      |(refine jH rfl (.tmp 24) (.tmp 26) 64 rfl j.heap.size 132 i0 (.agg #[.int .i64 0,.int .i64 0]) 2 16 underlying64 hi K J I rfl (by decide) v _ _ (by simp[Act.eval]) d ⟨j.heap.size,0,none⟩ 1 1 [.int .i64 x.1,.int .i64 x.2] (by simp[Act.eval]) rfl (p_ a9) (by intro u P;simp at P;rcases P with rfl|rfl<;>rfl) (by unfold maxLen;omega) (by omega) Q ?_;intro v' w3 n f;have m:Below j.heap.size j w3:=g.grown f Q (gR d);clear f d g));all_goals(go_wp2_with fail;go_meet;exact⟨Dw n F,m.mono F⟩)
  case rest=>
    obtain⟨d,B⟩:=hcut;obtain⟨a5,a4,rfl,b6,b5,am⟩:=jk d;have HO:=aW d;obtain⟨P0,P1,P2⟩:=oy ((B.block _ (by omega)).trans T);have b0:=B.size;have a6:Below w.heap.size w wc:=bb.trans (B.mono (by omega));have H:=xO Z.out;have aw:=DJ Z.out;have an:0<(out p L x).length:=by simp[out]
    generalize gU p L x=R at*;generalize out p L x=O at*;clear d B af hr h1 h2 h3 h4 Z W T M bb hi K J I;go_wp2_with fail;refine(FD p _).mono ?_;rintro e w3 ⟨rfl,hM,m⟩;obtain⟨hm,hE⟩:=am;unfold maxLen at hm;have b3:=hM.lt;clear P0 P1 P2;have HA:=aW H;clear H;go_wp2;go_loopw[32] (fun i wr=>∃k:Nat,k≤O.length∧i=.int .i64 k∧pd wr wc.heap.size p k (fP (O.take k))∧Below wc.heap.size w3 wr∧Hid (KK p O k)) (fun i _=>O.length-(intOf i).toNat);case atStart=>exact⟨0,bq _,rfl,by simpa[fP]using hM,Below.refl _ _,fun h=>absurd h (Nat.lt_irrefl _)⟩
    case round=>
      obtain⟨k,hk,rfl,E,l,hW⟩:=hrel;have ay:=l.size;have aa:=E.lt;by_cases q:k<O.length
      · rcases hE with rfl|⟨b,off,rfl,D,z⟩;·simp at q
        obtain⟨c1,c2⟩:=z k q;have ao:(k:Int)<O.length:=by omega
        have e1:=(l.cell (p:=⟨b,off+k*2,none⟩) D).trans ((m.cell (p:=⟨b,off+k*2,none⟩) D).trans c1);have e2:=(l.cell (p:=⟨b,off+k*2+1,none⟩) D).trans ((m.cell (p:=⟨b,off+k*2+1,none⟩) D).trans c2);have hx:=j7.1 (HA.out _ (gM q));have ht:=sI (A:=O.take k) fun u P=>HA.out u (eE P);have a1:=List.length_take_le k O;have Y:=aW (AM (p:=p) HA.out q);have X:Hid (fP (O.take (k +1))=fP (O.take k)+(O.getD k (0,0)).2):=aW (by rw[gh q,yE]);obtain⟨-,-,x1,x2⟩:=hx;clear c1 c2 z;generalize O.getD k (0,0)=y at*;have t1:0≤fP (O.take k):=ht.1;have t2:fP (O.take k)≤1000000000:=by omega
        clear ht a1;have V:∀o,pd (wr.alloc o) wc.heap.size p k (fP (O.take k)):=fun o=>E.below ((Below.refl wr.heap.size wr).alloc (aj _) o) aa;go_wp2_with fail;refine(Be y wc.heap.size p k (fP (O.take k)) _ (V _) (by omega) (by omega) t1 t2 x1 x2).mono ?_;rintro e w4 ⟨rfl,ak,U⟩;have G:Below wc.heap.size w3 w4:=l.trans (((Below.refl _ _).alloc (by omega) _).trans U);by_cases S:(k :Int)+1≤p.c∧fP (O.take k)+y.2≤p.s
        · have hd:(decide ((k :Int)+1≤p.c)&&decide (fP (O.take k)+y.2≤p.s))=true:=by simp[S.1,S.2]
          rw[hd];have Hq:=aW S;clear S hd V E l U Y;go_wp2;go_roundw;case rel=>exact⟨k+1,by omega,by go_num,by rw[X.out];exact ak,G,fun _=>⟨by have:= Hq.out.1;omega,by rw[X.out];exact Hq.out.2⟩⟩
          case measure=>simp[intOf];omega
        · have hd:(decide ((k :Int)+1≤p.c)&&decide (fP (O.take k)+y.2≤p.s))=false:=by
            by_cases h1:(k :Int)+1≤p.c
            · by_cases h2:fP (O.take k)+y.2≤p.s;·exact absurd ⟨h1,h2⟩ S
              ·simp[h2]
            ·simp[h1]
          rw[hd];have HR:=aW (H1.out (Y.out (by rw[X.out];exact S)));clear S hd V E l U Y;go_wp2;go_ret2;unfold fG;rw[HR.out];exact⟨.slice none 0 0,rfl,d_ _ _ _ _,a6.trans ((m.trans G).mono (by omega))⟩
      · have ag:k=O.length:=by omega
        have HR:=aW (H2.out (by have:= hW.out (by omega);rw[ag,fc]at this;omega));clear hW;go_wp2;go_ret2;unfold fG;rw[HR.out];exact⟨.slice a5 O.length a4,rfl,iC (ly HO.out (m.trans l)) (by omega),a6.trans ((m.trans l).mono (by omega))⟩
theorem tR(p:Pa)(a:Option Addr)(cap:Nat)(L:List (Int×Int))(x:Int×Int)(w:World)(b:ff w a L):Calls prog 117 #[pv p,.slice a L.length cap,uv x] w (fG w (gU p L x)):=by
 by_cases h:dp p L x=0;·exact GU p a cap L x w b h
 ·exact Kj p a cap L x w b h
