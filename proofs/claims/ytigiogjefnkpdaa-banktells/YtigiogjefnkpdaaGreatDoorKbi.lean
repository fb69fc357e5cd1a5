import Derived.Test.YtigiogjefnkpdaaGreatDoorKbh
set_option maxHeartbeats 4000000
set_option maxRecDepth 100000
open Go.Proofs.Tryz
namespace Go.Proofs.YtigiogjefnkpdaaGreatDoor.Bn
open RowKit Gn
structure Dz(X:World)(l:bI)(z:Nat)(d:Dd):Prop where
 db:X.heap[z]?=some (dR d)dl:l z=0
theorem Dz.on{X Y:World}{l a:bI}{z:Nat}{d:Dd}(h:Dz X l z d)(b:ir X l Y a):Dz Y a z d:=⟨b.at h.db h.dl,b.zero (ae h.db) h.dl⟩
theorem Dz.drew{X:World}{l:bI}{z:Nat}{d:Dd}(h:Dz X l z d):Dz X.drew l z d:=⟨h.db,h.dl⟩
structure Az(X:World)(l:bI)(z:Nat)(a:Au.Au):Prop where
 ab:X.heap[z]?=some (iA a)al:l z=0
theorem Az.on{X Y:World}{l b:bI}{z:Nat}{a:Au.Au}(h:Az X l z a)(c:ir X l Y b):Az Y b z a:=⟨c.at h.ab h.al,c.zero (ae h.ab) h.al⟩
theorem Az.drew{X:World}{l:bI}{z:Nat}{a:Au.Au}(h:Az X l z a):Az X.drew l z a:=⟨h.ab,h.al⟩
theorem yp{W:World}{z:Nat}{x a:Au.Au}(h:W.heap[z]?=some (iA x)):(((((((W.setCell ⟨z,0,none⟩ (.int .i64 a.aK)).setCell ⟨z,1,none⟩ (.int .i64 a.aQ)).setCell ⟨z,2,none⟩ (.int .i64 a.sum)).setCell ⟨z,3,none⟩ (.int .i64 a.cap)).setCell ⟨z,4,none⟩ (.int .i64 a.ref)).setCell ⟨z,5,none⟩ (.int .i64 a.eB)).setCell ⟨z,6,none⟩ (.int .i64 a.cJ)).setCell ⟨z,7,none⟩ (.bool a.shut)|>.heap[z]?=some (iA a):=by unfold iA at h⊢;have h0:=aZ W z 0 _ _ (.int .i64 a.aK) h;have h1:=aZ _ z 1 _ _ (.int .i64 a.aQ) h0;have h2:=aZ _ z 2 _ _ (.int .i64 a.sum) h1;have f:=aZ _ z 3 _ _ (.int .i64 a.cap) h2;have e:=aZ _ z 4 _ _ (.int .i64 a.ref) f;have d:=aZ _ z 5 _ _ (.int .i64 a.eB) e;have c:=aZ _ z 6 _ _ (.int .i64 a.cJ) d;have b:=aZ _ z 7 _ _ (.bool a.shut) c;rw[b];simp
theorem mi(b:aJ)(n h m:Int):(cN b n h m).1.aL.length=b.aL.length∧(cN b n h m).1.due=b.due∧(cN b n h m).1.bt=b.bt:=by
 unfold cN;split;·exact⟨rfl,rfl,rfl⟩
 ·exact⟨by simp,rfl,rfl⟩
theorem oK(b:aJ)(x y z:Int):(b9 b x y z).1.bt=b.bt:=by unfold b9;split<;>rfl
theorem qF(b:aJ)(i:Bool)(t:Po.Tr):(fM b i t).1.bt=b.bt:=by unfold fM;split<;>rfl
theorem tL(b:aJ)(n x y:Int):(eU b n x y).1.bt=b.bt:=by unfold eU kx;dsimp only;rw[oK];exact(mi _ _ _ _).2.2
theorem nG(b:aJ)(n x y:Int):(df b n x y).1.bt=b.bt:=by unfold df kx;dsimp only;rw[oK];exact(mi _ _ _ _).2.2
theorem sT(b:aJ)(n x y:Int):(dH b n x y).1.bt=b.bt:=by unfold dH;rw[oK];rfl
theorem y9(b:aJ)(a:Au.Au)(d:Dd):(eM b a d).1.bt=b.bt:=by
 unfold eM;repeat' split
 ·unfold kx;dsimp only;rw[qF];exact nG _ _ _ _
 ·unfold kx;dsimp only;rw[qF];exact sT _ _ _ _
 ·exact tL _ _ _ _
 ·exact qF _ _ _
 ·exact nG _ _ _ _
 ·rfl
theorem vD(b:aJ)(n:Int)(a:Au.Au):(dL b n a).1.aL.length=b.aL.length∧(dL b n a).1.due=b.due∧(dL b n a).1.bt=b.bt:=mi _ _ _ _
structure D6(w:World)(z:Nat)(id kind n aQ mv sum:Int):Prop where
 c0:w.cell? ⟨z,0,none⟩=some (.int .i64 id)c1:w.cell? ⟨z,1,none⟩=some (.int .i64 kind)c2:w.cell? ⟨z,2,none⟩=some (.int .i64 n)c3:w.cell? ⟨z,3,none⟩=some (.int .i64 aQ)c4:w.cell? ⟨z,4,none⟩=some (.int .i64 mv)c5:w.cell? ⟨z,5,none⟩=some (.int .i64 sum)
theorem D6.all{w:World}{z:Nat}{id kind n aQ mv sum:Int}(h:D6 w z id kind n aQ mv sum):w.cell? ⟨z,0,none⟩=some (.int .i64 id)∧w.cell? ⟨z,1,none⟩=some (.int .i64 kind)∧w.cell? ⟨z,2,none⟩=some (.int .i64 n)∧w.cell? ⟨z,3,none⟩=some (.int .i64 aQ)∧w.cell? ⟨z,4,none⟩=some (.int .i64 mv)∧w.cell? ⟨z,5,none⟩=some (.int .i64 sum):=⟨h.c0,h.c1,h.c2,h.c3,h.c4,h.c5⟩
theorem kh{w:World}{z:Nat}{id kind n aQ mv sum:Int}(h:w.heap[z]?=some (dR ⟨id,kind,n,aQ,mv,sum⟩)):D6 w z id kind n aQ mv sum:=by obtain⟨h0,h1,h2,c,b,a⟩:=bs h;exact⟨h0,h1,h2,c,b,a⟩
structure KC(b:aJ)(d:Dd):Prop where
 iv:b.bt.length≤100
 ax:∀k:Nat,k<b.ax.length→Au.b_ (b.ax.getD k zA)=0∧(b.ax.getD k zA).aK<b.aL.length∧(b.ax.getD k zA).aQ<b.due.length
 c8:b.aL.length≤8
 d8:b.due.length≤8
 rp:∀k:Nat,k<b.aL.length→-1000000000000≤(b.aL.getD k b7).m∧(b.aL.getD k b7).m≤1000000000000∧0≤(b.aL.getD k b7).h∧(b.aL.getD k b7).h≤1000000000000
 due:∀k:Nat,k<b.due.length→-1000000000000≤b.due.getD k 0∧b.due.getD k 0≤1000000000000
 Mn:b.ax.length≤1000
theorem Hf(g aq:Nat)(aI:bI)(b:aJ)(tm:Value)(d:Dd)(w:World)(h:cC w g aq aI b tm)(O:KC b d)(cb:b.down=false)(k:Nat)(hk:d.n=k)(ao:k<b.ax.length)(he:Au.ez (b.ax.getD k zA) d.mv d.sum=0)(V:¬(d.mv=1∧(b.aK (b.ax.getD k zA).aK).m-(b.aK (b.ax.getD k zA).aK).h<d.sum)):Calls prog 37 #[.pointer (some ⟨g,0,none⟩),gn d] w (cT w g aq aI tm (KU b d (Au.step (b.ax.getD k zA) d.mv d.sum))):=by
 obtain⟨v,cs,ds,H⟩:=h.hand;have may:=Au.iB.1 he;obtain⟨s1,s2,s3,s4,-⟩:=mz may;obtain⟨o1,o2,o3⟩:=O.ax k ao;have a4:Au.b_ (Au.step (b.ax.getD k zA) d.mv d.sum)=0:=Au.dX.2 ⟨s1,s2⟩;have bf:=Au.uy he;have hM:∀X:World,Calls prog 64 #[Au.av (b.ax.getD k zA),.int .i64 d.mv,.int .i64 d.sum] X fun e C=>e=.returned (.tuple #[Au.av (Au.step (b.ax.getD k zA) d.mv d.sum),.int .i64 0])∧Below X.heap.size X C:=fun X=>by have :=Au.uj (b.ax.getD k zA) d.mv d.sum X;rw[bf]at this;exact this
 have af:=ar w (dR d);obtain⟨W,ay⟩:∃W,Hid (W=w.alloc (dR d)):=⟨_,rfl⟩;rw[←ay.out]at af;have H1:=H.below af;have S1:=aG (aI:=aI) af;have D1:Dz W (aT aI w.heap.size 0) w.heap.size d:=⟨by rw[ay.out];exact ah _ _ _ rfl,bu (aj _)⟩;obtain⟨d0,d1,d2,d3,d4,d5⟩:=bs D1.db;obtain⟨ga,cap,A⟩:=H1.mem.jy ao;obtain⟨-,c1,-,-,c4,-⟩:=aU H1.bR;rw[A.val]at c4;rw[cb]at c1;have du:(k :Int)<b.ax.length:=by omega
 have dt:k≤1000:=by have:= O.Mn;omega
 obtain⟨id,kind,n,aQ,mv,sum⟩:=d;dsimp only at*;subst hk;obtain⟨x,hx⟩:∃x,Hid (x =b.ax.getD k zA):=⟨_,rfl⟩;obtain⟨y,hy⟩:∃y,Hid (y =Au.step (b.ax.getD k zA) mv sum):=⟨_,rfl⟩;have A8:=A.cells;rw[←hx.out]at A8;rw[←hy.out,←hx.out]at hM;rw[←hy.out]at a4;rw[←hy.out];rw[←hy.out,←hx.out]at s3 s4;replace s3:=aW s3;replace s4:=aW s4;unfold Au.av at hM;have c9:=ae H1.bR;have am:=ae D1.db;have cB:∀X:World,Below W.heap.size W X→(X.cell? ⟨g,4,none⟩=some (.slice (some ⟨ga,0,none⟩) b.ax.length cap))∧nX X ga (k *8) x∧X.cell? ⟨w.heap.size,2,none⟩=some (.int .i64 k)∧X.cell? ⟨w.heap.size,4,none⟩=some (.int .i64 mv)∧X.cell? ⟨w.heap.size,5,none⟩=some (.int .i64 sum):=fun X hX=>
  ⟨(hX.cell (p:=⟨g,4,none⟩) c9).trans c4,A8.on (hX.block _ A.lt),(hX.cell (p:=⟨w.heap.size,2,none⟩) am).trans d2,(hX.cell (p:=⟨w.heap.size,4,none⟩) am).trans d4,(hX.cell (p:=⟨w.heap.size,5,none⟩) am).trans d5⟩;unfold gn;have a2:=ay;unfold dR at a2;dsimp only at a2;have g1:decide ((k :Int)<0)=false:=cD (by omega);have g2:decide ((b.ax.length :Int)≤(k:Int))=false:=cD (by omega);have ea:¬((k:Int)<0):=by omega
 have e9:¬((b.ax.length:Int)≤(k:Int)):=by omega
 go_enter func37,ntmps37;go_upto_region 1 with fail;rw[←a2.out];go_upto_region 3 with fail;go_quiet(fail);have D:=br (Below.refl W.heap.size W) nq;generalize W.drewN nq=R at*;go_upto_region 5 with fail;go_cut[5,6]from 26 to 42 (fun p q wc=>∃Z,p=.pointer (some ⟨Z,0,none⟩)∧q=.int .i64 0∧W.heap.size≤Z∧wc.heap[Z]?=some (iA y)∧Below W.heap.size W wc)
 case first=>
  refine bm (S:=(fun X=>X.cell? ⟨g,4,none⟩=some (.slice (some ⟨ga,0,none⟩) b.ax.length cap)∧nX X ga (k*8) x∧X.cell? ⟨w.heap.size,2,none⟩=some (.int .i64 k)∧X.cell? ⟨w.heap.size,4,none⟩=some (.int .i64 mv)∧X.cell? ⟨w.heap.size,5,none⟩=some (.int .i64 sum))) (by kernel_rfl) (cB _ D.drew) (fun i=>?_);refine tj 0 (.pointer (some ⟨g,0,none⟩)) i ?_;refine tj 1 (.pointer (some ⟨g,0,none⟩)) i ?_;refine tj 2 (.pointer (some ⟨g,0,none⟩)) i ?_;refine tj 3 (.pointer (some ⟨g,4,none⟩)) i ?_;try simp only[aH,aD,aE,Act.put,az,aO,aN]
  refine tk 4 (.slice (some ⟨ga,0,none⟩) b.ax.length cap) i ?_ ?_;·intro C f;obtain⟨C4,z,E2,E4,E5⟩:=f;obtain⟨L,J,I,G,F,E,Q,P⟩:=z.all;go_simp
  refine tj 5 (.pointer (some ⟨w.heap.size,2,none⟩)) i ?_;refine tk 6 (.int .i64 (k :Int)) i ?_ ?_;·intro C f;obtain⟨C4,z,E2,E4,E5⟩:=f;obtain⟨L,J,I,G,F,E,Q,P⟩:=z.all;go_simp
  refine tj 7 (.pointer (some ⟨ga,k*8,none⟩)) i ?_;try simp only[aH,aD,aE,Act.put,az,aO,aN]
  refine tk 8 (.agg #[.int .i64 x.aK,.int .i64 x.aQ,.int .i64 x.sum,.int .i64 x.cap,.int .i64 x.ref,.int .i64 x.eB,.int .i64 x.cJ,.bool x.shut]) i ?_ ?_;·intro C f;obtain⟨C4,z,E2,E4,E5⟩:=f;obtain⟨L,J,I,G,F,E,Q,P⟩:=z.all;go_simp
  refine tj 9 (.pointer (some ⟨w.heap.size,4,none⟩)) i ?_;refine tk 10 (.int .i64 mv) i ?_ ?_;·intro C f;obtain⟨C4,z,E2,E4,E5⟩:=f;obtain⟨L,J,I,G,F,E,Q,P⟩:=z.all;go_simp
  refine tj 11 (.pointer (some ⟨w.heap.size,5,none⟩)) i ?_;try simp only[aH,aD,aE,Act.put,az,aO,aN]
  refine tk 12 (.int .i64 sum) i ?_ ?_;·intro C f;obtain⟨C4,z,E2,E4,E5⟩:=f;obtain⟨L,J,I,G,F,E,Q,P⟩:=z.all;go_simp
  try simp only[aH,aD,aE,Act.put,az,aO,aN]
  refine yz (rs:=[13,17]) (by kernel_rfl) (by simp) ?_;refine fY rfl (fun K j=>?_) (fY rfl (fun K j=>?_) AllReadyH.nil)
  ·go_simp;refine(hM _).mono ?_;rintro e w1 ⟨rfl,o⟩;have o:Below W.heap.size W w1:=D.drew.trans (o.mono D.size);go_simp;refine j.out _ _ (cB _ o) (fun i=>?_);clear j K;refine tj 14 (.tuple #[.agg #[.int .i64 y.aK,.int .i64 y.aQ,.int .i64 y.sum,.int .i64 y.cap,.int .i64 y.ref,.int .i64 y.eB,.int .i64 y.cJ,.bool y.shut],.int .i64 0]) i ?_;refine tj 15 (.agg #[.int .i64 y.aK,.int .i64 y.aQ,.int .i64 y.sum,.int .i64 y.cap,.int .i64 y.ref,.int .i64 y.eB,.int .i64 y.cJ,.bool y.shut]) i ?_;refine tj 16 (.int .i64 0) i ?_;try simp only[aH,aD,aE,Act.put,az,aO,aN]
   refine rj [17] (.cons rfl (fun K j=>?_) .nil);go_simp;refine j.out _ _ (cB _ (aM o _)) (fun i=>?_);clear j K;try simp only[aH,aD,aE,Act.put,az,aO,aN]
   refine rj [18] (.cons rfl (fun K j=>?_) .nil);go_simp;refine j.out _ _ (cB _ (aM o _)) (fun i=>?_);clear j K;try simp only[aH,aD,aE,Act.put,az,aO,aN]
   refine rj [19] (.cons rfl (fun K j=>?_) .nil);go_simp;refine j.out _ _ (cB _ (aM o _)) (fun i=>?_);clear j K;try simp only[aH,aD,aE,Act.put,az,aO,aN]
   refine bA (by kernel_rfl) ?_ _;go_wp2_with fail;go_meet;exact⟨w1.heap.size,rfl,rfl,o.size,ah w1 (iA y) _ rfl,aM o _⟩
  ·go_simp;refine j.out _ _ (cB _ (aM D _).drew) (fun i=>?_);clear j K;try simp only[aH,aD,aE,Act.put,az,aO,aN]
   refine rj [13] (.cons rfl (fun K j=>?_) .nil);go_simp;refine(hM _).mono ?_;rintro e w1 ⟨rfl,o⟩;have a5:w1.heap[R.heap.size]?=some (iA zA):=(o.block _ (by simp)).trans (ah _ _ _ rfl);have o:Below W.heap.size W w1:=(aM D (.cells #[.int .i64 0,.int .i64 0,.int .i64 0,.int .i64 0,.int .i64 0,.int .i64 0,.int .i64 0,.bool false] 78)).drew.trans (o.mono (by have:= D.size;simp;omega));go_simp;refine j.out _ _ (cB _ o) (fun i=>?_);clear j K;refine tj 14 (.tuple #[.agg #[.int .i64 y.aK,.int .i64 y.aQ,.int .i64 y.sum,.int .i64 y.cap,.int .i64 y.ref,.int .i64 y.eB,.int .i64 y.cJ,.bool y.shut],.int .i64 0]) i ?_;refine tj 15 (.agg #[.int .i64 y.aK,.int .i64 y.aQ,.int .i64 y.sum,.int .i64 y.cap,.int .i64 y.ref,.int .i64 y.eB,.int .i64 y.cJ,.bool y.shut]) i ?_;refine tj 16 (.int .i64 0) i ?_;have Z8:=(bJ a5).all;obtain⟨z0,z1,z2,z3,z4,z5,z6,z7⟩:=Z8;have zf:∀p,w1.frozen? ⟨R.heap.size,p,none⟩=false:=fun p=>by unfold iA at a5;simp[World.frozen?,a5]
   have dm:=zf 0;have dj:=zf 1;have dh:=zf 2;have d7:=zf 3;have d6:=zf 4;have cz:=zf 5;have cy:=zf 6;have cx:=zf 7;have ci:W.heap.size≤R.heap.size:=D.size;try simp only[aH,aD,aE,Act.put,az,aO,aN]
   refine rj [18] (.cons rfl (fun K j=>?_) .nil);go_simp;have ch:=yp (a:=y) a5;have aw:Below W.heap.size W ((((((((w1.setCell ⟨R.heap.size,0,none⟩ (.int .i64 y.aK)).setCell ⟨R.heap.size,1,none⟩ (.int .i64 y.aQ)).setCell ⟨R.heap.size,2,none⟩ (.int .i64 y.sum)).setCell ⟨R.heap.size,3,none⟩ (.int .i64 y.cap)).setCell ⟨R.heap.size,4,none⟩ (.int .i64 y.ref)).setCell ⟨R.heap.size,5,none⟩ (.int .i64 y.eB)).setCell ⟨R.heap.size,6,none⟩ (.int .i64 y.cJ)).setCell ⟨R.heap.size,7,none⟩ (.bool y.shut)):=(by repeat(first|refine aR ?_ (by first|(simp;omega)|(simp;done)|omega) _|refine Below.drew ?_|exact o));generalize((((((((w1.setCell _ _).setCell _ _).setCell _ _).setCell _ _).setCell _ _).setCell _ _).setCell _ _).setCell _ _)=Y at*;refine j.out _ _ (cB _ aw) (fun i=>?_);clear j K;try simp only[aH,aD,aE,Act.put,az,aO,aN]
   refine rj [19] (.cons rfl (fun K j=>?_) .nil);go_simp;refine j.out _ _ (cB _ aw) (fun i=>?_);clear j K;try simp only[aH,aD,aE,Act.put,az,aO,aN]
   refine bA (by kernel_rfl) ?_ _;go_wp2_with fail;go_meet;exact⟨R.heap.size,rfl,rfl,ci,ch,aw⟩
 case rest=>
  obtain⟨Z,rfl,rfl,hZ,cc,a9⟩:=hcut;clear cB hM bf c1 c4 d0 d1 d2 d3 d4 d5 D;generalize wc=X at*;have H2:=H1.below a9;have S2:=S1.trans (aG a9);have D2:=D1.on (aG a9);have A2:Az X (aT (aT aI w.heap.size 0) W.heap.size 0) Z y:=⟨cc,bu hZ⟩;have T:y.aK=x.aK:=s3.out;have a6:y.aQ=x.aQ:=s4.out;have ak:y.aK<b.aL.length:=by rw[T,hx.out];exact o2
  have ba:y.aQ<b.due.length:=by rw[a6,hx.out];exact o3
  have rg:=(Au.dX.1 a4).1;have y0:0≤y.aK:=rg.2.2.2.2.1.1;have y8:y.aK<8:=rg.2.2.2.2.1.2;have v0:0≤y.aQ:=rg.2.2.2.2.2.1.1;have v8:y.aQ<8:=rg.2.2.2.2.2.1.2;obtain⟨c,a7⟩:∃c:Nat,Hid (y.aK =c):=⟨y.aK.toNat,aW (by omega)⟩;have bh:c<b.aL.length:=by have :=a7.out;omega
  have ag:Hid (¬ (mv=1∧(b.aK (c :Int)).m-(b.aK (c :Int)).h<sum)):=by rw[←a7.out,T,hx.out];exact aW V
  have bb:=O.rp c bh;have b6:=O.due y.aQ.toNat (by omega);have iv:=O.iv;have bc:=aW may;have m1:1≤mv:=may.2.2.1;have m8:mv≤8:=may.2.2.2.1;have n1:1≤sum:=may.2.2.2.2.1;have n2:sum≤1000000:=may.2.2.2.2.2.1;replace T:=aW T;replace a6:=aW a6;clear he V may s1 s2 O;go_upto_region 8 with fail;go_cut[63]from 46 to 62 (fun p wc=>p=.bool false∧Below X.heap.size X wc)
  case first=>
   obtain⟨L,J,I,G,F,E⟩:=bs D2.db;dsimp only at L J I G F E;by_cases an:mv=1
   ·subst an;obtain⟨B,a3,N,bi⟩:=H2.mem.aK bh;have bg:=H2.mem.dx;have cw:c<cs.length:=by omega
    have ct:(c:Int)<cs.length:=by omega
    obtain⟨-,-,b5,-⟩:=aU H2.bR;rw[N.val]at b5;have yc:=(bJ A2.ab).c0;rw[a7.out]at yc;have hq:¬((b.aK (c:Int)).m-(b.aK (c :Int)).h<sum):=fun hh=>ag.out ⟨rfl,hh⟩;have U:-1000000000000≤(b.aK (c:Int)).m∧(b.aK (c :Int)).m≤1000000000000∧0≤(b.aK (c :Int)).h∧(b.aK (c:Int)).h≤1000000000000:=bb;rw[←bi]at hq U;have bv:∀Y:World,Calls prog 65 #[cv (cs.getD c j0).c (cs.getD c j0).a (cs.getD c j0).cap] Y fun e C=>e=.returned (.int .i64 ((cs.getD c j0).c.m-(cs.getD c j0).c.h))∧Below Y.heap.size Y C:=fun Y=>vr _ _ _ Y U.1 U.2.1 U.2.2.1 U.2.2.2;unfold cv at bv;clear bi;generalize cs.getD c j0=q at*;have e8:decide (q.c.m-q.c.h<sum)=false:=cD hq;have ca:=ae H2.bR;have be:=ae D2.db;have ce:=ae A2.ab;have bd:∀r:World,Below X.heap.size X r→r.cell? ⟨w.heap.size,4,none⟩=some (.int .i64 1)∧r.cell? ⟨w.heap.size,5,none⟩=some (.int .i64 sum)∧r.cell? ⟨g,2,none⟩=some (.slice (some ⟨B,0,none⟩) cs.length a3)∧r.cell? ⟨B,c*6,none⟩=some (.int .i64 q.c.m)∧r.cell? ⟨B,c*6+1,none⟩=some (.int .i64 q.c.h)∧r.cell? ⟨B,c*6+2,none⟩=some (.int .i64 q.c.p.t)∧r.cell? ⟨B,c*6+3,none⟩=some (.int .i64 q.c.p.c)∧r.cell? ⟨B,c*6+4,none⟩=some (.int .i64 q.c.p.s)∧r.cell? ⟨B,c*6+5,none⟩=some (.slice q.a q.c.u.length q.cap)∧r.cell? ⟨Z,0,none⟩=some (.int .i64 (c :Int)):=fun Y hY=>
     ⟨(hY.cell (p:=⟨w.heap.size,4,none⟩) be).trans F,(hY.cell (p:=⟨w.heap.size,5,none⟩) be).trans E,(hY.cell (p:=⟨g,2,none⟩) ca).trans b5,(hY.cell (p:=⟨B,c*6,none⟩) N.lt).trans N.c0,(hY.cell (p:=⟨B,c*6+1,none⟩) N.lt).trans N.c1,(hY.cell (p:=⟨B,c*6+2,none⟩) N.lt).trans N.c2,(hY.cell (p:=⟨B,c*6+3,none⟩) N.lt).trans N.c3,(hY.cell (p:=⟨B,c*6+4,none⟩) N.lt).trans N.c4,(hY.cell (p:=⟨B,c*6+5,none⟩) N.lt).trans N.c5,(hY.cell (p:=⟨Z,0,none⟩) ce).trans yc⟩;clear L J I G F E N b5 yc bg;refine bm (S:=(fun X=>X.cell? ⟨w.heap.size,4,none⟩=some (.int .i64 1)∧X.cell? ⟨w.heap.size,5,none⟩=some (.int .i64 sum)∧X.cell? ⟨g,2,none⟩=some (.slice (some ⟨B,0,none⟩) cs.length a3)∧X.cell? ⟨B,c*6,none⟩=some (.int .i64 q.c.m)∧X.cell? ⟨B,c*6+1,none⟩=some (.int .i64 q.c.h)∧X.cell? ⟨B,c*6+2,none⟩=some (.int .i64 q.c.p.t)∧X.cell? ⟨B,c*6+3,none⟩=some (.int .i64 q.c.p.c)∧X.cell? ⟨B,c*6+4,none⟩=some (.int .i64 q.c.p.s)∧X.cell? ⟨B,c*6+5,none⟩=some (.slice q.a q.c.u.length q.cap)∧X.cell? ⟨Z,0,none⟩=some (.int .i64 (c:Int)))) (by kernel_rfl) (bd _ ((Below.refl _ _).drew)) (fun i=>?_);refine tj 0 (.pointer (some ⟨w.heap.size,4,none⟩)) i ?_;refine tk 1 (.int .i64 1) i ?_ ?_;·intro C f;obtain⟨E4,E5,G2,k0,k1,k2,k3,k4,k5,Y0⟩:=f;go_simp
    refine tj 2 (.bool true) i ?_;refine tj 3 (.bool true) i ?_;try simp only[aH,aD,aE,Act.put,az,aO,aN]
    refine tj 4 (.pointer (some ⟨w.heap.size,5,none⟩)) i ?_;refine tk 5 (.int .i64 sum) i ?_ ?_;·intro C f;obtain⟨E4,E5,G2,k0,k1,k2,k3,k4,k5,Y0⟩:=f;go_simp
    refine tj 6 (.pointer (some ⟨g,0,none⟩)) i ?_;refine tj 7 (.pointer (some ⟨g,0,none⟩)) i ?_;try simp only[aH,aD,aE,Act.put,az,aO,aN]
    refine tj 8 (.pointer (some ⟨g,0,none⟩)) i ?_;refine tj 9 (.pointer (some ⟨g,2,none⟩)) i ?_;refine tk 10 (.slice (some ⟨B,0,none⟩) cs.length a3) i ?_ ?_;·intro C f;obtain⟨E4,E5,G2,k0,k1,k2,k3,k4,k5,Y0⟩:=f;go_simp
    refine tj 11 (.pointer (some ⟨Z,0,none⟩)) i ?_;try simp only[aH,aD,aE,Act.put,az,aO,aN]
    refine tk 12 (.int .i64 (c:Int)) i ?_ ?_;·intro C f;obtain⟨E4,E5,G2,k0,k1,k2,k3,k4,k5,Y0⟩:=f;go_simp
    refine tj 13 (.pointer (some ⟨B,c*6,none⟩)) i ?_;refine tk 14 (.agg #[.int .i64 q.c.m,.int .i64 q.c.h,.int .i64 q.c.p.t,.int .i64 q.c.p.c,.int .i64 q.c.p.s,.slice q.a q.c.u.length q.cap]) i ?_ ?_;·intro C f;obtain⟨E4,E5,G2,k0,k1,k2,k3,k4,k5,Y0⟩:=f;go_simp
    try simp only[aH,aD,aE,Act.put,az,aO,aN]
    refine rj [15] (.cons rfl (fun K j=>?_) .nil);go_simp;refine(bv _).mono ?_;rintro e wF ⟨rfl,aa⟩;have aa:Below X.heap.size X wF:=((Below.refl _ _).drew).trans aa;go_simp;refine j.out _ _ (bd _ aa) (fun i=>?_);clear j K;refine tj 16 (.bool false) i ?_;refine tj 17 (.bool false) i ?_;try simp only[aH,aD,aE,Act.put,az,aO,aN]
    refine bA (by kernel_rfl) ?_ _;go_wp2_with fail;go_meet;exact⟨rfl,aa⟩
   ·have dn:(mv ==1)=false:=by simpa using an
    clear an;go_quiet(fail);go_wp2_with fail;go_meet;exact⟨rfl,br (Below.refl _ _) _⟩
  case rest=>
   obtain⟨rfl,a1⟩:=hcut;generalize wc=Y at*;have H3:=H2.below a1;have D3:=D2.on (aG a1);have A3:=A2.on (aG a1);have S3:=S2.trans (aG a1);have G4:=H3.cj.drew;have D4:=D3.drew;have A4:=A3.drew;have S4:=S3.drew;obtain⟨k1,k2,k3⟩:=vD b k y;have k4:=y9 (dL b k y).1 y ⟨id,kind,k,aQ,mv,sum⟩;have GB:∀(r:World) (l:bI),cC r g aq l b tm→Calls prog 67 #[.pointer (some ⟨g,0,none⟩),.int .i64 (k :Int),Au.av y] r (cT r g aq l tm (dL b k y)):=fun r l hX=>Jx g aq l b tm k y r hX ao a4 o1 ak;have GP:∀(r:World) (l:bI),cC r g aq l (dL b k y).1 tm→Calls prog 68 #[.pointer (some ⟨g,0,none⟩),Au.av y,gn ⟨id,kind,k,aQ,mv,sum⟩] r (cT r g aq l tm (eM (dL b k y).1 y ⟨id,kind,k,aQ,mv,sum⟩)):=fun r l hX=>Mc g aq l _ tm y _ r hX (by rw[k1];exact ak) y0 (by rw[k2];exact ba) v0 y8 v8 (by unfold aJ.dG;rw[k2];exact b6.1) (by unfold aJ.dG;rw[k2];exact b6.2) m1 m8 n1 n2;have GN:∀(r:World) (l:bI),cC r g aq l (eM (dL b k y).1 y ⟨id,kind,k,aQ,mv,sum⟩).1 tm→Calls prog 69 #[.pointer (some ⟨g,0,none⟩),.agg #[.int .i64 y.aQ,.int .i64 k,.int .i64 mv,.int .i64 sum]] r (cT r g aq l tm (lV (eM (dL b k y).1 y ⟨id,kind,k,aQ,mv,sum⟩).1 ⟨y.aQ,k,mv,sum⟩)):=fun r l hX=>LK g aq l _ tm ⟨y.aQ,k,mv,sum⟩ r hX (by rw[k4,k3];exact iv);unfold cT at GB GP GN;unfold Au.av at GB GP;unfold gn at GP;have hE:Hid (KU b ⟨id,kind,k,aQ,mv,sum⟩ y=((lV (eM (dL b k y).1 y ⟨id,kind,k,aQ,mv,sum⟩).1 ⟨y.aQ,k,mv,sum⟩).1,nY (dL b k y).2 (nY (eM (dL b k y).1 y ⟨id,kind,k,aQ,mv,sum⟩).2 (lV (eM (dL b k y).1 y ⟨id,kind,k,aQ,mv,sum⟩).1 ⟨y.aQ,k,mv,sum⟩).2))):=aW rfl;clear k1 k2 k3 k4 o1 o2 o3 ak ba rg bb b6 iv bc ag a4 H1 H2 H3 D1 D2 D3 A2 A3 S1 S2 S3 a9 a1 af A A8 T a6 a7 H;dsimp only at GB GP GN;generalize lV (eM (dL b k y).1 y ⟨id,kind,k,aQ,mv,sum⟩).1 ⟨y.aQ,k,mv,sum⟩=r3 at*;generalize eM (dL b k y).1 y ⟨id,kind,k,aQ,mv,sum⟩=r2 at*;generalize dL b k y=r1 at*;go_upto_region 10 with fail;refine bm (S:=(fun X=>nX X Z 0 y∧D6 X w.heap.size id kind k aQ mv sum)) (by kernel_rfl) (⟨bJ A4.ab,kh D4.db⟩) (fun i=>?_);refine tj 0 (.pointer (some ⟨g,0,none⟩)) i ?_;refine tj 1 (.pointer (some ⟨w.heap.size,2,none⟩)) i ?_;refine tk 2 (.int .i64 (k:Int)) i ?_ ?_;·intro C f;obtain⟨M,z⟩:=f;obtain⟨L,J,I,G,F,E,Q,P⟩:=M.all;obtain⟨x0,x1,x2,x3,x4,x5⟩:=z.all;go_simp
   refine tk 3 (.agg #[.int .i64 y.aK,.int .i64 y.aQ,.int .i64 y.sum,.int .i64 y.cap,.int .i64 y.ref,.int .i64 y.eB,.int .i64 y.cJ,.bool y.shut]) i ?_ ?_;·intro C f;obtain⟨M,z⟩:=f;obtain⟨L,J,I,G,F,E,Q,P⟩:=M.all;obtain⟨x0,x1,x2,x3,x4,x5⟩:=z.all;go_simp
   try simp only[aH,aD,aE,Act.put,az,aO,aN]
   refine tj 5 (.pointer (some ⟨g,0,none⟩)) i ?_;refine tk 6 (.agg #[.int .i64 y.aK,.int .i64 y.aQ,.int .i64 y.sum,.int .i64 y.cap,.int .i64 y.ref,.int .i64 y.eB,.int .i64 y.cJ,.bool y.shut]) i ?_ ?_;·intro C f;obtain⟨M,z⟩:=f;obtain⟨L,J,I,G,F,E,Q,P⟩:=M.all;obtain⟨x0,x1,x2,x3,x4,x5⟩:=z.all;go_simp
   refine tk 7 (.agg #[.int .i64 id,.int .i64 kind,.int .i64 (k:Int),.int .i64 aQ,.int .i64 mv,.int .i64 sum]) i ?_ ?_;·intro C f;obtain⟨M,z⟩:=f;obtain⟨L,J,I,G,F,E,Q,P⟩:=M.all;obtain⟨x0,x1,x2,x3,x4,x5⟩:=z.all;go_simp
   refine tj 9 (.pointer (some ⟨g,0,none⟩)) i ?_;try simp only[aH,aD,aE,Act.put,az,aO,aN]
   refine tj 10 (.pointer (some ⟨Z,1,none⟩)) i ?_;refine tk 11 (.int .i64 y.aQ) i ?_ ?_;·intro C f;obtain⟨M,z⟩:=f;obtain⟨L,J,I,G,F,E,Q,P⟩:=M.all;obtain⟨x0,x1,x2,x3,x4,x5⟩:=z.all;go_simp
   refine tj 12 (.pointer (some ⟨w.heap.size,2,none⟩)) i ?_;refine tk 13 (.int .i64 (k:Int)) i ?_ ?_;·intro C f;obtain⟨M,z⟩:=f;obtain⟨L,J,I,G,F,E,Q,P⟩:=M.all;obtain⟨x0,x1,x2,x3,x4,x5⟩:=z.all;go_simp
   try simp only[aH,aD,aE,Act.put,az,aO,aN]
   refine tj 14 (.pointer (some ⟨w.heap.size,4,none⟩)) i ?_;refine tk 15 (.int .i64 mv) i ?_ ?_;·intro C f;obtain⟨M,z⟩:=f;obtain⟨L,J,I,G,F,E,Q,P⟩:=M.all;obtain⟨x0,x1,x2,x3,x4,x5⟩:=z.all;go_simp
   refine tj 16 (.pointer (some ⟨w.heap.size,5,none⟩)) i ?_;refine tk 17 (.int .i64 sum) i ?_ ?_;·intro C f;obtain⟨M,z⟩:=f;obtain⟨L,J,I,G,F,E,Q,P⟩:=M.all;obtain⟨x0,x1,x2,x3,x4,x5⟩:=z.all;go_simp
   try simp only[aH,aD,aE,Act.put,az,aO,aN]
   refine tj 18 (.agg #[.int .i64 y.aQ,.int .i64 (k:Int),.int .i64 mv,.int .i64 sum]) i ?_;try simp only[aH,aD,aE,Act.put,az,aO,aN]
   refine rj [4] (.cons rfl (fun K j=>?_) .nil);go_simp;refine(GB _ _ G4).mono ?_;rintro e w5 ⟨rfl,cq,cm,b4⟩;have A5:=A4.on b4;have D5:=D4.on b4;go_simp;refine j.out _ _ (⟨bJ A5.ab,kh D5.db⟩) (fun i=>?_);clear j K;try simp only[aH,aD,aE,Act.put,az,aO,aN]
   refine rj [8] (.cons rfl (fun K j=>?_) .nil);go_simp;refine(GP _ _ cm).mono ?_;rintro e w6 ⟨rfl,cp,cl,b3⟩;have A6:=A5.on b3;have bw:=D5.on b3;go_simp;refine j.out _ _ (⟨bJ A6.ab,kh bw.db⟩) (fun i=>?_);clear j K;try simp only[aH,aD,aE,Act.put,az,aO,aN]
   refine rj [19] (.cons rfl (fun K j=>?_) .nil);go_simp;refine(GN _ _ cl).mono ?_;rintro e w7 ⟨rfl,cn,ck,b0⟩;have A7:=A6.on b0;have D7:=bw.on b0;go_simp;refine j.out _ _ (⟨bJ A7.ab,kh D7.db⟩) (fun i=>?_);clear j K;try simp only[aH,aD,aE,Act.put,az,aO,aN]
   refine rj [20] (.cons rfl (fun K j=>?_) .nil);go_simp;have A8:=A7.on (aG (ar w7 (.cells #[.int .i64 r1.2,.int .i64 r2.2,.int .i64 r3.2] 45)));have D8:=D7.on (aG (ar w7 (.cells #[.int .i64 r1.2,.int .i64 r2.2,.int .i64 r3.2] 45)));refine j.out _ _ (⟨bJ A8.ab,kh D8.db⟩) (fun i=>?_);clear j K;try simp only[aH,aD,aE,Act.put,az,aO,aN]
   refine rj [21] (.cons rfl (fun K j=>?_) .nil);go_simp;refine(Gm _ _ _ _ w7).mono ?_;rintro e w8 ⟨rfl,rfl⟩;go_simp;refine j.out _ _ (⟨bJ A8.ab,kh D8.db⟩) (fun i=>?_);clear j K;try simp only[aH,aD,aE,Act.put,az,aO,aN]
   refine rj [22] (.cons rfl (fun K j=>?_) .nil);go_simp;refine j.out _ _ (⟨bJ A8.ab,kh D8.db⟩) (fun i=>?_);clear j K;try simp only[aH,aD,aE,Act.put,az,aO,aN]
   refine bA (by kernel_rfl) ?_ _;go_wp2_with fail;go_ret;unfold cT;rw[hE.out];exact⟨rfl,_,ck.below (ar _ _),(((S4.trans b4).trans b3).trans b0).trans (aG (ar _ _))⟩
