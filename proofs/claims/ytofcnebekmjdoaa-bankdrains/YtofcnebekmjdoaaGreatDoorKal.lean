import Derived.Test.YtofcnebekmjdoaaGreatDoorKak
set_option maxHeartbeats 4000000
set_option maxRecDepth 100000
namespace Go.Proofs.YtofcnebekmjdoaaGreatDoor.Dy
open Go.RowKit Go.Proofs.YtofcnebekmjdoaaGreatDoor.Gn
theorem symRight_any (P X Q:List Rc) (y:Rc) (hX:Srt X) (g N cap a m b:Nat) (ha:a=P.length) (hm:m=a+X.length) (hm1:0<X.length) (hm2:X.length≠1) (hb:b=m+1) (w:World)
  (hN:N=(P++(mid X y X.length++Q)).length) (hN2:N≤1152921504606846976) (hB:Blo w g (P ++(mid X y X.length++Q))):
  Calls Tryz.prog 122 #[.slice (some ⟨g,0,none⟩) N cap,.int .i64 a,.int .i64 m,.int .i64 b,.func (.func 73) #[] #[]] w fun e w'=>e=.returned (.tuple #[])∧Sorts w g (P ++(sortR (X ++[y])++Q)) w':=by
 have hNn:P.length+X.length+1+Q.length=N:=by rw[hN,List.length_append,List.length_append,mid_length _ _ (Nat.le_refl _)];omega
 have HN:Hid (N =(P++(mid X y X.length++Q)).length):=hN
 have hL0:P++(mid X y X.length++Q)=P++(X ++([y]++Q)):=by simp[mid]
 have hgx:(P++(mid X y X.length++Q)).getD m zR=y:=mid_at P X y Q (Nat.le_refl _) (by omega)
 have hgy:∀h,a≤h→h<m→(P++(mid X y X.length++Q)).getD h zR=X.getD (h-a) zR:=fun h h1 h2=>by
  rw[hL0,getD_mid P X _ (by omega) (by omega),ha]
 have Hgx:=hid hgx
 have Hgy:=hid hgy
 have Ha:=hid ha
 have Hb:=hid hb
 obtain ⟨c,hc⟩:∃c:Nat,m-a=c:=⟨_,rfl⟩
 have hc1:((c :Int)==1)=false:=by simp;omega
 have e1:IntKind.i64.wrap ((m:Int)-a)=c:=(wrap64 (by omega) (by omega)).trans (by omega)
 have e2:IntKind.i64.wrap ((b :Int)-m)=1:=(wrap64 (by omega) (by omega)).trans (by omega)
 have hmN:a<m:=by omega
 have hbN:m<N:=by omega
 have hbb:b≤N:=by omega
 have hm':Hid (m =a+X.length):=hm
 clear hN hL0 hgx hgy ha hb hNn hm hm1 hm2 hc
 go_enter Tryz.func122,Tryz.ntmps122
 go_wp2
 go_loopw[14,15](fun i j wr=>∃(p q:Nat),i=.int .i64 p∧j=.int .i64 q∧a≤p∧p≤q∧q≤m∧Below g w wr∧Hid (p=a∨gtB (X.getD (p -1-a) zR) y=false)∧Hid (q=m∨gtB (X.getD (q -a) zR) y=true)∧Hid (Blo wr g (P++(mid X y X.length++Q)))) (fun i j _=>(intOf j).toNat-(intOf i).toNat)
 case atStart=>exact ⟨a,m,rfl,rfl,Nat.le_refl _,Nat.le_of_lt hmN,Nat.le_refl _,Below.refl _ _,Or.inl rfl,Or.inl rfl,hB⟩
 case round=>
  clear hB
  obtain ⟨p,q,rfl,rfl,h1,h2,h3,hbel,hlo,hhi,hblo⟩:=hrel
  by_cases hlt:p<q
  ·have hlt':(p :Int)<q:=by omega
   obtain ⟨h,hh,hh1,hh2⟩:∃h:Nat,((p:Int)+(q :Int))/2=(h:Int)∧p≤h∧h<q:=⟨(p +q)/2,by omega,by omega,by omega⟩
   have hgh:=Hgy.out h (by omega) (by omega)
   obtain ⟨x,hy⟩:∃x,Hid (X.getD (h -a) zR=x):=⟨_,rfl⟩
   rw[hy.out] at hgh
   have hhN:h<N:=by omega
   have hsz:=hblo.out.lt
   have hkeep:∀W:World,Below wr.heap.size wr W→W.cell? ⟨g,m*4,none⟩=some (.int .i64 y.sh)∧W.cell? ⟨g,m*4+1,none⟩=some (.int .i64 y.au)∧W.cell? ⟨g,m*4+2,none⟩=some (.int .i64 y.k)∧W.cell? ⟨g,m*4+3,none⟩=some (.int .i64 y.m)∧W.cell? ⟨g,h*4,none⟩=some (.int .i64 x.sh)∧W.cell? ⟨g,h*4+1,none⟩=some (.int .i64 x.au)∧W.cell? ⟨g,h*4+2,none⟩=some (.int .i64 x.k)∧W.cell? ⟨g,h*4+3,none⟩=some (.int .i64 x.m):=fun W hb=>(hblo.out.below hb hsz).eight (by rw[←HN.out];exact hbN) (by rw[←HN.out];exact hhN) Hgx.out hgh
   obtain ⟨c1,c2,c3,c4,d1,d2,d3,d4⟩:=hkeep wr (Below.refl _ _)
   have HI1:(h :Int)<N:=by omega
   have HI2:(m :Int)<N:=by omega
   obtain ⟨o,ho⟩:∃o,Hid (ordR y x=o):=⟨_,rfl⟩
   have hord:∀W:World,Calls Tryz.prog 73 #[rv y,rv x] W fun e w'=>e=.returned (.int .i64 o)∧Below W.heap.size W w':=fun W=>by rw[←ho.out];exact order_any y x W
   unfold rv at hord
   clear hgh
   go_upto_region 17 with fail
   try simp only[hh]
   clear hh
   go_region_held3 (fun w'=>w'.cell? ⟨g,m*4,none⟩=some (.int .i64 y.sh)∧w'.cell? ⟨g,m*4+1,none⟩=some (.int .i64 y.au)∧w'.cell? ⟨g,m*4+2,none⟩=some (.int .i64 y.k)∧w'.cell? ⟨g,m*4+3,none⟩=some (.int .i64 y.m)∧w'.cell? ⟨g,h*4,none⟩=some (.int .i64 x.sh)∧w'.cell? ⟨g,h*4+1,none⟩=some (.int .i64 x.au)∧w'.cell? ⟨g,h*4+2,none⟩=some (.int .i64 x.k)∧w'.cell? ⟨g,h*4+3,none⟩=some (.int .i64 x.m)) (first|exact ⟨c1,c2,c3,c4,d1,d2,d3,d4⟩|exact hkeep _ hb2)
    ((go_at_call 73;refine (hord _).mono ?_;rintro e w1 ⟨rfl,hb1⟩;have hb2:Below wr.heap.size wr w1:=(Below.refl wr.heap.size wr).drew.trans hb1;clear hb1))
   have hB3:=hid (hblo.out.below hb2 hsz)
   have hbw:Below g w w1:=hbel.trans (hb2.mono (Nat.le_of_lt hsz))
   clear hkeep hord hb2
   by_cases ho0:o<0
   ·have hgt:gtB x y=true:=ord_neg.1 (by rw[ho.out];exact ho0)
    have hnew:Hid (h =m∨gtB (X.getD (h-a) zR) y=true):=hid (Or.inr (by rw[hy.out];exact hgt))
    have hd:decide (o <0)=true:=by simpa using ho0
    simp only[hd,Bool.not_true]
    clear hgt
    go_wp2_with fail
    go_roundw
    case rel=>exact ⟨p,h,rfl,rfl,h1,hh1,by omega,hbw,hlo,hnew,hB3⟩
    case measure=>simp[intOf];omega
   ·have hgt:gtB x y=false:=ord_pos.1 (by rw[ho.out];exact ho0)
    have hnew:Hid (h +1=a∨gtB (X.getD (h+1-1-a) zR) y=false):=hid (Or.inr (by rw[Nat.add_sub_cancel,hy.out];exact hgt))
    have hd:decide (o<0)=false:=by simpa using ho0
    simp only[hd,Bool.not_false]
    clear hgt
    go_wp2_with fail
    go_roundw
    case rel=>exact ⟨h+1,q,by go_num,rfl,by omega,by omega,h3,hbw,hnew,hhi,hB3⟩
    case measure=>simp[intOf];omega
  ·obtain rfl:q=p:=by omega
   have hfin:X.take (q -a)++y::X.drop (q-a)=sortR (X ++[y]):=by
    refine merge_right hX (by have:= hm'.out;omega) ?_ ?_
    ·rcases hlo.out with h|h
     ·exact Or.inl (by omega)
     ·refine Or.inr ?_
      rw[show q-a-1=q-1-a by omega];exact h
    ·rcases hhi.out with h|h
     ·exact Or.inl (by have:= hm'.out;omega)
     ·exact Or.inr h
   have Hfin:=hid hfin
   have HM:∀p,p≤X.length→(P ++(mid X y p++Q)).length=N:=fun p hp=>by
    rw[HN.out,List.length_append,List.length_append,List.length_append,List.length_append,mid_length _ _ hp,mid_length _ _ (Nat.le_refl _)]
   have HM':=hid HM
   clear hfin HM hlt hlo hhi
   go_wp2_with fail
   generalize wr=W0 at*
   go_loopw[17](fun i wr=>∃p:Nat,i=.int .i64 p∧q≤p∧p≤m∧Below g w wr∧Hid (Blo wr g (P ++(mid X y (p-a)++Q)))) (fun i _=>(intOf i).toNat)
   case atStart=>exact ⟨m,rfl,h3,Nat.le_refl _,hbel,by rw[show m-a=X.length by have:= hm'.out;omega];exact hblo⟩
   case round=>
    clear hblo hbel
    obtain ⟨p,rfl,hp1,hp2,hbel,hblo⟩:=hrel
    by_cases hlt:q<p
    ·obtain ⟨r,rfl⟩:∃r,p=r+1:=⟨p-1,by omega⟩
     have hlt':(q:Int)<(r :Int)+1:=by omega
     have hpX:r-a<X.length:=by have:= hm'.out;omega
     rw[show r+1-a=r-a+1 by omega] at hblo
     have hL:=hid (HM'.out (r -a+1) (by omega))
     have hy1:=mid_at P X y Q (p:=r-a+1) (i:=r+1) (by omega) (by have:= Ha.out;omega)
     have hy2:=mid_ahead P X y Q (p:=r-a) (i:=r) hpX (by have :=Ha.out;omega)
     have hnext:=hid (swp_mid P X y Q (p:=r-a) (i:=r) (j:=r+1) hpX (by have:= Ha.out;omega) (by have:= Ha.out;omega))
     obtain ⟨x,hy⟩:∃x,Hid (X.getD (r-a) zR=x):=⟨_,rfl⟩
     rw[hy.out] at hy2
     have hpN:r+1<N:=by omega
     have hpN':r<N:=by omega
     obtain ⟨c1,c2,c3,c4,d1,d2,d3,d4⟩:=hblo.out.eight (by rw[hL.out];exact hpN) (by rw[hL.out];exact hpN') hy1 hy2
     have fr:=hblo.out.free
     have Hy1:=hid hy1
     have Hy2:=hid hy2
     have HI1:(r :Int)+1<N:=by omega
     have HI2:(r:Int)<N:=by omega
     have hW1:IntKind.i64.wrap ((r:Int)+1-1)=r:=(wrap64 (by omega) (by omega)).trans (by omega)
     have hW2:IntKind.i64.wrap (r :Int)=r:=wrap64 (by omega) (by omega)
     clear hy1 hy2
     go_upto_region 23 with fail
     go_region
     have hP:=hblo.out.swp (i:=r+1) (j:=r) (by rw[hL.out];exact hpN) (by rw[hL.out];exact hpN') Hy1.out Hy2.out
     have hQ:=put4_below (put4_below hbel g ((r +1)*4) (Nat.le_refl _) x) g (r *4) (Nat.le_refl _) y
     rw[hnext.out] at hP
     unfold put4 at hP hQ
     go_wp2_with fail
     go_roundw
     case rel=>exact ⟨r,by go_num,by omega,by omega,hQ.drew,hP.drew⟩
     case measure=>simp[intOf]
    ·have hlt':¬((q:Int)<(p :Int)):=by omega
     have hE:Hid (Blo wr g (P ++(sortR (X++[y])++Q))):=by
      have :=hblo.out
      rw[show p-a=q-a by omega] at this
      unfold mid at this
      rw[Hfin.out] at this
      exact this
     go_wp2_with fail
     refine bodyPost_ret (results_none rfl _ _ _) rfl ?_
     exact ⟨rfl,hbel,hE.out⟩
theorem rotate_at (P U V Q L L':List Rc) (hU:0<U.length) (hV:0<V.length) (hL:P++(U++(V++Q))=L) (hL':P++(V ++(U ++Q))=L') (g N cap:Nat) (a m b:Int) (ha:a=P.length) (hm:m=P.length+U.length) (hb:b=P.length+U.length+V.length) (w:World)
  (hN:N=L.length) (hN2:N≤1152921504606846976) (hB:Blo w g L):
  Calls Tryz.prog 150 #[.slice (some ⟨g,0,none⟩) N cap,.int .i64 a,.int .i64 m,.int .i64 b,.func (.func 73) #[] #[]] w fun e w'=>e=.returned (.tuple #[])∧Sorts w g L' w':=by
 have:= rotate_any P U V Q L L' hU hV hL hL' g N cap P.length (P.length +U.length) (P.length +U.length+V.length) rfl rfl rfl w hN hN2 hB
 subst ha hm hb
 simpa using this
def Sym (P X Y Q:List Rc):Prop:=∀(g N cap:Nat) (a m b:Int) (_:a=P.length) (_:m=P.length+X.length) (_:b=P.length+X.length+Y.length) (w:World)
  (_:N=(P ++(X++(Y ++Q))).length) (_:N≤1152921504606846976) (_:Blo w g (P++(X ++(Y ++Q)))),
  Calls Tryz.prog 122 #[.slice (some ⟨g,0,none⟩) N cap,.int .i64 a,.int .i64 m,.int .i64 b,.func (.func 73) #[] #[]] w fun e w'=>e=.returned (.tuple #[])∧Sorts w g (P ++(sortR (X++Y)++Q)) w'
theorem sym_left (P Y Q:List Rc) (x:Rc) (hY:Srt Y):Sym P [x] Y Q:=by
 intro g N cap a m b ha hm hb w hN hN2 hB
 have e:P++(mid Y x 0++Q)=P++([x]++(Y ++Q)):=by simp[mid]
 have:= symLeft_any P Y Q x hY g N cap P.length (P.length +1) (P.length +1+Y.length) rfl rfl rfl w (by rw[e];exact hN) hN2 (by rw[e];exact hB)
 subst ha hm hb
 simpa using this
theorem sym_right (P X Q:List Rc) (y:Rc) (hX:Srt X) (h0:0<X.length) (h1:X.length≠1):Sym P X [y] Q:=by
 intro g N cap a m b ha hm hb w hN hN2 hB
 have e:P++(mid X y X.length++Q)=P++(X ++([y]++Q)):=by simp[mid]
 have:= symRight_any P X Q y hX g N cap P.length (P.length +X.length) (P.length+X.length+1) rfl rfl h0 h1 rfl w (by rw[e];exact hN) hN2 (by rw[e];exact hB)
 subst ha hm hb
 simpa using this
theorem sym_step (k:Nat)(ih:∀P X Y Q:List Rc,X.length+Y.length≤k→Srt X→Srt Y→0<X.length→0<Y.length→Sym P X Y Q)
    (P X Y Q:List Rc)(hk:X.length+Y.length≤k+1)(hX:Srt X)(hY:Srt Y)(hX1:1<X.length)(hY1:1<Y.length)
    (g N cap a m b:Nat)(ha:a=P.length)(hm:m=a+X.length)(hb:b=m+Y.length)(w:World)
    (hN:N=(P++(X ++(Y++Q))).length)(hN2:N≤1152921504606846976)(hB:Blo w g (P++(X ++(Y++Q)))):
    Calls Tryz.prog 122 #[.slice (some ⟨g,0,none⟩) N cap,.int .i64 a,.int .i64 m,.int .i64 b,.func (.func 73) #[] #[]] w fun e w'=>e=.returned (.tuple #[])∧Sorts w g (P ++(sortR (X++Y)++Q)) w':=by
  have hNn:P.length+X.length+Y.length+Q.length=N:=by rw[hN];simp;omega
  have HN:Hid (N =(P ++(X ++(Y++Q))).length):=hN
  have hgx:∀h,a≤h→h<m→(P ++(X ++(Y ++Q))).getD h zR=X.getD (h -a) zR:=fun h h1 h2=>by
    rw[getD_mid P X _ (by omega) (by omega),ha]
  have hgy:∀h,m≤h→h<b→(P ++(X ++(Y ++Q))).getD h zR=Y.getD (h-m) zR:=fun h h1 h2=>by
    rw[←List.append_assoc P X,getD_mid (P++X) Y _ (by simp;omega) (by simp;omega)]
    congr 1
    simp;omega
  have Hgx:=hid hgx
  have Hgy:=hid hgy
  obtain ⟨M,hM,hM1,hM2⟩:∃M:Nat,((a:Int)+(b :Int))/2=(M :Int)∧2*M≤a+b∧a+b≤2*M+1:=⟨(a+b)/2,by omega,by omega,by omega⟩
  obtain ⟨s0,r0,hsr⟩:∃s0 r0:Nat,Hid ((M <m∧s0=M+m-b∧r0=M)∨(m ≤M∧s0=a∧r0=m)):=by
    by_cases h:M<m
    ·exact ⟨_,_,Or.inl ⟨h,rfl,rfl⟩⟩
    ·exact ⟨_,_,Or.inr ⟨by omega,rfl,rfl⟩⟩
  obtain ⟨n,hn⟩:∃n:Nat,Hid (n =M+m):=⟨_,rfl⟩
  have Ha:=hid ha
  have Hm:=hid hm
  have Hb:=hid hb
  have HX1:=hid hX1
  have HY1:=hid hY1
  have Hk:=hid hk
  have hM':=hid (And.intro hM1 hM2)
  obtain ⟨c,hc⟩:∃c:Nat,m-a=c:=⟨_,rfl⟩
  obtain ⟨d,hd⟩:∃d:Nat,b-m=d:=⟨_,rfl⟩
  have hc1:((c :Int)==1)=false:=by simp;omega
  have hd1:((d :Int)==1)=false:=by simp;omega
  have e1:IntKind.i64.wrap ((m :Int)-a)=c:=(wrap64 (by omega) (by omega)).trans (by omega)
  have e2:IntKind.i64.wrap ((b:Int)-m)=d:=(wrap64 (by omega) (by omega)).trans (by omega)
  have e3:IntKind.i64.wrap ((M :Int)+m)=n:=(wrap64 (by omega) (by omega)).trans (by have :=hn.out;omega)
  have e3':(M:Int)+m=n:=by have:= hn.out;omega
  have e4:IntKind.i64.wrap ((n :Int)-1)=((n -1:Nat):Int):=(wrap64 (by have :=hn.out;omega) (by have :=hn.out;omega)).trans (by have :=hn.out;omega)
  have ham:a<m:=by omega
  have hmb:m<b:=by omega
  have hbN:b≤N:=by omega
  have hn1:n≤2*N:=by have:= hn.out;omega
  have hn0:1<n:=by have:= hn.out;omega
  have h0:s0≤r0:=by have:= hsr.out;omega
  have hrng:∀c,s0≤c→c<r0→a≤c∧c<m∧m≤n-1-c∧n-1-c<b∧c≤n-1:=fun c h1 h2=>by have :=hsr.out;have:= hn.out;omega
  have Hrng:=hid hrng
  have hrN:r0≤N:=by have:= hsr.out;omega
  clear hN hgx hgy ha hb hNn hm hk hX1 hY1 hM1 hM2 hc hd hrng
  go_enter Tryz.func122,Tryz.ntmps122
  have e5:M<m→IntKind.i64.wrap ((n :Int)-b)=(s0:Int):=fun _=>(wrap64 (by omega) (by omega)).trans (by have :=hsr.out;have:= hn.out;have:= hM'.out;omega)
  have q2:Hid (m ≤M→s0=a):=hid fun _=>by have:= hsr.out;omega
  have q3:Hid (M <m→r0=M):=hid fun _=>by have :=hsr.out;omega
  have q4:Hid (m≤M→r0=m):=hid fun _=>by have :=hsr.out;omega
  by_cases q1:M<m
  all_goals
   try have e5':=e5 q1
   try have q1a:(M :Int)<m:=by omega
   try have q1b:¬((M :Int)<m):=by omega
   clear e5
   go_wp2_with fail
   clear hM
   go_loopw[20,21](fun i j wr=>∃(p q:Nat),i=.int .i64 p∧j=.int .i64 q∧s0≤p∧p≤q∧q≤r0∧Below g w wr∧Hid (p =s0∨gtB (X.getD (p-1-a) zR) (Y.getD (n -p-m) zR)=false)∧Hid (q =r0∨gtB (X.getD (q-a) zR) (Y.getD (n-1-q-m) zR)=true)∧Hid (Blo wr g (P++(X ++(Y ++Q)))))(fun i j _=>(intOf j).toNat-(intOf i).toNat)
   case atStart=>exact ⟨s0,r0,by first|rfl|rw[q2.out (by omega)],by first|rw[q3.out (by omega)]|rw[q4.out (by omega)],Nat.le_refl _,h0,Nat.le_refl _,Below.refl _ _,Or.inl rfl,Or.inl rfl,hB⟩
   case round=>
     clear hB
     obtain ⟨p,q,rfl,rfl,h1,h2,h3,hbel,hlo,hhi,hblo⟩:=hrel
     by_cases hlt:p<q
     · have hlt':(p :Int)<q:=by omega
       obtain ⟨h,hh,hh1,hh2⟩:∃h:Nat,((p :Int)+(q :Int))/2=(h:Int)∧p≤h∧h<q:=⟨(p+q)/2,by omega,by omega,by omega⟩
       obtain ⟨t1,t2,t3,t4,t5⟩:=Hrng.out h (by omega) (by omega)
       obtain ⟨l,hl⟩:∃l:Nat,l=n-1-h:=⟨_,rfl⟩
       rw[←hl] at t3 t4
       have hgh:=Hgx.out h t1 t2
       have hgl:=Hgy.out l t3 t4
       obtain ⟨x,hx⟩:∃x,Hid (X.getD (h-a) zR=x):=⟨_,rfl⟩
       obtain ⟨y,hy⟩:∃y,Hid (Y.getD (l-m) zR=y):=⟨_,rfl⟩
       rw[hx.out] at hgh
       rw[hy.out] at hgl
       have hhN:h<N:=by omega
       have hlN:l<N:=by omega
       have hsz:=hblo.out.lt
       have hkeep:∀W:World,Below wr.heap.size wr W→W.cell? ⟨g,l*4,none⟩=some (.int .i64 y.sh)∧W.cell? ⟨g,l*4+1,none⟩=some (.int .i64 y.au)∧W.cell? ⟨g,l*4+2,none⟩=some (.int .i64 y.k)∧W.cell? ⟨g,l*4+3,none⟩=some (.int .i64 y.m)∧W.cell? ⟨g,h*4,none⟩=some (.int .i64 x.sh)∧W.cell? ⟨g,h*4+1,none⟩=some (.int .i64 x.au)∧W.cell? ⟨g,h*4+2,none⟩=some (.int .i64 x.k)∧W.cell? ⟨g,h*4+3,none⟩=some (.int .i64 x.m):=fun W hb=>(hblo.out.below hb hsz).eight (by rw[←HN.out];exact hlN) (by rw[←HN.out];exact hhN) hgl hgh
       obtain ⟨c1,c2,c3,c4,d1,d2,d3,d4⟩:=hkeep wr (Below.refl _ _)
       have HI1:(h:Int)<N:=by omega
       have HI2:(l:Int)<N:=by omega
       have e6:IntKind.i64.wrap (((n -1:Nat):Int)-h)=l:=(wrap64 (by omega) (by omega)).trans (by omega)
       obtain ⟨o,ho⟩:∃o,Hid (ordR y x=o):=⟨_,rfl⟩
       have hord:∀W:World,Calls Tryz.prog 73 #[rv y,rv x] W fun e w'=>e=.returned (.int .i64 o)∧Below W.heap.size W w':=fun W=>by rw[←ho.out];exact order_any y x W
       unfold rv at hord
       have Hl:=hid hl
       clear hgh hgl hl
       go_upto_region 35 with fail
       try simp only[hh]
       clear hh
       go_region_held3 (fun w'=>w'.cell? ⟨g,l*4,none⟩=some (.int .i64 y.sh)∧w'.cell? ⟨g,l*4+1,none⟩=some (.int .i64 y.au)∧w'.cell? ⟨g,l*4+2,none⟩=some (.int .i64 y.k)∧w'.cell? ⟨g,l*4+3,none⟩=some (.int .i64 y.m)∧w'.cell? ⟨g,h*4,none⟩=some (.int .i64 x.sh)∧w'.cell? ⟨g,h*4+1,none⟩=some (.int .i64 x.au)∧w'.cell? ⟨g,h*4+2,none⟩=some (.int .i64 x.k)∧w'.cell? ⟨g,h*4+3,none⟩=some (.int .i64 x.m))(first|exact ⟨c1,c2,c3,c4,d1,d2,d3,d4⟩|exact hkeep _ hb2)
         ((go_at_call 73;refine (hord _).mono ?_;rintro e w1 ⟨rfl,hb1⟩;have hb2:Below wr.heap.size wr w1:=(Below.refl wr.heap.size wr).drew.trans hb1;clear hb1))
       have hB3:=hid (hblo.out.below hb2 hsz)
       have hbw:Below g w w1:=hbel.trans (hb2.mono (Nat.le_of_lt hsz))
       clear hkeep hord hb2
       by_cases ho0:o<0
       · have hgt:gtB x y=true:=ord_neg.1 (by rw[ho.out];exact ho0)
         have hnew:Hid (h=r0∨gtB (X.getD (h -a) zR) (Y.getD (n-1-h-m) zR)=true):=hid (Or.inr (by rw[←Hl.out,hx.out,hy.out];exact hgt))
         have hd:decide (o <0)=true:=by simpa using ho0
         simp only[hd,Bool.not_true]
         clear hgt
         go_wp2_with fail
         go_roundw
         case rel=>exact ⟨p,h,rfl,rfl,h1,hh1,by omega,hbw,hlo,hnew,hB3⟩
         case measure=>simp[intOf];omega
       · have hgt:gtB x y=false:=ord_pos.1 (by rw[ho.out];exact ho0)
         have hnew:Hid (h +1=s0∨gtB (X.getD (h+1-1-a) zR) (Y.getD (n-(h +1)-m) zR)=false):=hid (Or.inr (by rw[Nat.add_sub_cancel,show n-(h+1)=l by have:= Hl.out;omega,hx.out,hy.out];exact hgt))
         have hd:decide (o<0)=false:=by simpa using ho0
         simp only[hd,Bool.not_false]
         clear hgt
         go_wp2_with fail
         go_roundw
         case rel=>exact ⟨h+1,q,by go_num,rfl,by omega,by omega,h3,hbw,hnew,hhi,hB3⟩
         case measure=>simp[intOf];omega
     · obtain rfl:q=p:=by omega
       obtain ⟨f,hf⟩:∃f:Nat,f=n-q:=⟨_,rfl⟩
       have t0:a≤q∧q≤m∧m≤f∧f≤b∧f+q=M+m:=by have:= hsr.out;have :=hn.out;have:= hM'.out;omega
       obtain ⟨t1,t2,t3,t4,t5⟩:=t0
       have e7:IntKind.i64.wrap ((n:Int)-q)=f:=(wrap64 (by omega) (by omega)).trans (by omega)
       have hcut:=merge_cut hX hY (i:=q-a) (j:=f-m) (by have :=Hm.out;omega) (by have:= Hb.out;omega) (by
         rcases hlo.out with h|h
         · rcases hsr.out with ⟨v1,v2,v3⟩|⟨v1,v2,v3⟩
           ·exact Or.inr (Or.inl (by have :=Hb.out;have :=hn.out;have:= hM'.out;omega))
           ·exact Or.inl (by omega)
         · refine Or.inr (Or.inr ?_)
           rw[show q-a-1=q-1-a by omega,hf];exact h) (by
         rcases hhi.out with h|h
         · rcases hsr.out with ⟨v1,v2,v3⟩|⟨v1,v2,v3⟩
           ·exact Or.inr (Or.inl (by have:= hn.out;omega))
           ·exact Or.inl (by have:= Hm.out;omega)
         · refine Or.inr (Or.inr ?_)
           rw[show f-m-1=n-1-q-m by omega];exact h)
       obtain ⟨X1,hX1⟩:∃X1,Hid (X.take (q-a)=X1):=⟨_,rfl⟩
       obtain ⟨X2,hX2⟩:∃X2,Hid (X.drop (q-a)=X2):=⟨_,rfl⟩
       obtain ⟨Y1,hY1⟩:∃Y1,Hid (Y.take (f -m)=Y1):=⟨_,rfl⟩
       obtain ⟨Y2,hY2⟩:∃Y2,Hid (Y.drop (f-m)=Y2):=⟨_,rfl⟩
       have lX1:X1.length=q-a:=by rw[←hX1.out];simp;have :=Hm.out;omega
       have lX2:X2.length=m-q:=by rw[←hX2.out];simp;have:= Hm.out;omega
       have lY1:Y1.length=f-m:=by rw[←hY1.out];simp;have :=Hb.out;omega
       have lY2:Y2.length=b-f:=by rw[←hY2.out];simp;have :=Hb.out;omega
       have sX1:Srt X1:=by rw[←hX1.out];exact hX.take _
       have sX2:Srt X2:=by rw[←hX2.out];exact hX.drop _
       have sY1:Srt Y1:=by rw[←hY1.out];exact hY.take _
       have sY2:Srt Y2:=by rw[←hY2.out];exact hY.drop _
       have eX:X=X1++X2:=by rw[←hX1.out,←hX2.out,List.take_append_drop]
       have eY:Y=Y1++Y2:=by rw[←hY1.out,←hY2.out,List.take_append_drop]
       rw[hX1.out,hX2.out,hY1.out,hY2.out] at hcut
       have hL0:(P ++X1)++(X2++(Y1 ++(Y2++Q)))=P++(X ++(Y ++Q)):=by rw[eX,eY];simp
       have hL1:(P ++X1)++(Y1 ++(X2 ++(Y2 ++Q)))=P++(X1 ++(Y1 ++(X2 ++(Y2 ++Q)))):=by simp
       have toL1:¬(q<m∧m<f)→∀W,Blo W g (P ++(X ++(Y ++Q)))→Blo W g (P ++(X1 ++(Y1 ++(X2 ++(Y2 ++Q))))):=fun h W hW=>by
         rw[←hL0] at hW
         rcases (show X2=[]∨Y1=[] by
           by_cases hq:q<m
           ·exact Or.inr (List.eq_nil_of_length_eq_zero (by omega))
           ·exact Or.inl (List.eq_nil_of_length_eq_zero (by omega))) with h|h
         ·rw[h] at hW⊢;simpa using hW
         ·rw[h] at hW⊢;simpa using hW
       have toL2:¬(a <q∧q<M)→∀W,Blo W g (P ++(X1 ++(Y1 ++(X2 ++(Y2 ++Q)))))→Blo W g (P ++(sortR (X1 ++Y1)++(X2++(Y2 ++Q)))):=fun h W hW=>by
         rw[sort_one_side sX1 sY1 (by
           by_cases hq:a<q
           ·exact Or.inr (List.eq_nil_of_length_eq_zero (by omega))
           ·exact Or.inl (List.eq_nil_of_length_eq_zero (by omega)))]
         simpa using hW
       have toL3:¬(M<f∧f<b)→∀W,Blo W g (P ++(sortR (X1 ++Y1)++(X2++(Y2 ++Q))))→Blo W g ((P++sortR (X1 ++Y1))++(sortR (X2 ++Y2)++Q)):=fun h W hW=>by
         rw[sort_one_side sX2 sY2 (by
           by_cases hq:M<f
           ·exact Or.inr (List.eq_nil_of_length_eq_zero (by omega))
           ·exact Or.inl (List.eq_nil_of_length_eq_zero (by omega)))]
         simpa using hW
       have toT:∀W,Blo W g ((P ++sortR (X1 ++Y1))++(sortR (X2 ++Y2)++Q))→Blo W g (P ++(sortR (X ++Y)++Q)):=fun W hW=>by
         rw[←hcut];simpa using hW
       have lS1:(sortR (X1 ++Y1)).length=M-a:=by rw[sort_length,List.length_append];omega
       have N1:N=(P++(X1 ++(Y1 ++(X2 ++(Y2++Q))))).length:=by
         rw[HN.out,←hL0];simp;omega
       have N2:N=((P++sortR (X1 ++Y1))++(X2 ++(Y2 ++Q))).length:=by
         rw[N1];simp[sort_length];omega
       have eL2:(P++sortR (X1 ++Y1))++(X2 ++(Y2 ++Q))=P++(sortR (X1++Y1)++(X2++(Y2 ++Q))):=by simp
       have s1:a<q→q<M→Sym P X1 Y1 (X2++(Y2 ++Q)):=fun _ _=>ih P X1 Y1 _ (by have :=Hk.out;have :=Hm.out;have :=Hb.out;have:= hM'.out;omega) sX1 sY1 (by omega) (by omega)
       have s2:M<f→f<b→Sym (P++sortR (X1++Y1)) X2 Y2 Q:=fun _ _=>ih _ X2 Y2 Q (by have:= Hk.out;have :=Hm.out;have:= Hb.out;have:= hM'.out;omega) sX2 sY2 (by omega) (by omega)
       have aP:(a :Int)=P.length:=by have:= Ha.out;omega
       have HaP:=hid aP
       have HlX1:=hid lX1
       have HlX2:=hid lX2
       have HlY1:=hid lY1
       have HlY2:=hid lY2
       have HlS1:=hid lS1
       have HN1:=hid N1
       have HN2:=hid N2
       have HeL2:=hid eL2
       have HL0:=hid hL0
       have HL1:=hid hL1
       have toL1:=hid toL1
       have toL2:=hid toL2
       have toL3:=hid toL3
       have toT:=hid toT
       have s1:=hid s1
       have s2:=hid s2
       clear hcut hX1 hX2 hY1 hY2 lX1 lX2 lY1 lY2 lS1 N1 N2 eL2 hL0 hL1 eX eY sX1 sX2 sY1 sY2 aP ih hX hY hlo hhi Hgx Hgy Hrng hsr HX1 HY1 Hk
       have hqf:(q :Int)+f=M+m:=by omega
       by_cases g1:q<m<;>by_cases g2:m<f<;>by_cases g3:a<q<;>by_cases g6:f<b
       all_goals
         first
         |(exfalso;omega)
         | (have g4:q<M↔m<f:=by omega
            have g5:M<f↔q<m:=by omega
            have i1:(q:Int)<m↔q<m:=by omega
            have i2:(m :Int)<f↔m<f:=by omega
            have i3:(a :Int)<q↔a<q:=by omega
            have i4:(q:Int)<M↔m<f:=by omega
            have i5:(M :Int)<f↔q<m:=by omega
            have i6:(f :Int)<b↔f<b:=by omega
            simp only[g1,g2,g3,g6,iff_true,iff_false] at i1 i2 i3 i4 i5 i6
            go_wp2_with (first
              |(go_at_call 150;refine (rotate_at (P ++X1) X2 Y1 (Y2 ++Q) _ _ (by have :=HlX2.out;omega) (by have := HlY1.out; omega) HL0.out HL1.out g N cap _ _ _ (by have := HlX1.out; have := HaP.out; simp; omega) (by have := HlX1.out; have := HlX2.out; have := HaP.out; simp; omega) (by have := HlX1.out; have := HlX2.out; have := HlY1.out; have := HaP.out; simp; omega) _ HN.out hN2 hblo.out).mono ?_; rintro e w1 ⟨rfl, hs1⟩; have hcur1 := hid hs1.blo; have hbel := hbel.trans hs1.bel; clear hs1)
              | (go_at_call 122; refine (s1.out (by omega) (by omega) g N cap _ _ _ (by have := HaP.out; omega) (by have := HaP.out; have := HlX1.out; omega) (by have := HaP.out; have := HlX1.out; have := HlY1.out; omega) _ HN1.out hN2 (by first | exact hcur1.out | exact toL1.out (by omega) _ hblo.out)).mono ?_; rintro e w2 ⟨rfl, hs2⟩; have hcur2 := hid hs2.blo; have hbel := hbel.trans hs2.bel; clear hs2)
              | (go_at_call 122; refine (s2.out (by omega) (by omega) g N cap _ _ _ (by have := HaP.out; have := HlS1.out; simp; omega) (by have := HaP.out; have := HlS1.out; have := HlX2.out; simp; omega) (by have := HaP.out; have := HlS1.out; have := HlX2.out; have := HlY2.out; simp; omega) _ HN2.out hN2 (by rw [HeL2.out]; first | exact hcur2.out | exact toL2.out (by omega) _ hcur1.out | exact toL2.out (by omega) _ (toL1.out (by omega) _ hblo.out))).mono ?_; rintro e w3 ⟨rfl, hs3⟩; have hcur3 := hid hs3.blo; have hbel := hbel.trans hs3.bel; clear hs3))
            first | go_end0 | refine bodyPost_ret (results_none rfl _ _ _) rfl ?_
            refine ⟨rfl, hbel, toT.out _ ?_⟩
            first | exact hcur3.out | exact toL3.out (by omega) _ hcur2.out | exact toL3.out (by omega) _ (toL2.out (by omega) _ hcur1.out) | exact toL3.out (by omega) _ (toL2.out (by omega) _ (toL1.out (by omega) _ hblo.out)))
theorem sym_any:∀(k:Nat) (P X Y Q:List Rc),X.length+Y.length≤k→Srt X→Srt Y→0<X.length→0<Y.length→Sym P X Y Q:=by
 intro k
 induction k with
 |zero=>intro P X Y Q hk _ _ h1 _;omega
 |succ k ih=>
  intro P X Y Q hk hX hY h1 h2
  by_cases hx:X.length=1
  ·obtain ⟨x,rfl⟩:=List.length_eq_one_iff.1 hx
   exact sym_left P Y Q x hY
  by_cases hy:Y.length=1
  ·obtain ⟨y,rfl⟩:=List.length_eq_one_iff.1 hy
   exact sym_right P X Q y hX h1 hx
  intro g N cap a m b ha hm hb w hN hN2 hB
  have :=sym_step k ih P X Y Q hk hX hY (by omega) (by omega) g N cap P.length (P.length +X.length) (P.length +X.length+Y.length) rfl rfl rfl w hN hN2 hB
  subst ha hm hb
  simpa using this
end Go.Proofs.YtofcnebekmjdoaaGreatDoor.Dy
