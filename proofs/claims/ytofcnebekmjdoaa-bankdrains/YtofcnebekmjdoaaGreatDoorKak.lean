import Derived.Test.YtofcnebekmjdoaaGreatDoorKaj
set_option maxHeartbeats 4000000
set_option maxRecDepth 100000
namespace Go.Proofs.YtofcnebekmjdoaaGreatDoor.Dy
open Go.RowKit Go.Proofs.YtofcnebekmjdoaaGreatDoor.Gn
def fo:Value:=.func (.func 73) #[] #[]
structure Sorts (w:World) (g:Nat) (L:List Rc) (w':World):Prop where
 bel:Below g w w'
 blo:Blo w' g L
theorem wrap64 {x:Int}(h1:-9223372036854775808≤x) (h2:x≤9223372036854775807):IntKind.i64.wrap x=x:=by
 simp[IntKind.wrap,IntKind.bits,IntKind.signed]
 omega
theorem Blo.drew {w:World}{g:Nat}{L:List Rc}(h:Blo w g L):Blo w.drew g L:=h.keep rfl
theorem Blo.swp {w:World} {g:Nat} {L:List Rc}(h:Blo w g L){i j:Nat}(hi:i<L.length) (hj:j<L.length){x y:Rc}(hx:L.getD i zR=x) (hy:L.getD j zR=y):Blo (put4 (put4 w g (i*4) y) g (j *4) x) g (swp L i j):=by
 subst hx hy
 exact (h.put hi rfl _).put (by rw[List.length_set];exact hj) rfl _
theorem swapRange_any (P U V W Q:List Rc) (n:Nat) (hu:U.length=n) (hw:W.length=n) (g N cap a b:Nat) (ha:a=P.length) (hb:b=P.length+n+V.length) (w:World)
  (hN:N=(P ++(U ++(V++(W ++Q)))).length) (hN2:N≤1152921504606846976) (hB:Blo w g (P ++(U++(V ++(W ++Q))))):
  Calls Tryz.prog 168 #[.slice (some ⟨g,0,none⟩) N cap,.int .i64 a,.int .i64 b,.int .i64 n,fo] w fun e w'=>e=.returned (.tuple #[])∧Sorts w g (P ++(W ++(V ++(U ++Q)))) w':=by
 rw[←swd_zero P U V W Q] at hB hN
 rw[←swd_end (P:=P) (V:=V) (Q:=Q) hu hw]
 have hN':∀k,k≤n→(swd P U V W Q k).length=N:=fun k hk=>by rw[hN,swd_length hu hw hk,swd_length hu hw (Nat.zero_le _)]
 have hNn:P.length+n+V.length+n+Q.length=N:=by rw[hN,swd_length hu hw (Nat.zero_le _)]
 clear hN
 unfold fo
 go_enter Tryz.func168,Tryz.ntmps168
 go_wp2
 go_loopw[10](fun i wr=>∃k:Nat,k≤n∧i=.int .i64 k∧Below g w wr∧Hid (Blo wr g (swd P U V W Q k))) (fun i _=>n-(intOf i).toNat)
 case atStart=>exact ⟨0,Nat.zero_le _,rfl,Below.refl _ _,hB⟩
 case round=>
  obtain ⟨k,hk,rfl,hbel,hblo⟩:=hrel
  by_cases hlt:k<n
  ·have hlt':(k:Int)<n:=by omega
   have hL:=hN' k hk
   obtain ⟨c1,c2,c3,c4⟩:=hblo.out.cells (i:=a+k) (by omega)
   obtain ⟨d1,d2,d3,d4⟩:=hblo.out.cells (i:=b+k) (by omega)
   have fr:=hblo.out.free
   have hnext:=swd_next (P:=P) (V:=V) (Q:=Q) (a:=a+k) (b:=b+k) hu hw hlt (by omega) (by omega)
   have hij:a+k≠b+k:=by omega
   have hi:a+k<N:=by omega
   have hj:b+k<N:=by omega
   have Ha:=hid ha
   have Hb:=hid hb
   have Hn:=hid hnext
   have HL:=hid hL
   have HN:=hid hN'
   have hb':b≤1152921504606846976:=by omega
   have ha':a≤1152921504606846976:=by omega
   have hk':k≤1152921504606846976:=by omega
   clear ha hb hnext hL hN' hNn hu hw
   go_upto_region 3 with fail
   generalize hx:(swd P U V W Q k).getD (a +k) zR=x at*
   generalize hy:(swd P U V W Q k).getD (b+k) zR=y at*
   go_region
   have hP:=hblo.out.swp (i:=a+k) (j:=b+k) (by rw[HL.out];exact hi) (by rw[HL.out];exact hj) hx hy
   have hQ:=put4_below (put4_below hbel g ((a+k)*4) (Nat.le_refl _) y) g ((b +k)*4) (Nat.le_refl _) x
   rw[Hn.out] at hP
   unfold put4 at hP hQ
   go_wp2_with fail
   go_roundw
   case rel=>exact ⟨k+1,by omega,by go_num,hQ.drew,hP.drew⟩
   case measure=>simp[intOf];omega
  ·have hk2:k=n:=by omega
   subst hk2
   go_wp2_with fail
   go_end0
   exact ⟨rfl,hbel,hblo.out⟩
theorem sort_le_one {X:List Rc} (h:X.length≤1):sortR X=X:=by
 match X,h with
 |[],_=>rfl
 |[x],_=>exact sort_of_srt (List.pairwise_singleton _ _)
theorem take_sort_length {X:List Rc} {k:Nat}(h:k≤X.length):(sortR (X.take k)).length=k:=by rw [sort_length];simp;omega
theorem insertion_any (P X Q:List Rc) (g N cap a b:Nat) (ha:a=P.length) (hb:b=P.length+X.length) (w:World)
  (hN:N=(P ++(X++Q)).length) (hN2:N≤1152921504606846976) (hB:Blo w g (P ++(X ++Q))):
  Calls Tryz.prog 121 #[.slice (some ⟨g,0,none⟩) N cap,.int .i64 a,.int .i64 b,fo] w fun e w'=>e=.returned (.tuple #[])∧Sorts w g (P ++(sortR X++Q)) w':=by
 have hNn:P.length+X.length+Q.length=N:=by rw[hN];simp;omega
 clear hN
 unfold fo
 go_enter Tryz.func121,Tryz.ntmps121
 go_wp2
 go_loopw[8](fun i wr=>∃k:Nat,1≤k∧(k≤X.length∨k=1)∧i=.int .i64 ((a :Int)+k)∧Below g w wr∧Hid (Blo wr g (P++(sortR (X.take k)++(X.drop k++Q))))) (fun i _=>b+1-(intOf i).toNat)
 case atStart=>
  refine ⟨1,Nat.le_refl _,Or.inr rfl,by go_num,Below.refl _ _,?_⟩
  rw[sort_le_one (by simp;omega),←List.append_assoc (X.take 1),List.take_append_drop]
  exact hB
 case round=>
  obtain ⟨k,hk1,hk2,rfl,hbel,hblo⟩:=hrel
  by_cases hlt:k<X.length
  ·have hlt':(a:Int)+k<b:=by omega
   obtain ⟨x,hx⟩:∃x,Hid (X.getD k zR=x):=⟨_,rfl⟩
   obtain ⟨S,hS⟩:∃S,Hid (sortR (X.take k)=S):=⟨_,rfl⟩
   obtain ⟨R,hR⟩:∃R,Hid (X.drop (k +1)++Q=R):=⟨_,rfl⟩
   have hSl:S.length=k:=by rw[←hS.out];exact take_sort_length (by omega)
   have h0:Blo wr g (P++(mid S x k++R)):=by
    have:= hblo.out
    rw[hS.out,drop_at hlt,hx.out,List.cons_append,hR.out] at this
    rw[←hSl,mid_end];simpa using this
   have hend:∀p,pos x S S.length=p→Hid (Blo wr g (P ++(mid S x p++R))=Blo wr g (P ++(sortR (X.take (k +1))++(X.drop (k +1)++Q)))):=fun p hp=>by
    refine hid ?_
    rw[sort_next hlt,hx.out,hS.out,ins_mid hp,hR.out]
   have hRl:P.length+(k +1)+R.length=N:=by rw[←hR.out];simp;omega
   have hmid:∀p,p≤k→(P ++(mid S x p++R)).length=N:=fun p hp=>by
    rw[List.length_append,List.length_append,mid_length _ _ (by omega)];omega
   have Hmid:=hid hmid
   have HN:=hid hNn
   have Hend:∀W p,pos x S S.length=p→Blo W g (P ++(mid S x p++R))→Hid (Blo W g (P ++(sortR (X.take (k+1))++(X.drop (k +1)++Q)))):=fun W p hp hW=>by
    refine hid ?_
    rw[sort_next hlt,hx.out,hS.out,ins_mid hp,hR.out];exact hW
   have Ha:=hid ha
   have Hb:=hid hb
   have ha':a≤1152921504606846976:=by omega
   have hb':b≤1152921504606846976:=by omega
   have haN:a+k<N:=by omega
   clear hend hmid hblo hRl hNn ha hb hB
   go_wp2_with fail
   generalize wr=W0 at*
   go_loopw[9](fun j wr=>∃q:Nat,a≤q∧q≤a+k∧j=.int .i64 (q :Int)∧Below g w wr∧Hid (pos x S S.length=pos x S (q -a))∧Hid (Blo wr g (P ++(mid S x (q-a)++R)))) (fun j _=>(intOf j).toNat)
   case atStart=>
    refine ⟨a+k,by omega,by omega,by go_num,hbel,?_,?_⟩
    ·rw[hSl,Nat.add_sub_cancel_left];exact hid rfl
    ·rw[Nat.add_sub_cancel_left];exact h0
   case round=>
    obtain ⟨q,hq1,hq2,rfl,hbel2,hpos,hblo2⟩:=hrel
    by_cases hqa:q=a
    ·subst hqa
     have hz:q-q=0:=Nat.sub_self q
     rw[hz] at hpos hblo2
     have hE:=Hend wr 0 hpos.out hblo2.out
     clear hz
     go_upto_region 4 with fail
     go_quiet (fail)
     go_wp2_with fail
     go_roundw
     case rel=>exact ⟨k+1,by omega,by omega,by go_num,below_drewN hbel2 _,hE.out.keep rfl⟩
     case measure=>simp[intOf];omega
    ·obtain ⟨r,rfl⟩:∃r,q=r+1:=⟨q-1,by omega⟩
     have hg:a<r+1:=by omega
     have hg2:a≤r:=by omega
     have hd:decide ((a:Int)<(r :Int)+1)=true:=by simp;omega
     have hI0:(0 :Int)≤(r :Int)+1:=by omega
     have hI1:(r:Int)+1<N:=by omega
     have hI2:(r:Int)<N:=by omega
     have hI3:r<N:=by omega
     have hW1:IntKind.i64.wrap ((r:Int)+1-1)=r:=(wrap64 (by omega) (by omega)).trans (by omega)
     have hW2:IntKind.i64.wrap (r :Int)=r:=wrap64 (by omega) (by omega)
     have hp:r+1-a=(r -a)+1:=by omega
     rw[hp] at hpos hblo2
     have hL:=Hmid.out (r -a+1) (by omega)
     have hi:r+1<N:=by omega
     obtain ⟨c1,c2,c3,c4⟩:=hblo2.out.cells (i:=r+1) (by omega)
     obtain ⟨d1,d2,d3,d4⟩:=hblo2.out.cells (i:=r) (by omega)
     have hy1:=mid_at P S x R (p:=r-a+1) (i:=r+1) (by omega) (by rw[←Ha.out];omega)
     have hy2:=mid_ahead P S x R (p:=r-a) (i:=r) (by omega) (by rw[←Ha.out];omega)
     have hnext:=swp_mid P S x R (p:=r-a) (i:=r) (j:=r+1) (by omega) (by rw[←Ha.out];omega) (by rw[←Ha.out];omega)
     obtain ⟨y,hy⟩:∃y,Hid (S.getD (r-a) zR=y):=⟨_,rfl⟩
     rw[hy.out] at hy2
     rw[hy1] at c1 c2 c3 c4
     rw[hy2] at d1 d2 d3 d4
     have fr:=hblo2.out.free
     have hsz:=hblo2.out.lt
     have Hnext:=hid hnext
     have Hy1:=hid hy1
     have Hy2:=hid hy2
     have HL:=hid hL
     clear hnext hy1 hy2 hL hp hqa
     obtain ⟨o,ho⟩:∃o,Hid (ordR x y=o):=⟨_,rfl⟩
     have hord:∀W:World,Calls Tryz.prog 73 #[rv x,rv y] W fun e w'=>e=.returned (.int .i64 o)∧Below W.heap.size W w':=fun W=>by rw[←ho.out];exact order_any x y W
     unfold rv at hord
     have hkeep:∀W:World,Below wr.heap.size wr W→W.cell? ⟨g,(r +1)*4,none⟩=some (.int .i64 x.sh)∧W.cell? ⟨g,(r+1)*4+1,none⟩=some (.int .i64 x.au)∧W.cell? ⟨g,(r+1)*4+2,none⟩=some (.int .i64 x.k)∧W.cell? ⟨g,(r+1)*4+3,none⟩=some (.int .i64 x.m)∧W.cell? ⟨g,r*4,none⟩=some (.int .i64 y.sh)∧W.cell? ⟨g,r*4+1,none⟩=some (.int .i64 y.au)∧W.cell? ⟨g,r*4+2,none⟩=some (.int .i64 y.k)∧W.cell? ⟨g,r*4+3,none⟩=some (.int .i64 y.m):=fun W hb=>⟨(hb.cell (p:=⟨g,_,none⟩) hsz).trans c1,(hb.cell (p:=⟨g,_,none⟩) hsz).trans c2,(hb.cell (p:=⟨g,_,none⟩) hsz).trans c3,(hb.cell (p:=⟨g,_,none⟩) hsz).trans c4,(hb.cell (p:=⟨g,_,none⟩) hsz).trans d1,(hb.cell (p:=⟨g,_,none⟩) hsz).trans d2,(hb.cell (p:=⟨g,_,none⟩) hsz).trans d3,(hb.cell (p:=⟨g,_,none⟩) hsz).trans d4⟩
     have fr1:∀W:World,Below wr.heap.size wr W→∀p,W.frozen? ⟨g,p,none⟩=false:=fun W hb=>(hblo2.out.below hb hsz).free
     go_upto_region 4 with fail
     go_region_held3 (fun w'=>w'.cell? ⟨g,(r+1)*4,none⟩=some (.int .i64 x.sh)∧w'.cell? ⟨g,(r +1)*4+1,none⟩=some (.int .i64 x.au)∧w'.cell? ⟨g,(r+1)*4+2,none⟩=some (.int .i64 x.k)∧w'.cell? ⟨g,(r +1)*4+3,none⟩=some (.int .i64 x.m)∧w'.cell? ⟨g,r*4,none⟩=some (.int .i64 y.sh)∧w'.cell? ⟨g,r*4+1,none⟩=some (.int .i64 y.au)∧w'.cell? ⟨g,r*4+2,none⟩=some (.int .i64 y.k)∧w'.cell? ⟨g,r*4+3,none⟩=some (.int .i64 y.m)) (first|exact ⟨c1,c2,c3,c4,d1,d2,d3,d4⟩|exact hkeep _ hb2)
      ((go_at_call 73;refine (hord _).mono ?_;rintro e w1 ⟨rfl,hb1⟩;have hb2:Below wr.heap.size wr w1:=(Below.refl wr.heap.size wr).drew.trans hb1;clear hb1))
     have hbl3:=hb2
     have hB3:=hid (hblo2.out.below hb2 hsz)
     obtain ⟨c1,c2,c3,c4,d1,d2,d3,d4⟩:=hkeep w1 hb2
     have fr3:=fr1 w1 hb2
     have hbw:Below g w w1:=hbel2.trans (hb2.mono (Nat.le_of_lt hsz))
     clear hb2 hkeep fr1 hord fr
     by_cases ho0:o<0
     ·have hgt:gtB (S.getD (r -a) zR) x=true:=by rw[hy.out];exact ord_neg.1 (by rw[ho.out];exact ho0)
      have hpos2:=hid (hpos.out.trans (pos_go hgt))
      have Hgt:=hid hgt
      clear hgt
      go_upto_region 6 with fail
      go_region
      have hP:=hB3.out.swp (i:=r+1) (j:=r) (by rw[HL.out];exact hi) (by rw[HL.out];exact hI3) Hy1.out Hy2.out
      have hQ:=put4_below (put4_below hbw g ((r +1)*4) (Nat.le_refl _) y) g (r*4) (Nat.le_refl _) x
      rw[Hnext.out] at hP
      unfold put4 at hP hQ
      go_wp2_with fail
      go_roundw
      case rel=>exact ⟨r,by omega,by omega,by go_num,hQ.drew,hpos2,hP.drew⟩
      case measure=>simp[intOf]
     ·have hgt:gtB (S.getD (r -a) zR) x=false:=by rw[hy.out];exact ord_pos.1 (by rw[ho.out];exact ho0)
      have hE:=Hend w1 (r -a+1) (hpos.out.trans (pos_stay hgt)) hB3.out
      clear hgt
      go_wp2_with fail
      go_roundw
      case rel=>exact ⟨k+1,by omega,by omega,by go_num,hbw,hE.out⟩
      case measure=>simp[intOf];omega
  ·have hblo2:Blo wr g (P++(sortR X++Q)):=by
    have:= hblo.out
    rw[List.take_of_length_le (by omega),List.drop_eq_nil_of_le (by omega)] at this
    simpa using this
   have hge:¬((a :Int)+k<b):=by omega
   go_wp2_with fail
   go_end0
   exact ⟨rfl,hbel,hblo2⟩
theorem swapRange_at (P U V W Q L L':List Rc) (n:Nat) (hu:U.length=n) (hw:W.length=n) (hL:P++(U ++(V ++(W ++Q)))=L) (hL':P++(W ++(V ++(U++Q)))=L') (g N cap:Nat) (a b c:Int) (ha:a=P.length) (hb:b=P.length+n+V.length) (hc:c=n) (w:World)
  (hN:N=L.length) (hN2:N≤1152921504606846976) (hB:Blo w g L):
  Calls Tryz.prog 168 #[.slice (some ⟨g,0,none⟩) N cap,.int .i64 a,.int .i64 b,.int .i64 c,.func (.func 73) #[] #[]] w fun e w'=>e=.returned (.tuple #[])∧Sorts w g L' w':=by
 subst hL hL'
 have:= swapRange_any P U V W Q n hu hw g N cap P.length (P.length+n+V.length) rfl rfl w hN hN2 hB
 subst ha hc hb
 simpa[fo] using this
theorem insertion_at (P X Q:List Rc) (g N cap:Nat) (a b:Int) (ha:a=P.length) (hb:b=P.length+X.length) (w:World)
  (hN:N=(P++(X++Q)).length) (hN2:N≤1152921504606846976) (hB:Blo w g (P ++(X ++Q))):
  Calls Tryz.prog 121 #[.slice (some ⟨g,0,none⟩) N cap,.int .i64 a,.int .i64 b,.func (.func 73) #[] #[]] w fun e w'=>e=.returned (.tuple #[])∧Sorts w g (P ++(sortR X++Q)) w':=by
 have:= insertion_any P X Q g N cap P.length (P.length +X.length) rfl rfl w hN hN2 hB
 subst ha hb
 simpa[fo] using this
theorem rotate_any (P U V Q L L':List Rc) (hU:0<U.length) (hV:0<V.length) (hL:P++(U ++(V ++Q))=L) (hL':P++(V++(U++Q))=L') (g N cap a m b:Nat) (ha:a=P.length) (hm:m=P.length+U.length) (hb:b=P.length+U.length+V.length) (w:World)
  (hN:N=L.length) (hN2:N≤1152921504606846976) (hB:Blo w g L):
  Calls Tryz.prog 150 #[.slice (some ⟨g,0,none⟩) N cap,.int .i64 a,.int .i64 m,.int .i64 b,.func (.func 73) #[] #[]] w fun e w'=>e=.returned (.tuple #[])∧Sorts w g L' w':=by
 have hNn:P.length+U.length+V.length+Q.length=N:=by rw[hN,←hL];simp;omega
 obtain ⟨u0,hu0⟩:∃u0:Nat,U.length=u0:=⟨_,rfl⟩
 obtain ⟨v0,hv0⟩:∃v0:Nat,V.length=v0:=⟨_,rfl⟩
 have hm1:a≤m:=by omega
 have hm2:m≤b:=by omega
 have hm3:b≤N:=by omega
 have e1:(m:Int)-a=u0:=by omega
 have e2:(b :Int)-m=v0:=by omega
 have e1w:IntKind.i64.wrap ((m :Int)-a)=u0:=(wrap64 (by omega) (by omega)).trans e1
 have e2w:IntKind.i64.wrap ((b :Int)-m)=v0:=(wrap64 (by omega) (by omega)).trans e2
 have hmP:P.length+u0=m:=by omega
 have Hstart:Hid (P++(V++(U++Q))=L'):=hL'
 have HL:Hid (P ++(U ++(V ++Q))=L):=hL
 have HN:Hid (N=L.length):=hN
 have hU1:0<u0:=by omega
 have hV1:0<v0:=by omega
 have hs:P.length+u0+v0+Q.length=N:=by omega
 clear hL hL' hN ha hm hb hU hV hNn
 go_enter Tryz.func150,Tryz.ntmps150
 go_wp2
 go_loopw[10,11](fun i j wr=>∃(u v p q:Nat) (P U V Q:List Rc),i=.int .i64 u∧j=.int .i64 v∧0<u∧0<v∧p+u=m∧p+u+v+q=N∧Hid (P.length=p)∧Hid (U.length=u)∧Hid (V.length=v)∧Hid (Q.length =q)∧Below g w wr∧Hid (P++(V++(U++Q))=L')∧Hid (Blo wr g (P++(U++(V++Q))))) (fun i j _=>(intOf i).toNat+(intOf j).toNat)
 case atStart=>exact ⟨u0,v0,P.length,Q.length,P,U,V,Q,rfl,rfl,hU1,hV1,hmP,hs,rfl,hu0,hv0,rfl,Below.refl _ _,Hstart,by rw[HL.out];exact hB⟩
 case round=>
  clear hB HL Hstart hu0 hv0 hmP hs P U V Q e1 e2 e1w e2w hU1 hV1
  obtain ⟨u,v,p,q,P,U,V,Q,rfl,rfl,hu,hv,hmP,hs,hp,hu1,hv1,hq,hbel,hL',hblo⟩:=hrel
  have hlen:N=(P ++(U++(V++Q))).length:=by have :=hp.out;have:= hu1.out;have :=hv1.out;have:= hq.out;simp;omega
  have Hlen:=hid hlen
  clear hlen
  by_cases h1:u=v
  ·subst h1
   have h1':((u:Int)!=(u :Int))=false:=by simp
   have HL2:P++(U++([]++(V ++Q)))=P++(U ++(V++Q)):=by simp
   have HL3:P++(V ++([]++(U ++Q)))=L':=by rw[←hL'.out];simp
   have c1:=hid HL2
   have c2:=hid HL3
   clear HL2 HL3
   go_wp2_with (go_at_call 168;refine (swapRange_at P U [] V Q _ _ u hu1.out hv1.out c1.out c2.out g N cap _ _ _ (by have :=hp.out;omega) (by have :=hp.out;simp;omega) rfl _ Hlen.out hN2 hblo.out).mono ?_;rintro e w1 ⟨rfl,hs1⟩)
   go_end0
   exact ⟨rfl,hbel.trans hs1.bel,hs1.blo⟩
  ·have h1':((u :Int)!=(v :Int))=true:=by simp;omega
   by_cases h2:v<u
   ·have h2':(v :Int)<u:=by omega
    obtain ⟨U1,U2,rfl,hU1⟩:=cut U (n:=v) (by have:= hu1.out;omega)
    have hU2:U2.length=u-v:=by have :=hu1.out;simp at this;omega
    have c1:Hid (P ++(U1 ++(U2 ++(V ++Q)))=P++((U1++U2)++(V++Q))):=hid (by simp)
    have e3:IntKind.i64.wrap ((u :Int)-v)=((u-v:Nat):Int):=(wrap64 (by omega) (by omega)).trans (by omega)
    have e4:IntKind.i64.wrap ((m:Int)-u)=p:=(wrap64 (by omega) (by omega)).trans (by omega)
    have HU1:=hid hU1
    have HU2:=hid hU2
    clear hU1 hU2
    have c3:Hid ((P++V)++(U1 ++(U2 ++Q))=L'):=hid (by rw[←hL'.out];simp)
    go_wp2_with (go_at_call 168;refine (swapRange_at P U1 U2 V Q _ _ v HU1.out hv1.out c1.out rfl g N cap _ _ _ (by have :=hp.out;omega) (by have :=hp.out;have:= HU2.out;omega) rfl _ Hlen.out hN2 hblo.out).mono ?_;rintro e w1 ⟨rfl,hs1⟩)
    go_roundw
    case rel=>
     refine ⟨u-v,v,p+v,q,P++V,U2,U1,Q,by go_num,rfl,by omega,hv,by omega,by omega,?_,HU2,HU1,hq,hbel.trans hs1.bel,c3,?_⟩
     ·have h3:=hp.out;have h4:=hv1.out;exact hid (by simp;omega)
     ·have:= hs1.blo;exact hid (by simpa using this)
    case measure=>simp[intOf];omega
   ·have h2':¬((v:Int)<u):=by omega
    obtain ⟨V1,V2,rfl,hV1⟩:=cut V (n:=v-u) (by have :=hv1.out;omega)
    have hV2:V2.length=u:=by have :=hv1.out;simp at this;omega
    have c1:Hid (P ++(U++(V1++(V2++Q)))=P++(U ++((V1++V2)++Q))):=hid (by simp)
    have e3:IntKind.i64.wrap ((v:Int)-u)=((v-u:Nat):Int):=(wrap64 (by omega) (by omega)).trans (by omega)
    have e4:IntKind.i64.wrap ((m :Int)-u)=p:=(wrap64 (by omega) (by omega)).trans (by omega)
    have HV1:=hid hV1
    have HV2:=hid hV2
    clear hV1 hV2
    have c3:Hid (P ++(V1++(V2 ++(U++Q)))=L'):=hid (by rw[←hL'.out];simp)
    go_wp2_with (go_at_call 168;refine (swapRange_at P U V1 V2 Q _ _ u hu1.out HV2.out c1.out rfl g N cap _ _ _ (by have:= hp.out;omega) (by have:= hp.out;have :=HV1.out;omega) rfl _ Hlen.out hN2 hblo.out).mono ?_;rintro e w1 ⟨rfl,hs1⟩)
    go_roundw
    case rel=>
     refine ⟨u,v-u,p,u+q,P,V2,V1,U++Q,rfl,by go_num,hu,by omega,hmP,by omega,hp,HV2,HV1,?_,hbel.trans hs1.bel,c3,?_⟩
     ·have h3:=hu1.out;have h4:=hq.out;exact hid (by simp;omega)
     ·have :=hs1.blo;exact hid (by simpa using this)
    case measure=>simp[intOf];omega
theorem Blo.eight {w:World} {g:Nat} {L:List Rc}(h:Blo w g L){i j:Nat} {x y:Rc}(hi:i<L.length) (hj:j<L.length) (hx:L.getD i zR=x) (hy:L.getD j zR=y):
  w.cell? ⟨g,i*4,none⟩=some (.int .i64 x.sh)∧w.cell? ⟨g,i*4+1,none⟩=some (.int .i64 x.au)∧w.cell? ⟨g,i*4+2,none⟩=some (.int .i64 x.k)∧w.cell? ⟨g,i*4+3,none⟩=some (.int .i64 x.m)∧w.cell? ⟨g,j*4,none⟩=some (.int .i64 y.sh)∧w.cell? ⟨g,j*4+1,none⟩=some (.int .i64 y.au)∧w.cell? ⟨g,j*4+2,none⟩=some (.int .i64 y.k)∧w.cell? ⟨g,j*4+3,none⟩=some (.int .i64 y.m):=by
 subst hx hy
 obtain ⟨c1,c2,c3,c4⟩:=h.cells hi
 obtain ⟨d1,d2,d3,d4⟩:=h.cells hj
 exact ⟨c1,c2,c3,c4,d1,d2,d3,d4⟩
theorem swp_mid' (P S:List Rc) (x:Rc) (Q:List Rc) {p i j:Nat}(h:p<S.length) (hi:i=P.length+p) (hj:j=P.length+p+1):swp (P ++(mid S x p++Q)) i j=P++(mid S x (p +1)++Q):=by
 rw[mid_split S x h,mid_split' S x h]
 have e:∀y z:Rc,P++((S.take p++y::z::S.drop (p +1))++Q)=(P ++S.take p)++y::z::(S.drop (p+1)++Q):=fun y z=>by simp
 rw[e,e]
 exact swp_two _ _ [] _ _ (by simp;omega) (by simp;omega)
theorem mid_next (P S:List Rc) (x:Rc) (Q:List Rc){p i:Nat} (h:p<S.length) (hi:i=P.length+p+1):(P++(mid S x p++Q)).getD i zR=S.getD p zR:=by
 have e:P++(mid S x p++Q)=(P++S.take p++[x])++S.getD p zR::(S.drop (p+1)++Q):=by rw [mid_split' S x h];simp
 rw [e];exact getD_app' (by simp;omega) _ _
theorem getD_mid (P Y Q:List Rc){i:Nat}(h1:P.length≤i) (h2:i<P.length+Y.length):(P++(Y++Q)).getD i zR=Y.getD (i-P.length) zR:=by
 simp only[List.getD]
 rw[List.getElem?_append_right h1,List.getElem?_append_left (by omega)]
theorem symLeft_any (P Y Q:List Rc) (x:Rc) (hY:Srt Y) (g N cap a m b:Nat) (ha:a=P.length) (hm:m=a+1) (hb:b=m+Y.length) (w:World)
  (hN:N=(P ++(mid Y x 0++Q)).length) (hN2:N≤1152921504606846976) (hB:Blo w g (P ++(mid Y x 0++Q))):
  Calls Tryz.prog 122 #[.slice (some ⟨g,0,none⟩) N cap,.int .i64 a,.int .i64 m,.int .i64 b,.func (.func 73) #[] #[]] w fun e w'=>e=.returned (.tuple #[])∧Sorts w g (P ++(sortR (x ::Y)++Q)) w':=by
 have hNn:P.length+1+Y.length+Q.length=N:=by rw[hN,List.length_append,List.length_append,mid_length _ _ (Nat.zero_le _)];omega
 have HN:Hid (N =(P ++(mid Y x 0++Q)).length):=hN
 have hL0:P++(mid Y x 0++Q)=(P ++[x])++(Y ++Q):=by simp[mid]
 have hgx:(P ++(mid Y x 0++Q)).getD a zR=x:=mid_at P Y x Q (Nat.zero_le _) (by omega)
 have hgy:∀h,m≤h→h<b→(P ++(mid Y x 0++Q)).getD h zR=Y.getD (h -m) zR:=fun h h1 h2=>by
  rw[hL0,getD_mid (P++[x]) Y Q (by simp;omega) (by simp;omega)]
  congr 1
  simp;omega
 have Hgx:=hid hgx
 have Hgy:=hid hgy
 have Ha:=hid ha
 have Hb:=hid hb
 have e1:IntKind.i64.wrap ((m:Int)-a)=1:=(wrap64 (by omega) (by omega)).trans (by omega)
 have hmN:m≤b:=by omega
 have hbN:b≤N:=by omega
 have haN:a<m:=by omega
 have hm':Hid (m =a+1):=hm
 clear hN hL0 hgx hgy ha hb hNn hm
 go_enter Tryz.func122,Tryz.ntmps122
 go_wp2
 go_loopw[10,11](fun i j wr=>∃(p q:Nat),i=.int .i64 p∧j=.int .i64 q∧m≤p∧p≤q∧q≤b∧Below g w wr∧Hid (p=m∨gtB x (Y.getD (p -1-m) zR)=true)∧Hid (q=b∨gtB x (Y.getD (q-m) zR)=false)∧Hid (Blo wr g (P ++(mid Y x 0++Q)))) (fun i j _=>(intOf j).toNat-(intOf i).toNat)
 case atStart=>exact ⟨m,b,rfl,rfl,Nat.le_refl _,hmN,Nat.le_refl _,Below.refl _ _,Or.inl rfl,Or.inl rfl,hB⟩
 case round=>
  clear hB
  obtain ⟨p,q,rfl,rfl,h1,h2,h3,hbel,hlo,hhi,hblo⟩:=hrel
  by_cases hlt:p<q
  ·have hlt':(p :Int)<q:=by omega
   obtain ⟨h,hh,hh1,hh2⟩:∃h:Nat,((p :Int)+(q :Int))/2=(h :Int)∧p≤h∧h<q:=⟨(p +q)/2,by omega,by omega,by omega⟩
   have hgh:=Hgy.out h (by omega) (by omega)
   obtain ⟨y,hy⟩:∃y,Hid (Y.getD (h-m) zR=y):=⟨_,rfl⟩
   rw[hy.out] at hgh
   have hhN:h<N:=by omega
   have haN':a<N:=by omega
   have hsz:=hblo.out.lt
   have hkeep:∀W:World,Below wr.heap.size wr W→W.cell? ⟨g,h*4,none⟩=some (.int .i64 y.sh)∧W.cell? ⟨g,h*4+1,none⟩=some (.int .i64 y.au)∧W.cell? ⟨g,h*4+2,none⟩=some (.int .i64 y.k)∧W.cell? ⟨g,h*4+3,none⟩=some (.int .i64 y.m)∧W.cell? ⟨g,a*4,none⟩=some (.int .i64 x.sh)∧W.cell? ⟨g,a*4+1,none⟩=some (.int .i64 x.au)∧W.cell? ⟨g,a*4+2,none⟩=some (.int .i64 x.k)∧W.cell? ⟨g,a*4+3,none⟩=some (.int .i64 x.m):=fun W hb=>(hblo.out.below hb hsz).eight (by rw[←HN.out];exact hhN) (by rw[←HN.out];exact haN') hgh Hgx.out
   obtain ⟨c1,c2,c3,c4,d1,d2,d3,d4⟩:=hkeep wr (Below.refl _ _)
   have Hh:=hid hh
   have HI1:(h :Int)<N:=by omega
   have HI2:(a:Int)<N:=by omega
   obtain ⟨o,ho⟩:∃o,Hid (ordR y x=o):=⟨_,rfl⟩
   have hord:∀W:World,Calls Tryz.prog 73 #[rv y,rv x] W fun e w'=>e=.returned (.int .i64 o)∧Below W.heap.size W w':=fun W=>by rw[←ho.out];exact order_any y x W
   unfold rv at hord
   clear hgh
   go_upto_region 5 with fail
   try simp only[hh]
   clear hh
   go_region_held3 (fun w'=>w'.cell? ⟨g,h*4,none⟩=some (.int .i64 y.sh)∧w'.cell? ⟨g,h*4+1,none⟩=some (.int .i64 y.au)∧w'.cell? ⟨g,h*4+2,none⟩=some (.int .i64 y.k)∧w'.cell? ⟨g,h*4+3,none⟩=some (.int .i64 y.m)∧w'.cell? ⟨g,a*4,none⟩=some (.int .i64 x.sh)∧w'.cell? ⟨g,a*4+1,none⟩=some (.int .i64 x.au)∧w'.cell? ⟨g,a*4+2,none⟩=some (.int .i64 x.k)∧w'.cell? ⟨g,a*4+3,none⟩=some (.int .i64 x.m)) (first|exact ⟨c1,c2,c3,c4,d1,d2,d3,d4⟩|exact hkeep _ hb2)
    ((go_at_call 73;refine (hord _).mono ?_;rintro e w1 ⟨rfl,hb1⟩;have hb2:Below wr.heap.size wr w1:=(Below.refl wr.heap.size wr).drew.trans hb1;clear hb1))
   have hB3:=hid (hblo.out.below hb2 hsz)
   have hbw:Below g w w1:=hbel.trans (hb2.mono (Nat.le_of_lt hsz))
   clear hkeep hord hb2
   by_cases ho0:o<0
   ·have hgt:gtB x y=true:=ord_neg.1 (by rw[ho.out];exact ho0)
    have hnew:Hid (h+1=m∨gtB x (Y.getD (h +1-1-m) zR)=true):=hid (Or.inr (by rw[Nat.add_sub_cancel,hy.out];exact hgt))
    clear hgt
    go_wp2_with fail
    go_roundw
    case rel=>exact ⟨h+1,q,by go_num,rfl,by omega,by omega,h3,hbw,hnew,hhi,hB3⟩
    case measure=>simp[intOf];omega
   ·have hgt:gtB x y=false:=ord_pos.1 (by rw[ho.out];exact ho0)
    have hnew:Hid (h=b∨gtB x (Y.getD (h-m) zR)=false):=hid (Or.inr (by rw[hy.out];exact hgt))
    clear hgt
    go_wp2_with fail
    go_roundw
    case rel=>exact ⟨p,h,rfl,rfl,h1,hh1,by omega,hbw,hlo,hnew,hB3⟩
    case measure=>simp[intOf];omega
  ·obtain rfl:q=p:=by omega
   have hfin:Y.take (q -m)++x::Y.drop (q -m)=sortR (x::Y):=by
    refine merge_left hY (by have :=Hb.out;omega) ?_ ?_
    ·rcases hlo.out with h|h
     ·exact Or.inl (by omega)
     ·refine Or.inr ?_
      rw[show q-m-1=q-1-m by omega];exact h
    ·rcases hhi.out with h|h
     ·exact Or.inl (by have :=Hb.out;omega)
     ·exact Or.inr h
   have Hfin:=hid hfin
   have HM:∀p,p≤Y.length→(P ++(mid Y x p++Q)).length=N:=fun p hp=>by
    rw[HN.out,List.length_append,List.length_append,List.length_append,List.length_append,mid_length _ _ hp,mid_length _ _ (Nat.zero_le _)]
   have HM':=hid HM
   have hq0:((q :Int)-1)=((q-1:Nat):Int):=by have:= hm'.out;omega
   have hq1:IntKind.i64.wrap ((q :Int)-1)=((q-1:Nat):Int):=(wrap64 (by omega) (by omega)).trans hq0
   have hqa:a≤q-1:=by have:= hm'.out;omega
   clear hfin HM hlt hlo hhi hq0
   go_wp2_with fail
   generalize wr=W0 at*
   go_loopw[13](fun i wr=>∃p:Nat,i=.int .i64 p∧a≤p∧p≤q-1∧Below g w wr∧Hid (Blo wr g (P ++(mid Y x (p-a)++Q)))) (fun i _=>q-(intOf i).toNat)
   case atStart=>exact ⟨a,rfl,Nat.le_refl _,hqa,hbel,by rw[Nat.sub_self];exact hblo⟩
   case round=>
    clear hblo hbel
    obtain ⟨p,rfl,hp1,hp2,hbel,hblo⟩:=hrel
    by_cases hlt:p<q-1
    ·have hlt':(p:Int)<((q-1:Nat):Int):=by omega
     have hpY:p-a<Y.length:=by have:= hm'.out;have:= Hb.out;omega
     have hL:=hid (HM'.out (p-a) (by omega))
     have hy1:=mid_at P Y x Q (p:=p-a) (i:=p) (by omega) (by have:= Ha.out;omega)
     have hy2:=mid_next P Y x Q (p:=p-a) (i:=p+1) hpY (by have :=Ha.out;omega)
     have hnext:=hid (swp_mid' P Y x Q (p:=p-a) (i:=p) (j:=p+1) hpY (by have:= Ha.out;omega) (by have :=Ha.out;omega))
     obtain ⟨y,hy⟩:∃y,Hid (Y.getD (p-a) zR=y):=⟨_,rfl⟩
     rw[hy.out] at hy2
     have hpN:p+1<N:=by have:= hm'.out;have :=Hb.out;omega
     have hpN':p<N:=by omega
     obtain ⟨c1,c2,c3,c4,d1,d2,d3,d4⟩:=hblo.out.eight (by rw[hL.out];exact hpN') (by rw[hL.out];exact hpN) hy1 hy2
     have fr:=hblo.out.free
     have Hy1:=hid hy1
     have Hy2:=hid hy2
     have HI1:(p:Int)+1<N:=by omega
     have HI2:(p:Int)<N:=by omega
     clear hy1 hy2
     go_upto_region 11 with fail
     go_region
     have hP:=hblo.out.swp (i:=p) (j:=p+1) (by rw[hL.out];exact hpN') (by rw[hL.out];exact hpN) Hy1.out Hy2.out
     have hQ:=put4_below (put4_below hbel g (p*4) (Nat.le_refl _) y) g ((p +1)*4) (Nat.le_refl _) x
     rw[hnext.out] at hP
     unfold put4 at hP hQ
     go_wp2_with fail
     go_roundw
     case rel=>exact ⟨p+1,by go_num,by omega,by omega,hQ.drew,by rw[show p+1-a=p-a+1 by omega];exact hP.drew⟩
     case measure=>simp[intOf];omega
    ·have hlt':¬((p :Int)<((q-1:Nat):Int)):=by omega
     have hE:Hid (Blo wr g (P ++(sortR (x::Y)++Q))):=by
      have:= hblo.out
      rw[show p-a=q-m by have :=hm'.out;omega] at this
      unfold mid at this
      rw[Hfin.out] at this
      exact this
     go_wp2_with fail
     refine bodyPost_ret (results_none rfl _ _ _) rfl ?_
     exact ⟨rfl,hbel,hE.out⟩
end Go.Proofs.YtofcnebekmjdoaaGreatDoor.Dy
