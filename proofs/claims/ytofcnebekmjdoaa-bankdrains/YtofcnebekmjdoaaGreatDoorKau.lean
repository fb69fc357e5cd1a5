import Derived.WalkSmall
import Derived.Test.YtofcnebekmjdoaaGreatDoorKat
set_option maxHeartbeats 4000000
set_option maxRecDepth 100000
namespace Go.Proofs.YtofcnebekmjdoaaGreatDoor.Bn
open Go.Proofs.YtofcnebekmjdoaaGreatDoor
theorem enterP_err (b:Bank) (src dst sum:Int):(enterP b src dst sum).2=(moveB b.book src dst sum).2:=by
 unfold enterP;split
 ·rfl
 ·rename_i q;exact (Decidable.not_not.1 q).symm
theorem shiftP_err (b:Bank) (n h m:Int):(shiftP b n h m).2=(shiftC (b.card n) h m).2:=by
 unfold shiftP;split
 ·rfl
 ·rename_i q;exact (Decidable.not_not.1 q).symm
theorem gets_plan (b:Bank) (n src sum:Int) (z:Bank×Int) (h1:(shiftC (b.card n) 0 sum).2≠0→z.2=(shiftC (b.card n) 0 sum).2) (h2:(shiftC (b.card n) 0 sum).2=0→z.2=(moveB b.book src (10 +n) sum).2)
  (h3:(shiftC (b.card n) 0 sum).2=0→(moveB b.book src (10+n) sum).2=0→z.1={b with cards:=b.cards.set n.toNat (shiftC (b.card n) 0 sum).1,book:=(moveB b.book src (10 +n) sum).1}):Plan (cardGetsP b n src sum) z:=by
 unfold cardGetsP Plan
 by_cases q:(shiftC (b.card n) 0 sum).2=0
 ·have e:shiftP b n 0 sum=({b with cards:=b.cards.set n.toNat (shiftC (b.card n) 0 sum).1},0):=by unfold shiftP;rw[if_neg (by simpa using q)]
  rw[e,andE_zero,enterP_err]
  refine ⟨(h2 q).symm,fun h=>?_⟩
  rw[h2 q] at h
  rw[h3 q h,enterP_in (show (moveB ({b with cards:=b.cards.set n.toNat (shiftC (b.card n) 0 sum).1}:Bank).book src (10 +n) sum).2=0 from h)]
 ·unfold andE
  dsimp only
  rw[shiftP_err,orE_left q]
  exact ⟨(h1 q).symm,fun h=>absurd ((h1 q).symm.trans h) q⟩
def loadP (b:Bank) (d:Dd):Bank×Int:=
 if d.n<0∨(b.cards.length :Int)≤d.n then (b,6)
 else if d.sum<1∨1000000<d.sum then (b,3)
 else cardGetsP b d.n 0 d.sum
theorem load_plan (b:Bank) (d:Dd):Plan (loadP b d) (loadB b d):=by
 unfold loadP loadB
 refine plan_ite fun _=>plan_ite fun _=>gets_plan _ _ _ _ _ ?_ ?_ ?_
 ·intro h;rw[if_pos h]
 ·intro h
  rw[if_neg (by simpa using h)]
  split
  ·rfl
  ·rename_i q;exact (Decidable.not_not.1 q).symm
 ·intro h h2
  rw[if_neg (by simpa using h),if_neg (by simpa using h2)]
def payP (b:Bank) (d:Dd):Bank×Int:=
 if d.n<0∨(b.due.length :Int)≤d.n then (b,6)
 else if b.dueOf d.n<1 then (b,10)
 else shopGivesP b d.n 0 (b.dueOf d.n)
theorem pay_plan (b:Bank) (d:Dd):Plan (payP b d) (payB b d):=by
 unfold payP payB
 refine plan_ite fun _=>plan_ite fun _=>?_
 unfold shopGivesP Plan
 rw[enterP_err]
 show (moveB b.book (50+d.n) 0 (b.dueOf d.n)).2=_∧_
 by_cases q:(moveB b.book (50 +d.n) 0 (b.dueOf d.n)).2=0
 ·rw[if_neg (by simpa using q)]
  refine ⟨q,fun _=>?_⟩
  rw[enterP_in (show (moveB (dueP b d.n (-b.dueOf d.n)).book _ _ _).2=0 from q)]
  unfold dueP
  dsimp only
  rw[Int.add_right_neg]
 ·rw[if_pos q]
  exact ⟨rfl,fun h=>absurd h q⟩
def takeP (b:Bank) (t:Po.Tr):Bank×Int:=
 if t.k=1 then shopGetsP b (b.auth t.a).shop 1 t.s
 else if t.k=2 then cardGetsP b (b.auth t.a).card 1 t.s
 else shopGivesP b (b.auth t.a).shop 2 t.s
def came (b:Bank) (i:Bool):Bank:={gone b i with seen:=upd b.seen i (b.seen i+1)}
theorem take_plan {b:Bank}{i:Bool}{t:Po.Tr}(hk:t.k=1∨t.k=2∨t.k=3):Plan (takeP (came b i) t) (comes b i t):=by
 unfold takeP comes
 by_cases k1:t.k=1
 ·rw[if_pos k1,if_pos k1]
  show Plan (shopGetsP (came b i) (b.auth t.a).shop 1 t.s) _
  unfold shopGetsP Plan
  rw[enterP_err]
  show (moveB b.book 1 (50 +(b.auth t.a).shop) t.s).2=_∧_
  by_cases q:(moveB b.book 1 (50 +(b.auth t.a).shop) t.s).2=0
  ·rw[if_neg (by simpa using q)]
   refine ⟨q,fun _=>?_⟩
   rw[enterP_in (show (moveB (dueP (came b i) (b.auth t.a).shop t.s).book _ _ _).2=0 from q)]
   rfl
  ·rw[if_pos q]
   exact ⟨rfl,fun h=>absurd h q⟩
 rw[if_neg k1,if_neg k1]
 by_cases k2:t.k=2
 ·rw[if_pos k2,if_pos k2]
  show Plan (cardGetsP (came b i) (b.auth t.a).card 1 t.s) _
  refine gets_plan _ _ _ _ _ ?_ ?_ ?_
  ·intro h
   have h':(shiftC (b.card (b.auth t.a).card) 0 t.s).2≠0:=h
   rw[if_pos h'];rfl
  ·intro h
   have h':(shiftC (b.card (b.auth t.a).card) 0 t.s).2=0:=h
   rw[if_neg (by simpa using h')]
   show _=(moveB b.book 1 (10 +(b.auth t.a).card) t.s).2
   split
   ·rfl
   ·rename_i q;exact (Decidable.not_not.1 q).symm
  ·intro h h2
   have h':(shiftC (b.card (b.auth t.a).card) 0 t.s).2=0:=h
   have h2':(moveB b.book 1 (10 +(b.auth t.a).card) t.s).2=0:=h2
   rw[if_neg (by simpa using h'),if_neg (by simpa using h2')]
   rfl
 have k3:t.k=3:=by omega
 rw[if_neg k2,if_neg k2,if_pos k3]
 show Plan (shopGivesP (came b i) (b.auth t.a).shop 2 t.s) _
 unfold shopGivesP Plan
 rw[enterP_err]
 show (moveB b.book (50+(b.auth t.a).shop) 2 t.s).2=_∧_
 by_cases q:(moveB b.book (50 +(b.auth t.a).shop) 2 t.s).2=0
 ·rw[if_neg (by simpa using q)]
  refine ⟨q,fun _=>?_⟩
  rw[enterP_in (show (moveB (dueP (came b i) (b.auth t.a).shop (-t.s)).book _ _ _).2=0 from q)]
  show ({ gone b i with seen:=_,due:=b.due.set (b.auth t.a).shop.toNat (b.dueOf (b.auth t.a).shop+-t.s),book:=_}:Bank)=_
  rw[←Int.sub_eq_add_neg]
  rfl
 ·rw[if_pos q]
  exact ⟨rfl,fun h=>absurd h q⟩
theorem next_kept{b:Bank}(I:Inv b){i:Bool}{p:Pk}(hp:p∈b.way i) (h0:¬0≤p.seen) (hn:p.t.n=b.seen i+1):p.t∈(b.snd (!i)).kept:=by
 rcases I.sent.ways i p hp with ⟨-,h|h⟩|⟨h,-⟩
 ·omega
 ·exact h
 ·exact absurd h h0
theorem next_kind{b:Bank}(I:Inv b){i:Bool}{t:Po.Tr}(ht:t∈(b.snd (!i)).kept):t.k=1∨t.k=2∨t.k=3:=by
 cases i with
 |false=>exact Or.inr (Or.inl (I.sent.kind1 t ht))
 |true=>rcases I.sent.kind0 t ht with h|h<;>omega
theorem kept_auth {b:Bank}(I:Inv b){i:Bool} {t:Po.Tr}(ht:t∈(b.snd i).kept):0≤t.a∧t.a<b.auths.length∧1≤t.s∧t.s≤1000000:=by
 obtain ⟨j,hj,rfl⟩:=List.getElem_of_mem ht
 have h:=((I.sent.right i).each j _ (List.getElem?_eq_getElem hj)).2.1
 have h2:=I.sent.auths i _ ht
 unfold Po.far at h
 omega
def lateK (b:Bank) (k:Nat):Bank:={b with cards:=(b.auths.take k).foldl (lateC b.time) b.cards,auths:=(b.auths.take k).map (fun a=>Au.lateA a b.time)++b.auths.drop k}
theorem lateK_zero (b:Bank):lateK b 0=b:=by unfold lateK;simp
theorem lateK_end (b:Bank):lateK b b.auths.length=shutB b:=by unfold lateK shutB;simp
theorem lateK_auths (b:Bank) (k:Nat):(lateK b k).auths.length=b.auths.length:=by unfold lateK;simp;omega
theorem lateK_at (b:Bank) (k:Nat) (hk:k<b.auths.length):(lateK b k).auths.getD k zA=b.auths.getD k zA:=by
 unfold lateK
 simp only[List.getD_eq_getElem?_getD]
 rw[List.getElem?_append_right (by simp;omega)]
 simp only[List.length_map,List.length_take]
 rw[Nat.min_eq_left (by omega),Nat.sub_self,List.getElem?_drop,Nat.add_zero]
theorem take_one {α:Type} (l:List α) (k:Nat) (d:α) (hk:k<l.length):l.take (k+1)=l.take k++[l.getD k d]:=by
 rw[List.take_add_one];simp[List.getD,hk]
theorem sumOn_take_drop {α:Type}(f:α→Int) (l:List α) (k:Nat):sumOn f l=sumOn f (l.take k)+sumOn f (l.drop k):=by
 conv=>lhs;rw[←List.take_append_drop k l,sumOn_append]
theorem late_sum{b:Bank}(H:Held b) (c k:Nat):0≤heldOf c b.auths+sumOn (lateBy b.time c) (b.auths.take k)∧sumOn (lateBy b.time c) (b.auths.take k)≤0:=by
 have h1:=held_late b.time c (b.auths.take k)
 have hh:∀(L:List Au.Au),(∀ a∈L,Au.Rng a∧Au.Fit a)→0≤heldOf c L:=by
  intro L hL
  have:= sumOn_bound (f:=heldBy c) (c:=1000000) (l:=L) fun a ha=>by
   have:= hold_small (hL a ha).1 (hL a ha).2
   unfold heldBy
   split<;>omega
  exact this.1
 have h2:=hh ((b.auths.take k).map fun a=>Au.lateA a b.time) fun a ha=>by
  obtain ⟨x,hx,rfl⟩:=List.mem_map.1 ha
  have:= H.auths x (List.mem_of_mem_take hx)
  exact ⟨this.1,this.2.1⟩
 have h3:=hh (b.auths.drop k) fun a ha=>by
  have :=H.auths a (List.mem_of_mem_drop ha)
  exact ⟨this.1,this.2.1⟩
 have h4:heldOf c b.auths=heldOf c (b.auths.take k)+heldOf c (b.auths.drop k):=sumOn_take_drop _ _ _
 refine ⟨by omega,?_⟩
 have :∀L:List Au.Au,(∀a∈L,Au.Rng a∧Au.Fit a)→sumOn (lateBy b.time c) L≤0:=by
  intro L
  induction L with
  |nil=>intro _;simp[sumOn]
  |cons a r ih=>
   intro hL
   have q:=ih fun x hx=>hL x (List.mem_cons_of_mem _ hx)
   have hs:=hold_small (hL a List.mem_cons_self).1 (hL a List.mem_cons_self).2
   have: lateBy b.time c a≤0:=by
    unfold lateBy
    split
    ·unfold Au.holdA Au.lateA at*
     dsimp only
     cases hsh:a.shut
     ·rw[hsh] at hs
      simp only[Bool.false_or] at*
      split
      ·simp at hs⊢;omega
      ·simp
     ·simp
    ·omega
   simp only[sumOn];omega
 exact this _ fun a ha=>by have :=H.auths a (List.mem_of_mem_take ha);exact ⟨this.1,this.2.1⟩
theorem late_step {b:Bank}(I:Inv b){k:Nat}(hk:k<b.auths.length):becomeP (lateK b k) (k :Int) (Au.lateA (b.auths.getD k zA) b.time)=(lateK b (k +1),0):=by
 have H:=I.held
 have hmem:b.auths.getD k zA∈b.auths:=getD_mem' _ hk
 obtain ⟨r1,r2,r3,r4⟩:=H.auths _ hmem
 have c0:0≤(b.auths.getD k zA).card:=r1.2.2.2.2.1.1
 obtain ⟨f1,f2⟩:=fold_late b.time (b.auths.take k) b.cards fun a ha=>⟨(H.auths a (List.mem_of_mem_take ha)).1.2.2.2.2.1.1,(H.auths a (List.mem_of_mem_take ha)).2.2.1⟩
 have hc:(b.auths.getD k zA).card.toNat<b.cards.length:=by omega
 have g:=f2 _ hc
 have R:=H.right _ (getD_mem' zeroC hc)
 have hh:=H.held _ hc
 have s1:=late_sum H (b.auths.getD k zA).card.toNat k
 have s2:=late_sum H (b.auths.getD k zA).card.toNat (k +1)
 have s3:=H.small (b.auths.getD k zA).card.toNat
 have e1:sumOn (lateBy b.time (b.auths.getD k zA).card.toNat) (b.auths.take (k+1))=sumOn (lateBy b.time (b.auths.getD k zA).card.toNat) (b.auths.take k)+(Au.holdA (Au.lateA (b.auths.getD k zA) b.time)-Au.holdA (b.auths.getD k zA)):=by
  rw[take_one _ _ zA hk,sumOn_append,sumOn_one]
  congr 1
  unfold lateBy
  rw[if_pos (by omega)]
 have k1:=hold_small r1 r2
 have k2:0≤Au.holdA (Au.lateA (b.auths.getD k zA) b.time)∧Au.holdA (Au.lateA (b.auths.getD k zA) b.time)≤1000000:=hold_small (a:=Au.lateA (b.auths.getD k zA) b.time) r1 r2
 unfold becomeP
 have e2:(lateK b k).auth (k :Int)=b.auths.getD k zA:=by
  show (lateK b k).auths.getD ((k:Int)).toNat zA=_
  rw[Int.toNat_natCast,lateK_at b k hk]
 rw[e2]
 generalize hx:b.auths.getD k zA=x at*
 have e3:({ lateK b k with auths:=(lateK b k).auths.set ((k:Int)).toNat (Au.lateA x b.time)}:Bank).card (Au.lateA x b.time).card=⟨(b.cards.getD x.card.toNat zeroC).m,(b.cards.getD x.card.toNat zeroC).h+sumOn (lateBy b.time x.card.toNat) (b.auths.take k),(b.cards.getD x.card.toNat zeroC).p,(b.cards.getD x.card.toNat zeroC).u⟩:=g
 have R':RightC ⟨(b.cards.getD x.card.toNat zeroC).m,(b.cards.getD x.card.toNat zeroC).h+sumOn (lateBy b.time x.card.toNat) (b.auths.take k),(b.cards.getD x.card.toNat zeroC).p,(b.cards.getD x.card.toNat zeroC).u⟩:=
  ⟨R.m1,R.m2,by dsimp only;omega,by dsimp only;omega,R.pace,R.uses⟩
 have m1:=R.m1
 have m2:=R.m2
 rw[shiftP_in (by rw[e3];exact R') (by unfold far;omega) (by rw[e3];unfold off;dsimp only;omega),e3]
 have e4:(lateK b k).auths.set ((k:Int)).toNat (Au.lateA x b.time)=(lateK b (k+1)).auths:=by
  rw[Int.toNat_natCast]
  show ((b.auths.take k).map (fun a=>Au.lateA a b.time)++b.auths.drop k).set k _=(b.auths.take (k +1)).map (fun a=>Au.lateA a b.time)++b.auths.drop (k+1)
  rw[take_one _ _ zA hk,hx,List.map_append,List.set_append_right _ _ (by simp;omega)]
  simp only[List.length_map,List.length_take]
  rw[Nat.min_eq_left (by omega),Nat.sub_self,List.drop_eq_getElem_cons hk,List.set_cons_zero]
  simp
 have e5:(lateK b k).cards.set (Au.lateA x b.time).card.toNat ⟨(b.cards.getD x.card.toNat zeroC).m+0,(b.cards.getD x.card.toNat zeroC).h+sumOn (lateBy b.time x.card.toNat) (b.auths.take k)+(Au.holdA (Au.lateA x b.time)-Au.holdA x),(b.cards.getD x.card.toNat zeroC).p,(b.cards.getD x.card.toNat zeroC).u⟩=(lateK b (k +1)).cards:=by
  show ((b.auths.take k).foldl (lateC b.time) b.cards).set x.card.toNat _=(b.auths.take (k+1)).foldl (lateC b.time) b.cards
  rw[take_one _ _ zA hk,hx,List.foldl_append]
  show _=lateC b.time ((b.auths.take k).foldl (lateC b.time) b.cards) x
  unfold lateC
  have g':=g
  unfold lateC at g'
  rw[g',Int.add_zero]
 show (({lateK b k with auths:=_,cards:=_}:Bank),(0 :Int))=_
 rw[e4]
 refine congrArg (fun c=>((({lateK b k with auths:=(lateK b (k+1)).auths,cards:=c}:Bank)),(0 :Int))) e5
def honourP (b:Bank) (x:St.Ad):Bank×Int:=
 if (Au.newA x.c x.s x.m x.t).2≠0 then (b,(Au.newA x.c x.s x.m x.t).2)
 else if (forceC (b.card x.c) x.m).2≠0 then (b,(forceC (b.card x.c) x.m).2)
 else ({ b with auths:=b.auths++[(Au.newA x.c x.s x.m x.t).1],cards:=b.cards.set x.c.toNat (forceC (b.card x.c) x.m).1},0)
def zAd:St.Ad:=⟨0,0,0,0⟩
def upK (b:Bank) (k:Nat):Bank:={b with cards:=(b.stand.adv.take k).foldl forceL b.cards,auths:=b.auths++(b.stand.adv.take k).map advA}
theorem upK_zero (b:Bank):upK b 0=b:=by unfold upK;simp
theorem up_step {b:Bank}(I:Inv b){k:Nat}(hk:k<b.stand.adv.length):honourP (upK b k) (b.stand.adv.getD k zAd)=(upK b (k +1),0)∧(0 ≤(b.stand.adv.getD k zAd).c∧(b.stand.adv.getD k zAd).c<b.cards.length)∧(upK b k).cards.length=b.cards.length:=by
 have H:=I.held
 have hmem:b.stand.adv.getD k zAd∈b.stand.adv:=getD_mem' _ hk
 have hf:∀x∈b.stand.adv,St.Fits x b.stand.used.length:=H.stand.adv.each
 have hf':∀x∈b.stand.adv,0≤x.c∧x.c<b.cards.length:=fun x hx=>by have:= hf x hx;rw[H.standN] at this;exact ⟨this.1,this.2.1⟩
 obtain ⟨f1,f2⟩:=fold_force (b.stand.adv.take k) b.cards fun x hx=>hf' x (List.mem_of_mem_take hx)
 have hx:=hf _ hmem
 have hc:=hf' _ hmem
 have hs:=H.advs _ hmem
 have c8:=H.cards8
 have d8:=H.due8
 have t1:=H.time1
 refine ⟨?_,hc,f1⟩
 have hcn:(b.stand.adv.getD k zAd).c.toNat<b.cards.length:=by omega
 have g:=f2 _ hcn
 have R:=H.right _ (getD_mem' zeroC hcn)
 have hh:=H.held _ hcn
 have s3:=H.small (b.stand.adv.getD k zAd).c.toNat
 have sb:=sumOn_bound (f:=forceBy (b.stand.adv.getD k zAd).c.toNat) (c:=1000000) (l:=b.stand.adv.take k) fun x hx=>by
  have h1:=hf x (List.mem_of_mem_take hx)
  unfold St.Fits at h1
  unfold forceBy
  split<;>omega
 have hl:(b.stand.adv.take k).length≤30:=by have:= H.few;simp;omega
 unfold St.Fits at hx
 rw[H.standN] at hx
 generalize hy:b.stand.adv.getD k zAd=x at*
 have hnew:Au.newA x.c x.s x.m x.t=(advA x,0):=by
  unfold Au.newA advA
  rw[if_pos (by omega)]
 have e3:(upK b k).card x.c=⟨(b.cards.getD x.c.toNat zeroC).m,(b.cards.getD x.c.toNat zeroC).h+sumOn (forceBy x.c.toNat) (b.stand.adv.take k),(b.cards.getD x.c.toNat zeroC).p,(b.cards.getD x.c.toNat zeroC).u⟩:=g
 have R':RightC ((upK b k).card x.c):=by
  rw[e3]
  exact ⟨R.m1,R.m2,by dsimp only;omega,by dsimp only;omega,R.pace,R.uses⟩
 have hfo:forceC ((upK b k).card x.c) x.m=(⟨((upK b k).card x.c).m,((upK b k).card x.c).h+x.m,((upK b k).card x.c).p,((upK b k).card x.c).u⟩,0):=forceC_ok (wrongC_ok.2 R') (by rw[e3];dsimp only;omega)
 unfold honourP
 rw[hnew,hfo]
 simp only[ne_eq,not_true_eq_false,if_false]
 have q1:(upK b k).auths++[advA x]=(upK b (k +1)).auths:=by
  show b.auths++(b.stand.adv.take k).map advA++[advA x]=b.auths++(b.stand.adv.take (k+1)).map advA
  rw[take_one _ _ zAd hk,hy,List.map_append,List.append_assoc];rfl
 have q2:(upK b k).cards.set x.c.toNat ⟨((upK b k).card x.c).m,((upK b k).card x.c).h+x.m,((upK b k).card x.c).p,((upK b k).card x.c).u⟩=(upK b (k +1)).cards:=by
  show ((b.stand.adv.take k).foldl forceL b.cards).set x.c.toNat _=(b.stand.adv.take (k+1)).foldl forceL b.cards
  rw[take_one _ _ zAd hk,hy,List.foldl_append]
  rfl
 rw[q1,q2]
 rfl
end Go.Proofs.YtofcnebekmjdoaaGreatDoor.Bn
namespace Go.Proofs.YtofcnebekmjdoaaGreatDoor
open Go.RowKit
def pv (p:Pa):Value:=.agg #[.int .i64 p.t,.int .i64 p.c,.int .i64 p.s]
def uv (u:Int×Int):Value:=.agg #[.int .i64 u.1,.int .i64 u.2]
def Ents (w:World) (a:Option Addr) (L:List (Int×Int)):Prop:=
 L.length≤maxLen∧(L =[]∨∃b off,a=some ⟨b,off,none⟩∧b<w.heap.size∧∀i,i<L.length→
  w.cell? ⟨b,off+i*2,none⟩=some (.int .i64 (L.getD i (0,0)).1)∧w.cell? ⟨b,off+i*2+1,none⟩=some (.int .i64 (L.getD i (0,0)).2))
theorem Ents.below {w w':World}{a:Option Addr}{L:List (Int ×Int)}(h:Ents w a L) (hb:Below w.heap.size w w'):Ents w' a L:=by
 obtain ⟨h1,h2⟩:=h
 refine ⟨h1,?_⟩
 rcases h2 with h2|⟨b,off,ha,hlt,hc⟩
 ·exact Or.inl h2
 ·refine Or.inr ⟨b,off,ha,Nat.lt_of_lt_of_le hlt hb.size,fun i hi=>?_⟩
  obtain ⟨c1,c2⟩:=hc i hi
  exact ⟨(hb.cell (p:=⟨b,off+i*2,none⟩) hlt).trans c1,(hb.cell (p:=⟨b,off+i*2+1,none⟩) hlt).trans c2⟩
theorem ret_bool {a b:Bool}(h:a=b):Ending.returned (.bool a)=.returned (.bool b):=by rw[h]
theorem ret_int {k:IntKind} {a b:Int} (h:a=b):Ending.returned (.int k a)=.returned (.int k b):=by rw[h]
theorem hid {p:Prop}(h:p):Hid p:=h
theorem wrongP_ways (p:Pa):
  (p.t <1∧Hid (wrongP p=3))∨(1 ≤p.t∧1000000<p.t∧Hid (wrongP p=3))∨
  (1 ≤p.t∧p.t≤1000000∧p.c<0∧Hid (wrongP p=3))∨(1≤p.t∧p.t≤1000000∧0≤p.c∧30<p.c∧Hid (wrongP p=3))∨
  (1 ≤p.t∧p.t≤1000000∧0≤p.c∧p.c≤30∧p.s<0∧Hid (wrongP p=3))∨
  (1 ≤p.t∧p.t≤1000000∧0≤p.c∧p.c≤30∧0≤p.s∧1000000000000<p.s∧Hid (wrongP p=3))∨
  (1 ≤p.t∧p.t≤1000000∧0≤p.c∧p.c≤30∧0≤p.s∧p.s≤1000000000000∧Hid (wrongP p=0)):=by
 have y:(p.t <1∨1000000<p.t∨p.c<0∨30<p.c∨p.s<0∨1000000000000<p.s)→Hid (wrongP p=3):=fun h=>by unfold Hid wrongP;rw[if_pos h]
 have n:¬(p.t<1∨1000000<p.t∨p.c<0∨30<p.c∨p.s<0∨1000000000000<p.s)→Hid (wrongP p=0):=fun h=>by unfold Hid wrongP;rw[if_neg h]
 by_cases h1:p.t<1
 ·exact Or.inl ⟨h1,y (by omega)⟩
 by_cases h2:1000000<p.t
 ·exact Or.inr (Or.inl ⟨by omega,h2,y (by omega)⟩)
 by_cases h3:p.c<0
 ·exact Or.inr (Or.inr (Or.inl ⟨by omega,by omega,h3,y (by omega)⟩))
 by_cases h4:30<p.c
 ·exact Or.inr (Or.inr (Or.inr (Or.inl ⟨by omega,by omega,by omega,h4,y (by omega)⟩)))
 by_cases h5:p.s<0
 ·exact Or.inr (Or.inr (Or.inr (Or.inr (Or.inl ⟨by omega,by omega,by omega,by omega,h5,y (by omega)⟩))))
 by_cases h6:1000000000000<p.s
 ·exact Or.inr (Or.inr (Or.inr (Or.inr (Or.inr (Or.inl ⟨by omega,by omega,by omega,by omega,by omega,h6,y (by omega)⟩)))))
 ·exact Or.inr (Or.inr (Or.inr (Or.inr (Or.inr (Or.inr ⟨by omega,by omega,by omega,by omega,by omega,by omega,n (by omega)⟩)))))
theorem wrong_any (p:Pa) (w:World):
  Calls Tryz.prog 48 #[pv p] w fun e w'=>e=.returned (.int .i64 (wrongP p))∧Below w.heap.size w w':=by
 unfold pv
 have b0:∀o,Below w.heap.size w (w.alloc o):=fun o=>(Below.refl _ _).alloc (Nat.le_refl _) _
 rcases wrongP_ways p with ⟨h1,H⟩|⟨h1,h2,H⟩|⟨h1,h2,h3,H⟩|⟨h1,h2,h3,h4,H⟩|⟨h1,h2,h3,h4,h5,H⟩|⟨h1,h2,h3,h4,h5,h6,H⟩|⟨h1,h2,h3,h4,h5,h6,H⟩
 all_goals
  go_enter Tryz.func48,Tryz.ntmps48
  go_wp2
  go_ret
  exact ⟨ret_int H.out.symm,b0 _⟩
theorem inU_ways (x:Int×Int):
  (x.1<0∧Hid (inU x=false))∨(0 ≤x.1∧1000000<x.1∧Hid (inU x=false))∨(0≤x.1∧x.1≤1000000∧x.2<0∧Hid (inU x=false))∨
  (0≤x.1∧x.1≤1000000∧0≤x.2∧1000000<x.2∧Hid (inU x=false))∨(0≤x.1∧x.1≤1000000∧0≤x.2∧x.2≤1000000∧Hid (inU x=true)):=by
 have y:¬(0 ≤x.1∧x.1≤1000000∧0≤x.2∧x.2≤1000000)→Hid (inU x=false):=fun h=>by
  cases hu:inU x with
  |false=>exact rfl
  |true=>exact absurd (inU_true.1 hu) h
 by_cases h1:x.1<0
 ·exact Or.inl ⟨h1,y (by omega)⟩
 by_cases h2:1000000<x.1
 ·exact Or.inr (Or.inl ⟨by omega,h2,y (by omega)⟩)
 by_cases h3:x.2<0
 ·exact Or.inr (Or.inr (Or.inl ⟨by omega,by omega,h3,y (by omega)⟩))
 by_cases h4:1000000<x.2
 ·exact Or.inr (Or.inr (Or.inr (Or.inl ⟨by omega,by omega,by omega,h4,y (by omega)⟩)))
 ·exact Or.inr (Or.inr (Or.inr (Or.inr ⟨by omega,by omega,by omega,by omega,inU_true.2 ⟨by omega,by omega,by omega,by omega⟩⟩)))
theorem inRange_any (x:Int×Int) (w:World):
  Calls Tryz.prog 91 #[uv x] w fun e w'=>e=.returned (.bool (inU x))∧Below w.heap.size w w':=by
 unfold uv
 have b0:∀o,Below w.heap.size w (w.alloc o):=fun o=>(Below.refl _ _).alloc (Nat.le_refl _) _
 rcases inU_ways x with ⟨h1,H⟩|⟨h1,h2,H⟩|⟨h1,h2,h3,H⟩|⟨h1,h2,h3,h4,H⟩|⟨h1,h2,h3,h4,H⟩
 all_goals
  go_enter Tryz.func91,Tryz.ntmps91
  go_wp2
  go_ret
  exact ⟨ret_bool (by first|exact H.out.symm|(rw[H.out];simp;omega)),b0 _⟩
theorem counts_any (x:Int×Int) (c:Nat) (o:Int) (w:World) (hc:w.cell? ⟨c,0,none⟩=some (.int .i64 o)) (hcl:c<w.heap.size):
  Calls Tryz.prog 191 #[uv x,.pointer (some ⟨c,0,none⟩)] w fun e w'=>e=.returned (.bool (decide (o<x.1)))∧Below w.heap.size w w':=by
 have hc1:∀o',(w.alloc o').cell? ⟨c,0,none⟩=some (.int .i64 o):=fun o'=>by rw[World.cell?_alloc_past _ _ _ hcl];exact hc
 unfold uv
 by_cases h:o<x.1
 all_goals
  go_enter Tryz.func191,Tryz.ntmps191
  go_wp2
  go_ret
  exact ⟨ret_bool (by simp[h]),(Below.refl _ _).alloc (Nat.le_refl _) _⟩
theorem window_any (p:Pa) (time:Int) (w:World) (h1:1≤p.t) (h2:p.t≤1000000) (h3:0≤time) (h4:time≤1000000):
  Calls Tryz.prog 187 #[pv p,.int .i64 time] w fun e w'=>∃c,e=.returned (.func (.func 191) #[] #[.pointer (some ⟨c,0,none⟩)])∧w.heap.size≤c∧c<w'.heap.size∧
   w'.cell? ⟨c,0,none⟩=some (.int .i64 (time-p.t))∧Below w.heap.size w w':=by
 have hmf:∀(fn:Fn) (first cap:Array Value) (w:World),(Instr.makeFunc fn first cap).run Tryz.prog w=.ok (.func fn first cap) w:=fun _ _ _ _=>rfl
 unfold pv
 go_enter Tryz.func187,Tryz.ntmps187
 go_wp2
 go_ret
 exact ⟨w.heap.size+1,rfl,by omega,by simp,by simp,((Below.refl _ _).alloc (Nat.le_refl _) _).alloc (by simp) _⟩
structure Meter (w:World) (B:Nat) (p:Pa) (n s:Int):Prop where
 pace:w.heap[B]?=some (.cells #[.int .i64 p.t,.int .i64 p.c,.int .i64 p.s] 58 (0,0))
 count:w.heap[B+1]?=some (.cells #[.int .i64 n] 3 (0,0))
 sum:w.heap[B+2]?=some (.cells #[.int .i64 s] 3 (0,0))
theorem Meter.lt {w:World} {B:Nat} {p:Pa} {n s:Int} (h:Meter w B p n s):B+2<w.heap.size:=lt_of_block h.sum
theorem Meter.below {w w':World}{B C:Nat}{p:Pa}{n s:Int}(h:Meter w B p n s) (hb:Below C w w') (hC:B+2<C):Meter w' B p n s:=
 ⟨(hb.block _ (by omega)).trans h.pace,(hb.block _ (by omega)).trans h.count,(hb.block _ hC).trans h.sum⟩
theorem heap_alloc_at (w:World) (o:Obj) (k:Nat) (h:k=w.heap.size):(w.alloc o).heap[k]?=some o:=by
 subst h
 show (w.heap.push _)[w.heap.size]?=_
 rw[Array.getElem?_push_size]
theorem meter_any (p:Pa) (w:World):
  Calls Tryz.prog 183 #[pv p] w fun e w'=>e=.returned (.func (.func 188) #[] #[.pointer (some ⟨w.heap.size+1,0,none⟩),.pointer (some ⟨w.heap.size+2,0,none⟩),.pointer (some ⟨w.heap.size,0,none⟩)])∧
   Meter w' w.heap.size p 0 0∧Below w.heap.size w w':=by
 have hmf:∀(fn:Fn) (first cap:Array Value) (w:World),(Instr.makeFunc fn first cap).run Tryz.prog w=.ok (.func fn first cap) w:=fun _ _ _ _=>rfl
 unfold pv
 go_enter Tryz.func183,Tryz.ntmps183
 go_wp2
 go_ret
 refine ⟨rfl,⟨?_,?_,?_⟩,(((Below.refl _ _).alloc (Nat.le_refl _) _).alloc (by simp) _).alloc (by simp;omega) _⟩
 ·rw[Below.heap_alloc _ _ _ (by simp;omega),Below.heap_alloc _ _ _ (by simp),heap_alloc_at _ _ _ rfl]
 ·rw[Below.heap_alloc _ _ _ (by simp),heap_alloc_at _ _ _ (by simp)]
 ·rw[heap_alloc_at _ _ _ (by simp)]
theorem within_any (x:Int×Int) (B:Nat) (p:Pa) (n s:Int) (w:World) (hM:Meter w B p n s) (n1:0≤n) (n2:n≤100) (s1:0≤s) (s2:s≤1000000000) (x1:0≤x.2) (x2:x.2≤1000000):
  Calls Tryz.prog 188 #[uv x,.pointer (some ⟨B+1,0,none⟩),.pointer (some ⟨B+2,0,none⟩),.pointer (some ⟨B,0,none⟩)] w fun e w'=>
   e=.returned (.bool (decide (n +1≤p.c)&&decide (s +x.2≤p.s)))∧Meter w' B p (n+1) (s+x.2)∧Below B w w':=by
 have hlt:=hM.lt
 have HM:=hid hM
 have C1:w.cell? ⟨B+1,0,none⟩=some (.int .i64 n):=cell_of_one hM.count
 have F1:w.frozen? ⟨B+1,0,none⟩=false:=free_of_one hM.count
 have C2:w.cell? ⟨B+2,0,none⟩=some (.int .i64 s):=cell_of_one hM.sum
 have F2:w.frozen? ⟨B+2,0,none⟩=false:=free_of_one hM.sum
 have P1:w.cell? ⟨B,1,none⟩=some (.int .i64 p.c):=by simp[World.cell?,hM.pace]
 have P2:w.cell? ⟨B,2,none⟩=some (.int .i64 p.s):=by simp[World.cell?,hM.pace]
 clear hM
 have d1:∀o,(w.alloc o).cell? ⟨B+1,0,none⟩=some (.int .i64 n):=fun o=>(World.cell?_alloc_past _ _ _ (by omega)).trans C1
 have d2:∀o,(w.alloc o).frozen? ⟨B+1,0,none⟩=false:=fun o=>(World.frozen?_alloc_past _ _ _ (by omega)).trans F1
 have d3:∀o,(w.alloc o).cell? ⟨B+2,0,none⟩=some (.int .i64 s):=fun o=>(World.cell?_alloc_past _ _ _ (by omega)).trans C2
 have d4:∀o,(w.alloc o).frozen? ⟨B+2,0,none⟩=false:=fun o=>(World.frozen?_alloc_past _ _ _ (by omega)).trans F2
 have hB:B<w.heap.size:=by omega
 have d5:∀o,(w.alloc o).cell? ⟨B,1,none⟩=some (.int .i64 p.c):=fun o=>(World.cell?_alloc_past _ _ _ hB).trans P1
 have d6:∀o,(w.alloc o).cell? ⟨B,2,none⟩=some (.int .i64 p.s):=fun o=>(World.cell?_alloc_past _ _ _ hB).trans P2
 have HB:∀v u o,Hid (Below B w (((w.alloc o).setCell ⟨B+1,0,none⟩ v).setCell ⟨B+2,0,none⟩ u)):=fun v u o=>(((Below.refl B w).alloc (by omega) _).setCell (by simp) _).setCell (by simp) _
 have HN:∀n' s' o,Hid (Meter (((w.alloc o).setCell ⟨B+1,0,none⟩ (.int .i64 n')).setCell ⟨B+2,0,none⟩ (.int .i64 s')) B p n' s'):=fun n' s' o=>by
  refine ⟨?_,?_,?_⟩
  ·rw[Below.heap_setCell _ _ _ _ (by simp),Below.heap_setCell _ _ _ _ (by simp),Below.heap_alloc _ _ _ hB];exact HM.out.pace
  ·rw[Below.heap_setCell _ _ _ _ (by simp)];exact one_setCell (by rw[Below.heap_alloc _ _ _ (by omega)];exact HM.out.count)
  ·exact one_setCell (by rw[Below.heap_setCell _ _ _ _ (by simp),Below.heap_alloc _ _ _ (by omega)];exact HM.out.sum)
 clear C1 F1 C2 F2 P1 P2
 unfold uv
 by_cases h1:n+1≤p.c<;>by_cases h2:s+x.2≤p.s
 all_goals
  go_enter Tryz.func188,Tryz.ntmps188
  go_wp2
  go_ret
  exact ⟨ret_bool (by simp[h1,h2]),(HN _ _ _).out,(HB _ _ _).out⟩
end Go.Proofs.YtofcnebekmjdoaaGreatDoor
