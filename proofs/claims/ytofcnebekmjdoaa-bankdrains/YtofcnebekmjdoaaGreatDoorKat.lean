import Derived.Test.YtofcnebekmjdoaaGreatDoorKas
set_option maxHeartbeats 4000000
set_option maxRecDepth 100000
namespace Go.Proofs.YtofcnebekmjdoaaGreatDoor.Bn
open Go.Proofs.YtofcnebekmjdoaaGreatDoor
def orE (x y:Int):Int:=if x≠0 then x else y
theorem orE_zero (y:Int):orE 0 y=y:=rfl
theorem orE_left {x y:Int}(h:x≠0):orE x y=x:=if_pos h
def andE (x:Bank×Int) (f:Bank→Bank×Int):Bank×Int:=((f x.1).1,orE x.2 (f x.1).2)
def shiftP (b:Bank) (n held money:Int):Bank×Int:=
 if (shiftC (b.card n) held money).2≠0 then (b,(shiftC (b.card n) held money).2) else ({ b with cards:=b.cards.set n.toNat (shiftC (b.card n) held money).1},0)
def enterP (b:Bank) (src dst sum:Int):Bank×Int:=
 if (moveB b.book src dst sum).2≠0 then (b,(moveB b.book src dst sum).2) else ({b with book:=(moveB b.book src dst sum).1},0)
def putP (b:Bank) (i:Bool) (t:Po.Tr):Bank×Int:=
 if (Po.putS (b.snd i) t).2≠0 then (b,(Po.putS (b.snd i) t).2) else ({ b with snd:=upd b.snd i (Po.putS (b.snd i) t).1},0)
def cardGetsP (b:Bank) (n src sum:Int):Bank×Int:=andE (shiftP b n 0 sum) fun x=>enterP x src (10+n) sum
def cardGivesP (b:Bank) (n dst sum:Int):Bank×Int:=andE (shiftP b n 0 (-sum)) fun x=>enterP x (10 +n) dst sum
def dueP (b:Bank) (n by_:Int):Bank:={b with due:=b.due.set n.toNat (b.dueOf n+by_)}
def shopGetsP (b:Bank) (n src sum:Int):Bank×Int:=enterP (dueP b n sum) src (50 +n) sum
def shopGivesP (b:Bank) (n dst sum:Int):Bank×Int:=enterP (dueP b n (-sum)) (50+n) dst sum
def noteP (b:Bank) (r:Dy.Rc):Bank×Int:=if 100≤b.today.length then (b,5) else ({ b with today:=b.today++[r]},0)
def becomeP (b:Bank) (n:Int) (a:Au.Au):Bank×Int:=shiftP {b with auths:=b.auths.set n.toNat a} a.card (Au.holdA a-Au.holdA (b.auth n)) 0
def passP (b:Bank) (a:Au.Au) (d:Dd):Bank×Int:=
 if d.mv=2∨d.mv=3 then andE (cardGivesP b a.card 1 d.sum) fun x=>putP x false ⟨0,1,d.n,d.sum⟩
 else if d.mv=5 then andE (shopGivesP b a.shop 1 d.sum) fun x=>putP x true ⟨0,2,d.n,d.sum⟩
 else if d.mv=6 then cardGetsP b a.card 2 d.sum
 else if d.mv=7 then putP b false ⟨0,3,d.n,d.sum⟩
 else if d.mv=8 then cardGivesP b a.card 2 d.sum
 else (b,0)
def goP (b:Bank) (d:Dd) (a:Au.Au):Bank×Int:=
 andE (becomeP b d.n a) fun x=>andE (passP x a d) fun y=>noteP y ⟨a.shop,d.n,d.mv,d.sum⟩
theorem shift_in {c:Ca} {h m:Int} (R:RightC c) (h1:¬far h m) (h2:¬off (c.m +m) (c.h+h)):shiftC c h m=(⟨c.m+m,c.h+h,c.p,c.u⟩,0):=shiftC_ok (wrongC_ok.2 R) h1 h2
theorem right_in {c:Ca}{h m:Int} (R:RightC c) (h2:¬off (c.m+m) (c.h +h)):RightC ⟨c.m+m,c.h+h,c.p,c.u⟩:=wrongC_ok.1 ((right_shift (wrongC_ok.2 R)).2 h2)
theorem set_same {α:Type}(l:List α) (i:Nat) (d x:α) (h:x=l.getD i d):l.set i x=l:=by
 subst h
 by_cases hi:i<l.length
 ·apply List.ext_getElem?
  intro j
  rw[List.getElem?_set]
  by_cases e:i=j
  ·subst e;simp[hi,List.getD]
  ·simp[e]
 ·exact List.set_eq_of_length_le (by omega)
theorem shiftP_in {b:Bank}{n h m:Int}(R:RightC (b.card n)) (h1:¬far h m) (h2:¬off ((b.card n).m+m) ((b.card n).h+h)):
  shiftP b n h m=({b with cards:=b.cards.set n.toNat ⟨(b.card n).m+m,(b.card n).h+h,(b.card n).p,(b.card n).u⟩},0):=by
 unfold shiftP
 rw[shift_in R h1 h2]
 simp
theorem enterP_in {b:Bank} {src dst sum:Int}(h:(moveB b.book src dst sum).2=0):enterP b src dst sum=({ b with book:=(moveB b.book src dst sum).1},0):=by
 unfold enterP;rw[if_neg (by simpa using h)]
theorem card_set (b:Bank) (cs:List Ca) (n:Int) (c:Ca) (h:n.toNat<cs.length):({b with cards:=cs.set n.toNat c}:Bank).card n=c:=by
 unfold Bank.card
 dsimp only
 rw[getD_set _ _ _ _ _ h,if_pos rfl]
structure Nums (b:Bank) (d:Dd):Prop where
 may:Au.May (b.auth d.n) d.mv d.sum
 n0:0≤d.n
 n1:d.n.toNat<b.auths.length
 c0:0≤(b.auth d.n).card
 c1:(b.auth d.n).card.toNat<b.cards.length
 c8:(b.auth d.n).card<8
 s0:0≤(b.auth d.n).shop
 s1:(b.auth d.n).shop.toNat<b.due.length
 s8:(b.auth d.n).shop<8
 right:RightC (b.card (b.auth d.n).card)
 m1:-400000000≤(b.card (b.auth d.n).card).m
 m2:(b.card (b.auth d.n).card).m≤400000000
 h0:0≤(b.card (b.auth d.n).card).h+(Au.holdA (aft b d)-Au.holdA (b.auth d.n))
 h1:(b.card (b.auth d.n).card).h+(Au.holdA (aft b d)-Au.holdA (b.auth d.n))≤31000000
 g1:-1000000≤Au.holdA (aft b d)-Au.holdA (b.auth d.n)
 g2:Au.holdA (aft b d)-Au.holdA (b.auth d.n)≤1000000
 card:(aft b d).card=(b.auth d.n).card
 shop:(aft b d).shop=(b.auth d.n).shop
theorem nums_of {K:Nat}{b:Bank}{d:Dd}(I:Inv b) (B:Bound K b) (hK:K≤400) (q1:¬(d.n <0∨(b.auths.length:Int)≤d.n)) (q2:Au.mvErr (b.auth d.n) d.mv d.sum=0):Nums b d:=by
 have may:=Au.mvErr_zero.1 q2
 obtain ⟨H,S,Bo⟩:=I
 have hn:d.n.toNat<b.auths.length:=by omega
 obtain ⟨r1,r2,r3,r4⟩:=H.auth (k:=d.n) (by omega) (by omega)
 have hc0:0≤(b.auth d.n).card:=r1.2.2.2.2.1.1
 have hs0:0≤(b.auth d.n).shop:=r1.2.2.2.2.2.1.1
 have hc8:(b.auth d.n).card<8:=r1.2.2.2.2.1.2
 have hs8:(b.auth d.n).shop<8:=r1.2.2.2.2.2.1.2
 obtain ⟨t1,t2,t3,t4,-⟩:=step_right may
 have k1:=hold_small r1 r2
 have k2:0≤Au.holdA (aft b d)∧Au.holdA (aft b d)≤1000000:=hold_small t1 t2
 have hk:(b.auth d.n).card.toNat<b.cards.length:=by omega
 have hm:=Bo.accC (b.auth d.n).card.toNat hk
 have hb:=B (10+(((b.auth d.n).card.toNat:Nat):Int)) (by omega)
 rw[hm] at hb
 have hh:=H.held (b.auth d.n).card.toNat hk
 have hs:=H.small (b.auth d.n).card.toNat
 have hmem:b.auth d.n∈b.auths:=getD_mem' _ hn
 have hge:Au.holdA (b.auth d.n)≤heldOf (b.auth d.n).card.toNat b.auths:=by
  have hsplit:=sumOn_set (heldBy (b.auth d.n).card.toNat) b.auths d.n.toNat zA zA hn
  have h0:heldBy (b.auth d.n).card.toNat (b.auths.getD d.n.toNat zA)=Au.holdA (b.auth d.n):=by
   show heldBy _ (b.auth d.n)=_
   unfold heldBy;rw[if_pos (by omega)]
  have h1:heldBy (b.auth d.n).card.toNat zA=0:=by unfold heldBy zA Au.none0 Au.holdA;split<;>simp
  have h2:=sumOn_bound (f:=heldBy (b.auth d.n).card.toNat) (c:=1000000) (l:=b.auths.set d.n.toNat zA) fun a ha=>by
   rcases mem_set' ha with rfl|ha
   ·unfold heldBy zA Au.none0 Au.holdA;split<;>simp
   ·have:= hold_small (H.auths a ha).1 (H.auths a ha).2.1
    unfold heldBy
    split<;>omega
  rw[h0,h1] at hsplit
  unfold heldOf
  omega
 have hM:(1000000 :Int)*(K :Int)≤400000000:=by omega
 refine ⟨may,by omega,hn,hc0,hk,hc8,hs0,by omega,hs8,H.card hc0 (by omega),?_,?_,?_,?_,by omega,by omega,t3,t4⟩
 ·show-400000000≤(b.cards.getD _ zeroC).m;omega
 ·show (b.cards.getD _ zeroC).m≤400000000;omega
 ·show 0≤(b.cards.getD _ zeroC).h+_;rw[hh];omega
 ·show (b.cards.getD _ zeroC).h+_≤31000000;rw[hh];omega
theorem become_in {b:Bank}{d:Dd}(N:Nums b d):becomeP b d.n (aft b d)=({ b with auths:=b.auths.set d.n.toNat (aft b d),cards:=b.cards.set (b.auth d.n).card.toNat ⟨(b.card (b.auth d.n).card).m,(b.card (b.auth d.n).card).h+(Au.holdA (aft b d)-Au.holdA (b.auth d.n)),(b.card (b.auth d.n).card).p,(b.card (b.auth d.n).card).u⟩},0):=by
 unfold becomeP
 have h0:=N.h0;have h1:=N.h1;have g1:=N.g1;have g2:=N.g2;have m1:=N.m1;have m2:=N.m2
 have e:({ b with auths:=b.auths.set d.n.toNat (aft b d)}:Bank).card (aft b d).card=b.card (b.auth d.n).card:=by rw[N.card];rfl
 rw[shiftP_in (by rw[e];exact N.right) (by unfold far;omega) (by rw[e];unfold off;omega),e,N.card,Int.add_zero]
theorem move_room {K:Nat} {b:Bank} {src dst n:Int}(Bo:Books b) (B:Bound K b) (hK:K≤400) (hs:1≤src∧src<58) (hd:1≤dst∧dst<58) (hne:src≠dst) (hn:0≤n∧n≤1000000):(moveB b.book src dst n).2=0:=by
 have h1:=B src (by omega)
 have h2:=B dst (by omega)
 exact moveB_fits Bo.right (by omega) (by omega) hne (by omega) (by omega) (by omega)
theorem put_same {b x:Bank} {i:Bool} {t:Po.Tr} (h:x.snd=b.snd):(putP x i t).2=(Po.putS (b.snd i) t).2:=by
 unfold putP;rw[h];split
 ·rfl
 ·rename_i q;exact (Decidable.not_not.1 q).symm
theorem put_done {x:Bank} {i:Bool} {t:Po.Tr}(h:(Po.putS (x.snd i) t).2=0):putP x i t=({ x with snd:=upd x.snd i (Po.putS (x.snd i) t).1},0):=by
 unfold putP;rw[if_neg (by simpa using h)]
theorem put_today {x:Bank} {i:Bool} {t:Po.Tr}:(putP x i t).1.today=x.today:=by
 unfold putP;split<;>rfl
theorem last_two {b x:Bank} {e:Int} {r:Dy.Rc} {P:Bank×Int} (h2:P.2=e) (h3:P.1.today=b.today):
  (andE P fun y=>noteP y r).2=(if e≠0 then e else if 100≤b.today.length then 5 else 0)∧(e=0→¬100≤b.today.length→P.1=x→(andE P fun y=>noteP y r).1={x with today:=b.today++[r]}):=by
 unfold andE noteP
 dsimp only
 rw[h2,h3]
 constructor
 ·unfold orE
  split
  ·rfl
  ·split<;>rfl
 ·intro _ h5 h6
  rw[if_neg h5]
  dsimp only
  rw[h6]
theorem andE_ok {x:Bank×Int}{f:Bank→Bank×Int}(h:x.2=0):andE x f=f x.1:=by
 unfold andE;rw[h,orE_zero]
theorem andE_zero (y:Bank) (f:Bank→Bank×Int):andE (y,0) f=f y:=rfl
theorem go_in{K:Nat}{b:Bank}{d:Dd}(I:Inv b) (B:Bound K b) (hK:K≤400) (N:Nums b d):
    (cardAft b d).2=0∧(bookBy b.book (b.auth d.n) d.mv d.sum).2=0∧
    (goP b d (aft b d)).2=(if (sendBy b.snd d.mv d.n d.sum).2≠0 then (sendBy b.snd d.mv d.n d.sum).2 else if 100≤b.today.length then 5 else 0)∧
    ((sendBy b.snd d.mv d.n d.sum).2=0→¬100≤b.today.length→(goP b d (aft b d)).1=moveAll b d):=by
  have R:=N.right
  have may:=N.may
  have n1:=may.2.2.2.2.1
  have n2:=may.2.2.2.2.2.1
  have h0:=N.h0;have h1:=N.h1;have g1:=N.g1;have g2:=N.g2;have m1:=N.m1;have m2:=N.m2
  have c0:=N.c0;have c8:=N.c8;have s0:=N.s0;have s8:=N.s8
  have hin:∀x:Int,-1000000≤x→x≤1000000→shiftC (b.card (b.auth d.n).card) (Au.holdA (aft b d)-Au.holdA (b.auth d.n)) x=(⟨(b.card (b.auth d.n).card).m+x,(b.card (b.auth d.n).card).h+(Au.holdA (aft b d)-Au.holdA (b.auth d.n)),(b.card (b.auth d.n).card).p,(b.card (b.auth d.n).card).u⟩,0):=fun x h2 h3=>
    shift_in R (by unfold far;omega) (by unfold off;omega)
  have hby : -1000000 ≤ cardBy d.mv d.sum ∧ cardBy d.mv d.sum ≤ 1000000 := by unfold cardBy;repeat' split
                                                                              all_goals omega
  have hca:cardAft b d=(⟨(b.card (b.auth d.n).card).m+cardBy d.mv d.sum,(b.card (b.auth d.n).card).h+(Au.holdA (aft b d)-Au.holdA (b.auth d.n)),(b.card (b.auth d.n).card).p,(b.card (b.auth d.n).card).u⟩,0):=hin _ hby.1 hby.2
  have hbook:∀src dst:Int,1≤src→src<58→1≤dst→dst<58→src≠dst→(moveB b.book src dst d.sum).2=0:=fun src dst p1 p2 p3 p4 p5=>move_room I.books B hK ⟨p1,p2⟩ ⟨p3,p4⟩ p5 (by omega)
  have hbo:(bookBy b.book (b.auth d.n) d.mv d.sum).2=0:=by
    unfold bookBy
    repeat' split
    ·exact hbook _ _ (by omega) (by omega) (by omega) (by omega) (by omega)
    ·exact hbook _ _ (by omega) (by omega) (by omega) (by omega) (by omega)
    ·exact hbook _ _ (by omega) (by omega) (by omega) (by omega) (by omega)
    ·exact hbook _ _ (by omega) (by omega) (by omega) (by omega) (by omega)
    ·rfl
  refine ⟨by rw[hca],hbo,?_⟩
  have hbe:=become_in N
  obtain ⟨x,hx⟩:∃x,x=(becomeP b d.n (aft b d)).1:=⟨_,rfl⟩
  have hx':=hx
  rw[hbe] at hx
  have hgo:goP b d (aft b d)=andE (passP x (aft b d) d) fun y=>noteP y ⟨(aft b d).shop,d.n,d.mv,d.sum⟩:=by
    unfold goP
    rw[andE_ok (by rw[hbe]),←hx']
  clear hx'
  have xs:x.snd=b.snd:=by rw[hx]
  have xt:x.today=b.today:=by rw[hx]
  have xb:x.book=b.book:=by rw[hx]
  have xd:x.due=b.due:=by rw[hx]
  have xc:x.card (b.auth d.n).card=⟨(b.card (b.auth d.n).card).m,(b.card (b.auth d.n).card).h+(Au.holdA (aft b d)-Au.holdA (b.auth d.n)),(b.card (b.auth d.n).card).p,(b.card (b.auth d.n).card).u⟩:=by
    rw[hx]
    exact card_set {b with auths:=b.auths.set d.n.toNat (aft b d)} b.cards _ _ N.c1
  have xR:RightC (x.card (b.auth d.n).card):=by
    rw[xc]
    have :=right_in (c:=b.card (b.auth d.n).card) (h:=Au.holdA (aft b d)-Au.holdA (b.auth d.n)) (m:=0) R (by unfold off;omega)
    rw[Int.add_zero] at this
    exact this
  have xsh:∀y:Int,-1000000≤y→y≤1000000→shiftP x (b.auth d.n).card 0 y=({ x with cards:=b.cards.set (b.auth d.n).card.toNat ⟨(b.card (b.auth d.n).card).m+y,(b.card (b.auth d.n).card).h+(Au.holdA (aft b d)-Au.holdA (b.auth d.n)),(b.card (b.auth d.n).card).p,(b.card (b.auth d.n).card).u⟩},0):=by
    intro y y1 y2
    rw[shiftP_in xR (by unfold far;omega) (by rw[xc];unfold off;dsimp only;omega),xc]
    dsimp only
    rw[Int.add_zero]
    rw[hx]
    simp only[List.set_set]
  have xdue:∀y:Int,dueP x (b.auth d.n).shop y={x with due:=b.due.set (b.auth d.n).shop.toNat (b.dueOf (b.auth d.n).shop+y)}:=by
    intro y
    unfold dueP Bank.dueOf
    rw[xd]
  have hcs:(cardAft b d).1=⟨(b.card (b.auth d.n).card).m+cardBy d.mv d.sum,(b.card (b.auth d.n).card).h+(Au.holdA (aft b d)-Au.holdA (b.auth d.n)),(b.card (b.auth d.n).card).p,(b.card (b.auth d.n).card).u⟩:=by rw[hca]
  have hds:b.due.set (b.auth d.n).shop.toNat (b.dueOf (b.auth d.n).shop+0)=b.due:=set_same _ _ 0 _ (by rw[Int.add_zero];rfl)
  have hall:∀(c:Ca) (du:List Int) (bk:List (Int×Int)) (sn:Bool→Po.Se),c=(cardAft b d).1→du=b.due.set (b.auth d.n).shop.toNat (b.dueOf (b.auth d.n).shop+dueBy d.mv d.sum)→bk=(bookBy b.book (b.auth d.n) d.mv d.sum).1→sn=(sendBy b.snd d.mv d.n d.sum).1→
      ({b with auths:=b.auths.set d.n.toNat (aft b d),cards:=b.cards.set (b.auth d.n).card.toNat c,due:=du,book:=bk,snd:=sn,today:=b.today++[⟨(aft b d).shop,d.n,d.mv,d.sum⟩]}:Bank)=moveAll b d:=by
    intro c du bk sn e1 e2 e3 e4
    subst e1 e2 e3 e4
    rw[N.shop]
    rfl
  rw[hgo]
  have hmv:=eight may.2.2.1 may.2.2.2.1
  clear hgo hbe
  -- what is put behind a step that is right
  have fin:∀(P:Bank×Int) (e:Int) (z:Bank),P.2=e→P.1.today=b.today→e=(sendBy b.snd d.mv d.n d.sum).2→(e =0→P.1=z)→((e =0)→({z with today:=b.today++[⟨(aft b d).shop,d.n,d.mv,d.sum⟩]}:Bank)=moveAll b d)→
      (andE P fun y=>noteP y ⟨(aft b d).shop,d.n,d.mv,d.sum⟩).2=(if (sendBy b.snd d.mv d.n d.sum).2≠0 then (sendBy b.snd d.mv d.n d.sum).2 else if 100≤b.today.length then 5 else 0)∧
      ((sendBy b.snd d.mv d.n d.sum).2=0→¬100≤b.today.length→(andE P fun y=>noteP y ⟨(aft b d).shop,d.n,d.mv,d.sum⟩).1=moveAll b d):=by
    intro P e z p1 p2 p3 p4 p5
    obtain ⟨l1,l2⟩:=last_two (b:=b) (x:=z) (r:=⟨(aft b d).shop,d.n,d.mv,d.sum⟩) p1 p2
    rw[←p3]
    exact ⟨l1,fun q1 q2=>(l2 q1 q2 (p4 q1)).trans (p5 q1)⟩
  rcases hmv with h|h|h|h|h|h|h|h
  -- more
  · rw[show passP x (aft b d) d=(x,0) by unfold passP;rw[h];simp]
    refine fin _ 0 x rfl xt (by unfold sendBy;rw[h];simp) (fun _=>rfl) fun _=>?_
    rw[hx]
    exact hall _ _ _ _ (by rw[hcs];unfold cardBy;rw[h];simp) (by unfold dueBy;rw[h];exact hds.symm) (by unfold bookBy;rw[h];simp) (by unfold sendBy;rw[h];simp)
  -- capture
  · have e1:passP x (aft b d) d=andE (cardGivesP x (aft b d).card 1 d.sum) fun x=>putP x false ⟨0,1,d.n,d.sum⟩:=by unfold passP;rw[if_pos (by omega)]
    have e2:(moveB b.book (10+(b.auth d.n).card) 1 d.sum).2=0:=hbook _ _ (by omega) (by omega) (by omega) (by omega) (by omega)
    have e3:cardGivesP x (aft b d).card 1 d.sum=({x with cards:=b.cards.set (b.auth d.n).card.toNat ⟨(b.card (b.auth d.n).card).m+-d.sum,(b.card (b.auth d.n).card).h+(Au.holdA (aft b d)-Au.holdA (b.auth d.n)),(b.card (b.auth d.n).card).p,(b.card (b.auth d.n).card).u⟩,book:=(moveB b.book (10 +(b.auth d.n).card) 1 d.sum).1},0):=by
      unfold cardGivesP
      rw[N.card,xsh _ (by omega) (by omega),andE_ok rfl,enterP_in (by dsimp only;rw[xb];exact e2)]
      dsimp only
      rw[xb]
    rw[e3,andE_zero] at e1
    rw[e1]
    have e4:(sendBy b.snd d.mv d.n d.sum).2=(Po.putS (b.snd false) ⟨0,1,d.n,d.sum⟩).2:=by unfold sendBy;rw[if_pos (by omega)]
    refine fin _ _ _ (put_same (b:=b) xs) (put_today.trans xt) e4.symm (fun q=>congrArg Prod.fst (put_done (by show (Po.putS (x.snd false) _).2=0;rw[xs];exact q))) fun _=>?_
    dsimp only
    rw[hx]
    exact hall _ _ _ _ (by rw[hcs];unfold cardBy;rw[if_pos (by omega)]) (by unfold dueBy;rw[if_neg (by omega)];exact hds.symm) (by unfold bookBy;rw[if_pos (by omega)]) (by unfold sendBy;rw[if_pos (by omega)])
  -- last
  · have e1:passP x (aft b d) d=andE (cardGivesP x (aft b d).card 1 d.sum) fun x=>putP x false ⟨0,1,d.n,d.sum⟩:=by unfold passP;rw[if_pos (by omega)]
    have e2:(moveB b.book (10+(b.auth d.n).card) 1 d.sum).2=0:=hbook _ _ (by omega) (by omega) (by omega) (by omega) (by omega)
    have e3:cardGivesP x (aft b d).card 1 d.sum=({x with cards:=b.cards.set (b.auth d.n).card.toNat ⟨(b.card (b.auth d.n).card).m+-d.sum,(b.card (b.auth d.n).card).h+(Au.holdA (aft b d)-Au.holdA (b.auth d.n)),(b.card (b.auth d.n).card).p,(b.card (b.auth d.n).card).u⟩,book:=(moveB b.book (10 +(b.auth d.n).card) 1 d.sum).1},0):=by
      unfold cardGivesP
      rw[N.card,xsh _ (by omega) (by omega),andE_ok rfl,enterP_in (by dsimp only;rw[xb];exact e2)]
      dsimp only
      rw[xb]
    rw[e3,andE_zero] at e1
    rw[e1]
    have e4:(sendBy b.snd d.mv d.n d.sum).2=(Po.putS (b.snd false) ⟨0,1,d.n,d.sum⟩).2:=by unfold sendBy;rw[if_pos (by omega)]
    refine fin _ _ _ (put_same (b:=b) xs) (put_today.trans xt) e4.symm (fun q=>congrArg Prod.fst (put_done (by show (Po.putS (x.snd false) _).2=0;rw[xs];exact q))) fun _=>?_
    dsimp only
    rw[hx]
    exact hall _ _ _ _ (by rw[hcs];unfold cardBy;rw[if_pos (by omega)]) (by unfold dueBy;rw[if_neg (by omega)];exact hds.symm) (by unfold bookBy;rw[if_pos (by omega)]) (by unfold sendBy;rw[if_pos (by omega)])
  -- reverse
  · rw[show passP x (aft b d) d=(x,0) by unfold passP;rw[h];simp]
    refine fin _ 0 x rfl xt (by unfold sendBy;rw[h];simp) (fun _=>rfl) fun _=>?_
    rw[hx]
    exact hall _ _ _ _ (by rw[hcs];unfold cardBy;rw[h];simp) (by unfold dueBy;rw[h];exact hds.symm) (by unfold bookBy;rw[h];simp) (by unfold sendBy;rw[h];simp)
  -- refund
  · have e1:passP x (aft b d) d=andE (shopGivesP x (aft b d).shop 1 d.sum) fun x=>putP x true ⟨0,2,d.n,d.sum⟩:=by unfold passP;rw[if_neg (by omega),if_pos h]
    have e2:(moveB b.book (50 +(b.auth d.n).shop) 1 d.sum).2=0:=hbook _ _ (by omega) (by omega) (by omega) (by omega) (by omega)
    have e3:shopGivesP x (aft b d).shop 1 d.sum=({x with due:=b.due.set (b.auth d.n).shop.toNat (b.dueOf (b.auth d.n).shop+-d.sum),book:=(moveB b.book (50 +(b.auth d.n).shop) 1 d.sum).1},0):=by
      unfold shopGivesP
      rw[N.shop,xdue,enterP_in (by dsimp only;rw[xb];exact e2)]
      dsimp only
      rw[xb]
    rw[e3,andE_zero] at e1
    rw[e1]
    have e4:(sendBy b.snd d.mv d.n d.sum).2=(Po.putS (b.snd true) ⟨0,2,d.n,d.sum⟩).2:=by unfold sendBy;rw[if_neg (by omega),if_pos h]
    refine fin _ _ _ (put_same (b:=b) xs) (put_today.trans xt) e4.symm (fun q=>congrArg Prod.fst (put_done (by show (Po.putS (x.snd true) _).2=0;rw[xs];exact q))) fun _=>?_
    dsimp only
    rw[hx]
    exact hall _ _ _ _ (by rw[hcs];unfold cardBy;rw[h];simp) (by unfold dueBy;rw[if_pos h]) (by unfold bookBy;rw[if_neg (by omega),if_pos h]) (by unfold sendBy;rw[if_neg (by omega),if_pos h])
  -- dispute
  · have e1:passP x (aft b d) d=cardGetsP x (aft b d).card 2 d.sum:=by unfold passP;rw[if_neg (by omega),if_neg (by omega),if_pos h]
    have e2:(moveB b.book 2 (10+(b.auth d.n).card) d.sum).2=0:=hbook _ _ (by omega) (by omega) (by omega) (by omega) (by omega)
    have e3:cardGetsP x (aft b d).card 2 d.sum=({ x with cards:=b.cards.set (b.auth d.n).card.toNat ⟨(b.card (b.auth d.n).card).m+d.sum,(b.card (b.auth d.n).card).h+(Au.holdA (aft b d)-Au.holdA (b.auth d.n)),(b.card (b.auth d.n).card).p,(b.card (b.auth d.n).card).u⟩,book:=(moveB b.book 2 (10 +(b.auth d.n).card) d.sum).1},0):=by
      unfold cardGetsP
      rw[N.card,xsh _ (by omega) (by omega),andE_ok rfl,enterP_in (by dsimp only;rw[xb];exact e2)]
      dsimp only
      rw[xb]
    rw[e1,e3]
    refine fin _ 0 _ rfl xt (by unfold sendBy;rw[h];simp) (fun _=>rfl) fun _=>?_
    dsimp only
    rw[hx]
    exact hall _ _ _ _ (by rw[hcs];unfold cardBy;rw[h];simp) (by unfold dueBy;rw[if_neg (by omega)];exact hds.symm) (by unfold bookBy;rw[if_neg (by omega),if_neg (by omega),if_pos h]) (by unfold sendBy;rw[h];simp)
  -- for the card
  · have e1:passP x (aft b d) d=putP x false ⟨0,3,d.n,d.sum⟩:=by unfold passP;rw[if_neg (by omega),if_neg (by omega),if_neg (by omega),if_pos h]
    rw[e1]
    have e4:(sendBy b.snd d.mv d.n d.sum).2=(Po.putS (b.snd false) ⟨0,3,d.n,d.sum⟩).2:=by unfold sendBy;rw[if_neg (by omega),if_neg (by omega),if_pos h]
    refine fin _ _ _ (put_same (b:=b) xs) (put_today.trans xt) e4.symm (fun q=>congrArg Prod.fst (put_done (by rw[xs];exact q))) fun _=>?_
    dsimp only
    rw[hx]
    exact hall _ _ _ _ (by rw[hcs];unfold cardBy;rw[h];simp) (by unfold dueBy;rw[if_neg (by omega)];exact hds.symm) (by unfold bookBy;rw[h];simp) (by unfold sendBy;rw[if_neg (by omega),if_neg (by omega),if_pos h])
  -- for the shop
  · have e1:passP x (aft b d) d=cardGivesP x (aft b d).card 2 d.sum:=by unfold passP;rw[if_neg (by omega),if_neg (by omega),if_neg (by omega),if_neg (by omega),if_pos h]
    have e2:(moveB b.book (10 +(b.auth d.n).card) 2 d.sum).2=0:=hbook _ _ (by omega) (by omega) (by omega) (by omega) (by omega)
    have e3:cardGivesP x (aft b d).card 2 d.sum=({ x with cards:=b.cards.set (b.auth d.n).card.toNat ⟨(b.card (b.auth d.n).card).m+-d.sum,(b.card (b.auth d.n).card).h+(Au.holdA (aft b d)-Au.holdA (b.auth d.n)),(b.card (b.auth d.n).card).p,(b.card (b.auth d.n).card).u⟩,book:=(moveB b.book (10+(b.auth d.n).card) 2 d.sum).1},0):=by
      unfold cardGivesP
      rw[N.card,xsh _ (by omega) (by omega),andE_ok rfl,enterP_in (by dsimp only;rw[xb];exact e2)]
      dsimp only
      rw[xb]
    rw[e1,e3]
    refine fin _ 0 _ rfl xt (by unfold sendBy;rw[h];simp) (fun _=>rfl) fun _=>?_
    dsimp only
    rw[hx]
    exact hall _ _ _ _ (by rw[hcs];unfold cardBy;rw[h];simp) (by unfold dueBy;rw[if_neg (by omega)];exact hds.symm) (by unfold bookBy;rw[if_neg (by omega),if_neg (by omega),if_neg (by omega),if_pos h]) (by unfold sendBy;rw[h];simp)
def moveP (b:Bank) (d:Dd):Bank×Int:=
 if b.down=true then (b,12)
 else if d.n<0∨(b.auths.length:Int)≤d.n then (b,6)
 else if Au.mvErr (b.auth d.n) d.mv d.sum≠0 then (b,Au.mvErr (b.auth d.n) d.mv d.sum)
 else if d.mv=1∧(b.card (b.auth d.n).card).m-(b.card (b.auth d.n).card).h<d.sum then (b,10)
 else goP b d (aft b d)
def Plan (x y:Bank×Int):Prop:=x.2=y.2∧(y.2=0→x.1=y.1)
theorem plan_refl (x:Bank×Int):Plan x x:=⟨rfl,fun _=>rfl⟩
theorem plan_ite {c:Prop}[Decidable c]{x y z:Bank×Int} (h:¬c→Plan y z):Plan (if c then x else y) (if c then x else z):=by
 split
 ·exact plan_refl x
 ·rename_i q;exact h q
theorem move_plan{K:Nat}{b:Bank}{d:Dd}(I:Inv b) (B:Bound K b) (hK:K≤400):Plan (moveP b d) (moveD b d):=by
 unfold moveP moveD
 refine plan_ite fun q1=>plan_ite fun q2=>plan_ite fun q3=>plan_ite fun q4=>?_
 obtain ⟨g1,g2,g3,g4⟩:=go_in I B hK (nums_of I B hK q2 (Decidable.not_not.1 q3))
 rw[if_neg (by simpa using g1),if_neg (by simpa using g2)]
 refine ⟨?_,?_⟩
 ·rw[g3]
  split
  ·rfl
  ·split<;>rfl
 ·intro h
  split at h
  ·rename_i q;exact absurd h q
  ·rename_i q
   rw[if_neg q]
   split at h
   ·cases h
   ·rename_i q'
    rw[if_neg q']
    exact g4 (Decidable.not_not.1 q) q'
end Go.Proofs.YtofcnebekmjdoaaGreatDoor.Bn
