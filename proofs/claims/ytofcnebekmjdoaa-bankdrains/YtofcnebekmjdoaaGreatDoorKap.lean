import Derived.Test.YtofcnebekmjdoaaGreatDoorKao
set_option maxHeartbeats 4000000
set_option maxRecDepth 100000
namespace Go.Proofs.YtofcnebekmjdoaaGreatDoor.Bn
open Go.Proofs.YtofcnebekmjdoaaGreatDoor
def sumOn {α:Type} (f:α→Int):List α→Int
 |[]=>0
 |x::r=>f x+sumOn f r
theorem sumOn_append {α:Type}(f:α→Int) (a b:List α):sumOn f (a++b)=sumOn f a+sumOn f b:=by
 induction a with
 |nil=>simp[sumOn]
 |cons x r ih=>simp only[List.cons_append,sumOn,ih];omega
theorem sumOn_one {α:Type}(f:α→Int) (x:α):sumOn f [x]=f x:=by simp [sumOn]
theorem sumOn_map {α β:Type}(f:β→Int) (g:α→β) (l:List α):sumOn f (l.map g)=sumOn (fun x=>f (g x)) l:=by
 induction l with
 |nil=>rfl
 |cons x r ih=>simp only[List.map_cons,sumOn,ih]
theorem sumOn_add {α:Type}(f g:α→Int) (l:List α):sumOn (fun x=>f x+g x) l=sumOn f l+sumOn g l:=by
 induction l with
 |nil=>rfl
 |cons x r ih=>simp only[sumOn,ih];omega
theorem sumOn_congr {α:Type} {f g:α→Int} {l:List α}(h:∀x∈l,f x=g x):sumOn f l=sumOn g l:=by
 induction l with
 |nil=>rfl
 |cons x r ih=>simp only[sumOn];rw[h x List.mem_cons_self,ih fun y hy=>h y (List.mem_cons_of_mem _ hy)]
theorem sumOn_zero{α:Type}{f:α→Int}{l:List α}(h:∀x∈l,f x=0):sumOn f l=0:=by
 induction l with
 |nil=>rfl
 |cons x r ih=>simp only[sumOn];rw[h x List.mem_cons_self,ih fun y hy=>h y (List.mem_cons_of_mem _ hy)];rfl
theorem sumOn_set{α:Type}(f:α→Int) (l:List α) (i:Nat) (x d:α) (h:i<l.length):sumOn f (l.set i x)=sumOn f l-f (l.getD i d)+f x:=by
 induction l generalizing i with
 |nil=>simp at h
 |cons y r ih=>
  cases i with
  |zero=>simp[sumOn];omega
  |succ i=>
   have:= ih i (by simpa using h)
   simp only[List.set_cons_succ,sumOn,List.getD_cons_succ,this];omega
theorem sumOn_bound {α:Type} {f:α→Int} {c:Int} {l:List α}(h:∀x∈l,0≤f x∧f x≤c):0≤sumOn f l∧sumOn f l≤c*l.length:=by
 induction l with
 |nil=>simp[sumOn]
 |cons x r ih=>
  have h1:=ih fun y hy=>h y (List.mem_cons_of_mem _ hy)
  have h2:=h x List.mem_cons_self
  simp only[sumOn,List.length_cons,Int.natCast_add,Int.natCast_one,Int.mul_add,Int.mul_one]
  omega
theorem getD_set {α:Type} (l:List α) (i j:Nat) (x d:α) (h:i<l.length):(l.set i x).getD j d=if i=j then x else l.getD j d:=by
 simp only[List.getD_eq_getElem?_getD,List.getElem?_set]
 by_cases e:i=j
 ·subst e;simp[h]
 ·simp[e]
theorem getD_mem' {α:Type}{l:List α}{i:Nat}(d:α) (h:i<l.length):l.getD i d∈l:=by simp[List.getD,h]
theorem mem_getD {α:Type} {l:List α} {x:α}(d:α) (h:x∈l):∃i,i<l.length∧l.getD i d=x:=by
 obtain ⟨i,hi,rfl⟩:=List.getElem_of_mem h
 exact ⟨i,hi,by simp[List.getD,hi]⟩
theorem mem_set' {α:Type}{l:List α}{i:Nat}{x y:α}(h:y∈l.set i x):y=x∨y∈l:=by
 rcases List.mem_or_eq_of_mem_set h with h|h
 ·exact Or.inr h
 ·exact Or.inl h
theorem moveB_zero {l:List (Int×Int)}{src dst n:Int}(h:(moveB l src dst n).2=0):
  (Bk.wrong (moveB l src dst n).1).1=0∧∀acc,Bk.getE (moveB l src dst n).1 acc=Bk.getE l acc+(if src=acc then-n else 0)+(if dst=acc then n else 0):=by
 unfold moveB at h⊢
 by_cases h0:n<0∨1000000000000<n
 ·rw[if_pos h0] at h;cases h
 ·rw[if_neg h0] at h⊢
  have hp:Bk.post l [(src,-n),(dst,n)]=((Bk.post l [(src,-n),(dst,n)]).1,0):=by rw[←h]
  obtain ⟨-,-,h3,h4⟩:=Bk.post_right hp
  refine ⟨h3,fun acc=>?_⟩
  rw[h4 acc]
  simp only[Bk.given]
  omega
def heldBy (k:Nat) (a:Au.Au):Int:=if a.card=(k :Int) then Au.holdA a else 0
def heldOf (k:Nat) (l:List Au.Au):Int:=sumOn (heldBy k) l
def wayBy (came:Int) (t:Po.Tr):Int:=if came<t.n∧t.k≠3 then t.s else 0
def backBy (came:Int) (t:Po.Tr):Int:=if came<t.n∧t.k=3 then t.s else 0
def onWay (b:Bank):Int:=sumOn (wayBy (b.seen true)) (b.snd false).kept+sumOn (wayBy (b.seen false)) (b.snd true).kept
def onBack (b:Bank):Int:=sumOn (backBy (b.seen true)) (b.snd false).kept+sumOn (backBy (b.seen false)) (b.snd true).kept
def disputed (b:Bank):Int:=sumOn Au.Au.dis b.auths
structure Held (b:Bank):Prop where
 cards8:b.cards.length≤8
 due8:b.due.length≤8
 right:∀c∈b.cards,RightC c
 few:b.auths.length+b.stand.adv.length≤30
 auths:∀a∈b.auths,Au.Rng a∧Au.Fit a∧a.card<b.cards.length∧a.shop<b.due.length
 held:∀k:Nat,k<b.cards.length→(b.cards.getD k zeroC).h=heldOf k b.auths
 stand:St.Right b.stand
 standN:b.stand.used.length=b.cards.length
 advs:∀x∈b.stand.adv,x.s<b.due.length∧x.t≤b.time
 noadv:b.down=false→b.stand.adv=[]
 time0:0≤b.time
 time1:b.time≤1000000
 today:Dy.Right b.today
structure Sent (b:Bank):Prop where
 right:∀i,Po.Right (b.snd i)
 seen0:∀i,0≤b.seen i
 seen1:∀i,b.seen i≤(b.snd (!i)).sent
 keeps:∀i,(b.snd i).sent-(b.snd i).kept.length≤b.seen (!i)
 auths:∀i,∀t∈(b.snd i).kept,t.a<b.auths.length
 kind0:∀t∈(b.snd false).kept,t.k=1∨t.k=3
 kind1:∀t∈(b.snd true).kept,t.k=2
 ways:∀i,∀p∈b.way i,(p.seen =-1∧(p.t.n≤b.seen i∨p.t∈(b.snd (!i)).kept))∨(0 ≤p.seen∧p.seen≤b.seen (!i))
 way60:∀i,(b.way i).length≤60
structure Books (b:Bank):Prop where
 right:(Bk.wrong b.book).1=0
 accC:∀k:Nat,k<b.cards.length→Bk.getE b.book (10+(k :Int))=(b.cards.getD k zeroC).m
 accS:∀k:Nat,k<b.due.length→Bk.getE b.book (50 +(k :Int))=b.due.getD k 0
 acc1:Bk.getE b.book 1=onWay b
 acc2:Bk.getE b.book 2=-disputed b-onBack b
structure Inv (b:Bank):Prop where
 held:Held b
 sent:Sent b
 books:Books b
theorem Held.card {b:Bank} (h:Held b){k:Int} (h0:0≤k) (h1:k<b.cards.length):RightC (b.card k):=h.right _ (getD_mem' _ (by omega))
theorem Held.auth {b:Bank}(h:Held b) {k:Int}(h0:0≤k) (h1:k<b.auths.length):Au.Rng (b.auth k)∧Au.Fit (b.auth k)∧(b.auth k).card<b.cards.length∧(b.auth k).shop<b.due.length:=h.auths _ (getD_mem' _ (by omega))
theorem hold_small {a:Au.Au}(h1:Au.Rng a) (h2:Au.Fit a):0≤Au.holdA a∧Au.holdA a≤1000000:=by
 unfold Au.holdA
 obtain ⟨⟨p1,p2⟩,⟨p3,p4⟩,-⟩:=h1
 split
 ·omega
 ·have:= h2.1;omega
theorem Held.small {b:Bank}(h:Held b) (k:Nat):0≤heldOf k b.auths∧heldOf k b.auths≤30000000:=by
 have h1:=sumOn_bound (f:=heldBy k) (c:=1000000) (l:=b.auths) fun a ha=>by
  have:= hold_small (h.auths a ha).1 (h.auths a ha).2.1
  unfold heldBy
  split<;>omega
 have :=h.few
 unfold heldOf
 omega
theorem right_of_shift {c:Ca}{x y:Int}(h:(shiftC c y x).2=0):RightC c∧(shiftC c y x).1=⟨c.m+x,c.h+y,c.p,c.u⟩∧RightC ⟨c.m+x,c.h+y,c.p,c.u⟩:=by
 obtain ⟨h0,h1,h2,h3⟩:=shift_zero h
 refine ⟨wrongC_ok.1 h0,by rw[h3],?_⟩
 have R:=wrongC_ok.1 h0
 unfold off at h2
 exact ⟨by dsimp only;omega,by dsimp only;omega,by dsimp only;omega,by dsimp only;omega,R.pace,R.uses⟩
theorem load_inv {b:Bank}{d:Dd} (I:Inv b) (h:(loadB b d).2=0):Inv (loadB b d).1:=by
 unfold loadB at h⊢
 split at h
 ·cases h
 rename_i h1
 rw[if_neg h1]
 split at h
 ·cases h
 rename_i h2
 rw[if_neg h2]
 split at h
 ·rename_i h3;exact absurd h h3
 rename_i h3
 rw[if_neg h3]
 split at h
 ·rename_i h4;exact absurd h h4
 rename_i h4
 rw[if_neg h4]
 have h3:(shiftC (b.card d.n) 0 d.sum).2=0:=Decidable.not_not.1 h3
 have h4:(moveB b.book 0 (10+d.n) d.sum).2=0:=Decidable.not_not.1 h4
 obtain ⟨g1,g2,g3⟩:=right_of_shift h3
 obtain ⟨m1,m2⟩:=moveB_zero h4
 have hk:d.n.toNat<b.cards.length:=by omega
 obtain ⟨H,S,B⟩:=I
 refine ⟨⟨by simpa using H.cards8,H.due8,?_,H.few,by simpa using H.auths,?_,H.stand,by simpa using H.standN,H.advs,H.noadv,H.time0,H.time1,H.today⟩,⟨S.right,S.seen0,S.seen1,S.keeps,S.auths,S.kind0,S.kind1,S.ways,S.way60⟩,⟨m1,?_,?_,?_,?_⟩⟩
 ·intro c hc
  rcases mem_set' hc with rfl|hc
  ·rw[g2];exact g3
  ·exact H.right c hc
 ·intro k hk2
  have hk2:k<b.cards.length:=by simpa using hk2
  show ((b.cards.set d.n.toNat (shiftC (b.card d.n) 0 d.sum).1).getD k zeroC).h=heldOf k b.auths
  rw[getD_set _ _ _ _ _ hk,g2]
  split
  ·rename_i e;subst e
   have:= H.held _ hk2
   show (b.card d.n).h+0=_
   rw[Int.add_zero];exact this
  ·exact H.held k hk2
 ·intro k hk2
  have hk2:k<b.cards.length:=by simpa using hk2
  show Bk.getE (moveB b.book 0 (10+d.n) d.sum).1 (10 +(k :Int))=((b.cards.set d.n.toNat (shiftC (b.card d.n) 0 d.sum).1).getD k zeroC).m
  rw[m2,getD_set _ _ _ _ _ hk,g2,B.accC k hk2,if_neg (by omega)]
  split
  ·rename_i e;rw[if_pos (by omega)]
   have e2:k=d.n.toNat:=by omega
   subst e2
   show _=(b.card d.n).m+d.sum
   unfold Bank.card
   omega
  ·rename_i e;rw[if_neg (by omega)];omega
 ·intro k hk2
  have:= H.cards8
  show Bk.getE (moveB b.book 0 (10 +d.n) d.sum).1 (50 +(k :Int))=b.due.getD k 0
  rw[m2,B.accS k hk2,if_neg (by omega),if_neg (by omega)];omega
 ·show Bk.getE (moveB b.book 0 (10 +d.n) d.sum).1 1=onWay b
  rw[m2,B.acc1,if_neg (by omega),if_neg (by omega)];omega
 ·show Bk.getE (moveB b.book 0 (10 +d.n) d.sum).1 2=_
  rw[m2,B.acc2,if_neg (by omega),if_neg (by omega)];show _=-disputed b-onBack b;omega
theorem pay_inv {b:Bank}{d:Dd} (I:Inv b) (h:(payB b d).2=0):Inv (payB b d).1:=by
 unfold payB at h⊢
 split at h
 ·cases h
 rename_i h1
 rw [if_neg h1]
 split at h
 ·cases h
 rename_i h2
 rw [if_neg h2]
 split at h
 ·rename_i h3;exact absurd h h3
 rename_i h3
 rw [if_neg h3]
 have h3:(moveB b.book (50 +d.n) 0 (b.dueOf d.n)).2=0:=Decidable.not_not.1 h3
 obtain ⟨m1,m2⟩:=moveB_zero h3
 have hk:d.n.toNat<b.due.length:=by omega
 obtain ⟨H,S,B⟩:=I
 refine ⟨⟨H.cards8,by simpa using H.due8,H.right,H.few,by simpa using H.auths,H.held,H.stand,H.standN,by simpa using H.advs,H.noadv,H.time0,H.time1,H.today⟩,⟨S.right,S.seen0,S.seen1,S.keeps,S.auths,S.kind0,S.kind1,S.ways,S.way60⟩,⟨m1,?_,?_,?_,?_⟩⟩
 ·intro k hk2
  have hk2:k<b.cards.length:=hk2
  have :=H.cards8
  show Bk.getE (moveB b.book (50 +d.n) 0 (b.dueOf d.n)).1 (10 +(k :Int))=(b.cards.getD k zeroC).m
  rw [m2,B.accC k hk2,if_neg (by omega),if_neg (by omega)];omega
 ·intro k hk2
  have hk2:k<b.due.length:=by simpa using hk2
  show Bk.getE (moveB b.book (50 +d.n) 0 (b.dueOf d.n)).1 (50 +(k :Int))=(b.due.set d.n.toNat 0).getD k 0
  rw [m2,getD_set _ _ _ _ _ hk,B.accS k hk2,if_neg (show¬(0:Int)=50+(k:Int) by omega)]
  by_cases e:d.n.toNat=k
  ·rw [if_pos e,if_pos (by omega)];subst e;unfold Bank.dueOf;omega
  ·rw [if_neg e,if_neg (by omega)];omega
 ·show Bk.getE (moveB b.book (50+d.n) 0 (b.dueOf d.n)).1 1=onWay b
  rw [m2,B.acc1,if_neg (by omega),if_neg (by omega)];omega
 ·show Bk.getE (moveB b.book (50 +d.n) 0 (b.dueOf d.n)).1 2=-disputed b-onBack b
  rw [m2,B.acc2,if_neg (by omega),if_neg (by omega)];omega
theorem day_right:Dy.Right []:=⟨by simp,fun r h=>by cases h⟩
theorem day_inv {b:Bank}(I:Inv b):Inv (dayB b).1:=by
 obtain ⟨H,S,B⟩:=I
 exact ⟨⟨H.cards8,H.due8,H.right,H.few,H.auths,H.held,H.stand,H.standN,H.advs,H.noadv,H.time0,H.time1,day_right⟩,⟨S.right,S.seen0,S.seen1,S.keeps,S.auths,S.kind0,S.kind1,S.ways,S.way60⟩,⟨B.right,B.accC,B.accS,B.acc1,B.acc2⟩⟩
theorem down_inv {b:Bank}(I:Inv b) (h:(downB b).2=0):Inv (downB b).1:=by
 unfold downB at h⊢
 split at h
 ·cases h
 rename_i h1
 rw[if_neg h1]
 obtain ⟨H,S,B⟩:=I
 exact ⟨⟨H.cards8,H.due8,H.right,H.few,H.auths,H.held,H.stand,H.standN,H.advs,(fun h=>by cases h),H.time0,H.time1,H.today⟩,⟨S.right,S.seen0,S.seen1,S.keeps,S.auths,S.kind0,S.kind1,S.ways,S.way60⟩,⟨B.right,B.accC,B.accS,B.acc1,B.acc2⟩⟩
theorem askDown_inv{b:Bank}{d:Dd}(I:Inv b) (hd:b.down=true) (h1:¬(d.n <0∨(b.cards.length :Int)≤d.n∨d.shop<0∨(b.due.length:Int)≤d.shop)) (h:(askDown b d).2.1=0):Inv (askDown b d).1:=by
 unfold askDown at h⊢
 split at h
 ·rename_i h2
  dsimp only at h
  split at h
  ·cases h
  ·exact absurd h h2
 rename_i h2
 rw[if_neg h2]
 split at h
 ·cases h
 rename_i h3
 rw[if_neg h3]
 have h2:(St.giveD b.stand (advOf b d)).2=0:=Decidable.not_not.1 h2
 obtain ⟨H,S,B⟩:=I
 obtain ⟨g1,g2⟩:=St.give_right H.stand h2
 rw[g1]
 have hadv:(St.moreD b.stand (advOf b d)).adv=b.stand.adv++[advOf b d]:=rfl
 refine ⟨⟨H.cards8,H.due8,H.right,?_,H.auths,H.held,g2,?_,?_,?_,H.time0,H.time1,H.today⟩,⟨S.right,S.seen0,S.seen1,S.keeps,S.auths,S.kind0,S.kind1,S.ways,S.way60⟩,⟨B.right,B.accC,B.accS,B.acc1,B.acc2⟩⟩
 ·show b.auths.length+(b.stand.adv ++[advOf b d]).length≤30
  simp;omega
 ·show (b.stand.used.set _ _).length=_
  simpa using H.standN
 ·intro x hx
  have hx:x∈b.stand.adv++[advOf b d]:=hx
  rcases List.mem_append.1 hx with hx|hx
  ·exact H.advs x hx
  ·obtain rfl:=List.mem_singleton.1 hx
   exact ⟨by show d.shop<(b.due.length:Int);omega,Int.le_refl _⟩
 ·intro h0;rw[hd] at h0;cases h0
theorem newA_zero {c s n t:Int} (h:(Au.newA c s n t).2=0):(Au.newA c s n t).1=⟨c,s,n,0,0,0,t+100,false⟩∧1≤n∧n≤1000000∧0≤t∧t≤1000000∧0≤c∧c<8∧0≤s∧s<8:=by
 unfold Au.newA at h⊢
 split at h
 ·rename_i h1
  rw [if_pos h1]
  exact ⟨rfl,h1.1.1,h1.1.2,h1.2.1,h1.2.2.1,h1.2.2.2.1.1,h1.2.2.2.1.2,h1.2.2.2.2.1,h1.2.2.2.2.2⟩
 ·cases h
theorem askUp_inv {b:Bank}{d:Dd}(I:Inv b) (hd:b.down=false) (h1:¬(d.n<0∨(b.cards.length :Int)≤d.n∨d.shop<0∨(b.due.length :Int)≤d.shop)) (h:(askUp b d).2.1=0):Inv (askUp b d).1:=by
 unfold askUp at h⊢
 split at h
 ·rename_i h2;exact absurd h h2
 rename_i h2
 rw[if_neg h2]
 split at h
 ·cases h
 rename_i h3
 rw[if_neg h3]
 split at h
 ·rename_i h4;exact absurd h h4
 rename_i h4
 rw[if_neg h4]
 have h2:(Au.newA d.n d.shop d.sum b.time).2=0:=Decidable.not_not.1 h2
 have h4:(allowC (b.card d.n) d.sum b.time).2=0:=Decidable.not_not.1 h4
 obtain ⟨n1,n2,n3,n4,n5,n6,n7,n8,n9⟩:=newA_zero h2
 obtain ⟨-,-,-,-,c1,c2,c3⟩:=allow_zero h4
 rw[n1]
 obtain ⟨H,S,B⟩:=I
 have hk:d.n.toNat<b.cards.length:=by omega
 have hna:=H.noadv hd
 have hdis:disputed {b with cards:=b.cards.set d.n.toNat (allowC (b.card d.n) d.sum b.time).1,auths:=b.auths++[⟨d.n,d.shop,d.sum,0,0,0,b.time+100,false⟩]}=disputed b:=by
  show sumOn Au.Au.dis (b.auths++[_])=sumOn Au.Au.dis b.auths
  rw[sumOn_append,sumOn_one];dsimp only;omega
 refine ⟨⟨by simpa using H.cards8,H.due8,?_,?_,?_,?_,H.stand,by simpa using H.standN,H.advs,H.noadv,H.time0,H.time1,H.today⟩,⟨S.right,S.seen0,S.seen1,S.keeps,?_,S.kind0,S.kind1,S.ways,S.way60⟩,⟨B.right,?_,B.accS,B.acc1,by rw[hdis];exact B.acc2⟩⟩
 ·intro c hc
  rcases mem_set' hc with rfl|hc
  ·exact wrongC_ok.1 c1
  ·exact H.right c hc
 ·show (b.auths++[_]).length+b.stand.adv.length≤30
  rw[hna];simp;omega
 ·intro a ha
  have ha:a∈b.auths++[_]:=ha
  show _∧_∧a.card<((b.cards.set _ _).length:Int)∧a.shop<(b.due.length:Int)
  rw[List.length_set]
  rcases List.mem_append.1 ha with ha|ha
  ·exact H.auths a ha
  ·obtain rfl:=List.mem_singleton.1 ha
   unfold Au.Rng Au.Fit
   dsimp only
   omega
 ·intro k hk2
  have hk2:k<b.cards.length:=by simpa using hk2
  show ((b.cards.set d.n.toNat (allowC (b.card d.n) d.sum b.time).1).getD k zeroC).h=sumOn (heldBy k) (b.auths ++[_])
  rw[getD_set _ _ _ _ _ hk,sumOn_append,sumOn_one]
  have:= H.held k hk2
  unfold heldOf at this
  split
  ·rename_i e;subst e
   rw[c3];unfold Bank.card;rw[this]
   unfold heldBy Au.holdA;dsimp only
   rw[if_pos (by omega)];simp
  ·rename_i e
   rw[this];unfold heldBy;dsimp only
   rw[if_neg (by omega)];simp
 ·intro i t ht
  have :=S.auths i t ht
  show t.a<((b.auths ++[_]).length:Int)
  simp;omega
 ·intro k hk2
  have hk2:k<b.cards.length:=by simpa using hk2
  show Bk.getE b.book (10 +(k :Int))=((b.cards.set d.n.toNat (allowC (b.card d.n) d.sum b.time).1).getD k zeroC).m
  rw[getD_set _ _ _ _ _ hk,B.accC k hk2]
  split
  ·rename_i e;subst e;rw[c2];rfl
  ·rfl
theorem ask_inv {b:Bank}{d:Dd} (I:Inv b) (h:(askB b d).2.1=0):Inv (askB b d).1:=by
 unfold askB at h⊢
 split at h
 ·cases h
 rename_i h1
 rw [if_neg h1]
 split at h
 ·rename_i h2;rw [if_pos h2];exact askDown_inv I h2 h1 h
 ·rename_i h2;rw [if_neg h2];exact askUp_inv I (by simpa using h2) h1 h
theorem not_not_side (i:Bool):(!(!i))=i:=by cases i<;>rfl
theorem gone_way {b:Bank} {i j:Bool} {p:Pk} (h:p∈(gone b i).way j):p∈b.way j:=by
 unfold gone upd at h
 dsimp only at h
 split at h
 ·rename_i e;subst e;exact List.mem_of_mem_tail h
 ·exact h
theorem gone_len (b:Bank) (i j:Bool):((gone b i).way j).length≤(b.way j).length:=by
 unfold gone upd
 dsimp only
 split
 ·rename_i e;subst e;simp
 ·exact Nat.le_refl _
theorem gone_inv {b:Bank}(I:Inv b) (i:Bool):Inv (gone b i):=by
 obtain ⟨H,S,B⟩:=I
 exact ⟨⟨H.cards8,H.due8,H.right,H.few,H.auths,H.held,H.stand,H.standN,H.advs,H.noadv,H.time0,H.time1,H.today⟩,⟨S.right,S.seen0,S.seen1,S.keeps,S.auths,S.kind0,S.kind1,fun j p hp=>S.ways j p (gone_way hp),fun j=>Nat.le_trans (gone_len b i j) (S.way60 j)⟩,⟨B.right,B.accC,B.accS,B.acc1,B.acc2⟩⟩
theorem send_inv {b:Bank}{d:Dd}(I:Inv b) (h:(sendB b d).2=0):Inv (sendB b d).1:=by
 unfold sendB at h⊢
 split at h
 ·cases h
 rename_i h1
 rw[if_neg h1]
 split at h
 ·cases h
 rename_i h2
 rw[if_neg h2]
 generalize sideOf d.n=i at*
 obtain ⟨H,S,B⟩:=I
 refine ⟨⟨H.cards8,H.due8,H.right,H.few,H.auths,H.held,H.stand,H.standN,H.advs,H.noadv,H.time0,H.time1,H.today⟩,⟨S.right,S.seen0,S.seen1,S.keeps,S.auths,S.kind0,S.kind1,?_,?_⟩,⟨B.right,B.accC,B.accS,B.acc1,B.acc2⟩⟩
 ·intro j p hp
  replace hp:p∈upd b.way (!i) (sent b i) j:=hp
  show (p.seen=-1∧(p.t.n ≤b.seen j∨p.t∈(b.snd (!j)).kept))∨(0 ≤p.seen∧p.seen≤b.seen (!j))
  unfold upd at hp
  split at hp
  ·rename_i e;subst e
   unfold sent at hp
   rcases List.mem_append.1 hp with hp|hp
   ·rcases List.mem_append.1 hp with hp|hp
    ·exact S.ways _ p hp
    ·obtain ⟨t,ht,rfl⟩:=List.mem_map.1 hp
     rw[not_not_side]
     exact Or.inl ⟨rfl,Or.inr ht⟩
   ·obtain rfl:=List.mem_singleton.1 hp
    rw[not_not_side]
    exact Or.inr ⟨S.seen0 i,Int.le_refl _⟩
  ·exact S.ways j p hp
 ·intro j
  show (upd b.way (!i) (sent b i) j).length≤60
  unfold upd
  split
  ·omega
  ·exact S.way60 j
theorem those_way {s came:Int} (h:s≤came) (L:List Po.Tr):sumOn (wayBy came) (Po.those s L)=sumOn (wayBy came) L∧sumOn (backBy came) (Po.those s L)=sumOn (backBy came) L:=by
 unfold Po.those
 induction L with
 |nil=>exact ⟨rfl,rfl⟩
 |cons t r ih=>
  by_cases e:s<t.n
  ·rw [List.filter_cons_of_pos (by simpa using e)]
   simp only [sumOn,ih.1,ih.2,and_self]
  ·rw [List.filter_cons_of_neg (by simpa using e),ih.1,ih.2]
   simp only [sumOn]
   unfold wayBy backBy
   rw [if_neg (by omega),if_neg (by omega)]
   omega
theorem backS_zero {s:Po.Se} {n:Int} (h:(Po.backS s n).2=0):Po.Right s∧0≤n∧n≤s.sent∧(Po.backS s n).1=⟨s.sent,Po.those n s.kept⟩:=by
 by_cases h0:(Po.wrongS s).1=0
 ·by_cases h1:n<0∨s.sent<n
  ·rw[Po.backS_range h0 h1] at h;cases h
  ·rw[Po.backS_ok h0 h1];exact ⟨Po.wrongS_ok.1 h0,by omega,by omega,rfl⟩
 ·rw[Po.backS_bad h0] at h;exact absurd h h0
theorem back_inv{b:Bank}{i:Bool}{n:Int}(I:Inv b) (hn:n≤b.seen (!i)) (h:(Po.backS (b.snd i) n).2=0):Inv {gone b i with snd:=upd b.snd i (Po.backS (b.snd i) n).1}:=by
 obtain ⟨R,n0,n1,hb⟩:=backS_zero h
 rw[hb]
 obtain ⟨H,S,B⟩:=I
 have hk:∀j,(upd b.snd i ⟨(b.snd i).sent,Po.those n (b.snd i).kept⟩ j).sent=(b.snd j).sent:=fun j=>by
  unfold upd;split
  ·rename_i e;subst e;rfl
  ·rfl
 have hm:∀j,∀t∈(upd b.snd i ⟨(b.snd i).sent,Po.those n (b.snd i).kept⟩ j).kept,t∈(b.snd j).kept:=fun j t ht=>by
  unfold upd at ht;split at ht
  ·rename_i e;subst e;exact (List.mem_filter.1 ht).1
  ·exact ht
 have hr:∀j,Po.Right (upd b.snd i ⟨(b.snd i).sent,Po.those n (b.snd i).kept⟩ j):=fun j=>by
  unfold upd;split
  ·exact Po.right_back' R n1
  ·exact S.right j
 have hw:∀j,sumOn (wayBy (b.seen (!j))) (upd b.snd i ⟨(b.snd i).sent,Po.those n (b.snd i).kept⟩ j).kept=sumOn (wayBy (b.seen (!j))) (b.snd j).kept∧sumOn (backBy (b.seen (!j))) (upd b.snd i ⟨(b.snd i).sent,Po.those n (b.snd i).kept⟩ j).kept=sumOn (backBy (b.seen (!j))) (b.snd j).kept:=fun j=>by
  unfold upd;split
  ·rename_i e;subst e;exact those_way hn _
  ·exact ⟨rfl,rfl⟩
 have hw0:=hw false
 have hw1:=hw true
 refine ⟨⟨H.cards8,H.due8,H.right,H.few,H.auths,H.held,H.stand,H.standN,H.advs,H.noadv,H.time0,H.time1,H.today⟩,⟨hr,S.seen0,fun j=>by show b.seen j≤(upd b.snd i _ (!j)).sent;rw[hk];exact S.seen1 j,?_,fun j t ht=>S.auths j t (hm j t ht),fun t ht=>S.kind0 t (hm false t ht),fun t ht=>S.kind1 t (hm true t ht),?_,fun j=>Nat.le_trans (gone_len b i j) (S.way60 j)⟩,⟨B.right,B.accC,B.accS,?_,?_⟩⟩
 ·intro j
  show (upd b.snd i _ j).sent-((upd b.snd i ⟨(b.snd i).sent,Po.those n (b.snd i).kept⟩ j).kept.length:Int)≤b.seen (!j)
  rw[hk]
  unfold upd;split
  ·rename_i e;subst e
   obtain ⟨q,h1,h2,h3⟩:=Po.right_back R n1
   show (b.snd j).sent-((Po.those n (b.snd j).kept).length:Int)≤b.seen (!j)
   rw[h1,List.length_drop]
   have :=S.keeps j
   rcases h3 with h3|⟨h3,h4⟩
   ·omega
   ·omega
  ·exact S.keeps j
 ·intro j p hp
  have hp:=S.ways j p (gone_way hp)
  show (p.seen =-1∧(p.t.n≤b.seen j∨p.t∈(upd b.snd i _ (!j)).kept))∨(0 ≤p.seen∧p.seen≤b.seen (!j))
  rcases hp with ⟨h1,h2⟩|hp
  ·refine Or.inl ⟨h1,?_⟩
   rcases h2 with h2|h2
   ·exact Or.inl h2
   ·unfold upd
    split
    ·rename_i e
     by_cases hq:n<p.t.n
     ·exact Or.inr (List.mem_filter.2 ⟨by rw[←e];exact h2,by simpa using hq⟩)
     ·refine Or.inl ?_
      rw[←e,not_not_side] at hn
      omega
    ·exact Or.inr h2
  ·exact Or.inr hp
 ·show Bk.getE b.book 1=sumOn (wayBy (b.seen true)) (upd b.snd i _ false).kept+sumOn (wayBy (b.seen false)) (upd b.snd i _ true).kept
  rw[B.acc1]
  have q0:=hw0.1
  have q1:=hw1.1
  simp only[Bool.not_false,Bool.not_true] at q0 q1
  rw[q0,q1];rfl
 ·show Bk.getE b.book 2=-disputed b-(sumOn (backBy (b.seen true)) (upd b.snd i _ false).kept+sumOn (backBy (b.seen false)) (upd b.snd i _ true).kept)
  rw[B.acc2]
  have q0:=hw0.2
  have q1:=hw1.2
  simp only[Bool.not_false,Bool.not_true] at q0 q1
  rw[q0,q1];rfl
end Go.Proofs.YtofcnebekmjdoaaGreatDoor.Bn
