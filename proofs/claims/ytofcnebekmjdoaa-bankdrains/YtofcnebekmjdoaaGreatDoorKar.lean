import Derived.Test.YtofcnebekmjdoaaGreatDoorKaq
set_option maxHeartbeats 4000000
set_option maxRecDepth 100000
namespace Go.Proofs.YtofcnebekmjdoaaGreatDoor.Bn
open Go.Proofs.YtofcnebekmjdoaaGreatDoor
theorem eight {k:Int}(h1:1≤k) (h2:k≤8):k=1∨k=2∨k=3∨k=4∨k=5∨k=6∨k=7∨k=8:=by omega
def disBy (k n:Int):Int:=if k=6 then n else if k=7∨k=8 then-n else 0
theorem step_right {a:Au.Au} {k n:Int} (h:Au.May a k n):Au.Rng (Au.step a k n)∧Au.Fit (Au.step a k n)∧(Au.step a k n).card=a.card∧(Au.step a k n).shop=a.shop∧(Au.step a k n).dis=a.dis+disBy k n:=by
 obtain ⟨r,f,h1,h2,h3,h4,-,h6⟩:=h
 obtain ⟨r1,r2,r3,r4,r5,r6,r7,r8⟩:=r
 obtain ⟨f1,f2⟩:=f
 unfold Au.room at h6
 rcases eight h1 h2 with rfl|rfl|rfl|rfl|rfl|rfl|rfl|rfl
 all_goals
  simp[Au.step,Au.Rng,Au.Fit,disBy] at h6⊢
  omega
def bookDelta (a:Au.Au) (k n acc:Int):Int:=
 if k=2∨k=3 then (if 10+a.card=acc then-n else 0)+(if 1=acc then n else 0)
 else if k=5 then (if 50+a.shop=acc then-n else 0)+(if 1=acc then n else 0)
 else if k=6 then (if 2=acc then-n else 0)+(if 10+a.card=acc then n else 0)
 else if k=8 then (if 10+a.card=acc then-n else 0)+(if 2=acc then n else 0)
 else 0
theorem book_zero {l:List (Int ×Int)}{a:Au.Au}{k n:Int} (h0:(Bk.wrong l).1=0) (h:(bookBy l a k n).2=0):(Bk.wrong (bookBy l a k n).1).1=0∧∀acc,Bk.getE (bookBy l a k n).1 acc=Bk.getE l acc+bookDelta a k n acc:=by
 unfold bookBy at h⊢
 unfold bookDelta
 by_cases k1:k=2∨k=3
 ·rw [if_pos k1] at h⊢
  obtain ⟨m1,m2⟩:=moveB_zero h
  exact ⟨m1,fun acc=>by rw [m2,if_pos k1];omega⟩
 rw [if_neg k1] at h⊢
 by_cases k2:k=5
 ·rw [if_pos k2] at h⊢
  obtain ⟨m1,m2⟩:=moveB_zero h
  exact ⟨m1,fun acc=>by rw [m2,if_neg k1,if_pos k2];omega⟩
 rw [if_neg k2] at h⊢
 by_cases k3:k=6
 ·rw [if_pos k3] at h⊢
  obtain ⟨m1,m2⟩:=moveB_zero h
  exact ⟨m1,fun acc=>by rw [m2,if_neg k1,if_neg k2,if_pos k3];omega⟩
 rw [if_neg k3] at h⊢
 by_cases k4:k=8
 ·rw [if_pos k4] at h⊢
  obtain ⟨m1,m2⟩:=moveB_zero h
  exact ⟨m1,fun acc=>by rw [m2,if_neg k1,if_neg k2,if_neg k3,if_pos k4];omega⟩
 rw [if_neg k4] at h⊢
 exact ⟨h0,fun acc=>by show Bk.getE l acc=_;rw [if_neg k1,if_neg k2,if_neg k3,if_neg k4];omega⟩
theorem put_zero {s:Po.Se}{t:Po.Tr} (h:(Po.putS s t).2=0):(Po.putS s t).1=Po.outS s t∧Po.Right (Po.outS s t):=by
 by_cases h0:(Po.wrongS s).1=0
 ·by_cases h1:(Po.wrongS (Po.outS s t)).1=0
  ·rw [Po.putS_ok h0 h1];exact ⟨rfl,Po.wrongS_ok.1 h1⟩
  ·rw [Po.putS_out h0 h1] at h;exact absurd h h1
 ·rw [Po.putS_bad h0] at h;exact absurd h h0
theorem put_sent{b:Bank}(S:Sent b){i:Bool}{t:Po.Tr}(h:(Po.putS (b.snd i) t).2=0) (ha:t.a<b.auths.length) (hk0:i=false→t.k=1∨t.k=3) (hk1:i=true→t.k=2)
  {x:Bank}(h1:x.snd=upd b.snd i (Po.putS (b.snd i) t).1) (h2:x.seen=b.seen) (h3:x.way=b.way) (h4:x.auths.length=b.auths.length):Sent x:=by
 obtain ⟨p1,p2⟩:=put_zero h
 rw[p1] at h1
 have hs:∀j,(b.snd j).sent≤(x.snd j).sent:=fun j=>by
  rw[h1];unfold upd;split
  ·rename_i e;subst e;show _≤(b.snd j).sent+1;omega
  ·exact Int.le_refl _
 have hm:∀j,∀y∈(x.snd j).kept,y∈(b.snd j).kept∨(j =i∧y=Po.nextT (b.snd i) t):=fun j y hy=>by
  rw[h1] at hy;unfold upd at hy;split at hy
  ·rename_i e;subst e
   have hy:y∈(b.snd j).kept++[Po.nextT (b.snd j) t]:=hy
   rcases List.mem_append.1 hy with hy|hy
   ·exact Or.inl hy
   ·exact Or.inr ⟨rfl,List.mem_singleton.1 hy⟩
  ·exact Or.inl hy
 have hm2:∀j,∀y∈(b.snd j).kept,y∈(x.snd j).kept:=fun j y hy=>by
  rw[h1];unfold upd;split
  ·rename_i e;subst e;exact List.mem_append.2 (Or.inl hy)
  ·exact hy
 refine ⟨fun j=>?_,fun j=>by rw[h2];exact S.seen0 j,fun j=>by rw[h2];exact Int.le_trans (S.seen1 j) (hs (!j)),fun j=>?_,fun j y hy=>?_,fun y hy=>?_,fun y hy=>?_,fun j p hp=>?_,fun j=>by rw[h3];exact S.way60 j⟩
 ·rw[h1];unfold upd;split
  ·exact p2
  ·exact S.right j
 ·rw[h1,h2];unfold upd;split
  ·rename_i e;subst e
   have:= S.keeps j
   show (b.snd j).sent+1-(((b.snd j).kept++[Po.nextT (b.snd j) t]).length:Int)≤_
   simp;omega
  ·exact S.keeps j
 ·rw[h4]
  rcases hm j y hy with hy|⟨-,rfl⟩
  ·exact S.auths j y hy
  ·exact ha
 ·rcases hm false y hy with hy|⟨e,rfl⟩
  ·exact S.kind0 y hy
  ·exact hk0 e.symm
 ·rcases hm true y hy with hy|⟨e,rfl⟩
  ·exact S.kind1 y hy
  ·exact hk1 e.symm
 ·rw[h3] at hp;rw[h2]
  rcases S.ways j p hp with ⟨g1,g2|g2⟩|g
  ·exact Or.inl ⟨g1,Or.inl g2⟩
  ·exact Or.inl ⟨g1,Or.inr (hm2 _ _ g2)⟩
  ·exact Or.inr g
theorem put_way {b:Bank}(S:Sent b){i:Bool}{t:Po.Tr}(h:(Po.putS (b.snd i) t).2=0):
  wayW (upd b.snd i (Po.putS (b.snd i) t).1) b.seen=wayW b.snd b.seen+(if t.k≠3 then t.s else 0)∧backW (upd b.snd i (Po.putS (b.snd i) t).1) b.seen=backW b.snd b.seen+(if t.k=3 then t.s else 0):=by
 obtain ⟨p1,-⟩:=put_zero h
 rw[p1]
 have hc:b.seen (!i)<(Po.nextT (b.snd i) t).n:=by
  have:= S.seen1 (!i)
  rw[not_not_side] at this
  show _<(b.snd i).sent+1;omega
 have hk:(Po.nextT (b.snd i) t).k=t.k:=rfl
 have hs:(Po.nextT (b.snd i) t).s=t.s:=rfl
 have w1:sumOn (wayBy (b.seen (!i))) (Po.outS (b.snd i) t).kept=sumOn (wayBy (b.seen (!i))) (b.snd i).kept+(if t.k≠3 then t.s else 0):=by
  show sumOn _ ((b.snd i).kept++[Po.nextT (b.snd i) t])=_
  rw[sumOn_append,sumOn_one]
  unfold wayBy
  rw[hk,hs]
  by_cases h3:t.k=3
  ·rw[if_neg (by omega),if_neg (by omega)]
  ·rw[if_pos ⟨hc,h3⟩,if_pos h3]
 have w2:sumOn (backBy (b.seen (!i))) (Po.outS (b.snd i) t).kept=sumOn (backBy (b.seen (!i))) (b.snd i).kept+(if t.k=3 then t.s else 0):=by
  show sumOn _ ((b.snd i).kept++[Po.nextT (b.snd i) t])=_
  rw[sumOn_append,sumOn_one]
  unfold backBy
  rw[hk,hs]
  by_cases h3:t.k=3
  ·rw[if_pos ⟨hc,h3⟩,if_pos h3]
  ·rw[if_neg (by omega),if_neg h3]
 unfold wayW backW
 cases i with
 |true=>
  simp only[Bool.not_true] at w1 w2
  have e1:upd b.snd true (Po.outS (b.snd true) t) true=Po.outS (b.snd true) t:=upd_same _ _ _
  have e2:upd b.snd true (Po.outS (b.snd true) t) false=b.snd false:=upd_other b.snd true _
  rw[e1,e2,w1,w2];omega
 |false=>
  simp only[Bool.not_false] at w1 w2
  have e1:upd b.snd false (Po.outS (b.snd false) t) false=Po.outS (b.snd false) t:=upd_same _ _ _
  have e2:upd b.snd false (Po.outS (b.snd false) t) true=b.snd true:=upd_other b.snd false _
  rw[e1,e2,w1,w2];omega
def wayDelta (k n:Int):Int:=if k=2∨k=3∨k=5 then n else 0
def backDelta (k n:Int):Int:=if k=7 then n else 0
theorem send_zero {b:Bank}(S:Sent b){k auth n:Int}(h:(sendBy b.snd k auth n).2=0) (ha:auth<b.auths.length){x:Bank}(h1:x.snd=(sendBy b.snd k auth n).1) (h2:x.seen=b.seen) (h3:x.way=b.way) (h4:x.auths.length=b.auths.length):
  Sent x∧wayW (sendBy b.snd k auth n).1 b.seen=wayW b.snd b.seen+wayDelta k n∧backW (sendBy b.snd k auth n).1 b.seen=backW b.snd b.seen+backDelta k n:=by
 unfold sendBy at h h1⊢
 unfold wayDelta backDelta
 by_cases k1:k=2∨k=3
 ·rw[if_pos k1] at h h1⊢
  obtain ⟨w1,w2⟩:=put_way S h
  refine ⟨put_sent S h ha (fun _=>Or.inl rfl) (fun e=>by cases e) h1 h2 h3 h4,?_,?_⟩
  ·rw[w1,if_pos (by simp),if_pos (by omega)]
  ·rw[w2,if_neg (by simp),if_neg (by omega)]
 rw[if_neg k1] at h h1⊢
 by_cases k2:k=5
 ·rw[if_pos k2] at h h1⊢
  obtain ⟨w1,w2⟩:=put_way S h
  refine ⟨put_sent S h ha (fun e=>by cases e) (fun _=>rfl) h1 h2 h3 h4,?_,?_⟩
  ·rw[w1,if_pos (by simp),if_pos (by omega)]
  ·rw[w2,if_neg (by simp),if_neg (by omega)]
 rw[if_neg k2] at h h1⊢
 by_cases k3:k=7
 ·rw[if_pos k3] at h h1⊢
  obtain ⟨w1,w2⟩:=put_way S h
  refine ⟨put_sent S h ha (fun _=>Or.inr rfl) (fun e=>by cases e) h1 h2 h3 h4,?_,?_⟩
  ·rw[w1,if_neg (by simp),if_neg (by omega)]
  ·rw[w2,if_pos (by simp),if_pos (by omega)]
 rw[if_neg k3] at h h1⊢
 refine ⟨?_,by show wayW b.snd b.seen=_;rw[if_neg (by omega)];omega,by show backW b.snd b.seen=_;rw[if_neg (by omega)];omega⟩
 exact ⟨by rw[h1];exact S.right,by rw[h2];exact S.seen0,by rw[h1,h2];exact S.seen1,by rw[h1,h2];exact S.keeps,by rw[h1,h4];exact S.auths,by rw[h1];exact S.kind0,by rw[h1];exact S.kind1,by rw[h1,h2,h3];exact S.ways,by rw[h3];exact S.way60⟩
theorem move_inv {b:Bank}{d:Dd}(I:Inv b) (h:(moveD b d).2=0):Inv (moveD b d).1:=by
 unfold moveD at h⊢
 split at h
 ·cases h
 rename_i q1
 rw[if_neg q1]
 split at h
 ·cases h
 rename_i q2
 rw[if_neg q2]
 split at h
 ·rename_i q;exact absurd h q
 rename_i q3
 rw[if_neg q3]
 split at h
 ·cases h
 rename_i q4
 rw[if_neg q4]
 split at h
 ·rename_i q;exact absurd h q
 rename_i q5
 rw[if_neg q5]
 split at h
 ·rename_i q;exact absurd h q
 rename_i q6
 rw[if_neg q6]
 split at h
 ·rename_i q;exact absurd h q
 rename_i q7
 rw[if_neg q7]
 split at h
 ·cases h
 rename_i q8
 rw[if_neg q8]
 replace q3:=Au.mvErr_zero.1 (Decidable.not_not.1 q3)
 replace q5:(cardAft b d).2=0:=Decidable.not_not.1 q5
 replace q6:(bookBy b.book (b.auth d.n) d.mv d.sum).2=0:=Decidable.not_not.1 q6
 replace q7:(sendBy b.snd d.mv d.n d.sum).2=0:=Decidable.not_not.1 q7
 obtain ⟨H,S,B⟩:=I
 obtain ⟨s1,s2,s3,s4,s5⟩:=step_right q3
 obtain ⟨g1,g2,g3⟩:=right_of_shift q5
 obtain ⟨m1,m2⟩:=book_zero B.right q6
 obtain ⟨w0,w1,w2⟩:=send_zero (x:=moveAll b d) S q7 (by omega) rfl rfl rfl (by simp[moveAll])
 have hn:d.n.toNat<b.auths.length:=by omega
 obtain ⟨r1,r2,r3,r4⟩:=H.auth (k:=d.n) (by omega) (by omega)
 have hc0:0≤(b.auth d.n).card:=r1.2.2.2.2.1.1
 have hs0:0≤(b.auth d.n).shop:=r1.2.2.2.2.2.1.1
 have c8:=H.cards8
 have d8:=H.due8
 have hk:(b.auth d.n).card.toNat<b.cards.length:=by omega
 have hs:(b.auth d.n).shop.toNat<b.due.length:=by omega
 have k1:=q3.2.2.1
 have k2:=q3.2.2.2.1
 have n1:=q3.2.2.2.2.1
 have n2:=q3.2.2.2.2.2.1
 have hcc:(cardAft b d).1=⟨(b.card (b.auth d.n).card).m+cardBy d.mv d.sum,(b.card (b.auth d.n).card).h+(Au.holdA (aft b d)-Au.holdA (b.auth d.n)),(b.card (b.auth d.n).card).p,(b.card (b.auth d.n).card).u⟩:=g2
 have hdis:disputed (moveAll b d)=disputed b+disBy d.mv d.sum:=by
  show sumOn Au.Au.dis (b.auths.set d.n.toNat (aft b d))=sumOn Au.Au.dis b.auths+_
  rw[sumOn_set _ _ _ _ zA hn]
  have: (aft b d).dis=(b.auths.getD d.n.toNat zA).dis+disBy d.mv d.sum:=s5
  rw[this];omega
 have hcl:(moveAll b d).cards.length=b.cards.length:=by simp[moveAll]
 have hdl:(moveAll b d).due.length=b.due.length:=by simp[moveAll]
 have hal:(moveAll b d).auths.length=b.auths.length:=by simp[moveAll]
 refine ⟨⟨by rw[hcl];exact c8,by rw[hdl];exact d8,?_,by rw[hal];exact H.few,?_,?_,H.stand,by rw[hcl];exact H.standN,by rw[hdl];exact H.advs,H.noadv,H.time0,H.time1,?_⟩,w0,⟨m1,?_,?_,?_,?_⟩⟩
 ·intro c hc
  rcases mem_set' hc with rfl|hc
  ·rw[hcc];exact g3
  ·exact H.right c hc
 ·intro a ha
  rw[hcl,hdl]
  rcases mem_set' ha with rfl|ha
  ·refine ⟨s1,s2,?_,?_⟩
   ·show (Au.step (b.auth d.n) d.mv d.sum).card<_;rw[s3];exact r3
   ·show (Au.step (b.auth d.n) d.mv d.sum).shop<_;rw[s4];exact r4
  ·exact H.auths a ha
 ·intro k hk2
  rw[hcl] at hk2
  show ((b.cards.set (b.auth d.n).card.toNat (cardAft b d).1).getD k zeroC).h=sumOn (heldBy k) (b.auths.set d.n.toNat (aft b d))
  rw[getD_set _ _ _ _ _ hk,sumOn_set _ _ _ _ zA hn,hcc]
  have h1:=H.held k hk2
  unfold heldOf at h1
  have h2:(aft b d).card=(b.auth d.n).card:=s3
  have h3:(b.auths.getD d.n.toNat zA).card=(b.auth d.n).card:=rfl
  have h4:Au.holdA (b.auths.getD d.n.toNat zA)=Au.holdA (b.auth d.n):=rfl
  by_cases e:(b.auth d.n).card.toNat=k
  ·rw[if_pos e]
   unfold heldBy at h1⊢
   rw[h2,h3,h4,if_pos (by omega),if_pos (by omega)]
   have h5:(b.card (b.auth d.n).card).h=(b.cards.getD k zeroC).h:=by unfold Bank.card;rw[e]
   dsimp only
   rw[h5,h1];omega
  ·rw[if_neg e,h1]
   unfold heldBy
   rw[h2,h3,if_neg (by omega),if_neg (by omega)];omega
 ·refine ⟨?_,?_⟩
  ·show (b.today ++[_]).length≤100
   simp;omega
  ·intro r hr
   replace hr:r∈b.today++[_]:=hr
   rcases List.mem_append.1 hr with hr|hr
   ·exact H.today.each r hr
   ·obtain rfl:=List.mem_singleton.1 hr
    have:= H.few
    unfold Dy.noKind Dy.far
    dsimp only
    omega
 ·intro k hk2
  rw[hcl] at hk2
  show Bk.getE (bookBy b.book (b.auth d.n) d.mv d.sum).1 (10 +(k :Int))=((b.cards.set (b.auth d.n).card.toNat (cardAft b d).1).getD k zeroC).m
  rw[m2,getD_set _ _ _ _ _ hk,B.accC k hk2,hcc]
  have h5:(b.auth d.n).card.toNat=k→(b.card (b.auth d.n).card).m=(b.cards.getD k zeroC).m:=fun e=>by unfold Bank.card;rw[e]
  generalize d.mv=mv at*
  by_cases e:(b.auth d.n).card.toNat=k
  ·rw[if_pos e];dsimp only;rw[h5 e]
   have e2:10+(b.auth d.n).card=10+(k :Int):=by omega
   have e3:¬50+(b.auth d.n).shop=10+(k:Int):=by omega
   have e4:¬(1:Int)=10+(k:Int):=by omega
   have e5:¬(2 :Int)=10+(k :Int):=by omega
   unfold bookDelta cardBy
   rcases eight k1 k2 with rfl|rfl|rfl|rfl|rfl|rfl|rfl|rfl<;>simp[e2,e3,e4,e5]
  ·rw[if_neg e]
   have e2:¬10+(b.auth d.n).card=10+(k :Int):=by omega
   have e3:¬50+(b.auth d.n).shop=10+(k :Int):=by omega
   have e4:¬(1 :Int)=10+(k:Int):=by omega
   have e5:¬(2 :Int)=10+(k :Int):=by omega
   unfold bookDelta
   rcases eight k1 k2 with rfl|rfl|rfl|rfl|rfl|rfl|rfl|rfl<;>simp[e2,e3,e4,e5]
 ·intro k hk2
  rw[hdl] at hk2
  show Bk.getE (bookBy b.book (b.auth d.n) d.mv d.sum).1 (50+(k :Int))=(b.due.set (b.auth d.n).shop.toNat _).getD k 0
  rw[m2,getD_set _ _ _ _ _ hs,B.accS k hk2]
  have h5:(b.auth d.n).shop.toNat=k→b.dueOf (b.auth d.n).shop=b.due.getD k 0:=fun e=>by unfold Bank.dueOf;rw[e]
  generalize d.mv=mv at*
  have e2:¬10+(b.auth d.n).card=50+(k:Int):=by omega
  have e4:¬(1 :Int)=50+(k :Int):=by omega
  have e5:¬(2:Int)=50+(k:Int):=by omega
  by_cases e:(b.auth d.n).shop.toNat=k
  ·rw[if_pos e,h5 e]
   have e3:50+(b.auth d.n).shop=50+(k :Int):=by omega
   unfold bookDelta dueBy
   rcases eight k1 k2 with rfl|rfl|rfl|rfl|rfl|rfl|rfl|rfl<;>simp[e2,e3,e4,e5]
  ·rw[if_neg e]
   have e3:¬50+(b.auth d.n).shop=50+(k:Int):=by omega
   unfold bookDelta
   rcases eight k1 k2 with rfl|rfl|rfl|rfl|rfl|rfl|rfl|rfl<;>simp[e2,e3,e4,e5]
 ·show Bk.getE (bookBy b.book (b.auth d.n) d.mv d.sum).1 1=wayW (sendBy b.snd d.mv d.n d.sum).1 b.seen
  rw[m2,B.acc1,onWay_eq,w1]
  generalize d.mv=mv at*
  have e2:¬10+(b.auth d.n).card=1:=by omega
  have e3:¬50+(b.auth d.n).shop=1:=by omega
  unfold bookDelta wayDelta
  rcases eight k1 k2 with rfl|rfl|rfl|rfl|rfl|rfl|rfl|rfl<;>simp[e2,e3]
 ·rw[hdis]
  show Bk.getE (bookBy b.book (b.auth d.n) d.mv d.sum).1 2=-(disputed b+disBy d.mv d.sum)-backW (sendBy b.snd d.mv d.n d.sum).1 b.seen
  rw[m2,B.acc2,onBack_eq,w2]
  generalize d.mv=mv at*
  have e2:¬10+(b.auth d.n).card=2:=by omega
  have e3:¬50+(b.auth d.n).shop=2:=by omega
  unfold bookDelta disBy backDelta
  rcases eight k1 k2 with rfl|rfl|rfl|rfl|rfl|rfl|rfl|rfl<;>simp[e2,e3]<;>omega
theorem do_inv {b:Bank}{d:Dd}(I:Inv b):Inv (doB b d).1:=by
 by_cases h:(doB b d).2.1=0
 case neg=>rw[doB_refused b d h];exact I
 unfold doB at h⊢
 split at h
 ·rename_i e;rw[if_pos e];exact load_inv I h
 rename_i e;rw[if_neg e]
 split at h
 ·rename_i e;rw[if_pos e];exact ask_inv I h
 rename_i e;rw[if_neg e]
 split at h
 ·rename_i e;rw[if_pos e];exact move_inv I h
 rename_i e;rw[if_neg e]
 split at h
 ·rename_i e;rw[if_pos e];exact tick_inv I h
 rename_i e;rw[if_neg e]
 split at h
 ·rename_i e;rw[if_pos e];exact send_inv I h
 rename_i e;rw[if_neg e]
 split at h
 ·rename_i e;rw[if_pos e];exact arrive_inv I h
 rename_i e;rw[if_neg e]
 split at h
 ·rename_i e;rw[if_pos e];exact arrive_inv I h
 rename_i e;rw[if_neg e]
 split at h
 ·rename_i e;rw[if_pos e];exact down_inv I h
 rename_i e;rw[if_neg e]
 split at h
 ·rename_i e;rw[if_pos e];exact up_inv I h
 rename_i e;rw[if_neg e]
 split at h
 ·rename_i e;rw[if_pos e];exact day_inv I
 rename_i e;rw[if_neg e]
 split at h
 ·rename_i e;rw[if_pos e];exact pay_inv I h
 rename_i e;rw[if_neg e];exact I
theorem play1_inv {s:Bank×List (Dd×An)}(I:Inv s.1) (d:Dd):Inv (play1 s d).1:=by
 unfold play1
 split
 ·exact I
 ·exact do_inv I
theorem foldl_inv (l:List Dd):∀s:Bank×List (Dd ×An),Inv s.1→Inv (l.foldl play1 s).1:=by
 induction l with
 |nil=>intro s h;exact h
 |cons d r ih=>intro s h;exact ih _ (play1_inv h d)
theorem play_inv {b:Bank}(I:Inv b) (l:List Dd):Inv (playL b l).1:=foldl_inv l (b,[]) I
def startB (paces:List Pa) (shops:Nat) (cap:Int):Bank:=
  { time:=0,down:=false,cards:=paces.map (fun p=>⟨0,0,p,[]⟩),due:=List.replicate shops 0,auths:=[],snd:=fun _=>⟨0,[]⟩,seen:=fun _=>0,way:=fun _=>[]
    stand:=⟨cap,List.replicate paces.length 0,[]⟩,today:=[],days:=[],book:=[]}
theorem start_inv {paces:List Pa}{shops:Nat}{cap:Int} (h1:paces.length≤8) (h2:shops≤8) (h3:St.Lim cap) (h4:∀p∈paces,wrongP p=0):Inv (startB paces shops cap):=by
 have hc:∀k:Nat,k<paces.length→((startB paces shops cap).cards.getD k zeroC).h=0∧((startB paces shops cap).cards.getD k zeroC).m=0:=fun k hk=>by
  have :(startB paces shops cap).cards.getD k zeroC=⟨0,0,paces[k],[]⟩:=by simp[startB,List.getD,hk]
  rw[this];exact ⟨rfl,rfl⟩
 refine ⟨⟨by simpa[startB] using h1,by simpa[startB] using h2,?_,by simp[startB],(fun a ha=>by cases ha),?_,St.new_right h1 h3,by simp[startB],(fun x hx=>by cases hx),(fun _=>rfl),Int.le_refl _,by simp[startB],day_right⟩,⟨?_,fun _=>Int.le_refl _,fun _=>Int.le_refl _,fun _=>by simp[startB],(fun i t ht=>by cases ht),(fun t ht=>by cases ht),(fun t ht=>by cases ht),(fun i p hp=>by cases hp),fun _=>Nat.zero_le _⟩,⟨rfl,?_,?_,rfl,rfl⟩⟩
 ·intro c hc
  obtain ⟨p,hp,rfl⟩:=List.mem_map.1 hc
  exact ⟨by dsimp only;omega,by dsimp only;omega,by dsimp only;omega,by dsimp only;omega,h4 p hp,rfl⟩
 ·intro k hk
  exact (hc k (by simpa[startB] using hk)).1
 ·intro i
  exact ⟨by simp[startB],by simp[startB],by simp[startB],fun j t h=>by simp[startB] at h⟩
 ·intro k hk
  rw[(hc k (by simpa[startB] using hk)).2];rfl
 ·intro k hk
  have hk:k<shops:=by simpa[startB] using hk
  show Bk.getE [] _=(List.replicate shops (0:Int)).getD k 0
  rw[show (List.replicate shops (0 :Int)).getD k 0=0 by simp[List.getD,hk]];rfl
theorem told_append (id:Int) (L M:List (Dd ×An)):told id (L++M)=match told id L with|some a=>some a|none=>told id M:=by
 induction L with
 |nil=>rfl
 |cons x r ih=>
  simp only[List.cons_append,told]
  split
  ·rfl
  ·exact ih
theorem play1_log (s:Bank×List (Dd×An)) (d:Dd):(play1 s d).2.map (·.1)=s.2.map (·.1)++[d]:=by
 unfold play1;split<;>simp
theorem playL_log (b:Bank) (l:List Dd):(playL b l).2.map (·.1)=l:=by
 have key:∀(l:List Dd) (s:Bank×List (Dd×An)),(l.foldl play1 s).2.map (·.1)=s.2.map (·.1)++l:=by
  intro l
  induction l with
  |nil=>intro s;simp
  |cons d r ih=>intro s;rw[List.foldl_cons,ih,play1_log];simp
 exact key l (b,[])
def Stays (b x:Bank):Prop:=b.auths.length≤x.auths.length∧∀n:Nat,n<b.auths.length→(x.auths.getD n zA).shop=(b.auths.getD n zA).shop
theorem stays_refl (b:Bank):Stays b b:=⟨Nat.le_refl _,fun _ _=>rfl⟩
theorem stays_same {b x:Bank}(h:x.auths=b.auths):Stays b x:=by unfold Stays;rw[h];exact ⟨Nat.le_refl _,fun _ _=>rfl⟩
theorem Stays.trans {a b c:Bank}(h1:Stays a b) (h2:Stays b c):Stays a c:=
 ⟨Nat.le_trans h1.1 h2.1,fun n hn=>(h2.2 n (Nat.lt_of_lt_of_le hn h1.1)).trans (h1.2 n hn)⟩
theorem stays_append {b x:Bank}{l:List Au.Au}(h:x.auths=b.auths++l):Stays b x:=by
 unfold Stays
 rw[h]
 refine ⟨by simp,fun n hn=>?_⟩
 simp[List.getD,List.getElem?_append_left hn]
theorem step_shop (a:Au.Au) (k n:Int):(Au.step a k n).shop=a.shop:=by
 unfold Au.step
 repeat' split
 all_goals rfl
theorem stays_set {b x:Bank}{i:Nat}{k n:Int}(hi:i<b.auths.length) (h:x.auths=b.auths.set i (Au.step (b.auths.getD i zA) k n)):Stays b x:=by
 unfold Stays
 rw[h]
 refine ⟨by simp,fun j hj=>?_⟩
 rw[getD_set _ _ _ _ _ hi]
 split
 ·rename_i e;subst e;exact step_shop _ _ _
 ·rfl
theorem stays_shut (b:Bank):Stays b (shutB b):=by
 refine ⟨by simp[shutB],fun n hn=>?_⟩
 show ((b.auths.map fun a=>Au.lateA a b.time).getD n zA).shop=_
 simp[List.getD,hn,Au.lateA]
structure Quiet (b x:Bank):Prop where
 stays:Stays b x
 today:x.today=b.today
 days:x.days=b.days
theorem quiet_refl (b:Bank):Quiet b b:=⟨stays_refl b,rfl,rfl⟩
theorem quiet_ite {b:Bank}{c:Prop}[Decidable c]{x y:Bank×Int}(h1:Quiet b x.1) (h2:Quiet b y.1):Quiet b (if c then x else y).1:=by
 split
 ·exact h1
 ·exact h2
theorem quiet_ite3 {b:Bank}{c:Prop}[Decidable c]{x y:Bank×Int×Int}(h1:Quiet b x.1) (h2:Quiet b y.1):Quiet b (if c then x else y).1:=by
 split
 ·exact h1
 ·exact h2
theorem load_quiet (b:Bank) (d:Dd):Quiet b (loadB b d).1:=
 quiet_ite (quiet_refl b) (quiet_ite (quiet_refl b) (quiet_ite (quiet_refl b) (quiet_ite (quiet_refl b) ⟨stays_same rfl,rfl,rfl⟩)))
theorem ask_quiet (b:Bank) (d:Dd):Quiet b (askB b d).1:=by
 unfold askB askDown askUp
 exact quiet_ite3 (quiet_refl b) (quiet_ite3 (quiet_ite3 (quiet_refl b) (quiet_ite3 (quiet_refl b) ⟨stays_same rfl,rfl,rfl⟩)) (quiet_ite3 (quiet_refl b) (quiet_ite3 (quiet_refl b) (quiet_ite3 (quiet_refl b) ⟨stays_append rfl,rfl,rfl⟩))))
theorem tick_quiet (b:Bank) (d:Dd):Quiet b (tickB b d).1:=by
 unfold tickB
 refine quiet_ite (quiet_refl b) (quiet_ite ⟨stays_same rfl,rfl,rfl⟩ ⟨?_,rfl,rfl⟩)
 exact (stays_same (b:=b) (x:={b with time:=b.time+d.sum}) rfl).trans (stays_shut _)
theorem send_quiet (b:Bank) (d:Dd):Quiet b (sendB b d).1:=
 quiet_ite (quiet_refl b) (quiet_ite (quiet_refl b) ⟨stays_same rfl,rfl,rfl⟩)
theorem arrive_quiet (b:Bank) (d:Dd) (lost:Bool):Quiet b (arriveB b d lost).1:=by
 unfold arriveB
 refine quiet_ite (quiet_refl b) ?_
 split
 ·exact quiet_refl b
 ·refine quiet_ite ⟨stays_same rfl,rfl,rfl⟩ ?_
  unfold arriveAt
  refine quiet_ite (quiet_ite (quiet_refl b) ⟨stays_same rfl,rfl,rfl⟩) (quiet_ite ⟨stays_same rfl,rfl,rfl⟩ ?_)
  unfold comes
  exact quiet_ite (quiet_ite (quiet_refl b) ⟨stays_same rfl,rfl,rfl⟩) (quiet_ite (quiet_ite (quiet_refl b) (quiet_ite (quiet_refl b) ⟨stays_same rfl,rfl,rfl⟩)) (quiet_ite (quiet_ite (quiet_refl b) ⟨stays_same rfl,rfl,rfl⟩) ⟨stays_same rfl,rfl,rfl⟩))
theorem down_quiet (b:Bank):Quiet b (downB b).1:=quiet_ite (quiet_refl b) ⟨stays_same rfl,rfl,rfl⟩
theorem up_quiet (b:Bank):Quiet b (upB b).1:=by
 unfold upB
 refine quiet_ite ⟨?_,rfl,rfl⟩ (quiet_refl b)
 exact (stays_append (b:=b) (x:={b with cards:=b.stand.adv.foldl forceL b.cards,auths:=b.auths++b.stand.adv.map advA,down:=false,stand:=⟨b.stand.cap,List.replicate b.cards.length 0,[]⟩}) rfl).trans (stays_shut _)
theorem pay_quiet (b:Bank) (d:Dd):Quiet b (payB b d).1:=
 quiet_ite (quiet_refl b) (quiet_ite (quiet_refl b) (quiet_ite (quiet_refl b) ⟨stays_same rfl,rfl,rfl⟩))
theorem do_quiet {b:Bank}{d:Dd}(h3:d.kind≠3) (h10:d.kind≠10):Quiet b (doB b d).1:=by
 unfold doB
 refine quiet_ite3 (load_quiet b d) (quiet_ite3 (ask_quiet b d) ?_)
 rw[if_neg h3]
 refine quiet_ite3 (tick_quiet b d) (quiet_ite3 (send_quiet b d) (quiet_ite3 (arrive_quiet b d false) (quiet_ite3 (arrive_quiet b d true) (quiet_ite3 (down_quiet b) (quiet_ite3 (up_quiet b) ?_)))))
 rw[if_neg h10]
 exact quiet_ite3 (pay_quiet b d) (quiet_refl b)
theorem do_move {b:Bank}{d:Dd}(h3:d.kind=3) (h:(doB b d).2.1=0):0≤d.n∧d.n<b.auths.length∧Stays b (doB b d).1∧(doB b d).1.today=b.today++[⟨(b.auth d.n).shop,d.n,d.mv,d.sum⟩]∧(doB b d).1.days=b.days:=by
 have e:doB b d=two (moveD b d):=by
  unfold doB
  rw[if_neg (by omega),if_neg (by omega),if_pos h3]
 rw[e] at h⊢
 unfold two at h⊢
 dsimp only at h⊢
 unfold moveD at h⊢
 split at h
 ·cases h
 rename_i q1
 rw[if_neg q1]
 split at h
 ·cases h
 rename_i q2
 rw[if_neg q2]
 split at h
 ·rename_i q;exact absurd h q
 rename_i q3
 rw[if_neg q3]
 split at h
 ·cases h
 rename_i q4
 rw[if_neg q4]
 split at h
 ·rename_i q;exact absurd h q
 rename_i q5
 rw[if_neg q5]
 split at h
 ·rename_i q;exact absurd h q
 rename_i q6
 rw[if_neg q6]
 split at h
 ·rename_i q;exact absurd h q
 rename_i q7
 rw[if_neg q7]
 split at h
 ·cases h
 rename_i q8
 rw[if_neg q8]
 exact ⟨by omega,by omega,stays_set (by omega) rfl,rfl,rfl⟩
theorem do_day {b:Bank} {d:Dd}(h10:d.kind=10):doB b d=((dayB b).1,0,0):=by
 unfold doB
 rw[if_neg (by omega),if_neg (by omega),if_neg (by omega),if_neg (by omega),if_neg (by omega),if_neg (by omega),if_neg (by omega),if_neg (by omega),if_neg (by omega),if_pos h10]
 rfl
structure Ds where
 had:List Int
 today:List Dy.Rc
 days:List (List Dy.Rc)
end Go.Proofs.YtofcnebekmjdoaaGreatDoor.Bn
