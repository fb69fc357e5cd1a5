import Derived.Test.YtofcnebekmjdoaaGreatDoorKap
set_option maxHeartbeats 4000000
set_option maxRecDepth 100000
namespace Go.Proofs.YtofcnebekmjdoaaGreatDoor.Bn
open Go.Proofs.YtofcnebekmjdoaaGreatDoor
theorem sum_one {f g:Po.Tr→Int}{L:List Po.Tr} (hd:L.Pairwise fun x y=>x.n<y.n){t:Po.Tr} (ht:t∈L) (h:∀x∈L,x.n≠t.n→f x=g x):sumOn f L=sumOn g L+(f t-g t):=by
 induction L with
 |nil=>cases ht
 |cons y r ih=>
  obtain ⟨h1,h2⟩:=List.pairwise_cons.1 hd
  simp only [sumOn]
  rcases List.mem_cons.1 ht with rfl|ht
  ·have :sumOn f r=sumOn g r:=sumOn_congr fun x hx=>h x (List.mem_cons_of_mem _ hx) (by have:= h1 x hx;omega)
   rw [this];omega
  ·rw [ih h2 ht fun x hx=>h x (List.mem_cons_of_mem _ hx),h y List.mem_cons_self (by have:= h1 t ht;omega)];omega
theorem right_rise{s:Po.Se}(R:Po.Right s):s.kept.Pairwise fun x y=>x.n<y.n:=by
 rw[List.pairwise_iff_getElem]
 intro i j hi hj hij
 have h1:=(R.each i _ (List.getElem?_eq_getElem hi)).2.2
 have h2:=(R.each j _ (List.getElem?_eq_getElem hj)).2.2
 rw[h1,h2];omega
theorem right_mem {s:Po.Se}(R:Po.Right s){t:Po.Tr}(ht:t∈s.kept):¬Po.noKind t.k∧¬Po.far t.a t.s∧s.sent-s.kept.length<t.n∧t.n≤s.sent:=by
 obtain ⟨i,hi,rfl⟩:=List.getElem_of_mem ht
 obtain ⟨h1,h2,h3⟩:=R.each i _ (List.getElem?_eq_getElem hi)
 exact ⟨h1,h2,by rw[h3];omega,by rw[h3];omega⟩
theorem way_more {s:Po.Se}(R:Po.Right s){t:Po.Tr}(ht:t∈s.kept){came:Int}(hn:t.n=came+1):
  sumOn (wayBy (came+1)) s.kept=sumOn (wayBy came) s.kept-(if t.k≠3 then t.s else 0)∧sumOn (backBy (came+1)) s.kept=sumOn (backBy came) s.kept-(if t.k=3 then t.s else 0):=by
 constructor
 ·rw[sum_one (right_rise R) ht (f:=wayBy (came+1)) (g:=wayBy came)]
  ·unfold wayBy
   rw[if_neg (by omega)]
   by_cases h3:t.k=3
   ·rw[if_neg (by omega),if_neg (by omega)];omega
   ·rw[if_pos (by omega),if_pos h3];omega
  ·intro x _ hx
   unfold wayBy
   by_cases h1:came<x.n∧x.k≠3
   ·rw[if_pos h1,if_pos (by omega)]
   ·rw[if_neg h1,if_neg (by omega)]
 ·rw[sum_one (right_rise R) ht (f:=backBy (came+1)) (g:=backBy came)]
  ·unfold backBy
   rw[if_neg (by omega)]
   by_cases h3:t.k=3
   ·rw[if_pos (by omega),if_pos h3];omega
   ·rw[if_neg (by omega),if_neg h3];omega
  ·intro x _ hx
   unfold backBy
   by_cases h1:came<x.n∧x.k=3
   ·rw[if_pos h1,if_pos (by omega)]
   ·rw[if_neg h1,if_neg (by omega)]
def wayW (snd:Bool→Po.Se) (seen:Bool→Int):Int:=sumOn (wayBy (seen true)) (snd false).kept+sumOn (wayBy (seen false)) (snd true).kept
def backW (snd:Bool→Po.Se) (seen:Bool→Int):Int:=sumOn (backBy (seen true)) (snd false).kept+sumOn (backBy (seen false)) (snd true).kept
theorem onWay_eq (b:Bank):onWay b=wayW b.snd b.seen:=rfl
theorem onBack_eq (b:Bank):onBack b=backW b.snd b.seen:=rfl
theorem came_one {b:Bank}(S:Sent b){i:Bool}{t:Po.Tr}(ht:t∈(b.snd (!i)).kept) (hn:t.n=b.seen i+1):
  wayW b.snd (upd b.seen i (b.seen i+1))=wayW b.snd b.seen-(if t.k≠3 then t.s else 0)∧backW b.snd (upd b.seen i (b.seen i+1))=backW b.snd b.seen-(if t.k=3 then t.s else 0):=by
 obtain ⟨h1,h2⟩:=way_more (S.right (!i)) ht hn
 unfold wayW backW
 cases i with
 |true=>
  simp only[Bool.not_true] at h1 h2
  have e1:upd b.seen true (b.seen true+1) true=b.seen true+1:=upd_same _ _ _
  have e2:upd b.seen true (b.seen true+1) false=b.seen false:=upd_other b.seen true _
  rw[e1,e2,h1,h2];omega
 |false=>
  simp only[Bool.not_false] at h1 h2
  have e1:upd b.seen false (b.seen false+1) false=b.seen false+1:=upd_same _ _ _
  have e2:upd b.seen false (b.seen false+1) true=b.seen true:=upd_other b.seen false _
  rw[e1,e2,h1,h2];omega
theorem came_sent{b:Bank}(S:Sent b){i:Bool}{t:Po.Tr}(ht:t∈(b.snd (!i)).kept) (hn:t.n=b.seen i+1){x:Bank}(h1:x.snd=b.snd) (h2:x.seen=upd b.seen i (b.seen i+1)) (h3:x.way=(gone b i).way) (h4:x.auths=b.auths):Sent x:=by
 have hup:∀j,b.seen j≤x.seen j:=fun j=>by
  rw[h2];unfold upd;split
  ·rename_i e;subst e;omega
  ·exact Int.le_refl _
 refine ⟨fun j=>by rw[h1];exact S.right j,fun j=>Int.le_trans (S.seen0 j) (hup j),fun j=>?_,fun j=>?_,fun j t ht=>?_,fun t ht=>?_,fun t ht=>?_,fun j p hp=>?_,fun j=>?_⟩
 ·rw[h1,h2];unfold upd;split
  ·rename_i e;subst e
   have :=(right_mem (S.right (!j)) ht).2.2.2;omega
  ·exact S.seen1 j
 ·rw[h1];exact Int.le_trans (S.keeps j) (hup (!j))
 ·rw[h1] at ht;rw[h4];exact S.auths j t ht
 ·rw[h1] at ht;exact S.kind0 t ht
 ·rw[h1] at ht;exact S.kind1 t ht
 ·rw[h3] at hp
  rw[h1]
  rcases S.ways j p (gone_way hp) with ⟨g1,g2|g2⟩|⟨g1,g2⟩
  ·exact Or.inl ⟨g1,Or.inl (Int.le_trans g2 (hup j))⟩
  ·exact Or.inl ⟨g1,Or.inr g2⟩
  ·exact Or.inr ⟨g1,Int.le_trans g2 (hup (!j))⟩
 ·rw[h3];exact Nat.le_trans (gone_len b i j) (S.way60 j)
theorem comes_inv {b:Bank}{i:Bool}{t:Po.Tr}(I:Inv b) (ht:t∈(b.snd (!i)).kept) (hn:t.n=b.seen i+1) (h:(comes b i t).2=0):Inv (comes b i t).1:=by
 obtain ⟨H,S,B⟩:=I
 obtain ⟨w1,w2⟩:=came_one S ht hn
 obtain ⟨-,hfar,-,-⟩:=right_mem (S.right (!i)) ht
 unfold Po.far at hfar
 have ha1:=S.auths (!i) t ht
 obtain ⟨r1,r2,r3,r4⟩:=H.auth (k:=t.a) (by omega) ha1
 have hc0:0≤(b.auth t.a).card:=r1.2.2.2.2.1.1
 have hs0:0≤(b.auth t.a).shop:=r1.2.2.2.2.2.1.1
 have c8:=H.cards8
 have d8:=H.due8
 unfold comes at h⊢
 by_cases k1:t.k=1
 ·rw[if_pos k1] at h⊢
  split at h
  ·rename_i h1;exact absurd h h1
  rename_i h1
  rw[if_neg h1]
  have h1:(moveB b.book 1 (50+(b.auth t.a).shop) t.s).2=0:=Decidable.not_not.1 h1
  obtain ⟨m1,m2⟩:=moveB_zero h1
  rw[if_pos (by omega)] at w1
  rw[if_neg (by omega)] at w2
  have hk:(b.auth t.a).shop.toNat<b.due.length:=by omega
  refine ⟨⟨H.cards8,by simpa[gone] using H.due8,H.right,H.few,by simpa[gone] using H.auths,H.held,H.stand,H.standN,by simpa[gone] using H.advs,H.noadv,H.time0,H.time1,H.today⟩,came_sent S ht hn rfl rfl rfl rfl,⟨m1,?_,?_,?_,?_⟩⟩
  ·intro k hk2
   replace hk2:k<b.cards.length:=hk2
   show Bk.getE (moveB b.book 1 (50 +(b.auth t.a).shop) t.s).1 (10 +(k :Int))=(b.cards.getD k zeroC).m
   rw[m2,B.accC k hk2,if_neg (by omega),if_neg (by omega)];omega
  ·intro k hk2
   replace hk2:k<b.due.length:=by simpa[gone] using hk2
   show Bk.getE (moveB b.book 1 (50 +(b.auth t.a).shop) t.s).1 (50 +(k :Int))=(b.due.set (b.auth t.a).shop.toNat _).getD k 0
   rw[m2,getD_set _ _ _ _ _ hk,B.accS k hk2,if_neg (show¬(1 :Int)=50+(k:Int) by omega)]
   by_cases e:(b.auth t.a).shop.toNat=k
   ·rw[if_pos e,if_pos (by omega)];subst e;unfold Bank.dueOf;omega
   ·rw[if_neg e,if_neg (by omega)];omega
  ·show Bk.getE (moveB b.book 1 (50+(b.auth t.a).shop) t.s).1 1=wayW b.snd (upd b.seen i (b.seen i+1))
   rw[m2,B.acc1,onWay_eq,w1,if_pos rfl,if_neg (by omega)];omega
  ·show Bk.getE (moveB b.book 1 (50 +(b.auth t.a).shop) t.s).1 2=-disputed b-backW b.snd (upd b.seen i (b.seen i+1))
   rw[m2,B.acc2,onBack_eq,w2,if_neg (by omega),if_neg (by omega)];omega
 rw[if_neg k1] at h⊢
 by_cases k2:t.k=2
 ·rw[if_pos k2] at h⊢
  split at h
  ·rename_i h1;exact absurd h h1
  rename_i h1
  rw[if_neg h1]
  split at h
  ·rename_i h2;exact absurd h h2
  rename_i h2
  rw[if_neg h2]
  have h1:(shiftC (b.card (b.auth t.a).card) 0 t.s).2=0:=Decidable.not_not.1 h1
  have h2:(moveB b.book 1 (10+(b.auth t.a).card) t.s).2=0:=Decidable.not_not.1 h2
  obtain ⟨m1,m2⟩:=moveB_zero h2
  obtain ⟨-,g2,g3⟩:=right_of_shift h1
  rw[if_pos (by omega)] at w1
  rw[if_neg (by omega)] at w2
  have hk:(b.auth t.a).card.toNat<b.cards.length:=by omega
  refine ⟨⟨by simpa[gone] using H.cards8,H.due8,?_,H.few,by simpa[gone] using H.auths,?_,H.stand,by simpa[gone] using H.standN,H.advs,H.noadv,H.time0,H.time1,H.today⟩,came_sent S ht hn rfl rfl rfl rfl,⟨m1,?_,?_,?_,?_⟩⟩
  ·intro c hc
   rcases mem_set' hc with rfl|hc
   ·rw[g2];exact g3
   ·exact H.right c hc
  ·intro k hk2
   replace hk2:k<b.cards.length:=by simpa[gone] using hk2
   show ((b.cards.set (b.auth t.a).card.toNat _).getD k zeroC).h=heldOf k b.auths
   rw[getD_set _ _ _ _ _ hk,g2]
   split
   ·rename_i e;subst e
    show (b.card (b.auth t.a).card).h+0=_
    rw[Int.add_zero];exact H.held _ hk2
   ·exact H.held k hk2
  ·intro k hk2
   replace hk2:k<b.cards.length:=by simpa[gone] using hk2
   show Bk.getE (moveB b.book 1 (10+(b.auth t.a).card) t.s).1 (10 +(k :Int))=((b.cards.set (b.auth t.a).card.toNat _).getD k zeroC).m
   rw[m2,getD_set _ _ _ _ _ hk,g2,B.accC k hk2,if_neg (show ¬(1 :Int)=10+(k:Int) by omega)]
   by_cases e:(b.auth t.a).card.toNat=k
   ·rw[if_pos e,if_pos (by omega)];subst e;unfold Bank.card;dsimp only;omega
   ·rw[if_neg e,if_neg (by omega)];omega
  ·intro k hk2
   replace hk2:k<b.due.length:=hk2
   show Bk.getE (moveB b.book 1 (10+(b.auth t.a).card) t.s).1 (50+(k:Int))=b.due.getD k 0
   rw[m2,B.accS k hk2,if_neg (by omega),if_neg (by omega)];omega
  ·show Bk.getE (moveB b.book 1 (10 +(b.auth t.a).card) t.s).1 1=wayW b.snd (upd b.seen i (b.seen i+1))
   rw[m2,B.acc1,onWay_eq,w1,if_pos rfl,if_neg (by omega)];omega
  ·show Bk.getE (moveB b.book 1 (10+(b.auth t.a).card) t.s).1 2=-disputed b-backW b.snd (upd b.seen i (b.seen i+1))
   rw[m2,B.acc2,onBack_eq,w2,if_neg (by omega),if_neg (by omega)];omega
 rw[if_neg k2] at h⊢
 have k3:t.k=3:=by
  cases i with
  |true=>rcases S.kind0 t ht with q|q;exact absurd q k1;exact q
  |false=>exact absurd (S.kind1 t ht) k2
 rw[if_pos k3] at h⊢
 split at h
 ·rename_i h1;exact absurd h h1
 rename_i h1
 rw[if_neg h1]
 have h1:(moveB b.book (50+(b.auth t.a).shop) 2 t.s).2=0:=Decidable.not_not.1 h1
 obtain ⟨m1,m2⟩:=moveB_zero h1
 rw[if_neg (by omega)] at w1
 rw[if_pos (by omega)] at w2
 have hk:(b.auth t.a).shop.toNat<b.due.length:=by omega
 refine ⟨⟨H.cards8,by simpa[gone] using H.due8,H.right,H.few,by simpa[gone] using H.auths,H.held,H.stand,H.standN,by simpa[gone] using H.advs,H.noadv,H.time0,H.time1,H.today⟩,came_sent S ht hn rfl rfl rfl rfl,⟨m1,?_,?_,?_,?_⟩⟩
 ·intro k hk2
  replace hk2:k<b.cards.length:=hk2
  show Bk.getE (moveB b.book (50 +(b.auth t.a).shop) 2 t.s).1 (10+(k :Int))=(b.cards.getD k zeroC).m
  rw[m2,B.accC k hk2,if_neg (by omega),if_neg (by omega)];omega
 ·intro k hk2
  replace hk2:k<b.due.length:=by simpa[gone] using hk2
  show Bk.getE (moveB b.book (50+(b.auth t.a).shop) 2 t.s).1 (50 +(k :Int))=(b.due.set (b.auth t.a).shop.toNat _).getD k 0
  rw[m2,getD_set _ _ _ _ _ hk,B.accS k hk2,if_neg (show¬(2 :Int)=50+(k:Int) by omega)]
  by_cases e:(b.auth t.a).shop.toNat=k
  ·rw[if_pos e,if_pos (by omega)];subst e;unfold Bank.dueOf;omega
  ·rw[if_neg e,if_neg (by omega)];omega
 ·show Bk.getE (moveB b.book (50+(b.auth t.a).shop) 2 t.s).1 1=wayW b.snd (upd b.seen i (b.seen i+1))
  rw[m2,B.acc1,onWay_eq,w1,if_neg (by omega),if_neg (by omega)];omega
 ·show Bk.getE (moveB b.book (50 +(b.auth t.a).shop) 2 t.s).1 2=-disputed b-backW b.snd (upd b.seen i (b.seen i+1))
  rw[m2,B.acc2,onBack_eq,w2,if_neg (by omega),if_pos rfl];omega
theorem arrive_inv {b:Bank}{d:Dd}{lost:Bool}(I:Inv b) (h:(arriveB b d lost).2=0):Inv (arriveB b d lost).1:=by
 unfold arriveB at h⊢
 by_cases h1:d.n<0∨1<d.n
 ·rw[if_pos h1] at h;cases h
 rw[if_neg h1] at h⊢
 generalize sideOf d.n=i at*
 cases hw:b.way i with
 |nil=>rw[hw] at h;cases h
 |cons p r=>
  rw[hw] at h
  dsimp only at h⊢
  cases lost with
  |true=>rw[if_pos rfl];exact gone_inv I i
  |false=>
   rw[if_neg (by simp)] at h⊢
   have hp:=I.sent.ways i p (by rw[hw];exact List.mem_cons_self)
   unfold arriveAt at h⊢
   by_cases h2:0≤p.seen
   ·rw[if_pos h2] at h⊢
    split at h
    ·rename_i h3;exact absurd h h3
    rename_i h3
    rw[if_neg h3]
    have hn:p.seen≤b.seen (!i):=by
     rcases hp with ⟨g1,-⟩|⟨-,g2⟩
     ·omega
     ·exact g2
    exact back_inv I hn (Decidable.not_not.1 h3)
   ·rw[if_neg h2] at h⊢
    by_cases h3:p.t.n≠b.seen i+1∨1000000≤b.seen i
    ·rw[if_pos h3];exact gone_inv I i
    ·rw[if_neg h3] at h⊢
     have hn:p.t.n=b.seen i+1:=by omega
     refine comes_inv I ?_ hn h
     rcases hp with ⟨-,g1|g1⟩|⟨g1,-⟩
     ·omega
     ·exact g1
     ·omega
def lateBy (time:Int) (k:Nat) (a:Au.Au):Int:=if a.card=(k :Int) then Au.holdA (Au.lateA a time)-Au.holdA a else 0
theorem fold_late (time:Int) (L:List Au.Au):∀cs:List Ca,(∀a∈L,0≤a.card∧a.card<cs.length)→(L.foldl (lateC time) cs).length=cs.length∧
  ∀k,k<cs.length→(L.foldl (lateC time) cs).getD k zeroC=⟨(cs.getD k zeroC).m,(cs.getD k zeroC).h+sumOn (lateBy time k) L,(cs.getD k zeroC).p,(cs.getD k zeroC).u⟩:=by
 induction L with
 |nil=>intro cs _;exact ⟨rfl,fun k _=>by simp[sumOn]⟩
 |cons a r ih=>
  intro cs h
  obtain ⟨h1,h2⟩:=h a List.mem_cons_self
  have hl:(lateC time cs a).length=cs.length:=by simp[lateC]
  obtain ⟨i1,i2⟩:=ih (lateC time cs a) fun x hx=>by rw[hl];exact h x (List.mem_cons_of_mem _ hx)
  refine ⟨by rw[List.foldl_cons,i1,hl],fun k hk=>?_⟩
  rw[List.foldl_cons,i2 k (by rw[hl];exact hk)]
  unfold lateC
  rw[getD_set _ _ _ _ _ (by omega)]
  simp only[sumOn]
  by_cases e:a.card.toNat=k
  ·rw[if_pos e]
   subst e
   unfold lateBy
   rw[if_pos (by omega)]
   dsimp only
   congr 1
   omega
  ·rw[if_neg e]
   have: lateBy time k a=0:=by unfold lateBy;rw[if_neg (by omega)]
   rw[this,Int.zero_add]
theorem held_late (time:Int) (k:Nat) (L:List Au.Au):heldOf k (L.map fun a=>Au.lateA a time)=heldOf k L+sumOn (lateBy time k) L:=by
 unfold heldOf
 rw[sumOn_map,←sumOn_add]
 refine sumOn_congr fun a _=>?_
 unfold heldBy lateBy
 show (if a.card=(k :Int) then _ else _)=_
 by_cases e:a.card=(k :Int)
 ·rw[if_pos e,if_pos e,if_pos e];omega
 ·rw[if_neg e,if_neg e,if_neg e];rfl
theorem shut_inv {b:Bank}(I:Inv b):Inv (shutB b):=by
 obtain ⟨H,S,B⟩:=I
 obtain ⟨l1,l2⟩:=fold_late b.time b.auths b.cards fun a ha=>⟨(H.auths a ha).1.2.2.2.2.1.1,(H.auths a ha).2.2.1⟩
 have hA:∀a∈b.auths.map (fun a=>Au.lateA a b.time),Au.Rng a∧Au.Fit a∧a.card<b.cards.length∧a.shop<b.due.length:=fun a ha=>by
  obtain ⟨x,hx,rfl⟩:=List.mem_map.1 ha
  exact H.auths x hx
 have hheld:∀k:Nat,k<b.cards.length→((b.auths.foldl (lateC b.time) b.cards).getD k zeroC).h=heldOf k (b.auths.map fun a=>Au.lateA a b.time):=fun k hk=>by
  rw[l2 k hk,held_late]
  dsimp only
  rw[H.held k hk]
 have hsm:∀k:Nat,0≤heldOf k (b.auths.map fun a=>Au.lateA a b.time)∧heldOf k (b.auths.map fun a=>Au.lateA a b.time)≤30000000:=fun k=>by
  have h1:=sumOn_bound (f:=heldBy k) (c:=1000000) (l:=b.auths.map fun a=>Au.lateA a b.time) fun a ha=>by
   have :=hold_small (hA a ha).1 (hA a ha).2.1
   unfold heldBy
   split<;>omega
  have :=H.few
  rw[List.length_map] at h1
  unfold heldOf
  omega
 have hdis:sumOn Au.Au.dis (b.auths.map fun a=>Au.lateA a b.time)=sumOn Au.Au.dis b.auths:=by rw[sumOn_map];rfl
 refine ⟨⟨by show (b.auths.foldl (lateC b.time) b.cards).length≤8;rw[l1];exact H.cards8,H.due8,?_,?_,?_,?_,H.stand,?_,H.advs,H.noadv,H.time0,H.time1,H.today⟩,⟨S.right,S.seen0,S.seen1,S.keeps,?_,S.kind0,S.kind1,S.ways,S.way60⟩,⟨B.right,?_,B.accS,B.acc1,?_⟩⟩
 ·intro c hc
  obtain ⟨k,hk,rfl⟩:=mem_getD zeroC (show c∈b.auths.foldl (lateC b.time) b.cards from hc)
  rw[l1] at hk
  have R:=H.right _ (getD_mem' zeroC hk)
  have h1:=hheld k hk
  have h2:=hsm k
  rw[←h1] at h2
  rw[l2 k hk] at h2⊢
  dsimp only at h2
  exact ⟨R.m1,R.m2,h2.1,by dsimp only;omega,R.pace,R.uses⟩
 ·show (b.auths.map fun a=>Au.lateA a b.time).length+b.stand.adv.length≤30
  rw[List.length_map];exact H.few
 ·intro a ha
  show _∧_∧a.card<((b.auths.foldl (lateC b.time) b.cards).length:Int)∧_
  rw[l1];exact hA a ha
 ·intro k hk
  replace hk:k<(b.auths.foldl (lateC b.time) b.cards).length:=hk
  rw[l1] at hk
  exact hheld k hk
 ·show b.stand.used.length=(b.auths.foldl (lateC b.time) b.cards).length
  rw[l1];exact H.standN
 ·intro i t ht
  show t.a<((b.auths.map fun a=>Au.lateA a b.time).length:Int)
  rw[List.length_map];exact S.auths i t ht
 ·intro k hk
  replace hk:k<(b.auths.foldl (lateC b.time) b.cards).length:=hk
  rw[l1] at hk
  show Bk.getE b.book (10 +(k :Int))=((b.auths.foldl (lateC b.time) b.cards).getD k zeroC).m
  rw[l2 k hk];exact B.accC k hk
 ·show Bk.getE b.book 2=-sumOn Au.Au.dis (b.auths.map fun a=>Au.lateA a b.time)-onBack b
  rw[hdis];exact B.acc2
theorem tick_inv {b:Bank}{d:Dd}(I:Inv b) (h:(tickB b d).2=0):Inv (tickB b d).1:=by
 unfold tickB at h⊢
 split at h
 ·cases h
 rename_i h1
 rw[if_neg h1]
 have I':Inv {b with time:=b.time+d.sum}:=by
  obtain ⟨H,S,B⟩:=I
  refine ⟨⟨H.cards8,H.due8,H.right,H.few,H.auths,H.held,H.stand,H.standN,fun x hx=>⟨(H.advs x hx).1,?_⟩,H.noadv,?_,?_,H.today⟩,⟨S.right,S.seen0,S.seen1,S.keeps,S.auths,S.kind0,S.kind1,S.ways,S.way60⟩,⟨B.right,B.accC,B.accS,B.acc1,B.acc2⟩⟩
  ·have:= (H.advs x hx).2;show x.t≤b.time+d.sum;omega
  ·have:= H.time0;show 0≤b.time+d.sum;omega
  ·show b.time+d.sum≤1000000;omega
 split
 ·exact I'
 ·exact shut_inv I'
def forceBy (k:Nat) (x:St.Ad):Int:=if x.c=(k :Int) then x.m else 0
theorem fold_force (L:List St.Ad):∀cs:List Ca,(∀ x∈L,0≤x.c∧x.c<cs.length)→(L.foldl forceL cs).length=cs.length∧
  ∀k,k<cs.length→(L.foldl forceL cs).getD k zeroC=⟨(cs.getD k zeroC).m,(cs.getD k zeroC).h+sumOn (forceBy k) L,(cs.getD k zeroC).p,(cs.getD k zeroC).u⟩:=by
 induction L with
 |nil=>intro cs _;exact ⟨rfl,fun k _=>by simp[sumOn]⟩
 |cons x r ih=>
  intro cs h
  obtain ⟨h1,h2⟩:=h x List.mem_cons_self
  have hl:(forceL cs x).length=cs.length:=by simp[forceL]
  obtain ⟨i1,i2⟩:=ih (forceL cs x) fun y hy=>by rw[hl];exact h y (List.mem_cons_of_mem _ hy)
  refine ⟨by rw[List.foldl_cons,i1,hl],fun k hk=>?_⟩
  rw[List.foldl_cons,i2 k (by rw[hl];exact hk)]
  unfold forceL
  rw[getD_set _ _ _ _ _ (by omega)]
  simp only[sumOn]
  by_cases e:x.c.toNat=k
  ·rw[if_pos e]
   subst e
   unfold forceBy
   rw[if_pos (by omega)]
   dsimp only
   congr 1
   omega
  ·rw[if_neg e]
   have: forceBy k x=0:=by unfold forceBy;rw[if_neg (by omega)]
   rw[this,Int.zero_add]
theorem held_adv (k:Nat) (L:List St.Ad):heldOf k (L.map advA)=sumOn (forceBy k) L:=by
 unfold heldOf
 rw[sumOn_map]
 refine sumOn_congr fun x _=>?_
 unfold heldBy forceBy advA Au.holdA
 dsimp only
 by_cases e:x.c=(k :Int)
 ·rw[if_pos e,if_pos e];simp
 ·rw[if_neg e,if_neg e]
theorem heldOf_append (k:Nat) (a b:List Au.Au):heldOf k (a ++b)=heldOf k a+heldOf k b:=sumOn_append _ _ _
theorem up_mid {b:Bank}(I:Inv b) (_:b.down=true):
  Inv {b with cards:=b.stand.adv.foldl forceL b.cards,auths:=b.auths++b.stand.adv.map advA,down:=false,stand:=⟨b.stand.cap,List.replicate b.cards.length 0,[]⟩}:=by
 obtain ⟨H,S,B⟩:=I
 have hf:∀x∈b.stand.adv,St.Fits x b.stand.used.length:=H.stand.adv.each
 obtain ⟨l1,l2⟩:=fold_force b.stand.adv b.cards fun x hx=>by have:= hf x hx;rw[H.standN] at this;exact ⟨this.1,this.2.1⟩
 have d8:=H.due8
 have c8:=H.cards8
 have hA:∀a∈b.auths++b.stand.adv.map advA,Au.Rng a∧Au.Fit a∧a.card<b.cards.length∧a.shop<b.due.length:=fun a ha=>by
  rcases List.mem_append.1 ha with ha|ha
  ·exact H.auths a ha
  ·obtain ⟨x,hx,rfl⟩:=List.mem_map.1 ha
   have h1:=hf x hx
   rw[H.standN] at h1
   have h2:=(H.advs x hx).1
   unfold St.Fits at h1
   unfold advA Au.Rng Au.Fit
   dsimp only
   omega
 have hlen:(b.auths++b.stand.adv.map advA).length≤30:=by have:= H.few;simp;omega
 have hheld:∀k:Nat,k<b.cards.length→((b.stand.adv.foldl forceL b.cards).getD k zeroC).h=heldOf k (b.auths++b.stand.adv.map advA):=fun k hk=>by
  rw[l2 k hk,heldOf_append,held_adv]
  dsimp only
  rw[H.held k hk]
 have hsm:∀k:Nat,0≤heldOf k (b.auths ++b.stand.adv.map advA)∧heldOf k (b.auths ++b.stand.adv.map advA)≤30000000:=fun k=>by
  have h1:=sumOn_bound (f:=heldBy k) (c:=1000000) (l:=b.auths++b.stand.adv.map advA) fun a ha=>by
   have:= hold_small (hA a ha).1 (hA a ha).2.1
   unfold heldBy
   split<;>omega
  unfold heldOf
  omega
 have hdis:sumOn Au.Au.dis (b.auths ++b.stand.adv.map advA)=sumOn Au.Au.dis b.auths:=by
  rw[sumOn_append,sumOn_map,sumOn_zero (f:=fun x=>(advA x).dis) (fun _ _=>rfl)];omega
 refine ⟨⟨by show (b.stand.adv.foldl forceL b.cards).length≤8;rw[l1];exact H.cards8,H.due8,?_,?_,?_,?_,St.new_right c8 H.stand.lim,?_,(fun x hx=>by cases hx),(fun _=>rfl),H.time0,H.time1,H.today⟩,⟨S.right,S.seen0,S.seen1,S.keeps,?_,S.kind0,S.kind1,S.ways,S.way60⟩,⟨B.right,?_,B.accS,B.acc1,?_⟩⟩
 ·intro c hc
  obtain ⟨k,hk,rfl⟩:=mem_getD zeroC (show c∈b.stand.adv.foldl forceL b.cards from hc)
  rw[l1] at hk
  have R:=H.right _ (getD_mem' zeroC hk)
  have h1:=hheld k hk
  have h2:=hsm k
  rw[←h1] at h2
  rw[l2 k hk] at h2⊢
  dsimp only at h2
  exact ⟨R.m1,R.m2,h2.1,by dsimp only;omega,R.pace,R.uses⟩
 ·show (b.auths ++b.stand.adv.map advA).length+([]:List St.Ad).length≤30
  simpa using hlen
 ·intro a ha
  show _∧_∧a.card<((b.stand.adv.foldl forceL b.cards).length:Int)∧_
  rw[l1];exact hA a ha
 ·intro k hk
  replace hk:k<(b.stand.adv.foldl forceL b.cards).length:=hk
  rw[l1] at hk
  exact hheld k hk
 ·show (List.replicate b.cards.length (0:Int)).length=(b.stand.adv.foldl forceL b.cards).length
  rw[l1];simp
 ·intro i t ht
  have:= S.auths i t ht
  show t.a<((b.auths ++b.stand.adv.map advA).length:Int)
  simp;omega
 ·intro k hk
  replace hk:k<(b.stand.adv.foldl forceL b.cards).length:=hk
  rw[l1] at hk
  show Bk.getE b.book (10+(k:Int))=((b.stand.adv.foldl forceL b.cards).getD k zeroC).m
  rw[l2 k hk];exact B.accC k hk
 ·show Bk.getE b.book 2=-sumOn Au.Au.dis (b.auths ++b.stand.adv.map advA)-onBack b
  rw[hdis];exact B.acc2
theorem up_inv {b:Bank}(I:Inv b) (h:(upB b).2=0):Inv (upB b).1:=by
 unfold upB at h⊢
 split at h
 ·rename_i h1;rw[if_pos h1];exact shut_inv (up_mid I h1)
 ·cases h
end Go.Proofs.YtofcnebekmjdoaaGreatDoor.Bn
