import Derived.Test.YtofcnebekmjdoaaGreatDoorKbu
import Derived.Test.YtofcnebekmjdoaaGreatDoorLDrnab
set_option maxHeartbeats 4000000
set_option maxRecDepth 100000
namespace Go.Proofs.YtofcnebekmjdoaaGreatDoor.Bn
open Go.Proofs.YtofcnebekmjdoaaGreatDoor
def captBy (k:Nat) (a:Au.Au):Int:=if a.shop=(k :Int) then a.cap-a.ref else 0
def shopA (l:List Au.Au) (n:Int):Int:=(l.getD n.toNat zA).shop
def brings (l:List Au.Au) (k:Nat) (t:Po.Tr):Int:=if shopA l t.a=(k :Int) then (if t.k=1 then t.s else if t.k=3 then-t.s else 0) else 0
def pendBy (l:List Au.Au) (k:Nat) (came:Int) (t:Po.Tr):Int:=if came<t.n then brings l k t else 0
def bal (k:Nat) (b:Bank):Int:=b.due.getD k 0-sumOn (captBy k) b.auths+sumOn (pendBy b.auths k (b.seen true)) (b.snd false).kept
theorem pend_those (l:List Au.Au) (k:Nat){s came:Int}(h:s≤came) (L:List Po.Tr):sumOn (pendBy l k came) (Po.those s L)=sumOn (pendBy l k came) L:=by
 unfold Po.those
 induction L with
 |nil=>rfl
 |cons t r ih=>
  by_cases e:s<t.n
  ·rw[List.filter_cons_of_pos (by simpa using e)]
   simp only[sumOn,ih]
  ·rw[List.filter_cons_of_neg (by simpa using e),ih]
   simp only[sumOn]
   unfold pendBy
   rw[if_neg (by omega)];omega
theorem pend_more (l:List Au.Au) (k:Nat) {s:Po.Se} (R:Po.Right s) {t:Po.Tr} (ht:t∈s.kept) {came:Int} (hn:t.n=came+1):sumOn (pendBy l k (came +1)) s.kept=sumOn (pendBy l k came) s.kept-brings l k t:=by
 rw[sum_one (right_rise R) ht (f:=pendBy l k (came +1)) (g:=pendBy l k came)]
 ·unfold pendBy
  rw[if_neg (by omega),if_pos (by omega)];omega
 ·intro x _ hx
  unfold pendBy
  by_cases h1:came<x.n
  ·rw[if_pos h1,if_pos (by omega)]
  ·rw[if_neg h1,if_neg (by omega)]
theorem pend_stays {b x:Bank}(h:Stays b x) (k:Nat) (came:Int){L:List Po.Tr}(hL:∀t∈L,0≤t.a∧t.a<b.auths.length):sumOn (pendBy x.auths k came) L=sumOn (pendBy b.auths k came) L:=
 sumOn_congr fun t ht=>by
  have :=h.2 t.a.toNat (by have :=hL t ht;omega)
  unfold pendBy brings shopA
  rw[this]
theorem kept_in {b:Bank}(I:Inv b) (i:Bool):∀t∈(b.snd i).kept,0≤t.a∧t.a<b.auths.length:=fun t ht=>by
 have h1:=(right_mem (I.sent.right i) ht).2.1
 unfold Po.far at h1
 exact ⟨by omega,I.sent.auths i t ht⟩
theorem bal_still {b x:Bank}(I:Inv b) (k:Nat) (h1:x.due=b.due) (h2:sumOn (captBy k) x.auths=sumOn (captBy k) b.auths) (h3:Stays b x) (h4:x.seen true=b.seen true) (h5:(x.snd false).kept=(b.snd false).kept):bal k x=bal k b:=by
 unfold bal
 rw[h1,h2,h4,h5,pend_stays h3 k _ (kept_in I false)]
theorem bal_same {b x:Bank}(I:Inv b) (k:Nat) (h1:x.due=b.due) (h2:x.auths=b.auths) (h4:x.seen true=b.seen true) (h5:(x.snd false).kept=(b.snd false).kept):bal k x=bal k b:=
 bal_still I k h1 (by rw[h2]) (stays_same h2) h4 h5
theorem load_bal {b:Bank}{d:Dd}(I:Inv b) (k:Nat):bal k (loadB b d).1=bal k b:=by
 unfold loadB
 repeat' split
 all_goals exact bal_same I k rfl rfl rfl rfl
theorem ask_bal {b:Bank} {d:Dd} (I:Inv b) (k:Nat):bal k (askB b d).1=bal k b:=by
 unfold askB askDown askUp
 split
 ·rfl
 split
 ·split
  ·rfl
  ·split
   ·rfl
   ·exact bal_same I k rfl rfl rfl rfl
 ·split
  ·rfl
  ·rename_i h2
   split
   ·rfl
   ·split
    ·rfl
    ·obtain ⟨n1,-⟩:=newA_zero (Decidable.not_not.1 h2)
     refine bal_still I k rfl ?_ (stays_append rfl) rfl rfl
     show sumOn (captBy k) (b.auths ++[_])=_
     rw[sumOn_append,sumOn_one,n1]
     unfold captBy;dsimp only
     split<;>omega
theorem shut_bal {b:Bank}(I:Inv b) (k:Nat):bal k (shutB b)=bal k b:=by
 refine bal_still I k rfl ?_ (stays_shut b) rfl rfl
 show sumOn (captBy k) (b.auths.map _)=_
 rw[sumOn_map];rfl
theorem tick_bal {b:Bank}{d:Dd}(I:Inv b) (k:Nat) (h:(tickB b d).2=0):bal k (tickB b d).1=bal k b:=by
 have h0:=h
 unfold tickB at h⊢
 split
 ·rfl
 ·rename_i h1
  rw[if_neg h1] at h
  have I':Inv {b with time:=b.time+d.sum}:=by
   obtain ⟨H,S,B⟩:=I
   refine ⟨⟨H.cards8,H.due8,H.right,H.few,H.auths,H.held,H.stand,H.standN,fun x hx=>⟨(H.advs x hx).1,?_⟩,H.noadv,?_,?_,H.today⟩,⟨S.right,S.seen0,S.seen1,S.keeps,S.auths,S.kind0,S.kind1,S.ways,S.way60⟩,⟨B.right,B.accC,B.accS,B.acc1,B.acc2⟩⟩
   ·have:= (H.advs x hx).2;show x.t≤b.time+d.sum;omega
   ·have :=H.time0;show 0≤b.time+d.sum;omega
   ·show b.time+d.sum≤1000000;omega
  split
  ·exact bal_same I k rfl rfl rfl rfl
  ·exact (shut_bal I' k).trans (bal_same I k rfl rfl rfl rfl)
theorem up_bal {b:Bank}(I:Inv b) (k:Nat):bal k (upB b).1=bal k b:=by
 unfold upB
 split
 ·rename_i h1
  refine (shut_bal (up_mid I h1) k).trans ?_
  refine bal_still I k rfl ?_ (stays_append rfl) rfl rfl
  show sumOn (captBy k) (b.auths ++b.stand.adv.map advA)=_
  rw[sumOn_append,sumOn_map,sumOn_zero (f:=fun x=>captBy k (advA x)) (fun x _=>by unfold captBy advA;dsimp only;split<;>omega)];omega
 ·rfl
theorem pay_bal {b:Bank}{d:Dd}(k:Nat) (h:(payB b d).2=0):bal k (payB b d).1=bal k b-(if d.n=(k :Int) then b.dueOf d.n else 0):=by
 unfold payB at h⊢
 split at h
 ·cases h
 rename_i h1
 rw[if_neg h1]
 split at h
 ·cases h
 rename_i h2
 rw[if_neg h2]
 split at h
 ·rename_i h3;exact absurd h h3
 rename_i h3
 rw[if_neg h3]
 show (b.due.set d.n.toNat 0).getD k 0-_+_=bal k b-_
 rw[getD_set _ _ _ _ _ (by omega)]
 unfold bal
 by_cases e:d.n.toNat=k
 ·rw[if_pos e,if_pos (by omega)];unfold Bank.dueOf;rw[e];dsimp only;omega
 ·rw[if_neg e,if_neg (by omega)];dsimp only;omega
theorem comes_bal {b:Bank}{i:Bool}{t:Po.Tr}(I:Inv b) (k:Nat) (ht:t∈(b.snd (!i)).kept) (hn:t.n=b.seen i+1) (h:(comes b i t).2=0):bal k (comes b i t).1=bal k b:=by
 have hin:=kept_in I (!i) t ht
 obtain ⟨r1,-,-,r4⟩:=I.held.auth hin.1 hin.2
 have hs0:0≤(b.auth t.a).shop:=r1.2.2.2.2.2.1.1
 have hsi:(b.auth t.a).shop.toNat<b.due.length:=by omega
 have hsh:shopA b.auths t.a=(b.auth t.a).shop:=rfl
 unfold comes at h⊢
 cases i with
 |false=>
  have hk:=I.sent.kind1 t ht
  rw[if_neg (by omega),if_pos hk] at h⊢
  split at h
  ·rename_i q;exact absurd h q
  rename_i q
  rw[if_neg q]
  split at h
  ·rename_i q2;exact absurd h q2
  rename_i q2
  rw[if_neg q2]
  refine bal_same I k rfl rfl ?_ rfl
  show upd b.seen false (b.seen false+1) true=b.seen true
  exact upd_other b.seen false _
 |true=>
  have hp:=pend_more b.auths k (I.sent.right false) ht hn
  have hse:upd b.seen true (b.seen true+1) true=b.seen true+1:=upd_same _ _ _
  rcases I.sent.kind0 t ht with hk|hk
  ·rw[if_pos hk] at h⊢
   split at h
   ·rename_i q;exact absurd h q
   rename_i q
   rw[if_neg q]
   show (b.due.set (b.auth t.a).shop.toNat _).getD k 0-sumOn (captBy k) b.auths+sumOn (pendBy b.auths k (upd b.seen true (b.seen true+1) true)) (b.snd false).kept=bal k b
   rw[hse,hp,getD_set _ _ _ _ _ hsi]
   unfold bal brings
   rw[hsh,if_pos hk]
   by_cases e:(b.auth t.a).shop.toNat=k
   ·rw[if_pos e,if_pos (by omega)];unfold Bank.dueOf;rw[e];omega
   ·rw[if_neg e,if_neg (by omega)];omega
  ·rw[if_neg (by omega),if_neg (by omega),if_pos hk] at h⊢
   split at h
   ·rename_i q;exact absurd h q
   rename_i q
   rw[if_neg q]
   show (b.due.set (b.auth t.a).shop.toNat _).getD k 0-sumOn (captBy k) b.auths+sumOn (pendBy b.auths k (upd b.seen true (b.seen true+1) true)) (b.snd false).kept=bal k b
   rw[hse,hp,getD_set _ _ _ _ _ hsi]
   unfold bal brings
   rw[hsh,if_neg (show¬t.k=1 by omega),if_pos hk]
   by_cases e:(b.auth t.a).shop.toNat=k
   ·rw[if_pos e,if_pos (by omega)];unfold Bank.dueOf;rw[e];omega
   ·rw[if_neg e,if_neg (by omega)];omega
theorem arrive_bal{b:Bank}{d:Dd}{lost:Bool}(I:Inv b) (k:Nat) (h:(arriveB b d lost).2=0):bal k (arriveB b d lost).1=bal k b:=by
 unfold arriveB at h⊢
 by_cases h1:d.n<0∨1<d.n
 ·rw[if_pos h1]
 rw[if_neg h1] at h⊢
 generalize sideOf d.n=i at*
 cases hw:b.way i with
 |nil=>rfl
 |cons p r=>
  rw[hw] at h
  dsimp only at h⊢
  cases lost with
  |true=>rw[if_pos rfl];exact bal_same (x:=gone b i) I k rfl rfl rfl rfl
  |false=>
   rw[if_neg (by simp)] at h⊢
   have hp:=I.sent.ways i p (by rw[hw];exact List.mem_cons_self)
   unfold arriveAt at h⊢
   by_cases h2:0≤p.seen
   ·rw[if_pos h2] at h⊢
    split at h
    ·rename_i h3;exact absurd h h3
    rename_i h3
    rw[if_neg h3]
    obtain ⟨-,-,-,hb⟩:=backS_zero (Decidable.not_not.1 h3)
    have hn:p.seen≤b.seen (!i):=by
     rcases hp with ⟨g1,-⟩|⟨-,g2⟩
     ·omega
     ·exact g2
    show b.due.getD k 0-sumOn (captBy k) b.auths+sumOn (pendBy b.auths k (b.seen true)) (upd b.snd i (Po.backS (b.snd i) p.seen).1 false).kept=bal k b
    unfold bal
    cases i with
    |true=>
     have :upd b.snd true (Po.backS (b.snd true) p.seen).1 false=b.snd false:=upd_other b.snd true _
     rw[this]
    |false=>
     rw[upd_same,hb]
     show _+sumOn _ (Po.those p.seen (b.snd false).kept)=_
     have hn2:p.seen≤b.seen true:=hn
     rw[pend_those _ _ hn2]
   ·rw[if_neg h2] at h⊢
    by_cases h3:p.t.n≠b.seen i+1∨1000000≤b.seen i
    ·rw[if_pos h3];exact bal_same I k rfl rfl rfl rfl
    ·rw[if_neg h3] at h⊢
     refine comes_bal I k ?_ (by omega) h
     rcases hp with ⟨-,g1|g1⟩|⟨g1,-⟩
     ·omega
     ·exact g1
     ·omega
def captD (k n:Int):Int:=if k=2∨k=3 then n else if k=5∨k=7 then-n else 0
theorem step_capt {a:Au.Au} {k n:Int}(h1:1≤k) (h2:k≤8):(Au.step a k n).cap-(Au.step a k n).ref=a.cap-a.ref+captD k n:=by
 unfold captD
 rcases eight h1 h2 with rfl|rfl|rfl|rfl|rfl|rfl|rfl|rfl<;>simp[Au.step]<;>omega
def pendD (k n:Int):Int:=if k=2∨k=3 then n else if k=7 then-n else 0
theorem put_pend {b:Bank}(S:Sent b) (l:List Au.Au) (k:Nat){t:Po.Tr}(h:(Po.putS (b.snd false) t).2=0):
  sumOn (pendBy l k (b.seen true)) (Po.putS (b.snd false) t).1.kept=sumOn (pendBy l k (b.seen true)) (b.snd false).kept+brings l k t:=by
 obtain ⟨p1,-⟩:=put_zero h
 rw[p1]
 show sumOn _ ((b.snd false).kept++[Po.nextT (b.snd false) t])=_
 rw[sumOn_append,sumOn_one]
 have hc:b.seen true<(Po.nextT (b.snd false) t).n:=by
  have:= S.seen1 true
  show _<(b.snd false).sent+1
  simp only[Bool.not_true] at this;omega
 have: pendBy l k (b.seen true) (Po.nextT (b.snd false) t)=brings l k t:=by unfold pendBy;rw[if_pos hc];rfl
 rw[this]
theorem send_pend {b:Bank}(S:Sent b) (l:List Au.Au) (k:Nat){kind auth n:Int}(h:(sendBy b.snd kind auth n).2=0):
  sumOn (pendBy l k (b.seen true)) ((sendBy b.snd kind auth n).1 false).kept=sumOn (pendBy l k (b.seen true)) (b.snd false).kept+(if shopA l auth=(k :Int) then pendD kind n else 0):=by
 unfold sendBy at h⊢
 unfold pendD
 by_cases k1:kind=2∨kind=3
 ·rw[if_pos k1] at h⊢
  dsimp only
  rw[upd_same,put_pend S l k h,if_pos k1]
  unfold brings;dsimp only;simp
 rw[if_neg k1] at h⊢
 by_cases k2:kind=5
 ·rw[if_pos k2] at h⊢
  dsimp only
  have: upd b.snd true (Po.putS (b.snd true) ⟨0,2,auth,n⟩).1 false=b.snd false:=upd_other b.snd true _
  rw[this,if_neg k1,if_neg (show ¬kind=7 by omega)];simp
 rw[if_neg k2] at h⊢
 by_cases k3:kind=7
 ·rw[if_pos k3] at h⊢
  dsimp only
  rw[upd_same,put_pend S l k h,if_neg k1,if_pos k3]
  unfold brings;dsimp only;simp
 rw[if_neg k3] at h⊢
 rw[if_neg k1,if_neg k3];simp
theorem move_bal {b:Bank}{d:Dd}(I:Inv b) (k:Nat) (h:(moveD b d).2=0):bal k (moveD b d).1=bal k b:=by
 unfold moveD at h⊢
 split at h
 ·cases h
 rename_i q1
 rw[if_neg q1]
 split at h
 ·cases h
 rename_i q2
 rw[if_neg q2]
 split at h
 ·rename_i q;exact absurd h q
 rename_i q3
 rw[if_neg q3]
 split at h
 ·cases h
 rename_i q4
 rw[if_neg q4]
 split at h
 ·rename_i q;exact absurd h q
 rename_i q5
 rw[if_neg q5]
 split at h
 ·rename_i q;exact absurd h q
 rename_i q6
 rw[if_neg q6]
 split at h
 ·rename_i q;exact absurd h q
 rename_i q7
 rw[if_neg q7]
 split at h
 ·cases h
 rename_i q8
 rw[if_neg q8]
 replace q3:=Au.mvErr_zero.1 (Decidable.not_not.1 q3)
 replace q7:(sendBy b.snd d.mv d.n d.sum).2=0:=Decidable.not_not.1 q7
 have hn:d.n.toNat<b.auths.length:=by omega
 obtain ⟨r1,-,-,r4⟩:=I.held.auth (k:=d.n) (by omega) (by omega)
 have hs0:0≤(b.auth d.n).shop:=r1.2.2.2.2.2.1.1
 have hsi:(b.auth d.n).shop.toNat<b.due.length:=by omega
 have k1:=q3.2.2.1
 have k2:=q3.2.2.2.1
 have hst:Stays b (moveAll b d):=stays_set hn rfl
 have hpx:sumOn (pendBy (moveAll b d).auths k (b.seen true)) ((sendBy b.snd d.mv d.n d.sum).1 false).kept=sumOn (pendBy b.auths k (b.seen true)) ((sendBy b.snd d.mv d.n d.sum).1 false).kept:=by
  obtain ⟨w0,-⟩:=send_zero (x:=moveAll b d) I.sent q7 (by omega) rfl rfl rfl (by simp[moveAll])
  refine pend_stays hst k _ fun t ht=>?_
  have h1:=(right_mem (w0.right false) ht).2.1
  unfold Po.far at h1
  have h2:=w0.auths false t ht
  have h3:(moveAll b d).auths.length=b.auths.length:=by simp[moveAll]
  exact ⟨by omega,by omega⟩
 have hcap:sumOn (captBy k) (b.auths.set d.n.toNat (aft b d))=sumOn (captBy k) b.auths+(if (b.auth d.n).shop=(k :Int) then captD d.mv d.sum else 0):=by
  rw[sumOn_set _ _ _ _ zA hn]
  have e1:(aft b d).shop=(b.auth d.n).shop:=step_shop _ _ _
  have e2:(aft b d).cap-(aft b d).ref=(b.auth d.n).cap-(b.auth d.n).ref+captD d.mv d.sum:=step_capt k1 k2
  have e3:captBy k (b.auths.getD d.n.toNat zA)=captBy k (b.auth d.n):=rfl
  rw[e3]
  unfold captBy
  rw[e1,e2]
  split<;>omega
 show (b.due.set (b.auth d.n).shop.toNat _).getD k 0-sumOn (captBy k) (b.auths.set d.n.toNat (aft b d))+sumOn (pendBy (moveAll b d).auths k (b.seen true)) ((sendBy b.snd d.mv d.n d.sum).1 false).kept=bal k b
 rw[hpx,send_pend I.sent b.auths k q7,hcap,getD_set _ _ _ _ _ hsi]
 have hsh:shopA b.auths d.n=(b.auth d.n).shop:=rfl
 rw[hsh]
 unfold bal
 by_cases e:(b.auth d.n).shop.toNat=k
 ·rw[if_pos e,if_pos (by omega),if_pos (by omega)]
  have: b.dueOf (b.auth d.n).shop=b.due.getD k 0:=by unfold Bank.dueOf;rw[e]
  rw[this]
  have hz:dueBy d.mv d.sum-captD d.mv d.sum+pendD d.mv d.sum=0:=by
   unfold dueBy captD pendD
   generalize d.mv=mv at*
   rcases eight k1 k2 with rfl|rfl|rfl|rfl|rfl|rfl|rfl|rfl<;>simp<;>omega
  omega
 ·rw[if_neg e,if_neg (by omega),if_neg (by omega)];omega
def paysOut (b:Bank) (d:Dd) (k:Nat):Int:=if d.kind=11∧(doB b d).2.1=0∧d.n=(k:Int) then b.dueOf d.n else 0
theorem do_bal{b:Bank}{d:Dd}(I:Inv b) (k:Nat):bal k (doB b d).1=bal k b-paysOut b d k:=by
 by_cases h:(doB b d).2.1=0
 case neg=>rw[doB_refused b d h];unfold paysOut;rw[if_neg (fun hp=>h hp.2.1)];omega
 have hother:d.kind≠11→bal k (doB b d).1=bal k b→bal k (doB b d).1=bal k b-paysOut b d k:=fun h1 h2=>by
  rw[h2];unfold paysOut;rw[if_neg (fun hp=>h1 hp.1)];omega
 by_cases k11:d.kind=11
 ·have e:doB b d=two (payB b d):=by
   unfold doB
   rw[if_neg (by omega),if_neg (by omega),if_neg (by omega),if_neg (by omega),if_neg (by omega),if_neg (by omega),if_neg (by omega),if_neg (by omega),if_neg (by omega),if_neg (by omega),if_pos k11]
  unfold paysOut
  rw[e] at h⊢
  rw[show bal k (two (payB b d)).1=bal k (payB b d).1 from rfl,pay_bal k h]
  by_cases hk:d.n=(k:Int)
  ·rw[if_pos hk,if_pos ⟨k11,h,hk⟩]
  ·rw[if_neg hk,if_neg (fun hp=>hk hp.2.2)]
 refine hother k11 ?_
 unfold doB at h⊢
 split at h
 ·rename_i e;rw[if_pos e];exact load_bal I k
 rename_i e;rw[if_neg e]
 split at h
 ·rename_i e;rw[if_pos e];exact ask_bal I k
 rename_i e;rw[if_neg e]
 split at h
 ·rename_i e;rw[if_pos e];exact move_bal I k h
 rename_i e;rw[if_neg e]
 split at h
 ·rename_i e;rw[if_pos e];exact tick_bal I k h
 rename_i e;rw[if_neg e]
 split at h
 ·rename_i e;rw[if_pos e]
  unfold two sendB
  repeat' split
  all_goals exact bal_same I k rfl rfl rfl rfl
 rename_i e;rw[if_neg e]
 split at h
 ·rename_i e;rw[if_pos e];exact arrive_bal I k h
 rename_i e;rw[if_neg e]
 split at h
 ·rename_i e;rw[if_pos e];exact arrive_bal I k h
 rename_i e;rw[if_neg e]
 split at h
 ·rename_i e;rw[if_pos e]
  unfold two downB
  repeat' split
  all_goals exact bal_same I k rfl rfl rfl rfl
 rename_i e;rw[if_neg e]
 split at h
 ·rename_i e;rw[if_pos e];exact up_bal I k
 rename_i e;rw[if_neg e]
 split at h
 ·rename_i e;rw[if_pos e];exact bal_same I k rfl rfl rfl rfl
 rename_i e;rw[if_neg e,if_neg k11]
def isNew (s:Bank×List (Dd×An)) (d:Dd):Bool:=(if d.id=0 then none else told d.id s.2).isNone
def paid1 (s:Bank×List (Dd ×An)) (d:Dd) (k:Nat):Int:=if isNew s d=true then paysOut s.1 d k else 0
def paidTo (b:Bank) (l:List Dd) (k:Nat):Nat→Int
 |0=>0
 |i+1=>paidTo b l k i+paid1 (playL b (l.take i)) (l.getD i zD) k
theorem play1_bal {s:Bank×List (Dd ×An)}(I:Inv s.1) (d:Dd) (k:Nat):bal k (play1 s d).1=bal k s.1-paid1 s d k:=by
 unfold play1 paid1 isNew
 split
 ·rename_i a e;rw[e];simp
 ·rename_i e;rw[e,Option.isNone_none,if_pos rfl];exact do_bal I k
theorem play_bal {b:Bank} (I:Inv b) (l:List Dd) (k:Nat):∀i,i≤l.length→bal k (playL b (l.take i)).1=bal k b-paidTo b l k i
 |0,_=>by show bal k b=bal k b-0;omega
 |i+1,hi=>by
  rw[take_snoc l (by omega),playL_snoc,play1_bal (play_inv I _),play_bal I l k i (by omega)]
  show _=bal k b-(paidTo b l k i+_)
  omega
theorem start_bal (paces:List Pa) (shops:Nat) (cap:Int) (k:Nat):bal k (startB paces shops cap)=0:=by
 show (List.replicate shops (0 :Int)).getD k 0-0+0=0
 by_cases h:k<shops
 ·simp[List.getD,h]
 ·simp[List.getD,h]
theorem due_end {b:Bank}(k:Nat) (h:(b.snd false).kept=[]):b.due.getD k 0=sumOn (captBy k) b.auths+bal k b:=by
 unfold bal
 rw[h]
 show _=_+(_ -_+0)
 omega
def spentBy (k:Nat) (a:Au.Au):Int:=if a.card=(k:Int) then a.cap-a.ref-a.dis else 0
def cardA (l:List Au.Au) (n:Int):Int:=(l.getD n.toNat zA).card
def gives (l:List Au.Au) (k:Nat) (t:Po.Tr):Int:=if cardA l t.a=(k :Int) then t.s else 0
def pendC (l:List Au.Au) (k:Nat) (came:Int) (t:Po.Tr):Int:=if came<t.n then gives l k t else 0
def cbal (k:Nat) (b:Bank):Int:=(b.cards.getD k zeroC).m+sumOn (spentBy k) b.auths+sumOn (pendC b.auths k (b.seen false)) (b.snd true).kept
open Go.RowKit Go.Proofs.YtofcnebekmjdoaaGreatDoor.Gn
theorem Hand.same {w:World}{g base:Nat}{lab:Lab}{b:Bank}{v:Vs}{cs:List CV}{ds:List DV}{tm:Value}(H:Hand w g base lab b v cs ds tm):Goes w g base lab b tm:=H.goes
open Go.RowKit Go.Proofs.YtofcnebekmjdoaaGreatDoor.Gn
variable {α : Type}
theorem Shown.below {w w':World} {b:Bank} {v:Vs} {cs:List CV} {ds:List DV}(h:Shows w b v cs ds) (hb:Below w.heap.size w w'):Shows w' b v cs ds:=
 h.go hb.size (fun _ _=>rfl) fun k hk _=>hb.block k hk
open Go.ChangeShapes Go.WideShapes Go.ChangeAt Go.RowKit Go.Proofs.YtofcnebekmjdoaaGreatDoor.Gn
theorem cellsPace:Tryz.prog.cellsOf 58=3:=by kernel_rfl
theorem cellsDo:Tryz.prog.cellsOf 74=6:=by kernel_rfl
theorem cellsSetup:Tryz.prog.cellsOf 24=3:=by kernel_rfl
theorem cellsPaces:Tryz.prog.cellsOf 22=1:=by kernel_rfl
theorem six {l:List Value} (h:l.length=6):∃a b c d e f,l=[a,b,c,d,e,f]:=by
 match l,h with
 |[a,b,c,d,e,f],_=>exact ⟨a,b,c,d,e,f,rfl⟩
theorem open_pa {H:Type}{enc:TypeId×Value→H}{W:World}{base:Nat}{spare:Nat→Bool}{held:Bool}(n:Nat) (cs:List Value) (x:DataW H×List MemPlace)
  (h:DataW.trod enc Tryz.prog W base spare held n 58 cs=some x):∃p:Pa,cs=kPa.cells p∧True:=by
 obtain ⟨xs,m,-,-,hcl,hlen,hF⟩:=DataW.trod_struct Tryz.underlying58 h
 rw[cellsPace] at hcl
 obtain ⟨c0,c1,c2,rfl⟩:=three hcl
 have hlen':xs.length=3:=hlen
 have g0:=hF 0 _ rfl
 have g1:=hF 1 _ rfl
 have g2:=hF 2 _ rfl
 obtain ⟨x0,rfl,-⟩:=field_int (v:=c0) g0 hlen' (by omega)
 obtain ⟨x1,rfl,-⟩:=field_int (v:=c1) g1 hlen' (by omega)
 obtain ⟨x2,rfl,-⟩:=field_int (v:=c2) g2 hlen' (by omega)
 exact ⟨⟨x0,x1,x2⟩,rfl,trivial⟩
theorem open_do{H:Type}{enc:TypeId×Value→H}{W:World}{base:Nat}{spare:Nat→Bool}{held:Bool}(n:Nat) (cs:List Value) (x:DataW H×List MemPlace)
  (h:DataW.trod enc Tryz.prog W base spare held n 74 cs=some x):∃d:Dd,cs=kDd.cells d∧FitD d:=by
 obtain ⟨xs,m,-,-,hcl,hlen,hF⟩:=DataW.trod_struct Tryz.underlying74 h
 rw[cellsDo] at hcl
 obtain ⟨c0,c1,c2,c3,c4,c5,rfl⟩:=six hcl
 have hlen':xs.length=6:=hlen
 have g0:=hF 0 _ rfl
 have g1:=hF 1 _ rfl
 have g2:=hF 2 _ rfl
 have g3:=hF 3 _ rfl
 have g4:=hF 4 _ rfl
 have g5:=hF 5 _ rfl
 obtain ⟨x0,rfl,hx⟩:=field_int (v:=c0) g0 hlen' (by omega)
 obtain ⟨x1,rfl,-⟩:=field_int (v:=c1) g1 hlen' (by omega)
 obtain ⟨x2,rfl,-⟩:=field_int (v:=c2) g2 hlen' (by omega)
 obtain ⟨x3,rfl,-⟩:=field_int (v:=c3) g3 hlen' (by omega)
 obtain ⟨x4,rfl,-⟩:=field_int (v:=c4) g4 hlen' (by omega)
 obtain ⟨x5,rfl,-⟩:=field_int (v:=c5) g5 hlen' (by omega)
 exact ⟨⟨x0,x1,x2,x3,x4,x5⟩,rfl,hx⟩
theorem open_dos {H:Type}{enc:TypeId×Value→H}{W:World}{base:Nat}{spare:Nat→Bool}{held:Bool}{a:Option Addr}{len cap:Nat}{d:DataW H}{p:List MemPlace}
  (h:DataW.Trod enc Tryz.prog W base spare held 25 (.slice a len cap) d p):∃l:List Dd,len=l.length∧Gn.Lies kDd W a cap l∧∀d∈l,FitD d:=by
 obtain ⟨fuel,hf⟩:=h
 obtain ⟨L,h1,h2,h3,-⟩:=open_list (⟨0,0,0,0,0,0⟩:Dd) kDd FitD Tryz.underlying25 cellsDo open_do hf
 exact ⟨L,h1,h2,h3⟩
theorem open_setup {H:Type}{enc:TypeId×Value→H}{W:World}{base b0:Nat}{r:Reach}{spare:Nat→Bool}{held:Bool}{v:Value}{d:DataW H}{p:List MemPlace}
  (hv:Value.okWide Tryz.prog W r b0 24 v) (h:DataW.Trod enc Tryz.prog W base spare held 24 v d p):∃(ps:List Pa) (a:Option Addr) (cap:Nat) (shops c:Int),v=suv (.slice a ps.length cap) shops c∧Gn.Lies kPa W a cap ps:=by
 obtain ⟨cs,rfl,hsz⟩:=okWide_struct Tryz.underlying24 hv
 obtain ⟨c0,c1,c2,rfl⟩:∃c0 c1 c2,cs=#[c0,c1,c2]:=by
  obtain ⟨l⟩:=cs
  obtain ⟨c0,c1,c2,rfl⟩:=three (l:=l) (hsz.trans cellsSetup)
  exact ⟨c0,c1,c2,rfl⟩
 obtain ⟨fuel,hf⟩:=h
 obtain ⟨xs,n,-,-,-,hlen,hF⟩:=DataW.trod_struct Tryz.underlying24 hf
 have hlen':xs.length=3:=hlen
 have g0:DataW.trod enc Tryz.prog W base spare held n 22 (List.take (Tryz.prog.cellsOf 22) (List.drop 0 [c0,c1,c2]))=xs[0]?:=hF 0 _ rfl
 have g1:=hF 1 _ rfl
 have g2:=hF 2 _ rfl
 simp only[Value.cells] at g1 g2
 rw[cellsPaces] at g0
 have g0:DataW.trod enc Tryz.prog W base spare held n 22 [c0]=xs[0]?:=g0
 obtain ⟨x1,rfl,-⟩:=field_int (v:=c1) g1 hlen' (by omega)
 obtain ⟨x2,rfl,-⟩:=field_int (v:=c2) g2 hlen' (by omega)
 obtain ⟨y1,hy1⟩:=at_some hlen' (show 0<3 by omega)
 have e1:=g0.trans hy1
 have hs:∃a len cap,c0=.slice a len cap:=by
  rcases Go.Deep.open_slice Tryz.underlying22 e1 with ⟨hcs,-⟩|⟨ad,l,c,m,n,D,Pl,hcs,-⟩
  ·exact ⟨none,0,0,by simpa using hcs⟩
  ·exact ⟨some ad,l,c,by simpa using hcs⟩
 obtain ⟨a,len,cap,rfl⟩:=hs
 obtain ⟨L,rfl,hL,-,-⟩:=open_list (⟨0,0,0⟩:Pa) kPa (fun _=>True) Tryz.underlying22 cellsPace open_pa e1
 exact ⟨L,a,cap,x1,x2,rfl,hL⟩
open Go.RowKit Go.Proofs.YtofcnebekmjdoaaGreatDoor.Gn Go.Maps
def psA:List Pa:=[⟨10,5,1000⟩]
def ddA:List Dd:=[⟨0,1,0,0,0,100⟩,⟨0,2,0,0,0,60⟩,⟨0,3,0,0,2,40⟩,⟨0,5,0,0,0,0⟩,⟨0,6,1,0,0,0⟩]
theorem setup_any (w:World):Calls Tryz.prog 54 #[] w fun e w'=>∃a c,e=.returned (suv (.slice a 1 c) 1 30)∧Gn.Lies kPa w' a c psA∧Below w.heap.size w w':=by
 go_enter Tryz.func54,Tryz.ntmps54
 go_wp2_with fail
 have e1:=below_alloc w (.cells #[.slice (some ⟨w.heap.size+1,0,none⟩) 1 1,.int .i64 1,.int .i64 30] 24)
 have e2:=below_alloc (w.alloc (.cells #[.slice (some ⟨w.heap.size+1,0,none⟩) 1 1,.int .i64 1,.int .i64 30] 24)) (.cells #[.int .i64 10,.int .i64 5,.int .i64 1000] 58)
 have hp:Gn.Lies kPa ((w.alloc (.cells #[.slice (some ⟨w.heap.size+1,0,none⟩) 1 1,.int .i64 1,.int .i64 30] 24)).alloc (.cells #[.int .i64 10,.int .i64 5,.int .i64 1000] 58)) (some ⟨w.heap.size+1,0,none⟩) 1 psA:=lies_one (K:=kPa) (x:=⟨10,5,1000⟩) (cs:=#[.int .i64 10,.int .i64 5,.int .i64 1000]) (heap_alloc_at _ _ _ (by simp)) rfl _
 have hs:((w.alloc (.cells #[.slice (some ⟨w.heap.size+1,0,none⟩) 1 1,.int .i64 1,.int .i64 30] 24)).alloc (.cells #[.int .i64 10,.int .i64 5,.int .i64 1000] 58)).heap[w.heap.size]?=some (suo (.slice (some ⟨w.heap.size+1,0,none⟩) 1 1) 1 30):=(e2.block _ (by simp)).trans (heap_alloc_at _ _ _ rfl)
 have hb:=e1.trans (e2.mono (by simp))
 obtain ⟨s0,s1,s2⟩:=sul_cells hs
 generalize (w.alloc (.cells #[.slice (some ⟨w.heap.size+1,0,none⟩) 1 1,.int .i64 1,.int .i64 30] 24)).alloc (.cells #[.int .i64 10,.int .i64 5,.int .i64 1000] 58)=X at*
 exact bodyPost_ret (v:=suv (.slice (some ⟨w.heap.size+1,0,none⟩) 1 1) 1 30) (by unfold suv;simp[results,Tryz.results54,go_sem,s0,s1,s2];try rfl) rfl ⟨_,_,rfl,hp,hb⟩
theorem lies_blk {α:Type}{K:Kind α}{w:World}{b:Nat}{L:List α}{t:TypeId}{cs:Array Value} (h:w.heap[b]?=some (.cells cs t)) (hc:cs.toList=K.flat L) (hl:L.length≤maxLen) (c:Nat):Gn.Lies K w (some ⟨b,0,none⟩) c L:=by
 refine ⟨hl,(fun h=>by cases h),Or.inr ⟨b,0,rfl,lt_of_block h,fun j u hj=>?_⟩⟩
 rw [←hc] at hj
 rw [Nat.zero_add,cell_of_row w b j cs t _ h]
 simpa using hj
theorem got_box (w:World) (zs:Array Value) (hz:zs.size=19) (b:Bank) (v:Vs) (f:Int×Int):
  ((w.alloc (.cells zs 43)).alloc (.cells #[.int .i64 0,.int .i64 0] 47)).there w.heap.size 0 (cellsK b v).size∧
  (((w.alloc (.cells zs 43)).alloc (.cells #[.int .i64 0,.int .i64 0] 47)).setCells w.heap.size 0 (cellsK b v).toList).heap[w.heap.size+1]?=some (fo (0,0))∧
  (((((w.alloc (.cells zs 43)).alloc (.cells #[.int .i64 0,.int .i64 0] 47)).setCells w.heap.size 0 (cellsK b v).toList).setCell ⟨w.heap.size+1,0,none⟩ (.int .i64 f.1)).setCell ⟨w.heap.size+1,1,none⟩ (.int .i64 f.2)).heap[w.heap.size]?=some (bko b v)∧
  (((((w.alloc (.cells zs 43)).alloc (.cells #[.int .i64 0,.int .i64 0] 47)).setCells w.heap.size 0 (cellsK b v).toList).setCell ⟨w.heap.size+1,0,none⟩ (.int .i64 f.1)).setCell ⟨w.heap.size+1,1,none⟩ (.int .i64 f.2)).heap[w.heap.size+1]?=some (fo f)∧
  Below w.heap.size w (((((w.alloc (.cells zs 43)).alloc (.cells #[.int .i64 0,.int .i64 0] 47)).setCells w.heap.size 0 (cellsK b v).toList).setCell ⟨w.heap.size+1,0,none⟩ (.int .i64 f.1)).setCell ⟨w.heap.size+1,1,none⟩ (.int .i64 f.2)):=by
 have e1:=below_alloc w (.cells zs 43)
 have e2:=below_alloc (w.alloc (.cells zs 43)) (.cells #[.int .i64 0,.int .i64 0] 47)
 have h0:((w.alloc (.cells zs 43)).alloc (.cells #[.int .i64 0,.int .i64 0] 47)).heap[w.heap.size]?=some (.cells zs 43):=(e2.block _ (by simp)).trans (heap_alloc_at _ _ _ rfl)
 have h1:((w.alloc (.cells zs 43)).alloc (.cells #[.int .i64 0,.int .i64 0] 47)).heap[w.heap.size+1]?=some (fo (0,0)):=heap_alloc_at _ _ _ (by simp)
 have hb:=e1.trans (e2.mono (by simp))
 refine ⟨there_blk h0 (by rw[hz];exact Nat.le_refl 19),?_⟩
 rw[putAll_cells]
 have g0:(putAll ((w.alloc (.cells zs 43)).alloc (.cells #[.int .i64 0,.int .i64 0] 47)) w.heap.size 0 (cellsK b v).toList).heap[w.heap.size]?=some (bko b v):=by
  have:= putAll_same (cellsK b v).toList ((w.alloc (.cells zs 43)).alloc (.cells #[.int .i64 0,.int .i64 0] 47)) w.heap.size [] zs.toList [] 43 (by simp[hz];rfl) (by rw[h0];simp)
  refine Eq.trans this ?_
  unfold bko
  simp
 have g1:=(putAll_other ((w.alloc (.cells zs 43)).alloc (.cells #[.int .i64 0,.int .i64 0] 47)) w.heap.size 0 (w.heap.size+1) (cellsK b v).toList (by omega)).trans h1
 have hbY:=below_putAll hb w.heap.size 0 (cellsK b v).toList (Nat.le_refl _)
 generalize putAll ((w.alloc (.cells zs 43)).alloc (.cells #[.int .i64 0,.int .i64 0] 47)) w.heap.size 0 (cellsK b v).toList=Y at*
 exact ⟨g1,(heap_setCell_other _ _ _ _ (by simp)).trans ((heap_setCell_other _ _ _ _ (by simp)).trans g0),fo_put g1,(hbY.setCell (p:=⟨w.heap.size+1,0,none⟩) (by simp) _).setCell (p:=⟨w.heap.size+1,1,none⟩) (by simp) _⟩
theorem alive_plain:(playR psA 1 30 ddA).2.2=(0,0)∧(playR psA 1 30 ddA).2.1=[(0,0),(0,0),(0,0),(0,0),(0,0)]∧(playR psA 1 30 ddA).1.due=[40]∧(playR psA 1 30 ddA).1.cards.map (fun c=>(c.m,c.h))=[(60,20)]:=⟨by kernel_rfl,by kernel_rfl,by kernel_rfl,by kernel_rfl⟩
theorem alive_facts{w w':World}{v:Vs}{cs:List CV}{ds:List DV}{va:Value}(SH:Shows w (playR psA 1 30 ddA).1 v cs ds) (AP:Ap kAn (fun _=>0) w va (playR psA 1 30 ddA).2.1 0) (hb:Below w.heap.size w w'):
  ∃z1 o1 c1 z2 o2 c2 z3 o3 c3,va=.slice (some ⟨z1,o1,none⟩) 5 c1∧w'.cell? ⟨z1,o1+8,none⟩=some (.int .i64 0)∧v.d=.slice (some ⟨z2,o2,none⟩) 1 c2∧w'.cell? ⟨z2,o2,none⟩=some (.int .i64 40)∧v.c=.slice (some ⟨z3,o3,none⟩) 1 c3∧w'.cell? ⟨z3,o3,none⟩=some (.int .i64 60)∧w'.cell? ⟨z3,o3+1,none⟩=some (.int .i64 20):=by
 obtain ⟨-,p2,p3,p4⟩:=alive_plain
 rw[p2] at AP
 have SH':=SH.below hb
 have hd:=SH'.due
 have hc:=SH'.cards
 have hcs:=SH'.csv
 rw[p3] at hd
 have hcm:cs.map (fun x=>(x.c.m,x.c.h))=[(60,20)]:=by rw[←p4,←hcs,List.map_map];rfl
 obtain ⟨x,rfl⟩:∃x,cs=[x]:=by
  cases cs with
  |nil=>simp at hcm
  |cons x r=>cases r with
   |nil=>exact ⟨x,rfl⟩
   |cons y r=>simp at hcm
 simp at hcm
 obtain ⟨a1,c1,h1,l1⟩:=AP.lies
 obtain ⟨a2,c2,h2,l2⟩:=hd.lies
 obtain ⟨a3,c3,h3,l3⟩:=hc.lies
 obtain ⟨z1,o1,rfl,-,f1⟩:=(l1.below hb).elem (i:=4) (x:=(0,0)) rfl
 obtain ⟨z2,o2,rfl,-,f2⟩:=l2.elem (i:=0) (x:=40) rfl
 obtain ⟨z3,o3,rfl,-,f3⟩:=l3.elem (i:=0) (x:=x) rfl
 refine ⟨z1,o1,c1,z2,o2,c2,z3,o3,c3,h1,f1 0 _ rfl,h2,by simpa using f2 0 _ rfl,h3,?_,?_⟩
 ·have:= f3 0 _ rfl
  simpa[hcm.1] using this
 ·have:= f3 1 _ rfl
  simpa[hcm.2] using this
theorem alive_any (w:World) (O:Oth w):Calls Tryz.prog 23 #[] w fun e w'=>e=.returned (.bool true)∧Below w.heap.size w w':=by
 have hS:=setup_any w
 have hP:=fun (W :World) (a:Option Addr) (c:Nat) (al :Option Addr) (h:Gn.Lies kPa W a c psA) (hd :Gn.Lies kDd W al 5 ddA) (hO :Oth W)=>play_any psA a c 1 30 al 5 ddA W h hd (by intro d hd;simp[ddA] at hd;rcases hd with rfl|rfl|rfl|rfl|rfl<;>exact ⟨by decide,by decide⟩) hO
 have hF:=fun (W W':World) (v :Vs) (cs:List CV) (ds:List DV) (va :Value) (SH:Shows W (playR psA 1 30 ddA).1 v cs ds) (AP :Ap kAn (fun _=>0) W va (playR psA 1 30 ddA).2.1 0) (hb :Below W.heap.size W W')=>alive_facts SH AP hb
 have hf:=alive_plain.1
 generalize playR psA 1 30 ddA=r at*
 have hl1:psA.length=1:=rfl
 have hl2:ddA.length=5:=rfl
 rw[hl1,hl2] at hP
 unfold suv at hS hP
 unfold Plays at hP
 rw[hf] at hP
 clear hf hl1 hl2
 obtain ⟨b,A,f⟩:=r
 dsimp only at hP hF
 simp only[bkv_cells] at hP
 unfold Dy.fv at hP
 go_enter Tryz.func23,Tryz.ntmps23
 go_upto_region 1 with fail
 go_upto_region 2 with fail
 refine hS.mono ?_
 rintro _ w1 ⟨a,c,rfl,hl,hb1⟩
 have e1:=below_alloc w1 (.cells #[.int .i64 0,.int .i64 1,.int .i64 0,.int .i64 0,.int .i64 0,.int .i64 100,.int .i64 0,.int .i64 2,.int .i64 0,.int .i64 0,.int .i64 0,.int .i64 60,.int .i64 0,.int .i64 3,.int .i64 0,.int .i64 0,.int .i64 2,.int .i64 40,.int .i64 0,.int .i64 5,.int .i64 0,.int .i64 0,.int .i64 0,.int .i64 0,.int .i64 0,.int .i64 6,.int .i64 1,.int .i64 0,.int .i64 0,.int .i64 0] 74)
 have hd1:Gn.Lies kDd (w1.alloc (.cells #[.int .i64 0,.int .i64 1,.int .i64 0,.int .i64 0,.int .i64 0,.int .i64 100,.int .i64 0,.int .i64 2,.int .i64 0,.int .i64 0,.int .i64 0,.int .i64 60,.int .i64 0,.int .i64 3,.int .i64 0,.int .i64 0,.int .i64 2,.int .i64 40,.int .i64 0,.int .i64 5,.int .i64 0,.int .i64 0,.int .i64 0,.int .i64 0,.int .i64 0,.int .i64 6,.int .i64 1,.int .i64 0,.int .i64 0,.int .i64 0] 74)) (some ⟨w1.heap.size,0,none⟩) 5 ddA:=lies_blk (K:=kDd) (L:=ddA) (heap_alloc_at _ _ _ rfl) (by kernel_rfl) (by simp[ddA,maxLen]) _
 have hP1:=hP _ _ _ _ (hl.below e1) hd1 (O.keep ((e1.block 0 (Nat.lt_of_lt_of_le O.lt hb1.size)).trans (hb1.block 0 O.lt)))
 have hb2:Below w.heap.size w (w1.alloc (.cells #[.int .i64 0,.int .i64 1,.int .i64 0,.int .i64 0,.int .i64 0,.int .i64 100,.int .i64 0,.int .i64 2,.int .i64 0,.int .i64 0,.int .i64 0,.int .i64 60,.int .i64 0,.int .i64 3,.int .i64 0,.int .i64 0,.int .i64 2,.int .i64 40,.int .i64 0,.int .i64 5,.int .i64 0,.int .i64 0,.int .i64 0,.int .i64 0,.int .i64 0,.int .i64 6,.int .i64 1,.int .i64 0,.int .i64 0,.int .i64 0] 74)):=hb1.trans (e1.mono hb1.size)
 clear hP hS hl hd1 e1
 go_upto_region 2 with (first
  | (go_at_call 18;refine hP1.mono ?_;rintro _ w2 ⟨v,cs,ds,va,rfl,SH,AP,hb3⟩;obtain ⟨G1,G2,G3,G4,G5⟩:=got_box w2 #[.int .i64 0,.bool false,.slice none 0 0,.slice none 0 0,.slice none 0 0,.int .i64 0,.slice none 0 0,.int .i64 0,.slice none 0 0,.int .i64 0,.int .i64 0,.slice none 0 0,.slice none 0 0,.int .i64 0,.slice none 0 0,.slice none 0 0,.slice none 0 0,.slice none 0 0,.slice none 0 0] rfl b v (0,0);have hF1:=hF _ _ _ _ _ _ SH AP G5;replace G3:=bko_cells G3;obtain ⟨t0,t1,t2,t3⟩:=fo_cells G2;obtain ⟨y0,y1,y2,y3⟩:=fo_cells G4;have hone:=hid SH.one;have hinf:Hid ((Tryz.prog.info? 43).map (·.size)=some (cellsK b v).size):=hid infoK;have hb4:Below w.heap.size w _:=(hb2.trans (hb3.mono hb2.size)).trans (G5.mono ((hb2.trans (hb3.mono hb2.size)).size));dsimp only at t0 t1 y0 y1 G3 hb4 hF1;clear G4 G5 SH AP G2 hP1 hF;generalize cellsK b v=cc at*)
  | (refine wpList_store_mid rfl 43 _ _ rfl w2.heap.size 0 cc rfl rfl G1 hinf.out hone.out ?_))
 generalize ((((w2.alloc (.cells #[.int .i64 0,.bool false,.slice none 0 0,.slice none 0 0,.slice none 0 0,.int .i64 0,.slice none 0 0,.int .i64 0,.slice none 0 0,.int .i64 0,.int .i64 0,.slice none 0 0,.slice none 0 0,.int .i64 0,.slice none 0 0,.slice none 0 0,.slice none 0 0,.slice none 0 0,.slice none 0 0] 43)).alloc (.cells #[.int .i64 0,.int .i64 0] 47)).setCells w2.heap.size 0 cc.toList).setCell ⟨w2.heap.size+1,0,none⟩ (.int .i64 0)).setCell ⟨w2.heap.size+1,1,none⟩ (.int .i64 0)=Z at*
 obtain ⟨-,-,c2,c3,-⟩:=G3
 obtain ⟨z1,o1,c1',z2,o2,c2',z3,o3,c3',rfl,f1,hvd,f2,hvc,f3,f4⟩:=hF1
 rw[hvd] at c3
 rw[hvc] at c2
 clear hvd hvc G1 t0 t1 t2 t3 hb3 hb2
 go_wp2_with fail
 exact bodyPost_ret (results_tmp Tryz.results23 _ _ _) rfl ⟨rfl,hb4⟩
end Go.Proofs.YtofcnebekmjdoaaGreatDoor.Bn
