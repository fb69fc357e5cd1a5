import Derived.Test.YtofcnebekmjdoaaGreatDoorKbb
import Derived.Test.YtofcnebekmjdoaaGreatDoorLDrnaa
set_option maxHeartbeats 4000000
set_option maxRecDepth 100000
namespace Go.Proofs.YtofcnebekmjdoaaGreatDoor.Bn
open Go.Proofs.YtofcnebekmjdoaaGreatDoor
theorem comes_ok {K:Nat}{b:Bank}{i:Bool}{t:Po.Tr}(I:Inv b) (B:Bound K b) (hK:K≤900000) (ht:t∈(b.snd (!i)).kept):(comes b i t).2=0∧(comes b i t).1.snd=b.snd∧(comes b i t).1.seen=upd b.seen i (b.seen i+1)∧(comes b i t).1.way=(gone b i).way:=by
 obtain ⟨-,hfar,-,-⟩:=right_mem (I.sent.right (!i)) ht
 unfold Po.far at hfar
 have ha1:=I.sent.auths (!i) t ht
 obtain ⟨r1,-,r3,r4⟩:=I.held.auth (k:=t.a) (by omega) ha1
 have hc0:0≤(b.auth t.a).card:=r1.2.2.2.2.1.1
 have hc1:(b.auth t.a).card<8:=r1.2.2.2.2.1.2
 have hs0:0≤(b.auth t.a).shop:=r1.2.2.2.2.2.1.1
 have hs1:(b.auth t.a).shop<8:=r1.2.2.2.2.2.1.2
 have hfit:∀src dst:Int,1≤src→src<58→1≤dst→dst<58→src≠dst→(moveB b.book src dst t.s).2=0:=fun src dst h1 h2 h3 h4 h5=>by
  have b1:=B src (by omega)
  have b2:=B dst (by omega)
  exact moveB_fits I.books.right ⟨by omega,h2⟩ ⟨by omega,h4⟩ h5 ⟨by omega,by omega⟩ (by omega) (by omega)
 unfold comes
 by_cases k1:t.k=1
 ·rw[if_pos k1,if_neg (by rw[hfit 1 _ (by omega) (by omega) (by omega) (by omega) (by omega)];simp)]
  exact ⟨rfl,rfl,rfl,rfl⟩
 rw[if_neg k1]
 by_cases k2:t.k=2
 ·have hsh:(shiftC (b.card (b.auth t.a).card) 0 t.s).2=0:=by
   have R:=I.held.card hc0 r3
   have hacc:=I.books.accC (b.auth t.a).card.toNat (by omega)
   rw[show (((b.auth t.a).card.toNat:Nat):Int)=(b.auth t.a).card by omega] at hacc
   have b1:=B (10 +(b.auth t.a).card) (by omega)
   rw[hacc] at b1
   have b1:-(1000000 *(K :Int))≤(b.card (b.auth t.a).card).m∧(b.card (b.auth t.a).card).m≤1000000*(K :Int):=b1
   have:= R.h1;have:= R.h2
   rw[shiftC_ok (wrongC_ok.2 R) (by unfold far;omega) (by unfold off;omega)]
  rw[if_pos k2,if_neg (by rw[hsh];simp),if_neg (by rw[hfit 1 _ (by omega) (by omega) (by omega) (by omega) (by omega)];simp)]
  exact ⟨rfl,rfl,rfl,rfl⟩
 rw[if_neg k2]
 by_cases k3:t.k=3
 ·rw[if_pos k3,if_neg (by rw[hfit _ 2 (by omega) (by omega) (by omega) (by omega) (by omega)];simp)]
  exact ⟨rfl,rfl,rfl,rfl⟩
 rw[if_neg k3]
 exact ⟨rfl,rfl,rfl,rfl⟩
end Go.Proofs.YtofcnebekmjdoaaGreatDoor.Bn
namespace Go.Proofs.YtofcnebekmjdoaaGreatDoor
open Go.RowKit
def AnswersC (w:World) (r:Ca×Int) (e:Ending) (w':World):Prop:=
 ∃a cap,e=.returned (.tuple #[cv r.1 a cap,.int .i64 r.2])∧Lies w' a cap r.1.u∧Below w.heap.size w w'
theorem AnswersO.plain {w w':World}{a0:Option Addr}{u0:List (Int ×Int)}{r:Ca×Int}{e:Ending}(h:AnswersO w a0 u0 r e w'):AnswersC w r e w':=by
 obtain ⟨a,cap,h1,h2,-,h4⟩:=h
 exact ⟨a,cap,h1,h2,h4⟩
end Go.Proofs.YtofcnebekmjdoaaGreatDoor
namespace Go.Proofs.YtofcnebekmjdoaaGreatDoor.Bn
open Go.Proofs.YtofcnebekmjdoaaGreatDoor
def num (i:Bool):Int:=if i=true then 1 else 0
theorem side_num (i:Bool):sideOf (num i)=i:=by cases i<;>rfl
theorem num_in (i:Bool):¬(num i<0∨1<num i):=by cases i<;>simp[num]
def loseD (i:Bool):Dd:=⟨0,7,num i,0,0,0⟩
def arrD (i:Bool):Dd:=⟨0,6,num i,0,0,0⟩
def sendD (i:Bool):Dd:=⟨0,5,num i,0,0,0⟩
theorem run_append (b:Bank) (x y:List Dd):run b (x++y)=run (run b x) y:=by unfold run;simp
theorem run_cons (b:Bank) (d:Dd) (y:List Dd):run b (d::y)=run (doB b d).1 y:=rfl
theorem run_inv {b:Bank}(I:Inv b) (ds:List Dd):Inv (run b ds):=by
 induction ds generalizing b with
 |nil=>exact I
 |cons d r ih=>exact ih (do_inv I)
theorem run_bound {K:Nat}{b:Bank} (I:Inv b) (B:Bound K b) (ds:List Dd):Bound (K+ds.length) (run b ds):=by
 induction ds generalizing b K with
 |nil=>exact B
 |cons d r ih=>
  have :=ih (do_inv (d:=d) I) (do_bound (d:=d) I B)
  rw [run_cons,List.length_cons]
  rwa [show K+(r.length +1)=K+1+r.length by omega]
theorem play_run (ds:List Dd):∀s:Bank×List (Dd×An),(∀ d∈ds,d.id=0)→(ds.foldl play1 s).1=run s.1 ds:=by
 induction ds with
 |nil=>intro s _;rfl
 |cons d r ih=>
  intro s h
  have h0:(play1 s d).1=(doB s.1 d).1:=by
   unfold play1
   rw[if_pos (h d List.mem_cons_self)]
  rw[List.foldl_cons,ih _ fun x hx=>h x (List.mem_cons_of_mem _ hx),h0,run_cons]
theorem playL_run (b:Bank) (l ds:List Dd) (h:∀d∈ds,d.id=0):(playL b (l ++ds)).1=run (playL b l).1 ds:=by
 unfold playL
 rw[List.foldl_append]
 exact play_run ds _ h
theorem upd_at {α:Type}(f:Bool→α) (i:Bool){x:α}(h:f i=x):upd f i x=f:=by rw[←h,upd_self]
theorem do_lose (b:Bank) (i:Bool):(doB b (loseD i)).1=gone b i:=by
 have e:doB b (loseD i)=two (arriveB b (loseD i) true):=rfl
 rw[e]
 show (arriveB b (loseD i) true).1=_
 unfold arriveB
 rw[if_neg (show ¬((loseD i).n<0∨1<(loseD i).n) from num_in i)]
 show (match b.way (sideOf (num i)) with|[]=>(b,6)|p::_=>if true=true then (gone b (sideOf (num i)),0) else arriveAt b (sideOf (num i)) p:Bank×Int).1=_
 rw[side_num]
 cases hw:b.way i with
 |nil=>
  show b=gone b i
  unfold gone
  rw[hw,List.tail_nil,upd_at _ _ hw]
 |cons p r=>rfl
theorem run_lose (n:Nat) (i:Bool):∀b:Bank,run b (List.replicate n (loseD i))={b with way:=upd b.way i ((b.way i).drop n)}:=by
 induction n with
 |zero=>intro b;show b=_;rw[List.drop_zero,upd_self]
 |succ n ih=>
  intro b
  rw[List.replicate_succ,run_cons,do_lose,ih]
  unfold gone
  dsimp only
  rw[upd_same,upd_upd,List.drop_tail]
theorem do_send {b:Bank} {i:Bool} (h0:b.way (!i)=[]) (h1:(b.snd i).kept.length≤40):(doB b (sendD i)).1={b with way:=upd b.way (!i) ((b.snd i).kept.map (fun t=>(⟨t,-1⟩:Pk))++[⟨Po.zeroT,b.seen i⟩])}:=by
 have e:doB b (sendD i)=two (sendB b (sendD i)):=rfl
 rw[e]
 show (sendB b (sendD i)).1=_
 unfold sendB
 rw[if_neg (show¬((sendD i).n<0∨1<(sendD i).n) from num_in i)]
 show (if 60<(sent b (sideOf (num i))).length then (b,5) else ({ b with way:=upd b.way (!sideOf (num i)) (sent b (sideOf (num i)))},0):Bank×Int).1=_
 rw[side_num]
 have hs:sent b i=(b.snd i).kept.map (fun t=>(⟨t,-1⟩:Pk))++[⟨Po.zeroT,b.seen i⟩]:=by unfold sent;rw[h0];rfl
 rw[hs,if_neg (by simp;omega)]
theorem do_arr (b:Bank) (i:Bool):(doB b (arrD i)).1=match b.way i with|[]=>b|p::_=>(arriveAt b i p).1:=by
 have e:doB b (arrD i)=two (arriveB b (arrD i) false):=rfl
 rw[e]
 show (arriveB b (arrD i) false).1=_
 unfold arriveB
 rw[if_neg (show¬((arrD i).n<0∨1<(arrD i).n) from num_in i)]
 show (match b.way (sideOf (num i)) with|[]=>(b,6)|p::_=>if false=true then (gone b (sideOf (num i)),0) else arriveAt b (sideOf (num i)) p:Bank×Int).1=_
 rw[side_num]
 cases hw:b.way i with
 |nil=>rfl
 |cons p r=>dsimp only;rw[if_neg (by simp)]
theorem run_arr_none {b:Bank} {i:Bool}(h:b.way i=[]) (n:Nat):run b (List.replicate n (arrD i))=b:=by
 induction n with
 |zero=>rfl
 |succ n ih=>
  have h1:(doB b (arrD i)).1=b:=by rw[do_arr,h]
  rw[List.replicate_succ,run_cons,h1,ih]
theorem run_arr {i:Bool}{rest:List Pk}(ts:List Po.Tr):∀(K:Nat) (b:Bank),Inv b→Bound K b→K+ts.length≤900000→b.way i=ts.map (fun t=>(⟨t,-1⟩:Pk))++rest→
  (∀ (j:Nat) (t:Po.Tr),ts[j]?=some t→t.n=(b.snd (!i)).sent-ts.length+1+j)→(b.snd (!i)).sent-ts.length≤b.seen i→
  (run b (List.replicate ts.length (arrD i))).snd=b.snd∧(run b (List.replicate ts.length (arrD i))).seen=upd b.seen i (b.snd (!i)).sent∧(run b (List.replicate ts.length (arrD i))).way=upd b.way i rest:=by
 induction ts with
 |nil=>
  intro K b I _ _ hw _ hs
  have h1:=I.sent.seen1 i
  have h2:b.seen i=(b.snd (!i)).sent:=by simp at hs;omega
  exact ⟨rfl,(upd_at b.seen i h2).symm,(upd_at b.way i (by simpa using hw)).symm⟩
 |cons t r ih=>
  intro K b I B hK hw hn hs
  have ht:=hn 0 t rfl
  simp only[List.length_cons,Int.natCast_add,Int.natCast_one] at ht hs hK hn
  rw[List.map_cons,List.cons_append] at hw
  have hp:=I.sent.ways i ⟨t,-1⟩ (by rw[hw];exact List.mem_cons_self)
  have hpt:t.n≤b.seen i∨t∈(b.snd (!i)).kept:=by
   rcases hp with ⟨-,h⟩|⟨h,-⟩
   ·exact h
   ·dsimp only at h;omega
  have hdo:(doB b (arrD i)).1=(arriveAt b i ⟨t,-1⟩).1:=by rw[do_arr,hw]
  have hgw:(gone b i).way=upd b.way i (r.map (fun t=>(⟨t,-1⟩:Pk))++rest):=by
   unfold gone;dsimp only;rw[hw,List.tail_cons]
  have I':=do_inv (d:=arrD i) I
  have B':=do_bound (d:=arrD i) I B
  rw[List.length_cons,List.replicate_succ,run_cons]
  by_cases hle:t.n≤b.seen i
  ·-- it came already
   have h1:(doB b (arrD i)).1=gone b i:=by
    rw[hdo];unfold arriveAt
    rw[if_neg (by dsimp only;omega),if_pos (Or.inl (by dsimp only;omega))]
   rw[h1] at I' B'⊢
   obtain ⟨g1,g2,g3⟩:=ih (K +1) (gone b i) I' B' (by omega) (by rw[hgw,upd_same]) (fun j x hx=>by
    have :=hn (j+1) x hx
    show x.n=(b.snd (!i)).sent-r.length+1+j
    simp only[Int.natCast_add,Int.natCast_one] at this;omega) (by show (b.snd (!i)).sent-r.length≤b.seen i;omega)
   exact ⟨g1,g2,by rw[g3,hgw,upd_upd]⟩
  ·have hk:t∈(b.snd (!i)).kept:=by
    rcases hpt with h|h
    ·exact absurd h hle
    ·exact h
   have hm:=right_mem (I.sent.right (!i)) hk
   have hr:=(I.sent.right (!i)).hi
   obtain ⟨c1,c2,c3,c4⟩:=comes_ok I B (by omega) hk
   have h1:(doB b (arrD i)).1=(comes b i t).1:=by
    rw[hdo];unfold arriveAt
    rw[if_neg (by dsimp only;omega),if_neg (by dsimp only;omega)]
   rw[h1] at I' B'⊢
   obtain ⟨g1,g2,g3⟩:=ih (K+1) (comes b i t).1 I' B' (by omega) (by rw[c4,hgw,upd_same]) (fun j x hx=>by
    have:= hn (j +1) x hx
    rw[c2]
    simp only[Int.natCast_add,Int.natCast_one] at this;omega) (by rw[c2,c3,upd_same];omega)
   refine ⟨by rw[g1,c2],?_,by rw[g3,c4,hgw,upd_upd]⟩
   rw[g2,c2,c3,upd_upd]
theorem run_side {K:Nat}{b:Bank}{i:Bool}{ts:List Po.Tr}{q:Int}(I:Inv b) (B:Bound K b) (hK:K+ts.length≤900000) (hw:b.way i=ts.map (fun t=>(⟨t,-1⟩:Pk))++[⟨Po.zeroT,q⟩])
  (hn:∀(j:Nat) (t:Po.Tr),ts[j]?=some t→t.n=(b.snd (!i)).sent-ts.length+1+j) (hs:(b.snd (!i)).sent-ts.length≤b.seen i) (n:Nat) (hl:ts.length+1≤n) (hq:0≤q):
  (run b (List.replicate n (arrD i))).snd=upd b.snd i ⟨(b.snd i).sent,Po.those q (b.snd i).kept⟩∧(run b (List.replicate n (arrD i))).seen=upd b.seen i (b.snd (!i)).sent∧(run b (List.replicate n (arrD i))).way=upd b.way i []:=by
 obtain ⟨g1,g2,g3⟩:=run_arr ts K b I B hK hw hn hs
 have I1:=run_inv I (List.replicate ts.length (arrD i))
 generalize hb1:run b (List.replicate ts.length (arrD i))=b1 at*
 have hsplit:List.replicate n (arrD i)=List.replicate ts.length (arrD i)++(arrD i::List.replicate (n-ts.length-1) (arrD i)):=by
  rw [←List.replicate_succ,List.replicate_append_replicate];congr 1;omega
 rw [hsplit,run_append,hb1,run_cons]
 have hw1:b1.way i=[⟨Po.zeroT,q⟩]:=by rw [g3,upd_same]
 have hq2:q≤b1.seen (!i):=by
  rcases I1.sent.ways i ⟨Po.zeroT,q⟩ (by rw [hw1];exact List.mem_cons_self) with ⟨h,-⟩|⟨-,h⟩
  ·dsimp only at h;omega
  ·exact h
 have hq3:=I1.sent.seen1 (!i)
 rw [not_not_side] at hq3
 have hback:Po.backS (b1.snd i) q=(⟨(b1.snd i).sent,Po.those q (b1.snd i).kept⟩,0):=Po.backS_ok (Po.wrongS_ok.2 (I1.sent.right i)) (by omega)
 have hdo:(doB b1 (arrD i)).1={gone b1 i with snd:=upd b1.snd i ⟨(b1.snd i).sent,Po.those q (b1.snd i).kept⟩}:=by
  rw [do_arr,hw1]
  dsimp only
  unfold arriveAt
  rw [if_pos (by dsimp only;exact hq)]
  dsimp only
  rw [hback,if_neg (by simp)]
 rw [hdo,run_arr_none (by show upd b1.way i (b1.way i).tail i=[];rw [upd_same,hw1];rfl)]
 refine ⟨?_,?_,?_⟩
 ·show upd b1.snd i _=_
  rw [g1]
 ·show b1.seen=_
  exact g2
 ·show upd b1.way i (b1.way i).tail=_
  rw [hw1,g3,upd_upd];rfl
def roundL (n:Nat):List Dd:=[sendD false,sendD true]++List.replicate n (arrD false)++List.replicate n (arrD true)
theorem right_num {s:Po.Se}(R:Po.Right s):∀(j:Nat) (t:Po.Tr),s.kept[j]?=some t→t.n=s.sent-s.kept.length+1+j:=fun j t h=>(R.each j t h).2.2
theorem round_ok{K:Nat}{b:Bank}(I:Inv b) (B:Bound K b){n:Nat}(hK:K+2*n+10≤900000) (h0:∀i,b.way i=[]) (h1:∀i,(b.snd i).kept.length+1≤n):
  (∀ i,(run b (roundL n)).snd i=⟨(b.snd i).sent,Po.those (b.seen (!i)) (b.snd i).kept⟩)∧(∀ i,(run b (roundL n)).seen i=(b.snd (!i)).sent)∧∀i,(run b (roundL n)).way i=[]:=by
 have hk:=fun i=>(I.sent.right i).few
 unfold roundL
 rw[run_append,run_append]
 have e1:run b [sendD false,sendD true]={b with way:=fun i=>(b.snd (!i)).kept.map (fun t=>(⟨t,-1⟩:Pk))++[⟨Po.zeroT,b.seen (!i)⟩]}:=by
  have key:∀x:Bank,x.snd=b.snd→x.seen=b.seen→x.way false=[]→(doB x (sendD true)).1={x with way:=upd x.way false ((b.snd true).kept.map (fun t=>(⟨t,-1⟩:Pk))++[⟨Po.zeroT,b.seen true⟩])}:=fun x h1 h2 h3=>by
   have:= do_send (b:=x) (i:=true) h3 (by rw[h1];exact hk _)
   rw[this,h1,h2];rfl
  rw[run_cons,do_send (h0 _) (hk _),run_cons,key {b with way:=upd b.way (!false) ((b.snd false).kept.map (fun t=>(⟨t,-1⟩:Pk))++[⟨Po.zeroT,b.seen false⟩])} rfl rfl (by show upd b.way true ((b.snd false).kept.map (fun t=>(⟨t,-1⟩:Pk))++[⟨Po.zeroT,b.seen false⟩]) false=[];rw[show upd b.way true ((b.snd false).kept.map (fun t=>(⟨t,-1⟩:Pk))++[⟨Po.zeroT,b.seen false⟩]) false=b.way false from upd_other b.way true _];exact h0 _)]
  show ({ b with way:=_}:Bank)=_
  congr 1
  funext i
  cases i<;>rfl
 rw[e1]
 have I1:Inv {b with way:=fun i=>(b.snd (!i)).kept.map (fun t=>(⟨t,-1⟩:Pk))++[⟨Po.zeroT,b.seen (!i)⟩]}:=by rw[←e1];exact run_inv I _
 have B1:Bound (K +2) {b with way:=fun i=>(b.snd (!i)).kept.map (fun t=>(⟨t,-1⟩:Pk))++[⟨Po.zeroT,b.seen (!i)⟩]}:=by rw[←e1];exact run_bound I B _
 generalize hb1:({ b with way:=fun i=>(b.snd (!i)).kept.map (fun t=>(⟨t,-1⟩:Pk))++[⟨Po.zeroT,b.seen (!i)⟩]}:Bank)=b1 at*
 have hs1:b1.snd=b.snd:=by rw[←hb1]
 have hn1:b1.seen=b.seen:=by rw[←hb1]
 have hw1:∀i,b1.way i=(b.snd (!i)).kept.map (fun t=>(⟨t,-1⟩:Pk))++[⟨Po.zeroT,b.seen (!i)⟩]:=fun i=>by rw[←hb1]
 have ht:=h1 true
 have hf:=h1 false
 obtain ⟨g1,g2,g3⟩:=run_side (i:=false) I1 B1 (by simp;omega) (hw1 false) (by rw[hs1];exact right_num (I.sent.right _)) (by rw[hs1,hn1];exact I.sent.keeps true) n (by simpa using ht) (I.sent.seen0 _)
 have I2:=run_inv I1 (List.replicate n (arrD false))
 have B2:=run_bound I1 B1 (List.replicate n (arrD false))
 rw[List.length_replicate] at B2
 generalize run b1 (List.replicate n (arrD false))=b2 at*
 have hs2:(b2.snd false).sent=(b.snd false).sent:=by rw[g1,upd_same,hs1]
 have hw2:b2.way true=(b.snd false).kept.map (fun t=>(⟨t,-1⟩:Pk))++[⟨Po.zeroT,b.seen false⟩]:=by
  rw[g3]
  have: upd b1.way false [] true=b1.way true:=upd_other b1.way false _
  rw[this,hw1];rfl
 have hn2:b2.seen true=b.seen true:=by
  rw[g2]
  have :upd b1.seen false (b1.snd (!false)).sent true=b1.seen true:=upd_other b1.seen false _
  rw[this,hn1]
 obtain ⟨k1,k2,k3⟩:=run_side (i:=true) I2 B2 (by omega) hw2 (by show∀(j:Nat) (t:Po.Tr),_→t.n=(b2.snd false).sent-_+1+_;rw[hs2];exact right_num (I.sent.right _)) (by show (b2.snd false).sent-_≤_;rw[hs2,hn2];exact I.sent.keeps false) n (by omega) (I.sent.seen0 _)
 have hst:b2.snd true=b.snd true:=by
  rw[g1]
  have :upd b1.snd false ⟨(b1.snd false).sent,Po.those (b.seen (!false)) (b1.snd false).kept⟩ true=b1.snd true:=upd_other b1.snd false _
  rw[this,hs1]
 refine ⟨fun i=>?_,fun i=>?_,fun i=>?_⟩
 ·rw[k1]
  cases i with
  |true=>rw[upd_same,hst];rfl
  |false=>
   have: upd b2.snd true ⟨(b2.snd true).sent,Po.those (b.seen false) (b2.snd true).kept⟩ false=b2.snd false:=upd_other b2.snd true _
   rw[this,g1,upd_same,hs1]
 ·rw[k2]
  cases i with
  |true=>rw[upd_same];exact hs2
  |false=>
   have: upd b2.seen true (b2.snd (!true)).sent false=b2.seen false:=upd_other b2.seen true _
   rw[this,g2,upd_same,hs1]
 ·rw[k3]
  cases i with
  |true=>rw[upd_same]
  |false=>
   have :upd b2.way true [] false=b2.way false:=upd_other b2.way true _
   rw[this,g3,upd_same]
def drainL:List Dd:=List.replicate 12 (loseD false)++List.replicate 12 (loseD true)++roundL 14++roundL 14
theorem drain_ok {K:Nat}{b:Bank}(I:Inv b) (B:Bound K b) (hK:K≤1000) (hw:∀i,(b.way i).length≤12) (hk:∀i,(b.snd i).kept.length≤12):
  (∀ i,((run b drainL).snd i).kept=[])∧(∀ i,(run b drainL).seen i=((run b drainL).snd (!i)).sent)∧Bk.getE (run b drainL).book 1=0∧onBack (run b drainL)=0:=by
 have IF:=run_inv I drainL
 have e1:run b (List.replicate 12 (loseD false)++List.replicate 12 (loseD true))={b with way:=fun _=>[]}:=by
  rw[run_append,run_lose,run_lose]
  show ({b with way:=_}:Bank)=_
  congr 1
  funext i
  cases i with
  |true=>
   show upd (upd b.way false _) true _ true=[]
   rw[upd_same]
   show ((upd b.way false ((b.way false).drop 12)) true).drop 12=[]
   have :upd b.way false ((b.way false).drop 12) true=b.way true:=upd_other b.way false _
   rw[this]
   exact List.drop_eq_nil_of_le (hw true)
  |false=>
   have :∀x,upd (upd b.way false ((b.way false).drop 12)) true x false=upd b.way false ((b.way false).drop 12) false:=fun x=>upd_other _ true x
   show upd (upd b.way false _) true _ false=[]
   rw[this,upd_same]
   exact List.drop_eq_nil_of_le (hw false)
 have I1:Inv {b with way:=fun _=>[]}:=by rw[←e1];exact run_inv I _
 have B1:Bound (K +24) {b with way:=fun _=>[]}:=by
  rw[←e1]
  have :=run_bound I B (List.replicate 12 (loseD false)++List.replicate 12 (loseD true))
  simpa using this
 have ed:run b drainL=run (run {b with way:=fun _=>[]} (roundL 14)) (roundL 14):=by
  unfold drainL
  rw[run_append,run_append,e1]
 obtain ⟨g1,g2,g3⟩:=round_ok I1 B1 (n:=14) (by omega) (fun _=>rfl) (fun i=>by show (b.snd i).kept.length+1≤14;have :=hk i;omega)
 have I2:=run_inv I1 (roundL 14)
 have B2:=run_bound I1 B1 (roundL 14)
 have hrl:(roundL 14).length=30:=by simp[roundL]
 rw[hrl] at B2
 generalize run {b with way:=fun _=>[]} (roundL 14)=b2 at*
 obtain ⟨k1,k2,k3⟩:=round_ok I2 B2 (n:=14) (by omega) g3 (fun i=>by
  rw[g1]
  show (Po.those (b.seen (!i)) (b.snd i).kept).length+1≤14
  have:= Po.those_le (b.seen (!i)) (b.snd i).kept
  have:= hk i;omega)
 rw[ed] at IF⊢
 generalize run b2 (roundL 14)=b3 at*
 have hkept:∀i,(b3.snd i).kept=[]:=fun i=>by
  rw[k1]
  show Po.those (b2.seen (!i)) (b2.snd i).kept=[]
  have h2:b2.seen (!i)=(b2.snd i).sent:=by
   rw[g2,g1,not_not_side]
  rw[h2]
  exact List.filter_eq_nil_iff.2 fun t ht=>by
   have:= (right_mem (I2.sent.right i) ht).2.2.2
   simpa using this
 refine ⟨hkept,fun i=>?_,?_,?_⟩
 ·rw[k2,k1]
 ·rw[IF.books.acc1]
  unfold onWay
  rw[hkept,hkept];rfl
 ·unfold onBack
  rw[hkept,hkept];rfl
end Go.Proofs.YtofcnebekmjdoaaGreatDoor.Bn
