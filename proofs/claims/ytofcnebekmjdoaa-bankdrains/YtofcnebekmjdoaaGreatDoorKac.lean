
set_option maxHeartbeats 4000000
set_option maxRecDepth 100000
namespace Go.Proofs.YtofcnebekmjdoaaGreatDoor.Po
structure Tr where
 n:Int
 k:Int
 a:Int
 s:Int
structure Se where
 sent:Int
 kept:List Tr
def zeroT:Tr:=⟨0,0,0,0⟩
def zeroS:Se:=⟨0,[]⟩
abbrev noKind (k:Int):Prop:=k≠1∧k≠2∧k≠3
abbrev far (a s:Int):Prop:=a<0∨30≤a∨s<1∨1000000<s
def wrongT (t:Tr) (m:Int):Int:=if noKind t.k then 1 else if far t.a t.s then 3 else if t.n≠m then 2 else 0
def wrongGo (i:Nat) (m:Int):List Tr→Int×Int
 |[]=>(0,0)
 |t::r=>if wrongT t m≠0 then (wrongT t m,i) else wrongGo (i +1) (m +1) r
def wrongS (s:Se):Int×Int:=
 if 40<s.kept.length then (5,0) else if s.sent<s.kept.length∨1000000<s.sent then (3,0) else wrongGo 0 (s.sent -s.kept.length+1) s.kept
theorem drop_at {L:List Tr}{k:Nat} (hk:k<L.length):L.drop k=L.getD k zeroT::L.drop (k+1):=by
 rw [List.drop_eq_getElem_cons hk];simp [List.getD,hk]
theorem take_at {L:List Tr}{k:Nat}(hk:k<L.length):L.take (k +1)=L.take k++[L.getD k zeroT]:=by
 rw[List.take_add_one];simp[List.getD,hk]
theorem wrongS_many {s:Se} (h:40<s.kept.length):wrongS s=(5,0):=by unfold wrongS;rw[if_pos h]
theorem wrongS_range {s:Se}(h:s.kept.length≤40) (h2:s.sent<s.kept.length∨1000000<s.sent):wrongS s=(3,0):=by
 unfold wrongS;rw[if_neg (by omega),if_pos h2]
def Good (s:Se) (k:Nat):Prop:=wrongS s=wrongGo k (s.sent -s.kept.length+1+k) (s.kept.drop k)
theorem good_zero {s:Se} (h:s.kept.length≤40) (h2:s.kept.length≤s.sent) (h3:s.sent≤1000000):Good s 0:=by
 unfold Good wrongS;rw[if_neg (by omega),if_neg (by omega)];simp
theorem Good.bad {s:Se} {k:Nat}(g:Good s k) (hk:k<s.kept.length) (h:wrongT (s.kept.getD k zeroT) (s.sent -s.kept.length+1+k)≠0):
  wrongS s=(wrongT (s.kept.getD k zeroT) (s.sent -s.kept.length+1+k),(k :Int)):=by
 rw[g,drop_at hk];simp only[wrongGo,if_pos h]
theorem Good.next {s:Se} {k:Nat} (g:Good s k) (hk:k<s.kept.length) (h:wrongT (s.kept.getD k zeroT) (s.sent-s.kept.length+1+k)=0):Good s (k+1):=by
 unfold Good
 rw[g,drop_at hk];simp only[wrongGo,h];simp;rw[show s.sent-s.kept.length+1+(k:Int)+1=s.sent-s.kept.length+1+((k:Int)+1) by omega]
theorem Good.done {s:Se} {k:Nat} (g:Good s k) (hk:s.kept.length≤k):wrongS s=(0,0):=by
 rw[g,List.drop_eq_nil_of_le hk];rfl
structure Right (s:Se):Prop where
 few:s.kept.length≤40
 lo:s.kept.length≤s.sent
 hi:s.sent≤1000000
 each:∀(i:Nat) (t:Tr),s.kept[i]?=some t→¬noKind t.k∧¬far t.a t.s∧t.n=s.sent-s.kept.length+1+i
theorem wrongT_ok {t:Tr}{m:Int}:wrongT t m=0↔¬noKind t.k∧¬far t.a t.s∧t.n=m:=by
 unfold wrongT
 by_cases h1:noKind t.k
 ·rw [if_pos h1];exact ⟨fun h=>(by cases h),fun h=>absurd h1 h.1⟩
 rw [if_neg h1]
 by_cases h2:far t.a t.s
 ·rw [if_pos h2];exact ⟨fun h=>(by cases h),fun h=>absurd h2 h.2.1⟩
 rw [if_neg h2]
 by_cases h3:t.n=m
 ·rw [if_neg (by simpa using h3)];exact ⟨fun _=>⟨h1,h2,h3⟩,fun _=>rfl⟩
 ·rw [if_pos h3];exact ⟨fun h=>(by cases h),fun h=>absurd h.2.2 h3⟩
theorem wrongGo_ok {L:List Tr}:∀{i:Nat} {m:Int},(wrongGo i m L).1=0↔∀(j:Nat) (t:Tr),L[j]?=some t→wrongT t (m+j)=0:=by
 induction L with
 |nil=>intro i m;simp[wrongGo]
 |cons t r ih=>
  intro i m
  simp only[wrongGo]
  by_cases h:wrongT t m=0
  ·rw[if_neg (by simpa using h),ih]
   constructor
   ·intro H j u hj
    cases j with
    |zero=>simp at hj;subst hj;simpa using h
    |succ j=>have:= H j u (by simpa using hj);rw[show m+((j+1:Nat):Int)=m+1+j by omega];exact this
   ·intro H j u hj
    have :=H (j +1) u (by simpa using hj)
    rw[show m+1+(j:Int)=m+((j+1:Nat):Int) by omega];exact this
  ·rw[if_pos h]
   exact ⟨fun h0=>absurd h0 h,fun H=>absurd (by simpa using H 0 t rfl) h⟩
theorem wrongS_ok {s:Se}:(wrongS s).1=0↔Right s:=by
 unfold wrongS
 by_cases h1:40<s.kept.length
 ·rw[if_pos h1];exact ⟨fun h=>(by cases h),fun h=>absurd h.few (by omega)⟩
 rw[if_neg h1]
 by_cases h2:s.sent<s.kept.length∨1000000<s.sent
 ·rw[if_pos h2];exact ⟨fun h=>(by cases h),fun h=>by have :=h.lo;have :=h.hi;omega⟩
 rw[if_neg h2,wrongGo_ok]
 constructor
 ·intro H;exact ⟨by omega,by omega,by omega,fun i t ht=>wrongT_ok.1 (H i t ht)⟩
 ·intro R i t ht;exact wrongT_ok.2 (R.each i t ht)
def nextT (s:Se) (t:Tr):Tr:=⟨s.sent+1,t.k,t.a,t.s⟩
def outS (s:Se) (t:Tr):Se:=⟨s.sent+1,s.kept++[nextT s t]⟩
def putS (s:Se) (t:Tr):Se×Int:=
 if (wrongS s).1≠0 then (zeroS,(wrongS s).1) else if (wrongS (outS s t)).1≠0 then (zeroS,(wrongS (outS s t)).1) else (outS s t,0)
def those (seen:Int) (L:List Tr):List Tr:=L.filter fun t=>decide (seen <t.n)
def backS (s:Se) (seen:Int):Se×Int:=
 if (wrongS s).1≠0 then (zeroS,(wrongS s).1) else if seen<0∨s.sent<seen then (zeroS,3) else (⟨s.sent,those seen s.kept⟩,0)
theorem putS_bad {s:Se}{t:Tr} (h:(wrongS s).1≠0):putS s t=(zeroS,(wrongS s).1):=by unfold putS;rw [if_pos h]
theorem putS_out {s:Se}{t:Tr}(h:(wrongS s).1=0) (h2:(wrongS (outS s t)).1≠0):putS s t=(zeroS,(wrongS (outS s t)).1):=by
 unfold putS;rw[if_neg (by simpa using h),if_pos h2]
theorem putS_ok {s:Se} {t:Tr}(h:(wrongS s).1=0) (h2:(wrongS (outS s t)).1=0):putS s t=(outS s t,0):=by
 unfold putS;rw[if_neg (by simpa using h),if_neg (by simpa using h2)]
theorem backS_bad {s:Se}{seen:Int}(h:(wrongS s).1≠0):backS s seen=(zeroS,(wrongS s).1):=by unfold backS;rw[if_pos h]
theorem backS_range {s:Se}{seen:Int} (h:(wrongS s).1=0) (h2:seen<0∨s.sent<seen):backS s seen=(zeroS,3):=by
 unfold backS;rw [if_neg (by simpa using h),if_pos h2]
theorem backS_ok {s:Se}{seen:Int}(h:(wrongS s).1=0) (h2:¬(seen <0∨s.sent<seen)):backS s seen=(⟨s.sent,those seen s.kept⟩,0):=by
 unfold backS;rw[if_neg (by simpa using h),if_neg h2]
def taken (seen n:Int):Bool:=decide (0≤seen)&&decide (seen <1000000)&&decide (n=seen+1)
theorem taken_true {seen n:Int}:taken seen n=true↔0≤seen∧seen<1000000∧n=seen+1:=by simp[taken,and_assoc]
theorem taken_false {seen n:Int}:taken seen n=false↔¬(0 ≤seen∧seen<1000000∧n=seen+1):=by rw[←taken_true];simp
theorem those_hit {seen:Int}{L:List Tr}{k:Nat}(hk:k<L.length) (h:seen<(L.getD k zeroT).n):those seen (L.take (k +1))=those seen (L.take k)++[L.getD k zeroT]:=by
 rw[take_at hk];unfold those;rw[List.filter_append,List.filter_cons];simp only[decide_eq_true h];simp
theorem those_miss {seen:Int}{L:List Tr}{k:Nat}(hk:k<L.length) (h:¬seen<(L.getD k zeroT).n):those seen (L.take (k +1))=those seen (L.take k):=by
 rw[take_at hk];unfold those;rw[List.filter_append,List.filter_cons];simp only[decide_eq_false h];simp
theorem those_all {seen:Int}{L:List Tr}{k:Nat}(hk:L.length≤k):those seen (L.take k)=those seen L:=by rw[List.take_of_length_le hk]
theorem those_le (seen:Int) (L:List Tr):(those seen L).length≤L.length:=List.length_filter_le _ _
theorem those_take_le (seen:Int) (L:List Tr) (k:Nat):(those seen (L.take k)).length≤L.length:=by
 have h1:=those_le seen (L.take k)
 have h2:=List.length_take_le' k L
 omega
theorem right_back {s:Se}{seen:Int} (R:Right s) (h1:seen≤s.sent):∃j,those seen s.kept=s.kept.drop j∧j≤s.kept.length∧((j:Int)=s.kept.length-(s.sent-seen)∨(j=0∧s.kept.length≤s.sent-seen)):=by
 have aux:∀(L:List Tr) (m:Int),(∀(i:Nat) (t:Tr),L[i]?=some t→t.n=m+i)→∀j:Nat,(m+j=seen+1∨(j=0∧seen<m))→j≤L.length→those seen L=L.drop j:=by
  intro L
  induction L with
  |nil=>intro m _ j _ _;simp [those]
  |cons t r ih=>
   intro m H j hj hl
   have ht:=H 0 t rfl
   have hr:∀(i:Nat) (u:Tr),r[i]?=some u→u.n=m+1+i:=fun i u hu=>by have:= H (i +1) u (by simpa using hu);omega
   cases j with
   |zero=>
    have :those seen (t::r)=t::those seen r:=by
     unfold those;rw [List.filter_cons,if_pos (by simp;omega)]
    rw [this]
    have :=ih (m+1) hr 0 (Or.inr ⟨rfl,by omega⟩) (Nat.zero_le _)
    rw [this];simp
   |succ j=>
    have :those seen (t::r)=those seen r:=by
     unfold those;rw [List.filter_cons,if_neg (by simp;omega)]
    rw [this]
    have:= ih (m +1) hr j (Or.inl (by omega)) (by simpa using hl)
    rw [this];simp
 have hb:=R.lo
 by_cases hc:s.kept.length≤s.sent-seen
 ·refine ⟨0,?_,Nat.zero_le _,Or.inr ⟨rfl,hc⟩⟩
  exact aux s.kept (s.sent-s.kept.length+1) (fun i t ht=>(R.each i t ht).2.2) 0 (Or.inr ⟨rfl,by omega⟩) (Nat.zero_le _)
 ·refine ⟨(s.kept.length -(s.sent -seen)).toNat,?_,by omega,Or.inl (by omega)⟩
  exact aux s.kept (s.sent -s.kept.length+1) (fun i t ht=>(R.each i t ht).2.2) _ (Or.inl (by omega)) (by omega)
theorem right_drop {s:Se}(R:Right s) (j:Nat) (hj:j≤s.kept.length):Right ⟨s.sent,s.kept.drop j⟩:=by
 have h1:=R.few;have h2:=R.lo;have h3:=R.hi
 refine ⟨by simp;omega,by simp;omega,h3,fun i t ht=>?_⟩
 simp at ht
 obtain ⟨a,b,c⟩:=R.each _ t ht
 refine ⟨a,b,?_⟩
 simp
 omega
theorem right_back' {s:Se}{seen:Int} (R:Right s) (h1:seen≤s.sent):Right ⟨s.sent,those seen s.kept⟩:=by
 obtain ⟨j,hj,hl,-⟩:=right_back R h1
 rw [hj]
 exact right_drop R j hl
end Go.Proofs.YtofcnebekmjdoaaGreatDoor.Po
namespace Go.Proofs.YtofcnebekmjdoaaGreatDoor.St
structure Ad where
 c:Int
 s:Int
 m:Int
 t:Int
structure Sd where
 cap:Int
 used:List Int
 adv:List Ad
def zA:Ad:=⟨0,0,0,0⟩
def zD:Sd:=⟨0,[],[]⟩
abbrev Lim (n:Int):Prop:=0≤n∧n≤1000000
abbrev Fits (a:Ad) (n:Int):Prop:=0≤a.c∧a.c<n∧0≤a.s∧a.s<8∧1≤a.m∧a.m≤1000000∧0≤a.t∧a.t≤1000000
def limB (n:Int):Bool:=decide (Lim n)
theorem limB_true {n:Int} (h:Lim n):limB n=true:=decide_eq_true h
theorem limB_false {n:Int}(h:¬Lim n):limB n=false:=decide_eq_false h
def fitsB (a:Ad) (n:Int):Bool:=decide (Fits a n)
theorem fitsB_true {a:Ad} {n:Int}(h:Fits a n):fitsB a n=true:=decide_eq_true h
theorem fitsB_false {a:Ad}{n:Int}(h:¬Fits a n):fitsB a n=false:=decide_eq_false h
def sumOf (k:Int):List Ad→Int
 |[]=>0
 |a::r=>(if a.c=k then a.m else 0)+sumOf k r
def sums (n:Nat) (G:List Ad):List Int:=(List.range n).map fun (i :Nat)=>sumOf (i:Int) G
abbrev Fit (s:Sd) (i:Nat):Prop:=s.used.getD i 0=sumOf (i:Int) s.adv∧sumOf (i :Int) s.adv≤s.cap
def wrongD (s:Sd):Int:=
 if 8<s.used.length∨20<s.adv.length then 5
 else if¬Lim s.cap then 3
 else if∃i:Nat,i<s.adv.length∧¬Fits (s.adv.getD i zA) s.used.length then 3
 else if∃i:Nat,i<s.used.length∧¬Fit s i then 8
 else 0
def newD (limit cards:Int):Sd×Int:=
 if cards<0∨8<cards then (zD,5) else if¬Lim limit then (zD,3) else (⟨limit,List.replicate cards.toNat 0,[]⟩,0)
def moreD (s:Sd) (a:Ad):Sd:=⟨s.cap,s.used.set a.c.toNat (s.used.getD a.c.toNat 0+a.m),s.adv++[a]⟩
def giveD (s:Sd) (a:Ad):Sd×Int:=
 if wrongD s≠0 then (zD,wrongD s)
 else if s.adv.length=20 then (zD,5)
 else if¬Fits a s.used.length then (zD,3)
 else if s.cap<s.used.getD a.c.toNat 0+a.m then (zD,10)
 else (moreD s a,0)
theorem wrong_many {s:Sd}(h:8<s.used.length∨20<s.adv.length):wrongD s=5:=by unfold wrongD;rw[if_pos h]
theorem wrong_cap {s:Sd}(h1:s.used.length≤8) (h2:s.adv.length≤20) (h:¬Lim s.cap):wrongD s=3:=by
 unfold wrongD;rw[if_neg (by omega),if_pos h]
theorem wrong_adv{s:Sd}(h1:s.used.length≤8) (h2:s.adv.length≤20) (h3:Lim s.cap){i:Nat}(hi:i<s.adv.length) (h:¬Fits (s.adv.getD i zA) s.used.length):wrongD s=3:=by
 unfold wrongD;rw[if_neg (by omega),if_neg (by omega),if_pos ⟨i,hi,h⟩]
def GoodA (s:Sd) (k:Nat):Prop:=∀i:Nat,i<k→Fits (s.adv.getD i zA) s.used.length
def GoodU (s:Sd) (k:Nat):Prop:=∀i:Nat,i<k→Fit s i
theorem goodA_zero (s:Sd):GoodA s 0:=fun _ h=>absurd h (Nat.not_lt_zero _)
theorem goodU_zero (s:Sd):GoodU s 0:=fun _ h=>absurd h (Nat.not_lt_zero _)
theorem GoodA.next {s:Sd}{k:Nat}(g:GoodA s k) (h:Fits (s.adv.getD k zA) s.used.length):GoodA s (k+1):=fun i hi=>by
 rcases Nat.lt_or_ge i k with h1|h1
 ·exact g i h1
 ·obtain rfl:i=k:=by omega
  exact h
theorem GoodU.next {s:Sd}{k:Nat}(g:GoodU s k) (h:Fit s k):GoodU s (k+1):=fun i hi=>by
 rcases Nat.lt_or_ge i k with h1|h1
 ·exact g i h1
 ·obtain rfl:i=k:=by omega
  exact h
theorem wrong_fit {s:Sd} (h1:s.used.length≤8) (h2:s.adv.length≤20) (h3:Lim s.cap) (g:GoodA s s.adv.length) {i:Nat} (hi:i<s.used.length) (h:¬Fit s i):wrongD s=8:=by
 unfold wrongD;rw[if_neg (by omega),if_neg (by omega),if_neg (fun ⟨j,hj,hn⟩=>hn (g j hj)),if_pos ⟨i,hi,h⟩]
theorem wrong_none {s:Sd}(h1:s.used.length≤8) (h2:s.adv.length≤20) (h3:Lim s.cap) (g:GoodA s s.adv.length) (u:GoodU s s.used.length):wrongD s=0:=by
 unfold wrongD;rw[if_neg (by omega),if_neg (by omega),if_neg (fun ⟨j,hj,hn⟩=>hn (g j hj)),if_neg (fun ⟨j,hj,hn⟩=>hn (u j hj))]
structure Right (s:Sd):Prop where
 u8:s.used.length≤8
 a20:s.adv.length≤20
 lim:Lim s.cap
 adv:GoodA s s.adv.length
 fit:GoodU s s.used.length
theorem right_of {s:Sd} (h:wrongD s=0):Right s:=by
 unfold wrongD at h
 by_cases h1:8<s.used.length∨20<s.adv.length
 ·rw[if_pos h1] at h;cases h
 rw[if_neg h1] at h
 by_cases h2:¬Lim s.cap
 ·rw[if_pos h2] at h;cases h
 rw[if_neg h2] at h
 by_cases h3:∃i:Nat,i<s.adv.length∧¬Fits (s.adv.getD i zA) s.used.length
 ·rw[if_pos h3] at h;cases h
 rw[if_neg h3] at h
 by_cases h4:∃i:Nat,i<s.used.length∧¬Fit s i
 ·rw[if_pos h4] at h;cases h
 exact ⟨by omega,by omega,Decidable.not_not.1 h2,fun i hi=>Decidable.byContradiction fun hn=>h3 ⟨i,hi,hn⟩,fun i hi=>Decidable.byContradiction fun hn=>h4 ⟨i,hi,hn⟩⟩
theorem Right.wrong {s:Sd}(r:Right s):wrongD s=0:=wrong_none r.u8 r.a20 r.lim r.adv r.fit
theorem sumOf_append (k:Int) (G:List Ad) (a:Ad):sumOf k (G++[a])=sumOf k G+(if a.c=k then a.m else 0):=by
 induction G with
 |nil=>simp[sumOf]
 |cons x r ih=>simp only[List.cons_append,sumOf,ih];omega
theorem take_at {L:List Ad}{k:Nat}(hk:k<L.length):L.take (k +1)=L.take k++[L.getD k zA]:=by
 rw[List.take_add_one];simp[List.getD,hk]
theorem sums_length (n:Nat) (G:List Ad):(sums n G).length=n:=by simp[sums]
theorem sums_at (n:Nat) (G:List Ad){i:Nat} (h:i<n):(sums n G)[i]?=some (sumOf (i:Int) G):=by simp [sums,h]
theorem sums_getD (n:Nat) (G:List Ad) {i:Nat}(h:i<n):(sums n G).getD i 0=sumOf (i :Int) G:=by simp [List.getD,sums_at n G h]
theorem sums_nil (n:Nat):sums n []=List.replicate n 0:=by
 apply List.ext_getElem?
 intro j
 by_cases hj:j<n<;>simp[sums,sumOf,hj]
theorem sums_more (n:Nat) (G:List Ad) (a:Ad) (h0:0≤a.c):(sums n G).set a.c.toNat (sumOf a.c G+a.m)=sums n (G ++[a]):=by
 apply List.ext_getElem?
 intro j
 rw[List.getElem?_set]
 by_cases hj:j<n
 ·rw[sums_at n _ hj,sums_at n _ hj,sums_length,sumOf_append]
  by_cases e:a.c.toNat=j
  ·have e':a.c=(j :Int):=by omega
   rw[if_pos e,if_pos (by omega),if_pos e',e']
  ·have e':¬a.c=(j:Int):=by omega
   rw[if_neg e,if_neg e'];simp
 ·have h1:∀M,(sums n M)[j]?=none:=fun M=>List.getElem?_eq_none (by rw[sums_length];omega)
  rw[h1,h1,sums_length]
  by_cases e:a.c.toNat=j
  ·rw[if_pos e,if_neg (by omega)]
  ·rw[if_neg e]
theorem sumOf_small {k n:Int}{G:List Ad}(h:∀a∈G,Fits a n):0≤sumOf k G∧sumOf k G≤1000000*G.length:=by
 induction G with
 |nil=>simp[sumOf]
 |cons a r ih=>
  have h1:=ih fun x hx=>h x (List.mem_cons_of_mem _ hx)
  have h2:=h a List.mem_cons_self
  simp only[sumOf,List.length_cons]
  split<;>omega
theorem getD_at {α:Type}{L:List α}{i:Nat}(h:i<L.length) (d:α):L.getD i d=L[i]:=by simp[List.getD,h]
theorem GoodA.each {s:Sd} (g:GoodA s s.adv.length):∀a∈s.adv,Fits a s.used.length:=fun a ha=>by
 obtain ⟨i,hi,rfl⟩:=List.getElem_of_mem ha
 have :=g i hi
 rwa[getD_at hi] at this
theorem GoodA.small {s:Sd}(g:GoodA s s.adv.length) (h:s.adv.length≤20) (k:Int) (j:Nat):0≤sumOf k (s.adv.take j)∧sumOf k (s.adv.take j)≤20000000:=by
 have h1:=sumOf_small (k:=k) (n:=s.used.length) (G:=s.adv.take j) fun a ha=>g.each a (List.mem_of_mem_take ha)
 have h2:(s.adv.take j).length≤20:=by simp;omega
 omega
theorem Right.st{s:Sd}(r:Right s):s.used=sums s.used.length s.adv:=by
 apply List.ext_getElem?
 intro j
 by_cases hj:j<s.used.length
 ·rw[sums_at _ _ hj,List.getElem?_eq_getElem hj]
  have:= (r.fit j hj).1
  rw[getD_at hj] at this
  rw[this]
 ·rw[List.getElem?_eq_none (by omega),List.getElem?_eq_none (by rw[sums_length];omega)]
theorem Right.more {s:Sd}(r:Right s){a:Ad}(h1:s.adv.length≠20) (h2:Fits a s.used.length) (h3:¬s.cap<s.used.getD a.c.toNat 0+a.m):Right (moreD s a):=by
 have hst:=r.st
 have hu:(moreD s a).used=sums s.used.length (s.adv++[a]):=by
  show s.used.set a.c.toNat (s.used.getD a.c.toNat 0+a.m)=_
  have hc:s.used.getD a.c.toNat 0=sumOf a.c s.adv:=by
   have :=(r.fit a.c.toNat (by omega)).1
   rw[this,show ((a.c.toNat:Nat):Int)=a.c by omega]
  rw[hc,←sums_more _ _ _ h2.1,←hst]
 have hl:(moreD s a).used.length=s.used.length:=by simp[moreD]
 have ha:(moreD s a).adv=s.adv++[a]:=rfl
 refine ⟨by rw[hl];exact r.u8,by rw[ha];simp;have:= r.a20;omega,r.lim,fun i hi=>?_,fun i hi=>?_⟩
 ·rw[hl,ha]
  rw[ha] at hi
  simp at hi
  by_cases hi2:i<s.adv.length
  ·have:= r.adv i hi2
   have e:(s.adv ++[a]).getD i zA=s.adv.getD i zA:=by simp[List.getD,List.getElem?_append_left hi2]
   rw[e];exact this
  ·obtain rfl:i=s.adv.length:=by omega
   have e:(s.adv++[a]).getD s.adv.length zA=a:=by simp[List.getD]
   rw[e];exact h2
 ·rw[hl] at hi
  unfold Fit
  rw[hu,sums_getD _ _ hi,ha]
  refine ⟨rfl,?_⟩
  show sumOf (i:Int) (s.adv ++[a])≤s.cap
  rw[sumOf_append]
  obtain ⟨f1,f2⟩:=r.fit i hi
  by_cases e:a.c=(i:Int)
  ·rw[if_pos e,←f1]
   have: a.c.toNat=i:=by omega
   rw[this] at h3
   omega
  ·rw[if_neg e];omega
theorem give_bad {s:Sd}{a:Ad} (h:wrongD s≠0):giveD s a=(zD,wrongD s):=by unfold giveD;rw [if_pos h]
theorem give_many {s:Sd}{a:Ad}(h:wrongD s=0) (h1:s.adv.length=20):giveD s a=(zD,5):=by unfold giveD;rw[if_neg (by simpa using h),if_pos h1]
theorem give_range {s:Sd} {a:Ad} (h:wrongD s=0) (h1:s.adv.length≠20) (h2:¬Fits a s.used.length):giveD s a=(zD,3):=by unfold giveD;rw[if_neg (by simpa using h),if_neg h1,if_pos h2]
theorem give_funds {s:Sd}{a:Ad}(h:wrongD s=0) (h1:s.adv.length≠20) (h2:Fits a s.used.length) (h3:s.cap<s.used.getD a.c.toNat 0+a.m):giveD s a=(zD,10):=by
 unfold giveD;rw[if_neg (by simpa using h),if_neg h1,if_neg (by simpa using h2),if_pos h3]
theorem give_ok {s:Sd} {a:Ad}(h:wrongD s=0) (h1:s.adv.length≠20) (h2:Fits a s.used.length) (h3:¬s.cap<s.used.getD a.c.toNat 0+a.m):giveD s a=(moreD s a,0):=by
 unfold giveD;rw[if_neg (by simpa using h),if_neg h1,if_neg (by simpa using h2),if_neg h3]
theorem give_right {s:Sd} {a:Ad}(r:Right s) (h:(giveD s a).2=0):giveD s a=(moreD s a,0)∧Right (moreD s a):=by
 have hw:=r.wrong
 by_cases h1:s.adv.length=20
 ·rw[give_many hw h1] at h;cases h
 by_cases h2:Fits a s.used.length
 ·by_cases h3:s.cap<s.used.getD a.c.toNat 0+a.m
  ·rw[give_funds hw h1 h2 h3] at h;cases h
  ·exact ⟨give_ok hw h1 h2 h3,r.more h1 h2 h3⟩
 ·rw[give_range hw h1 h2] at h;cases h
theorem new_many {limit cards:Int}(h:cards<0∨8<cards):newD limit cards=(zD,5):=by unfold newD;rw[if_pos h]
theorem new_range {limit cards:Int} (h:¬(cards<0∨8<cards)) (h1:¬Lim limit):newD limit cards=(zD,3):=by unfold newD;rw [if_neg h,if_pos h1]
theorem new_ok {limit cards:Int}(h:¬(cards <0∨8<cards)) (h1:Lim limit):newD limit cards=(⟨limit,List.replicate cards.toNat 0,[]⟩,0):=by
 unfold newD;rw[if_neg h,if_neg (by simpa using h1)]
theorem new_right {limit:Int} {n:Nat} (h:n≤8) (h1:Lim limit):Right ⟨limit,List.replicate n 0,[]⟩:=by
 refine ⟨by simpa using h,by simp,h1,fun i hi=>absurd hi (Nat.not_lt_zero _),fun i hi=>?_⟩
 simp at hi
 unfold Fit
 have: (List.replicate n (0 :Int)).getD i 0=0:=by simp[List.getD,hi]
 show (List.replicate n (0 :Int)).getD i 0=0∧(0:Int)≤limit
 exact ⟨this,h1.1⟩
end Go.Proofs.YtofcnebekmjdoaaGreatDoor.St
namespace Go.Proofs.YtofcnebekmjdoaaGreatDoor.Dy
structure Rc where
 sh:Int
 au:Int
 k:Int
 m:Int
def zR:Rc:=⟨0,0,0,0⟩
abbrev noKind (r:Rc):Prop:=r.k<1∨8<r.k
abbrev far (r:Rc):Prop:=r.sh<0∨7<r.sh∨r.au<0∨29<r.au∨r.m<1∨1000000<r.m
def wrongR (r:Rc):Int:=if noKind r then 1 else if far r then 3 else 0
def wrongGo (i:Nat):List Rc→Int×Int
 |[]=>(0,0)
 |r::t=>if wrongR r≠0 then (wrongR r,(i:Int)) else wrongGo (i+1) t
def wrongL (l:List Rc):Int×Int:=if 100<l.length then (5,0) else wrongGo 0 l
theorem drop_at {L:List Rc} {k:Nat} (hk:k<L.length):L.drop k=L.getD k zR::L.drop (k+1):=by
 rw[List.drop_eq_getElem_cons hk];simp[List.getD,hk]
theorem take_at {L:List Rc}{k:Nat}(hk:k<L.length):L.take (k +1)=L.take k++[L.getD k zR]:=by
 rw[List.take_add_one];simp[List.getD,hk]
theorem getD_mem {L:List Rc} {k:Nat}(hk:k<L.length):L.getD k zR∈L:=by simp [List.getD,hk]
theorem getD_at {L:List Rc} {k:Nat}(hk:k<L.length):L.getD k zR=L[k]:=by simp[List.getD,hk]
theorem wrong_many {l:List Rc} (h:100<l.length):wrongL l=(5,0):=by unfold wrongL;rw [if_pos h]
def Good (l:List Rc) (k:Nat):Prop:=wrongL l=wrongGo k (l.drop k)
theorem good_zero {l:List Rc}(h:l.length≤100):Good l 0:=by unfold Good wrongL;rw[if_neg (by omega)];simp
theorem Good.bad {l:List Rc} {k:Nat}(g:Good l k) (hk:k<l.length) (h:wrongR (l.getD k zR)≠0):wrongL l=(wrongR (l.getD k zR),(k :Int)):=by
 rw[g,drop_at hk];simp only[wrongGo,if_pos h]
theorem Good.next {l:List Rc}{k:Nat}(g:Good l k) (hk:k<l.length) (h:wrongR (l.getD k zR)=0):Good l (k +1):=by
 unfold Good
 rw[g,drop_at hk];simp only[wrongGo,h];simp
theorem Good.done {l:List Rc} {k:Nat}(g:Good l k) (hk:l.length≤k):wrongL l=(0,0):=by
 rw[g,List.drop_eq_nil_of_le hk];rfl
structure Right (l:List Rc):Prop where
 few:l.length≤100
 each:∀r∈l,¬noKind r∧¬far r
theorem wrongR_ok {r:Rc}:wrongR r=0↔¬noKind r∧¬far r:=by
 unfold wrongR
 by_cases h1:noKind r
 ·rw[if_pos h1];exact ⟨fun h=>(by cases h),fun h=>absurd h1 h.1⟩
 rw[if_neg h1]
 by_cases h2:far r
 ·rw[if_pos h2];exact ⟨fun h=>(by cases h),fun h=>absurd h2 h.2⟩
 ·rw[if_neg h2];exact ⟨fun _=>⟨h1,h2⟩,fun _=>rfl⟩
theorem wrongGo_ok {l:List Rc}:∀{i:Nat},(wrongGo i l).1=0↔∀r∈l,wrongR r=0:=by
 induction l with
 |nil=>intro i;simp [wrongGo]
 |cons r t ih=>
  intro i
  by_cases h:wrongR r=0
  ·rw [wrongGo,if_neg (by simpa using h),ih]
   exact ⟨fun h1 x hx=>by rcases List.mem_cons.1 hx with rfl|h2;exact h;exact h1 x h2,fun h1 x hx=>h1 x (List.mem_cons_of_mem _ hx)⟩
  ·rw [wrongGo,if_pos h]
   exact ⟨fun h1=>absurd h1 h,fun h1=>h1 r List.mem_cons_self⟩
theorem wrong_ok {l:List Rc}:(wrongL l).1=0↔Right l:=by
 unfold wrongL
 by_cases h:100<l.length
 ·rw[if_pos h];exact ⟨fun h=>(by cases h),fun r=>absurd r.few (by omega)⟩
 ·rw[if_neg h,wrongGo_ok]
  exact ⟨fun h1=>⟨by omega,fun r hr=>wrongR_ok.1 (h1 r hr)⟩,fun r x hx=>wrongR_ok.2 (r.each x hx)⟩
theorem wrongGo_zero {l:List Rc}:∀{i:Nat},(wrongGo i l).1=0→wrongGo i l=(0,0):=by
 induction l with
 |nil=>intro i _;rfl
 |cons r t ih=>
  intro i h
  by_cases h1:wrongR r=0
  ·rw[wrongGo,if_neg (by simpa using h1)] at h⊢;exact ih h
  ·rw[wrongGo,if_pos h1] at h;exact absurd h h1
theorem wrong_zero {l:List Rc}(h:(wrongL l).1=0):wrongL l=(0,0):=by
 unfold wrongL at h⊢
 split at h
 ·cases h
 ·rename_i h1;rw[if_neg h1];exact wrongGo_zero h
def gtB (a b:Rc):Bool:=decide (b.sh <a.sh)||(a.sh==b.sh&&decide (b.au <a.au))
theorem gtB_true {a b:Rc}:gtB a b=true↔b.sh<a.sh∨(a.sh=b.sh∧b.au<a.au):=by unfold gtB;simp
theorem gtB_false {a b:Rc}:gtB a b=false↔¬(b.sh <a.sh∨(a.sh=b.sh∧b.au<a.au)):=by
 rw [←gtB_true];simp
theorem gtB_trans {a b c:Rc}(h1:gtB a b=false) (h2:gtB b c=false):gtB a c=false:=by
 rw [gtB_false] at*;omega
theorem gtB_trans' {a b c:Rc} (h1:gtB a b=false) (h2:gtB c b=true):gtB c a=true:=by
 rw [gtB_false] at h1;rw [gtB_true] at*;omega
def pos (r:Rc) (out:List Rc):Nat→Nat
 |0=>0
 |n+1=>if gtB (out.getD n zR) r then pos r out n else n+1
def insR (out:List Rc) (r:Rc):List Rc:=out.take (pos r out out.length)++r::out.drop (pos r out out.length)
def sortR (l:List Rc):List Rc:=l.foldl insR []
theorem pos_le (r:Rc) (out:List Rc):∀n,pos r out n≤n
 |0=>Nat.le_refl _
 |n+1=>by
  unfold pos
  split
  ·exact Nat.le_succ_of_le (pos_le r out n)
  ·exact Nat.le_refl _
theorem pos_behind (r:Rc) (out:List Rc):∀n i,pos r out n≤i→i<n→gtB (out.getD i zR) r=true
 |0,i,_,h=>absurd h (Nat.not_lt_zero _)
 |n+1,i,h1,h2=>by
  unfold pos at h1
  split at h1
  ·rename_i h
   rcases Nat.lt_or_ge i n with h3|h3
   ·exact pos_behind r out n i h1 h3
   ·obtain rfl:i=n:=by omega
    exact h
  ·omega
theorem pos_ahead (r:Rc) (out:List Rc):∀n,0<pos r out n→gtB (out.getD (pos r out n-1) zR) r=false
 |0,h=>absurd h (Nat.lt_irrefl _)
 |n+1,h=>by
  unfold pos at h⊢
  split
  ·rename_i h1
   rw[if_pos h1] at h
   exact pos_ahead r out n h
  ·rename_i h1
   simpa using h1
def Srt (s:List Rc):Prop:=s.Pairwise fun a b=>gtB a b=false
theorem Srt.take {s:List Rc}(h:Srt s) (n:Nat):Srt (s.take n):=List.Pairwise.sublist (List.take_sublist _ _) h
theorem Srt.drop {s:List Rc} (h:Srt s) (n:Nat):Srt (s.drop n):=List.Pairwise.sublist (List.drop_sublist _ _) h
theorem mem_take_at {s:List Rc}{n:Nat}{x:Rc}(h:x∈s.take n):∃i,i<n∧i<s.length∧s.getD i zR=x:=by
 obtain ⟨i,hi,rfl⟩:=List.getElem_of_mem h
 simp at hi
 exact ⟨i,by omega,by omega,by rw[getD_at (by omega)];simp⟩
theorem mem_drop_at {s:List Rc}{n:Nat}{x:Rc}(h:x∈s.drop n):∃i,n≤i∧i<s.length∧s.getD i zR=x:=by
 obtain ⟨i,hi,rfl⟩:=List.getElem_of_mem h
 simp at hi
 exact ⟨n+i,by omega,by omega,by rw[getD_at (by omega)];simp⟩
theorem Srt.at {s:List Rc} (h:Srt s) {i j:Nat} (hij:i<j) (hj:j<s.length):gtB (s.getD i zR) (s.getD j zR)=false:=by
 rw[getD_at (by omega),getD_at hj]
 exact List.pairwise_iff_getElem.1 h i j (by omega) hj hij
theorem ins_ahead {out:List Rc} (h:Srt out) (r:Rc) {x:Rc} (hx:x∈out.take (pos r out out.length)):gtB x r=false:=by
 obtain ⟨i,h1,h2,rfl⟩:=mem_take_at hx
 have hp:=pos_ahead r out out.length (by omega)
 have hl:=pos_le r out out.length
 rcases Nat.lt_or_ge i (pos r out out.length-1) with h3|h3
 ·exact gtB_trans (h.at h3 (by omega)) hp
 ·obtain rfl:i=pos r out out.length-1:=by omega
  exact hp
theorem ins_behind {out:List Rc}(r:Rc){x:Rc}(hx:x∈out.drop (pos r out out.length)):gtB x r=true:=by
 obtain ⟨i,h1,h2,rfl⟩:=mem_drop_at hx
 exact pos_behind r out out.length i h1 h2
theorem gtB_asymm {a b:Rc}(h:gtB a b=true):gtB b a=false:=by rw[gtB_false];rw[gtB_true] at h;omega
theorem ins_srt {out:List Rc}(h:Srt out) (r:Rc):Srt (insR out r):=by
 unfold insR Srt
 rw[List.pairwise_append]
 refine ⟨h.take _,?_,?_⟩
 ·rw[List.pairwise_cons]
  exact ⟨fun x hx=>gtB_asymm (ins_behind r hx),h.drop _⟩
 ·intro x hx y hy
  rcases List.mem_cons.1 hy with rfl|hy
  ·exact ins_ahead h _ hx
  ·exact gtB_trans (ins_ahead h r hx) (gtB_asymm (ins_behind r hy))
theorem srt_nil:Srt []:=List.Pairwise.nil
theorem foldl_srt (l:List Rc):∀out,Srt out→Srt (l.foldl insR out):=by
 induction l with
 |nil=>intro out h;exact h
 |cons r t ih=>intro out h;exact ih _ (ins_srt h r)
theorem sort_srt (l:List Rc):Srt (sortR l):=foldl_srt l [] srt_nil
theorem ins_length (out:List Rc) (r:Rc):(insR out r).length=out.length+1:=by
 unfold insR
 have:= pos_le r out out.length
 simp;omega
theorem foldl_length (l:List Rc):∀out,(l.foldl insR out).length=out.length+l.length:=by
 induction l with
 |nil=>intro out;simp
 |cons r t ih=>intro out;rw[List.foldl_cons,ih,ins_length];simp;omega
theorem sort_length (l:List Rc):(sortR l).length=l.length:=by unfold sortR;rw[foldl_length];simp
def key (a b:Int) (r:Rc):Bool:=r.sh==a&&r.au==b
theorem key_true {a b:Int}{r:Rc}:key a b r=true↔r.sh=a∧r.au=b:=by unfold key;simp
theorem key_gt {a b:Int} {r x:Rc}(h:key a b r=true) (hx:gtB x r=true):key a b x=false:=by
 rw[key_true] at h
 rw[gtB_true] at hx
 cases hk:key a b x
 ·rfl
 ·rw[key_true] at hk;omega
theorem ins_filter (out:List Rc) (r:Rc) (a b:Int):(insR out r).filter (key a b)=out.filter (key a b)++[r].filter (key a b):=by
 unfold insR
 rw[List.filter_append,List.filter_cons]
 by_cases hk:key a b r=true
 ·rw[if_pos hk]
  have h0:(out.drop (pos r out out.length)).filter (key a b)=[]:=List.filter_eq_nil_iff.2 fun x hx=>by rw[key_gt hk (ins_behind r hx)];simp
  have h1:out.filter (key a b)=(out.take (pos r out out.length)).filter (key a b):=by
   conv=>lhs;rw[←List.take_append_drop (pos r out out.length) out,List.filter_append,h0,List.append_nil]
  rw[h0,h1];simp[hk]
 ·rw[if_neg hk,←List.filter_append,List.take_append_drop];simp[hk]
theorem foldl_filter (l:List Rc) (a b:Int):∀out,(l.foldl insR out).filter (key a b)=out.filter (key a b)++l.filter (key a b):=by
 induction l with
 |nil=>intro out;simp
 |cons r t ih=>intro out;rw[List.foldl_cons,ih,ins_filter,List.append_assoc,←List.filter_append];rfl
theorem sort_filter (l:List Rc) (a b:Int):(sortR l).filter (key a b)=l.filter (key a b):=by unfold sortR;rw[foldl_filter];rfl
theorem srt_one:∀{s t:List Rc},Srt s→Srt t→(∀a b,s.filter (key a b)=t.filter (key a b))→s=t:=by
 intro s
 induction s with
 |nil=>
  intro t _ _ h
  cases t with
  |nil=>rfl
  |cons y t'=>
   have:= h y.sh y.au
   rw[List.filter_cons,if_pos (key_true.2 ⟨rfl,rfl⟩)] at this
   cases this
 |cons x s' ih=>
  intro t hs ht h
  cases t with
  |nil=>
   have:= h x.sh x.au
   rw[List.filter_cons,if_pos (key_true.2 ⟨rfl,rfl⟩)] at this
   cases this
  |cons y t'=>
   have hs':=List.pairwise_cons.1 hs
   have ht':=List.pairwise_cons.1 ht
   have hy:y∈x::s':=by
    have h1:=h y.sh y.au
    have h2:y∈(y::t').filter (key y.sh y.au):=List.mem_filter.2 ⟨List.mem_cons_self,key_true.2 ⟨rfl,rfl⟩⟩
    rw[←h1] at h2
    exact (List.mem_filter.1 h2).1
   have hx:x∈y::t':=by
    have h1:=h x.sh x.au
    have h2:x∈(x ::s').filter (key x.sh x.au):=List.mem_filter.2 ⟨List.mem_cons_self,key_true.2 ⟨rfl,rfl⟩⟩
    rw[h1] at h2
    exact (List.mem_filter.1 h2).1
   have g1:gtB x y=false:=by
    rcases List.mem_cons.1 hy with h1|h1
    ·rw[h1,gtB_false];omega
    ·exact hs'.1 y h1
   have g2:gtB y x=false:=by
    rcases List.mem_cons.1 hx with h1|h1
    ·rw[h1,gtB_false];omega
    ·exact ht'.1 x h1
   have hk:x.sh=y.sh∧x.au=y.au:=by
    rw[gtB_false] at g1 g2;omega
   have h1:=h x.sh x.au
   rw[List.filter_cons,if_pos (key_true.2 ⟨rfl,rfl⟩),List.filter_cons,if_pos (key_true.2 ⟨hk.1.symm,hk.2.symm⟩)] at h1
   obtain ⟨rfl,-⟩:=List.cons.inj h1
   congr 1
   refine ih hs'.2 ht'.2 fun a b=>?_
   have h2:=h a b
   rw[List.filter_cons,List.filter_cons] at h2
   split at h2
   ·exact (List.cons.inj h2).2
   ·exact h2
theorem sort_of_srt {s:List Rc}(h:Srt s):sortR s=s:=srt_one (sort_srt s) h (sort_filter s)
theorem sort_eq {l s:List Rc}(h:Srt s) (hf:∀a b,s.filter (key a b)=l.filter (key a b)):s=sortR l:=srt_one h (sort_srt l) fun a b=>by rw[hf,sort_filter]
def sumBy (f:Rc→Int):List Rc→Int
 |[]=>0
 |r::t=>f r+sumBy f t
theorem sumBy_append (f:Rc→Int) (a b:List Rc):sumBy f (a ++b)=sumBy f a+sumBy f b:=by
 induction a with
 |nil=>simp[sumBy]
 |cons r t ih=>simp only[List.cons_append,sumBy,ih];omega
theorem sumBy_step (f:Rc→Int){L:List Rc}{j:Nat}(hj:j<L.length):sumBy f (L.take (j+1))=sumBy f (L.take j)+f (L.getD j zR):=by
 rw[take_at hj,sumBy_append];simp[sumBy]
theorem mem_sort {l:List Rc} {r:Rc}:r∈sortR l↔r∈l:=by
 have h:∀(x:Rc) (L:List Rc),x∈L↔x∈L.filter (key x.sh x.au):=fun x L=>by
  rw[List.mem_filter];exact ⟨fun h=>⟨h,key_true.2 ⟨rfl,rfl⟩⟩,fun h=>h.1⟩
 rw[h,sort_filter,←h]
theorem Right.sort {l:List Rc} (h:Right l):Right (sortR l):=⟨by rw [sort_length];exact h.few,fun r hr=>h.each r (mem_sort.1 hr)⟩
end Go.Proofs.YtofcnebekmjdoaaGreatDoor.Dy
