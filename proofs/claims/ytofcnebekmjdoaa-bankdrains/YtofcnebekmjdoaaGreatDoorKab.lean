import Derived.KernelRfl
set_option maxHeartbeats 4000000
set_option maxRecDepth 100000
namespace Go.Proofs.YtofcnebekmjdoaaGreatDoor.Bk
def inTot (s:Int):Bool:=decide (-1000000000000≤s)&&decide (s ≤1000000000000)
def inR (e:Int×Int):Bool:=decide (0 ≤e.1)&&decide (e.1<58)&&inTot e.2
theorem inTot_true {s:Int}:inTot s=true↔-1000000000000≤s∧s≤1000000000000:=by simp[inTot]
theorem inR_true {e:Int×Int}:inR e=true↔0≤e.1∧e.1<58∧-1000000000000≤e.2∧e.2≤1000000000000:=by
 simp [inR,inTot_true,and_assoc]
def getE (L:List (Int ×Int)) (acc:Int):Int:=
 match L with
 |[]=>0
 |e::r=>if e.1=acc then e.2 else getE r acc
theorem getE_none{L:List (Int×Int)}{acc:Int}(h:∀j,j<L.length→(L.getD j (0,0)).1≠acc):getE L acc=0:=by
 induction L with
 |nil=>rfl
 |cons e r ih=>
  have h0:=h 0 (by simp)
  simp at h0
  simp only[getE,if_neg h0]
  exact ih fun j hj=>by have:= h (j +1) (by simpa using hj);simpa using this
theorem drop_at {L:List (Int×Int)} {k:Nat}(hk:k<L.length):L.drop k=L.getD k (0,0)::L.drop (k +1):=by
 rw[List.drop_eq_getElem_cons hk];simp[List.getD,hk]
def wrongGo (prev:Option Int) (i:Nat) (tot:Int):List (Int ×Int)→Int×Int
 |[]=>if tot=0 then (0,0) else (8,0)
 |e::r=>if inR e=false then (3,i) else if e.2=0 then (2,i) else
   match prev with
   |none=>wrongGo (some e.1) (i+1) (tot +e.2) r
   |some p=>if e.1≤p then (2,i) else wrongGo (some e.1) (i +1) (tot+e.2) r
def wrong (L:List (Int ×Int)):Int×Int:=wrongGo none 0 0 L
def prevOf (L:List (Int ×Int)) (k:Nat):Option Int:=if k=0 then none else some (L.getD (k -1) (0,0)).1
structure Good (L:List (Int ×Int)) (k:Nat) (t:Int):Prop where
 left:wrong L=wrongGo (prevOf L k) k t (L.drop k)
 few:k≤58
 last:0<k→(k :Int)≤(L.getD (k -1) (0,0)).1+1∧(L.getD (k-1) (0,0)).1<58
 lo:-1000000000000*(k:Int)≤t
 hi:t≤1000000000000*(k:Int)
theorem good_zero (L:List (Int ×Int)):Good L 0 0:=⟨rfl,by omega,by omega,by omega,by omega⟩
theorem Good.range {L:List (Int ×Int)}{k:Nat}{t:Int} (g:Good L k t) (hk:k<L.length) (h:inR (L.getD k (0,0))=false):wrong L=(3,(k :Int)):=by
 rw [g.left,drop_at hk];simp only [wrongGo,h,if_pos]
theorem Good.zero {L:List (Int×Int)} {k:Nat} {t:Int}(g:Good L k t) (hk:k<L.length) (h:inR (L.getD k (0,0))=true) (h2:(L.getD k (0,0)).2=0):wrong L=(2,(k:Int)):=by
 rw[g.left,drop_at hk];simp only[wrongGo,h,h2,if_pos];simp
theorem Good.order {L:List (Int ×Int)} {k:Nat} {t:Int}(g:Good L k t) (hk:k<L.length) (h:inR (L.getD k (0,0))=true) (h2:(L.getD k (0,0)).2≠0) (h0:0<k)
  (h3:(L.getD k (0,0)).1≤(L.getD (k -1) (0,0)).1):wrong L=(2,(k:Int)):=by
 have hp:prevOf L k=some (L.getD (k -1) (0,0)).1:=by unfold prevOf;rw[if_neg (by omega)]
 rw[g.left,drop_at hk,hp];simp only[wrongGo,h,if_neg h2,if_pos h3];simp
theorem Good.next {L:List (Int ×Int)}{k:Nat}{t:Int} (g:Good L k t) (hk:k<L.length) (h:inR (L.getD k (0,0))=true) (h2:(L.getD k (0,0)).2≠0)
  (h3:0<k→(L.getD (k -1) (0,0)).1<(L.getD k (0,0)).1):Good L (k+1) (t+(L.getD k (0,0)).2):=by
 obtain ⟨r1,r2,r3,r4⟩:=inR_true.1 h
 have hl:=g.last
 refine ⟨?_,?_,fun _=>?_,?_,?_⟩
 ·have hp:prevOf L (k+1)=some (L.getD k (0,0)).1:=by unfold prevOf;rw[if_neg (by omega)];rfl
  rw[g.left,drop_at hk,hp]
  by_cases h0:k=0
  ·have hp:prevOf L k=none:=by unfold prevOf;rw[if_pos h0]
   rw[hp];simp only[wrongGo,h,if_neg h2];simp
  ·have hp:prevOf L k=some (L.getD (k-1) (0,0)).1:=by unfold prevOf;rw[if_neg h0]
   have :=h3 (by omega)
   rw[hp];simp only[wrongGo,h,if_neg h2,if_neg (show¬(L.getD k (0,0)).1≤(L.getD (k -1) (0,0)).1 by omega)];simp
 ·by_cases h0:k=0
  ·omega
  ·have :=h3 (by omega);have :=hl (by omega);omega
 ·by_cases h0:k=0
  ·subst h0;show ((0 +1:Nat):Int)≤(L.getD 0 (0,0)).1+1∧(L.getD 0 (0,0)).1<58;omega
  ·have :=h3 (by omega);have:= hl (by omega);show ((k +1:Nat):Int)≤(L.getD k (0,0)).1+1∧(L.getD k (0,0)).1<58;omega
 ·have:= g.lo;omega
 ·have :=g.hi;omega
theorem Good.fit {L:List (Int ×Int)}{t:Int}{k:Nat}(g:Good L k t) (hk:L.length≤k) (h:t≠0):wrong L=(8,0):=by
 rw[g.left,List.drop_eq_nil_of_le hk];simp[wrongGo,h]
theorem Good.done {L:List (Int ×Int)}{t:Int}{k:Nat}(g:Good L k t) (hk:L.length≤k) (h:t=0):wrong L=(0,0):=by
 rw[g.left,List.drop_eq_nil_of_le hk];simp[wrongGo,h]
def upd (f:Nat→Int) (i:Nat) (v:Int):Nat→Int:=fun j=>if j=i then v else f j
def listE (f:Nat→Int) (n:Nat):List (Int×Int):=((List.range n).filter fun k=>f k !=0).map fun (k:Nat)=>((k :Int),f k)
theorem listE_hit (f:Nat→Int) (k:Nat) (h:f k≠0):listE f (k +1)=listE f k++[((k:Int),f k)]:=by
 simp[listE,List.range_succ,List.filter_append,h]
theorem listE_miss (f:Nat→Int) (k:Nat) (h:f k=0):listE f (k+1)=listE f k:=by
 simp [listE,List.range_succ,List.filter_append,h]
theorem listE_le (f:Nat→Int) (k:Nat):(listE f k).length≤k:=by
 have:= List.length_filter_le (fun k=>f k !=0) (List.range k)
 simpa[listE] using this
def entGo (t:Int):List (Int ×Int)→Int
 |[]=>if t=0 then 0 else 8
 |e::r=>if inR e=false then 3 else entGo (t +e.2) r
def wrongEs (E:List (Int ×Int)):Int:=if 10<E.length then 5 else entGo 0 E
structure GoodE (E:List (Int×Int)) (k:Nat) (t:Int):Prop where
 left:entGo 0 E=entGo t (E.drop k)
 lo:-1000000000000*(k:Int)≤t
 hi:t≤1000000000000*(k:Int)
theorem goodE_zero (E:List (Int ×Int)):GoodE E 0 0:=⟨rfl,by omega,by omega⟩
theorem GoodE.range {L:List (Int ×Int)}{k:Nat}{t:Int} (g:GoodE L k t) (hk:k<L.length) (h:inR (L.getD k (0,0))=false):entGo 0 L=3:=by
 rw [g.left,drop_at hk];simp only [entGo,h,if_pos]
theorem GoodE.next{L:List (Int ×Int)}{k:Nat}{t:Int}(g:GoodE L k t) (hk:k<L.length) (h:inR (L.getD k (0,0))=true):GoodE L (k+1) (t+(L.getD k (0,0)).2):=by
 obtain ⟨r1,r2,r3,r4⟩:=inR_true.1 h
 refine ⟨?_,?_,?_⟩
 ·rw[g.left,drop_at hk];simp only[entGo,h];simp
 ·have :=g.lo;omega
 ·have :=g.hi;omega
theorem GoodE.fit {L:List (Int ×Int)} {t:Int} {k:Nat} (g:GoodE L k t) (hk:L.length≤k) (h:t≠0):entGo 0 L=8:=by
 rw[g.left,List.drop_eq_nil_of_le hk];simp[entGo,h]
theorem GoodE.done {L:List (Int ×Int)} {t:Int} {k:Nat}(g:GoodE L k t) (hk:L.length≤k) (h:t=0):entGo 0 L=0:=by
 rw[g.left,List.drop_eq_nil_of_le hk];simp[entGo,h]
theorem wrongEs_many {E:List (Int ×Int)}(h:10<E.length):wrongEs E=5:=by unfold wrongEs;rw[if_pos h]
theorem wrongEs_few {E:List (Int ×Int)}(h:E.length≤10):wrongEs E=entGo 0 E:=by unfold wrongEs;rw [if_neg (by omega)]
theorem entGo_ok {t:Int} {E:List (Int×Int)}:entGo t E=0↔(∀ e∈E,inR e=true)∧t+(E.map (·.2)).sum=0:=by
 induction E generalizing t with
 |nil=>simp[entGo]
 |cons e r ih=>
  cases h:inR e with
  |false=>simp[entGo,h]
  |true=>
   have h1:entGo t (e::r)=entGo (t +e.2) r:=by simp[entGo,h]
   rw[h1,ih]
   simp[h,Int.add_assoc]
theorem wrongEs_ok {E:List (Int ×Int)}:wrongEs E=0↔E.length≤10∧(∀ e∈E,inR e=true)∧(E.map (·.2)).sum=0:=by
 by_cases h:10<E.length
 ·simp[wrongEs_many h];omega
 ·rw[wrongEs_few (by omega),entGo_ok];simp;omega
structure Right (L:List (Int×Int)):Prop where
 all:∀e∈L,inR e=true∧e.2≠0
 rise:L.Pairwise fun a b=>a.1<b.1
 fit:(L.map (·.2)).sum=0
theorem wrongGo_ok{p:Option Int}{i:Nat}{t:Int}{L:List (Int×Int)}:
  (wrongGo p i t L).1=0↔(∀ e∈L,inR e=true∧e.2≠0)∧(L.Pairwise fun a b=>a.1<b.1)∧(∀q,p=some q→∀e∈L,q<e.1)∧t+(L.map (·.2)).sum=0:=by
 induction L generalizing p i t with
 |nil=>by_cases h:t=0<;>simp[wrongGo,h]
 |cons e r ih=>
  cases h:inR e with
  |false=>simp[wrongGo,h]
  |true=>
   by_cases h2:e.2=0
   ·simp[wrongGo,h,h2]
   ·have tail:(wrongGo (some e.1) (i +1) (t+e.2) r).1=0↔(∀ x∈e::r,inR x=true∧x.2≠0)∧((e ::r).Pairwise fun a b=>a.1<b.1)∧t+((e ::r).map (·.2)).sum=0:=by
     rw[ih,List.pairwise_cons,List.map_cons,List.sum_cons]
     constructor
     ·rintro ⟨a1,a2,a3,a4⟩
      refine ⟨fun x hx=>?_,⟨fun x hx=>a3 e.1 rfl x hx,a2⟩,by omega⟩
      rcases List.mem_cons.1 hx with hx|hx
      ·rw[hx];exact ⟨h,h2⟩
      ·exact a1 x hx
     ·rintro ⟨a1,⟨a2,a3⟩,a4⟩
      exact ⟨fun x hx=>a1 x (List.mem_cons_of_mem _ hx),a3,fun q hq x hx=>by cases hq;exact a2 x hx,by omega⟩
    cases p with
    |none=>
     simp only[wrongGo,h,if_neg h2]
     simp only[Bool.true_eq_false,if_false]
     rw[tail]
     constructor
     ·rintro ⟨a1,a2,a3⟩;exact ⟨a1,a2,fun q hq=>(by cases hq),a3⟩
     ·rintro ⟨a1,a2,_,a3⟩;exact ⟨a1,a2,a3⟩
    |some q=>
     by_cases h3:e.1≤q
     ·simp only[wrongGo,h,if_neg h2,if_pos h3]
      constructor
      ·intro hc;simp at hc
      ·rintro ⟨_,_,a3,_⟩
       have:= a3 q rfl e (by simp)
       omega
     ·simp only[wrongGo,h,if_neg h2,if_neg h3]
      simp only[Bool.true_eq_false,if_false]
      rw[tail]
      constructor
      ·rintro ⟨a1,a2,a3⟩
       refine ⟨a1,a2,fun y hy x hx=>?_,a3⟩
       cases hy
       rcases List.mem_cons.1 hx with hx|hx
       ·rw[hx];omega
       ·rw[List.pairwise_cons] at a2
        have :=a2.1 x hx
        omega
      ·rintro ⟨a1,a2,_,a3⟩;exact ⟨a1,a2,a3⟩
theorem wrong_ok {L:List (Int ×Int)}:(wrong L).1=0↔Right L:=by
 unfold wrong
 rw[wrongGo_ok]
 constructor
 ·rintro ⟨h1,h2,-,h4⟩;exact ⟨h1,h2,by simpa using h4⟩
 ·rintro ⟨h1,h2,h4⟩;exact ⟨h1,h2,by simp,by simpa using h4⟩
theorem rise_le {L:List (Int ×Int)}{c:Int} (hc:c≤58) (h1:∀e∈L,c≤e.1∧e.1<58) (h2:L.Pairwise fun a b=>a.1<b.1):(L.length :Int)+c≤58:=by
 induction L generalizing c with
 |nil=>simpa using hc
 |cons e r ih=>
  rw [List.pairwise_cons] at h2
  have he:=h1 e (by simp)
  have :=ih (c:=c+1) (by omega) (fun x hx=>⟨by have:= h2.1 x hx;omega,(h1 x (by simp [hx])).2⟩) h2.2
  simp;omega
theorem Right.few {L:List (Int ×Int)}(h:Right L):L.length≤58:=by
 have :=rise_le (c:=0) (by omega) (fun e he=>by have:= inR_true.1 (h.all e he).1;omega) h.rise
 omega
def zeroF:Nat→Int:=fun _=>0
def addL (f:Nat→Int):List (Int ×Int)→(Nat →Int)
 |[]=>f
 |e::r=>addL (upd f e.1.toNat (f e.1.toNat+e.2)) r
def addAll (f:Nat→Int):List (Int×Int)→Option (Nat →Int)
 |[]=>some f
 |e::r=>if inTot (f e.1.toNat+e.2) then addAll (upd f e.1.toNat (f e.1.toNat+e.2)) r else none
def post (l E:List (Int ×Int)):List (Int ×Int)×Int:=
 if (wrong l).1≠0 then ([],(wrong l).1) else if wrongEs E≠0 then ([],wrongEs E) else
  match addAll (addL zeroF l) E with
  |none=>([],4)
  |some f=>(listE f 58,0)
theorem post_wrong {l E:List (Int×Int)}(h:(wrong l).1≠0):post l E=([],(wrong l).1):=by unfold post;rw[if_pos h]
theorem post_entries {l E:List (Int×Int)} (h:(wrong l).1=0) (h2:wrongEs E≠0):post l E=([],wrongEs E):=by unfold post;rw [if_neg (by simp [h]),if_pos h2]
theorem post_much {l E:List (Int×Int)}(h:(wrong l).1=0) (h2:wrongEs E=0) (h3:addAll (addL zeroF l) E=none):post l E=([],4):=by
 unfold post;rw[if_neg (by simp[h]),if_neg (by simp[h2]),h3]
theorem post_done{l E:List (Int ×Int)}{f:Nat→Int}(h:(wrong l).1=0) (h2:wrongEs E=0) (h3:addAll (addL zeroF l) E=some f):post l E=(listE f 58,0):=by
 unfold post;rw[if_neg (by simp[h]),if_neg (by simp[h2]),h3]
structure AddL (l:List (Int ×Int)) (k:Nat) (g:Nat→Int):Prop where
 left:addL zeroF l=addL g (l.drop k)
 small:∀i,-1000000000000*(k:Int)≤g i∧g i≤1000000000000*(k:Int)
theorem upd_small {f:Nat→Int}{i:Nat}{v c d:Int} (h:∀i,-c≤f i∧f i≤c) (hv:-d≤v∧v≤d) (hd:0≤d):∀j,-(c +d)≤upd f i (f i+v) j∧upd f i (f i+v) j≤c+d:=by
 intro j
 unfold upd
 have:= h i
 have:= h j
 split<;>omega
theorem addL_zero (l:List (Int×Int)):AddL l 0 zeroF:=⟨rfl,fun i=>by simp [zeroF]⟩
theorem AddL.next {l:List (Int×Int)}{k:Nat}{g:Nat→Int}(h:AddL l k g) (hk:k<l.length) (hr:inR (l.getD k (0,0))=true):
  AddL l (k+1) (upd g (l.getD k (0,0)).1.toNat (g (l.getD k (0,0)).1.toNat+(l.getD k (0,0)).2)):=by
 obtain ⟨r1,r2,r3,r4⟩:=inR_true.1 hr
 refine ⟨by rw[h.left,drop_at hk];rfl,fun i=>?_⟩
 have:= upd_small (f:=g) (i:=(l.getD k (0,0)).1.toNat) (v:=(l.getD k (0,0)).2) (c:=1000000000000*(k :Int)) (d:=1000000000000) (fun i=>by have :=h.small i;omega) (by omega) (by omega) i
 omega
theorem AddL.done {l:List (Int×Int)}{k:Nat}{g:Nat→Int}(h:AddL l k g) (hk:l.length≤k):addL zeroF l=g:=by
 rw[h.left,List.drop_eq_nil_of_le hk];rfl
structure AddAll (f:Nat→Int) (E:List (Int ×Int)) (k:Nat) (g:Nat→Int):Prop where
 left:addAll f E=addAll g (E.drop k)
 small:∀i,-1000000000000*(58+(k :Int))≤g i∧g i≤1000000000000*(58 +(k:Int))
theorem addAll_zero {f:Nat→Int} (E:List (Int×Int)) (h:∀i,-58000000000000≤f i∧f i≤58000000000000):AddAll f E 0 f:=⟨rfl,fun i=>by have:= h i;omega⟩
theorem AddAll.next {f:Nat→Int}{E:List (Int×Int)}{k:Nat}{g:Nat→Int}(h:AddAll f E k g) (hk:k<E.length) (hr:inR (E.getD k (0,0))=true)
  (ht:inTot (g (E.getD k (0,0)).1.toNat+(E.getD k (0,0)).2)=true):
  AddAll f E (k +1) (upd g (E.getD k (0,0)).1.toNat (g (E.getD k (0,0)).1.toNat+(E.getD k (0,0)).2)):=by
 obtain ⟨r1,r2,r3,r4⟩:=inR_true.1 hr
 refine ⟨by rw[h.left,drop_at hk];simp only[addAll,ht,if_pos],fun i=>?_⟩
 have:= upd_small (f:=g) (i:=(E.getD k (0,0)).1.toNat) (v:=(E.getD k (0,0)).2) (c:=1000000000000*(58 +(k :Int))) (d:=1000000000000) (fun i=>by have:= h.small i;omega) (by omega) (by omega) i
 omega
theorem AddAll.much {f:Nat→Int}{E:List (Int×Int)}{k:Nat}{g:Nat→Int} (h:AddAll f E k g) (hk:k<E.length)
  (ht:inTot (g (E.getD k (0,0)).1.toNat+(E.getD k (0,0)).2)=false):addAll f E=none:=by
 rw [h.left,drop_at hk];simp only [addAll,ht];simp
theorem AddAll.done {f:Nat→Int}{E:List (Int×Int)}{k:Nat}{g:Nat→Int}(h:AddAll f E k g) (hk:E.length≤k):addAll f E=some g:=by
 rw[h.left,List.drop_eq_nil_of_le hk];rfl
theorem getD_mem {L:List (Int ×Int)} {k:Nat}(hk:k<L.length):L.getD k (0,0)∈L:=by
 simp[List.getD,hk]
def given (acc:Int):List (Int ×Int)→Int
 |[]=>0
 |e::r=>(if e.1=acc then e.2 else 0)+given acc r
def total (f:Nat→Int):Nat→Int
 |0=>0
 |n+1=>total f n+f n
theorem total_upd (f:Nat→Int) (i:Nat) (v:Int) (n:Nat):total (upd f i (f i+v)) n=total f n+if i<n then v else 0:=by
 induction n with
 |zero=>simp [total]
 |succ n ih=>
  simp only [total,ih]
  unfold upd
  by_cases h:n=i
  ·subst h;simp;omega
  ·simp only [if_neg h]
   by_cases h2:i<n
   ·simp only [if_pos h2,if_pos (show i<n+1 by omega)];omega
   ·simp only [if_neg h2,if_neg (show¬i<n+1 by omega)];omega
theorem addL_total {f:Nat→Int}{l:List (Int×Int)}(h:∀e∈l,inR e=true):total (addL f l) 58=total f 58+(l.map (·.2)).sum:=by
 induction l generalizing f with
 |nil=>simp[addL]
 |cons e r ih=>
  have he:=inR_true.1 (h e (by simp))
  simp only[addL,List.map_cons,List.sum_cons]
  rw[ih fun x hx=>h x (by simp[hx]),total_upd,if_pos (by omega)]
  omega
theorem addL_at {f:Nat→Int} {l:List (Int×Int)}(h:∀e∈l,inR e=true) (i:Nat):addL f l i=f i+given i l:=by
 induction l generalizing f with
 |nil=>simp[addL,given]
 |cons e r ih=>
  have he:=inR_true.1 (h e (by simp))
  simp only[addL,given]
  rw[ih fun x hx=>h x (by simp[hx])]
  unfold upd
  by_cases hi:i=e.1.toNat
  ·rw[if_pos hi,if_pos (by omega),hi];omega
  ·rw[if_neg hi,if_neg (by omega)];omega
theorem addAll_total {f g:Nat→Int} {l:List (Int×Int)} (h:∀e∈l,inR e=true) (ha:addAll f l=some g):total g 58=total f 58+(l.map (·.2)).sum:=by
 induction l generalizing f with
 |nil=>simp[addAll] at ha;subst ha;simp
 |cons e r ih=>
  have he:=inR_true.1 (h e (by simp))
  simp only[addAll] at ha
  split at ha
  ·simp only[List.map_cons,List.sum_cons]
   rw[ih (fun x hx=>h x (by simp[hx])) ha,total_upd,if_pos (by omega)]
   omega
  ·cases ha
theorem addAll_at{f g:Nat→Int}{l:List (Int ×Int)}(h:∀e∈l,inR e=true) (ha:addAll f l=some g) (i:Nat):g i=f i+given i l:=by
 induction l generalizing f with
 |nil=>simp[addAll] at ha;subst ha;simp[given]
 |cons e r ih=>
  have he:=inR_true.1 (h e (by simp))
  simp only[addAll] at ha
  split at ha
  ·simp only[given]
   rw[ih (fun x hx=>h x (by simp[hx])) ha]
   unfold upd
   by_cases hi:i=e.1.toNat
   ·rw[if_pos hi,if_pos (by omega),hi];omega
   ·rw[if_neg hi,if_neg (by omega)];omega
  ·cases ha
theorem addAll_small {f g:Nat→Int}{l:List (Int ×Int)}(hf:∀i,inTot (f i)=true) (ha:addAll f l=some g):∀i,inTot (g i)=true:=by
 induction l generalizing f with
 |nil=>simp[addAll] at ha;subst ha;exact hf
 |cons e r ih=>
  simp only[addAll] at ha
  split at ha
  ·rename_i ht
   refine ih (fun i=>?_) ha
   unfold upd
   split
   ·exact ht
   ·exact hf i
  ·cases ha
theorem given_none {acc:Int}{l:List (Int ×Int)}(h:∀e∈l,e.1≠acc):given acc l=0:=by
 induction l with
 |nil=>rfl
 |cons e r ih=>
  simp only[given]
  rw[if_neg (h e (by simp)),ih fun x hx=>h x (by simp[hx])];rfl
theorem given_rise {acc:Int}{l:List (Int ×Int)} (h:l.Pairwise fun a b=>a.1<b.1):given acc l=getE l acc:=by
 induction l with
 |nil=>rfl
 |cons e r ih=>
  rw [List.pairwise_cons] at h
  simp only [given,getE]
  by_cases he:e.1=acc
  ·rw [if_pos he,if_pos he,given_none fun x hx=>by have:= h.1 x hx;omega];omega
  ·rw [if_neg he,if_neg he,ih h.2];omega
theorem listE_mem {f:Nat→Int} {n:Nat} {e:Int×Int}:e∈listE f n↔∃k,k<n∧f k≠0∧e=((k:Int),f k):=by
 simp only[listE,List.mem_map,List.mem_filter,List.mem_range,bne_iff_ne]
 constructor
 ·rintro ⟨k,⟨h1,h2⟩,rfl⟩;exact ⟨k,h1,h2,rfl⟩
 ·rintro ⟨k,h1,h2,rfl⟩;exact ⟨k,⟨h1,h2⟩,rfl⟩
theorem listE_rise (f:Nat→Int) (n:Nat):(listE f n).Pairwise fun a b=>a.1<b.1:=by
 induction n with
 |zero=>exact List.Pairwise.nil
 |succ n ih=>
  by_cases h:f n=0
  ·rw[listE_miss f n h];exact ih
  ·rw[listE_hit f n h,List.pairwise_append]
   refine ⟨ih,by simp,fun a ha b hb=>?_⟩
   obtain ⟨k,hk,-,rfl⟩:=listE_mem.1 ha
   simp at hb;subst hb
   show (k:Int)<n
   omega
theorem listE_sum (f:Nat→Int) (n:Nat):((listE f n).map (·.2)).sum=total f n:=by
 induction n with
 |zero=>rfl
 |succ n ih=>
  by_cases h:f n=0
  ·rw[listE_miss f n h,ih,total,h];omega
  ·rw[listE_hit f n h,List.map_append,List.sum_append,ih,total];simp
theorem given_listE (f:Nat→Int) (acc:Int) (n:Nat):given acc (listE f n)=if 0≤acc∧acc<n then f acc.toNat else 0:=by
 induction n with
 |zero=>rw[if_neg (by omega)];rfl
 |succ n ih=>
  have app:∀a b:List (Int×Int),given acc (a ++b)=given acc a+given acc b:=by
   intro a b
   induction a with
   |nil=>simp[given]
   |cons x r ih=>simp only[List.cons_append,given,ih];omega
  by_cases h:f n=0
  ·rw[listE_miss f n h,ih]
   by_cases hc:0≤acc∧acc<n
   ·rw[if_pos hc,if_pos (by omega)]
   ·rw[if_neg hc]
    by_cases hq:0≤acc∧acc<((n +1:Nat):Int)
    ·rw[if_pos hq,show acc.toNat=n by omega,h]
    ·rw[if_neg hq]
  ·rw[listE_hit f n h,app,ih]
   simp only[given]
   by_cases hc:0≤acc∧acc<n
   ·rw[if_pos hc,if_neg (by omega),if_pos (by omega)];omega
   ·rw[if_neg hc]
    by_cases hq:0≤acc∧acc<((n+1:Nat):Int)
    ·rw[if_pos hq,if_pos (by omega),show acc.toNat=n by omega];omega
    ·rw[if_neg hq,if_neg (by omega)];rfl
theorem getE_in {l:List (Int ×Int)} {acc:Int}(h:∀e∈l,inR e=true) (ha:¬(0≤acc∧acc<58)):getE l acc=0∧given acc l=0:=by
 have hn:∀e∈l,e.1≠acc:=fun e he=>by have :=inR_true.1 (h e he);omega
 refine ⟨getE_none fun j hj=>hn _ (getD_mem hj),given_none hn⟩
theorem zero_total:total zeroF 58=0:=by
 have: ∀n,total zeroF n=0:=fun n=>by
  induction n with
  |zero=>rfl
  |succ n ih=>rw[total,ih];rfl
 exact this 58
theorem getE_mem (l:List (Int×Int)) (acc:Int):getE l acc=0∨∃e∈l,getE l acc=e.2:=by
 induction l with
 |nil=>exact Or.inl rfl
 |cons e r ih=>
  simp only[getE]
  by_cases he:e.1=acc
  ·rw[if_pos he];exact Or.inr ⟨e,by simp,rfl⟩
  ·rw[if_neg he]
   rcases ih with h0|⟨x,hx,h1⟩
   ·exact Or.inl h0
   ·exact Or.inr ⟨x,by simp[hx],h1⟩
theorem addL_tot {l:List (Int×Int)}(h:Right l) (i:Nat):inTot (addL zeroF l i)=true:=by
 rw[addL_at (fun e he=>(h.all e he).1),given_rise h.rise]
 simp only[zeroF,Int.zero_add]
 rcases getE_mem l i with h0|⟨e,he,h1⟩
 ·rw[h0];decide
 ·rw[h1];exact inTot_true.2 (by have:= inR_true.1 (h.all e he).1;omega)
theorem post_right {l E L:List (Int×Int)} (h:post l E=(L,0)):(wrong l).1=0∧wrongEs E=0∧(wrong L).1=0∧∀acc,getE L acc=getE l acc+given acc E:=by
 by_cases h1:(wrong l).1=0
 ·by_cases h2:wrongEs E=0
  ·have hr:=wrong_ok.1 h1
   obtain ⟨hlen,hall,hsum⟩:=wrongEs_ok.1 h2
   cases h3:addAll (addL zeroF l) E with
   |none=>rw [post_much h1 h2 h3] at h;simp at h
   |some f=>
    rw [post_done h1 h2 h3] at h
    obtain rfl:listE f 58=L:=by simpa using h
    have hin:∀e∈l,inR e=true:=fun e he=>(hr.all e he).1
    refine ⟨h1,h2,wrong_ok.2 ⟨fun e he=>?_,listE_rise f 58,?_⟩,fun acc=>?_⟩
    ·obtain ⟨k,hk,hne,rfl⟩:=listE_mem.1 he
     have:= inTot_true.1 (addAll_small (addL_tot hr) h3 k)
     exact ⟨inR_true.2 ⟨by show (0 :Int)≤k;omega,by show (k:Int)<58;omega,this.1,this.2⟩,hne⟩
    ·rw [listE_sum,addAll_total hall h3,addL_total hin,hr.fit,hsum,zero_total];rfl
    ·rw [←given_rise (listE_rise f 58),given_listE]
     by_cases ha:0≤acc∧acc<58
     ·rw [if_pos (by omega),addAll_at hall h3,addL_at hin,show ((acc.toNat:Nat):Int)=acc by omega,given_rise hr.rise]
      simp [zeroF]
     ·rw [if_neg (by omega),(getE_in hin ha).1,(getE_in hall ha).2];rfl
  ·rw [post_entries h1 h2] at h;simp at h;exact absurd h.2 h2
 ·rw [post_wrong h1] at h;simp at h;exact absurd h.2 h1
theorem getE_tot {l:List (Int ×Int)} (h:Right l) (acc:Int):-1000000000000≤getE l acc∧getE l acc≤1000000000000:=by
 rcases getE_mem l acc with h0|⟨e,he,h1⟩
 ·rw[h0];omega
 ·rw[h1];have:= inR_true.1 (h.all e he).1;omega
end Go.Proofs.YtofcnebekmjdoaaGreatDoor.Bk
namespace Go.Proofs.YtofcnebekmjdoaaGreatDoor.Au
structure Au where
 card:Int
 shop:Int
 sum:Int
 cap:Int
 ref:Int
 dis:Int
 till:Int
 shut:Bool
def none0:Au:=⟨0,0,0,0,0,0,0,false⟩
def isS (n:Int):Bool:=decide (0≤n)&&decide (n ≤1000000)
def isM (n:Int):Bool:=decide (1≤n)&&decide (n ≤1000000)
def isC (n:Int):Bool:=decide (0≤n)&&decide (n <8)
theorem isS_true {n:Int}:isS n=true↔0≤n∧n≤1000000:=by unfold isS;simp
theorem isM_true {n:Int}:isM n=true↔1≤n∧n≤1000000:=by unfold isM;simp
theorem isC_true {n:Int}:isC n=true↔0≤n∧n<8:=by unfold isC;simp
theorem isS_false {n:Int}:isS n=false↔¬(0 ≤n∧n≤1000000):=by rw [←isS_true];simp
theorem isM_false {n:Int}:isM n=false↔¬(1 ≤n∧n≤1000000):=by rw[←isM_true];simp
theorem isC_false {n:Int}:isC n=false↔¬(0 ≤n∧n<8):=by rw[←isC_true];simp
abbrev Rng (a:Au):Prop:=
 (0 ≤a.sum∧a.sum≤1000000)∧(0 ≤a.cap∧a.cap≤1000000)∧(0 ≤a.ref∧a.ref≤1000000)∧(0≤a.dis∧a.dis≤1000000)∧(0≤a.card∧a.card<8)∧(0 ≤a.shop∧a.shop<8)∧0≤a.till∧a.till≤1000100
abbrev Fit (a:Au):Prop:=a.cap≤a.sum∧a.ref+a.dis≤a.cap
def wrongA (a:Au):Int:=if Rng a then (if Fit a then 0 else 8) else 3
theorem wrongA_ok {a:Au}:wrongA a=0↔Rng a∧Fit a:=by
 unfold wrongA
 by_cases h:Rng a
 ·rw[if_pos h]
  by_cases h2:Fit a
  ·rw[if_pos h2];exact ⟨fun _=>⟨h,h2⟩,fun _=>rfl⟩
  ·rw[if_neg h2];exact ⟨fun e=>absurd e (by decide),fun e=>absurd e.2 h2⟩
 ·rw[if_neg h];exact ⟨fun e=>absurd e (by decide),fun e=>absurd e.1 h⟩
theorem wrongA_rng {a:Au}(h:¬Rng a):wrongA a=3:=by unfold wrongA;rw [if_neg h]
theorem wrongA_fit {a:Au}(h:Rng a) (h2:¬Fit a):wrongA a=8:=by unfold wrongA;rw[if_pos h,if_neg h2]
def room (a:Au) (k:Int):Int:=
 if k=1 then 1000000-a.sum else if k≤4 then a.sum-a.cap else if k≤6 then a.cap-a.ref-a.dis else a.dis
def mvErr (a:Au) (k n:Int):Int:=
 if wrongA a≠0 then wrongA a
 else if k<1∨8<k then 1
 else if n<1∨1000000<n then 3
 else if a.shut=true∧k≤4 then 9
 else if n≤room a k then 0
 else if k=1 then 4 else 10
def step (a:Au) (k n:Int):Au:=
 if k=1 then ⟨a.card,a.shop,a.sum+n,a.cap,a.ref,a.dis,a.till,a.shut⟩
 else if k=2 then ⟨a.card,a.shop,a.sum,a.cap+n,a.ref,a.dis,a.till,a.cap+n==a.sum⟩
 else if k=3 then ⟨a.card,a.shop,a.sum,a.cap+n,a.ref,a.dis,a.till,true⟩
 else if k=4 then ⟨a.card,a.shop,a.sum-n,a.cap,a.ref,a.dis,a.till,a.cap==a.sum-n⟩
 else if k=5 then ⟨a.card,a.shop,a.sum,a.cap,a.ref+n,a.dis,a.till,a.shut⟩
 else if k=6 then ⟨a.card,a.shop,a.sum,a.cap,a.ref,a.dis+n,a.till,a.shut⟩
 else if k=7 then ⟨a.card,a.shop,a.sum,a.cap,a.ref+n,a.dis-n,a.till,a.shut⟩
 else ⟨a.card,a.shop,a.sum,a.cap,a.ref,a.dis-n,a.till,a.shut⟩
def mv (a:Au) (k n:Int):Au×Int:=if mvErr a k n=0 then (step a k n,0) else (none0,mvErr a k n)
theorem mv_no {a:Au} {k n:Int}(h:mvErr a k n≠0):mv a k n=(none0,mvErr a k n):=by unfold mv;rw [if_neg h]
theorem mv_yes {a:Au}{k n:Int}(h:mvErr a k n=0):mv a k n=(step a k n,0):=by unfold mv;rw[if_pos h]
abbrev May (a:Au) (k n:Int):Prop:=
 Rng a∧Fit a∧1≤k∧k≤8∧1≤n∧n≤1000000∧(k ≤4→a.shut=false)∧n≤room a k
theorem mvErr_zero {a:Au}{k n:Int}:mvErr a k n=0↔May a k n:=by
 unfold mvErr May
 rw[←and_assoc,←wrongA_ok]
 by_cases h1:wrongA a=0
 ·rw[if_neg (by simpa using h1)]
  by_cases h2:k<1∨8<k
  ·rw[if_pos h2];constructor
   ·intro h;simp at h
   ·rintro ⟨-,p,q,-⟩;omega
  ·rw[if_neg h2]
   by_cases h3:n<1∨1000000<n
   ·rw[if_pos h3];constructor
    ·intro h;simp at h
    ·rintro ⟨-,-,-,p,q,-⟩;omega
   ·rw[if_neg h3]
    by_cases h4:a.shut=true∧k≤4
    ·rw[if_pos h4];constructor
     ·intro h;simp at h
     ·rintro ⟨-,-,-,-,-,p,-⟩;have:= p h4.2;rw[h4.1] at this;cases this
    ·rw[if_neg h4]
     have h4':k≤4→a.shut=false:=fun h=>by
      cases hs:a.shut
      ·rfl
      ·exact absurd ⟨hs,h⟩ h4
     by_cases h5:n≤room a k
     ·rw[if_pos h5];exact ⟨fun _=>⟨h1,by omega,by omega,by omega,by omega,h4',h5⟩,fun _=>rfl⟩
     ·rw[if_neg h5];constructor
      ·intro h;split at h<;>simp at h
      ·rintro ⟨-,-,-,-,-,-,p⟩;exact absurd p h5
 ·rw[if_pos h1];constructor
  ·intro h;exact absurd h h1
  ·rintro ⟨h,-⟩;exact absurd h h1
def newA (card shop n time:Int):Au×Int:=
 if (1 ≤n∧n≤1000000)∧0≤time∧time≤1000000∧(0 ≤card∧card<8)∧0≤shop∧shop<8 then (⟨card,shop,n,0,0,0,time+100,false⟩,0) else (none0,3)
def holdA (a:Au):Int:=if a.shut=true then 0 else a.sum-a.cap
def lateA (a:Au) (time:Int):Au:=⟨a.card,a.shop,a.sum,a.cap,a.ref,a.dis,a.till,a.shut||decide (a.till≤time)⟩
end Go.Proofs.YtofcnebekmjdoaaGreatDoor.Au
