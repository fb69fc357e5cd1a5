import Derived.Deep.RegionHeld
import Derived.Test.YtofcnebekmjdoaaGreatDoorKad
set_option maxHeartbeats 4000000
set_option maxRecDepth 100000
namespace Go.Proofs.YtofcnebekmjdoaaGreatDoor
theorem tk {P:Program}{md:Region.Mode}{ops:Array Oper}{Q:Exit→Act→World→Prop}{S:World→Prop}(i:Nat) (v:Value){oi:Oper}{fuel:Nat}{listed:Array Bool}{a:Act}{w:World}(hS:S w) (hy:∀w,S w→(execOp a.eval oi).run P w=.ok (.value v) w)
  (h:wpAnyH P md ops Q S fuel (listed.setIfInBounds i true) (a.put oi.dst v) w) (hi:ops[i]?=some oi:=by rfl) (hs:Region.noSelect ops=true:=by kernel_rfl) (hf:Region.free md ops listed i=true:=by kernel_rfl) (hr:(Region.ready md ops listed).contains i=true:=by kernel_rfl)
  (hQ:∀c a w,Q (.panic c) (a.put oi.dst v) w→Q (.panic c) a w:=by exact fun _ _ _ h=>h) (hw:Region.wanted oi (yielded ops a.tmps)=true:=by kernel_rfl):wpAnyH P md ops Q S (fuel +1) listed a w:=
 wpAnyH_take hi hs hf hr hQ (Or.inl ⟨hw,hy⟩) hS h
theorem rd {P:Program} {md:Region.Mode} {ops:Array Oper} {Q:Exit→Act→World→Prop} {S:World→Prop}(i:Nat) {fuel:Nat} {listed:Array Bool} {a:Act} {w:World}(h:AllReadyH P md ops Q S fuel listed a w [i]) (hr:Region.ready md ops listed=[i]:=by kernel_rfl):wpAnyH P md ops Q S (fuel +1) listed a w:=
 wpAnyH_ready hr (by simp) h
theorem nrm:type_of%@List.getElem_toArray∧type_of%@List.getElem_cons_zero∧type_of%@List.getElem_cons_succ∧type_of%@List.setIfInBounds_toArray∧type_of%@List.set_cons_zero∧type_of%@List.set_cons_succ:=⟨@List.getElem_toArray,@List.getElem_cons_zero,@List.getElem_cons_succ,@List.setIfInBounds_toArray,@List.set_cons_zero,@List.set_cons_succ⟩
structure Pa where
 t:Int
 c:Int
 s:Int
def wrongP (p:Pa):Int:=if p.t<1∨1000000<p.t∨p.c<0∨30<p.c∨p.s<0∨1000000000000<p.s then 3 else 0
structure RightP (p:Pa):Prop where
 t1:1≤p.t
 t2:p.t≤1000000
 c1:0≤p.c
 c2:p.c≤30
 s1:0≤p.s
 s2:p.s≤1000000000000
theorem wrongP_ok {p:Pa}:wrongP p=0↔RightP p:=by
 unfold wrongP
 constructor
 ·intro h
  split at h
  ·cases h
  ·exact ⟨by omega,by omega,by omega,by omega,by omega,by omega⟩
 ·intro h
  have :=h.t1;have:= h.t2;have:= h.c1;have:= h.c2;have :=h.s1;have :=h.s2
  rw[if_neg (by omega)]
def inU (u:Int×Int):Bool:=decide (0 ≤u.1)&&decide (u.1≤1000000)&&decide (0≤u.2)&&decide (u.2≤1000000)
theorem inU_true {u:Int×Int}:inU u=true↔0≤u.1∧u.1≤1000000∧0≤u.2∧u.2≤1000000:=by
 simp[inU,and_assoc]
theorem drop_at {L:List (Int×Int)}{k:Nat}(hk:k<L.length):L.drop k=L.getD k (0,0)::L.drop (k +1):=by
 rw[List.drop_eq_getElem_cons hk];simp[List.getD,hk]
theorem take_at {L:List (Int×Int)}{k:Nat}(hk:k<L.length):L.take (k +1)=L.take k++[L.getD k (0,0)]:=by
 rw[List.take_add_one];simp[List.getD,hk]
theorem getD_mem {L:List (Int ×Int)} {k:Nat}(hk:k<L.length):L.getD k (0,0)∈L:=by
 simp[List.getD,hk]
def usesGo (prev:Option Int) (i:Nat):List (Int ×Int)→Int×Int
 |[]=>(0,0)
 |u::r=>if inU u=false then (3,i) else
   match prev with
   |none=>usesGo (some u.1) (i +1) r
   |some q=>if u.1<q then (2,i) else usesGo (some u.1) (i +1) r
def uses (L:List (Int ×Int)):Int×Int:=if 30<L.length then (5,0) else usesGo none 0 L
def prevOf (L:List (Int ×Int)) (k:Nat):Option Int:=if k=0 then none else some (L.getD (k -1) (0,0)).1
def Good (L:List (Int×Int)) (k:Nat):Prop:=uses L=usesGo (prevOf L k) k (L.drop k)
theorem uses_many {L:List (Int×Int)}(h:30<L.length):uses L=(5,0):=by unfold uses;rw[if_pos h]
theorem good_zero {L:List (Int ×Int)}(h:L.length≤30):Good L 0:=by unfold Good uses;rw[if_neg (by omega)];rfl
theorem Good.range {L:List (Int ×Int)}{k:Nat}(g:Good L k) (hk:k<L.length) (h:inU (L.getD k (0,0))=false):uses L=(3,(k :Int)):=by
 rw[g,drop_at hk];simp only[usesGo,h,if_pos]
theorem Good.order{L:List (Int ×Int)}{k:Nat}(g:Good L k) (hk:k<L.length) (h:inU (L.getD k (0,0))=true) (h0:0<k)
  (h3:(L.getD k (0,0)).1<(L.getD (k -1) (0,0)).1):uses L=(2,(k :Int)):=by
 have hp:prevOf L k=some (L.getD (k -1) (0,0)).1:=by unfold prevOf;rw[if_neg (by omega)]
 rw[g,drop_at hk,hp];simp only[usesGo,h,if_pos h3];simp
theorem Good.next {L:List (Int×Int)} {k:Nat} (g:Good L k) (hk:k<L.length) (h:inU (L.getD k (0,0))=true)
  (h3:0<k→(L.getD (k -1) (0,0)).1≤(L.getD k (0,0)).1):Good L (k +1):=by
 have hp:prevOf L (k +1)=some (L.getD k (0,0)).1:=by unfold prevOf;rw[if_neg (by omega)];rfl
 unfold Good
 rw[g,drop_at hk,hp]
 by_cases h0:k=0
 ·have hp:prevOf L k=none:=by unfold prevOf;rw[if_pos h0]
  rw[hp];simp only[usesGo,h];simp
 ·have hp:prevOf L k=some (L.getD (k -1) (0,0)).1:=by unfold prevOf;rw[if_neg h0]
  have:= h3 (by omega)
  rw[hp];simp only[usesGo,h,if_neg (show¬(L.getD k (0,0)).1<(L.getD (k -1) (0,0)).1 by omega)];simp
theorem Good.done {L:List (Int ×Int)} {k:Nat}(g:Good L k) (hk:L.length≤k):uses L=(0,0):=by
 rw[g,List.drop_eq_nil_of_le hk];rfl
theorem usesGo_all {L:List (Int ×Int)}:∀{prev:Option Int}{i:Nat},(usesGo prev i L).1=0→∀u∈L,inU u=true:=by
 induction L with
 |nil=>intro _ _ _ u hu;simp at hu
 |cons e r ih=>
  intro prev i h u hu
  unfold usesGo at h
  by_cases he:inU e=false
  ·rw[if_pos he] at h;simp at h
  ·rw[if_neg he] at h
   have he:inU e=true:=by simpa using he
   have hr:∀u∈r,inU u=true:=by
    cases prev with
    |none=>exact ih h
    |some q=>
     dsimp only at h
     split at h
     ·simp at h
     ·exact ih h
   rcases List.mem_cons.1 hu with rfl|hu
   ·exact he
   ·exact hr u hu
theorem uses_ok {L:List (Int×Int)} (h:(uses L).1=0):L.length≤30∧∀u∈L,inU u=true:=by
 unfold uses at h
 split at h
 ·simp at h
 ·exact ⟨by omega,usesGo_all h⟩
def recent (o:Int) (L:List (Int×Int)):List (Int ×Int):=L.filter fun u=>decide (o <u.1)
theorem recent_le (o:Int) (L:List (Int×Int)):(recent o L).length≤L.length:=List.length_filter_le _ _
theorem recent_hit {o:Int}{L:List (Int ×Int)}{k:Nat} (hk:k<L.length) (h:o<(L.getD k (0,0)).1):recent o (L.take (k +1))=recent o (L.take k)++[L.getD k (0,0)]:=by
 rw [take_at hk];unfold recent;rw [List.filter_append];generalize L.getD k (0,0)=u at h⊢;simp [h]
theorem recent_miss {o:Int}{L:List (Int ×Int)}{k:Nat} (hk:k<L.length) (h:¬o<(L.getD k (0,0)).1):recent o (L.take (k +1))=recent o (L.take k):=by
 rw [take_at hk];unfold recent;rw [List.filter_append];generalize L.getD k (0,0)=u at h⊢;simp;omega
theorem recent_all {o:Int} {L:List (Int×Int)} {k:Nat}(hk:L.length≤k):recent o (L.take k)=recent o L:=by rw [List.take_of_length_le hk]
theorem recent_mem {o:Int} {L:List (Int ×Int)} {u:Int×Int} (h:u∈recent o L):u∈L:=(List.mem_filter.1 h).1
theorem recent_take_le' (o:Int) (L:List (Int×Int)) (k:Nat):(recent o (L.take k)).length≤L.length:=by
 have :=recent_le o (L.take k)
 simp at this
 omega
def tot:List (Int ×Int)→Int
 |[]=>0
 |u::r=>u.2+tot r
theorem tot_append (A B:List (Int ×Int)):tot (A ++B)=tot A+tot B:=by
 induction A with
 |nil=>simp[tot]
 |cons e r ih=>simp only[List.cons_append,tot,ih];omega
theorem tot_snoc (A:List (Int ×Int)) (u:Int×Int):tot (A++[u])=tot A+u.2:=by rw [tot_append];simp [tot]
theorem tot_bound {A:List (Int ×Int)}(h:∀u∈A,inU u=true):0≤tot A∧tot A≤1000000*(A.length :Int):=by
 induction A with
 |nil=>simp[tot]
 |cons e r ih=>
  have h1:=ih fun u hu=>h u (List.mem_cons_of_mem _ hu)
  have h2:=inU_true.1 (h e List.mem_cons_self)
  simp only[tot,List.length_cons]
  omega
theorem tot_take_le {A:List (Int ×Int)} (h:∀u∈A,inU u=true) (k:Nat):tot (A.take k)≤tot A:=by
 have h1:=tot_append (A.take k) (A.drop k)
 rw[List.take_append_drop] at h1
 have h2:=tot_bound (A:=A.drop k) fun u hu=>h u (List.mem_of_mem_drop hu)
 omega
def wrongAdd (p:Pa) (L:List (Int ×Int)) (x:Int×Int):Int:=
 if wrongP p≠0 then wrongP p else if (uses L).1≠0 then (uses L).1 else if inU x=false then 3
 else if 0<L.length∧x.1<(L.getD (L.length-1) (0,0)).1 then 2 else 0
def out (p:Pa) (L:List (Int ×Int)) (x:Int×Int):List (Int ×Int):=recent (x.1-p.t) L++[x]
def addU (p:Pa) (L:List (Int ×Int)) (x:Int×Int):List (Int ×Int)×Int:=
 if wrongAdd p L x≠0 then ([],wrongAdd p L x) else if p.c<(out p L x).length∨p.s<tot (out p L x) then ([],11) else (out p L x,0)
structure Fit (p:Pa) (L:List (Int ×Int)) (x:Int×Int):Prop where
 pace:RightP p
 few:L.length≤30
 all:∀u∈L,inU u=true
 inx:inU x=true
 last:0<L.length→(L.getD (L.length-1) (0,0)).1≤x.1
theorem wrongAdd_ok {p:Pa}{L:List (Int ×Int)}{x:Int×Int}(h:wrongAdd p L x=0):Fit p L x:=by
 unfold wrongAdd at h
 by_cases h1:wrongP p=0
 ·rw[if_neg (by simpa using h1)] at h
  by_cases h2:(uses L).1=0
  ·rw[if_neg (by simpa using h2)] at h
   by_cases h3:inU x=false
   ·rw[if_pos h3] at h;omega
   ·rw[if_neg h3] at h
    split at h
    ·omega
    ·next h4=>exact ⟨wrongP_ok.1 h1,(uses_ok h2).1,(uses_ok h2).2,by simpa using h3,fun h0=>by omega⟩
  ·rw[if_pos h2] at h;exact absurd h h2
 ·rw[if_pos h1] at h;exact absurd h h1
theorem addU_bad {p:Pa} {L:List (Int ×Int)} {x:Int×Int}(h:wrongAdd p L x≠0):addU p L x=([],wrongAdd p L x):=by unfold addU;rw [if_pos h]
theorem out_all {p:Pa} {L:List (Int ×Int)} {x:Int×Int}(f:Fit p L x):∀u∈out p L x,inU u=true:=by
 intro u hu
 unfold out at hu
 rcases List.mem_append.1 hu with h|h
 ·exact f.all u (recent_mem h)
 ·simp at h;subst h;exact f.inx
theorem out_few {p:Pa}{L:List (Int×Int)}{x:Int×Int}(f:Fit p L x):(out p L x).length≤31:=by
 have :=recent_le (x.1-p.t) L
 have :=f.few
 unfold out
 simp
 omega
theorem addU_zero{p:Pa}{L:List (Int ×Int)}{x:Int×Int}(h:(addU p L x).2=0):
  wrongAdd p L x=0∧((out p L x).length:Int)≤p.c∧tot (out p L x)≤p.s∧addU p L x=(out p L x,0):=by
 unfold addU at h⊢
 by_cases h1:wrongAdd p L x=0
 ·rw[if_neg (by simpa using h1)] at h⊢
  by_cases h2:p.c<(out p L x).length∨p.s<tot (out p L x)
  ·rw[if_pos h2] at h;simp at h
  ·rw[if_neg h2]
   exact ⟨h1,by omega,by omega,rfl⟩
 ·rw[if_pos h1] at h;exact absurd h h1
structure Ca where
 m:Int
 h:Int
 p:Pa
 u:List (Int ×Int)
def zeroC:Ca:=⟨0,0,⟨0,0,0⟩,[]⟩
abbrev off (m h:Int):Prop:=m< -1000000000000∨1000000000000<m∨h<0∨1000000000000<h
def wrongC (c:Ca):Int:=if off c.m c.h then 3 else if wrongP c.p≠0 then wrongP c.p else (uses c.u).1
structure RightC (c:Ca):Prop where
 m1:-1000000000000≤c.m
 m2:c.m≤1000000000000
 h1:0≤c.h
 h2:c.h≤1000000000000
 pace:wrongP c.p=0
 uses:(uses c.u).1=0
theorem wrongC_off {c:Ca} (h:off c.m c.h):wrongC c=3:=by unfold wrongC;rw[if_pos h]
theorem wrongC_pace {c:Ca}(h:¬off c.m c.h) (h1:wrongP c.p≠0):wrongC c=wrongP c.p:=by unfold wrongC;rw[if_neg h,if_pos h1]
theorem wrongC_uses {c:Ca} (h:¬off c.m c.h) (h1:wrongP c.p=0):wrongC c=(uses c.u).1:=by unfold wrongC;rw [if_neg h,if_neg (by simpa using h1)]
theorem wrongC_ok {c:Ca}:wrongC c=0↔RightC c:=by
 constructor
 ·intro h
  by_cases h0:off c.m c.h
  ·rw[wrongC_off h0] at h;cases h
  by_cases h1:wrongP c.p=0
  ·rw[wrongC_uses h0 h1] at h
   unfold off at h0
   exact ⟨by omega,by omega,by omega,by omega,h1,h⟩
  ·rw[wrongC_pace h0 h1] at h;exact absurd h h1
 ·intro h
  have h0:¬off c.m c.h:=by
   have:= h.m1;have:= h.m2;have :=h.h1;have:= h.h2
   unfold off;omega
  rw[wrongC_uses h0 h.pace];exact h.uses
def allowC (c:Ca) (s t:Int):Ca×Int:=
 if wrongC c≠0 then (zeroC,wrongC c) else if s<1∨1000000<s∨t<0∨1000000<t then (zeroC,3) else if c.m<c.h+s then (zeroC,10)
 else if (addU c.p c.u (t,s)).2≠0 then (zeroC,(addU c.p c.u (t,s)).2) else (⟨c.m,c.h+s,c.p,(addU c.p c.u (t,s)).1⟩,0)
def forceC (c:Ca) (s:Int):Ca×Int:=
 if wrongC c≠0 then (zeroC,wrongC c) else if s<1∨1000000<s∨1000000000000<c.h+s then (zeroC,3) else (⟨c.m,c.h+s,c.p,c.u⟩,0)
abbrev far (a b:Int):Prop:=a< -1000000000000∨1000000000000<a∨b< -1000000000000∨1000000000000<b
def shiftC (c:Ca) (a b:Int):Ca×Int:=
 if wrongC c≠0 then (zeroC,wrongC c) else if far a b then (zeroC,3) else if off (c.m+b) (c.h +a) then (zeroC,10) else (⟨c.m+b,c.h+a,c.p,c.u⟩,0)
theorem allowC_wrong {c:Ca} {s t:Int}(h:wrongC c≠0):allowC c s t=(zeroC,wrongC c):=by unfold allowC;rw [if_pos h]
theorem forceC_wrong {c:Ca} {s:Int}(h:wrongC c≠0):forceC c s=(zeroC,wrongC c):=by unfold forceC;rw[if_pos h]
theorem shiftC_wrong {c:Ca} {a b:Int}(h:wrongC c≠0):shiftC c a b=(zeroC,wrongC c):=by unfold shiftC;rw[if_pos h]
theorem allowC_range {c:Ca}{s t:Int}(h:wrongC c=0) (h1:s<1∨1000000<s∨t<0∨1000000<t):allowC c s t=(zeroC,3):=by
 unfold allowC;rw[if_neg (by simpa using h),if_pos h1]
theorem allowC_funds {c:Ca} {s t:Int}(h:wrongC c=0) (h1:¬(s <1∨1000000<s∨t<0∨1000000<t)) (h2:c.m<c.h+s):allowC c s t=(zeroC,10):=by
 unfold allowC;rw[if_neg (by simpa using h),if_neg h1,if_pos h2]
theorem allowC_add {c:Ca}{s t:Int} (h:wrongC c=0) (h1:¬(s <1∨1000000<s∨t<0∨1000000<t)) (h2:¬c.m<c.h+s) (h3:(addU c.p c.u (t,s)).2≠0):allowC c s t=(zeroC,(addU c.p c.u (t,s)).2):=by
 unfold allowC;rw [if_neg (by simpa using h),if_neg h1,if_neg h2,if_pos h3]
theorem allowC_ok {c:Ca} {s t:Int} (h:wrongC c=0) (h1:¬(s<1∨1000000<s∨t<0∨1000000<t)) (h2:¬c.m<c.h+s) (h3:(addU c.p c.u (t,s)).2=0):allowC c s t=(⟨c.m,c.h+s,c.p,(addU c.p c.u (t,s)).1⟩,0):=by
 unfold allowC;rw[if_neg (by simpa using h),if_neg h1,if_neg h2,if_neg (by simpa using h3)]
theorem forceC_range {c:Ca}{s:Int}(h:wrongC c=0) (h1:s<1∨1000000<s∨1000000000000<c.h+s):forceC c s=(zeroC,3):=by
 unfold forceC;rw[if_neg (by simpa using h),if_pos h1]
theorem forceC_ok {c:Ca}{s:Int} (h:wrongC c=0) (h1:¬(s<1∨1000000<s∨1000000000000<c.h+s)):forceC c s=(⟨c.m,c.h+s,c.p,c.u⟩,0):=by
 unfold forceC;rw [if_neg (by simpa using h),if_neg h1]
theorem shiftC_range {c:Ca} {a b:Int}(h:wrongC c=0) (h1:far a b):shiftC c a b=(zeroC,3):=by
 unfold shiftC;rw[if_neg (by simpa using h),if_pos h1]
theorem shiftC_funds {c:Ca} {a b:Int} (h:wrongC c=0) (h1:¬far a b) (h2:off (c.m+b) (c.h +a)):shiftC c a b=(zeroC,10):=by
 unfold shiftC;rw[if_neg (by simpa using h),if_neg h1,if_pos h2]
theorem shiftC_ok {c:Ca} {a b:Int}(h:wrongC c=0) (h1:¬far a b) (h2:¬off (c.m+b) (c.h+a)):shiftC c a b=(⟨c.m+b,c.h+a,c.p,c.u⟩,0):=by
 unfold shiftC;rw[if_neg (by simpa using h),if_neg h1,if_neg h2]
theorem right_shift {c:Ca}{a b:Int}(h:wrongC c=0):wrongC ⟨c.m+b,c.h+a,c.p,c.u⟩=0↔¬off (c.m+b) (c.h+a):=by
 have R:=wrongC_ok.1 h
 constructor
 ·intro h1 h2
  rw[wrongC_off (c:=⟨c.m+b,c.h+a,c.p,c.u⟩) h2] at h1;cases h1
 ·intro h1
  rw[wrongC_uses (c:=⟨c.m+b,c.h+a,c.p,c.u⟩) h1 R.pace];exact R.uses
theorem shift_zero {c:Ca}{a b:Int}(h:(shiftC c a b).2=0):wrongC c=0∧¬far a b∧¬off (c.m +b) (c.h+a)∧shiftC c a b=(⟨c.m+b,c.h+a,c.p,c.u⟩,0):=by
 by_cases h0:wrongC c=0
 ·by_cases h1:far a b
  ·rw[shiftC_range h0 h1] at h;simp at h
  ·by_cases h2:off (c.m+b) (c.h +a)
   ·rw[shiftC_funds h0 h1 h2] at h;simp at h
   ·exact ⟨h0,h1,h2,shiftC_ok h0 h1 h2⟩
 ·rw[shiftC_wrong h0] at h;exact absurd h h0
theorem usesGo_zero (L:List (Int ×Int)):∀(prev:Option Int) (i:Nat),(usesGo prev i L).1=0↔(∀u∈L,inU u=true)∧L.Pairwise (fun a b=>a.1≤b.1)∧∀q,prev=some q→∀u∈L,q≤u.1:=by
 induction L with
 |nil=>intro prev i;simp[usesGo]
 |cons e r ih=>
  intro prev i
  unfold usesGo
  cases he:inU e with
  |false=>simp[he]
  |true=>
   rw[if_neg (by simp)]
   cases prev with
   |none=>
    dsimp only
    rw[ih]
    simp only[List.mem_cons,forall_eq_or_imp,List.pairwise_cons,Option.some.injEq,he,true_and]
    constructor
    ·rintro ⟨h1,h2,h3⟩
     exact ⟨h1,⟨h3 e.1 rfl,h2⟩,fun q hq=>by cases hq⟩
    ·rintro ⟨h1,⟨h2,h3⟩,-⟩
     exact ⟨h1,h3,fun q hq=>by subst hq;exact h2⟩
   |some q=>
    dsimp only
    by_cases hq:e.1<q
    ·rw[if_pos hq]
     simp only[List.mem_cons,forall_eq_or_imp,Option.some.injEq]
     constructor
     ·intro h;simp at h
     ·rintro ⟨-,-,h3⟩
      have :=(h3 q rfl).1
      omega
    ·rw[if_neg hq,ih]
     simp only[List.mem_cons,forall_eq_or_imp,List.pairwise_cons,Option.some.injEq,he,true_and]
     constructor
     ·rintro ⟨h1,h2,h3⟩
      refine ⟨h1,⟨h3 e.1 rfl,h2⟩,fun q' hq'=>?_⟩
      subst hq'
      exact ⟨by omega,fun u hu=>by have:= h3 e.1 rfl u hu;omega⟩
     ·rintro ⟨h1,⟨h2,h3⟩,-⟩
      exact ⟨h1,h3,fun q' hq'=>by subst hq';exact h2⟩
theorem uses_zero (L:List (Int ×Int)):(uses L).1=0↔L.length≤30∧(∀ u∈L,inU u=true)∧L.Pairwise (fun a b=>a.1≤b.1):=by
 unfold uses
 by_cases h:30<L.length
 ·rw[if_pos h]
  constructor
  ·intro h1;simp at h1
  ·intro h1;omega
 ·rw[if_neg h,usesGo_zero]
  constructor
  ·rintro ⟨h1,h2,-⟩;exact ⟨by omega,h1,h2⟩
  ·rintro ⟨-,h1,h2⟩;exact ⟨h1,h2,fun q hq=>by cases hq⟩
theorem last_most {L:List (Int×Int)}(h:L.Pairwise (fun a b=>a.1≤b.1)):∀u∈L,u.1≤(L.getD (L.length-1) (0,0)).1:=by
 intro u hu
 obtain ⟨i,hi,rfl⟩:=List.mem_iff_getElem.1 hu
 have hg:L.getD (L.length -1) (0,0)=L[L.length-1]:=by simp[List.getD,show L.length-1<L.length by omega]
 rw[hg]
 by_cases he:i=L.length-1
 ·subst he;exact Int.le_refl _
 ·exact List.pairwise_iff_getElem.1 h i (L.length -1) hi (by omega) (by omega)
theorem uses_out {p:Pa}{L:List (Int×Int)}{x:Int×Int}(h:(addU p L x).2=0) (hu:(uses L).1=0):(uses (addU p L x).1).1=0:=by
 obtain ⟨h1,h2,h3,h4⟩:=addU_zero h
 have f:=wrongAdd_ok h1
 have hc:=f.pace.c2
 obtain ⟨-,-,u3⟩:=(uses_zero L).1 hu
 rw[h4,uses_zero]
 refine ⟨by dsimp only;omega,out_all f,?_⟩
 show (recent _ _++[x]).Pairwise _
 rw[List.pairwise_append]
 refine ⟨u3.filter _,by simp,fun a ha b hb=>?_⟩
 simp at hb
 subst hb
 have hm:=recent_mem ha
 have :=last_most u3 a hm
 have:= f.last (List.length_pos_of_mem hm)
 omega
theorem allow_zero {c:Ca}{s t:Int}(h:(allowC c s t).2=0):
  RightC c∧1≤s∧s≤1000000∧c.h+s≤c.m∧wrongC (allowC c s t).1=0∧(allowC c s t).1.m=c.m∧(allowC c s t).1.h=c.h+s:=by
 by_cases h0:wrongC c=0
 rotate_left
 ·rw[allowC_wrong h0] at h;exact absurd h h0
 by_cases h1:s<1∨1000000<s∨t<0∨1000000<t
 ·rw[allowC_range h0 h1] at h;simp at h
 by_cases h2:c.m<c.h+s
 ·rw[allowC_funds h0 h1 h2] at h;simp at h
 by_cases h3:(addU c.p c.u (t,s)).2=0
 rotate_left
 ·rw[allowC_add h0 h1 h2 h3] at h;exact absurd h h3
 rw[allowC_ok h0 h1 h2 h3]
 have R:=wrongC_ok.1 h0
 have :=R.m1;have :=R.m2;have:= R.h1;have:= R.h2
 refine ⟨R,by omega,by omega,by omega,?_,rfl,rfl⟩
 exact wrongC_ok.2 ⟨by dsimp only;omega,by dsimp only;omega,by dsimp only;omega,by dsimp only;omega,R.pace,uses_out h3 R.uses⟩
end Go.Proofs.YtofcnebekmjdoaaGreatDoor
namespace Go.Proofs.YtofcnebekmjdoaaGreatDoor.Bn
open Go.Proofs.YtofcnebekmjdoaaGreatDoor
structure Pk where
 t:Po.Tr
 seen:Int
structure Dd where
 id:Int
 kind:Int
 n:Int
 shop:Int
 mv:Int
 sum:Int
structure Bank where
 time:Int
 down:Bool
 cards:List Ca
 due:List Int
 auths:List Au.Au
 snd:Bool→Po.Se
 seen:Bool→Int
 way:Bool→List Pk
 stand:St.Sd
 today:List Dy.Rc
 days:List (List Int)
 book:List (Int ×Int)
def upd {α:Type}(f:Bool→α) (i:Bool) (x:α):Bool→α:=fun j=>if j=i then x else f j
theorem upd_same {α:Type}(f:Bool→α) (i:Bool) (x:α):upd f i x i=x:=by simp[upd]
theorem upd_other {α:Type}(f:Bool→α) (i:Bool) (x:α):upd f i x (!i)=f (!i):=by cases i<;>simp[upd]
def zA:Au.Au:=Au.none0
def moveB (l:List (Int ×Int)) (src dst sum:Int):List (Int ×Int)×Int:=
 if sum<0∨1000000000000<sum then ([],3) else Bk.post l [(src,-sum),(dst,sum)]
def Bank.card (b:Bank) (k:Int):Ca:=b.cards.getD k.toNat zeroC
def Bank.auth (b:Bank) (k:Int):Au.Au:=b.auths.getD k.toNat zA
def Bank.dueOf (b:Bank) (k:Int):Int:=b.due.getD k.toNat 0
def loadB (b:Bank) (d:Dd):Bank×Int:=
 if d.n<0∨(b.cards.length :Int)≤d.n then (b,6)
 else if d.sum<1∨1000000<d.sum then (b,3)
 else if (shiftC (b.card d.n) 0 d.sum).2≠0 then (b,(shiftC (b.card d.n) 0 d.sum).2)
 else if (moveB b.book 0 (10+d.n) d.sum).2≠0 then (b,(moveB b.book 0 (10+d.n) d.sum).2)
 else ({ b with cards:=b.cards.set d.n.toNat (shiftC (b.card d.n) 0 d.sum).1,book:=(moveB b.book 0 (10+d.n) d.sum).1},0)
def advOf (b:Bank) (d:Dd):St.Ad:=⟨d.n,d.shop,d.sum,b.time⟩
def askDown (b:Bank) (d:Dd):Bank×Int×Int:=
 if (St.giveD b.stand (advOf b d)).2≠0 then (b,(if (St.giveD b.stand (advOf b d)).2=10 then 12 else (St.giveD b.stand (advOf b d)).2),0)
 else if 30≤b.auths.length+b.stand.adv.length then (b,5,0)
 else ({ b with stand:=(St.giveD b.stand (advOf b d)).1},0,((b.auths.length+b.stand.adv.length:Nat):Int))
def askUp (b:Bank) (d:Dd):Bank×Int×Int:=
 if (Au.newA d.n d.shop d.sum b.time).2≠0 then (b,(Au.newA d.n d.shop d.sum b.time).2,0)
 else if 30≤b.auths.length then (b,5,0)
 else if (allowC (b.card d.n) d.sum b.time).2≠0 then (b,(allowC (b.card d.n) d.sum b.time).2,0)
 else ({b with cards:=b.cards.set d.n.toNat (allowC (b.card d.n) d.sum b.time).1,auths:=b.auths++[(Au.newA d.n d.shop d.sum b.time).1]},0,(b.auths.length:Int))
def askB (b:Bank) (d:Dd):Bank×Int×Int:=
 if d.n<0∨(b.cards.length:Int)≤d.n∨d.shop<0∨(b.due.length:Int)≤d.shop then (b,6,0)
 else if b.down=true then askDown b d else askUp b d
def cardBy (k n:Int):Int:=if k=2∨k=3∨k=8 then-n else if k=6 then n else 0
def dueBy (k n:Int):Int:=if k=5 then-n else 0
def bookBy (l:List (Int ×Int)) (a:Au.Au) (k n:Int):List (Int×Int)×Int:=
 if k=2∨k=3 then moveB l (10 +a.card) 1 n
 else if k=5 then moveB l (50 +a.shop) 1 n
 else if k=6 then moveB l 2 (10 +a.card) n
 else if k=8 then moveB l (10 +a.card) 2 n
 else (l,0)
def sendBy (s:Bool→Po.Se) (k auth n:Int):(Bool→Po.Se)×Int:=
 if k=2∨k=3 then (upd s false (Po.putS (s false) ⟨0,1,auth,n⟩).1,(Po.putS (s false) ⟨0,1,auth,n⟩).2)
 else if k=5 then (upd s true (Po.putS (s true) ⟨0,2,auth,n⟩).1,(Po.putS (s true) ⟨0,2,auth,n⟩).2)
 else if k=7 then (upd s false (Po.putS (s false) ⟨0,3,auth,n⟩).1,(Po.putS (s false) ⟨0,3,auth,n⟩).2)
 else (s,0)
def aft (b:Bank) (d:Dd):Au.Au:=Au.step (b.auth d.n) d.mv d.sum
def cardAft (b:Bank) (d:Dd):Ca×Int:=shiftC (b.card (b.auth d.n).card) (Au.holdA (aft b d)-Au.holdA (b.auth d.n)) (cardBy d.mv d.sum)
def moveAll (b:Bank) (d:Dd):Bank:=
  { b with cards:=b.cards.set (b.auth d.n).card.toNat (cardAft b d).1
           due:=b.due.set (b.auth d.n).shop.toNat (b.dueOf (b.auth d.n).shop+dueBy d.mv d.sum)
           book:=(bookBy b.book (b.auth d.n) d.mv d.sum).1
           snd:=(sendBy b.snd d.mv d.n d.sum).1
           today:=b.today++[⟨(b.auth d.n).shop,d.n,d.mv,d.sum⟩]
           auths:=b.auths.set d.n.toNat (aft b d)}
def moveD (b:Bank) (d:Dd):Bank×Int:=
 if b.down=true then (b,12)
 else if d.n<0∨(b.auths.length :Int)≤d.n then (b,6)
 else if Au.mvErr (b.auth d.n) d.mv d.sum≠0 then (b,Au.mvErr (b.auth d.n) d.mv d.sum)
 else if d.mv=1∧(b.card (b.auth d.n).card).m-(b.card (b.auth d.n).card).h<d.sum then (b,10)
 else if (cardAft b d).2≠0 then (b,(cardAft b d).2)
 else if (bookBy b.book (b.auth d.n) d.mv d.sum).2≠0 then (b,(bookBy b.book (b.auth d.n) d.mv d.sum).2)
 else if (sendBy b.snd d.mv d.n d.sum).2≠0 then (b,(sendBy b.snd d.mv d.n d.sum).2)
 else if 100≤b.today.length then (b,5)
 else (moveAll b d,0)
def lateC (time:Int) (cs:List Ca) (a:Au.Au):List Ca:=
 cs.set a.card.toNat ⟨(cs.getD a.card.toNat zeroC).m,(cs.getD a.card.toNat zeroC).h+(Au.holdA (Au.lateA a time)-Au.holdA a),(cs.getD a.card.toNat zeroC).p,(cs.getD a.card.toNat zeroC).u⟩
def shutB (b:Bank):Bank:={b with cards:=b.auths.foldl (lateC b.time) b.cards,auths:=b.auths.map fun a=>Au.lateA a b.time}
def tickB (b:Bank) (d:Dd):Bank×Int:=
 if d.sum<0∨1000000<d.sum∨1000000<b.time+d.sum then (b,3)
 else if b.down=true then ({ b with time:=b.time+d.sum},0)
 else (shutB {b with time:=b.time+d.sum},0)
def downB (b:Bank):Bank×Int:=if b.down=true then (b,8) else ({ b with down:=true},0)
def forceL (cs:List Ca) (x:St.Ad):List Ca:=
 cs.set x.c.toNat ⟨(cs.getD x.c.toNat zeroC).m,(cs.getD x.c.toNat zeroC).h+x.m,(cs.getD x.c.toNat zeroC).p,(cs.getD x.c.toNat zeroC).u⟩
def advA (x:St.Ad):Au.Au:=⟨x.c,x.s,x.m,0,0,0,x.t+100,false⟩
def upB (b:Bank):Bank×Int:=
 if b.down=true then
  (shutB {b with cards:=b.stand.adv.foldl forceL b.cards,auths:=b.auths++b.stand.adv.map advA,down:=false,stand:=⟨b.stand.cap,List.replicate b.cards.length 0,[]⟩},0)
 else (b,8)
def dayB (b:Bank):Bank×Int:=({ b with days:=b.days++[Dy.fileB b.today],today:=[]},0)
def payB (b:Bank) (d:Dd):Bank×Int:=
 if d.n<0∨(b.due.length :Int)≤d.n then (b,6)
 else if b.dueOf d.n<1 then (b,10)
 else if (moveB b.book (50+d.n) 0 (b.dueOf d.n)).2≠0 then (b,(moveB b.book (50 +d.n) 0 (b.dueOf d.n)).2)
 else ({ b with due:=b.due.set d.n.toNat 0,book:=(moveB b.book (50+d.n) 0 (b.dueOf d.n)).1},0)
def sideOf (n:Int):Bool:=n==1
def sent (b:Bank) (i:Bool):List Pk:=b.way (!i)++(b.snd i).kept.map (fun t=>(⟨t,-1⟩:Pk))++[⟨Po.zeroT,b.seen i⟩]
def sendB (b:Bank) (d:Dd):Bank×Int:=
 if d.n<0∨1<d.n then (b,6)
 else if 60<(sent b (sideOf d.n)).length then (b,5)
 else ({ b with way:=upd b.way (!sideOf d.n) (sent b (sideOf d.n))},0)
def gone (b:Bank) (i:Bool):Bank:={b with way:=upd b.way i (b.way i).tail}
def comes (b:Bank) (i:Bool) (t:Po.Tr):Bank×Int:=
 if t.k=1 then
  if (moveB b.book 1 (50 +(b.auth t.a).shop) t.s).2≠0 then (b,(moveB b.book 1 (50+(b.auth t.a).shop) t.s).2)
  else ({gone b i with seen:=upd b.seen i (b.seen i+1),due:=b.due.set (b.auth t.a).shop.toNat (b.dueOf (b.auth t.a).shop+t.s),book:=(moveB b.book 1 (50+(b.auth t.a).shop) t.s).1},0)
 else if t.k=2 then
  if (shiftC (b.card (b.auth t.a).card) 0 t.s).2≠0 then (b,(shiftC (b.card (b.auth t.a).card) 0 t.s).2)
  else if (moveB b.book 1 (10 +(b.auth t.a).card) t.s).2≠0 then (b,(moveB b.book 1 (10 +(b.auth t.a).card) t.s).2)
  else ({ gone b i with seen:=upd b.seen i (b.seen i+1),cards:=b.cards.set (b.auth t.a).card.toNat (shiftC (b.card (b.auth t.a).card) 0 t.s).1,book:=(moveB b.book 1 (10 +(b.auth t.a).card) t.s).1},0)
 else if t.k=3 then
  if (moveB b.book (50+(b.auth t.a).shop) 2 t.s).2≠0 then (b,(moveB b.book (50 +(b.auth t.a).shop) 2 t.s).2)
  else ({gone b i with seen:=upd b.seen i (b.seen i+1),due:=b.due.set (b.auth t.a).shop.toNat (b.dueOf (b.auth t.a).shop-t.s),book:=(moveB b.book (50+(b.auth t.a).shop) 2 t.s).1},0)
 else ({ gone b i with seen:=upd b.seen i (b.seen i+1)},0)
def arriveAt (b:Bank) (i:Bool) (p:Pk):Bank×Int:=
 if 0≤p.seen then
  if (Po.backS (b.snd i) p.seen).2≠0 then (b,(Po.backS (b.snd i) p.seen).2) else ({ gone b i with snd:=upd b.snd i (Po.backS (b.snd i) p.seen).1},0)
 else if p.t.n≠b.seen i+1∨1000000≤b.seen i then (gone b i,0)
 else comes b i p.t
def arriveB (b:Bank) (d:Dd) (lost:Bool):Bank×Int:=
 if d.n<0∨1<d.n then (b,6)
 else match b.way (sideOf d.n) with
  |[]=>(b,6)
  |p::_=>if lost=true then (gone b (sideOf d.n),0) else arriveAt b (sideOf d.n) p
def two (x:Bank×Int):Bank×Int×Int:=(x.1,x.2,0)
def doB (b:Bank) (d:Dd):Bank×Int×Int:=
 if d.kind=1 then two (loadB b d)
 else if d.kind=2 then askB b d
 else if d.kind=3 then two (moveD b d)
 else if d.kind=4 then two (tickB b d)
 else if d.kind=5 then two (sendB b d)
 else if d.kind=6 then two (arriveB b d false)
 else if d.kind=7 then two (arriveB b d true)
 else if d.kind=8 then two (downB b)
 else if d.kind=9 then two (upB b)
 else if d.kind=10 then two (dayB b)
 else if d.kind=11 then two (payB b d)
 else (b,1,0)
abbrev An:=Int×Int
def told (id:Int):List (Dd ×An)→Option An
 |[]=>none
 |x::r=>if x.1.id=id then some x.2 else told id r
def play1 (s:Bank×List (Dd×An)) (d:Dd):Bank×List (Dd×An):=
 match (if d.id=0 then none else told d.id s.2) with
 |some a=>(s.1,s.2++[(d,a)])
 |none=>((doB s.1 d).1,s.2++[(d,((doB s.1 d).2.1,(doB s.1 d).2.2))])
def playL (b:Bank) (l:List Dd):Bank×List (Dd×An):=l.foldl play1 (b,[])
theorem playL_snoc (b:Bank) (l:List Dd) (d:Dd):playL b (l ++[d])=play1 (playL b l) d:=by unfold playL;simp
theorem two_refused {b:Bank}{x:Bank×Int}(h:x.2≠0→x.1=b):(two x).2.1≠0→(two x).1=b:=h
theorem doB_refused (b:Bank) (d:Dd):(doB b d).2.1≠0→(doB b d).1=b:=by
 have ite2:∀{c:Prop}[Decidable c]{x y:Bank×Int},(x.2≠0→x.1=b)→(y.2≠0→y.1=b)→((if c then x else y).2≠0→(if c then x else y).1=b):=by
  intro c _ x y hx hy
  split
  ·exact hx
  ·exact hy
 have ite3:∀{c:Prop}[Decidable c]{x y:Bank×Int×Int},(x.2.1≠0→x.1=b)→(y.2.1≠0→y.1=b)→((if c then x else y).2.1≠0→(if c then x else y).1=b):=by
  intro c _ x y hx hy
  split
  ·exact hx
  ·exact hy
 have same2:∀e:Int,((b,e):Bank×Int).2≠0→((b,e):Bank×Int).1=b:=fun _ _=>rfl
 have done2:∀x:Bank,((x,0):Bank×Int).2≠0→((x,0):Bank×Int).1=b:=fun _ h=>absurd rfl h
 have same3:∀e k:Int,((b,e,k):Bank×Int×Int).2.1≠0→((b,e,k):Bank×Int×Int).1=b:=fun _ _ _=>rfl
 have done3:∀(x:Bank) (k:Int),((x,0,k):Bank×Int×Int).2.1≠0→((x,0,k):Bank×Int×Int).1=b:=fun _ _ h=>absurd rfl h
 unfold doB
 refine ite3 (two_refused ?_) (ite3 ?_ (ite3 (two_refused ?_) (ite3 (two_refused ?_) (ite3 (two_refused ?_) (ite3 (two_refused ?_) (ite3 (two_refused ?_) (ite3 (two_refused ?_) (ite3 (two_refused ?_) (ite3 (two_refused ?_) (ite3 (two_refused ?_) (same3 _ _)))))))))))
 ·exact ite2 (same2 _) (ite2 (same2 _) (ite2 (same2 _) (ite2 (same2 _) (done2 _))))
 ·exact ite3 (same3 _ _) (ite3 (ite3 (same3 _ _) (ite3 (same3 _ _) (done3 _ _))) (ite3 (same3 _ _) (ite3 (same3 _ _) (ite3 (same3 _ _) (done3 _ _)))))
 ·exact ite2 (same2 _) (ite2 (same2 _) (ite2 (same2 _) (ite2 (same2 _) (ite2 (same2 _) (ite2 (same2 _) (ite2 (same2 _) (ite2 (same2 _) (done2 _))))))))
 ·exact ite2 (same2 _) (ite2 (done2 _) (done2 _))
 ·exact ite2 (same2 _) (ite2 (same2 _) (done2 _))
 ·unfold arriveB
  refine ite2 (same2 _) ?_
  split
  ·exact same2 _
  ·refine ite2 (done2 _) ?_
   unfold arriveAt
   refine ite2 (ite2 (same2 _) (done2 _)) (ite2 (done2 _) ?_)
   exact ite2 (ite2 (same2 _) (done2 _)) (ite2 (ite2 (same2 _) (ite2 (same2 _) (done2 _))) (ite2 (ite2 (same2 _) (done2 _)) (done2 _)))
 ·unfold arriveB
  refine ite2 (same2 _) ?_
  split
  ·exact same2 _
  ·refine ite2 (done2 _) ?_
   unfold arriveAt
   refine ite2 (ite2 (same2 _) (done2 _)) (ite2 (done2 _) ?_)
   exact ite2 (ite2 (same2 _) (done2 _)) (ite2 (ite2 (same2 _) (ite2 (same2 _) (done2 _))) (ite2 (ite2 (same2 _) (done2 _)) (done2 _)))
 ·exact ite2 (same2 _) (done2 _)
 ·exact ite2 (done2 _) (same2 _)
 ·exact done2 _
 ·exact ite2 (same2 _) (ite2 (same2 _) (ite2 (same2 _) (done2 _)))
end Go.Proofs.YtofcnebekmjdoaaGreatDoor.Bn
