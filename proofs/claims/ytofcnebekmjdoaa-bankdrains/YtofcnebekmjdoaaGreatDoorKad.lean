import Derived.WalkLawsBesides
import Derived.WalkSpells
import Derived.WalkKit
import Derived.Test.YtofcnebekmjdoaaGreatDoorChecked
import Derived.BigQuiet
import Derived.Deep.QuietTactic
import Derived.Test.YtofcnebekmjdoaaGreatDoorKab
import Derived.Test.YtofcnebekmjdoaaGreatDoorKac
set_option maxHeartbeats 4000000
set_option maxRecDepth 100000
namespace Go.Proofs.YtofcnebekmjdoaaGreatDoor.Dy
def enc (r:Rc):List Int:=[r.sh,r.au,r.k,r.m/65536,r.m/256%256,r.m%256]
def tot4 (n:Int):List Int:=[n/16777216,n/65536%256,n/256%256,n%256]
def total (l:List Rc):Int:=sumBy Rc.m l
def fileB (l:List Rc):List Int:=((l.length :Int)::(sortR l).flatMap enc)++tot4 (total l)
def bytesR (l:List Rc):List Int×(Int ×Int):=if (wrongL l).1≠0 then ([],wrongL l) else (fileB l,(0,0))
def decAt (b:List Int) (p:Nat):Rc:=⟨b.getD p 0,b.getD (p +1) 0,b.getD (p+2) 0,65536*b.getD (p+3) 0+256*b.getD (p +4) 0+b.getD (p+5) 0⟩
def recs (b:List Int) (n:Nat):List Rc:=(List.range n).map fun i=>decAt b (1+6*i)
def last4 (b:List Int):Int:=16777216*b.getD (b.length -4) 0+65536*b.getD (b.length -3) 0+256*b.getD (b.length -2) 0+b.getD (b.length-1) 0
def eqR (a b:Rc):Bool:=a.sh==b.sh&&a.au==b.au&&a.k==b.k&&a.m==b.m
theorem eqR_true {a b:Rc}:eqR a b=true↔a=b:=by
 obtain ⟨a1,a2,a3,a4⟩:=a
 obtain ⟨b1,b2,b3,b4⟩:=b
 unfold eqR
 simp[and_assoc]
def sameL:List Rc→List Rc→Bool
 |[],[]=>true
 |a::s,b::t=>eqR a b&&sameL s t
 |_,_=>false
theorem sameL_true:∀{s t:List Rc},sameL s t=true↔s=t:=by
 intro s
 induction s with
 |nil=>intro t;cases t<;>simp[sameL]
 |cons a s ih=>
  intro t
  cases t with
  |nil=>simp[sameL]
  |cons b t=>simp[sameL,eqR_true,ih]
abbrev noForm (b:List Int):Prop:=b.length=0∨(b.length :Int)≠1+6*b.getD 0 0+4
def parseR (b:List Int):List Rc×Int:=
 if noForm b then ([],2)
 else if (wrongL (recs b (b.getD 0 0).toNat)).1≠0 then ([],(wrongL (recs b (b.getD 0 0).toNat)).1)
 else if total (recs b (b.getD 0 0).toNat)≠last4 b∨sameL (recs b (b.getD 0 0).toNat) (sortR (recs b (b.getD 0 0).toNat))=false then ([],8)
 else (recs b (b.getD 0 0).toNat,0)
theorem parse_form {b:List Int}(h:noForm b):parseR b=([],2):=by unfold parseR;rw[if_pos h]
theorem parse_wrong {b:List Int} (h:¬noForm b) (h1:(wrongL (recs b (b.getD 0 0).toNat)).1≠0):parseR b=([],(wrongL (recs b (b.getD 0 0).toNat)).1):=by
 unfold parseR;rw [if_neg h,if_pos h1]
theorem parse_fit {b:List Int} (h:¬noForm b) (h1:(wrongL (recs b (b.getD 0 0).toNat)).1=0) (h2:total (recs b (b.getD 0 0).toNat)≠last4 b∨sameL (recs b (b.getD 0 0).toNat) (sortR (recs b (b.getD 0 0).toNat))=false):parseR b=([],8):=by
 unfold parseR;rw[if_neg h,if_neg (by simpa using h1),if_pos h2]
theorem parse_ok {b:List Int}(h:¬noForm b) (h1:(wrongL (recs b (b.getD 0 0).toNat)).1=0) (h2:total (recs b (b.getD 0 0).toNat)=last4 b) (h3:sameL (recs b (b.getD 0 0).toNat) (sortR (recs b (b.getD 0 0).toNat))=true):parseR b=(recs b (b.getD 0 0).toNat,0):=by
 unfold parseR;rw[if_neg h,if_neg (by simpa using h1),if_neg (fun h4=>by rcases h4 with h4|h4;exact h4 h2;rw[h3] at h4;cases h4)]
theorem enc_length (r:Rc):(enc r).length=6:=rfl
theorem flat_length (s:List Rc):(s.flatMap enc).length=6*s.length:=by
 induction s with
 |nil=>rfl
 |cons r t ih=>rw[List.flatMap_cons,List.length_append,ih,enc_length,List.length_cons];omega
theorem flat_at {s:List Rc} {i:Nat}(hi:i<s.length) {j:Nat}(hj:j<6):(s.flatMap enc)[6*i+j]?=(enc (s.getD i zR))[j]?:=by
 induction s generalizing i with
 |nil=>simp at hi
 |cons r t ih=>
  rw[List.flatMap_cons]
  cases i with
  |zero=>rw[List.getElem?_append_left (by rw[enc_length];omega),Nat.mul_zero,Nat.zero_add];rfl
  |succ i=>
   rw[List.getElem?_append_right (by rw[enc_length];omega),enc_length,show 6*(i+1)+j-6=6*i+j by omega,ih (by simpa using hi)]
   rfl
theorem file_length (l:List Rc):(fileB l).length=5+6*l.length:=by
 unfold fileB tot4
 rw[List.length_append,List.length_cons,flat_length,sort_length]
 simp;omega
theorem file_at{l:List Rc}{i:Nat}(hi:i<l.length){j:Nat}(hj:j<6):(fileB l)[1+6*i+j]?=(enc ((sortR l).getD i zR))[j]?:=by
 unfold fileB
 have h1:i<(sortR l).length:=by rw[sort_length];exact hi
 rw[List.getElem?_append_left (by rw[List.length_cons,flat_length];omega),show 1+6*i+j=(6*i+j)+1 by omega,List.getElem?_cons_succ,flat_at h1 hj]
theorem file_last (l:List Rc) {j:Nat} (_:j<4):(fileB l)[1+6*l.length+j]?=(tot4 (total l))[j]?:=by
 unfold fileB
 rw[List.getElem?_append_right (by rw[List.length_cons,flat_length,sort_length];omega),List.length_cons,flat_length,sort_length,show 1+6*l.length+j-(6 *l.length+1)=j by omega]
theorem recs_length (b:List Int) (n:Nat):(recs b n).length=n:=by simp[recs]
theorem recs_at (b:List Int){n i:Nat}(hi:i<n):(recs b n).getD i zR=decAt b (1+6*i):=by simp[recs,List.getD,hi]
theorem total_small {l:List Rc}(h:Right l):0≤total l∧total l≤100000000:=by
 have h0:∀L:List Rc,(∀r∈L,¬noKind r∧¬far r)→0≤sumBy Rc.m L∧sumBy Rc.m L≤1000000*L.length:=by
  intro L
  induction L with
  |nil=>intro _;simp[sumBy]
  |cons r t ih=>
   intro hr
   have h1:=ih fun x hx=>hr x (List.mem_cons_of_mem _ hx)
   have h2:=(hr r List.mem_cons_self).2
   unfold far at h2
   simp only[sumBy,List.length_cons,Int.natCast_add,Int.natCast_one]
   omega
 have h1:=h0 l h.each
 have:= h.few
 unfold total
 omega
def Byt (b:List Int):Prop:=∀x∈b,0≤x∧x≤255
theorem Byt.at {b:List Int}(h:Byt b) (i:Nat):0≤b.getD i 0∧b.getD i 0≤255:=by
 by_cases hi:i<b.length
 ·have :b.getD i 0=b[i]:=by simp[List.getD,hi]
  rw[this];exact h _ (List.getElem_mem hi)
 ·have :b.getD i 0=0:=by simp[List.getD,hi]
  rw[this];omega
theorem enc_dec {b:List Int}(h:Byt b) (p:Nat):enc (decAt b p)=[b.getD p 0,b.getD (p +1) 0,b.getD (p+2) 0,b.getD (p +3) 0,b.getD (p+4) 0,b.getD (p +5) 0]:=by
 have h3:=h.at (p +3)
 have h4:=h.at (p +4)
 have h5:=h.at (p +5)
 unfold enc decAt
 dsimp only
 congr 4
 ·omega
 ·congr 1
  ·omega
  ·congr 1;omega
theorem parse_right{b:List Int}(h0:(parseR b).2=0):¬noForm b∧Right (recs b (b.getD 0 0).toNat)∧total (recs b (b.getD 0 0).toNat)=last4 b∧sortR (recs b (b.getD 0 0).toNat)=recs b (b.getD 0 0).toNat∧parseR b=(recs b (b.getD 0 0).toNat,0):=by
 by_cases hf:noForm b
 ·rw[parse_form hf] at h0;cases h0
 by_cases hw:(wrongL (recs b (b.getD 0 0).toNat)).1=0
 case neg=>rw[parse_wrong hf hw] at h0;exact absurd h0 hw
 case pos=>
  by_cases ht:total (recs b (b.getD 0 0).toNat)=last4 b
  case neg=>rw[parse_fit hf hw (Or.inl ht)] at h0;cases h0
  case pos=>
   cases hs:sameL (recs b (b.getD 0 0).toNat) (sortR (recs b (b.getD 0 0).toNat)) with
   |false=>rw[parse_fit hf hw (Or.inr hs)] at h0;cases h0
   |true=>exact ⟨hf,wrong_ok.1 hw,ht,(sameL_true.1 hs).symm,parse_ok hf hw ht hs⟩
theorem back{b:List Int}(hb:Byt b) (h0:(parseR b).2=0):Right (parseR b).1∧fileB (parseR b).1=b:=by
 obtain ⟨hf,hR,ht,hs,hp⟩:=parse_right h0
 rw[hp]
 dsimp only
 refine ⟨hR,?_⟩
 have hz:=hb.at 0
 unfold noForm at hf
 have hn:((b.getD 0 0).toNat:Int)=b.getD 0 0:=by omega
 have hl:b.length=5+6*(b.getD 0 0).toNat:=by omega
 generalize hN:(b.getD 0 0).toNat=n at*
 have hlen:(fileB (recs b n)).length=b.length:=by rw[file_length,recs_length,hl]
 apply List.ext_getElem? 
 intro q
 rcases Nat.lt_or_ge q b.length with hq|hq
 case inr=>rw[List.getElem?_eq_none (by omega),List.getElem?_eq_none hq]
 case inl=>
  have hbq:b[q]?=some (b.getD q 0):=by simp[List.getD,hq]
  rw[hbq]
  rcases Nat.lt_or_ge q 1 with h1|h1
  ·obtain rfl:q=0:=by omega
   unfold fileB
   simp only[List.cons_append,List.getElem?_cons_zero,recs_length]
   rw[hn]
  rcases Nat.lt_or_ge q (1 +6*n) with h2|h2
  ·have hq2:q=1+6*((q -1)/6)+(q-1)%6:=by omega
   have hi:(q -1)/6<n:=by omega
   have hj:(q -1)%6<6:=by omega
   generalize (q-1)/6=i at*
   generalize (q -1)%6=j at*
   subst hq2
   rw[file_at (l:=recs b n) (by rw[recs_length];exact hi) hj,hs,recs_at _ hi,enc_dec hb]
   match j,hj with
   |0,_=>rfl
   |1,_=>rfl
   |2,_=>rfl
   |3,_=>rfl
   |4,_=>rfl
   |5,_=>rfl
  ·have hq2:q=1+6*n+(q-(1 +6*n)):=by omega
   have hj:q-(1 +6*n)<4:=by omega
   generalize q-(1 +6*n)=j at*
   subst hq2
   have:= file_last (recs b n) (j:=j) hj
   rw[recs_length] at this
   rw[this,ht]
   unfold last4 tot4
   have k0:=hb.at (b.length -4)
   have k1:=hb.at (b.length -3)
   have k2:=hb.at (b.length -2)
   have k3:=hb.at (b.length -1)
   have q0:b.length-4=1+6*n+0:=by omega
   have q1:b.length-3=1+6*n+1:=by omega
   have q2:b.length-2=1+6*n+2:=by omega
   have q3:b.length-1=1+6*n+3:=by omega
   rw[q0] at k0;rw[q1] at k1;rw[q2] at k2;rw[q3] at k3
   rw[q0,q1,q2,q3]
   match j,hj with
   |0,_=>simp only[List.getElem?_cons_zero];congr 1;omega
   |1,_=>simp only[List.getElem?_cons_zero,List.getElem?_cons_succ];congr 1;omega
   |2,_=>simp only[List.getElem?_cons_zero,List.getElem?_cons_succ];congr 1;omega
   |3,_=>simp only[List.getElem?_cons_zero,List.getElem?_cons_succ];congr 1;omega
theorem bytes_bad {l:List Rc}(h:(wrongL l).1≠0):bytesR l=([],wrongL l):=by unfold bytesR;rw[if_pos h]
theorem bytes_ok {l:List Rc}(h:(wrongL l).1=0):bytesR l=(fileB l,(0,0)):=by unfold bytesR;rw[if_neg (by simpa using h)]
end Go.Proofs.YtofcnebekmjdoaaGreatDoor.Dy
namespace Go.Proofs.YtofcnebekmjdoaaGreatDoor.Au
open Go.RowKit
def av (a:Au):Value:=.agg #[.int .i64 a.card,.int .i64 a.shop,.int .i64 a.sum,.int .i64 a.cap,.int .i64 a.ref,.int .i64 a.dis,.int .i64 a.till,.bool a.shut]
theorem ret_int {k:IntKind} {a b:Int} (h:a=b):Ending.returned (.int k a)=.returned (.int k b):=by rw[h]
theorem hid {p:Prop}(h:p):Hid p:=h
theorem isSum_any (s:Int) (w:World):
  Calls Tryz.prog 58 #[.int .i64 s] w fun e w'=>e=.returned (.bool (isS s))∧w'=w:=by
 unfold isS
 by_cases h1:0≤s<;>by_cases h2:s≤1000000
 all_goals
  go_enter Tryz.func58,Tryz.ntmps58
  go_wp2
  go_ret
  simp[h1,h2]
theorem isCard_any (s:Int) (w:World):
  Calls Tryz.prog 59 #[.int .i64 s] w fun e w'=>e=.returned (.bool (isC s))∧w'=w:=by
 unfold isC
 by_cases h1:0≤s<;>by_cases h2:s<8
 all_goals
  go_enter Tryz.func59,Tryz.ntmps59
  go_wp2
  go_ret
  simp [h1,h2]
theorem isShop_any (s:Int) (w:World):
  Calls Tryz.prog 60 #[.int .i64 s] w fun e w'=>e=.returned (.bool (isC s))∧w'=w:=by
 unfold isC
 by_cases h1:0≤s<;>by_cases h2:s<8
 all_goals
  go_enter Tryz.func60,Tryz.ntmps60
  go_wp2
  go_ret
  simp[h1,h2]
theorem isMove_any (s:Int) (w:World):
  Calls Tryz.prog 171 #[.int .i64 s] w fun e w'=>e=.returned (.bool (isM s))∧w'=w:=by
 unfold isM
 by_cases h1:1≤s<;>by_cases h2:s≤1000000
 all_goals
  go_enter Tryz.func171,Tryz.ntmps171
  go_wp2
  go_ret
  simp[h1,h2]
theorem wrong_ways (a:Au):
  (isS a.sum=false∧Hid (wrongA a=3))∨
  (isS a.sum=true∧isS a.cap=false∧Hid (wrongA a=3))∨
  (isS a.sum=true∧isS a.cap=true∧isS a.ref=false∧Hid (wrongA a=3))∨
  (isS a.sum=true∧isS a.cap=true∧isS a.ref=true∧isS a.dis=false∧Hid (wrongA a=3))∨
  (isS a.sum=true∧isS a.cap=true∧isS a.ref=true∧isS a.dis=true∧
   ((isC a.card=false∧Hid (¬(0 ≤a.card∧a.card<8))∧Hid (wrongA a=3))∨
    (isC a.card=true∧0≤a.card∧a.card<8∧isC a.shop=false∧Hid (¬ (0≤a.shop∧a.shop<8))∧Hid (wrongA a=3))∨
    (isC a.card=true∧0≤a.card∧a.card<8∧isC a.shop=true∧0≤a.shop∧a.shop<8∧
     ((a.till<0∧Hid (wrongA a=3))∨
     (0 ≤a.till∧1000100<a.till∧Hid (wrongA a=3))∨
     (0≤a.till∧a.till≤1000100∧0≤a.ref∧a.ref≤1000000∧0≤a.dis∧a.dis≤1000000∧
      ((a.sum<a.cap∧Hid (wrongA a=8))∨
       (a.cap≤a.sum∧a.cap<a.ref+a.dis∧Hid (wrongA a=8))∨
       (a.cap ≤a.sum∧a.ref+a.dis≤a.cap∧Hid (wrongA a=0)))))))):=by
 have key:∀p:Bool,p=false∨p=true:=by decide
 rcases key (isS a.sum) with h1|h1
 ·exact Or.inl ⟨h1,wrongA_rng fun h=>isS_false.1 h1 h.1⟩
 rcases key (isS a.cap) with h2|h2
 ·exact Or.inr (Or.inl ⟨h1,h2,wrongA_rng fun h=>isS_false.1 h2 h.2.1⟩)
 rcases key (isS a.ref) with h3|h3
 ·exact Or.inr (Or.inr (Or.inl ⟨h1,h2,h3,wrongA_rng fun h=>isS_false.1 h3 h.2.2.1⟩))
 rcases key (isS a.dis) with h4|h4
 ·exact Or.inr (Or.inr (Or.inr (Or.inl ⟨h1,h2,h3,h4,wrongA_rng fun h=>isS_false.1 h4 h.2.2.2.1⟩)))
 refine Or.inr (Or.inr (Or.inr (Or.inr ⟨h1,h2,h3,h4,?_⟩)))
 rcases key (isC a.card) with h5|h5
 ·exact Or.inl ⟨h5,isC_false.1 h5,wrongA_rng fun h=>isC_false.1 h5 h.2.2.2.2.1⟩
 have c5:=isC_true.1 h5
 rcases key (isC a.shop) with h6|h6
 ·exact Or.inr (Or.inl ⟨h5,c5.1,c5.2,h6,isC_false.1 h6,wrongA_rng fun h=>isC_false.1 h6 h.2.2.2.2.2.1⟩)
 have c6:=isC_true.1 h6
 refine Or.inr (Or.inr ⟨h5,c5.1,c5.2,h6,c6.1,c6.2,?_⟩)
 by_cases h7:a.till<0
 ·exact Or.inl ⟨h7,wrongA_rng fun h=>by have :=h.2.2.2.2.2.2.1;omega⟩
 by_cases h8:1000100<a.till
 ·exact Or.inr (Or.inl ⟨by omega,h8,wrongA_rng fun h=>by have :=h.2.2.2.2.2.2.2;omega⟩)
 have c3:=isS_true.1 h3
 have c4:=isS_true.1 h4
 have R:Rng a:=⟨isS_true.1 h1,isS_true.1 h2,c3,c4,c5,c6,by omega,by omega⟩
 refine Or.inr (Or.inr ⟨by omega,by omega,c3.1,c3.2,c4.1,c4.2,?_⟩)
 by_cases h9:a.sum<a.cap
 ·exact Or.inl ⟨h9,wrongA_fit R fun h=>by have:= h.1;omega⟩
 by_cases h10:a.cap<a.ref+a.dis
 ·exact Or.inr (Or.inl ⟨by omega,h10,wrongA_fit R fun h=>by have :=h.2;omega⟩)
 ·exact Or.inr (Or.inr ⟨by omega,by omega,wrongA_ok.2 ⟨R,by omega,by omega⟩⟩)
theorem wrong_any (a:Au) (w:World):
  Calls Tryz.prog 26 #[av a] w fun e w'=>e=.returned (.int .i64 (wrongA a))∧Below w.heap.size w w':=by
 unfold av
 have b0:∀o,Below w.heap.size w (w.alloc o):=fun o=>(Below.refl _ _).alloc (Nat.le_refl _) _
 rcases wrong_ways a with ⟨h1,H⟩|⟨h1,h2,H⟩|⟨h1,h2,h3,H⟩|⟨h1,h2,h3,h4,H⟩|⟨h1,h2,h3,h4,⟨h5,-,H⟩|⟨h5,-,-,h6,-,H⟩|⟨h5,-,-,h6,-,-,⟨h7,H⟩|⟨h7,h8,H⟩|⟨h7,h8,q1,q2,q3,q4,⟨h9,H⟩|⟨h9,h10,H⟩|⟨h9,h10,H⟩⟩⟩⟩
 all_goals
  go_enter Tryz.func26,Tryz.ntmps26
  go_wp2_with (first| (go_at_call 58;refine (isSum_any _ _).mono ?_;rintro e w' ⟨rfl,rfl⟩)| (go_at_call 59;refine (isCard_any _ _).mono ?_;rintro e w' ⟨rfl,rfl⟩)| (go_at_call 60;refine (isShop_any _ _).mono ?_;rintro e w' ⟨rfl,rfl⟩))
  go_ret
  exact ⟨ret_int H.out.symm,b0 _⟩
theorem hold_any (a:Au) (w:World) (h:wrongA a=0):
  Calls Tryz.prog 27 #[av a] w fun e w'=>e=.returned (.int .i64 (holdA a))∧Below w.heap.size w w':=by
 unfold av holdA
 have b0:∀o,Below w.heap.size w (w.alloc o):=fun o=>(Below.refl _ _).alloc (Nat.le_refl _) _
 obtain ⟨⟨⟨q1,q2⟩,⟨q3,q4⟩,-⟩,-⟩:=wrongA_ok.1 h
 clear h
 cases hs:a.shut
 all_goals
  go_enter Tryz.func27,Tryz.ntmps27
  go_wp2
  go_ret
  exact ⟨ret_int (by simp),b0 _⟩
theorem bcell{W w1:World}(hb:Below W.heap.size W w1):(∀b o,b<W.heap.size→w1.cell? ⟨b,o,none⟩=W.cell? ⟨b,o,none⟩)∧(∀ b o,b<W.heap.size→w1.frozen? ⟨b,o,none⟩=W.frozen? ⟨b,o,none⟩):=
 ⟨fun b o h=>hb.cell (p:=⟨b,o,none⟩) h,fun b o h=>hb.frozen (p:=⟨b,o,none⟩) h⟩
theorem below1 (w:World) (o:Obj):Below w.heap.size w (w.alloc o):=(Below.refl _ _).alloc (Nat.le_refl _) _
theorem below2 (w:World) (o o2:Obj):Below w.heap.size w ((w.alloc o).alloc o2):=(below1 w o).alloc (by simp) _
theorem below_call1 {w w1:World}{o:Obj}(hb:Below (w.alloc o).heap.size (w.alloc o) w1):Below w.heap.size w w1:=
 (below1 w o).trans (hb.mono (by simp))
theorem below_call2 {w w1:World}{o o2:Obj}(hb:Below ((w.alloc o).alloc o2).heap.size ((w.alloc o).alloc o2) w1):Below w.heap.size w w1:=
 (below2 w o o2).trans (hb.mono (by simp;omega))
def Perm (w:World) (b:Nat) (a:Au):Prop:=
 (w.cell? ⟨b,0,none⟩=some (.int .i64 a.card)∧w.cell? ⟨b,1,none⟩=some (.int .i64 a.shop)∧w.cell? ⟨b,2,none⟩=some (.int .i64 a.sum)∧w.cell? ⟨b,3,none⟩=some (.int .i64 a.cap)∧
  w.cell? ⟨b,4,none⟩=some (.int .i64 a.ref)∧w.cell? ⟨b,5,none⟩=some (.int .i64 a.dis)∧w.cell? ⟨b,6,none⟩=some (.int .i64 a.till)∧w.cell? ⟨b,7,none⟩=some (.bool a.shut))∧
 ∀i,w.frozen? ⟨b,i,none⟩=false
abbrev acells (a:Au):Array Value:=#[.int .i64 a.card,.int .i64 a.shop,.int .i64 a.sum,.int .i64 a.cap,.int .i64 a.ref,.int .i64 a.dis,.int .i64 a.till,.bool a.shut]
theorem perm_new (w:World) (a:Au):Perm (w.alloc (.cells (acells a) 66)) w.heap.size a:=by
 refine ⟨⟨?_,?_,?_,?_,?_,?_,?_,?_⟩,fun i=>World.frozen?_alloc_at _ _ _ _ rfl⟩<;>(rw [World.cell?_alloc_at _ _ _ _ rfl];rfl)
theorem Perm.alloc {w:World} {b:Nat} {a:Au} (h:Perm w b a) (hb:b<w.heap.size) (o:Obj):Perm (w.alloc o) b a:=by
 unfold Perm at h⊢
 simp only[World.cell?_alloc_past _ _ _ hb,World.frozen?_alloc_past _ _ _ hb]
 exact h
theorem Perm.below {W w1:World} {b:Nat} {a:Au}(h:Perm W b a) (hlt:b<W.heap.size) (hb:Below W.heap.size W w1):Perm w1 b a:=by
 obtain ⟨hc,hf⟩:=bcell hb
 unfold Perm at h⊢
 simp only[hc _ _ hlt,hf _ _ hlt]
 exact h
theorem late_any (a:Au) (t:Int) (w:World):
  Calls Tryz.prog 159 #[av a,.int .i64 t] w fun e w'=>e=.returned (av (lateA a t))∧Below w.heap.size w w':=by
 unfold av lateA
 by_cases h:a.till≤t
 ·go_enter Tryz.func159,Tryz.ntmps159
  go_wp2
  exact bodyPost_ret (v:=.agg #[.int .i64 a.card,.int .i64 a.shop,.int .i64 a.sum,.int .i64 a.cap,.int .i64 a.ref,.int .i64 a.dis,.int .i64 a.till,.bool true]) (by simp[results,Tryz.results159,go_sem]) rfl ⟨by simp[h],below2 _ _ _⟩
 ·have hf:decide (a.till ≤t)=false:=by simpa using h
  go_enter Tryz.func159,Tryz.ntmps159
  go_wp2
  exact bodyPost_ret (v:=.agg #[.int .i64 a.card,.int .i64 a.shop,.int .i64 a.sum,.int .i64 a.cap,.int .i64 a.ref,.int .i64 a.dis,.int .i64 a.till,.bool a.shut]) (by simp[results,Tryz.results159,go_sem]) rfl ⟨rfl,below2 _ _ _⟩
theorem new_ways (c s n t:Int):
  (isM n=false∧Hid (newA c s n t=(none0,3)))∨
  (isM n=true∧t<0∧Hid (newA c s n t=(none0,3)))∨
  (isM n=true∧0≤t∧1000000<t∧Hid (newA c s n t=(none0,3)))∨
  (isM n=true∧0≤t∧t≤1000000∧isC c=false∧Hid (newA c s n t=(none0,3)))∨
  (isM n=true∧0≤t∧t≤1000000∧isC c=true∧isC s=false∧Hid (newA c s n t=(none0,3)))∨
  (isM n=true∧0≤t∧t≤1000000∧isC c=true∧isC s=true∧Hid (newA c s n t=(⟨c,s,n,0,0,0,t+100,false⟩,0))):=by
 have key:∀p:Bool,p=false∨p=true:=by decide
 unfold newA
 rcases key (isM n) with h1|h1
 ·exact Or.inl ⟨h1,if_neg fun h=>isM_false.1 h1 h.1⟩
 by_cases h2:t<0
 ·exact Or.inr (Or.inl ⟨h1,h2,if_neg fun h=>by have:= h.2.1;omega⟩)
 by_cases h3:1000000<t
 ·exact Or.inr (Or.inr (Or.inl ⟨h1,by omega,h3,if_neg fun h=>by have:= h.2.2.1;omega⟩))
 rcases key (isC c) with h4|h4
 ·exact Or.inr (Or.inr (Or.inr (Or.inl ⟨h1,by omega,by omega,h4,if_neg fun h=>isC_false.1 h4 h.2.2.2.1⟩)))
 rcases key (isC s) with h5|h5
 ·exact Or.inr (Or.inr (Or.inr (Or.inr (Or.inl ⟨h1,by omega,by omega,h4,h5,if_neg fun h=>isC_false.1 h5 h.2.2.2.2⟩))))
 ·exact Or.inr (Or.inr (Or.inr (Or.inr (Or.inr ⟨h1,by omega,by omega,h4,h5,if_pos ⟨isM_true.1 h1,by omega,by omega,isC_true.1 h4,isC_true.1 h5⟩⟩))))
theorem new_any (c s n t:Int) (w:World):
  Calls Tryz.prog 154 #[.int .i64 c,.int .i64 s,.int .i64 n,.int .i64 t] w fun e w'=>e=.returned (.tuple #[av (newA c s n t).1,.int .i64 (newA c s n t).2])∧Below w.heap.size w w':=by
 rcases new_ways c s n t with ⟨h1,H⟩|⟨h1,h2,H⟩|⟨h1,h2,h3,H⟩|⟨h1,h2,h3,h4,H⟩|⟨h1,h2,h3,h4,h5,H⟩|⟨h1,h2,h3,h4,h5,H⟩
 case inr.inr.inr.inr.inr=>
  go_enter Tryz.func154,Tryz.ntmps154
  go_wp2_with (first|(go_at_call 171;refine (isMove_any _ _).mono ?_;rintro e w' ⟨rfl,rfl⟩)|(go_at_call 59;refine (isCard_any _ _).mono ?_;rintro e w' ⟨rfl,rfl⟩)|(go_at_call 60;refine (isShop_any _ _).mono ?_;rintro e w' ⟨rfl,rfl⟩))
  refine bodyPost_ret (v:=.tuple #[.agg #[.int .i64 c,.int .i64 s,.int .i64 n,.int .i64 0,.int .i64 0,.int .i64 0,.int .i64 (t +100),.bool false],.int .i64 0]) (by simp[results,Tryz.results154,go_sem]) rfl ⟨?_,below1 _ _⟩
  rw[H.out];rfl
 all_goals
  go_enter Tryz.func154,Tryz.ntmps154
  go_wp2_with (first|(go_at_call 171;refine (isMove_any _ _).mono ?_;rintro e w' ⟨rfl,rfl⟩)|(go_at_call 59;refine (isCard_any _ _).mono ?_;rintro e w' ⟨rfl,rfl⟩)|(go_at_call 60;refine (isShop_any _ _).mono ?_;rintro e w' ⟨rfl,rfl⟩))
  refine bodyPost_ret (v:=.tuple #[.agg #[.int .i64 0,.int .i64 0,.int .i64 0,.int .i64 0,.int .i64 0,.int .i64 0,.int .i64 0,.bool false],.int .i64 3]) (by simp[results,Tryz.results154,go_sem]) rfl ⟨?_,below1 _ _⟩
  rw[H.out];rfl
theorem kinds {k:Int}(h1:1≤k) (h2:k≤8):k=1∨k=2∨k=3∨k=4∨k=5∨k=6∨k=7∨k=8:=by omega
theorem needs_any (k:Int) (w:World) (h1:1≤k) (h2:k≤8):
  Calls Tryz.prog 174 #[.int .i64 k] w fun e w'=>e=.returned (.bool (decide (k ≤4)))∧w'=w:=by
 rcases kinds h1 h2 with rfl|rfl|rfl|rfl|rfl|rfl|rfl|rfl
 all_goals
  go_enter Tryz.func174,Tryz.ntmps174
  go_wp2
  go_ret
  simp
theorem room_any (a:Au) (k:Int) (w:World) (h:wrongA a=0) (h1:1≤k) (h2:k≤8):
  Calls Tryz.prog 175 #[av a,.int .i64 k] w fun e w'=>e=.returned (.int .i64 (room a k))∧Below w.heap.size w w':=by
 unfold av
 obtain ⟨⟨⟨q1,q2⟩,⟨q3,q4⟩,⟨q5,q6⟩,⟨q7,q8⟩,-⟩,f1,f2⟩:=wrongA_ok.1 h
 clear h
 rcases kinds h1 h2 with rfl|rfl|rfl|rfl|rfl|rfl|rfl|rfl
 all_goals
  clear h1 h2
  go_enter Tryz.func175,Tryz.ntmps175
  go_wp2
  go_ret
  exact ⟨ret_int (by simp[room]),below1 _ _⟩
theorem mv_ways (a:Au) (k n:Int):
  ((wrongA a !=0)=true∧Hid (mvErr a k n=wrongA a))∨
  ((wrongA a !=0)=false∧Hid (wrongA a=0)∧
   ((k <1∧Hid (mvErr a k n=1))∨
    (1 ≤k∧8<k∧Hid (mvErr a k n=1))∨
    (1≤k∧k≤8∧
     ((isM n=false∧Hid (mvErr a k n=3))∨
     (isM n=true∧a.shut=true∧decide (k≤4)=true∧Hid (mvErr a k n=9))∨
     (isM n=true∧a.shut=true∧decide (k≤4)=false∧Hid (mvErr a k n=if n≤room a k then 0 else if k=1 then 4 else 10))∨
     (isM n=true∧a.shut=false∧Hid (mvErr a k n=if n≤room a k then 0 else if k=1 then 4 else 10)))))):=by
 have key:∀p:Bool,p=false∨p=true:=by decide
 unfold mvErr
 by_cases h1:wrongA a=0
 ·refine Or.inr ⟨by simpa using h1,h1,?_⟩
  rw[if_neg (by simpa using h1)]
  by_cases h2:k<1
  ·exact Or.inl ⟨h2,if_pos (Or.inl h2)⟩
  by_cases h3:8<k
  ·exact Or.inr (Or.inl ⟨by omega,h3,if_pos (Or.inr h3)⟩)
  refine Or.inr (Or.inr ⟨by omega,by omega,?_⟩)
  rw[if_neg (by omega)]
  rcases key (isM n) with h4|h4
  ·exact Or.inl ⟨h4,if_pos (by have :=isM_false.1 h4;omega)⟩
  have c4:=isM_true.1 h4
  rw[if_neg (by omega)]
  refine Or.inr ?_
  rcases key a.shut with h5|h5
  ·refine Or.inr (Or.inr ⟨h4,h5,?_⟩)
   rw[if_neg (by simp[h5])]
   exact rfl
  rcases key (decide (k ≤4)) with h6|h6
  ·refine Or.inr (Or.inl ⟨h4,h5,h6,?_⟩)
   rw[if_neg (by simp at h6;omega)]
   exact rfl
  ·exact Or.inl ⟨h4,h5,h6,if_pos ⟨h5,by simpa using h6⟩⟩
 ·exact Or.inl ⟨by simpa using h1,if_pos h1⟩
theorem after1 {w w1:World}{a:Au}(hb:Below (w.alloc (.cells (acells a) 66)).heap.size (w.alloc (.cells (acells a) 66)) w1):Perm w1 w.heap.size a∧Below w.heap.size w w1∧w.heap.size+1≤w1.heap.size:=
 ⟨Perm.below (perm_new w a) (by simp) hb,below_call1 hb,by have:= hb.size;simpa using this⟩
theorem wrongMove_any (a:Au) (k n:Int) (w:World):
  Calls Tryz.prog 156 #[av a,.int .i64 k,.int .i64 n] w fun e w'=>e=.returned (.int .i64 (mvErr a k n))∧Below w.heap.size w w':=by
 rcases mv_ways a k n with ⟨h1,H⟩|⟨h1,W,⟨h2,H⟩|⟨h2,h3,H⟩|⟨h2,h3,⟨h4,H⟩|⟨h4,h5,h6,H⟩|⟨h4,h5,h6,H⟩|⟨h4,h5,H⟩⟩⟩
 all_goals
  obtain ⟨c,s,m,cp,rf,d,t,sh⟩:=a
  try (simp only at h5;subst h5)
  simp only [av]
  go_enter Tryz.func156,Tryz.ntmps156
  go_wp2_with fail
  refine (wrong_any ⟨c,s,m,cp,rf,d,t,_⟩ _).mono ?_
  rintro e w1 ⟨rfl,hb⟩
  obtain ⟨⟨⟨R0,R1,R2,R3,R4,R5,R6,R7⟩,F⟩,hb',hz⟩:=after1 (a:=⟨c,s,m,cp,rf,d,t,_⟩) hb
  simp only at R0 R1 R2 R3 R4 R5 R6 R7
  generalize hr:wrongA _=r at*
  have Hr:=hid hr
  clear hr hb
 iterate 3
  ·go_wp2
   go_ret
   exact ⟨ret_int H.out.symm,hb'⟩
 ·go_wp2_with (go_at_call 171;refine (isMove_any _ _).mono ?_;rintro e w' ⟨rfl,rfl⟩)
  go_ret
  exact ⟨ret_int H.out.symm,hb'⟩
 ·go_wp2_with (first|(go_at_call 171;refine (isMove_any _ _).mono ?_;rintro e w' ⟨rfl,rfl⟩)|(go_at_call 174;refine (needs_any _ _ h2 h3).mono ?_;rintro e w' ⟨rfl,rfl⟩))
  go_ret
  exact ⟨ret_int H.out.symm,hb'⟩
 all_goals
  go_wp2_with (first|(go_at_call 171;refine (isMove_any _ _).mono ?_;rintro e w' ⟨rfl,rfl⟩)|(go_at_call 174;refine (needs_any _ _ h2 h3).mono ?_;rintro e w' ⟨rfl,rfl⟩))
  refine (room_any ⟨c,s,m,cp,rf,d,t,_⟩ k _ (Hr.out.trans W.out) h2 h3).mono ?_
  rintro e w2 ⟨rfl,hb2⟩
  have hb12:=hb'.trans (hb2.mono (by omega))
  clear hb2 R0 R1 R2 R3 R4 R5 R6 R7 F
  generalize hq:room _ k=q at*
  clear hq
  by_cases hn:n≤q
  ·rw [if_pos hn] at H
   go_wp2
   go_ret
   exact ⟨ret_int H.out.symm,hb12⟩
  ·rw [if_neg hn] at H
   by_cases hk:k=1
   ·rw [if_pos hk] at H
    have hk':(k==1)=true:=by simpa using hk
    clear hk
    go_wp2
    go_ret
    exact ⟨ret_int H.out.symm,hb12⟩
   ·rw [if_neg hk] at H
    have hk':(k==1)=false:=by simpa using hk
    clear hk
    go_wp2
    go_ret
    exact ⟨ret_int H.out.symm,hb12⟩
theorem after2{w w1:World}{a:Au}(hb:Below ((w.alloc (.cells (acells a) 66)).alloc (.cells (acells none0) 66)).heap.size ((w.alloc (.cells (acells a) 66)).alloc (.cells (acells none0) 66)) w1):
  Perm w1 w.heap.size a∧Perm w1 (w.heap.size +1) none0∧Below w.heap.size w w1∧w.heap.size+2≤w1.heap.size:=by
 refine ⟨Perm.below ((perm_new w a).alloc (by simp) _) (by simp;omega) hb,?_,below_call2 hb,by have:= hb.size;simpa using this⟩
 have:= Perm.below (perm_new (w.alloc (.cells (acells a) 66)) none0) (by simp) hb
 simpa only[World.size_alloc] using this
theorem move_no (a:Au) (k n:Int) (w:World) (h:mvErr a k n≠0):
  Calls Tryz.prog 128 #[av a,.int .i64 k,.int .i64 n] w fun e w'=>e=.returned (.tuple #[av (mv a k n).1,.int .i64 (mv a k n).2])∧Below w.heap.size w w':=by
 have H:=hid (mv_no h)
 have h':(mvErr a k n !=0)=true:=by simpa using h
 clear h
 obtain ⟨c,s,m,cp,rf,d,t,sh⟩:=a
 unfold av
 go_enter Tryz.func128,Tryz.ntmps128
 go_wp2_with fail
 refine (wrongMove_any ⟨c,s,m,cp,rf,d,t,sh⟩ k n _).mono ?_
 rintro e w1 ⟨rfl,hb⟩
 obtain ⟨-,⟨⟨S0,S1,S2,S3,S4,S5,S6,S7⟩,G⟩,hb',hz⟩:=after2 (a:=⟨c,s,m,cp,rf,d,t,sh⟩) hb
 simp only[none0] at S0 S1 S2 S3 S4 S5 S6 S7
 generalize mvErr ⟨c,s,m,cp,rf,d,t,sh⟩ k n=r at*
 clear hb
 go_wp2
 refine bodyPost_ret (v:=.tuple #[.agg #[.int .i64 0,.int .i64 0,.int .i64 0,.int .i64 0,.int .i64 0,.int .i64 0,.int .i64 0,.bool false],.int .i64 r]) (by simp[results,Tryz.results128,go_sem,S0,S1,S2,S3,S4,S5,S6,S7]) rfl ⟨?_,?_⟩
 ·rw[H.out];rfl
 ·repeat refine Below.setCell ?_ (by simp) _
  exact hb'
theorem move_yes (a:Au) (k n:Int) (w:World) (h:mvErr a k n=0):
  Calls Tryz.prog 128 #[av a,.int .i64 k,.int .i64 n] w fun e w'=>e=.returned (.tuple #[av (mv a k n).1,.int .i64 (mv a k n).2])∧Below w.heap.size w w':=by
 have H:=hid (mv_yes h)
 have H0:=hid h
 have hm:=mvErr_zero.1 h
 clear h
 obtain ⟨⟨⟨q1,q2⟩,⟨q3,q4⟩,⟨q5,q6⟩,⟨q7,q8⟩,-⟩,⟨f1,f2⟩,k1,k2,n1,n2,-,hr⟩:=hm
 obtain ⟨c,s,m,cp,rf,d,t,sh⟩:=a
 simp only at q1 q2 q3 q4 q5 q6 q7 q8 f1 f2
 rcases kinds k1 k2 with rfl|rfl|rfl|rfl|rfl|rfl|rfl|rfl
 all_goals
  simp[room] at hr
  unfold av
  go_enter Tryz.func128,Tryz.ntmps128
  go_wp2_with fail
  refine (wrongMove_any ⟨c,s,m,cp,rf,d,t,sh⟩ _ n _).mono ?_
  rintro e w1 ⟨rfl,hb⟩
  obtain ⟨⟨⟨R0,R1,R2,R3,R4,R5,R6,R7⟩,F⟩,⟨⟨S0,S1,S2,S3,S4,S5,S6,S7⟩,G⟩,hb',hz⟩:=after2 (a:=⟨c,s,m,cp,rf,d,t,sh⟩) hb
  simp only[none0] at R0 R1 R2 R3 R4 R5 R6 R7 S0 S1 S2 S3 S4 S5 S6 S7
  rw[H0.out]
  clear hb k1 k2
  go_wp2
  refine bodyPost_ret (by simp[results,Tryz.results128,go_sem,S0,S1,S2,S3,S4,S5,S6,S7];try rfl) rfl ⟨?_,?_⟩
  ·rw[H.out];simp[step]
  ·repeat refine Below.setCell ?_ (by simp) _
   exact hb'
theorem move_any (a:Au) (k n:Int) (w:World):
  Calls Tryz.prog 128 #[av a,.int .i64 k,.int .i64 n] w fun e w'=>e=.returned (.tuple #[av (mv a k n).1,.int .i64 (mv a k n).2])∧Below w.heap.size w w':=by
 by_cases h:mvErr a k n=0
 ·exact move_yes a k n w h
 ·exact move_no a k n w h
end Go.Proofs.YtofcnebekmjdoaaGreatDoor.Au
namespace Go.Proofs.YtofcnebekmjdoaaGreatDoor.Bk
open Go.RowKit
def Ents (w:World) (a:Option Addr) (L:List (Int×Int)):Prop:=
 L.length≤maxLen∧(L =[]∨∃b off,a=some ⟨b,off,none⟩∧b<w.heap.size∧∀i,i<L.length→
  w.cell? ⟨b,off+i*2,none⟩=some (.int .i64 (L.getD i (0,0)).1)∧w.cell? ⟨b,off+i*2+1,none⟩=some (.int .i64 (L.getD i (0,0)).2))
theorem Ents.below {w w':World} {a:Option Addr} {L:List (Int ×Int)} (h:Ents w a L) (hb:Below w.heap.size w w'):Ents w' a L:=by
 obtain ⟨h1,h2⟩:=h
 refine ⟨h1,?_⟩
 rcases h2 with h2|⟨b,off,ha,hlt,hc⟩
 ·exact Or.inl h2
 ·refine Or.inr ⟨b,off,ha,Nat.lt_of_lt_of_le hlt hb.size,fun i hi=>?_⟩
  obtain ⟨c1,c2⟩:=hc i hi
  exact ⟨(hb.cell (p:=⟨b,off+i*2,none⟩) hlt).trans c1,(hb.cell (p:=⟨b,off+i*2+1,none⟩) hlt).trans c2⟩
theorem ret_bool {a b:Bool} (h:a=b):Ending.returned (.bool a)=.returned (.bool b):=by rw[h]
theorem ret_int {k:IntKind} {a b:Int}(h:a=b):Ending.returned (.int k a)=.returned (.int k b):=by rw [h]
theorem hid {p:Prop} (h:p):Hid p:=h
theorem inTotal_any (s:Int) (w:World):
  Calls Tryz.prog 90 #[.int .i64 s] w fun e w'=>e=.returned (.bool (inTot s))∧w'=w:=by
 unfold inTot
 by_cases h1:-1000000000000≤s<;>by_cases h2:s≤1000000000000
 all_goals
  go_enter Tryz.func90,Tryz.ntmps90
  go_wp2
  go_ret
  simp[h1,h2]
theorem inRange_any (x:Int×Int) (w:World):
  Calls Tryz.prog 55 #[.agg #[.int .i64 x.1,.int .i64 x.2]] w fun e w'=>e=.returned (.bool (inR x))∧Below w.heap.size w w':=by
 obtain ⟨a,s⟩:=x
 have key:∀p q r:Bool,decide (0≤a)=p→decide (a <58)=q→inTot s=r→inR (a,s)=(p&&q&&r):=by
  rintro p q r rfl rfl rfl;rfl
 generalize inR (a,s)=u at key⊢
 have b0:Below w.heap.size w (w.alloc (.cells #[.int .i64 a,.int .i64 s] 114)):=(Below.refl _ _).alloc (Nat.le_refl _) _
 by_cases h1:0≤a
 ·by_cases h2:a<58
  ·have hu:Hid (u=inTot s):=hid (by have:= key true true _ (by simpa using h1) (by simpa using h2) rfl;simpa using this)
   clear key
   go_enter Tryz.func55,Tryz.ntmps55
   go_wp2_with (go_at_call 90;refine (inTotal_any _ _).mono ?_;rintro e w' ⟨rfl,rfl⟩)
   go_ret
   exact ⟨ret_bool hu.out.symm,b0⟩
  ·have hu:Hid (u =false):=hid (by have:= key true false _ (by simpa using h1) (by simpa using h2) rfl;simpa using this)
   clear key
   go_enter Tryz.func55,Tryz.ntmps55
   go_wp2_with (go_at_call 90;refine (inTotal_any _ _).mono ?_;rintro e w' ⟨rfl,rfl⟩)
   go_ret
   exact ⟨ret_bool hu.out.symm,b0⟩
 ·have hu:Hid (u=false):=hid (by have :=key false _ _ (by simpa using h1) rfl rfl;simpa using this)
  clear key
  go_enter Tryz.func55,Tryz.ntmps55
  go_wp2_with (go_at_call 90;refine (inTotal_any _ _).mono ?_;rintro e w' ⟨rfl,rfl⟩)
  go_ret
  exact ⟨ret_bool hu.out.symm,b0⟩
end Go.Proofs.YtofcnebekmjdoaaGreatDoor.Bk
