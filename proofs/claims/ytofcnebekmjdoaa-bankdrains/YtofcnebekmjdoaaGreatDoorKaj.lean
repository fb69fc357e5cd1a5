import Derived.Laws.BytesString
import Derived.Deep.RegionHeld3
import Derived.Deep.CutRange
import Derived.Deep.RegionLaw
import Derived.Deep.RegionWith
import Derived.BigQuiet
import Derived.Deep.QuietTactic
import Derived.Test.YtofcnebekmjdoaaGreatDoorKaa
import Derived.Test.YtofcnebekmjdoaaGreatDoorKac
set_option maxHeartbeats 4000000
set_option maxRecDepth 100000
namespace Go.Proofs.YtofcnebekmjdoaaGreatDoor.Dy
def Same (L L':List Rc):Prop:=∀a b,L'.filter (key a b)=L.filter (key a b)
theorem Same.refl (L:List Rc):Same L L:=fun _ _=>rfl
theorem Same.trans {A B C:List Rc}(h:Same A B) (h':Same B C):Same A C:=fun a b=>(h' a b).trans (h a b)
theorem Same.app {A A' B B':List Rc}(h:Same A A') (h':Same B B'):Same (A ++B) (A'++B'):=fun a b=>by rw[List.filter_append,List.filter_append,h,h']
theorem same_sort (L:List Rc):Same L (sortR L):=fun a b=>sort_filter L a b
theorem Same.sorted {L L':List Rc}(h:Same L L') (hs:Srt L'):L'=sortR L:=sort_eq hs h
theorem keys_apart{U V:List Rc}(h:∀x∈U,∀y∈V,gtB x y=true):Same (U++V) (V ++U):=by
 intro a b
 rw[List.filter_append,List.filter_append]
 by_cases hu:U.filter (key a b)=[]
 ·rw[hu];simp
 ·have hv:V.filter (key a b)=[]:=by
   rw[List.filter_eq_nil_iff]
   intro y hy hk
   apply hu
   rw[List.filter_eq_nil_iff]
   intro x hx hk'
   have :=key_gt hk (h x hx y hy)
   rw[this] at hk';cases hk'
  rw[hv];simp
def swp (L:List Rc) (i j:Nat):List Rc:=(L.set i (L.getD j zR)).set j (L.getD i zR)
theorem getD_app (P:List Rc) (x:Rc) (Q:List Rc):(P ++x::Q).getD P.length zR=x:=by simp[List.getD]
theorem getD_app' {P:List Rc}{n:Nat}(h:n=P.length) (x:Rc) (Q:List Rc):(P ++x::Q).getD n zR=x:=by subst h;exact getD_app P x Q
theorem set_app (P:List Rc) (x z:Rc) (Q:List Rc):(P++x::Q).set P.length z=P++z::Q:=by
 induction P with
 |nil=>rfl
 |cons y P ih=>simp
theorem set_app' {P:List Rc}{n:Nat}(h:n=P.length) (x z:Rc) (Q:List Rc):(P++x::Q).set n z=P++z::Q:=by subst h;exact set_app P x z Q
theorem swp_two (P:List Rc) (x:Rc) (M:List Rc) (y:Rc) (Q:List Rc){i j:Nat} (hi:i=P.length) (hj:j=P.length+1+M.length):
  swp (P++x::(M ++y::Q)) i j=P++y::(M ++x::Q):=by
 have e:∀z w:Rc,P++z::(M ++w::Q)=(P++z::M)++w::Q:=fun z w=>by simp
 have h1:(P ++x::(M++y::Q)).getD i zR=x:=getD_app' hi x _
 have h2:(P++x::(M ++y::Q)).getD j zR=y:=by rw [e];exact getD_app' (by simp;omega) y _
 unfold swp
 rw [h1,h2,set_app' hi,e,set_app' (by simp;omega),e]
theorem swp_comm {L:List Rc}{i j:Nat}(hij:i≠j):swp L i j=swp L j i:=by
 unfold swp
 rw[List.set_comm _ _ hij]
theorem swp_next (P:List Rc) (x y:Rc) (Q:List Rc) {i j:Nat} (hi:i=P.length) (hj:j=P.length+1):swp (P++x::y::Q) j i=P++y::x::Q:=by
 rw[swp_comm (by omega)]
 exact swp_two P x [] y Q hi (by simp[hj])
def mid (S:List Rc) (x:Rc) (p:Nat):List Rc:=S.take p++x::S.drop p
theorem mid_length (S:List Rc) (x:Rc) {p:Nat} (h:p≤S.length):(mid S x p).length=S.length+1:=by unfold mid;simp;omega
theorem mid_end (S:List Rc) (x:Rc):mid S x S.length=S++[x]:=by unfold mid;simp
theorem mid_split (S:List Rc) (x:Rc){p:Nat}(h:p<S.length):mid S x (p +1)=S.take p++S.getD p zR::x::S.drop (p+1):=by
 unfold mid;rw[take_at h];simp
theorem mid_split' (S:List Rc) (x:Rc){p:Nat}(h:p<S.length):mid S x p=S.take p++x::S.getD p zR::S.drop (p+1):=by
 unfold mid;rw[drop_at h]
theorem swp_mid (P S:List Rc) (x:Rc) (Q:List Rc){p i j:Nat}(h:p<S.length) (hi:i=P.length+p) (hj:j=P.length+p+1):swp (P++(mid S x (p+1)++Q)) j i=P++(mid S x p++Q):=by
 rw[mid_split S x h,mid_split' S x h]
 have e:∀y z:Rc,P++((S.take p++y::z::S.drop (p+1))++Q)=(P ++S.take p)++y::z::(S.drop (p +1)++Q):=fun y z=>by simp
 rw[e,e]
 exact swp_next _ _ _ _ (by simp;omega) (by simp;omega)
theorem mid_at (P S:List Rc) (x:Rc) (Q:List Rc) {p i:Nat} (h:p≤S.length) (hi:i=P.length+p):(P++(mid S x p++Q)).getD i zR=x:=by
 have e:P++(mid S x p++Q)=(P ++S.take p)++x::(S.drop p++Q):=by unfold mid;simp
 rw[e];exact getD_app' (by simp;omega) _ _
theorem mid_ahead (P S:List Rc) (x:Rc) (Q:List Rc){p i:Nat}(h:p<S.length) (hi:i=P.length+p):(P ++(mid S x (p +1)++Q)).getD i zR=S.getD p zR:=by
 have e:P++(mid S x (p +1)++Q)=(P++S.take p)++S.getD p zR::x::(S.drop (p+1)++Q):=by rw[mid_split S x h];simp
 rw[e];exact getD_app' (by simp;omega) _ _
theorem sort_snoc (X:List Rc) (x:Rc):sortR (X ++[x])=insR (sortR X) x:=by unfold sortR;rw[List.foldl_append];rfl
theorem sort_next {X:List Rc} {k:Nat}(h:k<X.length):sortR (X.take (k +1))=insR (sortR (X.take k)) (X.getD k zR):=by rw [take_at h,sort_snoc]
theorem ins_mid {S:List Rc} {x:Rc} {p:Nat}(h:pos x S S.length=p):insR S x=mid S x p:=by unfold insR mid;rw[h]
theorem pos_stay {S:List Rc} {x:Rc} {p:Nat}(h:gtB (S.getD p zR) x=false):pos x S (p +1)=p+1:=by unfold pos;rw[if_neg (by rw[h];simp)]
theorem pos_go {S:List Rc} {x:Rc} {p:Nat}(h:gtB (S.getD p zR) x=true):pos x S (p+1)=pos x S p:=by
 conv=>lhs;unfold pos
 rw [if_pos h]
def swd (P U V W Q:List Rc) (i:Nat):List Rc:=P++((W.take i++U.drop i)++(V ++((U.take i++W.drop i)++Q)))
theorem swd_zero (P U V W Q:List Rc):swd P U V W Q 0=P++(U ++(V ++(W ++Q))):=by simp[swd]
theorem swd_end {P U V W Q:List Rc} {n:Nat}(hu:U.length=n) (hw:W.length=n):swd P U V W Q n=P++(W ++(V ++(U ++Q))):=by
 unfold swd
 rw[List.drop_eq_nil_of_le (by omega),List.drop_eq_nil_of_le (by omega),List.take_of_length_le (by omega),List.take_of_length_le (by omega)]
 simp
theorem swd_length {P U V W Q:List Rc}{n i:Nat}(hu:U.length=n) (hw:W.length=n) (hi:i≤n):(swd P U V W Q i).length=P.length+n+V.length+n+Q.length:=by
 unfold swd;simp;omega
theorem swd_next {P U V W Q:List Rc}{n i a b:Nat} (hu:U.length=n) (hw:W.length=n) (hi:i<n) (ha:a=P.length+i) (hb:b=P.length+n+V.length+i):
  swp (swd P U V W Q i) a b=swd P U V W Q (i +1):=by
 unfold swd
 rw [drop_at (L:=U) (k:=i) (by omega),drop_at (L:=W) (k:=i) (by omega),take_at (L:=U) (k:=i) (by omega),take_at (L:=W) (k:=i) (by omega)]
 have e:∀x y:Rc,P++((W.take i++x::U.drop (i +1))++(V++((U.take i++y::W.drop (i+1))++Q)))=(P++W.take i)++x::((U.drop (i+1)++V++U.take i)++y::(W.drop (i+1)++Q)):=fun x y=>by simp
 rw [e,swp_two _ _ _ _ _ (by simp;omega) (by simp;omega)]
 simp
theorem all_le {S:List Rc}(hs:Srt S){i:Nat}{y:Rc}(h:i=0∨gtB (S.getD (i-1) zR) y=false) (hi:i≤S.length):∀x∈S.take i,gtB x y=false:=by
 intro x hx
 obtain ⟨j,h1,h2,rfl⟩:=mem_take_at hx
 rcases h with rfl|h
 ·omega
 ·rcases Nat.lt_or_ge j (i -1) with h3|h3
  ·exact gtB_trans (hs.at h3 (by omega)) h
  ·obtain rfl:j=i-1:=by omega
   exact h
theorem gtB_le_lt {a b c:Rc}(h1:gtB a b=false) (h2:gtB c b=true):gtB c a=true:=gtB_trans' h1 h2
theorem gtB_lt_le {a b c:Rc} (h1:gtB b a=true) (h2:gtB b c=false):gtB c a=true:=by
 rw[gtB_false] at h2;rw[gtB_true] at*;omega
theorem all_lt {S:List Rc}(hs:Srt S){i:Nat}{y:Rc}(h:i=0∨gtB y (S.getD (i -1) zR)=true) (hi:i≤S.length):∀x∈S.take i,gtB y x=true:=by
 intro x hx
 obtain ⟨j,h1,h2,rfl⟩:=mem_take_at hx
 rcases h with rfl|h
 ·omega
 ·rcases Nat.lt_or_ge j (i -1) with h3|h3
  ·exact gtB_le_lt (hs.at h3 (by omega)) h
  ·obtain rfl:j=i-1:=by omega
   exact h
theorem all_ge {S:List Rc} (hs:Srt S){i:Nat}{y:Rc} (h:i=S.length∨gtB y (S.getD i zR)=false):∀x∈S.drop i,gtB y x=false:=by
 intro x hx
 obtain ⟨j,h1,h2,rfl⟩:=mem_drop_at hx
 rcases h with rfl|h
 ·omega
 ·rcases Nat.lt_or_ge i j with h3|h3
  ·exact gtB_trans h (hs.at h3 h2)
  ·obtain rfl:j=i:=by omega
   exact h
theorem all_gt{S:List Rc}(hs:Srt S){i:Nat}{y:Rc}(h:i=S.length∨gtB (S.getD i zR) y=true):∀x∈S.drop i,gtB x y=true:=by
 intro x hx
 obtain ⟨j,h1,h2,rfl⟩:=mem_drop_at hx
 rcases h with rfl|h
 ·omega
 ·rcases Nat.lt_or_ge i j with h3|h3
  ·exact gtB_lt_le h (hs.at h3 h2)
  ·obtain rfl:j=i:=by omega
   exact h
theorem merge_left {x:Rc}{Y:List Rc}(hy:Srt Y){i:Nat}(hi:i≤Y.length) (h1:i=0∨gtB x (Y.getD (i -1) zR)=true) (h2:i=Y.length∨gtB x (Y.getD i zR)=false):Y.take i++x::Y.drop i=sortR (x::Y):=by
 have a1:=all_lt hy h1 hi
 have a2:=all_ge hy h2
 refine Same.sorted ?_ ?_
 ·have :Same (([x]++Y.take i)++Y.drop i) ((Y.take i++[x])++Y.drop i):=(keys_apart (U:=[x]) (by simpa using a1)).app (Same.refl _)
  simpa using this
 ·unfold Srt
  rw[List.pairwise_append]
  refine ⟨hy.take i,List.pairwise_cons.2 ⟨a2,hy.drop i⟩,fun y hy' z hz=>?_⟩
  rcases List.mem_cons.1 hz with rfl|hz
  ·exact gtB_asymm (a1 y hy')
  ·exact gtB_trans (gtB_asymm (a1 y hy')) (a2 z hz)
theorem merge_right {y:Rc}{X:List Rc}(hx:Srt X){i:Nat}(hi:i≤X.length) (h1:i=0∨gtB (X.getD (i -1) zR) y=false) (h2:i=X.length∨gtB (X.getD i zR) y=true):X.take i++y::X.drop i=sortR (X++[y]):=by
 have a1:=all_le hx h1 hi
 have a2:=all_gt hx h2
 refine Same.sorted ?_ ?_
 ·have :Same (X.take i++(X.drop i++[y])) (X.take i++([y]++X.drop i)):=(Same.refl _).app (keys_apart (by simpa using a2))
  simpa[←List.append_assoc] using this
 ·unfold Srt
  rw[List.pairwise_append]
  refine ⟨hx.take i,List.pairwise_cons.2 ⟨fun z hz=>gtB_asymm (a2 z hz),hx.drop i⟩,fun x hx' z hz=>?_⟩
  rcases List.mem_cons.1 hz with rfl|hz
  ·exact a1 x hx'
  ·exact gtB_trans (a1 x hx') (gtB_asymm (a2 z hz))
theorem Srt.app {A B:List Rc}(ha:Srt A) (hb:Srt B) (h:∀x∈A,∀y∈B,gtB x y=false):Srt (A ++B):=List.pairwise_append.2 ⟨ha,hb,h⟩
theorem Srt.left {A B:List Rc}(h:Srt (A++B)):Srt A:=(List.pairwise_append.1 h).1
theorem Srt.right {A B:List Rc}(h:Srt (A ++B)):Srt B:=(List.pairwise_append.1 h).2.1
theorem Srt.cross {A B:List Rc}(h:Srt (A++B)):∀x∈A,∀y∈B,gtB x y=false:=(List.pairwise_append.1 h).2.2
theorem merge_core {X1 X2 Y1 Y2:List Rc} (hX:Srt (X1 ++X2)) (hY:Srt (Y1 ++Y2)) (h1:∀x∈X1,∀y∈Y2,gtB x y=false) (h2:∀x∈X2,∀y∈Y1,gtB x y=true):
  sortR (X1++Y1)++sortR (X2++Y2)=sortR ((X1 ++X2)++(Y1++Y2)):=by
 refine Same.sorted ?_ ?_
 ·have a:Same (X1++(X2 ++Y1)++Y2) (X1 ++(Y1++X2)++Y2):=((Same.refl _).app (keys_apart h2)).app (Same.refl _)
  have b:Same ((X1++Y1)++(X2++Y2)) (sortR (X1 ++Y1)++sortR (X2++Y2)):=(same_sort _).app (same_sort _)
  have e1:X1++(X2 ++Y1)++Y2=(X1++X2)++(Y1 ++Y2):=by simp
  have e2:X1++(Y1 ++X2)++Y2=(X1 ++Y1)++(X2++Y2):=by simp
  rw[e1,e2] at a
  exact a.trans b
 ·refine Srt.app (sort_srt _) (sort_srt _) fun x hx y hy=>?_
  rw[mem_sort,List.mem_append] at hx hy
  rcases hx with hx|hx<;>rcases hy with hy|hy
  ·exact hX.cross x hx y hy
  ·exact h1 x hx y hy
  ·exact gtB_asymm (h2 y hy x hx)
  ·exact hY.cross x hx y hy
theorem merge_cut {X Y:List Rc} (hX:Srt X) (hY:Srt Y){i j:Nat} (hi:i≤X.length) (hj:j≤Y.length) (h1:i=0∨j=Y.length∨gtB (X.getD (i -1) zR) (Y.getD j zR)=false)
  (h2:i=X.length∨j=0∨gtB (X.getD i zR) (Y.getD (j-1) zR)=true):sortR (X.take i++Y.take j)++sortR (X.drop i++Y.drop j)=sortR (X++Y):=by
 have key:=merge_core (X1:=X.take i) (X2:=X.drop i) (Y1:=Y.take j) (Y2:=Y.drop j) (by rwa [List.take_append_drop]) (by rwa [List.take_append_drop]) ?_ ?_
 ·rw [List.take_append_drop,List.take_append_drop] at key;exact key
 ·intro x hx y hy
  rcases h1 with rfl|rfl|h1
  ·simp at hx
  ·simp at hy
  ·obtain ⟨p,q1,q2,rfl⟩:=mem_drop_at hy
   refine all_le hX (i:=i) (Or.inr ?_) hi x hx
   rcases Nat.lt_or_ge j p with h3|h3
   ·exact gtB_trans h1 (hY.at h3 q2)
   ·obtain rfl:p=j:=by omega
    exact h1
 ·intro x hx y hy
  rcases h2 with rfl|rfl|h2
  ·simp at hx
  ·simp at hy
  ·obtain ⟨p,q1,q2,rfl⟩:=mem_take_at hy
   refine all_gt hX (i:=i) (Or.inr ?_) x hx
   rcases Nat.lt_or_ge p (j -1) with h3|h3
   ·exact gtB_le_lt (hY.at h3 (by omega)) h2
   ·obtain rfl:p=j-1:=by omega
    exact h2
theorem sort_one_side {X Y:List Rc} (hX:Srt X) (hY:Srt Y) (h:X=[]∨Y=[]):sortR (X++Y)=X++Y:=by
 rcases h with rfl|rfl
 ·simpa using sort_of_srt hY
 ·simpa using sort_of_srt hX
def Blks (s:Nat):List (List Rc)→Prop
 |[]=>True
 |[B]=>B.length≤s∧Srt B
 |B::C::r=>B.length=s∧Srt B∧Blks s (C ::r)
def Full (s:Nat) (D:List (List Rc)):Prop:=∀B∈D,B.length=s∧Srt B
theorem full_nil (s:Nat):Full s []:=fun _ h=>by cases h
theorem Full.snoc {s:Nat} {D:List (List Rc)}(h:Full s D) {Z:List Rc}(hl:Z.length=s) (hz:Srt Z):Full s (D ++[Z]):=by
 intro B hB
 rcases List.mem_append.1 hB with h1|h1
 ·exact h B h1
 ·rw[List.mem_singleton.1 h1];exact ⟨hl,hz⟩
theorem Full.blks {s:Nat}:∀{D:List (List Rc)},Full s D→∀{Z:List Rc},Z.length≤s→Srt Z→Blks s (D ++[Z])
 |[],_,_,hl,hz=>⟨hl,hz⟩
 |[B],h,_,hl,hz=>⟨(h B List.mem_cons_self).1,(h B List.mem_cons_self).2,hl,hz⟩
 |B::C::r,h,_,hl,hz=>⟨(h B List.mem_cons_self).1,(h B List.mem_cons_self).2,Full.blks (D:=C::r) (fun x hx=>h x (List.mem_cons_of_mem _ hx)) hl hz⟩
theorem Blks.two {s:Nat} (hs:0<s):∀{B:List (List Rc)},Blks s B→2*s≤B.flatten.length→∃X Y r,B=X::Y::r∧X.length=s∧Y.length=s∧Srt X∧Srt Y∧Blks s r
 |[],_,h2=>by simp at h2;omega
 |[X],h,h2=>by simp [Blks] at h h2;omega
 |[X,Y],h,h2=>by
  simp only [Blks] at h
  simp only [List.flatten_cons,List.flatten_nil,List.append_nil,List.length_append] at h2
  exact ⟨X,Y,[],rfl,h.1,by omega,h.2.1,h.2.2.2,trivial⟩
 |X::Y::Z::r,h,_=>by
  simp only [Blks] at h
  exact ⟨X,Y,Z::r,rfl,h.1,h.2.2.1,h.2.1,h.2.2.2.1,h.2.2.2.2⟩
theorem Blks.last {s:Nat} (_hs:0<s):∀{B:List (List Rc)},Blks s B→B.flatten.length<2*s→s<B.flatten.length→∃X Y,B.flatten=X++Y∧X.length=s∧Srt X∧Srt Y
 |[],_,h2,h3=>by simp at h3
 |[X],h,h2,h3=>by simp [Blks] at h h3;omega
 |[X,Y],h,h2,h3=>by
  simp only [Blks] at h
  exact ⟨X,Y,by simp,h.1,h.2.1,h.2.2.2⟩
 |X::Y::Z::r,h,h2,_=>by
  simp only [Blks] at h
  simp only [List.flatten_cons,List.length_append] at h2
  omega
theorem Blks.small {s:Nat}(hs:0<s):∀{B:List (List Rc)},Blks s B→B.flatten.length≤s→Srt B.flatten
 |[],_,_=>srt_nil
 |[X],h,_=>by simpa[Blks] using h.2
 |[X,Y],h,h3=>by
  simp only[Blks] at h
  simp only[List.flatten_cons,List.flatten_nil,List.append_nil,List.length_append] at h3
  have: Y=[]:=List.eq_nil_of_length_eq_zero (by omega)
  subst this
  simpa using h.2.1
 |X::Y::Z::r,h,h2=>by
  simp only[Blks] at h
  simp only[List.flatten_cons,List.length_append] at h2
  omega
theorem flatten_snoc (D:List (List Rc)) (Z:List Rc):(D++[Z]).flatten=D.flatten++Z:=by simp
theorem cut (L:List Rc){n:Nat}(h:n≤L.length):∃A B,L=A++B∧A.length=n:=⟨L.take n,L.drop n,(List.take_append_drop n L).symm,by simp;omega⟩
end Go.Proofs.YtofcnebekmjdoaaGreatDoor.Dy
namespace Go.Proofs.YtofcnebekmjdoaaGreatDoor.Gn
open Go.RowKit
def kB:Kind Int where
 cells:=fun x=>[.int .u8 x]
 size:=1
 len:=fun _=>rfl
 one:=fun x u hu=>by simp at hu;subst hu;rfl
 pos:=by decide
end Go.Proofs.YtofcnebekmjdoaaGreatDoor.Gn
namespace Go.Proofs.YtofcnebekmjdoaaGreatDoor.Dy
open Go.RowKit Go.Proofs.YtofcnebekmjdoaaGreatDoor.Gn
def rv (r:Rc):Value:=.agg #[.int .i64 r.sh,.int .i64 r.au,.int .i64 r.k,.int .i64 r.m]
def rob (r:Rc):Obj:=.cells #[.int .i64 r.sh,.int .i64 r.au,.int .i64 r.k,.int .i64 r.m] 79
def kR:Kind Rc where
 cells:=fun r=>[.int .i64 r.sh,.int .i64 r.au,.int .i64 r.k,.int .i64 r.m]
 size:=4
 len:=fun _=>rfl
 one:=fun x u hu=>by simp at hu;rcases hu with rfl|rfl|rfl|rfl<;>rfl
 pos:=by decide
theorem infoR:(Tryz.prog.info? 79).map (fun i=>(i.zero,i.size,i.bytes))=some (some (.agg #[.int .i64 0,.int .i64 0,.int .i64 0,.int .i64 0]),4,32):=by kernel_rfl
theorem elemR:Elem Tryz.prog kR 39 79 32:=by
 obtain ⟨i,h1,h2,h3,h4⟩:=info_parts infoR
 exact ⟨Tryz.underlying39,i,_,h1,h2,h3,h4,rfl⟩
theorem rc_cells {w:World} {a:Option Addr} {cap:Nat} {L:List Rc}(h:Lies kR w a cap L) {i:Nat}(hi:i<L.length):
  ∃b off,a=some ⟨b,off,none⟩∧b<w.heap.size∧w.cell? ⟨b,off+i*4,none⟩=some (.int .i64 (L.getD i zR).sh)∧w.cell? ⟨b,off+i*4+1,none⟩=some (.int .i64 (L.getD i zR).au)∧
   w.cell? ⟨b,off+i*4+2,none⟩=some (.int .i64 (L.getD i zR).k)∧w.cell? ⟨b,off+i*4+3,none⟩=some (.int .i64 (L.getD i zR).m):=by
 obtain ⟨b,off,ha,hb,hc⟩:=h.elem (i:=i) (x:=L.getD i zR) (by simp[List.getD,hi])
 exact ⟨b,off,ha,hb,hc 0 _ rfl,hc 1 _ rfl,hc 2 _ rfl,hc 3 _ rfl⟩
theorem ret_int {k:IntKind}{a b:Int}(h:a=b):Ending.returned (.int k a)=.returned (.int k b):=by rw[h]
theorem hid {p:Prop}(h:p):Hid p:=h
theorem bel_alloc {W X:World}(h:Below W.heap.size W X) (o:Obj):Below W.heap.size W (X.alloc o):=h.alloc h.size o
def At {α:Type} (K:Kind α) (W:World) (v:Value) (L:List α):Prop:=∃a cap,v=.slice a L.length cap∧Lies K W a cap L
theorem At.below {α:Type}{K:Kind α}{W W':World}{v:Value}{L:List α}(h:At K W v L) (hb:Below W.heap.size W W'):At K W' v L:=by
 obtain ⟨a,cap,rfl,hl⟩:=h
 exact ⟨a,cap,rfl,hl.below hb⟩
theorem At.len {α:Type} {K:Kind α} {W:World} {v:Value} {L:List α} (h:At K W v L):L.length≤maxLen:=by
 obtain ⟨a,cap,rfl,hl⟩:=h
 exact hl.len
theorem row_at {α:Type} {K:Kind α} {e:TypeId} {W:World} {base:Nat} {v:Value} {L:List α}(h:Row K e W base v L):∃a cap,v=.slice a L.length cap∧Row K e W base (.slice a L.length cap) L∧Lies K W a cap L:=by
 obtain ⟨a,cap,rfl,hl,-,-⟩:=h.lies
 exact ⟨a,cap,rfl,h,hl⟩
theorem Row.at {α:Type}{K:Kind α}{e:TypeId}{W:World}{base:Nat}{v:Value}{L:List α}(h:Row K e W base v L):At K W v L:=by
 obtain ⟨a,cap,h1,-,h2⟩:=row_at h
 exact ⟨a,cap,h1,h2⟩
def Blo (w:World) (g:Nat) (L:List Rc):Prop:=L.length≤maxLen∧∃rest:List Value,w.heap[g]?=some (.cells (kR.flat L++rest).toArray 79)
theorem Blo.lt {w:World} {g:Nat} {L:List Rc}(h:Blo w g L):g<w.heap.size:=by
 obtain ⟨-,rest,h⟩:=h
 exact lt_of_block h
theorem Blo.keep {w w':World}{g:Nat}{L:List Rc} (h:Blo w g L) (hk:w'.heap[g]?=w.heap[g]?):Blo w' g L:=by
 obtain ⟨h0,rest,h⟩:=h
 exact ⟨h0,rest,hk.trans h⟩
theorem Blo.below {w w':World}{g:Nat}{L:List Rc}(h:Blo w g L){B:Nat}(hb:Below B w w') (hg:g<B):Blo w' g L:=h.keep (hb.block g hg)
theorem Blo.lies {w:World} {g:Nat} {L:List Rc} (h:Blo w g L) (cap:Nat):Lies kR w (some ⟨g,0,none⟩) cap L:=by
 have hlt:=h.lt
 obtain ⟨h0,rest,h⟩:=h
 refine ⟨h0,(fun h=>by cases h),Or.inr ⟨g,0,rfl,hlt,fun j u hj=>?_⟩⟩
 rw[Nat.zero_add,cell_of_row w g j _ _ _ h]
 have: j<(kR.flat L).length:=(List.getElem?_eq_some_iff.1 hj).1
 simp only[List.getElem?_toArray]
 rw[List.getElem?_append_left this];exact hj
theorem Blo.free {w:World}{g:Nat}{L:List Rc}(h:Blo w g L) (p:Nat):w.frozen? ⟨g,p,none⟩=false:=by
 obtain ⟨-,rest,h⟩:=h
 simp[World.frozen?,h]
def put4 (w:World) (g p:Nat) (r:Rc):World:=(((w.setCell ⟨g,p,none⟩ (.int .i64 r.sh)).setCell ⟨g,p+1,none⟩ (.int .i64 r.au)).setCell ⟨g,p+2,none⟩ (.int .i64 r.k)).setCell ⟨g,p+3,none⟩ (.int .i64 r.m)
theorem flat_len4 (L:List Rc):(kR.flat L).length=L.length*4:=kR.flat_length L
theorem set_behind (A M:List Value) (k:Nat) (v:Value):(A++M).set (A.length +k) v=A++M.set k v:=by
 induction A with
 |nil=>simp
 |cons a A ih=>rw[List.cons_append,List.length_cons,show A.length+1+k=(A.length+k)+1 by omega,List.set_cons_succ,ih];rfl
theorem put_list (A B:List Value) (c0 c1 c2 c3 v0 v1 v2 v3:Value):((((A ++c0::c1::c2::c3::B).set A.length v0).set (A.length+1) v1).set (A.length +2) v2).set (A.length +3) v3=A++v0::v1::v2::v3::B:=by
 have e:(A++c0::c1::c2::c3::B).set A.length v0=A++v0::c1::c2::c3::B:=set_behind A (c0 ::c1::c2::c3::B) 0 v0
 rw[e,set_behind,set_behind,set_behind]
 rfl
theorem flat_split {L:List Rc} {i:Nat}(hi:i<L.length) (rest:List Value):kR.flat L++rest=kR.flat (L.take i)++.int .i64 (L.getD i zR).sh::.int .i64 (L.getD i zR).au::.int .i64 (L.getD i zR).k::.int .i64 (L.getD i zR).m::(kR.flat (L.drop (i+1))++rest):=by
 have hx:L=L.take i++L.getD i zR::L.drop (i +1):=by rw[←drop_at hi,List.take_append_drop]
 conv=>lhs;rw[hx,kR.flat_append,kR.flat_cons]
 rw[List.append_assoc,List.append_assoc]
 rfl
theorem flat_split' {L:List Rc}{i:Nat}(hi:i<L.length) (r:Rc) (rest:List Value):kR.flat (L.set i r)++rest=kR.flat (L.take i)++.int .i64 r.sh::.int .i64 r.au::.int .i64 r.k::.int .i64 r.m::(kR.flat (L.drop (i +1))++rest):=by
 have hx:L=L.take i++L.getD i zR::L.drop (i +1):=by rw[←drop_at hi,List.take_append_drop]
 have hs:L.set i r=L.take i++r::L.drop (i +1):=by
  conv=>lhs;rw[hx]
  exact set_app' (by simp;omega) _ _ _
 rw[hs,kR.flat_append,kR.flat_cons,List.append_assoc,List.append_assoc]
 rfl
theorem Blo.put {w:World}{g:Nat}{L:List Rc} (h:Blo w g L){i p:Nat} (hi:i<L.length) (hp:p=i*4) (r:Rc):Blo (put4 w g p r) g (L.set i r):=by
 obtain ⟨h0,rest,h⟩:=h
 refine ⟨by rw [List.length_set];exact h0,rest,?_⟩
 have hA:p=(kR.flat (L.take i)).length:=by rw [flat_len4,hp];simp;omega
 rw [flat_split hi] at h
 rw [flat_split' hi]
 generalize kR.flat (L.take i)=A at*
 generalize kR.flat (L.drop (i+1))++rest=B at*
 clear hp
 subst hA
 have h1:=heap_setCell_same w g A.length _ _ (.int .i64 r.sh) h
 have h2:=heap_setCell_same _ g (A.length+1) _ _ (.int .i64 r.au) h1
 have h3:=heap_setCell_same _ g (A.length+2) _ _ (.int .i64 r.k) h2
 have h4:=heap_setCell_same _ g (A.length +3) _ _ (.int .i64 r.m) h3
 unfold put4
 rw [h4]
 simp only [List.setIfInBounds_toArray]
 rw [put_list]
theorem put4_below {B:Nat}{w W:World}(hb:Below B w W) (g p:Nat) (h:B≤g) (r:Rc):Below B w (put4 W g p r):=by
 have h0:B≤(⟨g,p,none⟩:Addr).block:=h
 have h1:B≤(⟨g,p+1,none⟩:Addr).block:=h
 have h2:B≤(⟨g,p+2,none⟩:Addr).block:=h
 have h3:B≤(⟨g,p+3,none⟩:Addr).block:=h
 exact (((hb.setCell h0 _).setCell h1 _).setCell h2 _).setCell h3 _
theorem Blo.cells {w:World} {g:Nat} {L:List Rc}(h:Blo w g L) {i:Nat}(hi:i<L.length):
  w.cell? ⟨g,i*4,none⟩=some (.int .i64 (L.getD i zR).sh)∧w.cell? ⟨g,i*4+1,none⟩=some (.int .i64 (L.getD i zR).au)∧
   w.cell? ⟨g,i*4+2,none⟩=some (.int .i64 (L.getD i zR).k)∧w.cell? ⟨g,i*4+3,none⟩=some (.int .i64 (L.getD i zR).m):=by
 obtain ⟨b,off,ha,-,h1,h2,h3,h4⟩:=rc_cells (h.lies 0) hi
 cases ha
 rw[Nat.zero_add] at h1 h2 h3 h4
 exact ⟨h1,h2,h3,h4⟩
theorem blo_of_owns {w:World}{base:Nat}{v:Value}{L:List Rc}(h:w.ownsRow base 79 4 v L.length (kR.flat L)) (h0:L≠[]):∃g cap,v=.slice (some ⟨g,0,none⟩) L.length cap∧L.length≤cap∧base≤g∧Blo w g L:=by
 rcases h.2 with ⟨rfl,hn⟩|⟨g,cap,cur,rfl,hg,hh,hn,hm,hc,hx⟩
 ·exact absurd (List.eq_nil_of_length_eq_zero hn) h0
 ·refine ⟨g,cap,rfl,hn,hg,Nat.le_trans hn hm,cur.toList.drop (L.length *4),?_⟩
  rw[hh]
  congr 2
  apply Array.toList_inj.1
  rw[←hx]
  simp
def cmpI (a b:Int):Int:=if a<b then-1 else if b<a then 1 else 0
def orI (x y:Int):Int:=if x≠0 then x else y
def ordR (a b:Rc):Int:=orI (cmpI a.sh b.sh) (cmpI a.au b.au)
theorem ord_neg {a b:Rc}:ordR a b<0↔gtB b a=true:=by
 rw[gtB_true]
 unfold ordR orI cmpI
 grind
theorem ord_pos {a b:Rc}:¬ordR a b<0↔gtB b a=false:=by rw[ord_neg];simp
theorem isNaN_any (x:Int) (w:World):Calls Tryz.prog 120 #[.int .i64 x] w fun e w'=>e=.returned (.bool false)∧w'=w:=by
 have h:(x !=x)=false:=by simp
 go_enter Tryz.func120,Tryz.ntmps120
 go_wp2
 go_ret
 simp
theorem compare_any (x y:Int) (w:World):Calls Tryz.prog 94 #[.int .i64 x,.int .i64 y] w fun e w'=>e=.returned (.int .i64 (cmpI x y))∧w'=w:=by
 have key:∀r,cmpI x y=r→Hid (cmpI x y=r):=fun r h=>h
 by_cases h1:x<y
 ·have hu:=key (-1) (by unfold cmpI;rw[if_pos h1])
  clear key
  go_enter Tryz.func94,Tryz.ntmps94
  go_wp2_with (go_at_call 120;refine (isNaN_any _ _).mono ?_;rintro e w' ⟨rfl,rfl⟩)
  go_ret
  exact ⟨ret_int hu.out.symm,rfl⟩
 by_cases h2:y<x
 ·have hu:=key 1 (by unfold cmpI;rw[if_neg h1,if_pos h2])
  clear key
  go_enter Tryz.func94,Tryz.ntmps94
  go_wp2_with (go_at_call 120;refine (isNaN_any _ _).mono ?_;rintro e w' ⟨rfl,rfl⟩)
  go_ret
  exact ⟨ret_int hu.out.symm,rfl⟩
 ·have hu:=key 0 (by unfold cmpI;rw[if_neg h1,if_neg h2])
  clear key
  go_enter Tryz.func94,Tryz.ntmps94
  go_wp2_with (go_at_call 120;refine (isNaN_any _ _).mono ?_;rintro e w' ⟨rfl,rfl⟩)
  go_ret
  exact ⟨ret_int hu.out.symm,rfl⟩
theorem or_any (b c:Nat) (x y:Int) (w:World) (hx:w.cell? ⟨b,0,none⟩=some (.int .i64 x)) (hy:w.cell? ⟨b,1,none⟩=some (.int .i64 y)):
  Calls Tryz.prog 93 #[.slice (some ⟨b,0,none⟩) 2 c] w fun e w'=>e=.returned (.int .i64 (orI x y))∧w'=w:=by
 have key:∀r,orI x y=r→Hid (orI x y=r):=fun r h=>h
 go_enter Tryz.func93,Tryz.ntmps93
 go_wp2
 go_loopw[8](fun i wr=>∃k:Nat,k≤2∧i=.int .i64 k∧wr=w∧Hid (1 ≤k→x=0)∧Hid (2 ≤k→y=0)) (fun i _=>2-(intOf i).toNat)
 case atStart=>exact ⟨0,by omega,rfl,rfl,fun h=>absurd h (by decide),fun h=>absurd h (by decide)⟩
 case round=>
  obtain ⟨k,hk,rfl,rfl,h1,h2⟩:=hrel
  obtain rfl|rfl|rfl:k=0∨k=1∨k=2:=by omega
  ·by_cases h0:x=0
   ·have g0:(x==0)=true:=by simpa using h0
    have g0':(x !=0)=false:=by simpa using h0
    have H:Hid (x =0):=h0
    clear h0
    go_wp2
    go_roundw
    case rel=>exact ⟨1,by omega,rfl,trivial,fun _=>H.out,fun h=>absurd h (by decide)⟩
    case measure=>decide
   ·have hu:=key x (by unfold orI;rw[if_pos h0])
    have g0:(x ==0)=false:=by simpa using h0
    have g0':(x !=0)=true:=by simpa using h0
    clear h0
    go_wp2
    go_ret
    exact ⟨ret_int hu.out.symm,rfl⟩
  ·have hx0:x=0:=h1.out (by omega)
   by_cases h0:y=0
   ·have g0:(y ==0)=true:=by simpa using h0
    have g0':(y !=0)=false:=by simpa using h0
    have H:Hid (y =0):=h0
    have HX:Hid (x=0):=hx0
    clear h0
    go_wp2
    go_roundw
    case rel=>exact ⟨2,by omega,rfl,trivial,fun _=>HX.out,fun _=>H.out⟩
    case measure=>decide
   ·have hu:=key y (by unfold orI;rw[if_neg (by simpa using hx0)])
    have g0:(y ==0)=false:=by simpa using h0
    have g0':(y !=0)=true:=by simpa using h0
    clear h0
    go_wp2
    go_ret
    exact ⟨ret_int hu.out.symm,rfl⟩
  ·have hu:=key 0 (by unfold orI;rw[h1.out (by omega),h2.out (by omega)];rfl)
   go_wp2
   go_ret
   exact ⟨ret_int hu.out.symm,rfl⟩
theorem order_any (a b:Rc) (w:World):Calls Tryz.prog 73 #[rv a,rv b] w fun e w'=>e=.returned (.int .i64 (ordR a b))∧Below w.heap.size w w':=by
 obtain ⟨a1,a2,a3,a4⟩:=a
 obtain ⟨b1,b2,b3,b4⟩:=b
 unfold rv ordR
 dsimp only
 go_enter Tryz.func73,Tryz.ntmps73
 go_upto_region 1 with fail
 have hb0:Below w.heap.size w ((w.alloc (.cells #[.int .i64 a1,.int .i64 a2,.int .i64 a3,.int .i64 a4] 79)).alloc (.cells #[.int .i64 b1,.int .i64 b2,.int .i64 b3,.int .i64 b4] 79)):=bel_alloc (bel_alloc (Below.refl _ _) _) _
 have c1:((w.alloc (.cells #[.int .i64 a1,.int .i64 a2,.int .i64 a3,.int .i64 a4] 79)).alloc (.cells #[.int .i64 b1,.int .i64 b2,.int .i64 b3,.int .i64 b4] 79)).cell? ⟨w.heap.size,0,none⟩=some (.int .i64 a1):=by simp
 have c2:((w.alloc (.cells #[.int .i64 a1,.int .i64 a2,.int .i64 a3,.int .i64 a4] 79)).alloc (.cells #[.int .i64 b1,.int .i64 b2,.int .i64 b3,.int .i64 b4] 79)).cell? ⟨w.heap.size,1,none⟩=some (.int .i64 a2):=by simp
 have c3:((w.alloc (.cells #[.int .i64 a1,.int .i64 a2,.int .i64 a3,.int .i64 a4] 79)).alloc (.cells #[.int .i64 b1,.int .i64 b2,.int .i64 b3,.int .i64 b4] 79)).cell? ⟨w.heap.size+1,0,none⟩=some (.int .i64 b1):=by simp
 have c4:((w.alloc (.cells #[.int .i64 a1,.int .i64 a2,.int .i64 a3,.int .i64 a4] 79)).alloc (.cells #[.int .i64 b1,.int .i64 b2,.int .i64 b3,.int .i64 b4] 79)).cell? ⟨w.heap.size+1,1,none⟩=some (.int .i64 b2):=by simp
 have hs:((w.alloc (.cells #[.int .i64 a1,.int .i64 a2,.int .i64 a3,.int .i64 a4] 79)).alloc (.cells #[.int .i64 b1,.int .i64 b2,.int .i64 b3,.int .i64 b4] 79)).heap.size=w.heap.size+2:=by simp
 generalize (w.alloc (.cells #[.int .i64 a1,.int .i64 a2,.int .i64 a3,.int .i64 a4] 79)).alloc (.cells #[.int .i64 b1,.int .i64 b2,.int .i64 b3,.int .i64 b4] 79)=W at*
 have d1:∀o,(W.alloc o).cell? ⟨w.heap.size,0,none⟩=some (.int .i64 a1):=fun o=>by rw[World.cell?_alloc_past _ _ _ (show w.heap.size<W.heap.size by omega)];exact c1
 have d2:∀o,(W.alloc o).cell? ⟨w.heap.size,1,none⟩=some (.int .i64 a2):=fun o=>by rw[World.cell?_alloc_past _ _ _ (show w.heap.size<W.heap.size by omega)];exact c2
 have d3:∀o,(W.alloc o).cell? ⟨w.heap.size+1,0,none⟩=some (.int .i64 b1):=fun o=>by rw[World.cell?_alloc_past _ _ _ (show w.heap.size+1<W.heap.size by omega)];exact c3
 have d4:∀o,(W.alloc o).cell? ⟨w.heap.size+1,1,none⟩=some (.int .i64 b2):=fun o=>by rw[World.cell?_alloc_past _ _ _ (show w.heap.size+1<W.heap.size by omega)];exact c4
 clear hs
 have hsz:=hb0.size
 go_region_held3 (fun w'=>w'.cell? ⟨w.heap.size,0,none⟩=some (.int .i64 a1)∧w'.cell? ⟨w.heap.size,1,none⟩=some (.int .i64 a2)∧w'.cell? ⟨w.heap.size+1,0,none⟩=some (.int .i64 b1)∧w'.cell? ⟨w.heap.size+1,1,none⟩=some (.int .i64 b2)) (first|exact ⟨c1,c2,c3,c4⟩|exact ⟨d1 _,d2 _,d3 _,d4 _⟩)
  (first
  |(go_at_call 94;refine (compare_any _ _ _).mono ?_;rintro e w' ⟨rfl,rfl⟩)
  |(go_at_call 93;refine (or_any _ _ (cmpI a1 b1) (cmpI a2 b2) _ (by simp) (by simp)).mono ?_;rintro e w' ⟨rfl,rfl⟩))
 all_goals
  go_wp2_with fail
  go_ret
  exact ⟨rfl,(hb0.alloc (by omega) _).drew⟩
end Go.Proofs.YtofcnebekmjdoaaGreatDoor.Dy
