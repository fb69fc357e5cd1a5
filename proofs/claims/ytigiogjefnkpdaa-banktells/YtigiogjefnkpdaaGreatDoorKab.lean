import Derived.Test.YtigiogjefnkpdaaGreatDoorKaa
set_option maxHeartbeats 4000000
set_option maxRecDepth 100000
open Go.Proofs.Tryz
namespace Go.Proofs.YtigiogjefnkpdaaGreatDoor.Gn
open ChangeShapes WideShapes ChangeAt RowKit
theorem own:ownKnob prog.godebug=none:=by kernel_rfl
theorem laidOut:laidOutB prog=true:=by kernel_rfl
theorem Ji:prog.cellsOf 3=1:=by kernel_rfl
theorem tS{α:Type}{xs:List α}{n i:Nat}(h:xs.length=n)(hi:i<n):∃y,xs[i]?=some y:=⟨xs[i],gH (by omega)⟩
theorem wf_i64{k:Int}(h:(Lit.int .i64 k).wf=true):-9223372036854775808≤k∧k≤9223372036854775807:=by simp only[Lit.wf,IntKind.min,IntKind.max,IntKind.signed,IntKind.bits,Bool.and_eq_true,decide_eq_true_eq,if_true]at h;omega
theorem ik{H:Type}{enc:TypeId×Value→H}{W:World}{aq:Nat}{a:Nat→Bool}{held:Bool}{n i:Nat}{v:Value}{xs:List (DataW H×List MemPlace)}{m:Nat}(h:DataW.trod enc prog W aq a held n 3 [v]=xs[i]?)(c:xs.length=m)(hi:i<m):∃k:Int,v=.int .i64 k∧-9223372036854775808≤k∧k≤9223372036854775807:=by obtain⟨y,hy⟩:=tS c hi;obtain⟨k,e,_,b⟩:=DataW.trod_int underlying3 (h.trans hy);exact⟨k,by simpa using e,wf_i64 b⟩
theorem wZ{α:Type}(A:α){H:Type}{enc:TypeId×Value→H}{W:World}{aq:Nat}{f:Nat→Bool}{held:Bool}(K:Kind α)(k:α→Prop){t e:TypeId}(T:prog.underlying t=some (.slice e))(Z:prog.cellsOf e=K.size)(I:∀n cs x,DataW.trod enc prog W aq f held n e cs=some x→∃y:α,cs=K.cells y∧k y){z:Nat}{a:Option Addr}{len cap:Nat}{x:DataW H×List MemPlace}(h:DataW.trod enc prog W aq f held z t [.slice a len cap]=some x):∃L:List α,len=L.length∧bF K W a cap L∧(∀ y∈L,k y)∧(L.length=0∨∃Q R,x.1=.slice Q R∧Q.length=L.length):=by
 rcases Go.Deep.open_slice T h with⟨g,-⟩|⟨ad,l,c,m,n,D,Pl,g,-,hl,hm,E,S,hD⟩;·simp at g;obtain⟨rfl,rfl,rfl⟩:=g;exact⟨[],rfl,dd K W,(fun _ h=>by cases h),Or.inl rfl⟩
 ·simp at g;obtain⟨rfl,rfl,rfl⟩:=g;have V:len≤m:=by rw[E];split<;>omega
  have each:∀i,i<len→∃y:α,k y∧∀j u,(K.cells y)[j]?=some u→W.cell? (ad.add (i *K.size+j))=some u:=fun i hi=>by
   obtain⟨cs,h1,h2⟩:=hD i (by omega);obtain⟨y,rfl,Y⟩:=I _ _ _ h2;obtain⟨_,d,o⟩:=World.cells?_some h1;refine⟨y,Y,fun j u w=>?_⟩;have X:j<K.size:=by have:= (List.getElem?_eq_some_iff.1 w).1;rwa[K.len]at this
   have:= o j (by omega);rw[Go.Deep.add_add,Z]at this;rw[this];exact w
  obtain⟨F,N⟩:=@Go.Deep.choose_lt α ⟨A⟩ _ _ each;have d:((List.range len).map F).length=len:=by simp
  refine⟨(List.range len).map F,d.symm,⟨by rw[d];omega,(fun h=>by cases h),?_⟩,?_,Or.inr ⟨_,_,by rw[S],by simp⟩⟩
  ·by_cases h0:len=0;·subst h0;exact Or.inl rfl
   right;have C:∃u,(K.cells (F 0))[0]?=some u:=tS (K.len (F 0)) K.pos;obtain⟨u0,B⟩:=C;have p:=(N 0 (by omega)).2 0 u0 B;obtain⟨b,off,q⟩:=ad;have U:q=none:=by simpa[Addr.add]using World.cell?_spot p
   subst U;refine⟨b,off,rfl,?_,fun j u w=>?_⟩;·rw[pj]at p;exact World.block_lt_of_cell? W _ p
   ·have G:j<len*K.size:=by have :=(List.getElem?_eq_some_iff.1 w).1;rw[K.ej,d]at this;exact this
    have hi:j/K.size<len:=Nat.div_lt_of_lt_mul (by rw[Nat.mul_comm];exact G);have J:=Nat.div_add_mod j K.size;have M:((List.range len).map F)[j/K.size]?=some (F (j /K.size)):=by simp[hi]
    have r:j%K.size<K.size:=Nat.mod_lt _ K.pos;obtain⟨v,O⟩:=tS (K.len (F (j /K.size))) r;have s:=K.oo M O;have P:j/K.size*K.size+j%K.size=j:=by rw[Nat.mul_comm];exact J
    rw[P,w]at s;cases s;have:= (N _ hi).2 _ _ O;rw[P,pj]at this;exact this
  ·intro y hy;obtain⟨i,hi,rfl⟩:=List.mem_map.1 hy;exact(N i (List.mem_range.1 hi)).1
end Go.Proofs.YtigiogjefnkpdaaGreatDoor.Gn
namespace Go.Proofs.YtigiogjefnkpdaaGreatDoor.Bn
open RowKit Gn
abbrev bI:=Nat→Nat
def aT(aI:bI)(n j:Nat):bI:=fun k=>if k<n then aI k else j
theorem aV{aI:bI}{n j k:Nat}(h:k<n):aT aI n j k=aI k:=aB h
theorem bu{aI:bI}{n j k:Nat}(h:n≤k):aT aI n j k=j:=ai (by omega)
structure fh(aI:bI)(j:Nat)(w w':World):Prop where
 os:w'.os=w.os
 tape:w'.tape=w.tape
 output:w'.output=w.output
 size:w.heap.size≤w'.heap.size
 block:∀k,k<w.heap.size→(j =0∨aI k≠j)→w'.heap[k]?=w.heap[k]?
theorem cA{aI:bI}{j:Nat}{w a:World}(h:Below w.heap.size w a):fh aI j w a:=⟨h.os,h.tape,h.output,h.size,fun k b _=>h.block k b⟩
theorem iH{aI:bI}{j:Nat}(w:World)(p:Addr)(v:Value)(h:aI p.block=j)(c:j≠0):fh aI j w (w.setCell p v):=have b:=(Below.refl 0 w).setCell (p:=p) (bq _) v
 ⟨b.os,b.tape,b.output,by simp,fun k _ a=>aF _ _ _ _ (by rintro rfl;rcases a with a|a;exact c a;exact a h)⟩
theorem fW{aI:bI}{j:Nat}{w b:World}{row:Option Nat}(h:w.grownBy b row)(c:∀k,row=some k→aI k=j)(e:j≠0):fh aI j w b:=⟨h.os,h.tape,h.output,h.size,fun k d a=>h.block k d (by rintro rfl;rcases a with a|a;exact e a;exact a (c k rfl))⟩
theorem fh.trans{aI:bI}{j:Nat}{a b c:World}(h:fh aI j a b)(h2:fh aI j b c):fh aI j a c:=⟨h2.os.trans h.os,h2.tape.trans h.tape,h2.output.trans h.output,bE h.size h2.size,fun k e d=>(h2.block k (bp e h.size) d).trans (h.block k e d)⟩
theorem fh.refl(aI:bI)(j:Nat)(w:World):fh aI j w w:=⟨rfl,rfl,rfl,aj _,fun _ _ _=>rfl⟩
theorem fh.drew{aI:bI}{j:Nat}{w a:World}(h:fh aI j w a):fh aI j w a.drew:=have b:=(Below.refl 0 a).drew
 ⟨b.os.trans h.os,b.tape.trans h.tape,b.output.trans h.output,h.size,h.block⟩
structure ir(w:World)(aI:bI)(w':World)(lab':bI):Prop where
 ext:∀k,k<w.heap.size→lab' k=aI k
 os:w'.os=w.os
 tape:w'.tape=w.tape
 output:w'.output=w.output
 size:w.heap.size≤w'.heap.size
 block:∀k,k<w.heap.size→(aI k=0∨8<aI k)→w'.heap[k]?=w.heap[k]?
theorem gD{aI:bI}{j:Nat}{w b:World}(h:fh aI j w b)(d:j≤8):ir w aI b (aT aI w.heap.size j):=⟨fun k a=>aV a,h.os,h.tape,h.output,h.size,fun k a c=>h.block k a (by omega)⟩
theorem aG{aI:bI}{w a:World}(h:Below w.heap.size w a):ir w aI a (aT aI w.heap.size 0):=gD (cA h) (by decide)
theorem ir.refl(w:World)(aI:bI):ir w aI w aI:=⟨fun _ _=>rfl,rfl,rfl,rfl,aj _,fun _ _ _=>rfl⟩
theorem ir.trans{w d w2:World}{aI b a:bI}(h:ir w aI d b)(h2:ir d b w2 a):ir w aI w2 a:=⟨fun k c=>(h2.ext k (bp c h.size)).trans (h.ext k c),h2.os.trans h.os,h2.tape.trans h.tape,h2.output.trans h.output,bE h.size h2.size,fun k c e=>(h2.block k (bp c h.size) (by rw[h.ext k c];exact e)).trans (h.block k c e)⟩
theorem ir.drew{w b:World}{aI a:bI}(h:ir w aI b a):ir w aI b.drew a:=have c:=(Below.refl 0 b).drew
 ⟨h.ext,c.os.trans h.os,c.tape.trans h.tape,c.output.trans h.output,h.size,h.block⟩
theorem ir.at{w b:World}{aI a:bI}(h:ir w aI b a){k:Nat}{o:Obj}(c:w.heap[k]?=some o)(d:aI k=0):b.heap[k]?=some o:=(h.block k (ae c) (Or.inl d)).trans c
theorem ir.zero{w b:World}{aI a:bI}(h:ir w aI b a){k:Nat}(d:k<w.heap.size)(c:aI k=0):a k=0:=(h.ext k d).trans c
theorem ir.below{w c:World}{aI a:bI}(h:ir w aI c a){aq:Nat}(e:aq≤w.heap.size)(hi:∀k,1≤aI k→aI k≤8→aq≤k):Below aq w c:=⟨h.os,h.tape,h.output,h.size,fun k d=>h.block k (by omega) (by
  rcases Nat.eq_zero_or_pos (aI k)with h0|h0;·exact Or.inl h0
  ·rcases jb 8 (aI k)with b|b;·exact Or.inr b
   ·have:= hi k h0 b;omega)⟩
variable {α : Type}
def Ap(K:Kind α)(aI:bI)(w:World)(v:Value)(L:List α)(j:Nat):Prop:=∃a cap,v=.slice a L.length cap∧bF K w a cap L∧∀ad,a=some ad→L≠[]→aI ad.block=j
theorem ni{K:Kind α}{w:World}{a:Option Addr}{cap:Nat}{L:List α}(h:bF K w a cap L)(d:L≠[]):∀ad,a=some ad→ad.block<w.heap.size:=by
 intro ad c;rcases h.at' with h0|⟨b,off,h1,h2,-⟩;·exact absurd h0 d
 ·rw[h1]at c;cases c;exact h2
theorem mN{K:Kind α}{w b:World}{a:Option Addr}{cap:Nat}{L:List α}(h:bF K w a cap L)(h0:L=[]):bF K b a cap L:=⟨h.len,h.nil,Or.inl h0⟩
theorem Ap.move{K:Kind α}{aI:bI}{w f:World}{v:Value}{L:List α}{i j:Nat}(h:Ap K aI w v L i)(k:fh aI j w f)(e:j=0∨i≠j):Ap K (aT aI w.heap.size j) f v L i:=by
 obtain⟨a,cap,g,d,l⟩:=h;by_cases h0:L=[];·exact⟨a,cap,g,mN d h0,fun _ _ m=>absurd h0 m⟩
 ·refine⟨a,cap,g,d.cB k.size fun ad b c=>k.block _ c ?_,fun ad b _=>?_⟩;·rw[l ad b h0];exact e
  ·rw[aV (ni d h0 ad b)];exact l ad b h0
theorem Ap.stay{K:Kind α}{aI:bI}{w d:World}{v:Value}{L:List α}{i j:Nat}(h:Ap K aI w v L i)(f:fh aI j w d)(c:j=0∨i≠j):Ap K aI d v L i:=by
 obtain⟨a,cap,e,g,k⟩:=h;by_cases h0:L=[];·exact⟨a,cap,e,mN g h0,fun _ _ l=>absurd h0 l⟩
 ·refine⟨a,cap,e,g.cB f.size fun ad m b=>f.block _ b ?_,k⟩;rw[k ad m h0];exact c
theorem Ap.bQ{K:Kind α}{aI:bI}{w:World}{v:Value}{L:List α}{i:Nat}(h:Ap K aI w v L i):∃a cap,v=.slice a L.length cap∧bF K w a cap L:=by obtain⟨a,cap,b,c,-⟩:=h;exact⟨a,cap,b,c⟩
theorem e_(K:Kind α)(aI:bI)(w:World)(j:Nat):Ap K aI w (.slice none 0 0) [] j:=⟨none,0,rfl,dd K w,fun _ h=>by cases h⟩
theorem ki{K:Kind α}{aI:bI}{n j:Nat}{b:World}{v:Value}{L:List α}{a:Option Addr}{cap:Nat}(c:v=.slice a L.length cap)(e:bF K b a cap L)(d:iw n a):Ap K (aT aI n j) b v L j:=⟨a,cap,c,e,fun ad f _=>bu (d ad f)⟩
theorem pq{K:Kind α}{e:TypeId}{aI:bI}{n j:Nat}{b:World}{v:Value}{L:List α}(h:Row K e b n v L):Ap K (aT aI n j) b v L j:=by obtain⟨a,cap,c,f,d,-⟩:=h.bQ;exact ki c f d
structure Tp(K:Kind α)(e:TypeId)(aI:bI)(aq:Nat)(w:World)(v:Value)(L:List α)(j:Nat):Prop where
 row:Row K e w aq v L
 own:L≠[]→w.ownsRow aq e K.size v L.length (K.flat L)aI:∀k,v.ownBlock=some k→aI k=j
theorem sJ{K:Kind α}{e:TypeId}{w b:World}{aq:Nat}{v:Value}{L:List α}(h:w.ownsRow aq e K.size v L.length (K.flat L))(d:∀k,v.ownBlock=some k→k<w.heap.size→b.heap[k]?=w.heap[k]?):b.ownsRow aq e K.size v L.length (K.flat L):=by
 refine⟨h.1,?_⟩;rcases h.2 with h0|⟨g,cap,a,rfl,f,c,r⟩;·exact Or.inl h0
 ·exact Or.inr ⟨g,cap,a,rfl,f,(d g rfl (ae c)).trans c,r⟩
theorem Tp.move{K:Kind α}{e:TypeId}{aI:bI}{aq:Nat}{w f:World}{v:Value}{L:List α}{i j:Nat}(h:Tp K e aI aq w v L i)(d:fh aI j w f)(c:j=0∨i≠j):Tp K e (aT aI w.heap.size j) aq f v L i:=⟨h.row.cB d.size fun k b a=>d.block k a (by rw[h.aI k b];exact c),fun g=>sJ (h.own g) fun k b a=>d.block k a (by rw[h.aI k b];exact c),fun k b=>by rw[aV (h.row.dV k b).2];exact h.aI k b⟩
theorem Tp.stay{K:Kind α}{e:TypeId}{aI:bI}{aq:Nat}{w f:World}{v:Value}{L:List α}{i j:Nat}(h:Tp K e aI aq w v L i)(c:fh aI j w f)(b:j=0∨i≠j):Tp K e aI aq f v L i:=⟨h.row.cB c.size fun k d a=>c.block k a (by rw[h.aI k d];exact b),fun g=>sJ (h.own g) fun k d a=>c.block k a (by rw[h.aI k d];exact b),h.aI⟩
theorem ve{K:Kind α}{e:TypeId}{aI:bI}{aq:Nat}{w:World}{j:Nat}:Tp K e aI aq w (.slice none 0 0) [] j:=⟨.nil,fun h=>absurd rfl h,fun _ h=>by cases h⟩
theorem Tp.grow{K:Kind α}{e:TypeId}{aI:bI}{aq:Nat}{w b:World}{v v':Value}{L a:List α}{j:Nat}(h:Tp K e aI aq w v L j)(c:Row K e b aq v' a)(d:a≠[]→b.ownsRow aq e K.size v' a.length (K.flat a))(g:∀k,v'.ownBlock=some k→v.ownBlock=some k∨w.heap.size≤k):Tp K e (aT aI w.heap.size j) aq b v' a j:=⟨c,d,fun k f=>by
  rcases g k f with h1|h1;·rw[aV (h.row.dV k h1).2];exact h.aI k h1
  ·exact bu h1⟩
theorem Tp.ap{K:Kind α}{e:TypeId}{aI:bI}{aq:Nat}{w:World}{v:Value}{L:List α}{j:Nat}(h:Tp K e aI aq w v L j):Ap K aI w v L j:=by
 rcases h.row with⟨rfl,rfl⟩|h1|⟨g,rfl,n,b,k⟩;·exact e_ K aI w j
 ·rcases h1.2 with⟨rfl,i⟩|⟨g,cap,m,rfl,r⟩;·have l:L=[]:=bZ i;subst l;exact e_ K aI w j
  ·obtain⟨a,d,f,b,-,-⟩:=(Row.own _ L h1).bQ;obtain⟨rfl,-,rfl⟩:=bB f;exact⟨_,_,rfl,b,fun ad c _=>by cases c;exact h.aI g rfl⟩
 ·exact⟨_,_,rfl,b,fun ad c _=>by cases c;exact h.aI g rfl⟩
theorem Tp.below{K:Kind α}{e:TypeId}{aI:bI}{aq:Nat}{w b:World}{v:Value}{L:List α}{j:Nat}(h:Tp K e aI aq w v L j){B:Nat}{a:World}(d:Below B a w)(c:w.grownBy b v.ownBlock)(h1:B≤aq)(h2:B≤w.heap.size):Below B a b:=cI d c h.row h1 h2
def cY(w:World)(g:Nat):Nat→List Value→World
 |_,[]=>w
 |p,x::r=>cY (w.setCell ⟨g,p,none⟩ x) g (p +1) r
theorem m_(w:World)(g p:Nat)(l:List Value):(cY w g p l).heap.size=w.heap.size:=by
 induction l generalizing w p with
 |nil=>rfl
 |cons x r a=>rw[cY,a];simp
theorem cE(w:World)(g p k:Nat)(l:List Value)(h:k≠g):(cY w g p l).heap[k]?=w.heap[k]?:=by
 induction l generalizing w p with
 |nil=>rfl
 |cons x r a=>rw[cY,a];exact aF _ _ _ _ h
theorem iy(l:List Value):∀(w:World) (g:Nat) (A M B:List Value) (t:TypeId),M.length=l.length→w.heap[g]?=some (.cells (A ++(M ++B)).toArray t)→(cY w g A.length l).heap[g]?=some (.cells (A ++(l++B)).toArray t):=by
 induction l with
 |nil=>intro w g A M B t a h;obtain rfl:=bZ a;exact h
 |cons x r b=>
  intro w g A M B t a h
  cases M with
  |nil=>simp at a
  |cons y M=>
   have h1:=aZ w g A.length _ _ x h;have e:(A ++(y::M++B)).toArray.setIfInBounds A.length x=((A ++[x])++(M ++B)).toArray:=by simp
   have h2:(w.setCell ⟨g,A.length,none⟩ x).heap[g]?=some (.cells ((A ++[x])++(M ++B)).toArray t):=by rw[←e];exact h1
   have c:=b _ g (A ++[x]) M B t (by simpa using a) h2;rw[cY];simpa using c
theorem uz(K:Kind α){L:List α}{i:Nat}{a:α}(h:L[i]?=some a):K.flat L=K.flat (L.take i)++(K.cells a++K.flat (L.drop (i +1))):=by
 have hi:=(List.getElem?_eq_some_iff.1 h).1;have b:L=L.take i++a::L.drop (i+1):=by have:= (List.getElem?_eq_some_iff.1 h).2;rw[←this,←gj hi,cL]
 conv=>lhs;rw[b,K.lI,K.ia]
theorem Ah(K:Kind α){L:List α}{i:Nat}(hi:i<L.length)(x:α):K.flat (L.set i x)=K.flat (L.take i)++(K.cells x++K.flat (L.drop (i+1))):=by
 have h:(L.set i x)[i]?=some x:=by simp[hi]
 rw[uz K h];simp[List.take_set_of_le,List.drop_set_of_lt]
theorem Row.put{K:Kind α}{e:TypeId}{w:World}{aq:Nat}{v:Value}{L:List α}(h:w.ownsRow aq e K.size v L.length (K.flat L)){i:Nat}(hi:i<L.length):∃g cap,v=.slice (some ⟨g,0,none⟩) L.length cap∧aq≤g∧g<w.heap.size∧L.length≤cap∧(∀ p,w.frozen? ⟨g,p,none⟩=false)∧∀x,(cY w g (i*K.size) (K.cells x)).ownsRow aq e K.size v (L.set i x).length (K.flat (L.set i x)):=by
 rcases h.2 with⟨-,d⟩|⟨g,cap,a,k,l,j,d,n,q,m⟩;·omega
 ·refine⟨g,cap,k,l,ae j,d,fun p=>by simp[World.frozen?,j],fun x=>?_⟩;have c:L[i]?=some L[i]:=by simp[hi]
  have b:a.toList=K.flat (L.take i)++(K.cells L[i]++(K.flat (L.drop (i +1))++a.toList.drop (L.length *K.size))):=by
   have h1:a.toList=a.toList.take (L.length*K.size)++a.toList.drop (L.length*K.size):=(cL _ _).symm;conv=>lhs;rw[h1,m,uz K c]
   simp
  have r:i*K.size=(K.flat (L.take i)).length:=by rw[K.ej,List.length_take,Nat.min_eq_left (by omega)]
  have f:w.heap[g]?=some (.cells (K.flat (L.take i)++(K.cells L[i]++(K.flat (L.drop (i+1))++a.toList.drop (L.length *K.size)))).toArray e):=by rw[←b];simpa using j
  have h2:=iy (K.cells x) w g _ _ _ e (by rw[K.len,K.len]) f;rw[←r]at h2;refine⟨?_,Or.inr ⟨g,cap,_,by rw[oS];exact k,l,h2,by rw[oS];exact d,n,?_,?_⟩⟩;·rw[K.ej]
  ·rw[←q,←Array.length_toList (xs:=a)];conv=>rhs;rw[b]
   simp[K.len]
  ·rw[oS,Ah K hi];have o:(K.flat (L.take i)++(K.cells x++K.flat (L.drop (i+1)))).length=L.length*K.size:=by rw[←Ah K hi,K.ej,oS]
   rw[←fi (K.cells x),←fi];rw[List.take_left' o]
end Go.Proofs.YtigiogjefnkpdaaGreatDoor.Bn
namespace Go.Proofs.YtigiogjefnkpdaaGreatDoor.Gn
open RowKit
def kI:Kind Int where
 cells:=fun x=>[.int .i64 x]
 size:=1
 len:=fun _=>rfl
 one:=fun x u a=>by simp at a;subst a;rfl
 pos:=by decide
theorem xL(L:List Int):kI.flat L=L.map fun x=>Value.int .i64 x:=by
 induction L with
 |nil=>rfl
 |cons x r a=>rw[kI.ia,a];rfl
theorem lB{w:World}{a:Option Addr}{cap:Nat}{L:List Int}(h:bF kI w a cap L){i:Nat}(hi:i<L.length):∃b off,a=some ⟨b,off,none⟩∧b<w.heap.size∧w.cell? ⟨b,off+i,none⟩=some (.int .i64 (L.getD i 0)):=by obtain⟨b,off,e,d,c⟩:=h.elem (i:=i) (x:=L.getD i 0) (by simp[List.getD,hi]);refine⟨b,off,e,d,?_⟩;have:= c 0 _ rfl;simpa[kI]using this
def ld(w:World)(e:TypeId)(b:Nat)(L:List Int):Prop:=w.heap[b]?=some (.cells (L.map fun x=>Value.int .i64 x).toArray e)
theorem ld.lt{w:World}{e:TypeId}{b:Nat}{L:List Int}(h:ld w e b L):b<w.heap.size:=ae h
theorem ld.cell{w:World}{e:TypeId}{b:Nat}{L:List Int}(h:ld w e b L){i:Nat}(hi:i<L.length):w.cell? ⟨b,i,none⟩=some (.int .i64 (L.getD i 0)):=by unfold ld at h;simp[World.cell?,h,hi,List.getD]
theorem ld.free{w:World}{e:TypeId}{b:Nat}{L:List Int}(h:ld w e b L)(i:Nat):w.frozen? ⟨b,i,none⟩=false:=by unfold ld at h;simp[World.frozen?,h]
theorem ld.set{w:World}{e:TypeId}{b:Nat}{L:List Int}(h:ld w e b L)(i:Nat)(x:Int):ld (w.setCell ⟨b,i,none⟩ (.int .i64 x)) e b (L.set i x):=by unfold ld at h⊢;rw[aZ w b i _ _ _ h];simp
theorem ld.below{w a:World}{e:TypeId}{b:Nat}{L:List Int}(h:ld w e b L)(c:Below w.heap.size w a):ld a e b L:=(c.block _ h.lt).trans h
theorem ld.alloc{w:World}{e:TypeId}{b:Nat}{L:List Int}(h:ld w e b L)(o:Obj):ld (w.alloc o) e b L:=h.below (ar w o)
theorem pZ(w:World)(e:TypeId)(n:Nat):ld (w.alloc (.cells (madeCells #[.int .i64 0] n) e)) e w.heap.size (List.replicate n 0):=by unfold ld;rw[ah _ _ _ rfl];congr 2;apply Array.toList_inj.1;rw[toList_madeCells_one];simp
theorem ld.owns{w:World}{e:TypeId}{b:Nat}{L:List Int}(h:ld w e b L)(aq:Nat)(d:aq≤b)(a:L.length≤maxLen):w.ownsRow aq e kI.size (.slice (some ⟨b,0,none⟩) L.length L.length) L.length (kI.flat L):=by
 have c:=h.lt;refine⟨?_,Or.inr ⟨b,L.length,(L.map fun x=>Value.int .i64 x).toArray,rfl,d,h,aj _,a,by simp[kI],?_⟩⟩;·rw[kI.ej]
 ·rw[xL];simp only[kI,Nat.mul_one];rw[gf (by simp)]
theorem ld.row{w:World}{e:TypeId}{b:Nat}{L:List Int}(h:ld w e b L)(aq:Nat)(c:aq≤b)(a:L.length≤maxLen):Row kI e w aq (.slice (some ⟨b,0,none⟩) L.length L.length) L:=.own _ _ (h.owns aq c a)
theorem Dn{w:World}{e:TypeId}{aq:Nat}{v:Value}{L:List Int}(h:w.ownsRow aq e kI.size v L.length (kI.flat L)){i:Nat}(hi:i<L.length):∃g cap,v=.slice (some ⟨g,0,none⟩) L.length cap∧aq≤g∧g<w.heap.size∧L.length≤cap∧w.cell? ⟨g,i,none⟩=some (.int .i64 (L.getD i 0))∧w.frozen? ⟨g,i,none⟩=false∧∀x,(w.setCell ⟨g,i,none⟩ (.int .i64 x)).ownsRow aq e kI.size v (L.set i x).length (kI.flat (L.set i x)):=by
 obtain⟨a,cap,l,n,s,t,m⟩:=kf h;rcases h.2 with⟨-,h0⟩|⟨g,d,q,f,o,k,j,u,y,r⟩;·omega
 ·subst f;obtain⟨b,off,p,-,c⟩:=lB n hi;obtain⟨h1,-,z⟩:=bB l;subst h1;cases p;rw[dW]at c;refine⟨g,d,rfl,o,ae k,j,c,by simp[World.frozen?,k],fun x=>?_⟩;have:= (World.ownsRow.stored (w:=w) h i (.int .i64 x)).1;rw[xL]at this;rw[xL,oS,List.map_set];exact this
