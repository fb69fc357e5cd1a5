import Derived.Test.YtigiogjefnkpdaaGreatDoorKa
set_option maxHeartbeats 4000000
set_option maxRecDepth 100000
open Go.Proofs.Tryz
namespace Go.Proofs.YtigiogjefnkpdaaGreatDoor.Gn
open RowKit
structure Kind(α:Type) where
 cells:α→List Value
 size:Nat
 len:∀x,(cells x).length=size
 one:∀x,∀u∈cells x,u.oneCell'=true
 pos:0<size
variable {α : Type}
def Kind.flat(K:Kind α)(L:List α):List Value:=L.flatMap K.cells
theorem Kind.ia(K:Kind α)(x:α)(L:List α):K.flat (x::L)=K.cells x++K.flat L:=rfl
theorem Kind.lI(K:Kind α)(L M:List α):K.flat (L ++M)=K.flat L++K.flat M:=by unfold Kind.flat;simp
theorem Kind.vl(K:Kind α)(x:α):K.flat [x]=K.cells x:=by unfold Kind.flat;simp
theorem Kind.ej(K:Kind α)(L:List α):(K.flat L).length=L.length*K.size:=by
 induction L with
 |nil=>simp[Kind.flat]
 |cons x r a=>rw[K.ia,a_,K.len,a,di,Nat.add_mul];omega
theorem Kind.FG(K:Kind α)(L:List α):∀u∈K.flat L,u.oneCell'=true:=by intro u a;unfold Kind.flat at a;obtain⟨x,-,b⟩:=List.mem_flatMap.1 a;exact K.one x u b
theorem Kind.oo(K:Kind α){L:List α}{i:Nat}{x:α}(h:L[i]?=some x){j:Nat}{u:Value}(a:(K.cells x)[j]?=some u):(K.flat L)[i*K.size+j]?=some u:=by
 induction L generalizing i with
 |nil=>simp at h
 |cons y r b=>
  rw[K.ia]
  cases i with
  |zero=>simp at h;subst h;have :j<(K.cells y).length:=(List.getElem?_eq_some_iff.1 a).1;rw[Nat.zero_mul,dW,iP this];exact a
  |succ i=>
   have c:r[i]?=some x:=by simpa using h
   rw[qj (by rw[K.len,Nat.add_mul];omega),K.len,Nat.add_mul,show i*K.size+1*K.size+j-K.size=i*K.size+j by omega];exact b c
theorem Kind.FH(K:Kind α)(L:List α)(i:Nat):(K.flat L).drop (i*K.size)=K.flat (L.drop i):=by
 induction L generalizing i with
 |nil=>simp[Kind.flat]
 |cons y r a=>
  cases i with
  |zero=>simp
  |succ i=>rw[K.ia,List.drop_succ_cons,←a,show(i +1)*K.size=(K.cells y).length+i*K.size by rw[K.len,Nat.add_mul];omega,List.drop_append];simp
theorem Kind.Et(K:Kind α)(L:List α)(i:Nat):(K.flat L).take (i *K.size)=K.flat (L.take i):=by
 induction L generalizing i with
 |nil=>simp[Kind.flat]
 |cons y r a=>
  cases i with
  |zero=>simp[Kind.flat]
  |succ i=>rw[K.ia,List.take_succ_cons,K.ia,←a,show(i+1)*K.size=(K.cells y).length+i*K.size by rw[K.len,Nat.add_mul];omega,List.take_append,gf (by omega)];simp
structure bF(K:Kind α)(w:World)(a:Option Addr)(cap:Nat)(L:List α):Prop where
 len:L.length≤maxLen
 nil:a=none→cap=0
 at':L=[]∨∃b off,a=some ⟨b,off,none⟩∧b<w.heap.size∧∀j u,(K.flat L)[j]?=some u→w.cell? ⟨b,off+j,none⟩=some u
theorem bF.py{K:Kind α}{w:World}{cap:Nat}{L:List α}(h:bF K w none cap L):L=[]:=by
 rcases h.at' with h|⟨b,off,h,-⟩;·exact h
 ·cases h
theorem dd(K:Kind α)(w:World):bF K w none 0 []:=⟨by simp[maxLen],fun _=>rfl,Or.inl rfl⟩
def iw(B:Nat)(a:Option Addr):Prop:=∀ad,a=some ad→B≤ad.block
theorem c_(B:Nat):iw B none:=fun _ h=>by cases h
theorem bF.cB{K:Kind α}{w d:World}{a:Option Addr}{cap:Nat}{L:List α}(h:bF K w a cap L)(f:w.heap.size≤d.heap.size)(g:∀ad,a=some ad→ad.block<w.heap.size→d.heap[ad.block]?=w.heap[ad.block]?):bF K d a cap L:=by
 refine⟨h.len,h.nil,?_⟩;rcases h.at' with h0|⟨b,off,e,c,k⟩;·exact Or.inl h0
 ·refine Or.inr ⟨b,off,e,bp c f,fun j u i=>?_⟩;rw[←k j u i];exact ri (a:=⟨b,off+j,none⟩) (g ⟨b,off,none⟩ e c)
theorem bF.below{K:Kind α}{w c:World}{a:Option Addr}{cap:Nat}{L:List α}(h:bF K w a cap L)(d:Below w.heap.size w c):bF K c a cap L:=h.cB d.size fun _ _ b=>d.block _ b
theorem bF.set{K:Kind α}{w:World}{a:Option Addr}{cap:Nat}{L:List α}(h:bF K w a cap L){B:Nat}(b:iw B a){p:Addr}(d:p.block<B)(v:Value):bF K (w.setCell p v) a cap L:=h.cB (by simp) fun ad c _=>aF _ _ _ _ (by have:= b ad c;omega)
theorem bF.elem{K:Kind α}{w:World}{a:Option Addr}{cap:Nat}{L:List α}(h:bF K w a cap L){i:Nat}{x:α}(d:L[i]?=some x):∃b off,a=some ⟨b,off,none⟩∧b<w.heap.size∧∀j u,(K.cells x)[j]?=some u→w.cell? ⟨b,off+i*K.size+j,none⟩=some u:=by
 rcases h.at' with h0|⟨b,off,g,c,f⟩;·subst h0;simp at d
 ·exact⟨b,off,g,c,fun j u e=>by have :=f _ _ (K.oo d e);rwa[←Nat.add_assoc]at this⟩
theorem pj(b off j:Nat):(⟨b,off,none⟩:Addr).add j=⟨b,off+j,none⟩:=by unfold Addr.add;by_cases a:j=0<;>simp[a]
theorem bF.cells{K:Kind α}{w:World}{ad:Addr}{cap:Nat}{L:List α}(h:bF K w (some ad) cap L):∀j u,(K.flat L)[j]?=some u→w.cell? (ad.add j)=some u:=by
 intro j u a;rcases h.at' with rfl|⟨b,off,d,-,c⟩;·simp[Kind.flat]at a
 ·cases d;rw[pj];exact c j u a
def Row(K:Kind α)(e:TypeId)(w:World)(aq:Nat)(v:Value)(L:List α):Prop:=(v=.slice none 0 0∧L=[])∨w.ownsRow aq e K.size v L.length (K.flat L)∨∃g,v=.slice (some ⟨g,0,none⟩) L.length L.length∧aq≤g∧bF K w (some ⟨g,0,none⟩) L.length L∧g<w.heap.size
theorem Row.nil{K:Kind α}{e:TypeId}{w:World}{aq:Nat}:Row K e w aq (.slice none 0 0) []:=Or.inl ⟨rfl,rfl⟩
theorem Row.own{K:Kind α}{e:TypeId}{w:World}{aq:Nat}(v:Value)(L:List α)(h:w.ownsRow aq e K.size v L.length (K.flat L)):Row K e w aq v L:=Or.inr (Or.inl h)
theorem Row.full{K:Kind α}{e:TypeId}{w:World}{aq:Nat}(g:Nat)(L:List α)(c:aq≤g)(b:bF K w (some ⟨g,0,none⟩) L.length L)(a:g<w.heap.size):Row K e w aq (.slice (some ⟨g,0,none⟩) L.length L.length) L:=Or.inr (Or.inr ⟨g,rfl,c,b,a⟩)
theorem kf{K:Kind α}{e:TypeId}{w:World}{aq:Nat}{v:Value}{L:List α}(h:w.ownsRow aq e K.size v L.length (K.flat L)):∃a cap,v=.slice a L.length cap∧bF K w a cap L∧iw aq a∧(a=none→L=[])∧∀ad,a=some ad→ad.block<w.heap.size:=by
 rcases h.2 with⟨rfl,d⟩|⟨g,cap,f,rfl,m,i,d,l,o,k⟩;·have n:L=[]:=bZ d;subst n;exact⟨none,0,rfl,dd K w,c_ _,fun _=>rfl,fun _ h=>by cases h⟩
 ·have b:g<w.heap.size:=ae i;refine⟨some ⟨g,0,none⟩,cap,rfl,⟨bE d l,(fun h=>by cases h),Or.inr ⟨g,0,rfl,b,fun j u c=>?_⟩⟩,(fun _ h=>by cases h;exact m),(fun h=>by cases h),fun _ h=>by cases h;exact b⟩;rw[dW,cell_of_row w g j f e _ i];rw[←k,List.getElem?_take]at c;split at c;·simpa using c
  ·cases c
theorem Row.bQ{K:Kind α}{e:TypeId}{w:World}{aq:Nat}{v:Value}{L:List α}(h:Row K e w aq v L):∃a cap,v=.slice a L.length cap∧bF K w a cap L∧iw aq a∧∀ad,a=some ad→ad.block<w.heap.size:=by
 rcases h with⟨rfl,rfl⟩|h|⟨g,rfl,d,c,b⟩;·exact⟨none,0,rfl,dd K w,c_ _,fun _ h=>by cases h⟩
 ·obtain⟨a,cap,h1,h2,i,-,f⟩:=kf h;exact⟨a,cap,h1,h2,i,f⟩
 ·exact⟨_,_,rfl,c,(fun _ h=>by cases h;exact d),fun _ h=>by cases h;exact b⟩
theorem Row.dV{K:Kind α}{e:TypeId}{w:World}{aq:Nat}{v:Value}{L:List α}(h:Row K e w aq v L):∀k,v.ownBlock=some k→aq≤k∧k<w.heap.size:=by
 rcases h with⟨rfl,rfl⟩|h|⟨g,rfl,c,d,b⟩;·intro k a;cases a
 ·exact fun k a=>h.lt k a
 ·intro k a;cases a;exact⟨c,b⟩
theorem Row.mono{K:Kind α}{e:TypeId}{w:World}{aq base':Nat}{v:Value}{L:List α}(h:Row K e w aq v L)(d:base'≤aq):Row K e w base' v L:=by
 rcases h with⟨rfl,rfl⟩|h|⟨g,rfl,b,i,a⟩;·exact .nil
 ·refine .own _ _ ⟨h.1,?_⟩;rcases h.2 with h0|⟨g,cap,c,f,b,r⟩;·exact Or.inl h0
  ·exact Or.inr ⟨g,cap,c,f,bE d b,r⟩
 ·exact .full g L (bE d b) i a
theorem Row.cB{K:Kind α}{e:TypeId}{w b:World}{aq:Nat}{v:Value}{L:List α}(h:Row K e w aq v L)(j:w.heap.size≤b.heap.size)(f:∀k,v.ownBlock=some k→k<w.heap.size→b.heap[k]?=w.heap[k]?):Row K e b aq v L:=by
 rcases h with⟨rfl,rfl⟩|h|⟨g,rfl,c,l,a⟩;·exact .nil
 ·refine .own _ _ ⟨h.1,?_⟩;rcases h.2 with h0|⟨g,cap,d,rfl,c,i,r⟩;·exact Or.inl h0
  ·exact Or.inr ⟨g,cap,d,rfl,c,(f g rfl (ae i)).trans i,r⟩
 ·exact .full g L c (l.cB j fun ad m a=>f ad.block (by cases m;rfl) a) (by omega)
theorem Row.below{K:Kind α}{e:TypeId}{w b:World}{aq:Nat}{v:Value}{L:List α}(h:Row K e w aq v L)(c:Below w.heap.size w b):Row K e b aq v L:=h.cB c.size fun k _ a=>c.block k a
theorem Row.grown{K:Kind α}{e:TypeId}{w b:World}{aq:Nat}{v:Value}{L:List α}(h:Row K e w aq v L){row:Option Nat}(c:w.grownBy b row)(d:∀k,v.ownBlock=some k→row≠some k):Row K e b aq v L:=h.cB c.size fun k f a=>c.block k a fun h=>d k f h.symm
theorem bF.grown{K:Kind α}{w c:World}{a:Option Addr}{cap:Nat}{L:List α}(h:bF K w a cap L){row:Option Nat}(d:w.grownBy c row)(e:∀ad,a=some ad→row≠some ad.block):bF K c a cap L:=h.cB d.size fun ad f b=>d.block _ b fun h=>e ad f h.symm
structure sc(P:Program)(K:Kind α)(t e:TypeId)(bytes:Nat):Prop where
 under:P.underlying t=some (.slice e)info:∃i z,P.info? e=some i∧i.zero=some z∧i.size=K.size∧i.bytes=bytes∧z.cells.size=K.size
theorem Bd{P:Program}{K:Kind α}{t e:TypeId}{bytes:Nat}(E:sc P K t e bytes)(w:World)(y:TypeId)(aq:Nat)(v:Value)(L:List α)(Q:Row K e w aq v L)(a:Option Addr)(m c:Nat)(M:List α)(Y:m=M.length)(s:bF K w a c M)(I:L.length+M.length≤maxLen)(d:(L.length +M.length)*bytes≤140737488355328)(n:aq≤w.heap.size):∃v' b,(Builtin.append_ #[t,t] y #[v,.slice a m c]).run P w=.ok v' b∧Row K e b aq v' (L ++M)∧w.grownBy b v.ownBlock∧(∀ k,v'.ownBlock=some k→v.ownBlock=some k∨w.heap.size≤k)∧(M ≠[]→b.ownsRow aq e K.size v' (L ++M).length (K.flat (L ++M))):=by
 obtain⟨B,i,z,hi,V,C,H,A⟩:=E;subst Y;have F:=K.pos
 -- X list U is u to, as an O row
 have j:∀v,w.ownsRow aq e K.size v L.length (K.flat L)→∃v' b,(Builtin.append_ #[t,t] y #[v,.slice a M.length c]).run P w=.ok v' b∧Row K e b aq v' (L ++M)∧w.grownBy b v.ownBlock∧(∀ k,v'.ownBlock=some k→v.ownBlock=some k∨w.heap.size≤k)∧(M≠[]→b.ownsRow aq e K.size v' (L ++M).length (K.flat (L++M))):=by
  intro v l
  cases a with
  |none=>have h0:=s.py;subst h0;obtain rfl:=s.nil rfl;have D:=run_append_owned_none (P:=P) w aq t y e i K.size B hi v _ _ l;exact⟨v,w,D,by rw[iG];exact .own v L l,World.grownBy.refl _ _,fun _ h=>Or.inl h,fun h=>absurd rfl h⟩
  |some ad=>
   obtain⟨v',b,D,h2,q,-,J⟩:=run_append_own_at (P:=P) w aq t y e i z K.size bytes B hi V C H A F v L.length (K.flat L) l ad M.length c (K.flat M) (K.ej M) s.cells (K.FG M) I d n;have f:b.ownsRow aq e K.size v' (L ++M).length (K.flat (L ++M)):=by rw[a_,K.lI];exact h2
   have Z:∀k,v'.ownBlock=some k→v.ownBlock=some k∨w.heap.size≤k:=by
    intro k o;rcases J with J|J;·rw[J]at o;exact Or.inl o
    ·rw[J]at o;cases o;exact Or.inr (aj _)
   exact⟨v',b,D,.own v' _ f,q,Z,fun _=>f⟩
 rcases Q with⟨rfl,rfl⟩|h|⟨g,rfl,N,R,G⟩;·exact j _ (d_ _ _ _ _)
 ·exact j v h
 ·cases a with
  |none=>have h0:=s.py;subst h0;obtain rfl:=s.nil rfl;refine⟨_,w,?_,by rw[iG];exact .full g L N R G,World.grownBy.refl _ _,fun _ h=>Or.inl h,fun h=>absurd rfl h⟩;simp[Builtin.append_,run_underlying B,sizeOf,typeInfo,hi,Builtin.lenOf,Builtin.firstCells,storeCells]
  |some ad=>
   by_cases h0:M=[];·subst h0;refine⟨_,w,?_,by rw[iG];exact .full g L N R G,World.grownBy.refl _ _,fun _ h=>Or.inl h,fun h=>absurd rfl h⟩;simp[Builtin.append_,run_underlying B,sizeOf,typeInfo,hi,Builtin.lenOf,Builtin.firstCells,storeCells,loadCells,loadCellsFrom]
   ·have W:0<M.length:=by cases M with
     |nil=>exact absurd rfl h0
     |cons x r=>simp
    obtain⟨v',b,D,h2,q⟩:=run_append_arg_grows (P:=P) w t y e i z K.size bytes B hi V C H A F ⟨g,0,none⟩ L.length L.length (K.flat L) (K.ej L) R.cells ad M.length c (K.flat M) (K.ej M) s.cells (by omega) I d;have f:b.ownsRow w.heap.size e K.size v' (L++M).length (K.flat (L++M)):=by rw[a_,K.lI];exact h2
    have p:b.ownsRow aq e K.size v' (L++M).length (K.flat (L++M)):=by
     refine⟨f.1,?_⟩;rcases f.2 with h0|⟨g,cap,T,Q,N,r⟩;·exact Or.inl h0
     ·exact Or.inr ⟨g,cap,T,Q,bE n N,r⟩
    have S:w.grownBy b (Value.ownBlock (.slice (some ⟨g,0,none⟩) L.length L.length)):=⟨q.os,q.tape,q.output,q.size,fun k o _=>q.block k o (by simp)⟩;exact⟨v',b,D,.own v' _ p,S,fun k o=>Or.inr (f.lt k o).1,fun _=>p⟩
theorem vN{P:Program}{K:Kind α}{t e:TypeId}{bytes:Nat}(E:sc P K t e bytes)(w:World){o:Oper}{a:Act}{i:Act→World→Prop}{Q:Exit→Act→World→Prop}(s x:Operand)(q:o.op=.call {callee:=.builtin .append,args:=#[s,x],argTypes:=#[t,t]})(aq:Nat)(v:Value)(L:List α)(n:a.eval s=v)(l:Row K e w aq v L)(ad:Option Addr)(m c:Nat)(M:List α)(j:a.eval x=.slice ad m c)(r:m=M.length)(u:bF K w ad c M)(g:L.length+M.length≤maxLen)(b:(L.length +M.length)*bytes≤140737488355328)(d:aq≤w.heap.size)(h:∀v' f,Row K e f aq v' (L ++M)→w.grownBy f v.ownBlock→(∀ k,v'.ownBlock=some k→v.ownBlock=some k∨w.heap.size≤k)→(M ≠[]→f.ownsRow aq e K.size v' (L ++M).length (K.flat (L ++M)))→i (a.put o.dst v') f):o.wp P a w i Q:=by obtain⟨v',f,p,h2,A,z,y⟩:=Bd E w o.type aq v L l ad m c M r u g b d;unfold Oper.wp execOp;simp only[q,resolve,invoke,builtin,Sem.run_bind,Sem.run_pure,Result.andThen_ok,List.map_toArray,List.map_cons,List.map_nil,n,j,p];exact h v' f h2 A z y
theorem bH{P:Program}{K:Kind α}{t e:TypeId}{bytes:Nat}(E:sc P K t e bytes)(w:World){ops:Array Oper}{rest:List Oper}{o:Oper}{a:Act}{Q:Exit→Act→World→Prop}(g:o.guard=none)(s x:Operand)(p:o.op=.call {callee:=.builtin .append,args:=#[s,x],argTypes:=#[t,t]})(aq:Nat)(v:Value)(L:List α)(n:a.eval s=v)(l:Row K e w aq v L)(ad:Option Addr)(m c:Nat)(M:List α)(j:a.eval x=.slice ad m c)(q:m=M.length)(r:bF K w ad c M)(i:L.length+M.length≤maxLen)(b:(L.length +M.length)*bytes≤140737488355328)(d:aq≤w.heap.size)(h:∀v' f,Row K e f aq v' (L++M)→w.grownBy f v.ownBlock→(∀ k,v'.ownBlock=some k→v.ownBlock=some k∨w.heap.size≤k)→(M ≠[]→f.ownsRow aq e K.size v' (L ++M).length (K.flat (L ++M)))→wpList P ops Q rest (a.put o.dst v') f):wpList P ops Q (o ::rest) a w:=wpList_plain g fun _ u=>vN E w s x p aq v L n l ad m c M j q r i b d fun v' f h2 A z y=>u _ _ (h v' f h2 A z y)
theorem step_append{P:Program}{K:Kind α}{t e:TypeId}{bytes:Nat}(E:sc P K t e bytes)(w:World){ops:Array Oper}{o:Oper}{a:Act}{j:Act→World→Prop}{Q:Exit→Act→World→Prop}{F:Prop}(g:o.guard=none)(s x:Operand)(q:o.op=.call {callee:=.builtin .append,args:=#[s,x],argTypes:=#[t,t]})(aq:Nat)(v:Value)(L:List α)(p:a.eval s=v)(n:Row K e w aq v L)(ad:Option Addr)(m c:Nat)(M:List α)(l:a.eval x=.slice ad m c)(r:m=M.length)(u:bF K w ad c M)(i:L.length+M.length≤maxLen)(b:(L.length +M.length)*bytes≤140737488355328)(d:aq≤w.heap.size)(h:∀v' f,Row K e f aq v' (L++M)→w.grownBy f v.ownBlock→(∀ k,v'.ownBlock=some k→v.ownBlock=some k∨w.heap.size≤k)→(M ≠[]→f.ownsRow aq e K.size v' (L ++M).length (K.flat (L ++M)))→j (a.put o.dst v') f):if Region.wanted o (yielded ops a.tmps)=true then Oper.wp P o a w j Q else F:=by rw[aB (show Region.wanted o (yielded ops a.tmps)=true by simp[Region.wanted,g])];exact vN E w s x q aq v L p n ad m c M l r u i b d h
theorem cV{K:Kind α}{w:World}{b:Nat}{x:α}{t:TypeId}{cs:Array Value}(h:w.heap[b]?=some (.cells cs t))(d:cs.toList=K.cells x)(c:Nat):bF K w (some ⟨b,0,none⟩) c [x]:=by refine⟨by simp[maxLen],(fun h=>by cases h),Or.inr ⟨b,0,rfl,ae h,fun j u a=>?_⟩⟩;rw[K.vl,←d]at a;rw[dW,cell_of_row w b j cs t _ h];simpa using a
theorem ar(w:World)(o:Obj):Below w.heap.size w (w.alloc o):=(Below.refl _ _).alloc (aj _) o
theorem ah(w:World)(o:Obj)(k:Nat)(h:k=w.heap.size):(w.alloc o).heap[k]?=some o:=by subst h;exact heap_alloc_new w o
theorem Row.alloc{K:Kind α}{e:TypeId}{w:World}{aq:Nat}{v:Value}{L:List α}(h:Row K e w aq v L)(o:Obj):Row K e (w.alloc o) aq v L:=h.below (ar w o)
theorem bF.alloc{K:Kind α}{w:World}{a:Option Addr}{cap:Nat}{L:List α}(h:bF K w a cap L)(o:Obj):bF K (w.alloc o) a cap L:=h.below (ar w o)
theorem Row.drew{K:Kind α}{e:TypeId}{w:World}{aq:Nat}{v:Value}{L:List α}(h:Row K e w aq v L):Row K e w.drew aq v L:=h.cB (aj _) fun _ _ _=>rfl
theorem bF.drew{K:Kind α}{w:World}{a:Option Addr}{cap:Nat}{L:List α}(h:bF K w a cap L):bF K w.drew a cap L:=h.cB (aj _) fun _ _ _=>rfl
theorem cI{B:Nat}{w a w2:World}{v:Value}{K:Kind α}{e:TypeId}{aq:Nat}{L:List α}(f:Below B w a)(d:a.grownBy w2 v.ownBlock)(b:Row K e a aq v L)(h1:B≤aq)(h2:B≤a.heap.size):Below B w w2:=f.grown d h2 (fun k c=>bE h1 (b.dV k c).1)
def kB:Kind Int where
 cells:=fun x=>[.int .u8 x]
 size:=1
 len:=fun _=>rfl
 one:=fun x u a=>by simp at a;subst a;rfl
 pos:=by decide
theorem Jz(L:List Int):kB.flat L=L.map fun x=>Value.int .u8 x:=by
 induction L with
 |nil=>rfl
 |cons x r a=>rw[kB.ia,a];rfl
def strOf(L:List Int):ByteArray:=L.foldl (fun r n=>r.push (UInt8.ofNat n.toNat)) ByteArray.empty
theorem vH{P:Program}{w:World}{src dst e:TypeId}(c:P.underlying src=some (.slice e))(f:P.underlying e=some (.int .u8))(g:P.underlying dst=some .string){a:Option Addr}{cap:Nat}{L:List Int}(h:bF kB w a cap L):(convert src dst (.slice a L.length cap)).run P w=.ok (.string (strOf L)) w:=by
 rw[run_convert_bytes_string w src dst e a L.length cap c f g]
 cases a with
 |none=>have h0:=h.py;subst h0;rfl
 |some ad=>have b:=run_loadCells_list (P:=P) w ad (L.map (Value.int .u8)) (fun j v d=>h.cells j v (by rw[Jz];exact d));rw[jF]at b;exact run_bytesToString w ad L.length cap L b
