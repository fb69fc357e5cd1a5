import Derived.Laws.AppendOwnNone
import Derived.Maps.AppendAt
import Derived.ArgAppend
import Derived.WalkSmall
import Derived.WalkLawsBesides
import Derived.WalkSpells
import Derived.WalkKit
import Derived.Deep.Slices
import Derived.SizedLaws
import Derived.ChangeOld
import Derived.OpenShut
import Derived.ProofKit
import Derived.Test.YtofcnebekmjdoaaGreatDoorChecked
set_option maxHeartbeats 4000000
set_option maxRecDepth 100000
namespace Go.Proofs.YtofcnebekmjdoaaGreatDoor.Gn
open Go.RowKit
structure Kind (α:Type) where
 cells:α→List Value
 size:Nat
 len:∀x,(cells x).length=size
 one:∀x,∀u∈cells x,u.oneCell'=true
 pos:0<size
variable {α : Type}
def Kind.flat (K:Kind α) (L:List α):List Value:=L.flatMap K.cells
theorem Kind.flat_cons (K:Kind α) (x:α) (L:List α):K.flat (x::L)=K.cells x++K.flat L:=rfl
theorem Kind.flat_append (K:Kind α) (L M:List α):K.flat (L ++M)=K.flat L++K.flat M:=by unfold Kind.flat;simp
theorem Kind.flat_one (K:Kind α) (x:α):K.flat [x]=K.cells x:=by unfold Kind.flat;simp
theorem Kind.flat_length (K:Kind α) (L:List α):(K.flat L).length=L.length*K.size:=by
 induction L with
 |nil=>simp [Kind.flat]
 |cons x r ih=>rw [K.flat_cons,List.length_append,K.len,ih,List.length_cons,Nat.add_mul];omega
theorem Kind.flat_ones (K:Kind α) (L:List α):∀u∈K.flat L,u.oneCell'=true:=by
 intro u hu
 unfold Kind.flat at hu
 obtain ⟨x,-,hx⟩:=List.mem_flatMap.1 hu
 exact K.one x u hx
theorem Kind.flat_at (K:Kind α){L:List α}{i:Nat}{x:α} (h:L[i]?=some x){j:Nat}{u:Value} (hj:(K.cells x)[j]?=some u):(K.flat L)[i*K.size+j]?=some u:=by
 induction L generalizing i with
 |nil=>simp at h
 |cons y r ih=>
  rw [K.flat_cons]
  cases i with
  |zero=>
   simp at h;subst h
   have: j<(K.cells y).length:=(List.getElem?_eq_some_iff.1 hj).1
   rw [Nat.zero_mul,Nat.zero_add,List.getElem?_append_left this];exact hj
  |succ i=>
   have h':r[i]?=some x:=by simpa using h
   rw [List.getElem?_append_right (by rw [K.len,Nat.add_mul];omega),K.len,Nat.add_mul,show i*K.size+1*K.size+j-K.size=i*K.size+j by omega]
   exact ih h'
structure Lies (K:Kind α) (w:World) (a:Option Addr) (cap:Nat) (L:List α):Prop where
 len:L.length≤maxLen
 nil:a=none→cap=0
 at':L=[]∨∃b off,a=some ⟨b,off,none⟩∧b<w.heap.size∧∀j u,(K.flat L)[j]?=some u→w.cell? ⟨b,off+j,none⟩=some u
theorem Lies.none_nil {K:Kind α} {w:World} {cap:Nat} {L:List α}(h:Lies K w none cap L):L=[]:=by
 rcases h.at' with h|⟨b,off,h,-⟩
 ·exact h
 ·cases h
theorem lies_nil (K:Kind α) (w:World):Lies K w none 0 []:=⟨by simp[maxLen],fun _=>rfl,Or.inl rfl⟩
def Past (B:Nat) (a:Option Addr):Prop:=∀ad,a=some ad→B≤ad.block
theorem past_none (B:Nat):Past B none:=fun _ h=>by cases h
theorem Lies.keep{K:Kind α}{w w':World}{a:Option Addr}{cap:Nat}{L:List α}(h:Lies K w a cap L) (hs:w.heap.size≤w'.heap.size) (hk:∀ad,a=some ad→ad.block<w.heap.size→w'.heap[ad.block]?=w.heap[ad.block]?):Lies K w' a cap L:=by
 refine ⟨h.len,h.nil,?_⟩
 rcases h.at' with h0|⟨b,off,ha,hlt,hc⟩
 ·exact Or.inl h0
 ·refine Or.inr ⟨b,off,ha,Nat.lt_of_lt_of_le hlt hs,fun j u hj=>?_⟩
  rw[←hc j u hj]
  exact World.cell?_of_block (a:=⟨b,off+j,none⟩) (hk ⟨b,off,none⟩ ha hlt)
theorem Lies.below {K:Kind α}{w w':World}{a:Option Addr}{cap:Nat}{L:List α} (h:Lies K w a cap L) (hb:Below w.heap.size w w'):Lies K w' a cap L:=
 h.keep hb.size fun _ _ hlt=>hb.block _ hlt
theorem Lies.set {K:Kind α}{w:World}{a:Option Addr}{cap:Nat}{L:List α}(h:Lies K w a cap L){B:Nat}(hp:Past B a){p:Addr}(hb:p.block<B) (v:Value):Lies K (w.setCell p v) a cap L:=
 h.keep (by simp) fun ad ha _=>heap_setCell_other _ _ _ _ (by have:= hp ad ha;omega)
theorem Lies.elem {K:Kind α}{w:World}{a:Option Addr}{cap:Nat}{L:List α} (h:Lies K w a cap L){i:Nat}{x:α} (hx:L[i]?=some x):
  ∃b off,a=some ⟨b,off,none⟩∧b<w.heap.size∧∀j u,(K.cells x)[j]?=some u→w.cell? ⟨b,off+i*K.size+j,none⟩=some u:=by
 rcases h.at' with h0|⟨b,off,ha,hlt,hc⟩
 ·subst h0;simp at hx
 ·exact ⟨b,off,ha,hlt,fun j u hj=>by have :=hc _ _ (K.flat_at hx hj);rwa [←Nat.add_assoc] at this⟩
theorem addr_add (b off j:Nat):(⟨b,off,none⟩:Addr).add j=⟨b,off+j,none⟩:=by
 unfold Addr.add;by_cases hj:j=0<;>simp [hj]
theorem Lies.cells {K:Kind α} {w:World} {ad:Addr} {cap:Nat} {L:List α}(h:Lies K w (some ad) cap L):∀j u,(K.flat L)[j]?=some u→w.cell? (ad.add j)=some u:=by
 intro j u hj
 rcases h.at' with rfl|⟨b,off,ha,-,hc⟩
 ·simp[Kind.flat] at hj
 ·cases ha;rw[addr_add];exact hc j u hj
def Row (K:Kind α) (e:TypeId) (w:World) (base:Nat) (v:Value) (L:List α):Prop:=
 (v=.slice none 0 0∧L=[])∨w.ownsRow base e K.size v L.length (K.flat L)∨
 ∃g,v=.slice (some ⟨g,0,none⟩) L.length L.length∧base≤g∧Lies K w (some ⟨g,0,none⟩) L.length L∧g<w.heap.size
theorem Row.nil {K:Kind α} {e:TypeId} {w:World} {base:Nat}:Row K e w base (.slice none 0 0) []:=Or.inl ⟨rfl,rfl⟩
theorem Row.own {K:Kind α}{e:TypeId}{w:World}{base:Nat} (v:Value) (L:List α) (h:w.ownsRow base e K.size v L.length (K.flat L)):Row K e w base v L:=Or.inr (Or.inl h)
theorem Row.full{K:Kind α}{e:TypeId}{w:World}{base:Nat}(g:Nat) (L:List α) (hg:base≤g) (hl:Lies K w (some ⟨g,0,none⟩) L.length L) (hlt:g<w.heap.size):Row K e w base (.slice (some ⟨g,0,none⟩) L.length L.length) L:=
 Or.inr (Or.inr ⟨g,rfl,hg,hl,hlt⟩)
theorem lies_of_owns {K:Kind α}{e:TypeId}{w:World}{base:Nat}{v:Value}{L:List α} (h:w.ownsRow base e K.size v L.length (K.flat L)):
  ∃a cap,v=.slice a L.length cap∧Lies K w a cap L∧Past base a∧(a=none→L=[])∧∀ad,a=some ad→ad.block<w.heap.size:=by
 rcases h.2 with ⟨rfl,hn⟩|⟨g,cap,cur,rfl,hg,hh,hn,hm,hc,hx⟩
 ·have hL:L=[]:=List.eq_nil_of_length_eq_zero hn
  subst hL
  exact ⟨none,0,rfl,lies_nil K w,past_none _,fun _=>rfl,fun _ h=>by cases h⟩
 ·have hlt:g<w.heap.size:=lt_of_block hh
  refine ⟨some ⟨g,0,none⟩,cap,rfl,⟨Nat.le_trans hn hm,(fun h=>by cases h),Or.inr ⟨g,0,rfl,hlt,fun j u hj=>?_⟩⟩,(fun _ h=>by cases h;exact hg),(fun h=>by cases h),fun _ h=>by cases h;exact hlt⟩
  rw[Nat.zero_add,cell_of_row w g j cur e _ hh]
  rw[←hx,List.getElem?_take] at hj
  split at hj
  ·simpa using hj
  ·cases hj
theorem Row.lies {K:Kind α}{e:TypeId}{w:World}{base:Nat}{v:Value}{L:List α}(h:Row K e w base v L):
  ∃a cap,v=.slice a L.length cap∧Lies K w a cap L∧Past base a∧∀ad,a=some ad→ad.block<w.heap.size:=by
 rcases h with ⟨rfl,rfl⟩|h|⟨g,rfl,hg,hl,hlt⟩
 ·exact ⟨none,0,rfl,lies_nil K w,past_none _,fun _ h=>by cases h⟩
 ·obtain ⟨a,cap,h1,h2,h3,-,h4⟩:=lies_of_owns h
  exact ⟨a,cap,h1,h2,h3,h4⟩
 ·exact ⟨_,_,rfl,hl,(fun _ h=>by cases h;exact hg),fun _ h=>by cases h;exact hlt⟩
theorem Row.block_lt {K:Kind α} {e:TypeId} {w:World} {base:Nat} {v:Value} {L:List α}(h:Row K e w base v L):∀k,v.ownBlock=some k→base≤k∧k<w.heap.size:=by
 rcases h with ⟨rfl,rfl⟩|h|⟨g,rfl,hg,hl,hlt⟩
 ·intro k hk;cases hk
 ·exact fun k hk=>h.lt k hk
 ·intro k hk;cases hk;exact ⟨hg,hlt⟩
theorem Row.mono {K:Kind α}{e:TypeId}{w:World}{base base':Nat}{v:Value}{L:List α}(h:Row K e w base v L) (hb:base'≤base):Row K e w base' v L:=by
 rcases h with ⟨rfl,rfl⟩|h|⟨g,rfl,hg,hl,hlt⟩
 ·exact .nil
 ·refine .own _ _ ⟨h.1,?_⟩
  rcases h.2 with h0|⟨g,cap,cur,hv,hg,r⟩
  ·exact Or.inl h0
  ·exact Or.inr ⟨g,cap,cur,hv,Nat.le_trans hb hg,r⟩
 ·exact .full g L (Nat.le_trans hb hg) hl hlt
theorem Row.keep {K:Kind α}{e:TypeId}{w w':World}{base:Nat}{v:Value}{L:List α}(h:Row K e w base v L) (hs:w.heap.size≤w'.heap.size) (hk:∀k,v.ownBlock=some k→k<w.heap.size→w'.heap[k]?=w.heap[k]?):Row K e w' base v L:=by
 rcases h with ⟨rfl,rfl⟩|h|⟨g,rfl,hg,hl,hlt⟩
 ·exact .nil
 ·refine .own _ _ ⟨h.1,?_⟩
  rcases h.2 with h0|⟨g,cap,cur,rfl,hg,hh,r⟩
  ·exact Or.inl h0
  ·exact Or.inr ⟨g,cap,cur,rfl,hg,(hk g rfl (lt_of_block hh)).trans hh,r⟩
 ·exact .full g L hg (hl.keep hs fun ad ha hlt=>hk ad.block (by cases ha;rfl) hlt) (by omega)
theorem Row.below {K:Kind α}{e:TypeId}{w w':World}{base:Nat}{v:Value}{L:List α}(h:Row K e w base v L) (hb:Below w.heap.size w w'):Row K e w' base v L:=
 h.keep hb.size fun k _ hlt=>hb.block k hlt
theorem Row.grown {K:Kind α}{e:TypeId}{w w':World}{base:Nat}{v:Value}{L:List α} (h:Row K e w base v L){row:Option Nat} (hg:w.grownBy w' row) (hr:∀k,v.ownBlock=some k→row≠some k):Row K e w' base v L:=
 h.keep hg.size fun k hk hlt=>hg.block k hlt fun h=>hr k hk h.symm
theorem Lies.grown {K:Kind α} {w w':World} {a:Option Addr} {cap:Nat} {L:List α}(h:Lies K w a cap L) {row:Option Nat}(hg:w.grownBy w' row) (hr:∀ad,a=some ad→row≠some ad.block):Lies K w' a cap L:=
 h.keep hg.size fun ad ha hlt=>hg.block _ hlt fun h=>hr ad ha h.symm
structure Elem (P:Program) (K:Kind α) (t e:TypeId) (bytes:Nat):Prop where
 under:P.underlying t=some (.slice e)
 info:∃i z,P.info? e=some i∧i.zero=some z∧i.size=K.size∧i.bytes=bytes∧z.cells.size=K.size
theorem run_append {P:Program}{K:Kind α}{t e:TypeId}{bytes:Nat}(E:Elem P K t e bytes) (w:World) (ty:TypeId) (base:Nat) (v:Value) (L:List α) (hv:Row K e w base v L)
  (a:Option Addr) (m c:Nat) (M:List α) (hm:m=M.length) (hM:Lies K w a c M) (h63:L.length+M.length≤maxLen) (hbytes:(L.length +M.length)*bytes≤140737488355328) (hbase:base≤w.heap.size):
  ∃v' w',(Builtin.append_ #[t,t] ty #[v,.slice a m c]).run P w=.ok v' w'∧Row K e w' base v' (L++M)∧w.grownBy w' v.ownBlock∧(∀k,v'.ownBlock=some k→v.ownBlock=some k∨w.heap.size≤k)∧
   (M≠[]→w'.ownsRow base e K.size v' (L++M).length (K.flat (L++M))):=by
 obtain ⟨ht,i,z,hi,hz,hsz,hby,hzs⟩:=E
 subst hm
 have hmz:=K.pos
 -- the list that is appended to, as an owned row
 have ofOwn:∀v,w.ownsRow base e K.size v L.length (K.flat L)→∃v' w',(Builtin.append_ #[t,t] ty #[v,.slice a M.length c]).run P w=.ok v' w'∧Row K e w' base v' (L++M)∧w.grownBy w' v.ownBlock∧(∀k,v'.ownBlock=some k→v.ownBlock=some k∨w.heap.size≤k)∧
   (M ≠[]→w'.ownsRow base e K.size v' (L++M).length (K.flat (L++M))):=by
  intro v hown
  cases a with
  |none=>
   have h0:=hM.none_nil
   subst h0
   obtain rfl:=hM.nil rfl
   have hr:=run_append_owned_none (P:=P) w base t ty e i K.size ht hi v _ _ hown
   exact ⟨v,w,hr,by rw[List.append_nil];exact .own v L hown,World.grownBy.refl _ _,fun _ h=>Or.inl h,fun h=>absurd rfl h⟩
  |some ad=>
   obtain ⟨v',w',hr,h2,h3,-,h5⟩:=run_append_own_at (P:=P) w base t ty e i z K.size bytes ht hi hz hsz hby hzs hmz v L.length (K.flat L) hown ad M.length c (K.flat M) (K.flat_length M) hM.cells (K.flat_ones M) h63 hbytes hbase
   have h2':w'.ownsRow base e K.size v' (L++M).length (K.flat (L++M)):=by rw[List.length_append,K.flat_append];exact h2
   have h6:∀k,v'.ownBlock=some k→v.ownBlock=some k∨w.heap.size≤k:=by
    intro k hk
    rcases h5 with h5|h5
    ·rw[h5] at hk;exact Or.inl hk
    ·rw[h5] at hk;cases hk;exact Or.inr (Nat.le_refl _)
   exact ⟨v',w',hr,.own v' _ h2',h3,h6,fun _=>h2'⟩
 rcases hv with ⟨rfl,rfl⟩|h|⟨g,rfl,hg,hl,hlt⟩
 ·exact ofOwn _ (World.ownsRow_nil _ _ _ _)
 ·exact ofOwn v h
 ·cases a with
  |none=>
   have h0:=hM.none_nil
   subst h0
   obtain rfl:=hM.nil rfl
   refine ⟨_,w,?_,by rw[List.append_nil];exact .full g L hg hl hlt,World.grownBy.refl _ _,fun _ h=>Or.inl h,fun h=>absurd rfl h⟩
   simp[Builtin.append_,run_underlying ht,sizeOf,typeInfo,hi,Builtin.lenOf,Builtin.firstCells,storeCells]
  |some ad=>
   by_cases h0:M=[]
   ·subst h0
    refine ⟨_,w,?_,by rw[List.append_nil];exact .full g L hg hl hlt,World.grownBy.refl _ _,fun _ h=>Or.inl h,fun h=>absurd rfl h⟩
    simp[Builtin.append_,run_underlying ht,sizeOf,typeInfo,hi,Builtin.lenOf,Builtin.firstCells,storeCells,loadCells,loadCellsFrom]
   ·have hpos:0<M.length:=by cases M with
     |nil=>exact absurd rfl h0
     |cons x r=>simp
    obtain ⟨v',w',hr,h2,h3⟩:=run_append_arg_grows (P:=P) w t ty e i z K.size bytes ht hi hz hsz hby hzs hmz ⟨g,0,none⟩ L.length L.length (K.flat L) (K.flat_length L) hl.cells ad M.length c (K.flat M) (K.flat_length M) hM.cells (by omega) h63 hbytes
    have h2':w'.ownsRow w.heap.size e K.size v' (L ++M).length (K.flat (L ++M)):=by rw[List.length_append,K.flat_append];exact h2
    have h2'':w'.ownsRow base e K.size v' (L++M).length (K.flat (L++M)):=by
     refine ⟨h2'.1,?_⟩
     rcases h2'.2 with h0|⟨g,cap,cur,hv,hg,r⟩
     ·exact Or.inl h0
     ·exact Or.inr ⟨g,cap,cur,hv,Nat.le_trans hbase hg,r⟩
    have hgr:w.grownBy w' (Value.ownBlock (.slice (some ⟨g,0,none⟩) L.length L.length)):=⟨h3.os,h3.tape,h3.output,h3.size,fun k hk _=>h3.block k hk (by simp)⟩
    exact ⟨v',w',hr,.own v' _ h2'',hgr,fun k hk=>Or.inr (h2'.lt k hk).1,fun _=>h2''⟩
theorem wp_append {P:Program}{K:Kind α}{t e:TypeId}{bytes:Nat}(E:Elem P K t e bytes) (w:World){o:Oper}{a:Act}{Kk:Act→World→Prop}{Q:Exit→Act→World→Prop}(s x:Operand)
  (ho:o.op=.call {callee:=.builtin .append,args:=#[s,x],argTypes:=#[t,t]}) (base:Nat) (v:Value) (L:List α) (hs:a.eval s=v) (hv:Row K e w base v L)
  (ad:Option Addr) (m c:Nat) (M:List α) (hx:a.eval x=.slice ad m c) (hm:m=M.length) (hM:Lies K w ad c M) (h63:L.length+M.length≤maxLen) (hbytes:(L.length +M.length)*bytes≤140737488355328) (hbase:base≤w.heap.size)
  (h:∀v' w',Row K e w' base v' (L++M)→w.grownBy w' v.ownBlock→(∀ k,v'.ownBlock=some k→v.ownBlock=some k∨w.heap.size≤k)→(M ≠[]→w'.ownsRow base e K.size v' (L ++M).length (K.flat (L++M)))→Kk (a.put o.dst v') w'):o.wp P a w Kk Q:=by
 obtain ⟨v',w',hr,h2,h3,h4,h5⟩:=run_append E w o.type base v L hv ad m c M hm hM h63 hbytes hbase
 unfold Oper.wp execOp
 simp only[ho,resolve,invoke,builtin,Sem.run_bind,Sem.run_pure,Result.andThen_ok,List.map_toArray,List.map_cons,List.map_nil,hs,hx,hr]
 exact h v' w' h2 h3 h4 h5
theorem wpList_append {P:Program}{K:Kind α}{t e:TypeId}{bytes:Nat}(E:Elem P K t e bytes) (w:World){ops:Array Oper}{rest:List Oper}{o:Oper}{a:Act}{Q:Exit→Act→World→Prop}(hgd:o.guard=none) (s x:Operand)
  (ho:o.op=.call {callee:=.builtin .append,args:=#[s,x],argTypes:=#[t,t]}) (base:Nat) (v:Value) (L:List α) (hs:a.eval s=v) (hv:Row K e w base v L)
  (ad:Option Addr) (m c:Nat) (M:List α) (hx:a.eval x=.slice ad m c) (hm:m=M.length) (hM:Lies K w ad c M) (h63:L.length+M.length≤maxLen) (hbytes:(L.length +M.length)*bytes≤140737488355328) (hbase:base≤w.heap.size)
  (h:∀v' w',Row K e w' base v' (L++M)→w.grownBy w' v.ownBlock→(∀ k,v'.ownBlock=some k→v.ownBlock=some k∨w.heap.size≤k)→(M ≠[]→w'.ownsRow base e K.size v' (L ++M).length (K.flat (L ++M)))→wpList P ops Q rest (a.put o.dst v') w'):wpList P ops Q (o ::rest) a w:=
 wpList_plain hgd fun _ hK=>wp_append E w s x ho base v L hs hv ad m c M hx hm hM h63 hbytes hbase fun v' w' h2 h3 h4 h5=>hK _ _ (h v' w' h2 h3 h4 h5)
theorem step_append {P:Program}{K:Kind α}{t e:TypeId}{bytes:Nat}(E:Elem P K t e bytes) (w:World){ops:Array Oper}{o:Oper}{a:Act}{Kk:Act→World→Prop}{Q:Exit→Act→World→Prop}{F:Prop}(hgd:o.guard=none) (s x:Operand)
  (ho:o.op=.call {callee:=.builtin .append,args:=#[s,x],argTypes:=#[t,t]}) (base:Nat) (v:Value) (L:List α) (hs:a.eval s=v) (hv:Row K e w base v L)
  (ad:Option Addr) (m c:Nat) (M:List α) (hx:a.eval x=.slice ad m c) (hm:m=M.length) (hM:Lies K w ad c M) (h63:L.length+M.length≤maxLen) (hbytes:(L.length +M.length)*bytes≤140737488355328) (hbase:base≤w.heap.size)
  (h:∀v' w',Row K e w' base v' (L ++M)→w.grownBy w' v.ownBlock→(∀ k,v'.ownBlock=some k→v.ownBlock=some k∨w.heap.size≤k)→(M≠[]→w'.ownsRow base e K.size v' (L ++M).length (K.flat (L ++M)))→Kk (a.put o.dst v') w'):
  if Region.wanted o (yielded ops a.tmps)=true then Oper.wp P o a w Kk Q else F:=by
 rw[if_pos (show Region.wanted o (yielded ops a.tmps)=true by simp[Region.wanted,hgd])]
 exact wp_append E w s x ho base v L hs hv ad m c M hx hm hM h63 hbytes hbase h
theorem lies_one {K:Kind α}{w:World}{b:Nat}{x:α}{t:TypeId}{cs:Array Value} (h:w.heap[b]?=some (.cells cs t)) (hc:cs.toList=K.cells x) (c:Nat):Lies K w (some ⟨b,0,none⟩) c [x]:=by
 refine ⟨by simp [maxLen],(fun h=>by cases h),Or.inr ⟨b,0,rfl,lt_of_block h,fun j u hj=>?_⟩⟩
 rw [K.flat_one,←hc] at hj
 rw [Nat.zero_add,cell_of_row w b j cs t _ h]
 simpa using hj
theorem below_alloc (w:World) (o:Obj):Below w.heap.size w (w.alloc o):=(Below.refl _ _).alloc (Nat.le_refl _) o
theorem heap_alloc_at (w:World) (o:Obj) (k:Nat) (h:k=w.heap.size):(w.alloc o).heap[k]?=some o:=by
 subst h;exact heap_alloc_new w o
theorem Row.alloc {K:Kind α}{e:TypeId}{w:World}{base:Nat}{v:Value}{L:List α}(h:Row K e w base v L) (o:Obj):Row K e (w.alloc o) base v L:=h.below (below_alloc w o)
theorem Lies.alloc {K:Kind α}{w:World}{a:Option Addr}{cap:Nat}{L:List α} (h:Lies K w a cap L) (o:Obj):Lies K (w.alloc o) a cap L:=h.below (below_alloc w o)
theorem Row.drew {K:Kind α} {e:TypeId} {w:World} {base:Nat} {v:Value} {L:List α}(h:Row K e w base v L):Row K e w.drew base v L:=h.keep (Nat.le_refl _) fun _ _ _=>rfl
theorem Lies.drew {K:Kind α} {w:World} {a:Option Addr} {cap:Nat} {L:List α}(h:Lies K w a cap L):Lies K w.drew a cap L:=h.keep (Nat.le_refl _) fun _ _ _=>rfl
theorem below_grown {B:Nat}{w w1 w2:World}{v:Value}{K:Kind α}{e:TypeId}{base:Nat}{L:List α} (hb:Below B w w1) (hg:w1.grownBy w2 v.ownBlock) (hv:Row K e w1 base v L) (h1:B≤base) (h2:B≤w1.heap.size):Below B w w2:=
 hb.grown hg h2 (fun k hk=>Nat.le_trans h1 (hv.block_lt k hk).1)
open Go.ChangeShapes Go.WideShapes Go.ChangeAt Go.RowKit
theorem own:ownKnob Tryz.prog.godebug=none:=by kernel_rfl
theorem laidOut:laidOutB Tryz.prog=true:=by kernel_rfl
theorem cellsInt:Tryz.prog.cellsOf 3=1:=by kernel_rfl
theorem wf_i64 {k:Int}(h:(Lit.int .i64 k).wf=true):-9223372036854775808≤k∧k≤9223372036854775807:=by
 simp only[Lit.wf,IntKind.min,IntKind.max,IntKind.signed,IntKind.bits,Bool.and_eq_true,decide_eq_true_eq,if_true] at h
 omega
end Go.Proofs.YtofcnebekmjdoaaGreatDoor.Gn
namespace Go.Proofs.YtofcnebekmjdoaaGreatDoor.Bn
open Go.RowKit Go.Proofs.YtofcnebekmjdoaaGreatDoor.Gn
abbrev Lab:=Nat→Nat
def relab (lab:Lab) (n j:Nat):Lab:=fun k=>if k<n then lab k else j
theorem relab_old {lab:Lab}{n j k:Nat}(h:k<n):relab lab n j k=lab k:=if_pos h
theorem relab_new {lab:Lab} {n j k:Nat}(h:n≤k):relab lab n j k=j:=if_neg (by omega)
structure Only (lab:Lab) (j:Nat) (w w':World):Prop where
 os:w'.os=w.os
 tape:w'.tape=w.tape
 output:w'.output=w.output
 size:w.heap.size≤w'.heap.size
 block:∀k,k<w.heap.size→(j =0∨lab k≠j)→w'.heap[k]?=w.heap[k]?
theorem only_below {lab:Lab} {j:Nat} {w w':World} (h:Below w.heap.size w w'):Only lab j w w':=⟨h.os,h.tape,h.output,h.size,fun k hk _=>h.block k hk⟩
theorem only_set {lab:Lab}{j:Nat}(w:World) (p:Addr) (v:Value) (h:lab p.block=j) (hj:j≠0):Only lab j w (w.setCell p v):=
 have hb:=(Below.refl 0 w).setCell (p:=p) (Nat.zero_le _) v
 ⟨hb.os,hb.tape,hb.output,by simp,fun k _ hl=>heap_setCell_other _ _ _ _ (by rintro rfl;rcases hl with hl|hl;exact hj hl;exact hl h)⟩
theorem only_grown {lab:Lab} {j:Nat} {w w':World} {row:Option Nat}(h:w.grownBy w' row) (hr:∀k,row=some k→lab k=j) (hj:j≠0):Only lab j w w':=
 ⟨h.os,h.tape,h.output,h.size,fun k hk hl=>h.block k hk (by rintro rfl;rcases hl with hl|hl;exact hj hl;exact hl (hr k rfl))⟩
theorem Only.trans {lab:Lab}{j:Nat}{a b c:World} (h:Only lab j a b) (h2:Only lab j b c):Only lab j a c:=
 ⟨h2.os.trans h.os,h2.tape.trans h.tape,h2.output.trans h.output,Nat.le_trans h.size h2.size,fun k hk hl=>(h2.block k (Nat.lt_of_lt_of_le hk h.size) hl).trans (h.block k hk hl)⟩
theorem Only.refl (lab:Lab) (j:Nat) (w:World):Only lab j w w:=⟨rfl,rfl,rfl,Nat.le_refl _,fun _ _ _=>rfl⟩
theorem Only.drew {lab:Lab}{j:Nat}{w w':World}(h:Only lab j w w'):Only lab j w w'.drew:=
 have hb:=(Below.refl 0 w').drew
 ⟨hb.os.trans h.os,hb.tape.trans h.tape,hb.output.trans h.output,h.size,h.block⟩
structure Stp (w:World) (lab:Lab) (w':World) (lab':Lab):Prop where
 ext:∀k,k<w.heap.size→lab' k=lab k
 os:w'.os=w.os
 tape:w'.tape=w.tape
 output:w'.output=w.output
 size:w.heap.size≤w'.heap.size
 block:∀k,k<w.heap.size→(lab k=0∨8<lab k)→w'.heap[k]?=w.heap[k]?
theorem stp_only {lab:Lab} {j:Nat} {w w':World} (h:Only lab j w w') (hj:j≤8):Stp w lab w' (relab lab w.heap.size j):=
 ⟨fun k hk=>relab_old hk,h.os,h.tape,h.output,h.size,fun k hk hl=>h.block k hk (by omega)⟩
theorem stp_below {lab:Lab}{w w':World}(h:Below w.heap.size w w'):Stp w lab w' (relab lab w.heap.size 0):=stp_only (only_below h) (by decide)
theorem Stp.refl (w:World) (lab:Lab):Stp w lab w lab:=⟨fun _ _=>rfl,rfl,rfl,rfl,Nat.le_refl _,fun _ _ _=>rfl⟩
theorem Stp.trans {w w1 w2:World}{lab lab1 lab2:Lab}(h:Stp w lab w1 lab1) (h2:Stp w1 lab1 w2 lab2):Stp w lab w2 lab2:=
 ⟨fun k hk=>(h2.ext k (Nat.lt_of_lt_of_le hk h.size)).trans (h.ext k hk),h2.os.trans h.os,h2.tape.trans h.tape,h2.output.trans h.output,Nat.le_trans h.size h2.size,fun k hk hl=>(h2.block k (Nat.lt_of_lt_of_le hk h.size) (by rw[h.ext k hk];exact hl)).trans (h.block k hk hl)⟩
theorem Stp.drew {w w1:World} {lab lab1:Lab}(h:Stp w lab w1 lab1):Stp w lab w1.drew lab1:=
 have hb:=(Below.refl 0 w1).drew
 ⟨h.ext,hb.os.trans h.os,hb.tape.trans h.tape,hb.output.trans h.output,h.size,h.block⟩
theorem Stp.at {w w1:World} {lab lab1:Lab} (h:Stp w lab w1 lab1) {k:Nat} {o:Obj} (hk:w.heap[k]?=some o) (hl:lab k=0):w1.heap[k]?=some o:=(h.block k (lt_of_block hk) (Or.inl hl)).trans hk
theorem Stp.zero {w w1:World}{lab lab1:Lab}(h:Stp w lab w1 lab1){k:Nat}(hk:k<w.heap.size) (hl:lab k=0):lab1 k=0:=(h.ext k hk).trans hl
theorem Stp.below {w w1:World}{lab lab1:Lab}(h:Stp w lab w1 lab1){base:Nat}(hb:base≤w.heap.size) (hi:∀k,1≤lab k→lab k≤8→base≤k):Below base w w1:=
 ⟨h.os,h.tape,h.output,h.size,fun k hk=>h.block k (by omega) (by
  rcases Nat.eq_zero_or_pos (lab k) with h0|h0
  ·exact Or.inl h0
  ·rcases Nat.lt_or_ge 8 (lab k) with h8|h8
   ·exact Or.inr h8
   ·have:= hi k h0 h8;omega)⟩
variable {α : Type}
def Ap (K:Kind α) (lab:Lab) (w:World) (v:Value) (L:List α) (j:Nat):Prop:=
 ∃a cap,v=.slice a L.length cap∧Lies K w a cap L∧∀ad,a=some ad→L≠[]→lab ad.block=j
theorem lies_lt {K:Kind α}{w:World}{a:Option Addr}{cap:Nat}{L:List α}(h:Lies K w a cap L) (hn:L≠[]):∀ad,a=some ad→ad.block<w.heap.size:=by
 intro ad ha
 rcases h.at' with h0|⟨b,off,h1,h2,-⟩
 ·exact absurd h0 hn
 ·rw[h1] at ha;cases ha;exact h2
theorem lies_empty {K:Kind α} {w w':World} {a:Option Addr} {cap:Nat} {L:List α}(h:Lies K w a cap L) (h0:L=[]):Lies K w' a cap L:=⟨h.len,h.nil,Or.inl h0⟩
theorem Ap.move{K:Kind α}{lab:Lab}{w w':World}{v:Value}{L:List α}{i j:Nat}(h:Ap K lab w v L i) (ho:Only lab j w w') (hij:j=0∨i≠j):Ap K (relab lab w.heap.size j) w' v L i:=by
 obtain ⟨a,cap,hv,hl,hb⟩:=h
 by_cases h0:L=[]
 ·exact ⟨a,cap,hv,lies_empty hl h0,fun _ _ hn=>absurd h0 hn⟩
 ·refine ⟨a,cap,hv,hl.keep ho.size fun ad ha hlt=>ho.block _ hlt ?_,fun ad ha _=>?_⟩
  ·rw[hb ad ha h0];exact hij
  ·rw[relab_old (lies_lt hl h0 ad ha)];exact hb ad ha h0
theorem Ap.stay {K:Kind α}{lab:Lab}{w w':World}{v:Value}{L:List α}{i j:Nat}(h:Ap K lab w v L i) (ho:Only lab j w w') (hij:j=0∨i≠j):Ap K lab w' v L i:=by
 obtain ⟨a,cap,hv,hl,hb⟩:=h
 by_cases h0:L=[]
 ·exact ⟨a,cap,hv,lies_empty hl h0,fun _ _ hn=>absurd h0 hn⟩
 ·refine ⟨a,cap,hv,hl.keep ho.size fun ad ha hlt=>ho.block _ hlt ?_,hb⟩
  rw[hb ad ha h0];exact hij
theorem Ap.lies {K:Kind α} {lab:Lab} {w:World} {v:Value} {L:List α} {i:Nat}(h:Ap K lab w v L i):∃a cap,v=.slice a L.length cap∧Lies K w a cap L:=by
 obtain ⟨a,cap,hv,hl,-⟩:=h
 exact ⟨a,cap,hv,hl⟩
theorem ap_nil (K:Kind α) (lab:Lab) (w:World) (j:Nat):Ap K lab w (.slice none 0 0) [] j:=⟨none,0,rfl,lies_nil K w,fun _ h=>by cases h⟩
theorem ap_new {K:Kind α}{lab:Lab}{n j:Nat}{w':World}{v:Value}{L:List α}{a:Option Addr}{cap:Nat}(hv:v=.slice a L.length cap) (hl:Lies K w' a cap L) (hp:Past n a):Ap K (relab lab n j) w' v L j:=
 ⟨a,cap,hv,hl,fun ad ha _=>relab_new (hp ad ha)⟩
theorem ap_row {K:Kind α}{e:TypeId}{lab:Lab}{n j:Nat}{w':World}{v:Value}{L:List α} (h:Row K e w' n v L):Ap K (relab lab n j) w' v L j:=by
 obtain ⟨a,cap,hv,hl,hp,-⟩:=h.lies
 exact ap_new hv hl hp
structure Tp (K:Kind α) (e:TypeId) (lab:Lab) (base:Nat) (w:World) (v:Value) (L:List α) (j:Nat):Prop where
 row:Row K e w base v L
 own:L≠[]→w.ownsRow base e K.size v L.length (K.flat L)
 lab:∀k,v.ownBlock=some k→lab k=j
theorem owns_keep {K:Kind α}{e:TypeId}{w w':World}{base:Nat}{v:Value}{L:List α}(h:w.ownsRow base e K.size v L.length (K.flat L)) (hk:∀k,v.ownBlock=some k→k<w.heap.size→w'.heap[k]?=w.heap[k]?):w'.ownsRow base e K.size v L.length (K.flat L):=by
 refine ⟨h.1,?_⟩
 rcases h.2 with h0|⟨g,cap,cur,rfl,hg,hh,r⟩
 ·exact Or.inl h0
 ·exact Or.inr ⟨g,cap,cur,rfl,hg,(hk g rfl (lt_of_block hh)).trans hh,r⟩
theorem Tp.move {K:Kind α}{e:TypeId}{lab:Lab}{base:Nat}{w w':World}{v:Value}{L:List α}{i j:Nat} (h:Tp K e lab base w v L i) (ho:Only lab j w w') (hij:j=0∨i≠j):Tp K e (relab lab w.heap.size j) base w' v L i:=
 ⟨h.row.keep ho.size fun k hk hlt=>ho.block k hlt (by rw [h.lab k hk];exact hij),fun hn=>owns_keep (h.own hn) fun k hk hlt=>ho.block k hlt (by rw [h.lab k hk];exact hij),fun k hk=>by rw [relab_old (h.row.block_lt k hk).2];exact h.lab k hk⟩
theorem Tp.stay {K:Kind α}{e:TypeId}{lab:Lab}{base:Nat}{w w':World}{v:Value}{L:List α}{i j:Nat} (h:Tp K e lab base w v L i) (ho:Only lab j w w') (hij:j=0∨i≠j):Tp K e lab base w' v L i:=
 ⟨h.row.keep ho.size fun k hk hlt=>ho.block k hlt (by rw [h.lab k hk];exact hij),fun hn=>owns_keep (h.own hn) fun k hk hlt=>ho.block k hlt (by rw [h.lab k hk];exact hij),h.lab⟩
theorem tp_nil {K:Kind α} {e:TypeId} {lab:Lab} {base:Nat} {w:World} {j:Nat}:Tp K e lab base w (.slice none 0 0) [] j:=⟨.nil,fun h=>absurd rfl h,fun _ h=>by cases h⟩
theorem Tp.grow {K:Kind α} {e:TypeId} {lab:Lab} {base:Nat} {w w':World} {v v':Value} {L L':List α} {j:Nat}(h:Tp K e lab base w v L j) (hr:Row K e w' base v' L') (hn:L'≠[]→w'.ownsRow base e K.size v' L'.length (K.flat L')) (ha:∀k,v'.ownBlock=some k→v.ownBlock=some k∨w.heap.size≤k):Tp K e (relab lab w.heap.size j) base w' v' L' j:=
 ⟨hr,hn,fun k hk=>by
  rcases ha k hk with h1|h1
  ·rw[relab_old (h.row.block_lt k h1).2];exact h.lab k h1
  ·exact relab_new h1⟩
theorem Tp.ap {K:Kind α}{e:TypeId}{lab:Lab}{base:Nat}{w:World}{v:Value}{L:List α}{j:Nat}(h:Tp K e lab base w v L j):Ap K lab w v L j:=by
 rcases h.row with ⟨rfl,rfl⟩|h1|⟨g,rfl,hg,hl,hlt⟩
 ·exact ap_nil K lab w j
 ·rcases h1.2 with ⟨rfl,hn⟩|⟨g,cap,cur,rfl,r⟩
  ·have hL:L=[]:=List.eq_nil_of_length_eq_zero hn
   subst hL
   exact ap_nil K lab w j
  ·obtain ⟨a,cap',hv,hl,-,-⟩:=(Row.own _ L h1).lies
   obtain ⟨rfl,-,rfl⟩:=Value.slice.inj hv
   exact ⟨_,_,rfl,hl,fun ad ha _=>by cases ha;exact h.lab g rfl⟩
 ·exact ⟨_,_,rfl,hl,fun ad ha _=>by cases ha;exact h.lab g rfl⟩
theorem Tp.below{K:Kind α}{e:TypeId}{lab:Lab}{base:Nat}{w w':World}{v:Value}{L:List α}{j:Nat}(h:Tp K e lab base w v L j){B:Nat}{w0:World}(hb:Below B w0 w) (hg:w.grownBy w' v.ownBlock) (h1:B≤base) (h2:B≤w.heap.size):Below B w0 w':=below_grown hb hg h.row h1 h2
def putAll (w:World) (g:Nat):Nat→List Value→World
 |_,[]=>w
 |p,x::r=>putAll (w.setCell ⟨g,p,none⟩ x) g (p +1) r
theorem putAll_size (w:World) (g p:Nat) (l:List Value):(putAll w g p l).heap.size=w.heap.size:=by
 induction l generalizing w p with
 |nil=>rfl
 |cons x r ih=>rw [putAll,ih];simp
theorem putAll_other (w:World) (g p k:Nat) (l:List Value) (h:k≠g):(putAll w g p l).heap[k]?=w.heap[k]?:=by
 induction l generalizing w p with
 |nil=>rfl
 |cons x r ih=>rw[putAll,ih];exact heap_setCell_other _ _ _ _ h
theorem putAll_same (l:List Value):∀(w:World) (g:Nat) (A M B:List Value) (t:TypeId),M.length=l.length→w.heap[g]?=some (.cells (A ++(M ++B)).toArray t)→(putAll w g A.length l).heap[g]?=some (.cells (A ++(l ++B)).toArray t):=by
 induction l with
 |nil=>
  intro w g A M B t hm h
  obtain rfl:=List.eq_nil_of_length_eq_zero hm
  exact h
 |cons x r ih=>
  intro w g A M B t hm h
  cases M with
  |nil=>simp at hm
  |cons y M=>
   have h1:=heap_setCell_same w g A.length _ _ x h
   have e:(A++(y ::M++B)).toArray.setIfInBounds A.length x=((A ++[x])++(M ++B)).toArray:=by
    simp
   have h2:(w.setCell ⟨g,A.length,none⟩ x).heap[g]?=some (.cells ((A ++[x])++(M ++B)).toArray t):=by rw[←e];exact h1
   have h3:=ih _ g (A++[x]) M B t (by simpa using hm) h2
   rw[putAll]
   simpa using h3
theorem flat_parts (K:Kind α){L:List α}{i:Nat}{x0:α}(h:L[i]?=some x0):K.flat L=K.flat (L.take i)++(K.cells x0++K.flat (L.drop (i+1))):=by
 have hi:=(List.getElem?_eq_some_iff.1 h).1
 have hx:L=L.take i++x0::L.drop (i+1):=by
  have :=(List.getElem?_eq_some_iff.1 h).2
  rw[←this,←List.drop_eq_getElem_cons hi,List.take_append_drop]
 conv=>lhs;rw[hx,K.flat_append,K.flat_cons]
theorem flat_set (K:Kind α){L:List α}{i:Nat}(hi:i<L.length) (x:α):K.flat (L.set i x)=K.flat (L.take i)++(K.cells x++K.flat (L.drop (i +1))):=by
 have h:(L.set i x)[i]?=some x:=by simp[hi]
 rw[flat_parts K h]
 simp[List.take_set_of_le,List.drop_set_of_lt]
theorem Row.put{K:Kind α}{e:TypeId}{w:World}{base:Nat}{v:Value}{L:List α}(h:w.ownsRow base e K.size v L.length (K.flat L)){i:Nat}(hi:i<L.length):
  ∃g cap,v=.slice (some ⟨g,0,none⟩) L.length cap∧base≤g∧g<w.heap.size∧L.length≤cap∧(∀p,w.frozen? ⟨g,p,none⟩=false)∧
   ∀x,(putAll w g (i *K.size) (K.cells x)).ownsRow base e K.size v (L.set i x).length (K.flat (L.set i x)):=by
 rcases h.2 with ⟨-,hn⟩|⟨g,cap,cur,hv,hg,hh,hn,hm,hc,hx⟩
 ·omega
 ·refine ⟨g,cap,hv,hg,lt_of_block hh,hn,fun p=>by simp[World.frozen?,hh],fun x=>?_⟩
  have hx0:L[i]?=some L[i]:=by simp[hi]
  have hsplit:cur.toList=K.flat (L.take i)++(K.cells L[i]++(K.flat (L.drop (i +1))++cur.toList.drop (L.length*K.size))):=by
   have h1:cur.toList=cur.toList.take (L.length *K.size)++cur.toList.drop (L.length*K.size):=(List.take_append_drop _ _).symm
   conv=>lhs;rw[h1,hx,flat_parts K hx0]
   simp
  have hA:i*K.size=(K.flat (L.take i)).length:=by rw[K.flat_length,List.length_take,Nat.min_eq_left (by omega)]
  have hh':w.heap[g]?=some (.cells (K.flat (L.take i)++(K.cells L[i]++(K.flat (L.drop (i+1))++cur.toList.drop (L.length *K.size)))).toArray e):=by
   rw[←hsplit];simpa using hh
  have h2:=putAll_same (K.cells x) w g _ _ _ e (by rw[K.len,K.len]) hh'
  rw[←hA] at h2
  refine ⟨?_,Or.inr ⟨g,cap,_,by rw[List.length_set];exact hv,hg,h2,by rw[List.length_set];exact hn,hm,?_,?_⟩⟩
  ·rw[K.flat_length]
  ·rw[←hc,←Array.length_toList (xs:=cur)]
   conv=>rhs;rw[hsplit]
   simp[K.len]
  ·rw[List.length_set,flat_set K hi]
   have hl:(K.flat (L.take i)++(K.cells x++K.flat (L.drop (i+1)))).length=L.length*K.size:=by
    rw[←flat_set K hi,K.flat_length,List.length_set]
   rw[←List.append_assoc (K.cells x),←List.append_assoc]
   rw[List.take_left' hl]
end Go.Proofs.YtofcnebekmjdoaaGreatDoor.Bn
