import Derived.Maps.OwnOps
import Derived.Maps.OwnSet
import Derived.Test.YtofcnebekmjdoaaGreatDoorKbo
set_option maxHeartbeats 4000000
set_option maxRecDepth 100000
namespace Go.Proofs.YtofcnebekmjdoaaGreatDoor.Bn
open Go.RowKit Go.Proofs.YtofcnebekmjdoaaGreatDoor.Gn Go.Maps
theorem lawI:Keyed Tryz.prog 3:=int_keyed Tryz.underlying3
theorem zeroAn (w:World):(zeroValue 53).run Tryz.prog w=.ok (anv (0,0)) w:=by kernel_rfl
def rAn (v:Value):Option (DataW Unit×List MemPlace):=
 match v with
 |.agg ⟨[.int .i64 a,.int .i64 b]⟩=>some (.agg [.lit (.int .i64 a),.lit (.int .i64 b)],[])
 |_=>none
theorem rAn_mk (a:An):rAn (anv a)=some (.agg [.lit (.int .i64 a.1),.lit (.int .i64 a.2)],[]):=rfl
theorem rAn_inv {v:Value}{a:An}{ps:List MemPlace}(h:rAn v=some (.agg [.lit (.int .i64 a.1),.lit (.int .i64 a.2)],ps)):v=anv a:=by
 unfold rAn at h
 split at h
 ·rename_i x y
  simp only[Option.some.injEq,Prod.mk.injEq,DataW.agg.injEq,List.cons.injEq,DataW.lit.injEq,Lit.int.injEq,true_and,and_true] at h
  obtain ⟨⟨h1,h2⟩,-⟩:=h
  subst h1 h2
  rfl
 ·cases h
abbrev OwnsT (w:World) (m n:Nat) (D:DataW Unit):Prop:=w.ownsMap Tryz.prog 3 rAn m n D
structure Tld (T:List (Dd ×An)) (D:DataW Unit):Prop where
 is:IsMap D
 has:∀id:Int,id≠0→Maps.has D (.int .i64 id)=(told id T).isSome
 zero:Maps.has D (.int .i64 0)=false
 at':∀(id:Int) (a:An),id≠0→told id T=some a→∀z,D.atKey (.int .i64 id) z=.agg [.lit (.int .i64 a.1),.lit (.int .i64 a.2)]
theorem tld_nil:Tld [] (.map []):=⟨isMap_empty,fun _ _=>rfl,rfl,fun _ _ _ h=>by cases h⟩
theorem Tld.more {T:List (Dd ×An)}{D:DataW Unit}(h:Tld T D) (d:Dd) (a:An) (hd:d.id=0∨told d.id T≠none):Tld (T ++[(d,a)]) D:=by
 have key:∀id:Int,id≠0→told id (T ++[(d,a)])=told id T:=fun id h0=>by
  rw[told_append]
  cases ht:told id T with
  |some x=>rfl
  |none=>
   show (if d.id=id then some a else none)=none
   rw[if_neg]
   rintro rfl
   rcases hd with hd|hd
   ·exact h0 hd
   ·exact hd ht
 exact ⟨h.is,fun id h0=>by rw[key id h0];exact h.has id h0,h.zero,fun id x h0 hx=>h.at' id x h0 (by rw[←key id h0];exact hx)⟩
theorem key_lit (id:Int):WideAt.IsKeyLit (.int .i64 id):=by trivial
theorem Tld.put{T:List (Dd ×An)}{D:DataW Unit}(h:Tld T D) (d:Dd) (a:An) (h0:d.id≠0) (hd:told d.id T=none):Tld (T++[(d,a)]) (D.put (.int .i64 d.id) (.agg [.lit (.int .i64 a.1),.lit (.int .i64 a.2)])):=by
 have ne:∀id:Int,id≠d.id→(Lit.int .i64 id)≠.int .i64 d.id:=fun id hn e=>by injection e with _ e;exact hn e
 have key:∀id:Int,told id (T++[(d,a)])=if id=d.id then some a else told id T:=fun id=>by
  rw[told_append]
  by_cases e:id=d.id
  ·subst e
   rw[hd,if_pos rfl]
   show (if d.id=d.id then some a else none)=some a
   rw[if_pos rfl]
  ·rw[if_neg e]
   cases ht:told id T with
   |some x=>rfl
   |none=>show (if d.id=id then some a else none)=none;rw[if_neg (fun q=>e q.symm)]
 refine ⟨h.is.put _ _,fun id hn=>?_,?_,fun id x hn hx z=>?_⟩
 ·rw[key id]
  by_cases e:id=d.id
  ·subst e;rw[if_pos rfl,has_put_same h.is (key_lit _)];rfl
  ·rw[if_neg e,has_put_other (ne id e)];exact h.has id hn
 ·rw[has_put_other (ne 0 (fun q=>h0 q.symm))];exact h.zero
 ·rw[key id] at hx
  by_cases e:id=d.id
  ·subst e
   rw[if_pos rfl] at hx
   cases hx
   rw[atKey_put_same h.is (key_lit _)]
  ·rw[if_neg e] at hx
   rw[atKey_put_other (ne id e)]
   exact h.at' id x hn hx z
def heard (T:List (Dd×An)) (id:Int):Option An:=if id=0 then none else told id T
theorem told_look {X:World}{m n:Nat}{D:DataW Unit}{T:List (Dd ×An)}(O:OwnsT X m n D) (t:Tld T D){id:Int}(h1:-9223372036854775808≤id) (h2:id≤9223372036854775807):
  (Instr.lookup 96 (.map (some m)) (.int .i64 id) true).run Tryz.prog X=.ok (.tuple #[anv ((heard T id).getD (0,0)),.bool (heard T id).isSome]) X:=by
 obtain ⟨v,ps,hrun,hv⟩:=O.look_ok (t:=96) lawI Tryz.underlying96 (zeroAn X) (rAn_mk (0,0)) (keyOf_int_mk Tryz.underlying3 (WalkArith.wf_i64 (n:=id) ⟨h1,h2⟩))
 rw[hrun]
 unfold heard
 by_cases h0:id=0
 ·subst h0
  rw[t.zero] at hrun⊢
  rw[atKey_of_not_has t.zero] at hv
  have :=rAn_inv (a:=(0,0)) hv
  subst this
  rfl
 ·rw[if_neg h0,t.has id h0]
  cases ht:told id T with
  |none=>
   have hf:Maps.has D (.int .i64 id)=false:=by rw[t.has id h0,ht];rfl
   rw[atKey_of_not_has hf] at hv
   have :=rAn_inv (a:=(0,0)) hv
   subst this
   rfl
  |some a=>
   rw[t.at' id a h0 ht] at hv
   have:= rAn_inv hv
   subst this
   rfl
theorem told_put {X:World} {m n:Nat} {D:DataW Unit}(O:OwnsT X m n D) (hn:n≤1000000){id:Int}(h1:-9223372036854775808≤id) (h2:id≤9223372036854775807) (a:An):
  ∃w',(Instr.mapUpdate 96 (.map (some m)) (.int .i64 id) (anv a)).run Tryz.prog X=.ok () w'∧OwnsT w' m (n +1) (D.put (.int .i64 id) (.agg [.lit (.int .i64 a.1),.lit (.int .i64 a.2)]))∧X.grownBy w' (some m)∧w'.heap.size=X.heap.size:=by
 obtain ⟨w',r1,r2,r3⟩:=O.store (t:=96) lawI Tryz.underlying96 (by unfold maxLen;omega) (keyOf_int_mk Tryz.underlying3 (WalkArith.wf_i64 (n:=id) ⟨h1,h2⟩)) (rAn_mk a)
 refine ⟨w',r1,r2,r3.grown,?_⟩
 obtain ⟨es,clock,es',clock',-,rfl⟩:=r3
 simp[Go.ChangeMaps.setBlock]
open Go.RowKit Go.Proofs.YtofcnebekmjdoaaGreatDoor.Gn
theorem bko_cells {w:World}{g:Nat}{b:Bank}{v:Vs}(h:w.heap[g]?=some (bko b v)):
  w.cell? ⟨g,0,none⟩=some (.int .i64 b.time)∧w.cell? ⟨g,1,none⟩=some (.bool b.down)∧w.cell? ⟨g,2,none⟩=some v.c∧w.cell? ⟨g,3,none⟩=some v.d∧w.cell? ⟨g,4,none⟩=some v.a∧
  w.cell? ⟨g,5,none⟩=some (.int .i64 (b.snd false).sent)∧w.cell? ⟨g,6,none⟩=some (v.kp false)∧w.cell? ⟨g,7,none⟩=some (.int .i64 (b.snd true).sent)∧w.cell? ⟨g,8,none⟩=some (v.kp true)∧
  w.cell? ⟨g,9,none⟩=some (.int .i64 (b.seen false))∧w.cell? ⟨g,10,none⟩=some (.int .i64 (b.seen true))∧w.cell? ⟨g,11,none⟩=some (v.wy false)∧w.cell? ⟨g,12,none⟩=some (v.wy true)∧
  w.cell? ⟨g,13,none⟩=some (.int .i64 b.stand.cap)∧w.cell? ⟨g,14,none⟩=some v.us∧w.cell? ⟨g,15,none⟩=some v.ad∧w.cell? ⟨g,16,none⟩=some v.td∧w.cell? ⟨g,17,none⟩=some v.dy∧w.cell? ⟨g,18,none⟩=some v.bk:=by
 unfold bko cellsK at h
 refine ⟨?_,?_,?_,?_,?_,?_,?_,?_,?_,?_,?_,?_,?_,?_,?_,?_,?_,?_,?_⟩<;>simp[World.cell?,h]
theorem bko_free {w:World}{g:Nat}{b:Bank}{v:Vs}(h:w.heap[g]?=some (bko b v)) (p:Nat):w.frozen? ⟨g,p,none⟩=false:=by
 unfold bko at h
 simp[World.frozen?,h]
theorem bko_put {w:World}{g:Nat}{b:Bank}{v v':Vs}(h:w.heap[g]?=some (bko b v)){i:Nat}{x:Value}(hc:(cellsK b v).setIfInBounds i x=cellsK b v'):(w.setCell ⟨g,i,none⟩ x).heap[g]?=some (bko b v'):=by
 unfold bko at h⊢
 rw[heap_setCell_same _ _ _ _ _ _ h,hc]
structure Cp (w:World) (lab:Lab) (base:Nat) (b:Bank) (v:Vs) (cs:List CV) (ds:List DV) (n:Nat) (w0:World) (lab0:Lab):Prop where
 mix:Mix w lab base b v cs ds n
 box:w.heap[base]?=some (bko b v)
 bl:lab base=9
 out:∃b1 v1,w.heap[base+1]?=some (bko b1 v1)
 ol:lab (base+1)=9
 bel:Below base w0 w
 ext:∀k,k<base→lab k=lab0 k
theorem cp_step{w w':World}{lab lab':Lab}{base:Nat}{b:Bank}{v:Vs}{cs:List CV}{ds:List DV}{n n':Nat}{w0:World}{lab0:Lab}{i:Nat}{x:Value}{v':Vs}(C:Cp w lab base b v cs ds n w0 lab0) (hb:Below w.heap.size w w') (hm:Mix w' lab' base b v' cs ds n') (he:∀k,k<w.heap.size→lab' k=lab k) (hc:(cellsK b v).setIfInBounds i x=cellsK b v'):
  Cp (w'.setCell ⟨base,i,none⟩ x) (relab lab' w'.heap.size 9) base b v' cs ds n' w0 lab0:=by
 have l0:=lt_of_block C.box
 obtain ⟨b1,v1,ho⟩:=C.out
 have l1:=lt_of_block ho
 have hbox:w'.heap[base]?=some (bko b v):=(hb.block _ l0).trans C.box
 have hl:lab' base=9:=(he _ l0).trans C.bl
 have h9:Only lab' 9 w' (w'.setCell ⟨base,i,none⟩ x):=only_set w' ⟨base,i,none⟩ x hl (by decide)
 have hs:=hb.size
 refine ⟨hm.far h9 (Or.inr (by decide)),bko_put hbox hc,by rw[relab_old (by omega)];exact hl,⟨b1,v1,(heap_setCell_other _ _ _ _ (by simp)).trans ((hb.block _ l1).trans ho)⟩,by rw[relab_old (by omega),he _ l1];exact C.ol,?_,fun k hk=>by rw[relab_old (by omega),he k (by omega)];exact C.ext k hk⟩
 exact (C.bel.trans (hb.mono (by omega))).setCell (p:=⟨base,i,none⟩) (Nat.le_refl _) x
theorem grown_below {w w':World}(h:w.grownBy w' none):Below w.heap.size w w':=⟨h.os,h.tape,h.output,h.size,fun k hk=>h.block k hk (by simp)⟩
theorem new_ge {w:World} {v':Value}(h:∀k,v'.ownBlock=some k→(Value.slice none 0 0).ownBlock=some k∨w.heap.size≤k):∀k,v'.ownBlock=some k→w.heap.size≤k:=fun k hk=>by
 rcases h k hk with h0|h0
 ·cases h0
 ·exact h0
theorem index2a (a1 a2:Option Addr) (n1 n2 c1 c2:Nat) (w:World):(Instr.index 35 (.agg #[.slice a1 n1 c1,.slice a2 n2 c2]) (.int .i64 0)).run Tryz.prog w=.ok (.slice a1 n1 c1) w:=by
 simp[Instr.index,run_underlying Tryz.underlying35,asIntOf,go_sem]
theorem index2b (a1 a2:Option Addr) (n1 n2 c1 c2:Nat) (w:World):(Instr.index 35 (.agg #[.slice a1 n1 c1,.slice a2 n2 c2]) (.int .i64 1)).run Tryz.prog w=.ok (.slice a2 n2 c2) w:=by
 simp[Instr.index,run_underlying Tryz.underlying35,asIntOf,go_sem]
structure Few (b:Bank) (cs:List CV) (ds:List DV):Prop where
 c:cs.length≤1000000
 d:b.due.length≤1000000
 a:b.auths.length≤1000000
 w:∀i,(b.way i).length≤1000000
 t:b.today.length≤1000000
 y:ds.length≤1000000
theorem own_any (b:Bank) (v:Vs) (cs:List CV) (ds:List DV) (lab:Lab) (w:World) (S:Shown w lab b v cs ds) (hl:∀k,lab k=0∨8<lab k) (F:Few b cs ds):
  Calls Tryz.prog 77 #[bkv b v] w fun e w'=>∃v' lab',e=.returned (bkv b v')∧Mem w' lab' w.heap.size b v' cs ds∧(∀i,Tp kP 111 lab' w.heap.size w' (v'.wy i) (b.way i) (wl i))∧Below w.heap.size w w'∧∀k,k<w.heap.size→lab' k=lab k:=by
 have hb0:=below_alloc w (bko b v)
 have ho0:=only_below (lab:=lab) (j:=9) hb0
 have M0:=(S.mix hl).far ho0 (Or.inr (by decide))
 have zB:∃zb zv,Obj.cells #[.int .i64 0,.bool false,.slice none 0 0,.slice none 0 0,.slice none 0 0,.int .i64 0,.slice none 0 0,.int .i64 0,.slice none 0 0,.int .i64 0,.int .i64 0,.slice none 0 0,.slice none 0 0,.int .i64 0,.slice none 0 0,.slice none 0 0,.slice none 0 0,.slice none 0 0,.slice none 0 0] 43=bko zb zv:=
  ⟨⟨0,false,[],[],[],fun _=>⟨0,[]⟩,fun _=>0,fun _=>[],⟨0,[],[]⟩,[],[],[]⟩,⟨.slice none 0 0,.slice none 0 0,.slice none 0 0,fun _=>.slice none 0 0,fun _=>.slice none 0 0,.slice none 0 0,.slice none 0 0,.slice none 0 0,.slice none 0 0,.slice none 0 0⟩,rfl⟩
 obtain ⟨zb,zv,hz⟩:=zB
 have hb1:=below_alloc (w.alloc (bko b v)) (bko zb zv)
 have M1:=M0.far (only_below (lab:=relab lab w.heap.size 9) (j:=9) hb1) (Or.inr (by decide))
 have C1:Cp ((w.alloc (bko b v)).alloc (bko zb zv)) (relab (relab lab w.heap.size 9) (w.alloc (bko b v)).heap.size 9) w.heap.size b v cs ds 1 w lab:=by
  refine ⟨M1,(hb1.block _ (by simp)).trans (heap_alloc_at _ _ _ rfl),?_,⟨zb,zv,heap_alloc_at _ _ _ (by simp)⟩,relab_new (by simp),hb0.trans (hb1.mono (by simp)),fun k hk=>?_⟩
  ·rw[relab_old (by simp)];exact relab_new (Nat.le_refl _)
  ·rw[relab_old (by simp;omega),relab_old hk]
 obtain ⟨W1,hW1⟩:∃W,(w.alloc (bko b v)).alloc (bko zb zv)=W:=⟨_,rfl⟩
 obtain ⟨l1,hl1⟩:∃l,relab (relab lab w.heap.size 9) (w.alloc (bko b v)).heap.size 9=l:=⟨_,rfl⟩
 rw[hW1,hl1] at C1
 rw[←hz] at hW1
 unfold bko cellsK at hW1
 unfold bkv
 clear hb0 hb1 M0 M1 ho0 hl1 hz
 obtain ⟨v1,hv1⟩:∃x,x=v:=⟨_,rfl⟩
 rw[←hv1] at C1
 go_enter Tryz.func77,Tryz.ntmps77
 go_upto_region 1 with fail
 try rw[hW1]
 clear hW1 hv1 S hl
 obtain ⟨a,cap,hv,hlies,-⟩:=C1.mix.cards.yet (by decide)
 obtain ⟨-,-,c,-⟩:=bko_cells C1.box
 have f:=bko_free C1.box 2
 rw[hv] at c
 have hlo:=C1.mix.lo
 have h63:([]:List CV).length+cs.length≤maxLen:=by have :=F.c;simp[maxLen];omega
 have hby:(([]:List CV).length+cs.length)*64≤140737488355328:=by have:= F.c;simp;omega
 have hbx:=lt_of_block C1.box
 go_upto_region 2 with (at_builtin;refine wpList_append elemC _ rfl _ _ rfl w.heap.size (.slice none 0 0) [] rfl Row.nil _ _ _ cs rfl rfl hlies h63 hby hlo ?_;intro v2 w2 hown hgrow hat hon;obtain ⟨a2,m2,rfl,-,-,-⟩:=hown.lies;have hbe:=grown_below hgrow;have hbc:=hbe.cell (p:=⟨w.heap.size,2,none⟩) hbx;have hbf:=hbe.frozen (p:=⟨w.heap.size,2,none⟩) hbx)
 have C2:=cp_step C1 hbe (C1.mix.toCards hbe hown hon (new_ge hat)) (fun k hk=>relab_old hk) (i:=2) (x:=.slice a2 ([]++cs).length m2) rfl
 clear hlies hown hgrow hat hon c f hlo h63 hby hbx hbe hbc hbf C1
 simp only[List.nil_append] at C2⊢
 generalize relab (relab l1 W1.heap.size 2) w2.heap.size 9=l2 at*
 generalize w2.setCell ⟨w.heap.size,2,none⟩ (.slice a2 cs.length m2)=W2 at*
 clear w2
 obtain ⟨v2,hv2⟩:∃x,x=({v1 with c:=.slice a2 cs.length m2}:Vs):=⟨_,rfl⟩
 rw[←hv2] at C2
 clear hv2 hv
 obtain ⟨a,cap,hv,hlies,-⟩:=C2.mix.due.yet (by decide)
 obtain ⟨-,-,-,c,-⟩:=bko_cells C2.box
 have f:=bko_free C2.box 3
 rw[hv] at c
 have hlo:=C2.mix.lo
 have h63:([]:List Int).length+b.due.length≤maxLen:=by have:= F.d;simp[maxLen];omega
 have hby:(([]:List Int).length+b.due.length)*8≤140737488355328:=by have:= F.d;simp;omega
 have hbx:=lt_of_block C2.box
 go_upto_region 3 with (at_builtin;refine wpList_append St.elemI _ rfl _ _ rfl w.heap.size (.slice none 0 0) [] rfl Row.nil _ _ _ b.due rfl rfl hlies h63 hby hlo ?_;intro v2 w2 hown hgrow hat hon;obtain ⟨a2,m2,rfl,-,-,-⟩:=hown.lies;have hbe:=grown_below hgrow;have hbc:=hbe.cell (p:=⟨w.heap.size,3,none⟩) hbx;have hbf:=hbe.frozen (p:=⟨w.heap.size,3,none⟩) hbx)
 have C3:=cp_step C2 hbe (C2.mix.toDue hbe hown hon (new_ge hat)) (fun k hk=>relab_old hk) (i:=3) (x:=.slice a2 ([]++b.due).length m2) rfl
 clear hlies hown hgrow hat hon c f hlo h63 hby hbx hbe hbc hbf C2
 simp only[List.nil_append] at C3⊢
 generalize relab (relab l2 W2.heap.size 3) w2.heap.size 9=l3 at*
 generalize w2.setCell ⟨w.heap.size,3,none⟩ (.slice a2 b.due.length m2)=W3 at*
 clear w2
 obtain ⟨v3,hv3⟩:∃x,x=({ v2 with d:=.slice a2 b.due.length m2}:Vs):=⟨_,rfl⟩
 rw[←hv3] at C3
 clear hv3 hv
 obtain ⟨a,cap,hv,hlies,-⟩:=C3.mix.auths.yet (by decide)
 obtain ⟨-,-,-,-,c,-⟩:=bko_cells C3.box
 have f:=bko_free C3.box 4
 rw[hv] at c
 have hlo:=C3.mix.lo
 have h63:([]:List Au.Au).length+b.auths.length≤maxLen:=by have :=F.a;simp[maxLen];omega
 have hby:(([]:List Au.Au).length+b.auths.length)*64≤140737488355328:=by have :=F.a;simp;omega
 have hbx:=lt_of_block C3.box
 go_upto_region 4 with (at_builtin;refine wpList_append elemAu _ rfl _ _ rfl w.heap.size (.slice none 0 0) [] rfl Row.nil _ _ _ b.auths rfl rfl hlies h63 hby hlo ?_;intro v2 w2 hown hgrow hat hon;obtain ⟨a2,m2,rfl,-,-,-⟩:=hown.lies;have hbe:=grown_below hgrow;have hbc:=hbe.cell (p:=⟨w.heap.size,4,none⟩) hbx;have hbf:=hbe.frozen (p:=⟨w.heap.size,4,none⟩) hbx)
 have C4:=cp_step C3 hbe (C3.mix.toAuths hbe hown hon (new_ge hat)) (fun k hk=>relab_old hk) (i:=4) (x:=.slice a2 ([]++b.auths).length m2) rfl
 clear hlies hown hgrow hat hon c f hlo h63 hby hbx hbe hbc hbf C3
 simp only[List.nil_append] at C4⊢
 generalize relab (relab l3 W3.heap.size 4) w2.heap.size 9=l4 at*
 generalize w2.setCell ⟨w.heap.size,4,none⟩ (.slice a2 b.auths.length m2)=W4 at*
 clear w2
 obtain ⟨v4,hv4⟩:∃x,x=({ v3 with a:=.slice a2 b.auths.length m2}:Vs):=⟨_,rfl⟩
 rw[←hv4] at C4
 clear hv4 hv
 obtain ⟨af,capf,hwf,-,-⟩:=(C4.mix.ways false).yet (by decide)
 obtain ⟨at',capt,hwt,-,-⟩:=(C4.mix.ways true).yet (by decide)
 obtain ⟨-,-,-,-,-,-,-,-,-,-,-,c11,c12,-⟩:=bko_cells C4.box
 rw[hwf] at c11
 rw[hwt] at c12
 replace hwf:=hid hwf
 replace hwt:=hid hwt
 go_upto_region 5 with fail
 clear c11 c12
 go_loopw[19](fun i wr=>∃(k:Nat) (v':Vs) (l:Lab),k≤2∧i=.int .i64 k∧Cp wr l w.heap.size b v' cs ds (4 +k) w lab∧(k=0→Hid (v'.wy false=.slice af (b.way false).length capf))∧(k ≤1→Hid (v'.wy true=.slice at' (b.way true).length capt))) (fun i _=>2-(intOf i).toNat)
 case atStart=>exact ⟨0,v4,l4,by decide,rfl,C4,fun _=>hwf,fun _=>hwt⟩
 case round=>
  clear C4 hwf hwt
  obtain ⟨k,v',l,hk,rfl,C,hf,ht⟩:=hrel
  have hk3:k=0∨k=1∨k=2:=by omega
  rcases hk3 with rfl|rfl|rfl
  ·have hvk:=(hf rfl).out
   obtain ⟨a,cap,hv,hlies,-⟩:=(C.mix.ways false).yet (by decide)
   rw[hvk] at hv
   obtain ⟨rfl,-,rfl⟩:=Value.slice.inj hv
   have f:=bko_free C.box 11
   have hlo:=C.mix.lo
   have h63:([]:List Pk).length+(b.way false).length≤maxLen:=by have :=F.w false;simp[maxLen];omega
   have hby:(([]:List Pk).length+(b.way false).length)*40≤140737488355328:=by have:= F.w false;simp;omega
   have hbx:=lt_of_block C.box
   obtain ⟨-,-,-,-,-,-,-,-,-,-,-,c11,c12,-⟩:=bko_cells C.box
   clear c12
   rw[hvk] at c11
   replace hvk:=hid hvk
   have hix:=index2a af at' (b.way false).length (b.way true).length capf capt
   go_wp2_with (at_builtin;refine wpList_append elemP _ rfl _ _ rfl w.heap.size (.slice none 0 0) [] rfl Row.nil _ _ _ (b.way false) rfl rfl hlies h63 hby hlo ?_;intro v2 w2 hown hgrow hat hon;obtain ⟨a2,m2,rfl,-,-,-⟩:=hown.lies;have hbe:=grown_below hgrow;have hbc:=hbe.cell (p:=⟨w.heap.size,11,none⟩) hbx;have hbf:=hbe.frozen (p:=⟨w.heap.size,11,none⟩) hbx)
   have C':=cp_step C hbe (C.mix.toWay false rfl hbe hown hon (new_ge hat)) (fun k hk=>relab_old hk) (i:=11) (x:=.slice a2 ([]++b.way false).length m2) rfl
   go_roundw
   case rel=>exact ⟨1,_,_,by decide,rfl,C',(fun q=>by omega),fun _=>ht (by decide)⟩
   case measure=>simp[intOf]
  ·have hvk:=(ht (by decide)).out
   obtain ⟨a,cap,hv,hlies,-⟩:=(C.mix.ways true).yet (by decide)
   rw[hvk] at hv
   obtain ⟨rfl,-,rfl⟩:=Value.slice.inj hv
   have f:=bko_free C.box 12
   have hlo:=C.mix.lo
   have h63:([]:List Pk).length+(b.way true).length≤maxLen:=by have:= F.w true;simp[maxLen];omega
   have hby:(([]:List Pk).length+(b.way true).length)*40≤140737488355328:=by have:= F.w true;simp;omega
   have hbx:=lt_of_block C.box
   obtain ⟨-,-,-,-,-,-,-,-,-,-,-,c11,c12,-⟩:=bko_cells C.box
   clear c11
   rw[hvk] at c12
   replace hvk:=hid hvk
   have hix:=index2b af at' (b.way false).length (b.way true).length capf capt
   go_wp2_with (at_builtin;refine wpList_append elemP _ rfl _ _ rfl w.heap.size (.slice none 0 0) [] rfl Row.nil _ _ _ (b.way true) rfl rfl hlies h63 hby hlo ?_;intro v2 w2 hown hgrow hat hon;obtain ⟨a2,m2,rfl,-,-,-⟩:=hown.lies;have hbe:=grown_below hgrow;have hbc:=hbe.cell (p:=⟨w.heap.size,12,none⟩) hbx;have hbf:=hbe.frozen (p:=⟨w.heap.size,12,none⟩) hbx)
   have C':=cp_step C hbe (C.mix.toWay true rfl hbe hown hon (new_ge hat)) (fun k hk=>relab_old hk) (i:=12) (x:=.slice a2 ([]++b.way true).length m2) rfl
   go_roundw
   case rel=>exact ⟨2,_,_,by decide,rfl,C',(fun q=>by omega),fun q=>by omega⟩
   case measure=>simp[intOf]
  ·have C6:Cp wr l w.heap.size b v' cs ds 6 w lab:=C
   clear C hf ht
   obtain ⟨a,cap,hv,hlies,-⟩:=C6.mix.today.yet (by decide)
   obtain ⟨-,-,-,-,-,-,-,-,-,-,-,-,-,-,-,-,c,-⟩:=bko_cells C6.box
   have f:=bko_free C6.box 16
   rw[hv] at c
   have hlo:=C6.mix.lo
   have h63:([]:List Dy.Rc).length+b.today.length≤maxLen:=by have :=F.t;simp[maxLen];omega
   have hby:(([]:List Dy.Rc).length+b.today.length)*32≤140737488355328:=by have :=F.t;simp;omega
   have hbx:=lt_of_block C6.box
   go_upto_region 10 with (at_builtin;refine wpList_append Dy.elemR _ rfl _ _ rfl w.heap.size (.slice none 0 0) [] rfl Row.nil _ _ _ b.today rfl rfl hlies h63 hby hlo ?_;intro v2 w2 hown hgrow hat hon;obtain ⟨a2,m2,rfl,-,-,-⟩:=hown.lies;have hbe:=grown_below hgrow;have hbc:=hbe.cell (p:=⟨w.heap.size,16,none⟩) hbx;have hbf:=hbe.frozen (p:=⟨w.heap.size,16,none⟩) hbx)
   have C7:=cp_step C6 hbe (C6.mix.toToday hbe hown hon (new_ge hat)) (fun k hk=>relab_old hk) (i:=16) (x:=.slice a2 ([]++b.today).length m2) rfl
   clear hlies hown hgrow hat hon c f hlo h63 hby hbx hbe hbc hbf C6
   simp only[List.nil_append] at C7⊢
   generalize relab (relab l wr.heap.size 7) w2.heap.size 9=l7 at*
   generalize w2.setCell ⟨w.heap.size,16,none⟩ (.slice a2 b.today.length m2)=W7 at*
   clear w2
   obtain ⟨v7,hv7⟩:∃x,x=({v' with td:=.slice a2 b.today.length m2}:Vs):=⟨_,rfl⟩
   rw[←hv7] at C7
   clear hv7 hv
   obtain ⟨a,cap,hv,hlies,-⟩:=C7.mix.days.yet (by decide)
   obtain ⟨-,-,-,-,-,-,-,-,-,-,-,-,-,-,-,-,-,c,-⟩:=bko_cells C7.box
   have f:=bko_free C7.box 17
   rw[hv] at c
   have hlo:=C7.mix.lo
   have h63:([]:List DV).length+ds.length≤maxLen:=by have :=F.y;simp[maxLen];omega
   have hby:(([]:List DV).length+ds.length)*24≤140737488355328:=by have:= F.y;simp;omega
   have hbx:=lt_of_block C7.box
   go_upto_region 11 with (at_builtin;refine wpList_append elemD _ rfl _ _ rfl w.heap.size (.slice none 0 0) [] rfl Row.nil _ _ _ ds rfl rfl hlies h63 hby hlo ?_;intro v2 w2 hown hgrow hat hon;obtain ⟨a2,m2,rfl,-,-,-⟩:=hown.lies;have hbe:=grown_below hgrow;have hbc:=hbe.cell (p:=⟨w.heap.size,17,none⟩) hbx;have hbf:=hbe.frozen (p:=⟨w.heap.size,17,none⟩) hbx)
   have C8:=cp_step C7 hbe (C7.mix.toDays hbe hown hon (new_ge hat)) (fun k hk=>relab_old hk) (i:=17) (x:=.slice a2 ([]++ds).length m2) rfl
   clear hlies hown hgrow hat hon c f hlo h63 hby hbx hbe hbc hbf C7
   simp only[List.nil_append] at C8⊢
   generalize relab (relab l7 W7.heap.size 8) w2.heap.size 9=l8 at*
   generalize w2.setCell ⟨w.heap.size,17,none⟩ (.slice a2 ds.length m2)=W8 at*
   clear w2
   obtain ⟨v8,hv8⟩:∃x,x=({ v7 with dy:=.slice a2 ds.length m2}:Vs):=⟨_,rfl⟩
   rw[←hv8] at C8
   clear hv8 hv
   obtain ⟨b1,v1',ho⟩:=C8.out
   obtain ⟨dK,uK,rK⟩:=underK
   have hone:=(C8.mix.mem.1.shown (lab0:=l8) (fun _ _=>rfl)).one
   have hrange:=bko_load C8.box
   have hthere:=bko_there (b':=b) (v':=v8) ho
   have hF:=bko_all (b:=b) (v:=v8) ho
   have M:=(C8.mix.far (only_putAll W8 (w.heap.size +1) 0 (cellsK b v8).toList C8.ol (by decide)) (Or.inr (by decide))).mem
   have B:=below_putAll C8.bel (w.heap.size +1) 0 (cellsK b v8).toList (Nat.le_succ _)
   have X:∀k,k<w.heap.size→relab l8 W8.heap.size 9 k=lab k:=fun k hk=>by rw[relab_old (Nat.lt_of_lt_of_le hk C8.mix.lo)];exact C8.ext k hk
   rw[←putAll_cells] at hF M B
   have hres:=loadVar_bank hF
   clear C8 ho hF
   go_wp2_with (first
    |(refine wpList_load_mid rfl 43 _ rfl w.heap.size 0 rfl (cellsK b v8).toList dK hrange uK rK infoK ?_)
    |(refine wpList_store_mid rfl 43 _ _ rfl (w.heap.size +1) 0 (cellsK b v8) rfl rfl hthere infoK hone ?_))
   exact bodyPost_ret (v:=bkv b v8) (results_cell Tryz.results77 rfl hres) rfl ⟨v8,_,rfl,M.1,M.2,B,X⟩
end Go.Proofs.YtofcnebekmjdoaaGreatDoor.Bn
