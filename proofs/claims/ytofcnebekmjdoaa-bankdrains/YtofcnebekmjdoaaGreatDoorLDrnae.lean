import Derived.ChangeKeysEq
import Derived.Test.YtofcnebekmjdoaaGreatDoorLDrnad
set_option maxHeartbeats 4000000
set_option maxRecDepth 100000
namespace Go.Proofs.YtofcnebekmjdoaaGreatDoor.Bn
open Go.RowKit Go.Proofs.YtofcnebekmjdoaaGreatDoor.Gn Go.Maps
theorem got_any {w2:World}{zs:Array Value}(hz:zs.size=19){b:Bank}{v:Vs}{cs:List CV}{ds:List DV}{z g:Nat}{lab:Lab}(h0:w2.heap[z]?=some (.cells zs 43)) (SH:Shown w2 lab b v cs ds) (hl:lab z≠0) (g0:w2.heap[g]?=some (fo (0,0))) (hgz:g≠z):
  w2.there z 0 (cellsK b v).size∧(w2.setCells z 0 (cellsK b v).toList).heap[g]?=some (fo (0,0))∧
  (((w2.setCells z 0 (cellsK b v).toList).setCell ⟨g,0,none⟩ (.int .i64 0)).setCell ⟨g,1,none⟩ (.int .i64 0)).heap[z]?=some (bko b v)∧
  (((w2.setCells z 0 (cellsK b v).toList).setCell ⟨g,0,none⟩ (.int .i64 0)).setCell ⟨g,1,none⟩ (.int .i64 0)).heap[g]?=some (fo (0,0))∧
  Shows (((w2.setCells z 0 (cellsK b v).toList).setCell ⟨g,0,none⟩ (.int .i64 0)).setCell ⟨g,1,none⟩ (.int .i64 0)) b v cs ds∧
  (∀(base:Nat) (W:World),Below base W w2→base≤z→Below base W (w2.setCells z 0 (cellsK b v).toList))∧
  (∀(base:Nat) (W:World),Below base W w2→base≤z→Below base W (((w2.setCells z 0 (cellsK b v).toList).setCell ⟨g,0,none⟩ (.int .i64 0)).setCell ⟨g,1,none⟩ (.int .i64 0))):=by
 refine ⟨there_blk h0 (by rw[hz];exact Nat.le_refl 19),?_⟩
 have hlen:(w2.setCells z 0 (cellsK b v).toList)=putAll w2 z 0 (cellsK b v).toList:=putAll_cells _ _ _ _
 rw[hlen]
 have k0:(putAll w2 z 0 (cellsK b v).toList).heap[z]?=some (bko b v):=by
  have :=putAll_same (cellsK b v).toList w2 z [] zs.toList [] 43 (by simp[hz];rfl) (by rw[h0];simp)
  refine Eq.trans this ?_
  unfold bko
  simp
 have k1:=(putAll_other w2 z 0 g (cellsK b v).toList hgz).trans g0
 have hS:Shown (putAll w2 z 0 (cellsK b v).toList) lab b v cs ds:=SH.go (below_putAll (Below.refl 0 w2) z 0 (cellsK b v).toList (Nat.zero_le _)).size (fun _ _=>rfl) fun k _ hk=>putAll_other w2 z 0 k (cellsK b v).toList (fun e=>by
  subst e
  exact hl hk)
 have hbl:∀(base:Nat) (W:World),Below base W w2→base≤z→Below base W (putAll w2 z 0 (cellsK b v).toList):=fun base W h hle=>below_putAll h z 0 (cellsK b v).toList hle
 generalize putAll w2 z 0 (cellsK b v).toList=Y at*
 have s1:=fo_again k1 0 (Or.inl rfl)
 have k2:=(s1 g).trans k1
 have s2:=fo_again k2 1 (Or.inr rfl)
 refine ⟨k1,(s2 _).trans ((s1 _).trans k0),(s2 _).trans k2,?_,hbl,fun base W h hle=>?_⟩
 ·exact (hS.go (by simp) (fun _ _=>rfl) fun k _ _=>(s2 k).trans (s1 k)).shows
 ·have hY:=hbl base W h hle
  exact ⟨hY.os,hY.tape,hY.output,by simpa using hY.size,fun k hk=>(s2 k).trans ((s1 k).trans (hY.block k hk))⟩
structure Fin (Y w2:World) (z g n:Nat) (cc:Array Value) (b:Bank) (v:Vs) (cs:List CV) (ds:List DV):Prop where
 there:w2.there z 0 cc.size
 g1:(w2.setCells z 0 cc.toList).heap[g]?=some (fo (0,0))
 bP:Below Y.heap.size Y (w2.setCells z 0 cc.toList)
 box:(((w2.setCells z 0 cc.toList).setCell ⟨g,0,none⟩ (.int .i64 0)).setCell ⟨g,1,none⟩ (.int .i64 0)).heap[z]?=some (bko b v)
 sh:Shows (((w2.setCells z 0 cc.toList).setCell ⟨g,0,none⟩ (.int .i64 0)).setCell ⟨g,1,none⟩ (.int .i64 0)) b v cs ds
 bF:Below Y.heap.size Y (((w2.setCells z 0 cc.toList).setCell ⟨g,0,none⟩ (.int .i64 0)).setCell ⟨g,1,none⟩ (.int .i64 0))
 off:∀a c,v.d=.slice a b.due.length c→∀ad,a=some ad→b.due≠[]→ad.block≠n
 ge:Y.heap.size≤z
theorem shown_alloc {w:World}{lab:Lab}{b:Bank}{v:Vs}{cs:List CV}{ds:List DV}(h:Shown w lab b v cs ds) (o:Obj) (j:Nat):Shown (w.alloc o) (relab lab w.heap.size j) b v cs ds:=
 have e:=below_alloc w o
 h.go e.size (fun _ hk=>relab_old hk) (fun k hk _=>e.block k hk)
theorem due_off {w:World} {n z:Nat} {b:Bank} {v:Vs} {cs:List CV} {ds:List DV} (h:Shown w (fl n) b v cs ds) (hz:z<n) (h0:z≠0):∀a c,v.d=.slice a b.due.length c→∀ad,a=some ad→b.due≠[]→ad.block≠z:=by
 intro a c hv ad ha hn hb
 obtain ⟨a',c',hv',-,hl⟩:=h.due
 rw[hv'] at hv
 obtain ⟨rfl,-,-⟩:=Value.slice.inj hv
 have:= hl ad ha hn
 unfold fl at this
 rw[hb,if_neg (by omega)] at this
 cases this
theorem fin_of {Y w2:World} {z g n:Nat} {zs:Array Value}(hs:zs.size=19) {b:Bank} {v:Vs} {cs:List CV} {ds:List DV} {lab:Lab}(h0:w2.heap[z]?=some (.cells zs 43)) (SH:Shown w2 lab b v cs ds) (hl:lab z≠0) (g0:w2.heap[g]?=some (fo (0,0))) (hgz:g≠z) (hb:Below Y.heap.size Y w2) (hz:Y.heap.size≤z)
  (ho:∀a c,v.d=.slice a b.due.length c→∀ad,a=some ad→b.due≠[]→ad.block≠n):Fin Y w2 z g n (cellsK b v) b v cs ds:=by
 obtain ⟨E1,E2,E3,E4,E5,E6,E7⟩:=got_any hs h0 SH hl g0 hgz
 exact ⟨E1,E2,E6 _ _ hb hz,E3,E5,E7 _ _ hb hz,ho,hz⟩
theorem fin_mk {Y X w2:World}{n:Nat}{zs:Array Value}(hs:zs.size=19){b:Bank}{v:Vs}{cs:List CV}{ds:List DV}(hX:Below Y.heap.size Y X) (hb:Below X.heap.size X w2) (SH:Shown w2 (fl X.heap.size) b v cs ds) (hn:n<Y.heap.size) (n0:n≠0):
  (∀ z g,X.heap[z]?=some (.cells zs 43)→X.heap[g]?=some (fo (0,0))→g≠z→Y.heap.size≤z→Fin Y w2 z g n (cellsK b v) b v cs ds)∧
  (∀z,X.heap[z]?=some (.cells zs 43)→Y.heap.size≤z→Fin Y (w2.alloc (fo (0,0))) z w2.heap.size n (cellsK b v) b v cs ds)∧
  (∀ g,X.heap[g]?=some (fo (0,0))→Fin Y (w2.alloc (.cells zs 43)) w2.heap.size g n (cellsK b v) b v cs ds)∧
  Fin Y ((w2.alloc (.cells zs 43)).alloc (fo (0,0))) w2.heap.size (w2.heap.size +1) n (cellsK b v) b v cs ds∧
  Fin Y ((w2.alloc (fo (0,0))).alloc (.cells zs 43)) (w2.heap.size +1) w2.heap.size n (cellsK b v) b v cs ds:=by
 have hXY:=hX.size
 have hbw:=hX.trans (hb.mono hX.size)
 have hbs:=hb.size
 have off:=due_off SH (Nat.lt_of_lt_of_le hn hX.size) n0
 have lz:∀z,Y.heap.size≤z→z<X.heap.size→fl X.heap.size z≠0:=fun z h1 h2 h3=>by
  unfold fl at h3
  rw[if_neg (by omega)] at h3
  cases h3
 have ba:=fun (W :World) (o :Obj) (h :Below Y.heap.size Y W)=>bel_alloc h o
 refine ⟨fun z g hz hg hgz hY=>?_,fun z hz hY=>?_,fun g hg=>?_,?_,?_⟩
 ·exact fin_of hs ((hb.block _ (lt_of_block hz)).trans hz) SH (lz z hY (lt_of_block hz)) ((hb.block _ (lt_of_block hg)).trans hg) hgz hbw hY off
 ·have zl:=lt_of_block hz
  have e:=below_alloc w2 (fo (0,0))
  exact fin_of hs ((e.block _ (by omega)).trans ((hb.block _ zl).trans hz)) (shown_alloc SH _ 12) (by rw[relab_old (by omega)];exact lz z hY zl) (heap_alloc_at _ _ _ rfl) (by omega) (ba _ _ hbw) hY off
 ·have gl:=lt_of_block hg
  have e:=below_alloc w2 (.cells zs 43)
  exact fin_of hs (heap_alloc_at _ _ _ rfl) (shown_alloc SH _ 12) (by rw[relab_new (Nat.le_refl _)];decide) ((e.block _ (by omega)).trans ((hb.block _ gl).trans hg)) (by omega) (ba _ _ hbw) (by omega) off
 ·have e:=below_alloc (w2.alloc (.cells zs 43)) (fo (0,0))
  refine fin_of hs ((e.block _ (by simp)).trans (heap_alloc_at _ _ _ rfl)) (shown_alloc (shown_alloc SH (.cells zs 43) 12) _ 12) ?_ (heap_alloc_at _ _ _ (by simp)) (by omega) (ba _ _ (ba _ _ hbw)) (by omega) off
  rw[relab_old (by simp),relab_new (Nat.le_refl _)];decide
 ·have e:=below_alloc (w2.alloc (fo (0,0))) (.cells zs 43)
  refine fin_of hs (heap_alloc_at _ _ _ (by simp)) (shown_alloc (shown_alloc SH (fo (0,0)) 12) _ 12) ?_ ((e.block _ (by simp)).trans (heap_alloc_at _ _ _ rfl)) (by omega) (ba _ _ (ba _ _ hbw)) (by omega) off
  rw[relab_new (by simp)];decide
open Go.RowKit Go.Proofs.YtofcnebekmjdoaaGreatDoor.Gn
structure Sm (w Y:World) (z:Nat) (b:Bank) (v v2:Vs) (cs cs2:List CV) (ds ds2:List DV):Prop where
 one:Y.heap[z]?=some (bko b v)
 two:Y.heap[z+1]?=some (bko b v2)
 s1:Shows Y b v cs ds
 s2:Shows Y b v2 cs2 ds2
 bel:Below w.heap.size w Y
theorem Sm.len {w Y:World}{z:Nat}{b:Bank}{v v2:Vs}{cs cs2:List CV}{ds ds2:List DV}(h:Sm w Y z b v v2 cs cs2 ds ds2):cs2.length=cs.length∧ds2.length=ds.length:=by
 have e1:=congrArg List.length (h.s1.csv.trans h.s2.csv.symm)
 have e2:=congrArg List.length (h.s1.dsv.trans h.s2.dsv.symm)
 simp at e1 e2
 exact ⟨e1.symm,e2.symm⟩
theorem lies_take {α:Type}{K:Kind α}{w:World}{a:Option Addr}{cap:Nat}{L:List α} (h:Gn.Lies K w a cap L) (n:Nat):Gn.Lies K w a cap (L.take n):=by
 obtain ⟨h1,h2,h3⟩:=h
 refine ⟨Nat.le_trans (by rw [List.length_take];omega) h1,h2,?_⟩
 rcases h3 with rfl|⟨b,off,ha,hb,hc⟩
 ·exact Or.inl (by simp)
 ·refine Or.inr ⟨b,off,ha,hb,fun j u hj=>hc j u ?_⟩
  have e:K.flat L=K.flat (L.take n)++K.flat (L.drop n):=by rw [←K.flat_append,List.take_append_drop]
  rw [e,List.getElem?_append_left (List.getElem?_eq_some_iff.1 hj).1]
  exact hj
end Go.Proofs.YtofcnebekmjdoaaGreatDoor.Bn
