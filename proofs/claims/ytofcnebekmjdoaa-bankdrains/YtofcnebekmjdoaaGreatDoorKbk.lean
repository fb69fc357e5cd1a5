import Derived.Deep.MidRow
import Derived.Test.YtofcnebekmjdoaaGreatDoorKbj
set_option maxHeartbeats 4000000
set_option maxRecDepth 100000
namespace Go.Proofs.YtofcnebekmjdoaaGreatDoor.Bn
open Go.RowKit Go.Proofs.YtofcnebekmjdoaaGreatDoor.Gn
theorem putAll_cells (l:List Value):∀(w:World) (g p:Nat),w.setCells g p l=putAll w g p l:=by
 induction l with
 |nil=>intro w g p;rfl
 |cons x r ih=>intro w g p;exact ih _ _ _
theorem range_blk {w:World} {g:Nat} {cs:Array Value} {t:TypeId} (h:w.heap[g]?=some (.cells cs t)) {l:List Value} (hl:∀(j:Nat) (v:Value),l[j]?=some v→cs[j]?=some v):w.rangeAt g 0 l:=fun j v hj=>by
 rw[Nat.zero_add,cell_of_row w g j cs t _ h]
 exact hl j v hj
theorem there_blk {w:World} {g:Nat} {cs:Array Value} {t:TypeId}(h:w.heap[g]?=some (.cells cs t)){n:Nat}(hn:n≤cs.size):w.there g 0 n:=fun j hj=>by
 rw[Nat.zero_add]
 refine ⟨?_,by simp[World.frozen?,h]⟩
 rw[cell_of_row w g j cs t _ h]
 simp;omega
theorem ap_one {α:Type} {K:Kind α} {lab:Lab} {w:World} {v:Value} {L:List α} {j:Nat}(h:Ap K lab w v L j):v.oneCell'=true:=by
 obtain ⟨a,cap,rfl,-⟩:=h
 rfl
theorem Shown.one{w:World}{lab:Lab}{b:Bank}{v:Vs}{cs:List CV}{ds:List DV}(h:Shown w lab b v cs ds):(cellsK b v).all (·.oneCell')=true:=by
 have h1:=ap_one h.cards
 have h2:=ap_one h.due
 have h3:=ap_one h.auths
 have h4:=ap_one (h.kept false)
 have h5:=ap_one (h.kept true)
 have h6:=ap_one (h.ways false)
 have h7:=ap_one (h.ways true)
 have h8:=ap_one h.used
 have h9:=ap_one h.adv
 have h10:=ap_one h.today
 have h11:=ap_one h.days
 have h12:=ap_one h.book
 have i1:∀(k:IntKind) (n:Int),(Value.int k n).oneCell'=true:=fun _ _=>rfl
 have i2:∀x:Bool,(Value.bool x).oneCell'=true:=fun _=>rfl
 rw[←Array.all_toList]
 show List.all [.int .i64 b.time,.bool b.down,v.c,v.d,v.a,.int .i64 (b.snd false).sent,v.kp false,.int .i64 (b.snd true).sent,v.kp true,.int .i64 (b.seen false),.int .i64 (b.seen true),v.wy false,v.wy true,.int .i64 b.stand.cap,v.us,v.ad,v.td,v.dy,v.bk] (fun x=>x.oneCell')=true
 simp only[List.all_cons,List.all_nil,h1,h2,h3,h4,h5,h6,h7,h8,h9,h10,h11,h12,i1,i2,Bool.and_true]
theorem underK:∃d,Tryz.prog.underlying 43=some d∧d.isRow=true:=⟨_,Tryz.underlying43,rfl⟩
theorem infoK:(Tryz.prog.info? 43).map (·.size)=some 19:=by kernel_rfl
theorem cellsK_in (b:Bank) (v:Vs) (tm:Value):∀(j:Nat) (u:Value),(cellsK b v).toList[j]?=some u→(cellsB b v tm)[j]?=some u:=by
 intro j u h
 have e:(cellsB b v tm).toList=(cellsK b v).toList++[tm]:=rfl
 rw [←Array.getElem?_toList,e]
 exact (List.getElem?_append_left (List.getElem?_eq_some_iff.1 h).1).trans h
theorem bko_load {w:World} {g:Nat} {b:Bank} {v:Vs}(h:w.heap[g]?=some (bko b v)):w.rangeAt g 0 (cellsK b v).toList:=range_blk h fun j v hj=>by rw[←Array.getElem?_toList];exact hj
theorem blk_load {w:World}{g:Nat}{b:Bank}{v:Vs}{tm:Value} (h:w.heap[g]?=some (blkB b v tm)):w.rangeAt g 0 (cellsK b v).toList:=range_blk h (cellsK_in b v tm)
theorem bko_there {w:World} {g:Nat} {b b':Bank} {v v':Vs}(h:w.heap[g]?=some (bko b v)):w.there g 0 (cellsK b' v').size:=there_blk h (Nat.le_refl _)
theorem blk_there {w:World} {g:Nat} {b b':Bank} {v v':Vs} {tm:Value} (h:w.heap[g]?=some (blkB b v tm)):w.there g 0 (cellsK b' v').size:=there_blk h (by show 19≤20;decide)
theorem blk_all {w:World}{z:Nat}{b1 b:Bank}{v1 v:Vs}{tm:Value} (h:w.heap[z]?=some (blkB b1 v1 tm)):(putAll w z 0 (cellsK b v).toList).heap[z]?=some (blkB b v tm):=by
 unfold blkB at h⊢
 have :=putAll_same (cellsK b v).toList w z [] (cellsK b1 v1).toList [tm] (tyB tm) rfl (by rw [h];rfl)
 rw [show (0:Nat)=([]:List Value).length from rfl,this]
 rfl
theorem bko_all {w:World} {z:Nat} {b1 b:Bank} {v1 v:Vs}(h:w.heap[z]?=some (bko b1 v1)):(putAll w z 0 (cellsK b v).toList).heap[z]?=some (bko b v):=by
 unfold bko at h⊢
 have :=putAll_same (cellsK b v).toList w z [] (cellsK b1 v1).toList [] 43 rfl (by rw[h];rfl)
 rw[show (0:Nat)=([]:List Value).length from rfl,this]
 rfl
theorem loadVar_bank{w:World}{g:Nat}{b:Bank}{v:Vs}(h:w.heap[g]?=some (bko b v)):(loadVar 43 ⟨g,0,none⟩).run Tryz.prog w=.ok (bkv b v) w:=by
 obtain ⟨d,h1,h2⟩:=underK
 exact run_loadVar_mid w g 0 43 (cellsK b v).toList d (bko_load h) h1 h2 infoK
theorem results_cell {P:Program} {fn:Func} {tmps:Array Value} {w:World} {a:Nat} {t:TypeId} {ad:Addr} {v:Value}(hf:fn.results=#[.cell a t]) (ha:tmps[a]?.getD undef=.pointer (some ad)) (hl:(loadVar t ad).run P w=.ok v w):(results fn tmps).run P w=.ok v w:=by
 unfold results
 rw[hf]
 simp[asAddr,ha,hl]
theorem results_csc {P:Program} {fn:Func} {tmps:Array Value} {w:World} {a b c:Nat} {t1 t3:TypeId} {a1 a3:Addr} {v1 v2 v3:Value}(hf:fn.results=#[.cell a t1,.tmp b,.cell c t3]) (ha:tmps[a]?.getD undef=.pointer (some a1)) (hb:tmps[b]?.getD undef=v2) (hc:tmps[c]?.getD undef=.pointer (some a3)) (h1:(loadVar t1 a1).run P w=.ok v1 w) (h3:(loadVar t3 a3).run P w=.ok v3 w):(results fn tmps).run P w=.ok (.tuple #[v1,v2,v3]) w:=by
 unfold results
 rw[hf]
 simp[asAddr,ha,hb,hc,h1,h3]
theorem kind_one {α:Type}(K:Kind α) (x:α):(K.cells x).toArray.all (·.oneCell')=true:=Array.all_eq_true_iff_forall_mem.2 fun u hu=>K.one x u (by simpa using hu)
theorem bkv_cells (b:Bank) (v:Vs):bkv b v=.agg (cellsK b v):=rfl
def pkv (p:Pk):Value:=.agg #[.int .i64 p.t.n,.int .i64 p.t.k,.int .i64 p.t.a,.int .i64 p.t.s,.int .i64 p.seen]
def pko (p:Pk):Obj:=.cells #[.int .i64 p.t.n,.int .i64 p.t.k,.int .i64 p.t.a,.int .i64 p.t.s,.int .i64 p.seen] 111
theorem pko_cells {w:World} {z:Nat} {p:Pk}(h:w.heap[z]?=some (pko p)):w.cell? ⟨z,0,none⟩=some (.int .i64 p.t.n)∧w.cell? ⟨z,1,none⟩=some (.int .i64 p.t.k)∧w.cell? ⟨z,2,none⟩=some (.int .i64 p.t.a)∧w.cell? ⟨z,3,none⟩=some (.int .i64 p.t.s)∧w.cell? ⟨z,4,none⟩=some (.int .i64 p.seen):=by
 unfold pko at h
 refine ⟨?_,?_,?_,?_,?_⟩<;>simp[World.cell?,h]
def DoneP (w:World) (g base:Nat) (lab:Lab) (tm:Value) (b:Bank) (p:Pk) (err:Int) (e:Ending) (w':World):Prop:=e=.returned (.tuple #[pkv p,.int .i64 err])∧∃lab',Goes w' g base lab' b tm∧Stp w lab w' lab'
def GoesF (w:World) (g base:Nat) (lab:Lab) (b:Bank) (tm:Value):Prop:=∃v cs ds,Hand w g base lab b v cs ds tm∧∀i,Tp kP 111 lab base w (v.wy i) (b.way i) (wl i)
theorem GoesF.goes {w:World} {g base:Nat} {lab:Lab} {b:Bank} {tm:Value}(h:GoesF w g base lab b tm):Goes w g base lab b tm:=by
 obtain ⟨v,cs,ds,H,-⟩:=h
 exact H.goes
theorem wl_le (i:Bool):wl i≤8:=by cases i<;>decide
theorem Mem.onj {w w':World}{lab:Lab}{base:Nat}{b:Bank}{v:Vs}{cs:List CV}{ds:List DV}{j:Nat}(h:Mem w lab base b v cs ds) (ho:Only lab j w w') (hj:8<j):Mem w' (relab lab w.heap.size j) base b v cs ds:=
 ⟨h.cards.move ho (by omega),h.csv,fun x hx=>(h.uses x hx).move ho (by omega),h.due.move ho (by omega),h.auths.move ho (by omega),fun i=>(h.kept i).move ho (by omega),fun i=>(h.ways i).move ho (by have :=wl_le i;omega),
  h.used.move ho (by omega),h.adv.move ho (by omega),h.today.move ho (by omega),h.days.move ho (by omega),h.dsv,fun x hx=>(h.files x hx).move ho (by omega),h.book.move ho (by omega),hi_relab h.hi h.lo,Nat.le_trans h.lo ho.size⟩
theorem Hand.onj {w w':World}{g base:Nat}{lab:Lab}{b:Bank}{v:Vs}{cs:List CV}{ds:List DV}{tm:Value}{j:Nat} (H:Hand w g base lab b v cs ds tm) (ho:Only lab j w w') (hj:8<j):Hand w' g base (relab lab w.heap.size j) b v cs ds tm:=
 ⟨H.mem.onj ho hj,H.appBlk ho (by omega),by rw [relab_old (lt_of_block H.blk)];exact H.lb⟩
theorem Stp.put{w w1:World}{lab lab1:Lab}(h:Stp w lab w1 lab1){z:Nat}(hz:w.heap.size≤z) (p:Nat) (l:List Value) (j:Nat):Stp w lab (putAll w1 z p l) (relab lab1 w1.heap.size j):=
 have hb:=below_putAll (Below.refl 0 w1) z p l (Nat.zero_le _)
 ⟨fun k hk=>(relab_old (Nat.lt_of_lt_of_le hk h.size)).trans (h.ext k hk),hb.os.trans h.os,hb.tape.trans h.tape,hb.output.trans h.output,by rw[putAll_size];exact h.size,fun k hk hl=>(putAll_other w1 z p k l (by omega)).trans (h.block k hk hl)⟩
theorem pko_put {W:World}{z:Nat}{q p:Pk}(h:W.heap[z]?=some (pko q)):(putAll W z 0 (kP.cells p)).heap[z]?=some (pko p):=by
 unfold pko at h⊢
 have:= putAll_same (kP.cells p) W z [] [.int .i64 q.t.n,.int .i64 q.t.k,.int .i64 q.t.a,.int .i64 q.t.s,.int .i64 q.seen] [] 111 rfl (by simpa using h)
 simpa[kP] using this
theorem ap_tail {lab:Lab}{w:World}{z cap:Nat}{p:Pk}{r:List Pk}{j:Nat} (h:Ap kP lab w (.slice (some ⟨z,0,none⟩) (p ::r).length cap) (p ::r) j) (hc:r.length+1≤cap):Ap kP lab w (.slice (if cap=1 then some ⟨z,0,none⟩ else some ⟨z,5,none⟩) r.length (cap -1)) r j:=by
 obtain ⟨a,c,hv,hl,hb⟩:=h
 obtain ⟨rfl,-,rfl⟩:=Value.slice.inj hv
 have hz:=hb _ rfl (by simp)
 have hlen:=hl.len
 by_cases h1:cap=1
 ·have hr:r=[]:=List.eq_nil_of_length_eq_zero (by omega)
  subst hr
  rw[if_pos h1]
  exact ⟨_,_,rfl,⟨by simp[maxLen],(fun h=>by cases h),Or.inl rfl⟩,fun _ _ hn=>absurd rfl hn⟩
 ·rw[if_neg h1]
  refine ⟨_,_,rfl,⟨by simp at hlen;omega,(fun h=>by cases h),?_⟩,fun ad had _=>by cases had;exact hz⟩
  rcases hl.at' with h0|⟨b',off,ha,hlt,hcell⟩
  ·cases h0
  ·cases ha
   refine Or.inr ⟨z,5,rfl,hlt,fun i u hu=>?_⟩
   have :=hcell (5 +i) u (by
    rw[kP.flat_cons,List.getElem?_append_right (by rw[kP.len];show 5≤5+i;omega)]
    rw[kP.len]
    show (kP.flat r)[5+i-5]?=some u
    rw[Nat.add_sub_cancel_left];exact hu)
   rwa[Nat.zero_add] at this
theorem underPk:∃d,Tryz.prog.underlying 111=some d∧d.isRow=true:=⟨_,Tryz.underlying111,rfl⟩
theorem infoPk:(Tryz.prog.info? 111).map (·.size)=some 5:=by kernel_rfl
theorem loadVar_pk {w:World} {g:Nat} {p:Pk}(h:w.heap[g]?=some (pko p)):(loadVar 111 ⟨g,0,none⟩).run Tryz.prog w=.ok (pkv p) w:=by
 obtain ⟨d,h1,h2⟩:=underPk
 exact run_loadVar_mid w g 0 111 (kP.cells p) d (range_blk (cs:=(kP.cells p).toArray) h (fun j v hj=>by simpa using hj)) h1 h2 infoPk
theorem results_cs {P:Program}{fn:Func}{tmps:Array Value}{w:World}{a b:Nat}{t1:TypeId}{a1:Addr}{v1 v2:Value}(hf:fn.results=#[.cell a t1,.tmp b]) (ha:tmps[a]?.getD undef=.pointer (some a1)) (hb:tmps[b]?.getD undef=v2) (h1:(loadVar t1 a1).run P w=.ok v1 w):(results fn tmps).run P w=.ok (.tuple #[v1,v2]) w:=by
 unfold results
 rw[hf]
 simp[asAddr,ha,hb,h1]
theorem gnext_far (g base:Nat) (lab:Lab) (b:Bank) (tm:Value) (n:Int) (w:World) (h:Goes w g base lab b tm) (hn:n<0∨1<n):
  Calls Tryz.prog 102 #[.pointer (some ⟨g,0,none⟩),.int .i64 n] w (DoneP w g base lab tm b ⟨Po.zeroT,0⟩ 6):=by
 have hS:=fun X=>isSide_any n X
 rw[isIn_false.2 (by omega)] at hS
 have hb0:=below_alloc w (.cells #[.int .i64 0,.int .i64 0,.int .i64 0,.int .i64 0,.int .i64 0] 111)
 have G1:=h.below hb0
 have S1:=stp_below (lab:=lab) hb0
 clear hn
 go_enter Tryz.func102,Tryz.ntmps102
 go_wp2_with (go_at_call 134;refine (hS _).mono ?_;rintro e w1 ⟨rfl,rfl⟩)
 refine bodyPost_ret (v:=.tuple #[pkv ⟨Po.zeroT,0⟩,.int .i64 6]) (by simp[results,Tryz.results102,go_sem,pkv,Po.zeroT]) rfl ?_
 exact ⟨rfl,_,G1,S1⟩
theorem gnext_yes (g base:Nat) (lab:Lab) (b:Bank) (tm:Value) (i:Bool) (p:Pk) (r:List Pk) (w:World) (h:GoesF w g base lab b tm) (hr:b.way i=p::r):
  Calls Tryz.prog 102 #[.pointer (some ⟨g,0,none⟩),.int .i64 (sideN i)] w (DoneP w g base lab tm (gone b i) p 0):=by
 have hS:=fun X=>isSide_any (sideN i) X
 rw[isIn_true.2 (by cases i<;>decide)] at hS
 have hb0:=below_alloc w (.cells #[.int .i64 0,.int .i64 0,.int .i64 0,.int .i64 0,.int .i64 0] 111)
 obtain ⟨v,cs,ds,H,hT⟩:=h
 have ho9:=only_below (lab:=lab) (j:=9) hb0
 have H1:=H.onj ho9 (by decide)
 have hTi:=hT i
 obtain ⟨z',cap',hvz,-,-,hcap,-,-⟩:=Row.put (i:=0) (hTi.own (by rw[hr];simp)) (by rw[hr];simp)
 rw[hr] at hvz hcap
 have S1:Stp w lab _ (relab lab w.heap.size 9):=⟨fun k hk=>relab_old hk,ho9.os,ho9.tape,ho9.output,ho9.size,fun k hk _=>hb0.block k hk⟩
 have hz:(w.alloc (.cells #[.int .i64 0,.int .i64 0,.int .i64 0,.int .i64 0,.int .i64 0] 111)).heap[w.heap.size]?=some (pko ⟨Po.zeroT,0⟩):=heap_alloc_at _ _ _ rfl
 have hzl:relab lab w.heap.size 9 w.heap.size=9:=relab_new (Nat.le_refl _)
 generalize hl:relab lab w.heap.size 9=l1 at*
 obtain ⟨a,cap,hv,hlies,hlab⟩:=H1.mem.ways i
 rw[hr] at hv hlies hlab
 obtain ⟨rfl,-,rfl⟩:=Value.slice.inj (hvz.symm.trans hv)
 obtain ⟨z,off,hzz,hzlt,hel⟩:=hlies.elem (i:=0) (x:=p) rfl
 cases hzz
 have hcap2:r.length+1≤cap':=hcap
 have hcap3:(r.length :Int)+1≤cap':=by omega
 have hne0:((r.length:Int)+1==0)=false:=by simp;omega
 have e0:=hel 0 _ rfl
 have e1:=hel 1 _ rfl
 have e2:=hel 2 _ rfl
 have e3:=hel 3 _ rfl
 have e4:=hel 4 _ rfl
 simp only[Nat.zero_mul,Nat.add_zero,Nat.zero_add] at e0 e1 e2 e3 e4
 obtain ⟨-,-,-,-,-,-,-,-,-,-,-,w11,w12,-⟩:=blk_cells H1.blk
 have f11:=blk_free H1.blk 11
 have f12:=blk_free H1.blk 12
 cases i with
 |false=>
  rw[hv] at w11
  clear w12
  unfold sideN at*
  simp only[Bool.false_eq_true,if_false] at*
  go_enter Tryz.func102,Tryz.ntmps102
  go_upto_region 4 with (go_at_call 134;refine (hS _).mono ?_;rintro e w1 ⟨rfl,rfl⟩)
  have hsz:(w.alloc (.cells #[.int .i64 0,.int .i64 0,.int .i64 0,.int .i64 0,.int .i64 0] 111)).heap.size=w.heap.size+1:=by simp
  have hb2:=below_alloc (w.alloc (.cells #[.int .i64 0,.int .i64 0,.int .i64 0,.int .i64 0,.int .i64 0] 111)) (.cells #[.int .i64 p.t.n,.int .i64 p.t.k,.int .i64 p.t.a,.int .i64 p.t.s,.int .i64 p.seen] 111)
  have hp2:((w.alloc (.cells #[.int .i64 0,.int .i64 0,.int .i64 0,.int .i64 0,.int .i64 0] 111)).alloc (.cells #[.int .i64 p.t.n,.int .i64 p.t.k,.int .i64 p.t.a,.int .i64 p.t.s,.int .i64 p.seen] 111)).heap[w.heap.size+1]?=some (pko p):=heap_alloc_at _ _ _ (by simp)
  have H2:=H1.below hb2
  have S2:=S1.trans (stp_below hb2)
  have A2:=(show Ap kP l1 (w.alloc (.cells #[.int .i64 0,.int .i64 0,.int .i64 0,.int .i64 0,.int .i64 0] 111)) (.slice (some ⟨z',0,none⟩) (p::r).length cap') (p ::r) (wl false) from ⟨_,_,rfl,hlies,hlab⟩).move (only_below (j:=0) hb2) (Or.inl rfl)
  have hz2:=(hb2.block _ (lt_of_block hz)).trans hz
  have hzl2':relab l1 (w.alloc (.cells #[.int .i64 0,.int .i64 0,.int .i64 0,.int .i64 0,.int .i64 0] 111)).heap.size 0 w.heap.size=9:=by rw[relab_old (lt_of_block hz)];exact hzl
  have hgw:=lt_of_block H.blk
  clear H1 S1 hz hS w11 f11 f12 e0 e1 e2 e3 e4 hel hlies hlab hzlt hTi hT H
  generalize relab l1 (w.alloc (.cells #[.int .i64 0,.int .i64 0,.int .i64 0,.int .i64 0,.int .i64 0] 111)).heap.size 0=l2 at*
  generalize (w.alloc (.cells #[.int .i64 0,.int .i64 0,.int .i64 0,.int .i64 0,.int .i64 0] 111)).alloc (.cells #[.int .i64 p.t.n,.int .i64 p.t.k,.int .i64 p.t.a,.int .i64 p.t.s,.int .i64 p.seen] 111)=X1 at*
  clear hb2 hb0
  obtain ⟨-,-,-,-,-,-,-,-,-,-,-,w11,w12,-⟩:=blk_cells H2.blk
  have f11:=blk_free H2.blk 11
  rw[hv] at w11
  clear w12
  have hzl2:l2 w.heap.size=9:=hzl2'
  have T3:=ap_tail A2 hcap2
  have H3:=H2.put1 (b':=gone b false) (by
   have:= H2.mem.wayAs false T3
   have e:(b.way false).tail=r:=by rw[hr];rfl
   unfold gone
   rw[e]
   exact this) (i:=11) (x:=.slice (if cap'=1 then some ⟨z',0,none⟩else some ⟨z',5,none⟩) r.length (cap' -1)) rfl
  have U3:=stp_set (w:=X1) H2.lb 11 (.slice (if cap'=1 then some ⟨z',0,none⟩else some ⟨z',5,none⟩) r.length (cap'-1))
  have S3:=S2.trans U3
  have hzg:w.heap.size≠g:=by have:= hgw;omega
  have hpg:w.heap.size+1≠g:=by have:= hgw;omega
  have hz3:(X1.setCell ⟨g,11,none⟩ (.slice (if cap'=1 then some ⟨z',0,none⟩else some ⟨z',5,none⟩) r.length (cap'-1))).heap[w.heap.size]?=some (pko ⟨Po.zeroT,0⟩):=(heap_setCell_other _ _ _ _ hzg).trans hz2
  have hp3:(X1.setCell ⟨g,11,none⟩ (.slice (if cap'=1 then some ⟨z',0,none⟩else some ⟨z',5,none⟩) r.length (cap' -1))).heap[w.heap.size+1]?=some (pko p):=(heap_setCell_other _ _ _ _ hpg).trans hp2
  have hzl3:=(U3.ext w.heap.size (lt_of_block hz2)).trans hzl2
  go_region
  clear w11 f11 H2 S2 U3 T3 A2 hz2 hp2
  replace H3:=H3.drew
  replace S3:=S3.drew
  generalize relab l2 X1.heap.size 1=l3 at*
  rw[←heap_drew] at hz3 hp3
  generalize (X1.setCell ⟨g,11,none⟩ (.slice (if cap'=1 then some ⟨z',0,none⟩else some ⟨z',5,none⟩) r.length (cap'-1))).drew=Y at*
  have hF:=pko_put (p:=p) hz3
  have H4:=H3.onj (only_putAll Y w.heap.size 0 (kP.cells p) hzl3 (by decide)) (by decide)
  have S4:=S3.put (Nat.le_refl _) 0 (kP.cells p) 9
  have hrg:Y.rangeAt (w.heap.size+1) 0 (kP.cells p):=range_blk (cs:=(kP.cells p).toArray) hp3 (fun j v hj=>by simpa using hj)
  have hth:Y.there w.heap.size 0 (kP.cells p).toArray.size:=there_blk (cs:=(kP.cells ⟨Po.zeroT,0⟩).toArray) hz3 (Nat.le_refl _)
  obtain ⟨dP,uP,rP⟩:=underPk
  rw[←putAll_cells] at hF H4 S4
  have hres:=loadVar_pk hF
  clear H3 S3 hp3 hz3 hF hr hv hvz hl hzl hzl2 hzl2' hzl3 hsz ho9 hcap hcap2 hcap3
  generalize (if cap'=1 then some (⟨z',0,none⟩:Addr) else some ⟨z',5,none⟩)=aa at*
  go_wp2_with (first
   |(refine wpList_load_mid rfl 111 _ rfl (w.heap.size +1) 0 rfl (kP.cells p) dP hrg uP rP infoPk ?_)
   |(refine wpList_store_mid rfl 111 _ _ rfl w.heap.size 0 (kP.cells p).toArray rfl rfl hth infoPk (kind_one kP p) ?_))
  all_goals exact bodyPost_ret (v:=.tuple #[pkv p,.int .i64 0]) (results_cs Tryz.results102 rfl rfl hres) rfl ⟨rfl,_,H4.goes,S4⟩
 |true=>
  rw[hv] at w12
  clear w11
  unfold sideN at*
  simp only[if_true] at*
  go_enter Tryz.func102,Tryz.ntmps102
  go_upto_region 4 with (go_at_call 134;refine (hS _).mono ?_;rintro e w1 ⟨rfl,rfl⟩)
  have hsz:(w.alloc (.cells #[.int .i64 0,.int .i64 0,.int .i64 0,.int .i64 0,.int .i64 0] 111)).heap.size=w.heap.size+1:=by simp
  have hb2:=below_alloc (w.alloc (.cells #[.int .i64 0,.int .i64 0,.int .i64 0,.int .i64 0,.int .i64 0] 111)) (.cells #[.int .i64 p.t.n,.int .i64 p.t.k,.int .i64 p.t.a,.int .i64 p.t.s,.int .i64 p.seen] 111)
  have hp2:((w.alloc (.cells #[.int .i64 0,.int .i64 0,.int .i64 0,.int .i64 0,.int .i64 0] 111)).alloc (.cells #[.int .i64 p.t.n,.int .i64 p.t.k,.int .i64 p.t.a,.int .i64 p.t.s,.int .i64 p.seen] 111)).heap[w.heap.size+1]?=some (pko p):=heap_alloc_at _ _ _ (by simp)
  have H2:=H1.below hb2
  have S2:=S1.trans (stp_below hb2)
  have A2:=(show Ap kP l1 (w.alloc (.cells #[.int .i64 0,.int .i64 0,.int .i64 0,.int .i64 0,.int .i64 0] 111)) (.slice (some ⟨z',0,none⟩) (p::r).length cap') (p::r) (wl true) from ⟨_,_,rfl,hlies,hlab⟩).move (only_below (j:=0) hb2) (Or.inl rfl)
  have hz2:=(hb2.block _ (lt_of_block hz)).trans hz
  have hzl2':relab l1 (w.alloc (.cells #[.int .i64 0,.int .i64 0,.int .i64 0,.int .i64 0,.int .i64 0] 111)).heap.size 0 w.heap.size=9:=by rw[relab_old (lt_of_block hz)];exact hzl
  have hgw:=lt_of_block H.blk
  clear H1 S1 hz hS w12 f11 f12 e0 e1 e2 e3 e4 hel hlies hlab hzlt hTi hT H
  generalize relab l1 (w.alloc (.cells #[.int .i64 0,.int .i64 0,.int .i64 0,.int .i64 0,.int .i64 0] 111)).heap.size 0=l2 at*
  generalize (w.alloc (.cells #[.int .i64 0,.int .i64 0,.int .i64 0,.int .i64 0,.int .i64 0] 111)).alloc (.cells #[.int .i64 p.t.n,.int .i64 p.t.k,.int .i64 p.t.a,.int .i64 p.t.s,.int .i64 p.seen] 111)=X1 at*
  clear hb2 hb0
  obtain ⟨-,-,-,-,-,-,-,-,-,-,-,w11,w12,-⟩:=blk_cells H2.blk
  have f12:=blk_free H2.blk 12
  rw[hv] at w12
  clear w11
  have hzl2:l2 w.heap.size=9:=hzl2'
  have T3:=ap_tail A2 hcap2
  have H3:=H2.put1 (b':=gone b true) (by
   have:= H2.mem.wayAs true T3
   have e:(b.way true).tail=r:=by rw[hr];rfl
   unfold gone
   rw[e]
   exact this) (i:=12) (x:=.slice (if cap'=1 then some ⟨z',0,none⟩else some ⟨z',5,none⟩) r.length (cap' -1)) rfl
  have U3:=stp_set (w:=X1) H2.lb 12 (.slice (if cap'=1 then some ⟨z',0,none⟩else some ⟨z',5,none⟩) r.length (cap' -1))
  have S3:=S2.trans U3
  have hzg:w.heap.size≠g:=by have :=hgw;omega
  have hpg:w.heap.size+1≠g:=by have :=hgw;omega
  have hz3:(X1.setCell ⟨g,12,none⟩ (.slice (if cap'=1 then some ⟨z',0,none⟩else some ⟨z',5,none⟩) r.length (cap' -1))).heap[w.heap.size]?=some (pko ⟨Po.zeroT,0⟩):=(heap_setCell_other _ _ _ _ hzg).trans hz2
  have hp3:(X1.setCell ⟨g,12,none⟩ (.slice (if cap'=1 then some ⟨z',0,none⟩else some ⟨z',5,none⟩) r.length (cap'-1))).heap[w.heap.size+1]?=some (pko p):=(heap_setCell_other _ _ _ _ hpg).trans hp2
  have hzl3:=(U3.ext w.heap.size (lt_of_block hz2)).trans hzl2
  go_region
  clear w12 f12 H2 S2 U3 T3 A2 hz2 hp2
  replace H3:=H3.drew
  replace S3:=S3.drew
  generalize relab l2 X1.heap.size 1=l3 at*
  rw[←heap_drew] at hz3 hp3
  generalize (X1.setCell ⟨g,12,none⟩ (.slice (if cap'=1 then some ⟨z',0,none⟩else some ⟨z',5,none⟩) r.length (cap'-1))).drew=Y at*
  have hF:=pko_put (p:=p) hz3
  have H4:=H3.onj (only_putAll Y w.heap.size 0 (kP.cells p) hzl3 (by decide)) (by decide)
  have S4:=S3.put (Nat.le_refl _) 0 (kP.cells p) 9
  have hrg:Y.rangeAt (w.heap.size+1) 0 (kP.cells p):=range_blk (cs:=(kP.cells p).toArray) hp3 (fun j v hj=>by simpa using hj)
  have hth:Y.there w.heap.size 0 (kP.cells p).toArray.size:=there_blk (cs:=(kP.cells ⟨Po.zeroT,0⟩).toArray) hz3 (Nat.le_refl _)
  obtain ⟨dP,uP,rP⟩:=underPk
  rw[←putAll_cells] at hF H4 S4
  have hres:=loadVar_pk hF
  clear H3 S3 hp3 hz3 hF hr hv hvz hl hzl hzl2 hzl2' hzl3 hsz ho9 hcap hcap2 hcap3
  generalize (if cap'=1 then some (⟨z',0,none⟩:Addr) else some ⟨z',5,none⟩)=aa at*
  go_wp2_with (first
   |(refine wpList_load_mid rfl 111 _ rfl (w.heap.size +1) 0 rfl (kP.cells p) dP hrg uP rP infoPk ?_)
   |(refine wpList_store_mid rfl 111 _ _ rfl w.heap.size 0 (kP.cells p).toArray rfl rfl hth infoPk (kind_one kP p) ?_))
  all_goals exact bodyPost_ret (v:=.tuple #[pkv p,.int .i64 0]) (results_cs Tryz.results102 rfl rfl hres) rfl ⟨rfl,_,H4.goes,S4⟩
open Go.Proofs.YtofcnebekmjdoaaGreatDoor
def backQ (b:Bank) (i:Bool) (n:Int):Bank×Int:=
 if (Po.backS (b.snd i) n).2≠0 then (b,(Po.backS (b.snd i) n).2) else ({ b with snd:=upd b.snd i (Po.backS (b.snd i) n).1},0)
def arriveP (b:Bank) (i:Bool) (p:Pk):Bank×Int:=
 if 0≤p.seen then backQ (gone b i) i p.seen
 else if Po.taken (b.seen i) p.t.n=true then takeP (came b i) p.t
 else (gone b i,0)
theorem arrive_plan {b:Bank}(I:Inv b){i:Bool}{p:Pk}(hp:p∈b.way i):Plan (arriveP b i p) (arriveAt b i p):=by
 unfold arriveP arriveAt
 by_cases q1:0≤p.seen
 ·rw[if_pos q1,if_pos q1]
  unfold backQ
  show Plan (if (Po.backS (b.snd i) p.seen).2≠0 then (gone b i,(Po.backS (b.snd i) p.seen).2) else ({ gone b i with snd:=upd b.snd i (Po.backS (b.snd i) p.seen).1},0)) _
  by_cases q2:(Po.backS (b.snd i) p.seen).2=0
  ·rw[if_neg (by simpa using q2),if_neg (by simpa using q2)]
   exact plan_refl _
  ·rw[if_pos q2,if_pos q2]
   exact ⟨rfl,fun h=>absurd h q2⟩
 rw[if_neg q1,if_neg q1]
 have s0:=I.sent.seen0 i
 by_cases q2:Po.taken (b.seen i) p.t.n=true
 ·obtain ⟨h1,h2,h3⟩:=Po.taken_true.1 q2
  rw[if_pos q2,if_neg (by omega)]
  exact take_plan (next_kind I (next_kept I hp q1 h3))
 ·rw[if_neg q2,if_pos (by
   have:= Po.taken_false.1 (Bool.not_eq_true _▸q2)
   omega)]
  exact plan_refl _
theorem due_small {K:Nat}{b:Bank}(I:Inv b) (B:Bound K b) (hK:K≤400):∀k:Nat,k<b.due.length→-400000000≤b.due.getD k 0∧b.due.getD k 0≤400000000:=fun k hk=>by
 have h:=B (50 +(k :Int)) (by omega)
 rw[I.books.accS k hk] at h
 omega
theorem money_small {K:Nat} {b:Bank} (I:Inv b) (B:Bound K b) (hK:K≤400):∀k:Nat,k<b.cards.length→(-400000000≤(b.cards.getD k zeroC).m∧(b.cards.getD k zeroC).m≤400000000)∧0≤(b.cards.getD k zeroC).h∧(b.cards.getD k zeroC).h≤30000000:=fun k hk=>by
 have h:=B (10 +(k :Int)) (by omega)
 rw[I.books.accC k hk] at h
 have h2:=I.held.held k hk
 have h3:=I.held.small k
 omega
theorem days_more (b:Bank) (d:Dd):(doB b d).1.days.length≤b.days.length+1:=by
 by_cases h10:d.kind=10
 ·rw[do_day h10]
  show (b.days ++[Dy.fileB b.today]).length≤_
  simp
 by_cases h3:d.kind=3
 ·by_cases h:(doB b d).2.1=0
  ·rw[(do_move h3 h).2.2.2.2];omega
  ·rw[doB_refused b d h];omega
 ·rw[(do_quiet h3 h10).days];omega
theorem play1_days (s:Bank×List (Dd ×An)) (d:Dd):(play1 s d).1.days.length≤s.1.days.length+1:=by
 unfold play1
 split
 ·exact Nat.le_succ _
 ·exact days_more _ _
end Go.Proofs.YtofcnebekmjdoaaGreatDoor.Bn
