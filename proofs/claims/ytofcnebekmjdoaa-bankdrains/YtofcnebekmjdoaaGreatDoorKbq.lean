import Derived.Test.YtofcnebekmjdoaaGreatDoorKbp
set_option maxHeartbeats 4000000
set_option maxRecDepth 100000
namespace Go.Proofs.YtofcnebekmjdoaaGreatDoor.Bn
open Go.RowKit Go.Proofs.YtofcnebekmjdoaaGreatDoor.Gn Go.Maps
structure Keep (w:World) (g m:Nat) (lab:Lab) (b:Bank) (T:List (Dd×An)) (v:Vs) (cs:List CV) (ds:List DV) (n:Nat) (D:DataW Unit):Prop where
 shown:Shown w lab b v cs ds
 blk:w.heap[g]?=some (blkB b v (.map (some m)))
 lg:lab g=9
 owns:OwnsT w m n D
 few:n≤T.length
 tld:Tld T D
 lm:lab m=10
 labs:∀k,lab k=0∨8<lab k
 oth:Oth w
 l0:lab 0=0
theorem Keep.gm{w:World}{g m:Nat}{lab:Lab}{b:Bank}{T:List (Dd ×An)}{v:Vs}{cs:List CV}{ds:List DV}{n:Nat}{D:DataW Unit}(K:Keep w g m lab b T v cs ds n D):g≠m:=fun h=>by
 have h1:=K.lg
 have h2:=K.lm
 rw[h] at h1
 omega
theorem owns_keep' {w w':World} {m n:Nat} {D:DataW Unit}(h:OwnsT w m n D) (hk:w'.heap[m]?=w.heap[m]?):OwnsT w' m n D:=by
 obtain ⟨es,clock,hb,r⟩:=h
 exact ⟨es,clock,hk.trans hb,r⟩
theorem Keep.below {w w':World}{g m:Nat}{lab:Lab}{b:Bank}{T:List (Dd×An)}{v:Vs}{cs:List CV}{ds:List DV}{n:Nat}{D:DataW Unit}(K:Keep w g m lab b T v cs ds n D) (hb:Below w.heap.size w w'){j:Nat}(hj:j=0∨10<j):Keep w' g m (relab lab w.heap.size j) b T v cs ds n D:=by
 have kg:=lt_of_block K.blk
 have km:=K.owns.lt
 have k0:=K.oth.lt
 refine ⟨K.shown.go hb.size (fun k hk=>relab_old hk) fun k hk _=>hb.block k hk,(hb.block _ kg).trans K.blk,by rw[relab_old kg];exact K.lg,owns_keep' K.owns (hb.block _ km),K.few,K.tld,by rw[relab_old km];exact K.lm,fun k=>?_,K.oth.keep (hb.block 0 k0),by rw[relab_old k0];exact K.l0⟩
 by_cases hk:k<w.heap.size
 ·rw[relab_old hk];exact K.labs k
 ·rw[relab_new (by omega)];omega
theorem Keep.drew {w:World} {g m:Nat} {lab:Lab} {b:Bank} {T:List (Dd ×An)} {v:Vs} {cs:List CV} {ds:List DV} {n:Nat} {D:DataW Unit}(K:Keep w g m lab b T v cs ds n D):Keep w.drew g m lab b T v cs ds n D:=
 ⟨K.shown.go (Nat.le_refl _) (fun _ _=>rfl) (fun _ _ _=>rfl),K.blk,K.lg,K.owns.drew,K.few,K.tld,K.lm,K.labs,K.oth.keep rfl,K.l0⟩
theorem ap_lab {α:Type} {K:Kind α} {lab lab':Lab} {w:World} {v:Value} {L:List α}(h:Ap K lab w v L 0) (hl:∀k,lab k=0→lab' k=0):Ap K lab' w v L 0:=by
 obtain ⟨a,cap,hv,hl2,hb⟩:=h
 exact ⟨a,cap,hv,hl2,fun ad ha hn=>hl _ (hb ad ha hn)⟩
theorem Shown.lab {w:World} {lab lab':Lab} {b:Bank} {v:Vs} {cs:List CV} {ds:List DV}(h:Shown w lab b v cs ds) (hl:∀k,lab k=0→lab' k=0):Shown w lab' b v cs ds:=
 ⟨ap_lab h.cards hl,h.csv,fun x hx=>ap_lab (h.uses x hx) hl,ap_lab h.due hl,ap_lab h.auths hl,fun i=>ap_lab (h.kept i) hl,fun i=>ap_lab (h.ways i) hl,ap_lab h.used hl,ap_lab h.adv hl,ap_lab h.today hl,ap_lab h.days hl,h.dsv,fun x hx=>ap_lab (h.files x hx) hl,ap_lab h.book hl⟩
theorem Keep.put {w:World} {g m:Nat} {lab:Lab} {b b':Bank} {T:List (Dd×An)} {v v':Vs} {cs cs':List CV} {ds ds':List DV} {n:Nat} {D:DataW Unit} (K:Keep w g m lab b T v cs ds n D) (S:Shown w lab b' v' cs' ds'):
  Keep (putAll w g 0 (cellsK b' v').toList) g m lab b' T v' cs' ds' n D:=by
 have hs:(putAll w g 0 (cellsK b' v').toList).heap.size=w.heap.size:=putAll_size _ _ _ _
 have ho:∀k,k≠g→(putAll w g 0 (cellsK b' v').toList).heap[k]?=w.heap[k]?:=fun k hk=>putAll_other _ _ _ _ _ hk
 refine ⟨S.go (by rw[hs];exact Nat.le_refl _) (fun _ _=>rfl) fun k _ h0=>ho k (fun e=>by rw[e,K.lg] at h0;cases h0),blk_all K.blk,K.lg,owns_keep' K.owns (ho m (fun e=>K.gm e.symm)),K.few,K.tld,K.lm,K.labs,K.oth.keep (ho 0 (fun e=>by have h1:=K.l0;have h2:=K.lg;rw[←e] at h2;omega)),K.l0⟩
theorem Keep.tell {w w':World}{g m:Nat}{lab:Lab}{b:Bank}{T T':List (Dd ×An)}{v:Vs}{cs:List CV}{ds:List DV}{n:Nat}{D D':DataW Unit}(K:Keep w g m lab b T v cs ds n D) (hg:w.grownBy w' (some m)) (O:OwnsT w' m (n +1) D') (t:Tld T' D') (hT:T'.length=T.length+1):Keep w' g m lab b T' v cs ds (n +1) D':=by
 have ho:∀k,k<w.heap.size→k≠m→w'.heap[k]?=w.heap[k]?:=fun k hk hn=>hg.block k hk (fun e=>hn (by injection e))
 have kg:=lt_of_block K.blk
 refine ⟨K.shown.go hg.size (fun _ _=>rfl) fun k hk h0=>ho k hk (fun e=>by rw[e,K.lm] at h0;cases h0),(ho g kg K.gm).trans K.blk,K.lg,O,by have:= K.few;omega,t,K.lm,K.labs,K.oth.keep (ho 0 K.oth.lt (fun e=>by have h1:=K.l0;have h2:=K.lm;rw[←e] at h2;omega)),K.l0⟩
theorem Keep.log {w:World}{g m:Nat}{lab:Lab}{b:Bank}{T:List (Dd ×An)}{v:Vs}{cs:List CV}{ds:List DV}{n:Nat}{D:DataW Unit} (K:Keep w g m lab b T v cs ds n D) (d:Dd) (a:An) (hd:d.id=0∨told d.id T≠none):Keep w g m lab b (T++[(d,a)]) v cs ds n D:=
 ⟨K.shown,K.blk,K.lg,K.owns,by have:= K.few;simp;omega,K.tld.more d a hd,K.lm,K.labs,K.oth,K.l0⟩
theorem Keep.box {w:World}{g m:Nat}{lab:Lab}{b:Bank}{T:List (Dd ×An)}{v:Vs}{cs:List CV}{ds:List DV}{n:Nat}{D:DataW Unit}(K:Keep w g m lab b T v cs ds n D){z:Nat}(hz:10<lab z) (i:Nat) (x:Value):Keep (w.setCell ⟨z,i,none⟩ x) g m lab b T v cs ds n D:=by
 have ho:∀k,k≠z→(w.setCell ⟨z,i,none⟩ x).heap[k]?=w.heap[k]?:=fun k hk=>heap_setCell_other _ _ _ _ hk
 have n0:∀k,lab k≤10→k≠z:=fun k hk e=>by rw[e] at hk;omega
 refine ⟨K.shown.go (by simp) (fun _ _=>rfl) fun k _ h0=>ho k (n0 k (by omega)),(ho g (n0 g (by rw[K.lg];decide))).trans K.blk,K.lg,owns_keep' K.owns (ho m (n0 m (by rw[K.lm];decide))),K.few,K.tld,K.lm,K.labs,K.oth.keep (ho 0 (n0 0 (by rw[K.l0];decide))),K.l0⟩
theorem Keep.done {w w0:World}{g m:Nat}{lab:Lab}{b:Bank}{T:List (Dd×An)}{v:Vs}{cs:List CV}{ds:List DV}{n:Nat}{D:DataW Unit}(K:Keep w g m (relab lab w0.heap.size 11) b T v cs ds n D) (hg:g<w0.heap.size) (hm:m<w0.heap.size) (hl:∀k,lab k=0∨8<lab k) (h0:0<w0.heap.size):Keep w g m (relab lab w0.heap.size 0) b T v cs ds n D:=by
 refine ⟨K.shown.lab fun k hk=>?_,K.blk,by have:= K.lg;rw[relab_old hg] at this⊢;exact this,K.owns,K.few,K.tld,by have:= K.lm;rw[relab_old hm] at this⊢;exact this,fun k=>?_,K.oth,by have:= K.l0;rw[relab_old h0] at this⊢;exact this⟩
 ·by_cases q:k<w0.heap.size
  ·rw[relab_old q] at hk⊢;exact hk
  ·exact relab_new (by omega)
 ·by_cases q:k<w0.heap.size
  ·rw[relab_old q];exact hl k
  ·rw[relab_new (by omega)];exact Or.inl rfl
structure Fm (w w':World) (g m:Nat):Prop where
 os:w'.os=w.os
 tape:w'.tape=w.tape
 output:w'.output=w.output
 size:w.heap.size≤w'.heap.size
 block:∀k,k<w.heap.size→k≠g→k≠m→w'.heap[k]?=w.heap[k]?
theorem fm_below {w w':World}(h:Below w.heap.size w w') (g m:Nat):Fm w w' g m:=⟨h.os,h.tape,h.output,h.size,fun k hk _ _=>h.block k hk⟩
theorem Fm.below {w w1 w2:World} {g m:Nat}(h:Fm w w1 g m) (hb:Below w.heap.size w1 w2):Fm w w2 g m:=⟨hb.os.trans h.os,hb.tape.trans h.tape,hb.output.trans h.output,Nat.le_trans h.size hb.size,fun k hk a c=>(hb.block k hk).trans (h.block k hk a c)⟩
theorem Fm.put {w w1:World}{g m:Nat}(h:Fm w w1 g m) (l:List Value):Fm w (putAll w1 g 0 l) g m:=
 have hb:=below_putAll (Below.refl 0 w1) g 0 l (Nat.zero_le _)
 ⟨hb.os.trans h.os,hb.tape.trans h.tape,hb.output.trans h.output,by rw[putAll_size];exact h.size,fun k hk a c=>(putAll_other _ _ _ _ _ a).trans (h.block k hk a c)⟩
theorem Fm.map{w w1 w2:World}{g m:Nat}(h:Fm w w1 g m) (hg:w1.grownBy w2 (some m)):Fm w w2 g m:=⟨hg.os.trans h.os,hg.tape.trans h.tape,hg.output.trans h.output,Nat.le_trans h.size hg.size,fun k hk a c=>(hg.block k (Nat.lt_of_lt_of_le hk h.size) (fun e=>c (by injection e))).trans (h.block k hk a c)⟩
theorem Fm.stq {w w':World} {g m:Nat} {lab:Lab}(h:Fm w w' g m) (hg:lab g=9) (hm:lab m=10):Stq w lab w' (Bn.relab lab w.heap.size 0):=
 ⟨fun _ hk=>relab_old hk,h.os,h.tape,h.output,h.size,fun k hk hl=>h.block k hk (fun e=>by rw[e,hg] at hl;omega) (fun e=>by rw[e,hm] at hl;omega)⟩
theorem Keep.relab {w:World}{g m:Nat}{lab lab':Lab}{b:Bank}{T:List (Dd×An)}{v:Vs}{cs:List CV}{ds:List DV}{n:Nat}{D:DataW Unit} (K:Keep w g m lab b T v cs ds n D) (hl:∀k,lab k=0→lab' k=0) (hg:lab' g=9) (hm:lab' m=10) (ha:∀k,lab' k=0∨8<lab' k):Keep w g m lab' b T v cs ds n D:=
 ⟨K.shown.lab hl,K.blk,hg,K.owns,K.few,K.tld,hm,ha,K.oth,hl 0 K.l0⟩
theorem built_g (b:Bank) (v:Vs):Tryz.prog.built 98 [(0,.agg (cellsK b v))]=some (cellsB b v (.map none)):=by kernel_rfl
theorem infoG:(Tryz.prog.info? 98).map (·.size)=some 20:=by kernel_rfl
theorem oneG {b:Bank} {v:Vs}(h:(cellsK b v).all (·.oneCell')=true):(cellsB b v (.map none)).all (·.oneCell')=true:=by
 have e:(cellsB b v (.map none)).toList=(cellsK b v).toList++[.map none]:=rfl
 rw[←Array.all_toList,e,List.all_append]
 rw[←Array.all_toList] at h
 rw[h]
 rfl
theorem few_of {b:Bank} {cs:List CV} {ds:List DV}(I:Inv b) (hc:cs.map CV.c=b.cards) (hd:ds.map DV.l=b.days) (hy:b.days.length≤1000000):Few b cs ds:=by
 have h1:cs.length=b.cards.length:=by rw[←hc];simp
 have h2:ds.length=b.days.length:=by rw[←hd];simp
 have c8:=I.held.cards8
 have d8:=I.held.due8
 have fw:=I.held.few
 have td:=I.held.today.1
 exact ⟨by omega,by omega,by omega,fun i=>by have :=I.sent.way60 i;omega,by omega,by omega⟩
theorem wpList_build_g {w:World} {ops:Array Oper} {rest:List Oper} {o:Oper} {a:Act} {Q:Exit→Act→World→Prop} (hg:o.guard=none) (x:Operand) (ho:o.op=.build 98 #[(0,x)]) (b:Bank) (v:Vs) (hx:a.eval x=.agg (cellsK b v)) (h:wpList Tryz.prog ops Q rest (a.put o.dst (.agg (cellsB b v (.map none)))) w):wpList Tryz.prog ops Q (o ::rest) a w:=by
 have e:(Tryz.prog.built 98 ((#[(0,x)]:Array (Nat ×Operand)).map fun (i,x)=>(i,a.eval x)).toList)=some (cellsB b v (.map none)):=by
  have: ((#[(0,x)]:Array (Nat ×Operand)).map fun (i,x)=>(i,a.eval x)).toList=[(0,.agg (cellsK b v))]:=by simp[hx]
  rw[this]
  exact built_g b v
 refine wpList_build hg 98 #[(0,x)] ho (by rw[e];rfl) ?_
 rw[e]
 exact h
theorem there_new (w:World) (cs:Array Value) (hs:cs.size=20) (b:Bank) (v:Vs):(w.alloc (.cells cs 98)).there w.heap.size 0 (cellsB b v (.map none)).size:=there_blk (heap_alloc_at _ _ _ rfl) (by rw[hs];exact Nat.le_refl 20)
theorem blk_new {w:World}{b:Bank}{v:Vs}{cs:Array Value}(hs:cs.size=20):((w.alloc (.cells cs 98)).setCells w.heap.size 0 (cellsB b v (.map none)).toList).heap[w.heap.size]?=some (blkB b v (.map none)):=by
 rw[putAll_cells]
 have:= putAll_same (cellsB b v (.map none)).toList (w.alloc (.cells cs 98)) w.heap.size [] cs.toList [] 98 (by simp[hs];rfl) (by rw[heap_alloc_at _ _ _ rfl];simp)
 refine Eq.trans this ?_
 unfold blkB
 simp[tyB]
theorem below_new {w:World}(o:Obj) (l:List Value):Below w.heap.size w ((w.alloc o).setCells w.heap.size 0 l):=by
 rw[putAll_cells]
 exact below_putAll (below_alloc w o) w.heap.size 0 l (Nat.le_refl _)
theorem own_goes {w3 W4:World} {lab3:Lab} {base:Nat} {b:Bank} {v:Vs} {cs:List CV} {ds:List DV} (M:Mem w3 lab3 base b v cs ds) (hT:∀i,Tp kP 111 lab3 base w3 (v.wy i) (b.way i) (wl i)) (hb:Below w3.heap.size w3 W4) (hblk:W4.heap[w3.heap.size]?=some (blkB b v (.map none))):GoesF W4 w3.heap.size base (relab lab3 w3.heap.size 1) b (.map none):=by
 have ho:Only lab3 1 w3 W4:=only_below hb
 exact ⟨v,cs,ds,⟨M.on ho (Or.inr rfl),hblk,relab_new (Nat.le_refl _)⟩,fun i=>(hT i).move ho (Or.inr (by cases i<;>decide))⟩
theorem look_all {W:World}{m n:Nat}{D:DataW Unit}{T:List (Dd ×An)}(O:OwnsT W m n D) (t:Tld T D){id:Int}(h1:-9223372036854775808≤id) (h2:id≤9223372036854775807):
  (Instr.lookup 96 (.map (some m)) (.int .i64 id) true).run Tryz.prog W.drew=.ok (.tuple #[anv ((heard T id).getD (0,0)),.bool (heard T id).isSome]) W.drew∧
  ∀o,(Instr.lookup 96 (.map (some m)) (.int .i64 id) true).run Tryz.prog (W.alloc o).drew=.ok (.tuple #[anv ((heard T id).getD (0,0)),.bool (heard T id).isSome]) (W.alloc o).drew:=
 ⟨told_look O.drew t h1 h2,fun o=>told_look (O.alloc o).drew t h1 h2⟩
def Hears (w:World) (g m:Nat) (lab:Lab) (b':Bank) (T':List (Dd ×An)) (a:An) (e:Ending) (w':World):Prop:=e=.returned (anv a)∧∃lab' v' cs' ds' n' D',Keep w' g m lab' b' T' v' cs' ds' n' D'∧Stq w lab w' lab'
theorem hear_told (g m:Nat) (lab:Lab) (b:Bank) (T:List (Dd×An)) (v:Vs) (cs:List CV) (ds:List DV) (n:Nat) (D:DataW Unit) (d:Dd) (a:An) (w:World) (K:Keep w g m lab b T v cs ds n D) (h1:-9223372036854775808≤d.id) (h2:d.id≤9223372036854775807) (ha:heard T d.id=some a):
  Calls Tryz.prog 45 #[.pointer (some ⟨g,0,none⟩),ddv d] w (Hears w g m lab b (T++[(d,a)]) a):=by
 have e1:=below_alloc w (ddo d)
 have e2:=below_alloc (w.alloc (ddo d)) (ano (0,0))
 have e3:=below_alloc ((w.alloc (ddo d)).alloc (ano (0,0))) (ano a)
 have hb12:=e1.trans (e2.mono (by simp))
 have hb:=hb12.trans (e3.mono (by simp;omega))
 have K1:=K.below hb12 (j:=11) (Or.inr (by decide))
 have K3:=K.below hb (j:=11) (Or.inr (by decide))
 have hd0:((w.alloc (ddo d)).alloc (ano (0,0))).heap[w.heap.size]?=some (ddo d):=(e2.block _ (by simp)).trans (heap_alloc_at _ _ _ rfl)
 have hr0:(((w.alloc (ddo d)).alloc (ano (0,0))).alloc (ano a)).heap[w.heap.size+1]?=some (ano (0,0)):=(e3.block _ (by simp)).trans (heap_alloc_at _ _ _ (by simp))
 have ha0:(((w.alloc (ddo d)).alloc (ano (0,0))).alloc (ano a)).heap[w.heap.size+2]?=some (ano a):=heap_alloc_at _ _ _ (by simp)
 have hlk:=look_all K1.owns K1.tld h1 h2
 rw[ha] at hlk
 obtain ⟨lk0,lk1⟩:=hlk
 simp only[Option.getD_some,Option.isSome_some] at lk0 lk1
 have hdd:d.id=0∨told d.id T≠none:=by
  unfold heard at ha
  by_cases q:d.id=0
  ·exact Or.inl q
  ·rw[if_neg q] at ha;rw[ha];exact Or.inr (by simp)
 have kg:=lt_of_block K.blk
 have km:=K.owns.lt
 have k0:=K.oth.lt
 have klabs:=K.labs
 obtain ⟨d0,d1,d2,d3,d4,d5⟩:=ddo_cells hd0
 obtain ⟨-,-,-,-,-,-,-,-,-,-,-,-,-,-,-,-,-,-,-,ct⟩:=blk_cells K1.blk
 have K3':=K3.log d a hdd
 have hsz:((w.alloc (ddo d)).alloc (ano (0,0))).heap.size=w.heap.size+2:=by simp
 have gl:=lt_of_block K1.blk
 clear e1 e2 e3 hb12 K1 K3 K ha hdd
 unfold anv at lk0 lk1
 obtain ⟨W,hW⟩:∃W,(w.alloc (ddo d)).alloc (ano (0,0))=W:=⟨_,rfl⟩
 rw[hW] at d0 d1 d2 d3 d4 d5 ct lk0 lk1 hr0 ha0 K3' hb hd0 hsz gl
 unfold ddo ano at hW
 have zl:=lt_of_block hd0
 replace hsz:=hid hsz
 unfold ddv
 unfold ano at ha0 K3' hb hr0
 dsimp only at hW ha0 K3' hb hr0
 go_enter Tryz.func45,Tryz.ntmps45
 go_upto_region 1 with fail
 try rw[hW]
 clear hW hd0
 go_region
 have K4:=K3'.drew
 have hbY:=hb.drew
 rw[←heap_drew] at ha0 hr0
 rw[←hsz.out] at ha0
 generalize (W.alloc (.cells #[.int .i64 a.1,.int .i64 a.2] 53)).drew=Y at*
 clear K3' hb lk0 lk1 ct d0 d1 d2 d3 d4 d5
 obtain ⟨y0,y1,-⟩:=ano_cells (a:=a) ha0
 obtain ⟨r0,r1,rf⟩:=ano_cells (a:=(0,0)) hr0
 have rf0:=rf 0
 have rf1:=rf 1
 have hF:=ano_put (x:=(0,0)) (a:=a) hr0
 have l11:10<relab lab w.heap.size 11 (w.heap.size+1):=by rw[relab_new (by omega)];decide
 have K5:=((K4.box l11 0 (.int .i64 a.1)).box l11 1 (.int .i64 a.2)).done kg km klabs k0
 have hbF:=(hbY.setCell (p:=⟨w.heap.size+1,0,none⟩) (by simp) (.int .i64 a.1)).setCell (p:=⟨w.heap.size+1,1,none⟩) (by simp) (.int .i64 a.2)
 clear rf K4 hbY
 go_wp2_with fail
 generalize (Y.setCell ⟨w.heap.size+1,0,none⟩ (.int .i64 a.1)).setCell ⟨w.heap.size+1,1,none⟩ (.int .i64 a.2)=Z at*
 have hres:=loadVar_an hF
 exact bodyPost_ret (v:=anv a) (results_cell Tryz.results45 rfl hres) rfl ⟨rfl,_,_,_,_,_,_,K5,stq_below hbF 0⟩
theorem hear_new{K:Nat}(g m:Nat) (lab:Lab) (b:Bank) (T:List (Dd ×An)) (v:Vs) (cs:List CV) (ds:List DV) (n:Nat) (D:DataW Unit) (d:Dd) (w:World) (Kp:Keep w g m lab b T v cs ds n D) (h1:-9223372036854775808≤d.id) (h2:d.id≤9223372036854775807) (ha:heard T d.id=none) (Rd:Ready K b) (hT:T.length≤1000000):
  Calls Tryz.prog 45 #[.pointer (some ⟨g,0,none⟩),ddv d] w (Hears w g m lab (doB b d).1 (T++[(d,(doB b d).2)]) (doB b d).2):=by
 have e1:=below_alloc w (ddo d)
 have e2:=below_alloc (w.alloc (ddo d)) (ano (0,0))
 have e3:=below_alloc ((w.alloc (ddo d)).alloc (ano (0,0))) (ano (0,0))
 have hb12:=e1.trans (e2.mono (by simp))
 have hb:=hb12.trans (e3.mono (by simp;omega))
 have K1:=Kp.below hb12 (j:=11) (Or.inr (by decide))
 have K3:=Kp.below hb (j:=11) (Or.inr (by decide))
 have hd0:((w.alloc (ddo d)).alloc (ano (0,0))).heap[w.heap.size]?=some (ddo d):=(e2.block _ (by simp)).trans (heap_alloc_at _ _ _ rfl)
 have hd1:(((w.alloc (ddo d)).alloc (ano (0,0))).alloc (ano (0,0))).heap[w.heap.size]?=some (ddo d):=(e3.block _ (by simp;omega)).trans hd0
 have hr0:(((w.alloc (ddo d)).alloc (ano (0,0))).alloc (ano (0,0))).heap[w.heap.size+1]?=some (ano (0,0)):=(e3.block _ (by simp)).trans (heap_alloc_at _ _ _ (by simp))
 have hlk:=look_all K1.owns K1.tld h1 h2
 rw[ha] at hlk
 obtain⟨lk0,lk1⟩:=hlk
 simp only[Option.getD_none,Option.isSome_none] at lk0 lk1
 have kg:=lt_of_block Kp.blk
 have km:=Kp.owns.lt
 have k0:=Kp.oth.lt
 have klabs:=Kp.labs
 have klg:=Kp.lg
 have klm:=Kp.lm
 obtain⟨d0,d1,d2,d3,d4,d5⟩:=ddo_cells hd0
 obtain⟨-,-,-,-,-,-,-,-,-,-,-,-,-,-,-,-,-,-,-,ct⟩:=blk_cells K1.blk
 have hF:Few b cs ds:=few_of Rd.inv Kp.shown.csv Kp.shown.dsv Rd.days
 have gl:=lt_of_block K1.blk
 clear e1 e2 e3 hb12 K1 Kp
 unfold anv at lk0 lk1
 obtain⟨W,hW⟩:∃W,(w.alloc (ddo d)).alloc (ano (0,0))=W:=⟨_,rfl⟩
 rw[hW] at d0 d1 d2 d3 d4 d5 ct lk0 lk1 hr0 hd1 K3 hb hd0 gl
 unfold ddo ano at hW
 have zl:=lt_of_block hd0
 unfold ddv
 unfold ano at K3 hb hr0 hd1
 dsimp only at hW K3 hb hr0 hd1 lk0 lk1
 go_enter Tryz.func45,Tryz.ntmps45
 go_upto_region 1 with fail
 try rw[hW]
 clear hW hd0
 go_region
 have KY:=K3.drew
 have hbY:=hb.drew
 rw[←heap_drew] at hd1 hr0
 generalize (W.alloc (.cells #[.int .i64 0,.int .i64 0] 53)).drew=Y at*
 clear K3 hb lk0 lk1 ct d0 d1 d2 d3 d4 d5
 generalize hl1:relab lab w.heap.size 11=lab1 at*
 have hOwn:=own_any b v cs ds lab1 Y KY.shown KY.labs hF
 rw[bkv_cells] at hOwn
 simp only[bkv_cells] at hOwn
 obtain⟨dK,uK,rK⟩:=underK
 have hrange:=blk_load KY.blk
 go_upto_region 5 with (first
  |(refine wpList_load_mid rfl 43 _ rfl g 0 rfl (cellsK b v).toList dK hrange uK rK infoK ?_)
  |(go_at_call 77;refine hOwn.mono ?_;rintro e w3⟨v3,lab3,rfl,M3,T3,hb3,hx3⟩;have hone:=hid (oneG (M3.shown (lab0:=lab3) (fun _ _=>rfl)).one))
  |(refine wpList_build_g rfl _ rfl b v3 rfl ?_)
  |(refine wpList_store_mid rfl 98 _ _ rfl w3.heap.size 0 (cellsB b v3 (.map none)) rfl rfl (there_new w3 _ rfl b v3) infoG hone.out ?_))
 have hb4:=below_new (w:=w3) (.cells #[.int .i64 0,.bool false,.slice none 0 0,.slice none 0 0,.slice none 0 0,.int .i64 0,.slice none 0 0,.int .i64 0,.slice none 0 0,.int .i64 0,.int .i64 0,.slice none 0 0,.slice none 0 0,.int .i64 0,.slice none 0 0,.slice none 0 0,.slice none 0 0,.slice none 0 0,.slice none 0 0,.map none] 98) (cellsB b v3 (.map none)).toList
 have blk4:=blk_new (w:=w3) (b:=b) (v:=v3) (cs:=#[.int .i64 0,.bool false,.slice none 0 0,.slice none 0 0,.slice none 0 0,.int .i64 0,.slice none 0 0,.int .i64 0,.slice none 0 0,.int .i64 0,.int .i64 0,.slice none 0 0,.slice none 0 0,.int .i64 0,.slice none 0 0,.slice none 0 0,.slice none 0 0,.slice none 0 0,.slice none 0 0,.map none]) rfl
 generalize (w3.alloc (.cells #[.int .i64 0,.bool false,.slice none 0 0,.slice none 0 0,.slice none 0 0,.int .i64 0,.slice none 0 0,.int .i64 0,.slice none 0 0,.int .i64 0,.int .i64 0,.slice none 0 0,.slice none 0 0,.int .i64 0,.slice none 0 0,.slice none 0 0,.slice none 0 0,.slice none 0 0,.slice none 0 0,.map none] 98)).setCells w3.heap.size 0 (cellsB b v3 (.map none)).toList=Y4 at hb4 blk4⊢
 have G4:=own_goes M3 T3 hb4 blk4
 have hbY4:Below Y.heap.size Y Y4:=hb3.trans (hb4.mono hb3.size)
 have O4:=KY.oth.keep (hbY4.block 0 KY.oth.lt)
 have hx4:∀k,k<Y.heap.size→relab lab3 w3.heap.size 1 k=lab1 k:=fun k hk=>by rw[relab_old (Nat.lt_of_lt_of_le hk hb3.size)];exact hx3 k hk
 have l40:relab lab3 w3.heap.size 1 0=0:=by rw[hx4 0 KY.oth.lt];exact KY.l0
 have hd4:Y4.heap[w.heap.size]?=some (ddo d):=(hbY4.block _ (lt_of_block hd1)).trans hd1
 obtain⟨d0,d1,d2,d3,d4,d5⟩:=ddo_cells hd4
 have hDo:=gdo w3.heap.size Y.heap.size _ b (.map none) d Y4 G4 Rd O4 l40
 have hRef:=doB_refused b d
 have hi4:∀k,1≤relab lab3 w3.heap.size 1 k→relab lab3 w3.heap.size 1 k≤8→Y.heap.size≤k:=by
  obtain⟨v4,cs4,ds4,H4,-⟩:=G4
  exact H4.mem.hi
 have hlo4:Y.heap.size≤Y4.heap.size:=hbY4.size
 unfold DoneA ddv anv at hDo
 generalize doB b d=R at*
 clear G4 M3 T3 hb4 blk4 hone hrange hOwn hb3 O4 l40 hd4
 generalize relab lab3 w3.heap.size 1=lab4 at*
 go_upto_region 6 with (go_at_call 78;refine hDo.mono ?_;rintro e w5⟨rfl,lab5,S5,g5⟩)
 have hb5:Below Y.heap.size Y4 w5:=S5.below hlo4 hi4
 have hb6:=below_alloc w5 (.cells #[.int .i64 R.2.1,.int .i64 R.2.2] 53)
 have hbY6:Below Y.heap.size Y (w5.alloc (.cells #[.int .i64 R.2.1,.int .i64 R.2.2] 53)):=(hbY4.trans hb5).trans (hb6.mono (Nat.le_trans hlo4 S5.size))
 have ha6:(w5.alloc (.cells #[.int .i64 R.2.1,.int .i64 R.2.2] 53)).heap[w5.heap.size]?=some (ano R.2):=heap_alloc_at _ _ _ rfl
 have S6:R.2.1=0→∃v' cs' ds',Shown (w5.alloc (.cells #[.int .i64 R.2.1,.int .i64 R.2.2] 53)) (relab lab1 Y.heap.size 0) R.1 v' cs' ds'∧(w5.alloc (.cells #[.int .i64 R.2.1,.int .i64 R.2.2] 53)).heap[w3.heap.size]?=some (blkB R.1 v' (.map none)):=fun h0=>by
  obtain⟨v',cs',ds',H5⟩:=g5 h0
  refine⟨v',cs',ds',?_,(hb6.block _ (lt_of_block H5.blk)).trans H5.blk⟩
  have sh:=H5.mem.shown (lab0:=lab1) (fun k hk=>(S5.ext k (Nat.lt_of_lt_of_le hk hlo4)).trans (hx4 k hk))
  exact sh.go hb6.size (fun _ _=>rfl) fun k hk _=>hb6.block k hk
 have zge:w.heap.size≤w5.heap.size:=Nat.le_trans (Nat.le_trans hbY.size hlo4) S5.size
 generalize w5.alloc (.cells #[.int .i64 R.2.1,.int .i64 R.2.2] 53)=Y6 at*
 generalize w5.heap.size=z8 at*
 have K6:=KY.below hbY6 (j:=0) (Or.inl rfl)
 have hd6:Y6.heap[w.heap.size]?=some (ddo d):=(hbY6.block _ (lt_of_block hd1)).trans hd1
 have hr6:Y6.heap[w.heap.size+1]?=some (ano (0,0)):=(hbY6.block _ (lt_of_block hr0)).trans hr0
 have F6:Fm w Y6 g m:=(fm_below hbY g m).below (hbY6.mono hbY.size)
 have zlY:=lt_of_block hr0
 have l11:10<relab lab1 Y.heap.size 0 (w.heap.size +1):=by rw[relab_old zlY,←hl1,relab_new (by omega)];decide
 have fin:∀{Z:World}{b':Bank}{T':List (Dd ×An)}{v':Vs}{cs':List CV}{ds':List DV}{n':Nat}{D':DataW Unit},Keep Z g m (relab lab1 Y.heap.size 0) b' T' v' cs' ds' n' D'→Keep Z g m (relab lab w.heap.size 0) b' T' v' cs' ds' n' D':=fun Kz=>Kz.relab (fun k hk=>by
   by_cases q:k<w.heap.size
   ·rw[relab_old (Nat.lt_of_lt_of_le q hbY.size),←hl1,relab_old q] at hk
    rw[relab_old q];exact hk
   ·exact relab_new (by omega)) (by rw[relab_old kg];exact klg) (by rw[relab_old km];exact klm) (fun k=>by
   by_cases q:k<w.heap.size
   ·rw[relab_old q];exact klabs k
   ·rw[relab_new (by omega)];exact Or.inl rfl)
 generalize relab lab1 Y.heap.size 0=lab6 at*
 have zg:w.heap.size≠g:=by omega
 have zg1:w.heap.size+1≠g:=by omega
 have zg8:z8≠g:=by omega
 have zm:w.heap.size≠m:=by omega
 have zm1:w.heap.size+1≠m:=by omega
 have zm8:z8≠m:=by omega
 clear hb5 hb6 hbY6 hbY4 hbY KY S5 g5 hDo hd1 hr0 d0 d1 d2 d3 d4 d5 hx3 hx4 hi4 hlo4 zlY hl1 Rd hF zl gl
 obtain⟨q0,q1,-⟩:=ano_cells ha6
 obtain⟨d0,d1,d2,d3,d4,d5⟩:=ddo_cells hd6
 by_cases he:R.2.1=0
 ·have he':(R.2.1==0)=true:=by simpa using he
  obtain⟨v',cs',ds',SH,bl⟩:=S6 he
  have hrange:=blk_load bl
  have hthere:=blk_there (b':=R.1) (v':=v') K6.blk
  have hone:=hid SH.one
  have K7:=K6.put SH
  have F7:=F6.put (cellsK R.1 v').toList
  have hd7:(putAll Y6 g 0 (cellsK R.1 v').toList).heap[w.heap.size]?=some (ddo d):=(putAll_other _ _ _ _ _ zg).trans hd6
  have hr7:(putAll Y6 g 0 (cellsK R.1 v').toList).heap[w.heap.size+1]?=some (ano (0,0)):=(putAll_other _ _ _ _ _ zg1).trans hr6
  have ha7:(putAll Y6 g 0 (cellsK R.1 v').toList).heap[z8]?=some (ano R.2):=(putAll_other _ _ _ _ _ zg8).trans ha6
  clear S6 hRef he
  rw[←putAll_cells] at K7 F7 hd7 hr7 ha7
  clear K6 F6 hd6 hr6 ha6 SH bl
  go_upto_region 8 with (first
   |(refine wpList_load_mid rfl 43 _ rfl w3.heap.size 0 rfl (cellsK R.1 v').toList dK hrange uK rK infoK ?_)
   |(refine wpList_store_mid rfl 43 _ _ rfl g 0 (cellsK R.1 v') rfl rfl hthere infoK hone.out ?_))
  generalize Y6.setCells g 0 (cellsK R.1 v').toList=Y7 at*
  clear hrange hthere hone q0 q1 d0 d1 d2 d3 d4 d5
  obtain⟨q0,q1,-⟩:=ano_cells ha7
  obtain⟨d0,d1,d2,d3,d4,d5⟩:=ddo_cells hd7
  by_cases hid0:d.id=0
  ·have hi0:(d.id !=0)=false:=by simpa using hid0
   have K8:=K7.log d R.2 (Or.inl hid0)
   clear K7
   obtain⟨q0,q1,-⟩:=ano_cells ha7
   obtain⟨r0,r1,rf⟩:=ano_cells hr7
   have rf0:=rf 0
   have rf1:=rf 1
   have hF:=ano_put (a:=R.2) hr7
   have K9:=fin ((K8.box l11 0 (.int .i64 R.2.1)).box l11 1 (.int .i64 R.2.2))
   have F9:=F7.below ((Below.refl w.heap.size _).setCell (p:=⟨w.heap.size+1,0,none⟩) (by simp) (.int .i64 R.2.1))|>.below ((Below.refl w.heap.size _).setCell (p:=⟨w.heap.size+1,1,none⟩) (by simp) (.int .i64 R.2.2))
   clear rf fin l11 K8 F7 hr7 ha7
   go_wp2_with fail
   generalize (Y7.setCell ⟨w.heap.size+1,0,none⟩ (.int .i64 R.2.1)).setCell ⟨w.heap.size+1,1,none⟩ (.int .i64 R.2.2)=Z at*
   have hres:=loadVar_an hF
   exact bodyPost_ret (v:=anv R.2) (results_cell Tryz.results45 rfl hres) rfl ⟨rfl,_,_,_,_,_,_,K9,F9.stq klg klm⟩
  ·have hi0:(d.id !=0)=true:=by simpa using hid0
   have htn:told d.id T=none:=by unfold heard at ha;rw[if_neg hid0] at ha;exact ha
   obtain⟨w8,hup,O8,hg8,hs8⟩:=told_put K7.owns.drew (by have :=K7.few;omega) h1 h2 R.2
   have K8:=K7.drew.tell hg8 O8 (K7.tld.put d R.2 hid0 htn) (by simp)
   have F8:=(F7.below ((Below.refl _ _).drew)).map hg8
   have hd8:w8.heap[w.heap.size]?=some (ddo d):=(hg8.block _ (lt_of_block hd7) (fun e=>zm (by injection e))).trans hd7
   have hr8:w8.heap[w.heap.size+1]?=some (ano (0,0)):=(hg8.block _ (lt_of_block hr7) (fun e=>zm1 (by injection e))).trans hr7
   have ha8:w8.heap[z8]?=some (ano R.2):=(hg8.block _ (lt_of_block ha7) (fun e=>zm8 (by injection e))).trans ha7
   obtain⟨-,-,-,-,-,-,-,-,-,-,-,-,-,-,-,-,-,-,-,ct⟩:=blk_cells K7.blk
   have gl:=lt_of_block K7.blk
   unfold anv at hup
   clear O8 hg8 hs8 htn K7 F7
   go_upto_region 9 with fail
   go_region
   clear ct hup
   clear q0 q1 d0 d1 d2 d3 d4 d5 hd7 hr7 ha7
   obtain⟨q0,q1,-⟩:=ano_cells ha8
   obtain⟨r0,r1,rf⟩:=ano_cells hr8
   have rf0:=rf 0
   have rf1:=rf 1
   have hF:=ano_put (a:=R.2) hr8
   have K9:=fin ((K8.box l11 0 (.int .i64 R.2.1)).box l11 1 (.int .i64 R.2.2))
   have F9:=F8.below ((Below.refl w.heap.size _).setCell (p:=⟨w.heap.size+1,0,none⟩) (by simp) (.int .i64 R.2.1))|>.below ((Below.refl w.heap.size _).setCell (p:=⟨w.heap.size+1,1,none⟩) (by simp) (.int .i64 R.2.2))
   clear rf fin l11 K8 F8 hr8 ha8
   go_wp2_with fail
   generalize (w8.setCell ⟨w.heap.size+1,0,none⟩ (.int .i64 R.2.1)).setCell ⟨w.heap.size+1,1,none⟩ (.int .i64 R.2.2)=Z at*
   have hres:=loadVar_an hF
   exact bodyPost_ret (v:=anv R.2) (results_cell Tryz.results45 rfl hres) rfl ⟨rfl,_,_,_,_,_,_,K9,F9.stq klg klm⟩
 ·have he':(R.2.1==0)=false:=by simpa using he
  have hRb:=hRef he
  have K7:Keep Y6 g m lab6 R.1 T v cs ds n D:=by rw[hRb];exact K6
  replace hRb:=hid hRb
  clear S6 hRef he K6
  by_cases hid0:d.id=0
  ·have hi0:(d.id !=0)=false:=by simpa using hid0
   have K8:=K7.log d R.2 (Or.inl hid0)
   clear K7
   obtain⟨q0,q1,-⟩:=ano_cells ha6
   obtain⟨r0,r1,rf⟩:=ano_cells hr6
   have rf0:=rf 0
   have rf1:=rf 1
   have hF:=ano_put (a:=R.2) hr6
   have K9:=fin ((K8.box l11 0 (.int .i64 R.2.1)).box l11 1 (.int .i64 R.2.2))
   have F9:=F6.below ((Below.refl w.heap.size _).setCell (p:=⟨w.heap.size+1,0,none⟩) (by simp) (.int .i64 R.2.1))|>.below ((Below.refl w.heap.size _).setCell (p:=⟨w.heap.size+1,1,none⟩) (by simp) (.int .i64 R.2.2))
   clear rf fin l11 K8 F6 hr6 ha6
   go_wp2_with fail
   generalize (Y6.setCell ⟨w.heap.size+1,0,none⟩ (.int .i64 R.2.1)).setCell ⟨w.heap.size+1,1,none⟩ (.int .i64 R.2.2)=Z at*
   have hres:=loadVar_an hF
   exact bodyPost_ret (v:=anv R.2) (results_cell Tryz.results45 rfl hres) rfl ⟨rfl,_,_,_,_,_,_,K9,F9.stq klg klm⟩
  ·have hi0:(d.id !=0)=true:=by simpa using hid0
   have htn:told d.id T=none:=by unfold heard at ha;rw[if_neg hid0] at ha;exact ha
   obtain⟨w8,hup,O8,hg8,hs8⟩:=told_put K7.owns.drew (by have :=K7.few;omega) h1 h2 R.2
   have K8:=K7.drew.tell hg8 O8 (K7.tld.put d R.2 hid0 htn) (by simp)
   have F8:=(F6.below ((Below.refl _ _).drew)).map hg8
   have hd8:w8.heap[w.heap.size]?=some (ddo d):=(hg8.block _ (lt_of_block hd6) (fun e=>zm (by injection e))).trans hd6
   have hr8:w8.heap[w.heap.size+1]?=some (ano (0,0)):=(hg8.block _ (lt_of_block hr6) (fun e=>zm1 (by injection e))).trans hr6
   have ha8:w8.heap[z8]?=some (ano R.2):=(hg8.block _ (lt_of_block ha6) (fun e=>zm8 (by injection e))).trans ha6
   obtain⟨-,-,-,-,-,-,-,-,-,-,-,-,-,-,-,-,-,-,-,ct⟩:=blk_cells K7.blk
   have gl:=lt_of_block K7.blk
   unfold anv at hup
   clear O8 hg8 hs8 htn K7 F6
   go_upto_region 9 with fail
   go_region
   clear ct hup
   clear q0 q1 d0 d1 d2 d3 d4 d5 hd6 hr6 ha6
   obtain⟨q0,q1,-⟩:=ano_cells ha8
   obtain⟨r0,r1,rf⟩:=ano_cells hr8
   have rf0:=rf 0
   have rf1:=rf 1
   have hF:=ano_put (a:=R.2) hr8
   have K9:=fin ((K8.box l11 0 (.int .i64 R.2.1)).box l11 1 (.int .i64 R.2.2))
   have F9:=F8.below ((Below.refl w.heap.size _).setCell (p:=⟨w.heap.size+1,0,none⟩) (by simp) (.int .i64 R.2.1))|>.below ((Below.refl w.heap.size _).setCell (p:=⟨w.heap.size+1,1,none⟩) (by simp) (.int .i64 R.2.2))
   clear rf fin l11 K8 F8 hr8 ha8
   go_wp2_with fail
   generalize (w8.setCell ⟨w.heap.size+1,0,none⟩ (.int .i64 R.2.1)).setCell ⟨w.heap.size+1,1,none⟩ (.int .i64 R.2.2)=Z at*
   have hres:=loadVar_an hF
   exact bodyPost_ret (v:=anv R.2) (results_cell Tryz.results45 rfl hres) rfl ⟨rfl,_,_,_,_,_,_,K9,F9.stq klg klm⟩
end Go.Proofs.YtofcnebekmjdoaaGreatDoor.Bn
