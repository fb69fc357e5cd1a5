import Derived.Lay
import Derived.LaidMore
import Derived.Test.YtofcnebekmjdoaaGreatDoorRows
import Derived.Test.YtofcnebekmjdoaaGreatDoorKbq
import Derived.Test.YtofcnebekmjdoaaGreatDoorKbs
set_option maxHeartbeats 4000000
set_option maxRecDepth 100000
namespace Go.Proofs.YtofcnebekmjdoaaGreatDoor.Bn
open Go.RowKit Go.Proofs.YtofcnebekmjdoaaGreatDoor.Gn Go.Maps
def kAn:Kind An where
 cells:=fun a=>[.int .i64 a.1,.int .i64 a.2]
 size:=2
 len:=fun _=>rfl
 one:=fun x u hu=>by simp at hu;rcases hu with rfl|rfl<;>rfl
 pos:=by decide
def kDd:Kind Dd where
 cells:=fun d=>[.int .i64 d.id,.int .i64 d.kind,.int .i64 d.n,.int .i64 d.shop,.int .i64 d.mv,.int .i64 d.sum]
 size:=6
 len:=fun _=>rfl
 one:=fun x u hu=>by simp at hu;rcases hu with rfl|rfl|rfl|rfl|rfl|rfl<;>rfl
 pos:=by decide
theorem infoAn':(Tryz.prog.info? 53).map (fun i=>(i.zero,i.size,i.bytes))=some (some (.agg #[.int .i64 0,.int .i64 0]),2,16):=by kernel_rfl
theorem elemAn:Elem Tryz.prog kAn 44 53 16:=by
 obtain ⟨i,h1,h2,h3,h4⟩:=info_parts infoAn'
 exact ⟨Tryz.underlying44,i,_,h1,h2,h3,h4,rfl⟩
def zB:Bank:=⟨0,false,[],[],[],fun _=>⟨0,[]⟩,fun _=>0,fun _=>[],⟨0,[],[]⟩,[],[],[]⟩
def zV:Vs:=⟨.slice none 0 0,.slice none 0 0,.slice none 0 0,fun _=>.slice none 0 0,fun _=>.slice none 0 0,.slice none 0 0,.slice none 0 0,.slice none 0 0,.slice none 0 0,.slice none 0 0⟩
theorem zB_shown (w:World) (lab:Lab):Shown w lab zB zV [] []:=
 ⟨ap_nil _ _ _ _,rfl,(fun _ h=>by cases h),ap_nil _ _ _ _,ap_nil _ _ _ _,fun _=>ap_nil _ _ _ _,fun _=>ap_nil _ _ _ _,ap_nil _ _ _ _,ap_nil _ _ _ _,ap_nil _ _ _ _,ap_nil _ _ _ _,rfl,(fun _ h=>by cases h),ap_nil _ _ _ _⟩
def fl (n:Nat):Lab:=fun k=>if k=0∨n≤k then 0 else 12
theorem fl_of {n:Nat}{lab:Lab} (hlo:∀j,j<n→(j =0∧lab j=0)∨lab j=12){k:Nat} (hk:lab k=0):fl n k=0:=by
 unfold fl
 split
 ·rfl
 ·have :=hlo k (by omega)
  omega
theorem ap_fresh {α:Type}{K:Kind α}{e:TypeId}{lab:Lab}{base:Nat}{w:World}{v:Value}{L:List α}{j:Nat}(h:Tp K e lab base w v L j):Ap K (fl base) w v L 0:=by
 have hb:=h.row.block_lt
 obtain ⟨a,cap,rfl,hl,-⟩:=h.row.lies
 refine ⟨a,cap,rfl,hl,fun ad ha _=>?_⟩
 subst ha
 unfold fl
 rw[if_pos (Or.inr (hb ad.block rfl).1)]
def playR (ps:List Pa) (shops cap:Int) (l:List Dd):Bank×List An×(Int×Int):=
 if (setErr ps shops cap).1≠0 then (zB,[],setErr ps shops cap) else if 150<l.length then (zB,[],(5,0))
 else ((playL (startB ps shops.toNat cap) l).1,(playL (startB ps shops.toNat cap) l).2.map (·.2),(0,0))
def Plays (w:World) (r:Bank×List An×(Int ×Int)) (e:Ending) (w':World):Prop:=∃v cs ds va,e=.returned (.tuple #[bkv r.1 v,va,Dy.fv r.2.2])∧Shows w' r.1 v cs ds∧Ap kAn (fun _=>0) w' va r.2.1 0∧Below w.heap.size w w'
def PlaysN (w:World) (r:Bank×List An×(Int×Int)) (e:Ending) (w':World):Prop:=∃v cs ds va,e=.returned (.tuple #[bkv r.1 v,va,Dy.fv r.2.2])∧Shown w' (fl w.heap.size) r.1 v cs ds∧Ap kAn (fl w.heap.size) w' va r.2.1 0∧Below w.heap.size w w'
def FitD (d:Dd):Prop:=-9223372036854775808≤d.id∧d.id≤9223372036854775807
theorem play1_told {b:Bank} {T:List (Dd×An)} {d:Dd} {a:An}(h:heard T d.id=some a):play1 (b,T) d=(b,T++[(d,a)]):=by
 unfold heard at h
 unfold play1
 dsimp only
 rw[h]
theorem play1_new {b:Bank}{T:List (Dd ×An)}{d:Dd}(h:heard T d.id=none):play1 (b,T) d=((doB b d).1,T++[(d,(doB b d).2)]):=by
 unfold heard at h
 unfold play1
 dsimp only
 rw[h]
theorem ghear {K:Nat}(g m:Nat) (lab:Lab) (b:Bank) (T:List (Dd×An)) (v:Vs) (cs:List CV) (ds:List DV) (n:Nat) (D:DataW Unit) (d:Dd) (w:World) (Kp:Keep w g m lab b T v cs ds n D) (hd:FitD d) (Rd:Ready K b) (hT:T.length≤1000000):
  Calls Tryz.prog 45 #[.pointer (some ⟨g,0,none⟩),ddv d] w fun e w'=>∃a,(play1 (b,T) d).2=T++[(d,a)]∧Hears w g m lab (play1 (b,T) d).1 (play1 (b,T) d).2 a e w':=by
 cases hh:heard T d.id with
 |some a=>
  rw[play1_told hh]
  exact (hear_told g m lab b T v cs ds n D d a w Kp hd.1 hd.2 hh).mono fun e w' h=>⟨a,rfl,h⟩
 |none=>
  rw[play1_new hh]
  exact (hear_new g m lab b T v cs ds n D d w Kp hd.1 hd.2 hh Rd hT).mono fun e w' h=>⟨_,rfl,h⟩
theorem play_days {b:Bank} (h:b.days=[]) (l:List Dd):∀k,k≤l.length→(playL b (l.take k)).1.days.length≤k:=by
 intro k
 induction k with
 |zero=>intro _;show b.days.length≤0;rw[h];simp
 |succ k ih=>
  intro hk
  rw[take_snoc l (by omega),playL_snoc]
  have:= play1_days (playL b (l.take k)) (l.getD k zD)
  have:= ih (by omega)
  omega
theorem play_len (b:Bank) (l:List Dd):(playL b l).2.length=l.length:=by
 have :=congrArg List.length (playL_log b l)
 simpa using this
theorem play_ready {ps:List Pa} {n:Nat} {cap:Int} (h1:ps.length≤8) (h2:n≤8) (h3:0≤cap∧cap≤1000000) (h4:∀p∈ps,wrongP p=0) (l:List Dd) (hl:l.length≤150) (k:Nat) (hk:k≤l.length):Ready k (playL (startB ps n cap) (l.take k)).1:=by
 have I:=start_inv (cap:=cap) h1 h2 (by unfold St.Lim;omega) h4
 have B:Bound 0 (startB ps n cap):=fun acc _=>by
  show-(1000000 *((0 :Nat):Int))≤Bk.getE [] acc∧Bk.getE [] acc≤_
  have: Bk.getE [] acc=0:=rfl
  rw[this];omega
 have hb:=play_bound I B (l.take k)
 have hlen:(l.take k).length=k:=by simp;omega
 rw[hlen] at hb
 exact ⟨play_inv I _,hb,by omega,by have :=play_days (b:=startB ps n cap) rfl l k hk;omega⟩
theorem Keep.only {w w':World}{g m:Nat}{lab:Lab}{b:Bank}{T:List (Dd ×An)}{v:Vs}{cs:List CV}{ds:List DV}{n:Nat}{D:DataW Unit}(K:Keep w g m lab b T v cs ds n D) (ho:Only lab 11 w w'):Keep w' g m (Bn.relab lab w.heap.size 11) b T v cs ds n D:=by
 have kg:=lt_of_block K.blk
 have km:=K.owns.lt
 have k0:=K.oth.lt
 refine ⟨K.shown.go ho.size (fun k hk=>relab_old hk) fun k hk h0=>ho.block k hk (Or.inr (by rw[h0];decide)),(ho.block g kg (Or.inr (by rw[K.lg];decide))).trans K.blk,by rw[relab_old kg];exact K.lg,owns_keep' K.owns (ho.block m km (Or.inr (by rw[K.lm];decide))),K.few,K.tld,by rw[relab_old km];exact K.lm,fun k=>?_,K.oth.keep (ho.block 0 k0 (Or.inr (by rw[K.l0];decide))),by rw[relab_old k0];exact K.l0⟩
 by_cases hk:k<w.heap.size
 ·rw[relab_old hk];exact K.labs k
 ·rw[relab_new (by omega)];exact Or.inr (by decide)
theorem Tp.stq {α:Type} {K:Kind α} {e:TypeId} {lab lab':Lab} {base:Nat} {w w':World} {v:Value} {L:List α} {j:Nat}(h:Tp K e lab base w v L j) (hs:Stq w lab w' lab') (hj:10<j):Tp K e lab' base w' v L j:=
 ⟨h.row.keep hs.size fun k hk hlt=>hs.block k hlt (Or.inr (by rw[h.lab k hk];exact hj)),fun hn=>owns_keep (h.own hn) fun k hk hlt=>hs.block k hlt (Or.inr (by rw[h.lab k hk];exact hj)),fun k hk=>by rw[hs.ext k (h.row.block_lt k hk).2];exact h.lab k hk⟩
structure Bx (w:World) (lab:Lab) (z:Nat) (o:Obj):Prop where
 ob:w.heap[z]?=some o
 ol:lab z=12
theorem Bx.stq {w w':World}{lab lab':Lab}{z:Nat}{o:Obj}(h:Bx w lab z o) (hs:Stq w lab w' lab'):Bx w' lab' z o:=
 have k:=lt_of_block h.ob
 ⟨(hs.block z k (Or.inr (by rw[h.ol];decide))).trans h.ob,(hs.ext z k).trans h.ol⟩
theorem Bx.only {w w':World}{lab:Lab}{z j:Nat}{o:Obj} (h:Bx w lab z o) (ho:Only lab j w w') (hj:j=0∨j≠12):Bx w' (Bn.relab lab w.heap.size j) z o:=
 have k:=lt_of_block h.ob
 ⟨(ho.block z k (by rw [h.ol];omega)).trans h.ob,by rw [relab_old k];exact h.ol⟩
theorem built_p (b:Bank) (v:Vs) (m:Nat):Tryz.prog.built 98 [(0,.agg (cellsK b v)),(1,.map (some m))]=some (cellsB b v (.map (some m))):=by kernel_rfl
theorem wpList_build_p{w:World}{ops:Array Oper}{rest:List Oper}{o:Oper}{a:Act}{Q:Exit→Act→World→Prop}(hg:o.guard=none) (x y:Operand) (ho:o.op=.build 98 #[(0,x),(1,y)]) (b:Bank) (v:Vs) (m:Nat) (hx:a.eval x=.agg (cellsK b v)) (hy:a.eval y=.map (some m)) (h:wpList Tryz.prog ops Q rest (a.put o.dst (.agg (cellsB b v (.map (some m))))) w):wpList Tryz.prog ops Q (o ::rest) a w:=by
 have e:(Tryz.prog.built 98 ((#[(0,x),(1,y)]:Array (Nat ×Operand)).map fun (i,x)=>(i,a.eval x)).toList)=some (cellsB b v (.map (some m))):=by
  have: ((#[(0,x),(1,y)]:Array (Nat ×Operand)).map fun (i,x)=>(i,a.eval x)).toList=[(0,.agg (cellsK b v)),(1,.map (some m))]:=by simp[hx,hy]
  rw[this]
  exact built_p b v m
 refine wpList_build hg 98 #[(0,x),(1,y)] ho (by rw[e];rfl) ?_
 rw[e]
 exact h
theorem oneP {b:Bank}{v:Vs}{m:Nat}(h:(cellsK b v).all (·.oneCell')=true):(cellsB b v (.map (some m))).all (·.oneCell')=true:=by
 have e:(cellsB b v (.map (some m))).toList=(cellsK b v).toList++[.map (some m)]:=rfl
 rw[←Array.all_toList,e,List.all_append]
 rw[←Array.all_toList] at h
 rw[h]
 rfl
theorem zero_one:(cellsK zB zV).all (·.oneCell')=true:=by
 rw[←Array.all_toList]
 rfl
theorem built_z:Tryz.prog.built 43 []=some (cellsK zB zV):=by kernel_rfl
theorem wpList_build_z {w:World}{ops:Array Oper}{rest:List Oper}{o:Oper}{a:Act}{Q:Exit→Act→World→Prop} (hg:o.guard=none) (ho:o.op=.build 43 #[]){b0:Bank}{v0:Vs} (hz:Tryz.prog.built 43 []=some (cellsK b0 v0)) (h:wpList Tryz.prog ops Q rest (a.put o.dst (.agg (cellsK b0 v0))) w):wpList Tryz.prog ops Q (o ::rest) a w:=by
 have e:(Tryz.prog.built 43 ((#[]:Array (Nat ×Operand)).map fun (i,x)=>(i,a.eval x)).toList)=some (cellsK b0 v0):=by
  have h0:((#[]:Array (Nat ×Operand)).map fun (i,x)=>(i,a.eval x)).toList=[]:=by simp
  rw [h0]
  exact hz
 refine wpList_build hg 43 #[] ho (by rw [e];rfl) ?_
 rw [e]
 exact h
open Go.ChangeShapes Go.WideShapes Go.ChangeAt Go.RowKit Go.Proofs.YtofcnebekmjdoaaGreatDoor.Gn
theorem three {l:List Value}(h:l.length=3):∃a b c,l=[a,b,c]:=by
 match l,h with
 |[a,b,c],_=>exact ⟨a,b,c,rfl⟩
theorem oth_laid{W:World}(h:laidMetH Tryz.prog [("paystone/bank.other",Rows.laid_paystone_bank_other)] W):Oth W:=by
 rw[MakeChecks.laidMetH_plain _ _ _ (by kernel_rfl)] at h
 obtain ⟨ps,⟨g,t,cs,fuel,p,q,hg,ht,hv,hd,_,_⟩,_,_⟩:=h
 obtain rfl:=Option.some.inj ((show Tryz.prog.globalNamed "paystone/bank.other"=some 0 by kernel_rfl).symm.trans hg)
 obtain rfl:=Option.some.inj ((show (Tryz.prog.globals[0]?).map (·.type)=some 33 by kernel_rfl).symm.trans ht)
 obtain ⟨xs,m,_,ex,_,hl,hel⟩:=DataW.trod_array Tryz.underlying33 hd
 have e3:(xs.map (·.1))=[.lit (.int .i64 1),.lit (.int .i64 0)]:=(DataW.agg.inj (Prod.mk.inj ex).1).symm
 have one:∀(r:Nat) (k:Int),r<2→([.lit (.int .i64 1),.lit (.int .i64 0)]:List (DataW Unit))[r]?=some (.lit (.int .i64 k))→W.cell? ⟨0,r,none⟩=some (.int .i64 k):=fun r k hr hk=>by
  have hE:=hel r hr
  rw[cellsInt,Nat.mul_one,List.getElem?_eq_getElem (by omega)] at hE
  obtain ⟨z,e1,e2,_⟩:=DataW.trod_int Tryz.underlying3 hE
  have e4:(xs.map (·.1))[r]?=some (.lit (.int .i64 k)):=by rw[e3];exact hk
  rw[List.getElem?_map,List.getElem?_eq_getElem (by omega:r<xs.length),e2] at e4
  have hz:z=k:=by simpa using e4
  rw[World.var?_cell hg hv r,←hz]
  have :cs.toList[r]?=some (.int .i64 z):=by
   have h0:((cs.toList.drop r).take 1)[0]?=some (.int .i64 z):=by rw[e1];rfl
   simpa using h0
  simpa using this
 exact ⟨one 0 1 (by omega) rfl,one 1 0 (by omega) rfl⟩
theorem play_wrong (ps:List Pa) (a:Option Addr) (c:Nat) (shops cap:Int) (al:Option Addr) (cl:Nat) (l:List Dd) (w:World) (hl:Gn.Lies kPa w a c ps) (hd:Gn.Lies kDd w al cl l) (hE:(setErr ps shops cap).1≠0):
  Calls Tryz.prog 18 #[suv (.slice a ps.length c) shops cap,.slice al l.length cl] w (PlaysN w (zB,[],setErr ps shops cap)):=by
 obtain ⟨b0,hb0⟩:∃x,x=zB:=⟨_,rfl⟩
 obtain ⟨v0,hv0⟩:∃x,x=zV:=⟨_,rfl⟩
 have zobj:Hid (Obj.cells #[.int .i64 0,.bool false,.slice none 0 0,.slice none 0 0,.slice none 0 0,.int .i64 0,.slice none 0 0,.int .i64 0,.slice none 0 0,.int .i64 0,.int .i64 0,.slice none 0 0,.slice none 0 0,.int .i64 0,.slice none 0 0,.slice none 0 0,.slice none 0 0,.slice none 0 0,.slice none 0 0] 43=bko b0 v0):=hid (by rw[hb0,hv0];rfl)
 have zcel:Hid (#[.int .i64 0,.bool false,.slice none 0 0,.slice none 0 0,.slice none 0 0,.int .i64 0,.slice none 0 0,.int .i64 0,.slice none 0 0,.int .i64 0,.int .i64 0,.slice none 0 0,.slice none 0 0,.int .i64 0,.slice none 0 0,.slice none 0 0,.slice none 0 0,.slice none 0 0,.slice none 0 0]=cellsK b0 v0):=hid (by rw[hb0,hv0];rfl)
 have zone:(cellsK b0 v0).all (·.oneCell')=true:=by rw[hb0,hv0];exact zero_one
 have zsh:∀Y,Shown Y (fl w.heap.size) b0 v0 [] []:=fun Y=>by rw[hb0,hv0];exact zB_shown Y _
 have zbu:Hid (Tryz.prog.built 43 []=some (cellsK b0 v0)):=hid (by rw[hb0,hv0];exact built_z)
 rw[←hb0]
 replace hb0:=hid hb0
 clear hv0
 replace zone:=hid zone
 have hW:=fun (X :World) (h :Gn.Lies kPa X a c ps)=>swrong_any ps a c shops cap X h
 unfold suv Dy.fv at hW
 have hmx:=hd.len
 unfold maxLen at hmx
 have e1:=below_alloc w (suo (.slice a ps.length c) shops cap)
 have e2:=below_alloc (w.alloc (suo (.slice a ps.length c) shops cap)) (bko b0 v0)
 have e3:=below_alloc ((w.alloc (suo (.slice a ps.length c) shops cap)).alloc (bko b0 v0)) (fo (0,0))
 have hb:=(e1.trans (e2.mono (by simp))).trans (e3.mono (by simp;omega))
 have hs0:(((w.alloc (suo (.slice a ps.length c) shops cap)).alloc (bko b0 v0)).alloc (fo (0,0))).heap[w.heap.size]?=some (suo (.slice a ps.length c) shops cap):=(e3.block _ (by simp;omega)).trans ((e2.block _ (by simp)).trans (heap_alloc_at _ _ _ rfl))
 have hr0:(((w.alloc (suo (.slice a ps.length c) shops cap)).alloc (bko b0 v0)).alloc (fo (0,0))).heap[w.heap.size+1]?=some (bko b0 v0):=(e3.block _ (by simp)).trans (heap_alloc_at _ _ _ (by simp))
 have hf0:(((w.alloc (suo (.slice a ps.length c) shops cap)).alloc (bko b0 v0)).alloc (fo (0,0))).heap[w.heap.size+2]?=some (fo (0,0)):=heap_alloc_at _ _ _ (by simp)
 obtain ⟨W,hWd⟩:∃W,((w.alloc (suo (.slice a ps.length c) shops cap)).alloc (bko b0 v0)).alloc (fo (0,0))=W:=⟨_,rfl⟩
 rw[hWd] at hb hs0 hr0 hf0
 rw[←zobj.out] at hWd
 unfold suo fo at hWd
 dsimp only at hWd
 have hl1:=hl.below hb
 have hd1:=hd.below hb
 obtain ⟨s0,s1,s2⟩:=sul_cells hs0
 have hW1:=hW W hl1
 have zl:=lt_of_block hf0
 clear e1 e2 e3 hl hd
 unfold suv
 go_enter Tryz.func18,Tryz.ntmps18
 go_upto_region 1 with fail
 try rw[hWd]
 clear hWd
 go_upto_region 2 with (go_at_call 20;refine hW1.mono ?_;rintro e w1 ⟨rfl,hb1⟩)
 have hb2:=below_alloc w1 (.cells #[.int .i64 (setErr ps shops cap).1,.int .i64 (setErr ps shops cap).2] 47)
 have hfe:(w1.alloc (.cells #[.int .i64 (setErr ps shops cap).1,.int .i64 (setErr ps shops cap).2] 47)).heap[w1.heap.size]?=some (fo (setErr ps shops cap)):=heap_alloc_at _ _ _ rfl
 have hbX:Below W.heap.size W (w1.alloc (.cells #[.int .i64 (setErr ps shops cap).1,.int .i64 (setErr ps shops cap).2] 47)):=hb1.trans (hb2.mono hb1.size)
 generalize w1.alloc (.cells #[.int .i64 (setErr ps shops cap).1,.int .i64 (setErr ps shops cap).2] 47)=X at*
 have zfW:W.heap.size≤w1.heap.size:=hb1.size
 generalize w1.heap.size=zf at*
 clear hb1 hb2 hW hW1 s0 s1 s2
 have hs1:X.heap[w.heap.size]?=some (suo (.slice a ps.length c) shops cap):=(hbX.block _ (by omega)).trans hs0
 have hr1:X.heap[w.heap.size+1]?=some (bko b0 v0):=(hbX.block _ (by omega)).trans hr0
 have hf1:X.heap[w.heap.size+2]?=some (fo (0,0)):=(hbX.block _ zl).trans hf0
 have hbw:Below w.heap.size w X:=hb.trans (hbX.mono hb.size)
 have hl2:=hl1.below hbX
 have hd2:=hd1.below hbX
 clear hs0 hr0 hf0 hb hbX hl1 hd1
 obtain ⟨x0,x1,-,-⟩:=fo_cells hfe
 have hne:((setErr ps shops cap).1 !=0)=true:=by simpa using hE
 clear hE
 generalize setErr ps shops cap=f at*
 obtain ⟨dK,uK,rK⟩:=underK
 have zne1:zf≠w.heap.size+1:=by omega
 have zne2:zf≠w.heap.size+2:=by omega
 have g1:X.drew.heap[zf]?=some (fo f):=hfe
 have g2:X.drew.heap[w.heap.size+1]?=some (bko b0 v0):=hr1
 have g3:X.drew.heap[w.heap.size+2]?=some (fo (0,0)):=hf1
 have g4:Below w.heap.size w X.drew:=hbw.drew
 go_upto_region 3 with fail
 refine wp_region_held_drew (S:=(fun Y=>Y.heap[zf]?=some (fo f))) (by kernel_rfl) g1 (fun hS=>?_)
 generalize X.drew=Xd at*
 clear hfe hr1 hf1 hbw x0 x1 hl2 hd2 hs1
 refine tk 0 (.agg (cellsK b0 v0)) hS ?_ ?_
 ·intro w' _;go_simp;exact zcel.out
 refine tk 1 (.agg #[.int .i64 f.1,.int .i64 f.2]) hS ?_ ?_
 ·intro w' hS';obtain ⟨y0,y1,-,-⟩:=fo_cells hS';go_simp
 try simp only[Act.put]
 refine rd 2 (.cons rfl (fun K hK=>?_) .nil)
 rw[if_pos (by kernel_rfl)]
 refine wp_store_mid 43 _ _ rfl (w.heap.size +1) 0 (cellsK b0 v0) rfl rfl (bko_there g2) infoK zone.out ?_
 have hF:=bko_all (b:=b0) (v:=v0) g2
 have hfY:=(putAll_other Xd (w.heap.size+1) 0 zf (cellsK b0 v0).toList zne1).trans g1
 have hf2:=(putAll_other Xd (w.heap.size +1) 0 (w.heap.size +2) (cellsK b0 v0).toList (by omega)).trans g3
 have hbY:=(below_putAll g4 (w.heap.size +1) 0 (cellsK b0 v0).toList (Nat.le_succ _))
 rw[←putAll_cells] at hF hfY hf2 hbY
 generalize Xd.setCells (w.heap.size+1) 0 (cellsK b0 v0).toList=Y at*
 refine hK.out _ _ hfY (fun hS=>?_)
 clear hK K
 try simp only[List.getElem_toArray,List.getElem_cons_zero,List.getElem_cons_succ,Act.put]
 refine rd 3 (.cons rfl (fun K hK=>?_) .nil)
 go_simp
 refine hK.out _ _ hfY (fun hS=>?_)
 clear hK K
 try simp only[nrm,Act.put]
 refine rd 4 (.cons rfl (fun K hK=>?_) .nil)
 obtain ⟨t0,t1,t2,t3⟩:=fo_cells hf2
 go_simp
 have hF2:=fo_put (a:=f) hf2
 have hFb:((Y.setCell ⟨w.heap.size+2,0,none⟩ (.int .i64 f.1)).setCell ⟨w.heap.size+2,1,none⟩ (.int .i64 f.2)).heap[w.heap.size+1]?=some (bko b0 v0):=(heap_setCell_other _ _ _ _ (by simp)).trans ((heap_setCell_other _ _ _ _ (by simp)).trans hF)
 have hfZ:((Y.setCell ⟨w.heap.size+2,0,none⟩ (.int .i64 f.1)).setCell ⟨w.heap.size+2,1,none⟩ (.int .i64 f.2)).heap[zf]?=some (fo f):=(heap_setCell_other _ _ _ _ zne2).trans ((heap_setCell_other _ _ _ _ zne2).trans hfY)
 have hbZ:=(hbY.setCell (p:=⟨w.heap.size+2,0,none⟩) (by simp) (.int .i64 f.1)).setCell (p:=⟨w.heap.size+2,1,none⟩) (by simp) (.int .i64 f.2)
 generalize (Y.setCell ⟨w.heap.size+2,0,none⟩ (.int .i64 f.1)).setCell ⟨w.heap.size+2,1,none⟩ (.int .i64 f.2)=Z at*
 refine hK.out _ _ hfZ (fun hS=>?_)
 clear hK K
 try simp only[List.getElem_toArray,List.getElem_cons_zero,List.getElem_cons_succ,Act.put]
 refine wpAnyH_done (by kernel_rfl) ?_ _
 go_wp2_with fail
 exact bodyPost_ret (v:=.tuple #[bkv b0 v0,.slice none 0 0,Dy.fv f]) (results_csc Tryz.results18 rfl rfl rfl (loadVar_bank hFb) (loadVar_f hF2)) rfl ⟨v0,[],[],.slice none 0 0,rfl,zsh Z,ap_nil _ _ _ _,hbZ⟩
theorem play_many (ps:List Pa) (a:Option Addr) (c:Nat) (shops cap:Int) (al:Option Addr) (cl:Nat) (l:List Dd) (w:World) (hl:Gn.Lies kPa w a c ps) (hd:Gn.Lies kDd w al cl l) (hE:(setErr ps shops cap).1=0) (hl150:150<l.length):
  Calls Tryz.prog 18 #[suv (.slice a ps.length c) shops cap,.slice al l.length cl] w (PlaysN w (zB,[],(5,0))):=by
 replace hE:=hid hE
 obtain ⟨b0,hb0⟩:∃x,x=zB:=⟨_,rfl⟩
 obtain ⟨v0,hv0⟩:∃x,x=zV:=⟨_,rfl⟩
 have zobj:Hid (Obj.cells #[.int .i64 0,.bool false,.slice none 0 0,.slice none 0 0,.slice none 0 0,.int .i64 0,.slice none 0 0,.int .i64 0,.slice none 0 0,.int .i64 0,.int .i64 0,.slice none 0 0,.slice none 0 0,.int .i64 0,.slice none 0 0,.slice none 0 0,.slice none 0 0,.slice none 0 0,.slice none 0 0] 43=bko b0 v0):=hid (by rw[hb0,hv0];rfl)
 have zcel:Hid (#[.int .i64 0,.bool false,.slice none 0 0,.slice none 0 0,.slice none 0 0,.int .i64 0,.slice none 0 0,.int .i64 0,.slice none 0 0,.int .i64 0,.int .i64 0,.slice none 0 0,.slice none 0 0,.int .i64 0,.slice none 0 0,.slice none 0 0,.slice none 0 0,.slice none 0 0,.slice none 0 0]=cellsK b0 v0):=hid (by rw[hb0,hv0];rfl)
 have zone:(cellsK b0 v0).all (·.oneCell')=true:=by rw[hb0,hv0];exact zero_one
 have zsh:∀Y,Shown Y (fl w.heap.size) b0 v0 [] []:=fun Y=>by rw[hb0,hv0];exact zB_shown Y _
 have zbu:Hid (Tryz.prog.built 43 []=some (cellsK b0 v0)):=hid (by rw[hb0,hv0];exact built_z)
 rw[←hb0]
 replace hb0:=hid hb0
 clear hv0
 replace zone:=hid zone
 have hW:=fun (X :World) (h :Gn.Lies kPa X a c ps)=>swrong_any ps a c shops cap X h
 unfold suv Dy.fv at hW
 have hmx:=hd.len
 unfold maxLen at hmx
 have e1:=below_alloc w (suo (.slice a ps.length c) shops cap)
 have e2:=below_alloc (w.alloc (suo (.slice a ps.length c) shops cap)) (bko b0 v0)
 have e3:=below_alloc ((w.alloc (suo (.slice a ps.length c) shops cap)).alloc (bko b0 v0)) (fo (0,0))
 have hb:=(e1.trans (e2.mono (by simp))).trans (e3.mono (by simp;omega))
 have hs0:(((w.alloc (suo (.slice a ps.length c) shops cap)).alloc (bko b0 v0)).alloc (fo (0,0))).heap[w.heap.size]?=some (suo (.slice a ps.length c) shops cap):=(e3.block _ (by simp;omega)).trans ((e2.block _ (by simp)).trans (heap_alloc_at _ _ _ rfl))
 have hr0:(((w.alloc (suo (.slice a ps.length c) shops cap)).alloc (bko b0 v0)).alloc (fo (0,0))).heap[w.heap.size+1]?=some (bko b0 v0):=(e3.block _ (by simp)).trans (heap_alloc_at _ _ _ (by simp))
 have hf0:(((w.alloc (suo (.slice a ps.length c) shops cap)).alloc (bko b0 v0)).alloc (fo (0,0))).heap[w.heap.size+2]?=some (fo (0,0)):=heap_alloc_at _ _ _ (by simp)
 obtain ⟨W,hWd⟩:∃W,((w.alloc (suo (.slice a ps.length c) shops cap)).alloc (bko b0 v0)).alloc (fo (0,0))=W:=⟨_,rfl⟩
 rw[hWd] at hb hs0 hr0 hf0
 rw[←zobj.out] at hWd
 unfold suo fo at hWd
 dsimp only at hWd
 have hl1:=hl.below hb
 have hd1:=hd.below hb
 obtain ⟨s0,s1,s2⟩:=sul_cells hs0
 have hW1:=hW W hl1
 have zl:=lt_of_block hf0
 clear e1 e2 e3 hl hd
 unfold suv
 go_enter Tryz.func18,Tryz.ntmps18
 go_upto_region 1 with fail
 try rw[hWd]
 clear hWd
 go_upto_region 2 with (go_at_call 20;refine hW1.mono ?_;rintro e w1 ⟨rfl,hb1⟩)
 have hb2:=below_alloc w1 (.cells #[.int .i64 (setErr ps shops cap).1,.int .i64 (setErr ps shops cap).2] 47)
 have hfe:(w1.alloc (.cells #[.int .i64 (setErr ps shops cap).1,.int .i64 (setErr ps shops cap).2] 47)).heap[w1.heap.size]?=some (fo (setErr ps shops cap)):=heap_alloc_at _ _ _ rfl
 have hbX:Below W.heap.size W (w1.alloc (.cells #[.int .i64 (setErr ps shops cap).1,.int .i64 (setErr ps shops cap).2] 47)):=hb1.trans (hb2.mono hb1.size)
 generalize w1.alloc (.cells #[.int .i64 (setErr ps shops cap).1,.int .i64 (setErr ps shops cap).2] 47)=X at*
 have zfW:W.heap.size≤w1.heap.size:=hb1.size
 generalize w1.heap.size=zf at*
 clear hb1 hb2 hW hW1 s0 s1 s2
 have hs1:X.heap[w.heap.size]?=some (suo (.slice a ps.length c) shops cap):=(hbX.block _ (by omega)).trans hs0
 have hr1:X.heap[w.heap.size+1]?=some (bko b0 v0):=(hbX.block _ (by omega)).trans hr0
 have hf1:X.heap[w.heap.size+2]?=some (fo (0,0)):=(hbX.block _ zl).trans hf0
 have hbw:Below w.heap.size w X:=hb.trans (hbX.mono hb.size)
 have hl2:=hl1.below hbX
 have hd2:=hd1.below hbX
 clear hs0 hr0 hf0 hb hbX hl1 hd1
 obtain ⟨x0,x1,-,-⟩:=fo_cells hfe
 rw[hE.out] at x0
 have hl':(150:Int)<l.length:=by omega
 clear hE
 have hthere:=bko_there (b':=b0) (v':=v0) hr1
 have hF:=bko_all (b:=b0) (v:=v0) hr1
 have hf2:=(putAll_other X (w.heap.size +1) 0 (w.heap.size+2) (cellsK b0 v0).toList (by omega)).trans hf1
 have hbY:=(below_putAll hbw (w.heap.size +1) 0 (cellsK b0 v0).toList (Nat.le_succ _))
 rw[←putAll_cells] at hF hf2 hbY
 have hF2:=fo_put (a:=(5,0)) hf2
 obtain ⟨t0,t1,t2,t3⟩:=fo_cells hf2
 dsimp only at t0 t1 hF2
 clear hfe hr1 hf1 hbw hl2 hd2 hs1
 have hinf:Hid ((Tryz.prog.info? 43).map (·.size)=some (cellsK b0 v0).size):=hid infoK
 replace hF:=hid hF
 replace hbY:=hid hbY
 replace hF2:=hid hF2
 replace hf2:=hid hf2
 have hbz:=fun (o :Oper) (a :Act) (ops :Array Oper) (rest :List Oper) (Q:Exit→Act→World→Prop) (w :World) (hg:o.guard=none) (ho :o.op=.build 43 #[])=>wpList_build_z (w:=w) (ops:=ops) (rest:=rest) (Q:=Q) (a:=a) hg ho zbu.out
 clear zobj zcel zbu
 generalize cellsK b0 v0=cc at*
 go_wp2_with (first
  |(refine hbz _ _ _ _ _ _ rfl rfl ?_)
  |(refine wpList_store_mid rfl 43 _ _ rfl (w.heap.size+1) 0 cc rfl rfl hthere hinf.out zone.out ?_))
 generalize X.setCells (w.heap.size+1) 0 cc.toList=Y at*
 replace hF:=hF.out
 replace hbY:=hbY.out
 replace hF2:=hF2.out
 have hFb:((Y.setCell ⟨w.heap.size+2,0,none⟩ (.int .i64 5)).setCell ⟨w.heap.size+2,1,none⟩ (.int .i64 0)).heap[w.heap.size+1]?=some (bko b0 v0):=(heap_setCell_other _ _ _ _ (by simp)).trans ((heap_setCell_other _ _ _ _ (by simp)).trans hF)
 have hbZ:=(hbY.setCell (p:=⟨w.heap.size+2,0,none⟩) (by simp) (.int .i64 5)).setCell (p:=⟨w.heap.size+2,1,none⟩) (by simp) (.int .i64 0)
 generalize (Y.setCell ⟨w.heap.size+2,0,none⟩ (.int .i64 5)).setCell ⟨w.heap.size+2,1,none⟩ (.int .i64 0)=Z at*
 exact bodyPost_ret (v:=.tuple #[bkv b0 v0,.slice none 0 0,Dy.fv (5,0)]) (results_csc Tryz.results18 rfl rfl rfl (loadVar_bank hFb) (loadVar_f hF2)) rfl ⟨v0,[],[],.slice none 0 0,rfl,zsh Z,ap_nil _ _ _ _,hbZ⟩
end Go.Proofs.YtofcnebekmjdoaaGreatDoor.Bn
