import Derived.Test.YtofcnebekmjdoaaGreatDoorKae
import Derived.Test.YtofcnebekmjdoaaGreatDoorKai
import Derived.Test.YtofcnebekmjdoaaGreatDoorKan
import Derived.Test.YtofcnebekmjdoaaGreatDoorKax
set_option maxHeartbeats 4000000
set_option maxRecDepth 100000
namespace Go.Proofs.YtofcnebekmjdoaaGreatDoor.Bn
open Go.RowKit Go.Proofs.YtofcnebekmjdoaaGreatDoor.Gn
structure CV where
 c:Ca
 a:Option Addr
 cap:Nat
structure DV where
 l:List Int
 a:Option Addr
 cap:Nat
 fit:l.length≤cap
def zCV:CV:=⟨zeroC,none,0⟩
def kC:Kind CV where
 cells:=fun x=>[.int .i64 x.c.m,.int .i64 x.c.h,.int .i64 x.c.p.t,.int .i64 x.c.p.c,.int .i64 x.c.p.s,.slice x.a x.c.u.length x.cap]
 size:=6
 len:=fun _=>rfl
 one:=fun x u hu=>by simp at hu;rcases hu with rfl|rfl|rfl|rfl|rfl|rfl<;>rfl
 pos:=by decide
def kU:Kind (Int ×Int) where
 cells:=fun x=>[.int .i64 x.1,.int .i64 x.2]
 size:=2
 len:=fun _=>rfl
 one:=fun x u hu=>by simp at hu;rcases hu with rfl|rfl<;>rfl
 pos:=by decide
def kAu:Kind Au.Au where
 cells:=fun a=>[.int .i64 a.card,.int .i64 a.shop,.int .i64 a.sum,.int .i64 a.cap,.int .i64 a.ref,.int .i64 a.dis,.int .i64 a.till,.bool a.shut]
 size:=8
 len:=fun _=>rfl
 one:=fun x u hu=>by simp at hu;rcases hu with rfl|rfl|rfl|rfl|rfl|rfl|rfl|rfl<;>rfl
 pos:=by decide
def kP:Kind Pk where
 cells:=fun p=>[.int .i64 p.t.n,.int .i64 p.t.k,.int .i64 p.t.a,.int .i64 p.t.s,.int .i64 p.seen]
 size:=5
 len:=fun _=>rfl
 one:=fun x u hu=>by simp at hu;rcases hu with rfl|rfl|rfl|rfl|rfl<;>rfl
 pos:=by decide
def kD:Kind DV where
 cells:=fun x=>[.slice x.a x.l.length x.cap]
 size:=1
 len:=fun _=>rfl
 one:=fun x u hu=>by simp at hu;subst hu;rfl
 pos:=by decide
theorem infoC:(Tryz.prog.info? 61).map (fun i=>(i.zero,i.size,i.bytes))=some (some (.agg #[.int .i64 0,.int .i64 0,.int .i64 0,.int .i64 0,.int .i64 0,.slice none 0 0]),6,64):=by kernel_rfl
theorem infoAu:(Tryz.prog.info? 66).map (fun i=>(i.zero,i.size,i.bytes))=some (some (.agg #[.int .i64 0,.int .i64 0,.int .i64 0,.int .i64 0,.int .i64 0,.int .i64 0,.int .i64 0,.bool false]),8,64):=by kernel_rfl
theorem infoP:(Tryz.prog.info? 111).map (fun i=>(i.zero,i.size,i.bytes))=some (some (.agg #[.int .i64 0,.int .i64 0,.int .i64 0,.int .i64 0,.int .i64 0]),5,40):=by kernel_rfl
theorem infoD:(Tryz.prog.info? 82).map (fun i=>(i.zero,i.size,i.bytes))=some (some (.slice none 0 0),1,24):=by kernel_rfl
theorem elemC:Elem Tryz.prog kC 26 61 64:=by
 obtain ⟨i,h1,h2,h3,h4⟩:=info_parts infoC
 exact ⟨Tryz.underlying26,i,_,h1,h2,h3,h4,rfl⟩
theorem elemAu:Elem Tryz.prog kAu 28 66 64:=by
 obtain ⟨i,h1,h2,h3,h4⟩:=info_parts infoAu
 exact ⟨Tryz.underlying28,i,_,h1,h2,h3,h4,rfl⟩
theorem elemP:Elem Tryz.prog kP 34 111 40:=by
 obtain ⟨i,h1,h2,h3,h4⟩:=info_parts infoP
 exact ⟨Tryz.underlying34,i,_,h1,h2,h3,h4,rfl⟩
theorem elemD:Elem Tryz.prog kD 40 82 24:=by
 obtain ⟨i,h1,h2,h3,h4⟩:=info_parts infoD
 exact ⟨Tryz.underlying40,i,_,h1,h2,h3,h4,rfl⟩
theorem kU_at {L:List (Int×Int)}{i:Nat}(hi:i<L.length):(kU.flat L)[i*2]?=some (.int .i64 (L.getD i (0,0)).1)∧(kU.flat L)[i*2+1]?=some (.int .i64 (L.getD i (0,0)).2):=by
 have hx:L[i]?=some (L.getD i (0,0)):=by simp[List.getD,hi]
 exact ⟨kU.flat_at hx (j:=0) rfl,kU.flat_at hx (j:=1) rfl⟩
theorem pairs_of {w:World}{b off:Nat}{L:List (Int ×Int)}(h:∀j u,(kU.flat L)[j]?=some u→w.cell? ⟨b,off+j,none⟩=some u):∀i,i<L.length→
  w.cell? ⟨b,off+i*2,none⟩=some (.int .i64 (L.getD i (0,0)).1)∧w.cell? ⟨b,off+i*2+1,none⟩=some (.int .i64 (L.getD i (0,0)).2):=fun i hi=>
 ⟨h _ _ (kU_at hi).1,by rw[Nat.add_assoc];exact h _ _ (kU_at hi).2⟩
theorem of_pairs{w:World}{b off:Nat}{L:List (Int×Int)}(h:∀i,i<L.length→w.cell? ⟨b,off+i*2,none⟩=some (.int .i64 (L.getD i (0,0)).1)∧w.cell? ⟨b,off+i*2+1,none⟩=some (.int .i64 (L.getD i (0,0)).2)):
  ∀j u,(kU.flat L)[j]?=some u→w.cell? ⟨b,off+j,none⟩=some u:=by
 intro j u hj
 have hlt:j<L.length*2:=by
  have :=(List.getElem?_eq_some_iff.1 hj).1
  rw[kU.flat_length] at this;exact this
 obtain ⟨k1,k2⟩:=kU_at (L:=L) (i:=j/2) (by omega)
 obtain ⟨c1,c2⟩:=h (j/2) (by omega)
 rcases Nat.mod_two_eq_zero_or_one j with hm|hm
 ·have e:j/2*2=j:=by omega
  rw[e] at k1 c1
  rw[k1] at hj;cases hj;exact c1
 ·have e:j/2*2+1=j:=by omega
  rw[Nat.add_assoc] at c2
  rw[e] at k2 c2
  rw[k2] at hj;cases hj;exact c2
theorem lies_ents {w:World}{a:Option Addr}{cap:Nat}{L:List (Int ×Int)}(h:Gn.Lies kU w a cap L):Bk.Ents w a L:=by
 refine ⟨h.len,?_⟩
 rcases h.at' with h0|⟨b,off,ha,hlt,hc⟩
 ·exact Or.inl h0
 ·exact Or.inr ⟨b,off,ha,hlt,pairs_of hc⟩
theorem ents_lies {w:World}{a:Option Addr}{cap:Nat}{L:List (Int×Int)} (h:Bk.Ents w a L) (hn:a=none→cap=0):Gn.Lies kU w a cap L:=by
 refine ⟨h.1,hn,?_⟩
 rcases h.2 with h0|⟨b,off,ha,hlt,hc⟩
 ·exact Or.inl h0
 ·exact Or.inr ⟨b,off,ha,hlt,of_pairs hc⟩
theorem lies_uses {w:World}{a:Option Addr}{cap:Nat}{L:List (Int×Int)}(h:Gn.Lies kU w a cap L):Go.Proofs.YtofcnebekmjdoaaGreatDoor.Lies w a cap L:=by
 refine ⟨⟨h.len,?_⟩,h.nil⟩
 rcases h.at' with h0|⟨b,off,ha,hlt,hc⟩
 ·exact Or.inl h0
 ·exact Or.inr ⟨b,off,ha,hlt,pairs_of hc⟩
theorem uses_lies{w:World}{a:Option Addr}{cap:Nat}{L:List (Int×Int)}(h:Go.Proofs.YtofcnebekmjdoaaGreatDoor.Lies w a cap L):Gn.Lies kU w a cap L:=by
 refine ⟨h.ents.1,h.nil,?_⟩
 rcases h.ents.2 with h0|⟨b,off,ha,hlt,hc⟩
 ·exact Or.inl h0
 ·exact Or.inr ⟨b,off,ha,hlt,of_pairs hc⟩
structure Vs where
 c:Value
 d:Value
 a:Value
 kp:Bool→Value
 wy:Bool→Value
 us:Value
 ad:Value
 td:Value
 dy:Value
 bk:Value
def wl (i:Bool):Nat:=if i=true then 6 else 5
theorem wl_ne (i:Bool) (j:Nat) (h:j<5∨6<j):wl i≠j:=by unfold wl;split<;>omega
theorem wl_other {i j:Bool}(h:i≠j):wl i≠wl j:=by cases i<;>cases j<;>simp_all[wl]
structure Mem (w:World) (lab:Lab) (base:Nat) (b:Bank) (v:Vs) (cs:List CV) (ds:List DV):Prop where
 cards:Tp kC 61 lab base w v.c cs 2
 csv:cs.map CV.c=b.cards
 uses:∀x∈cs,Ap kU lab w (.slice x.a x.c.u.length x.cap) x.c.u 0
 due:Tp kI 3 lab base w v.d b.due 3
 auths:Tp kAu 66 lab base w v.a b.auths 4
 kept:∀i,Ap Po.kT lab w (v.kp i) (b.snd i).kept 0
 ways:∀i,Ap kP lab w (v.wy i) (b.way i) (wl i)
 used:Ap kI lab w v.us b.stand.used 0
 adv:Ap St.kA lab w v.ad b.stand.adv 0
 today:Tp Dy.kR 79 lab base w v.td b.today 7
 days:Tp kD 82 lab base w v.dy ds 8
 dsv:ds.map DV.l=b.days
 files:∀x∈ds,Ap kB lab w (.slice x.a x.l.length x.cap) x.l 0
 book:Ap kU lab w v.bk b.book 0
 hi:∀k,1≤lab k→lab k≤8→base≤k
 lo:base≤w.heap.size
theorem hi_relab {lab:Lab}{base n j:Nat} (h:∀k,1≤lab k→lab k≤8→base≤k) (hn:base≤n):∀k,1≤relab lab n j k→relab lab n j k≤8→base≤k:=by
 intro k
 by_cases hk:k<n
 ·rw [relab_old hk];exact h k
 ·intro _ _;omega
theorem Mem.on {w w':World}{lab:Lab}{base:Nat}{b:Bank}{v:Vs}{cs:List CV}{ds:List DV}{j:Nat}(h:Mem w lab base b v cs ds) (ho:Only lab j w w') (hj:j=0∨j=1):Mem w' (relab lab w.heap.size j) base b v cs ds:=
 ⟨h.cards.move ho (by omega),h.csv,fun x hx=>(h.uses x hx).move ho (by omega),h.due.move ho (by omega),h.auths.move ho (by omega),fun i=>(h.kept i).move ho (by omega),fun i=>(h.ways i).move ho (by have:= wl_ne i 1 (by omega);omega),
  h.used.move ho (by omega),h.adv.move ho (by omega),h.today.move ho (by omega),h.days.move ho (by omega),h.dsv,fun x hx=>(h.files x hx).move ho (by omega),h.book.move ho (by omega),hi_relab h.hi h.lo,Nat.le_trans h.lo ho.size⟩
theorem Mem.cardsTo {w w':World}{lab:Lab}{base:Nat}{b:Bank}{v:Vs}{cs:List CV}{ds:List DV}(h:Mem w lab base b v cs ds) (ho:Only lab 2 w w'){cs':List CV}(hc:Tp kC 61 (relab lab w.heap.size 2) base w' v.c cs' 2) (hu:∀x∈cs',Ap kU lab w (.slice x.a x.c.u.length x.cap) x.c.u 0):Mem w' (relab lab w.heap.size 2) base {b with cards:=cs'.map CV.c} v cs' ds:=
 ⟨hc,rfl,fun x hx=>(hu x hx).move ho (by omega),h.due.move ho (by omega),h.auths.move ho (by omega),fun i=>(h.kept i).move ho (by omega),fun i=>(h.ways i).move ho (by have:= wl_ne i 2 (by omega);omega),
  h.used.move ho (by omega),h.adv.move ho (by omega),h.today.move ho (by omega),h.days.move ho (by omega),h.dsv,fun x hx=>(h.files x hx).move ho (by omega),h.book.move ho (by omega),hi_relab h.hi h.lo,Nat.le_trans h.lo ho.size⟩
theorem Mem.dueTo {w w':World}{lab:Lab}{base:Nat}{b:Bank}{v:Vs}{cs:List CV}{ds:List DV}(h:Mem w lab base b v cs ds) (ho:Only lab 3 w w'){L:List Int}(hc:Tp kI 3 (relab lab w.heap.size 3) base w' v.d L 3):Mem w' (relab lab w.heap.size 3) base {b with due:=L} v cs ds:=
 ⟨h.cards.move ho (by omega),h.csv,fun x hx=>(h.uses x hx).move ho (by omega),hc,h.auths.move ho (by omega),fun i=>(h.kept i).move ho (by omega),fun i=>(h.ways i).move ho (by have:= wl_ne i 3 (by omega);omega),
  h.used.move ho (by omega),h.adv.move ho (by omega),h.today.move ho (by omega),h.days.move ho (by omega),h.dsv,fun x hx=>(h.files x hx).move ho (by omega),h.book.move ho (by omega),hi_relab h.hi h.lo,Nat.le_trans h.lo ho.size⟩
theorem Mem.authsTo {w w':World}{lab:Lab}{base:Nat}{b:Bank}{v:Vs}{cs:List CV}{ds:List DV}(h:Mem w lab base b v cs ds) (ho:Only lab 4 w w'){L:List Au.Au}{va:Value}(hc:Tp kAu 66 (relab lab w.heap.size 4) base w' va L 4):Mem w' (relab lab w.heap.size 4) base {b with auths:=L} {v with a:=va} cs ds:=
 ⟨h.cards.move ho (by omega),h.csv,fun x hx=>(h.uses x hx).move ho (by omega),h.due.move ho (by omega),hc,fun i=>(h.kept i).move ho (by omega),fun i=>(h.ways i).move ho (by have:= wl_ne i 4 (by omega);omega),
  h.used.move ho (by omega),h.adv.move ho (by omega),h.today.move ho (by omega),h.days.move ho (by omega),h.dsv,fun x hx=>(h.files x hx).move ho (by omega),h.book.move ho (by omega),hi_relab h.hi h.lo,Nat.le_trans h.lo ho.size⟩
theorem Mem.todayTo {w w':World}{lab:Lab}{base:Nat}{b:Bank}{v:Vs}{cs:List CV}{ds:List DV}(h:Mem w lab base b v cs ds) (ho:Only lab 7 w w'){L:List Dy.Rc}{va:Value}(hc:Tp Dy.kR 79 (relab lab w.heap.size 7) base w' va L 7):Mem w' (relab lab w.heap.size 7) base {b with today:=L} {v with td:=va} cs ds:=
 ⟨h.cards.move ho (by omega),h.csv,fun x hx=>(h.uses x hx).move ho (by omega),h.due.move ho (by omega),h.auths.move ho (by omega),fun i=>(h.kept i).move ho (by omega),fun i=>(h.ways i).move ho (by have :=wl_ne i 7 (by omega);omega),
  h.used.move ho (by omega),h.adv.move ho (by omega),hc,h.days.move ho (by omega),h.dsv,fun x hx=>(h.files x hx).move ho (by omega),h.book.move ho (by omega),hi_relab h.hi h.lo,Nat.le_trans h.lo ho.size⟩
theorem Mem.daysTo {w w':World}{lab:Lab}{base:Nat}{b:Bank}{v:Vs}{cs:List CV}{ds:List DV} (h:Mem w lab base b v cs ds) (ho:Only lab 8 w w') {ds':List DV}{va:Value} (hc:Tp kD 82 (relab lab w.heap.size 8) base w' va ds' 8) (hu:∀x∈ds',Ap kB lab w (.slice x.a x.l.length x.cap) x.l 0):Mem w' (relab lab w.heap.size 8) base {b with days:=ds'.map DV.l} {v with dy:=va} cs ds':=
 ⟨h.cards.move ho (by omega),h.csv,fun x hx=>(h.uses x hx).move ho (by omega),h.due.move ho (by omega),h.auths.move ho (by omega),fun i=>(h.kept i).move ho (by omega),fun i=>(h.ways i).move ho (by have:= wl_ne i 8 (by omega);omega),
  h.used.move ho (by omega),h.adv.move ho (by omega),h.today.move ho (by omega),hc,rfl,fun x hx=>(hu x hx).move ho (by omega),h.book.move ho (by omega),hi_relab h.hi h.lo,Nat.le_trans h.lo ho.size⟩
theorem Mem.wayTo {w w':World}{lab:Lab}{base:Nat}{b:Bank}{v:Vs}{cs:List CV}{ds:List DV}(h:Mem w lab base b v cs ds) (i:Bool) (ho:Only lab (wl i) w w'){L:List Pk}{va:Value}(hc:Ap kP (relab lab w.heap.size (wl i)) w' va L (wl i)):Mem w' (relab lab w.heap.size (wl i)) base {b with way:=upd b.way i L} {v with wy:=upd v.wy i va} cs ds:=by
 have n2:=wl_ne i 2 (by omega)
 have n3:=wl_ne i 3 (by omega)
 have n4:=wl_ne i 4 (by omega)
 have n7:=wl_ne i 7 (by omega)
 have n8:=wl_ne i 8 (by omega)
 have n0:=wl_ne i 0 (by omega)
 refine ⟨h.cards.move ho (by omega),h.csv,fun x hx=>(h.uses x hx).move ho (by omega),h.due.move ho (by omega),h.auths.move ho (by omega),fun i=>(h.kept i).move ho (by omega),fun j=>?_,
  h.used.move ho (by omega),h.adv.move ho (by omega),h.today.move ho (by omega),h.days.move ho (by omega),h.dsv,fun x hx=>(h.files x hx).move ho (by omega),h.book.move ho (by omega),hi_relab h.hi h.lo,Nat.le_trans h.lo ho.size⟩
 unfold upd
 by_cases e:j=i
 ·subst e;simp only[if_true];exact hc
 ·simp only[e,if_false];exact (h.ways j).move ho (Or.inr (wl_other e))
theorem Mem.keptTo {w:World}{lab:Lab}{base:Nat}{b:Bank}{v:Vs}{cs:List CV}{ds:List DV}(h:Mem w lab base b v cs ds) (i:Bool){s:Po.Se}{va:Value}(hc:Ap Po.kT lab w va s.kept 0):Mem w lab base {b with snd:=upd b.snd i s} {v with kp:=upd v.kp i va} cs ds:=by
 refine ⟨h.cards,h.csv,h.uses,h.due,h.auths,fun j=>?_,h.ways,h.used,h.adv,h.today,h.days,h.dsv,h.files,h.book,h.hi,h.lo⟩
 unfold upd
 by_cases e:j=i
 ·subst e;simp only[if_true];exact hc
 ·simp only[e,if_false];exact h.kept j
theorem Mem.bookTo {w:World} {lab:Lab} {base:Nat} {b:Bank} {v:Vs} {cs:List CV} {ds:List DV} (h:Mem w lab base b v cs ds) {L:List (Int×Int)} {va:Value} (hc:Ap kU lab w va L 0):Mem w lab base {b with book:=L} {v with bk:=va} cs ds:=
 ⟨h.cards,h.csv,h.uses,h.due,h.auths,h.kept,h.ways,h.used,h.adv,h.today,h.days,h.dsv,h.files,hc,h.hi,h.lo⟩
theorem Mem.standTo {w:World} {lab:Lab} {base:Nat} {b:Bank} {v:Vs} {cs:List CV} {ds:List DV} (h:Mem w lab base b v cs ds) {s:St.Sd} {v1 v2:Value} (h1:Ap kI lab w v1 s.used 0) (h2:Ap St.kA lab w v2 s.adv 0):Mem w lab base {b with stand:=s} {v with us:=v1,ad:=v2} cs ds:=
 ⟨h.cards,h.csv,h.uses,h.due,h.auths,h.kept,h.ways,h1,h2,h.today,h.days,h.dsv,h.files,h.book,h.hi,h.lo⟩
theorem Mem.wayAs {w:World} {lab:Lab} {base:Nat} {b:Bank} {v:Vs} {cs:List CV} {ds:List DV}(h:Mem w lab base b v cs ds) (i:Bool) {L:List Pk} {va:Value}(hc:Ap kP lab w va L (wl i)):Mem w lab base {b with way:=upd b.way i L} {v with wy:=upd v.wy i va} cs ds:=by
 refine ⟨h.cards,h.csv,h.uses,h.due,h.auths,h.kept,fun j=>?_,h.used,h.adv,h.today,h.days,h.dsv,h.files,h.book,h.hi,h.lo⟩
 unfold upd
 by_cases e:j=i
 ·subst e;simp only[if_true];exact hc
 ·simp only[e,if_false];exact h.ways j
theorem Mem.todayNil {w:World}{lab:Lab}{base:Nat}{b:Bank}{v:Vs}{cs:List CV}{ds:List DV}(h:Mem w lab base b v cs ds):Mem w lab base {b with today:=[]} {v with td:=.slice none 0 0} cs ds:=
 ⟨h.cards,h.csv,h.uses,h.due,h.auths,h.kept,h.ways,h.used,h.adv,tp_nil,h.days,h.dsv,h.files,h.book,h.hi,h.lo⟩
theorem Mem.plain{w:World}{lab:Lab}{base:Nat}{b:Bank}{v:Vs}{cs:List CV}{ds:List DV}(h:Mem w lab base b v cs ds) (t:Int) (dn:Bool) (se:Bool→Int):Mem w lab base {b with time:=t,down:=dn,seen:=se} v cs ds:=
 ⟨h.cards,h.csv,h.uses,h.due,h.auths,h.kept,h.ways,h.used,h.adv,h.today,h.days,h.dsv,h.files,h.book,h.hi,h.lo⟩
def cellsB (b:Bank) (v:Vs) (tm:Value):Array Value:=
 #[.int .i64 b.time,.bool b.down,v.c,v.d,v.a,.int .i64 (b.snd false).sent,v.kp false,.int .i64 (b.snd true).sent,v.kp true,.int .i64 (b.seen false),.int .i64 (b.seen true),v.wy false,v.wy true,.int .i64 b.stand.cap,v.us,v.ad,v.td,v.dy,v.bk,tm]
def tyB:Value→TypeId
 |.int _ _=>103
 |_=>98
def blkB (b:Bank) (v:Vs) (tm:Value):Obj:=.cells (cellsB b v tm) (tyB tm)
structure Hand (w:World) (g base:Nat) (lab:Lab) (b:Bank) (v:Vs) (cs:List CV) (ds:List DV) (tm:Value):Prop where
 mem:Mem w lab base b v cs ds
 blk:w.heap[g]?=some (blkB b v tm)
 lb:lab g=1
def Goes (w:World) (g base:Nat) (lab:Lab) (b:Bank) (tm:Value):Prop:=∃v cs ds,Hand w g base lab b v cs ds tm
theorem hid {p:Prop} (h:p):Hid p:=h
theorem bel_alloc {W X:World}(h:Below W.heap.size W X) (o:Obj):Below W.heap.size W (X.alloc o):=h.alloc h.size o
theorem ret_int {k:IntKind} {a b:Int}(h:a=b):Ending.returned (.int k a)=.returned (.int k b):=by rw[h]
def orL:List Int→Int
 |[]=>0
 |x::r=>if x≠0 then x else orL r
theorem orL_two (x y:Int):orL [x,y]=orE x y:=by
 unfold orE;simp only[orL];split
 ·rfl
 ·split
  ·rfl
  ·rename_i h;exact (Decidable.not_not.1 h).symm
theorem orL_three (x y z:Int):orL [x,y,z]=orE x (orE y z):=by
 have:= orL_two y z
 unfold orE at*
 simp only [orL] at*
 rw [this]
theorem drop_int {L:List Int}{k:Nat} (hk:k<L.length):L.drop k=L.getD k 0::L.drop (k+1):=by
 rw [List.drop_eq_getElem_cons hk];simp [List.getD,hk]
theorem or_any (L:List Int) (b c:Nat) (w:World) (hL:L.length≤10) (h:∀i,i<L.length→w.cell? ⟨b,i,none⟩=some (.int .i64 (L.getD i 0))):
  Calls Tryz.prog 129 #[.slice (some ⟨b,0,none⟩) L.length c] w fun e w'=>e=.returned (.int .i64 (orL L))∧w'=w:=by
 go_enter Tryz.func129,Tryz.ntmps129
 go_wp2
 go_loopw[8] (fun i wr=>∃k:Nat,k≤L.length∧i=.int .i64 k∧wr=w∧Hid (orL L=orL (L.drop k))) (fun i _=>L.length-(intOf i).toNat)
 case atStart=>exact ⟨0,Nat.zero_le _,rfl,rfl,hid (by simp)⟩
 case round=>
  obtain ⟨k,hk,rfl,rfl,hs⟩:=hrel
  by_cases hlt:k<L.length
  ·have hlt':(k :Int)<L.length:=by omega
   have e1:=h k hlt
   have hd:=hid (hs.out.trans (congrArg orL (drop_int hlt)))
   clear hs h
   generalize L.getD k 0=x at*
   by_cases h0:x=0
   ·have g0:(x==0)=true:=by simpa using h0
    have g0':(x !=0)=false:=by simpa using h0
    have hn:Hid (orL L=orL (L.drop (k+1))):=hid (by rw[hd.out];simp only[orL];rw[if_neg (by simpa using h0)])
    clear h0 hd
    go_wp2
    go_roundw
    case rel=>exact ⟨k+1,by omega,by go_num,trivial,hn⟩
    case measure=>simp[intOf];omega
   ·have g0:(x==0)=false:=by simpa using h0
    have g0':(x !=0)=true:=by simpa using h0
    have hn:Hid (orL L=x):=hid (by rw[hd.out];simp only[orL];rw[if_pos h0])
    clear h0 hd
    go_wp2
    go_ret
    exact ⟨ret_int hn.out.symm,rfl⟩
  ·have hn:Hid (orL L=0):=hid (by rw[hs.out,List.drop_eq_nil_of_le (by omega)];rfl)
   go_wp2
   go_ret
   exact ⟨ret_int hn.out.symm,rfl⟩
def isIn (n:Int) (m:Nat):Bool:=decide (0 ≤n)&&decide (n <m)
theorem isIn_true {n:Int} {m:Nat}:isIn n m=true↔0≤n∧n<m:=by unfold isIn;simp
theorem isIn_false {n:Int}{m:Nat}:isIn n m=false↔n<0∨(m :Int)≤n:=by
 rw[←Bool.not_eq_true,isIn_true];omega
theorem blk_cells {w:World}{g:Nat}{b:Bank}{v:Vs}{tm:Value} (h:w.heap[g]?=some (blkB b v tm)):
  w.cell? ⟨g,0,none⟩=some (.int .i64 b.time)∧w.cell? ⟨g,1,none⟩=some (.bool b.down)∧w.cell? ⟨g,2,none⟩=some v.c∧w.cell? ⟨g,3,none⟩=some v.d∧w.cell? ⟨g,4,none⟩=some v.a∧
  w.cell? ⟨g,5,none⟩=some (.int .i64 (b.snd false).sent)∧w.cell? ⟨g,6,none⟩=some (v.kp false)∧w.cell? ⟨g,7,none⟩=some (.int .i64 (b.snd true).sent)∧w.cell? ⟨g,8,none⟩=some (v.kp true)∧
  w.cell? ⟨g,9,none⟩=some (.int .i64 (b.seen false))∧w.cell? ⟨g,10,none⟩=some (.int .i64 (b.seen true))∧w.cell? ⟨g,11,none⟩=some (v.wy false)∧w.cell? ⟨g,12,none⟩=some (v.wy true)∧
  w.cell? ⟨g,13,none⟩=some (.int .i64 b.stand.cap)∧w.cell? ⟨g,14,none⟩=some v.us∧w.cell? ⟨g,15,none⟩=some v.ad∧w.cell? ⟨g,16,none⟩=some v.td∧w.cell? ⟨g,17,none⟩=some v.dy∧w.cell? ⟨g,18,none⟩=some v.bk∧w.cell? ⟨g,19,none⟩=some tm:=by
 unfold blkB cellsB at h
 refine ⟨?_,?_,?_,?_,?_,?_,?_,?_,?_,?_,?_,?_,?_,?_,?_,?_,?_,?_,?_,?_⟩<;>simp [World.cell?,h]
theorem blk_free {w:World} {g:Nat} {b:Bank} {v:Vs} {tm:Value}(h:w.heap[g]?=some (blkB b v tm)) (p:Nat):w.frozen? ⟨g,p,none⟩=false:=by
 unfold blkB at h
 simp[World.frozen?,h]
theorem blk_put {w:World}{g:Nat}{b:Bank}{v:Vs}{tm:Value} (h:w.heap[g]?=some (blkB b v tm)) (i:Nat) (x:Value):(w.setCell ⟨g,i,none⟩ x).heap[g]?=some (.cells ((cellsB b v tm).setIfInBounds i x) (tyB tm)):=heap_setCell_same _ _ _ _ _ _ h
theorem Mem.cardsLen {w:World}{lab:Lab}{base:Nat}{b:Bank}{v:Vs}{cs:List CV}{ds:List DV} (h:Mem w lab base b v cs ds):cs.length=b.cards.length:=by rw [←h.csv];simp
theorem Mem.daysLen {w:World}{lab:Lab}{base:Nat}{b:Bank}{v:Vs}{cs:List CV}{ds:List DV}(h:Mem w lab base b v cs ds):ds.length=b.days.length:=by rw[←h.dsv];simp
theorem isSide_any (n:Int) (w:World):Calls Tryz.prog 134 #[.int .i64 n] w fun e w'=>e=.returned (.bool (isIn n 2))∧w'=w:=by
 unfold isIn
 by_cases h1:0≤n<;>by_cases h2:n<2
 all_goals
  go_enter Tryz.func134,Tryz.ntmps134
  go_wp2
  go_ret
  simp[h1,h2]
theorem isCard_any (g base:Nat) (lab:Lab) (b:Bank) (tm:Value) (n:Int) (w:World) (h:Goes w g base lab b tm):Calls Tryz.prog 123 #[.pointer (some ⟨g,0,none⟩),.int .i64 n] w fun e w'=>e=.returned (.bool (isIn n b.cards.length))∧w'=w:=by
 obtain ⟨v,cs,ds,hm,hg,-⟩:=h
 obtain ⟨a,cap,hv,hl⟩:=hm.cards.ap.lies
 have hlen:=hm.cardsLen
 have hmx:=hl.len
 unfold maxLen at hmx
 obtain ⟨-,-,c2,-⟩:=blk_cells hg
 rw[hv,hlen] at c2
 rw[hlen] at hmx
 unfold isIn
 by_cases h1:0≤n<;>by_cases h2:n<b.cards.length
 all_goals
  go_enter Tryz.func123,Tryz.ntmps123
  go_wp2
  go_ret
  simp[h1,h2]
theorem isShop_any (g base:Nat) (lab:Lab) (b:Bank) (tm:Value) (n:Int) (w:World) (h:Goes w g base lab b tm):Calls Tryz.prog 125 #[.pointer (some ⟨g,0,none⟩),.int .i64 n] w fun e w'=>e=.returned (.bool (isIn n b.due.length))∧w'=w:=by
 obtain ⟨v,cs,ds,hm,hg,-⟩:=h
 obtain ⟨a,cap,hv,hl⟩:=hm.due.ap.lies
 have hmx:=hl.len
 unfold maxLen at hmx
 obtain ⟨-,-,-,c3,-⟩:=blk_cells hg
 rw[hv] at c3
 unfold isIn
 by_cases h1:0≤n<;>by_cases h2:n<b.due.length
 all_goals
  go_enter Tryz.func125,Tryz.ntmps125
  go_wp2
  go_ret
  simp[h1,h2]
end Go.Proofs.YtofcnebekmjdoaaGreatDoor.Bn
