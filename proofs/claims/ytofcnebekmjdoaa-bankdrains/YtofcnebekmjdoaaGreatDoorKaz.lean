import Derived.Test.YtofcnebekmjdoaaGreatDoorKay
set_option maxHeartbeats 4000000
set_option maxRecDepth 100000
namespace Go.Proofs.YtofcnebekmjdoaaGreatDoor.Bn
open Go.RowKit Go.Proofs.YtofcnebekmjdoaaGreatDoor.Gn
theorem below_putAll {B:Nat}{w0 w:World}(h:Below B w0 w) (g p:Nat) (l:List Value) (hg:B≤g):Below B w0 (putAll w g p l):=by
 induction l generalizing w p with
 |nil=>exact h
 |cons x r ih=>exact ih (h.setCell hg _) _
theorem only_putAll {lab:Lab}{j:Nat}(w:World) (g p:Nat) (l:List Value) (h:lab g=j) (hj:j≠0):Only lab j w (putAll w g p l):=
 have hb:=below_putAll (Below.refl 0 w) g p l (Nat.zero_le _)
 ⟨hb.os,hb.tape,hb.output,Nat.le_of_eq (putAll_size _ _ _ _).symm,fun k _ hl=>putAll_other _ _ _ _ _ (by rintro rfl;rcases hl with hl|hl;exact hj hl;exact hl h)⟩
theorem putAll6 (w:World) (g p:Nat) (a b c d e f:Value):putAll w g p [a,b,c,d,e,f]=(((((w.setCell ⟨g,p,none⟩ a).setCell ⟨g,p+1,none⟩ b).setCell ⟨g,p+2,none⟩ c).setCell ⟨g,p+3,none⟩ d).setCell ⟨g,p+4,none⟩ e).setCell ⟨g,p+5,none⟩ f:=rfl
theorem putAll8 (w:World) (g p:Nat) (a b c d e f x y:Value):putAll w g p [a,b,c,d,e,f,x,y]=(((((((w.setCell ⟨g,p,none⟩ a).setCell ⟨g,p+1,none⟩ b).setCell ⟨g,p+2,none⟩ c).setCell ⟨g,p+3,none⟩ d).setCell ⟨g,p+4,none⟩ e).setCell ⟨g,p+5,none⟩ f).setCell ⟨g,p+6,none⟩ x).setCell ⟨g,p+7,none⟩ y:=rfl
theorem Hand.below {w w':World} {g base:Nat} {lab:Lab} {b:Bank} {v:Vs} {cs:List CV} {ds:List DV} {tm:Value}(h:Hand w g base lab b v cs ds tm) (hb:Below w.heap.size w w'):Hand w' g base (relab lab w.heap.size 0) b v cs ds tm:=
 ⟨h.mem.on (only_below hb) (Or.inl rfl),(hb.block _ (lt_of_block h.blk)).trans h.blk,by rw[relab_old (lt_of_block h.blk)];exact h.lb⟩
theorem Hand.goes {w:World} {g base:Nat} {lab:Lab} {b:Bank} {v:Vs} {cs:List CV} {ds:List DV} {tm:Value} (h:Hand w g base lab b v cs ds tm):Goes w g base lab b tm:=⟨v,cs,ds,h⟩
theorem Hand.ge {w:World} {g base:Nat} {lab:Lab} {b:Bank} {v:Vs} {cs:List CV} {ds:List DV} {tm:Value} (h:Hand w g base lab b v cs ds tm):base≤g:=h.mem.hi g (by rw[h.lb];omega) (by rw[h.lb];omega)
theorem Goes.below {w w':World} {g base:Nat} {lab:Lab} {b:Bank} {tm:Value}(h:Goes w g base lab b tm) (hb:Below w.heap.size w w'):Goes w' g base (relab lab w.heap.size 0) b tm:=by
 obtain ⟨v,cs,ds,H⟩:=h
 exact ⟨v,cs,ds,H.below hb⟩
theorem Mem.drew {w:World} {lab:Lab} {base:Nat} {b:Bank} {v:Vs} {cs:List CV} {ds:List DV}(h:Mem w lab base b v cs ds):Mem w.drew lab base b v cs ds:=by
 have ho:Only lab 0 w w.drew:=only_below ((Below.refl _ _).drew)
 exact ⟨h.cards.stay ho (by omega),h.csv,fun x hx=>(h.uses x hx).stay ho (by omega),h.due.stay ho (by omega),h.auths.stay ho (by omega),fun i=>(h.kept i).stay ho (by omega),fun i=>(h.ways i).stay ho (by omega),
  h.used.stay ho (by omega),h.adv.stay ho (by omega),h.today.stay ho (by omega),h.days.stay ho (by omega),h.dsv,fun x hx=>(h.files x hx).stay ho (by omega),h.book.stay ho (by omega),h.hi,h.lo⟩
theorem Hand.drew {w:World} {g base:Nat} {lab:Lab} {b:Bank} {v:Vs} {cs:List CV} {ds:List DV} {tm:Value}(h:Hand w g base lab b v cs ds tm):Hand w.drew g base lab b v cs ds tm:=⟨h.mem.drew,h.blk,h.lb⟩
theorem Goes.drew {w:World} {g base:Nat} {lab:Lab} {b:Bank} {tm:Value}(h:Goes w g base lab b tm):Goes w.drew g base lab b tm:=by
 obtain ⟨v,cs,ds,H⟩:=h
 exact ⟨v,cs,ds,H.drew⟩
theorem Goes.lo {w:World} {g base:Nat} {lab:Lab} {b:Bank} {tm:Value}(h:Goes w g base lab b tm):base≤w.heap.size:=by
 obtain ⟨v,cs,ds,H⟩:=h
 exact H.mem.lo
structure CardIn (w:World) (lab:Lab) (base:Nat) (v:Vs) (cs:List CV) (k gc cap:Nat) (x:CV):Prop where
 val:v.c=.slice (some ⟨gc,0,none⟩) cs.length cap
 ge:base≤gc
 lt:gc<w.heap.size
 lb:lab gc=2
 c0:w.cell? ⟨gc,k*6,none⟩=some (.int .i64 x.c.m)
 c1:w.cell? ⟨gc,k*6+1,none⟩=some (.int .i64 x.c.h)
 c2:w.cell? ⟨gc,k*6+2,none⟩=some (.int .i64 x.c.p.t)
 c3:w.cell? ⟨gc,k*6+3,none⟩=some (.int .i64 x.c.p.c)
 c4:w.cell? ⟨gc,k*6+4,none⟩=some (.int .i64 x.c.p.s)
 c5:w.cell? ⟨gc,k*6+5,none⟩=some (.slice x.a x.c.u.length x.cap)
 fz:∀p,w.frozen? ⟨gc,p,none⟩=false
 uses:Ap kU lab w (.slice x.a x.c.u.length x.cap) x.c.u 0
 put:∀y,(putAll w gc (k*6) (kC.cells y)).ownsRow base 61 kC.size v.c (cs.set k y).length (kC.flat (cs.set k y))
theorem Mem.card{w:World}{lab:Lab}{base:Nat}{b:Bank}{v:Vs}{cs:List CV}{ds:List DV}(h:Mem w lab base b v cs ds){k:Nat}(hk:k<b.cards.length):∃gc cap,CardIn w lab base v cs k gc cap (cs.getD k zCV)∧(cs.getD k zCV).c=b.card (k :Int):=by
 have hlen:=h.cardsLen
 have hk':k<cs.length:=by omega
 have hne:cs≠[]:=by intro h0;rw[h0] at hk';simp at hk'
 obtain ⟨gc,cap,hv,hge,hlt,hcap,hfz,hput⟩:=Row.put (h.cards.own hne) hk'
 obtain ⟨a,c,hv2,hl⟩:=h.cards.ap.lies
 rw[hv] at hv2
 obtain ⟨rfl,-,rfl⟩:=Value.slice.inj hv2
 obtain ⟨g',off,ha,-,hc⟩:=hl.elem (i:=k) (x:=cs.getD k zCV) (by simp[List.getD,hk'])
 cases ha
 have hm:cs.getD k zCV∈cs:=by simp[List.getD,hk']
 have q:∀j u,(kC.cells (cs.getD k zCV))[j]?=some u→w.cell? ⟨gc,k*6+j,none⟩=some u:=fun j u hj=>by have :=hc j u hj;rwa[Nat.zero_add] at this
 refine ⟨gc,cap,⟨hv,hge,hlt,h.cards.lab gc (by rw[hv];rfl),q 0 _ rfl,q 1 _ rfl,q 2 _ rfl,q 3 _ rfl,q 4 _ rfl,q 5 _ rfl,hfz,h.uses _ hm,hput⟩,?_⟩
 unfold Bank.card
 rw[←h.csv,Int.toNat_natCast]
 simp[List.getD,hk']
theorem Mem.cardPut {w:World}{lab:Lab}{base:Nat}{b:Bank}{v:Vs}{cs:List CV}{ds:List DV} (h:Mem w lab base b v cs ds){k gc cap:Nat}{x:CV} (hc:CardIn w lab base v cs k gc cap x){y:CV} (hy:Ap kU lab w (.slice y.a y.c.u.length y.cap) y.c.u 0):
  Mem (putAll w gc (k*6) (kC.cells y)) (relab lab w.heap.size 2) base {b with cards:=b.cards.set k y.c} v (cs.set k y) ds:=by
 have ho:=only_putAll (lab:=lab) (j:=2) w gc (k*6) (kC.cells y) hc.lb (by decide)
 have:= h.cardsTo ho (cs':=cs.set k y) ⟨.own _ _ (hc.put y),fun _=>hc.put y,fun j hj=>by rw [relab_old (h.cards.row.block_lt j hj).2];exact h.cards.lab j hj⟩ fun z hz=>by
  rcases mem_set' hz with rfl|hz
  ·exact hy
  ·exact h.uses z hz
 rw [List.map_set,h.csv] at this
 exact this
def Done (w:World) (g base:Nat) (lab:Lab) (tm:Value) (r:Bank×Int) (e:Ending) (w':World):Prop:=e=.returned (.int .i64 r.2)∧∃lab',Goes w' g base lab' r.1 tm∧Stp w lab w' lab'
theorem Ap.out {α:Type} {K:Kind α} {lab:Lab} {w:World} {a:Option Addr} {n cap:Nat} {L:List α} {j:Nat}(h:Ap K lab w (.slice a n cap) L j):Gn.Lies K w a cap L:=by
 obtain ⟨a',cap',hv,hl,-⟩:=h
 obtain ⟨rfl,-,rfl⟩:=Value.slice.inj hv
 exact hl
theorem shiftP_no {b:Bank}{n h m:Int} (q:(shiftC (b.card n) h m).2≠0):shiftP b n h m=(b,(shiftC (b.card n) h m).2):=by unfold shiftP;rw [if_pos q]
theorem shiftP_yes {b:Bank}{n h m:Int}(q:(shiftC (b.card n) h m).2=0):shiftP b n h m=({ b with cards:=b.cards.set n.toNat (shiftC (b.card n) h m).1},0):=by unfold shiftP;rw[if_neg (by simpa using q)]
theorem gshift (g base:Nat) (lab:Lab) (b:Bank) (tm:Value) (k:Nat) (dh dm:Int) (w:World) (h:Goes w g base lab b tm) (hk:k<b.cards.length):
  Calls Tryz.prog 151 #[.pointer (some ⟨g,0,none⟩),.int .i64 (k :Int),.int .i64 dh,.int .i64 dm] w (Done w g base lab tm (shiftP b k dh dm)):=by
 have hlo:=h.lo
 have hgo:=h
 obtain ⟨v,cs,ds,H⟩:=h
 have hm:=H.mem
 have hg:=H.blk
 have h1:=H.lb
 obtain ⟨gc,cap,C,hcc⟩:=hm.card hk
 have hlen:=hm.cardsLen
 have hk':k<cs.length:=by omega
 have hk2:(k:Int)<cs.length:=by omega
 obtain ⟨-,-,c2,-⟩:=blk_cells hg
 rw[C.val] at c2
 have hu:=lies_uses C.uses.out
 have hmem:Ap kU lab w (.slice (cs.getD k zCV).a (cs.getD k zCV).c.u.length (cs.getD k zCV).cap) (cs.getD k zCV).c.u 0:=C.uses
 obtain ⟨q0,q1,q2,q3,q4,q5⟩:=(⟨C.c0,C.c1,C.c2,C.c3,C.c4,C.c5⟩:_∧_∧_∧_∧_∧_)
 have N1:=hid (shiftP_no (b:=b) (n:=k) (h:=dh) (m:=dm))
 have N2:=hid (shiftP_yes (b:=b) (n:=k) (h:=dh) (m:=dm))
 rw[←hcc] at N1 N2
 rw[Int.toNat_natCast] at N2
 have hS:=shift_all (cs.getD k zCV).c (cs.getD k zCV).a (cs.getD k zCV).cap dh dm w hu
 unfold cv at hS
 clear hcc hu
 generalize hx:cs.getD k zCV=x at*
 unfold AnswersO cv at hS
 by_cases hq:(shiftC x.c dh dm).2=0
 case neg=>
  have hE:=hid (N1.out hq)
  have hq':((shiftC x.c dh dm).2 !=0)=true:=by simpa using hq
  clear N1 N2 hq
  generalize (shiftC x.c dh dm).1=r1 at*
  generalize (shiftC x.c dh dm).2=r2 at*
  go_enter Tryz.func151,Tryz.ntmps151
  go_wp2_with (go_at_call 169;refine hS.mono ?_;rintro e w1 ⟨a',cap',rfl,hl',ht',hb1⟩)
  go_ret
  unfold Done
  rw[hE.out]
  exact ⟨rfl,_,hgo.below (bel_alloc hb1 _),stp_below (bel_alloc hb1 _)⟩
 case pos=>
  have hE:=hid (N2.out hq)
  have hq':((shiftC x.c dh dm).2 !=0)=false:=by simpa using hq
  clear N1 N2 hq
  generalize (shiftC x.c dh dm).1=r1 at*
  generalize (shiftC x.c dh dm).2=r2 at*
  go_enter Tryz.func151,Tryz.ntmps151
  go_upto_region 4 with (go_at_call 169;refine hS.mono ?_;rintro e w1 ⟨a',cap',rfl,hl',ht',hb1⟩)
  have hbW:=bel_alloc hb1 (.cells #[.int .i64 r1.m,.int .i64 r1.h,.int .i64 r1.p.t,.int .i64 r1.p.c,.int .i64 r1.p.s,.slice a' r1.u.length cap'] 61)
  have hbx:(w1.alloc (.cells #[.int .i64 r1.m,.int .i64 r1.h,.int .i64 r1.p.t,.int .i64 r1.p.c,.int .i64 r1.p.s,.slice a' r1.u.length cap'] 61)).heap[w1.heap.size]?=some (co r1 a' cap'):=heap_alloc_at _ _ _ rfl
  have hlW:=(uses_lies hl').alloc (.cells #[.int .i64 r1.m,.int .i64 r1.h,.int .i64 r1.p.t,.int .i64 r1.p.c,.int .i64 r1.p.s,.slice a' r1.u.length cap'] 61)
  have hZ:w.heap.size≤w1.heap.size:=hb1.size
  generalize w1.alloc (.cells #[.int .i64 r1.m,.int .i64 r1.h,.int .i64 r1.p.t,.int .i64 r1.p.c,.int .i64 r1.p.s,.slice a' r1.u.length cap'] 61)=W at*
  generalize w1.heap.size=Z at*
  have hm1:=hm.on (only_below (j:=0) hbW) (Or.inl rfl)
  have hgW:=(hbW.block _ (lt_of_block hg)).trans hg
  have h1W:relab lab w.heap.size 0 g=1:=by rw[relab_old (lt_of_block hg)];exact h1
  have hnew:Ap kU (relab lab w.heap.size 0) W (.slice a' r1.u.length cap') r1.u 0:=by
   rcases ht' with hp|⟨ha,hu⟩
   ·exact ap_new rfl hlW hp
   ·obtain ⟨a2,c2,hv2,hl2,hn2⟩:=hmem
    obtain ⟨rfl,-,rfl⟩:=Value.slice.inj hv2
    subst ha
    refine ⟨_,_,rfl,hlW,fun ad had hne=>?_⟩
    rw[hu] at hne
    rw[relab_old (lies_lt hl2 hne ad had)]
    exact hn2 ad had hne
  obtain ⟨gc',cap2,C1,-⟩:=hm1.card hk
  have hve:=C.val.symm.trans C1.val
  obtain ⟨hge,-,hce⟩:=Value.slice.inj hve
  cases hge
  subst hce
  rw[hx] at C1
  obtain ⟨-,-,d2,-⟩:=blk_cells hgW
  rw[C.val] at d2
  obtain ⟨u0,u1,u2,u3,u4,u5⟩:=co_cells hbx
  have z0:=C1.fz (k *6)
  have z1:=C1.fz (k*6+1)
  have z2:=C1.fz (k*6+2)
  have z3:=C1.fz (k*6+3)
  have z4:=C1.fz (k *6+4)
  have z5:=C1.fz (k *6+5)
  have hZlt:=lt_of_block hbx
  have hn1:gc≠Z:=by have:= C.lt;omega
  have hfin:=hm1.cardPut C1 (y:=⟨r1,a',cap'⟩) hnew
  have hne:g≠gc:=fun h=>by have:= C1.lb;rw[←h] at this;omega
  have hgf:(putAll W gc (k *6) (kC.cells ⟨r1,a',cap'⟩)).heap[g]?=some (blkB b v tm):=(putAll_other _ _ _ _ _ hne).trans hgW
  have hbf:Stp w lab (putAll W gc (k *6) (kC.cells ⟨r1,a',cap'⟩)) (relab (relab lab w.heap.size 0) W.heap.size 2):=(stp_below hbW).trans (stp_only (only_putAll W gc (k*6) _ C1.lb (by decide)) (by decide))
  have hGo:Goes (putAll W gc (k*6) (kC.cells ⟨r1,a',cap'⟩)) g base (relab (relab lab w.heap.size 0) W.heap.size 2) {b with cards:=b.cards.set k r1} tm:=⟨v,_,ds,hfin,hgf,by rw[relab_old (lt_of_block hgW)];exact h1W⟩
  clear hS q0 q1 q2 q3 q4 q5 c2 hfin hgf hnew hm1 hm
  obtain ⟨y0,y1,y2,y3,y4,y5⟩:=(⟨C1.c0,C1.c1,C1.c2,C1.c3,C1.c4,C1.c5⟩:_∧_∧_∧_∧_∧_)
  go_region
  all_goals
   go_wp2_with fail
   go_ret
   unfold Done
   rw[hE.out]
   exact ⟨rfl,_,hGo.drew,hbf.drew⟩
theorem Mem.gput {w:World}{lab:Lab}{base:Nat}{b:Bank}{v:Vs}{cs:List CV}{ds:List DV} (h:Mem w lab base b v cs ds){g:Nat} (hg:lab g=1) (i:Nat) (x:Value):Mem (w.setCell ⟨g,i,none⟩ x) (relab lab w.heap.size 1) base b v cs ds:=
 h.on (only_set w ⟨g,i,none⟩ x hg (by decide)) (Or.inr rfl)
theorem Hand.put1 {w:World}{g base:Nat}{lab:Lab}{b b':Bank}{v v':Vs}{cs:List CV}{ds:List DV}{tm:Value}(h:Hand w g base lab b v cs ds tm) (hm:Mem w lab base b' v' cs ds){i:Nat}{x:Value}(hc:(cellsB b v tm).setIfInBounds i x=cellsB b' v' tm):
  Hand (w.setCell ⟨g,i,none⟩ x) g base (relab lab w.heap.size 1) b' v' cs ds tm:=
 ⟨hm.gput h.lb i x,by rw[blk_put h.blk,hc];rfl,by rw[relab_old (lt_of_block h.blk)];exact h.lb⟩
theorem Hand.put2 {w:World}{g base:Nat}{lab:Lab}{b b':Bank}{v v':Vs}{cs:List CV}{ds:List DV}{tm:Value} (h:Hand w g base lab b v cs ds tm) (hm:Mem w lab base b' v' cs ds){i j:Nat}{x y:Value} (hc:((cellsB b v tm).setIfInBounds i x).setIfInBounds j y=cellsB b' v' tm):
  Hand ((w.setCell ⟨g,i,none⟩ x).setCell ⟨g,j,none⟩ y) g base (relab (relab lab w.heap.size 1) (w.setCell ⟨g,i,none⟩ x).heap.size 1) b' v' cs ds tm:=by
 have h1:(w.setCell ⟨g,i,none⟩ x).heap[g]?=some (.cells ((cellsB b v tm).setIfInBounds i x) (tyB tm)):=blk_put h.blk i x
 have l1:relab lab w.heap.size 1 g=1:=by rw [relab_old (lt_of_block h.blk)];exact h.lb
 refine ⟨(hm.gput h.lb i x).gput l1 j y,?_,by rw [relab_old (lt_of_block h1)];exact l1⟩
 rw [heap_setCell_same _ _ _ _ _ _ h1,hc]
 rfl
theorem stp_set {w:World} {lab:Lab} {g:Nat}(hg:lab g=1) (i:Nat) (x:Value):Stp w lab (w.setCell ⟨g,i,none⟩ x) (relab lab w.heap.size 1):=stp_only (only_set w ⟨g,i,none⟩ x hg (by decide)) (by decide)
theorem Hand.stp2 {w:World}{g base:Nat}{lab:Lab}{b:Bank}{v:Vs}{cs:List CV}{ds:List DV}{tm:Value} (h:Hand w g base lab b v cs ds tm) (i j:Nat) (x y:Value):Stp w lab ((w.setCell ⟨g,i,none⟩ x).setCell ⟨g,j,none⟩ y) (relab (relab lab w.heap.size 1) (w.setCell ⟨g,i,none⟩ x).heap.size 1):=
 (stp_set h.lb i x).trans (stp_set (by rw [relab_old (lt_of_block h.blk)];exact h.lb) j y)
theorem Goes.hand {w:World} {g base:Nat} {lab:Lab} {b:Bank} {tm:Value}(h:Goes w g base lab b tm):∃v cs ds,Hand w g base lab b v cs ds tm:=h
theorem moveB_eq (l:List (Int ×Int)) (src dst sum:Int):Bk.move l src dst sum=moveB l src dst sum:=rfl
theorem enterP_no {b:Bank} {src dst sum:Int}(q:(moveB b.book src dst sum).2≠0):enterP b src dst sum=(b,(moveB b.book src dst sum).2):=by unfold enterP;rw[if_pos q]
theorem genter (g base:Nat) (lab:Lab) (b:Bank) (tm:Value) (src dst sum:Int) (w:World) (h:Goes w g base lab b tm):
  Calls Tryz.prog 152 #[.pointer (some ⟨g,0,none⟩),.int .i64 src,.int .i64 dst,.int .i64 sum] w (Done w g base lab tm (enterP b src dst sum)):=by
 obtain ⟨v,cs,ds,H⟩:=h.hand
 obtain ⟨a,cap,hv,hl,hn⟩:=H.mem.book
 have c18:=(blk_cells H.blk).2.2.2.2.2.2.2.2.2.2.2.2.2.2.2.2.2.2.1
 rw[hv] at c18
 have hS:=Bk.move_new a cap b.book src dst sum w (lies_ents hl)
 rw[moveB_eq] at hS
 unfold Bk.AnswersN at hS
 have N1:=hid (enterP_no (b:=b) (src:=src) (dst:=dst) (sum:=sum))
 have N2:=hid (enterP_in (b:=b) (src:=src) (dst:=dst) (sum:=sum))
 by_cases hq:(moveB b.book src dst sum).2=0
 case neg=>
  have hE:=hid (N1.out hq)
  have hq':((moveB b.book src dst sum).2 !=0)=true:=by simpa using hq
  clear N1 N2 hq
  generalize (moveB b.book src dst sum).1=r1 at*
  generalize (moveB b.book src dst sum).2=r2 at*
  go_enter Tryz.func152,Tryz.ntmps152
  go_wp2_with (go_at_call 170;refine hS.mono ?_;rintro e w1 ⟨a',cap',rfl,hl',hp',hn',hb1⟩)
  go_ret
  unfold Done
  rw[hE.out]
  exact ⟨rfl,_,h.below hb1,stp_below hb1⟩
 case pos=>
  have hE:=hid (N2.out hq)
  have hq':((moveB b.book src dst sum).2 !=0)=false:=by simpa using hq
  clear N1 N2 hq
  generalize (moveB b.book src dst sum).1=r1 at*
  generalize (moveB b.book src dst sum).2=r2 at*
  go_enter Tryz.func152,Tryz.ntmps152
  go_upto_region 4 with (go_at_call 170;refine hS.mono ?_;rintro e w1 ⟨a',cap',rfl,hl',hp',hn',hb1⟩)
  have H1:=H.below hb1
  have hnew:Ap kU (relab lab w.heap.size 0) w1 (.slice a' r1.length cap') r1 0:=ap_new rfl (ents_lies hl' hn') hp'
  have H2:=H1.put1 (H1.mem.bookTo hnew) (i:=18) (x:=.slice a' r1.length cap') rfl
  have d18:=(blk_cells H1.blk).2.2.2.2.2.2.2.2.2.2.2.2.2.2.2.2.2.2.1
  have f18:=blk_free H1.blk 18
  rw[hv] at d18
  go_wp2
  go_ret
  unfold Done
  rw[hE.out]
  exact ⟨rfl,_,H2.goes,(stp_below hb1).trans (stp_set H1.lb _ _)⟩
theorem putP_no {b:Bank}{i:Bool}{t:Po.Tr}(q:(Po.putS (b.snd i) t).2≠0):putP b i t=(b,(Po.putS (b.snd i) t).2):=by unfold putP;rw[if_pos q]
def sideN (i:Bool):Int:=if i=true then 1 else 0
def backP (b:Bank) (i:Bool) (n:Int):Bank×Int:=
 if (Po.backS (b.snd i) n).2≠0 then (b,(Po.backS (b.snd i) n).2) else ({ b with snd:=upd b.snd i (Po.backS (b.snd i) n).1},0)
theorem backP_no {b:Bank}{i:Bool}{n:Int}(q:(Po.backS (b.snd i) n).2≠0):backP b i n=(b,(Po.backS (b.snd i) n).2):=by unfold backP;rw[if_pos q]
theorem backP_yes {b:Bank}{i:Bool}{n:Int}(q:(Po.backS (b.snd i) n).2=0):backP b i n=({ b with snd:=upd b.snd i (Po.backS (b.snd i) n).1},0):=by unfold backP;rw[if_neg (by simpa using q)]
theorem so_cells'{W:World}{z:Nat}{s:Int}{u:Value}(h:W.heap[z]?=some (.cells #[.int .i64 s,u] 31)):W.cell? ⟨z,0,none⟩=some (.int .i64 s)∧W.cell? ⟨z,1,none⟩=some u:=by
 refine ⟨?_,?_⟩<;>simp[World.cell?,h]
theorem gback (g base:Nat) (lab:Lab) (b:Bank) (tm:Value) (i:Bool) (n:Int) (w:World) (h:Goes w g base lab b tm):
  Calls Tryz.prog 135 #[.pointer (some ⟨g,0,none⟩),.int .i64 (sideN i),.int .i64 n] w (Done w g base lab tm (backP b i n)):=by
 obtain ⟨v,cs,ds,H⟩:=h.hand
 obtain ⟨a,cap,hv,hl,hn⟩:=H.mem.kept i
 obtain ⟨-,-,-,-,-,c5,c6,c7,c8,-⟩:=blk_cells H.blk
 have hS:=Po.back_any (b.snd i) a cap n w hl
 unfold Po.AnswersS Po.sv at hS
 have N1:=hid (backP_no (b:=b) (i:=i) (n:=n))
 have N2:=hid (backP_yes (b:=b) (i:=i) (n:=n))
 by_cases hq:(Po.backS (b.snd i) n).2=0
 case neg=>
  have hE:=hid (N1.out hq)
  have hq':((Po.backS (b.snd i) n).2 !=0)=true:=by simpa using hq
  clear N1 N2 hq
  generalize (Po.backS (b.snd i) n).1=r1 at*
  generalize (Po.backS (b.snd i) n).2=r2 at*
  cases i with
  |false=>
   rw[hv] at c6
   show Calls _ _ #[_,.int .i64 0,_] _ _
   go_enter Tryz.func135,Tryz.ntmps135
   go_wp2_with (go_at_call 160;refine hS.mono ?_;rintro e w1 ⟨u,rfl,hr1,hb1⟩;obtain ⟨a1,cap1,rfl,-,-,-⟩:=hr1.lies)
   go_ret
   unfold Done
   rw[hE.out]
   exact ⟨rfl,_,h.below (bel_alloc hb1 _),stp_below (bel_alloc hb1 _)⟩
  |true=>
   rw[hv] at c8
   show Calls _ _ #[_,.int .i64 1,_] _ _
   go_enter Tryz.func135,Tryz.ntmps135
   go_wp2_with (go_at_call 160;refine hS.mono ?_;rintro e w1 ⟨u,rfl,hr1,hb1⟩;obtain ⟨a1,cap1,rfl,-,-,-⟩:=hr1.lies)
   go_ret
   unfold Done
   rw[hE.out]
   exact ⟨rfl,_,h.below (bel_alloc hb1 _),stp_below (bel_alloc hb1 _)⟩
 case pos=>
  have hE:=hid (N2.out hq)
  have hq':((Po.backS (b.snd i) n).2 !=0)=false:=by simpa using hq
  clear N1 N2 hq
  generalize (Po.backS (b.snd i) n).1=r1 at*
  generalize (Po.backS (b.snd i) n).2=r2 at*
  cases i with
  |false=>
   rw[hv] at c6
   show Calls _ _ #[_,.int .i64 0,_] _ _
   go_enter Tryz.func135,Tryz.ntmps135
   go_upto_region 4 with (go_at_call 160;refine hS.mono ?_;rintro e w1 ⟨u,rfl,hr1,hb1⟩;obtain ⟨a1,cap1,rfl,-,-,-⟩:=hr1.lies)
   have hbW:=bel_alloc hb1 (.cells #[.int .i64 r1.sent,.slice a1 r1.kept.length cap1] 31)
   have hbx:(w1.alloc (.cells #[.int .i64 r1.sent,.slice a1 r1.kept.length cap1] 31)).heap[w1.heap.size]?=some (.cells #[.int .i64 r1.sent,.slice a1 r1.kept.length cap1] 31):=heap_alloc_at _ _ _ rfl
   have hrW:=hr1.alloc (.cells #[.int .i64 r1.sent,.slice a1 r1.kept.length cap1] 31)
   generalize w1.alloc (.cells #[.int .i64 r1.sent,.slice a1 r1.kept.length cap1] 31)=W at*
   generalize w1.heap.size=Z at*
   have H1:=H.below hbW
   have hnew:Ap Po.kT (relab lab w.heap.size 0) W (.slice a1 r1.kept.length cap1) r1.kept 0:=ap_row hrW
   have H2:=H1.put2 (H1.mem.keptTo false hnew) (i:=5) (j:=6) (x:=.int .i64 r1.sent) (y:=.slice a1 r1.kept.length cap1) (by rfl)
   obtain ⟨-,-,-,-,-,d5,d6,-⟩:=blk_cells H1.blk
   have f5:=blk_free H1.blk 5
   have f6:=blk_free H1.blk 6
   obtain ⟨u0,u1⟩:=so_cells' hbx
   rw[hv] at d6
   go_region
   all_goals
    go_wp2_with fail
    go_ret
    unfold Done
    rw[hE.out]
    exact ⟨rfl,_,H2.goes.drew,((stp_below hbW).trans (H1.stp2 _ _ _ _)).drew⟩
  |true=>
   rw[hv] at c8
   show Calls _ _ #[_,.int .i64 1,_] _ _
   go_enter Tryz.func135,Tryz.ntmps135
   go_upto_region 4 with (go_at_call 160;refine hS.mono ?_;rintro e w1 ⟨u,rfl,hr1,hb1⟩;obtain ⟨a1,cap1,rfl,-,-,-⟩:=hr1.lies)
   have hbW:=bel_alloc hb1 (.cells #[.int .i64 r1.sent,.slice a1 r1.kept.length cap1] 31)
   have hbx:(w1.alloc (.cells #[.int .i64 r1.sent,.slice a1 r1.kept.length cap1] 31)).heap[w1.heap.size]?=some (.cells #[.int .i64 r1.sent,.slice a1 r1.kept.length cap1] 31):=heap_alloc_at _ _ _ rfl
   have hrW:=hr1.alloc (.cells #[.int .i64 r1.sent,.slice a1 r1.kept.length cap1] 31)
   generalize w1.alloc (.cells #[.int .i64 r1.sent,.slice a1 r1.kept.length cap1] 31)=W at*
   generalize w1.heap.size=Z at*
   have H1:=H.below hbW
   have hnew:Ap Po.kT (relab lab w.heap.size 0) W (.slice a1 r1.kept.length cap1) r1.kept 0:=ap_row hrW
   have H2:=H1.put2 (H1.mem.keptTo true hnew) (i:=7) (j:=8) (x:=.int .i64 r1.sent) (y:=.slice a1 r1.kept.length cap1) (by rfl)
   obtain ⟨-,-,-,-,-,-,-,d7,d8,-⟩:=blk_cells H1.blk
   have f7:=blk_free H1.blk 7
   have f8:=blk_free H1.blk 8
   obtain ⟨u0,u1⟩:=so_cells' hbx
   rw[hv] at d8
   go_region
   all_goals
    go_wp2_with fail
    go_ret
    unfold Done
    rw[hE.out]
    exact ⟨rfl,_,H2.goes.drew,((stp_below hbW).trans (H1.stp2 _ _ _ _)).drew⟩
end Go.Proofs.YtofcnebekmjdoaaGreatDoor.Bn
