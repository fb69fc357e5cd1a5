import Derived.Test.YtofcnebekmjdoaaGreatDoorKad
set_option maxHeartbeats 4000000
set_option maxRecDepth 100000
namespace Go.Proofs.YtofcnebekmjdoaaGreatDoor.Bk
open Go.RowKit
theorem below_call {w wr w1:World} {o:Obj} (bw:Below w.heap.size w wr) (hb1:Below (wr.alloc o).heap.size (wr.alloc o) w1):Below w.heap.size w w1:=
 bw.trans ((((Below.refl _ _).alloc (Nat.le_refl _) o).mono bw.size).trans (hb1.mono (by have :=bw.size;simp;omega)))
theorem below_up {B:Nat}{wr w1:World}{o:Obj} (s1:B≤wr.heap.size) (hb1:Below (wr.alloc o).heap.size (wr.alloc o) w1):Below B wr w1:=
 (((Below.refl _ _).alloc (Nat.le_refl _) o).trans (hb1.mono (by simp))).mono s1
theorem after_call{w wr w1:World}{x:Int×Int}(s1:w.heap.size+1≤wr.heap.size)
  (r0:wr.cell? ⟨w.heap.size,0,none⟩=some (.int .i64 0)) (r1:wr.cell? ⟨w.heap.size,1,none⟩=some (.int .i64 0))
  (f0:wr.frozen? ⟨w.heap.size,0,none⟩=false) (f1:wr.frozen? ⟨w.heap.size,1,none⟩=false)
  (hb1:Below (wr.alloc (.cells #[.int .i64 x.1,.int .i64 x.2] 114)).heap.size (wr.alloc (.cells #[.int .i64 x.1,.int .i64 x.2] 114)) w1):
  w1.cell? ⟨w.heap.size,0,none⟩=some (.int .i64 0)∧w1.cell? ⟨w.heap.size,1,none⟩=some (.int .i64 0)∧w1.frozen? ⟨w.heap.size,0,none⟩=false∧w1.frozen? ⟨w.heap.size,1,none⟩=false∧
  w1.cell? ⟨wr.heap.size,0,none⟩=some (.int .i64 x.1)∧w1.cell? ⟨wr.heap.size,1,none⟩=some (.int .i64 x.2)∧wr.heap.size+1≤w1.heap.size∧
  ∀b o,b<wr.heap.size→w1.cell? ⟨b,o,none⟩=wr.cell? ⟨b,o,none⟩:=by
 have s2:=hb1.size
 simp only[World.size_alloc] at s2
 have a1:∀b o,b<wr.heap.size→w1.cell? ⟨b,o,none⟩=wr.cell? ⟨b,o,none⟩:=fun b o h=>(hb1.cell (p:=⟨b,o,none⟩) (by simp;omega)).trans (World.cell?_alloc_past _ _ _ h)
 have a2:∀b o,b<wr.heap.size→w1.frozen? ⟨b,o,none⟩=wr.frozen? ⟨b,o,none⟩:=fun b o h=>(hb1.frozen (p:=⟨b,o,none⟩) (by simp;omega)).trans (World.frozen?_alloc_past _ _ _ h)
 refine ⟨(a1 _ _ (by omega)).trans r0,(a1 _ _ (by omega)).trans r1,(a2 _ _ (by omega)).trans f0,(a2 _ _ (by omega)).trans f1,?_,?_,s2,a1⟩
 ·exact (hb1.cell (p:=⟨wr.heap.size,0,none⟩) (by simp)).trans (by rw[World.cell?_alloc_at _ _ _ _ rfl];rfl)
 ·exact (hb1.cell (p:=⟨wr.heap.size,1,none⟩) (by simp)).trans (by rw[World.cell?_alloc_at _ _ _ _ rfl];rfl)
theorem wrong_any (a:Option Addr) (cap:Nat) (L:List (Int×Int)) (w:World) (hL:Ents w a L):
  Calls Tryz.prog 24 #[.slice a L.length cap] w fun e w'=>e=.returned (.agg #[.int .i64 (wrong L).1,.int .i64 (wrong L).2])∧Below w.heap.size w w':=by
 obtain ⟨hm,hL⟩:=hL
 unfold maxLen at hm
 have b1:Below w.heap.size w (w.alloc (.cells #[.int .i64 0,.int .i64 0] 47)):=(Below.refl _ _).alloc (Nat.le_refl _) _
 go_enter Tryz.func24,Tryz.ntmps24
 go_wp2
 go_loopw[3,8] (fun t i wr=>∃(k:Nat) (tot:Int),k≤L.length∧i=.int .i64 k∧t=.int .i64 tot∧-58000000000000≤tot∧tot≤58000000000000∧Hid (Good L k tot)∧Below (w.heap.size +1) (w.alloc (.cells #[.int .i64 0,.int .i64 0] 47)) wr) (fun _ i _=>L.length-(intOf i).toNat)
 case atStart=>exact ⟨0,0,Nat.zero_le _,rfl,rfl,by omega,by omega,good_zero L,Below.refl _ _⟩
 case round=>
  obtain ⟨k,tot,hk,rfl,rfl,t1,t2,hg,hb⟩:=hrel
  by_cases hlt:k<L.length
  ·rcases hL with rfl|⟨b,off,rfl,hbl,hcell⟩
   ·simp at hlt
   obtain ⟨c1,c2⟩:=hcell k hlt
   have hlt':(k :Int)<L.length:=by omega
   have bw:=b1.trans (hb.mono (by omega))
   have e1:=(bw.cell (p:=⟨b,off+k*2,none⟩) hbl).trans c1
   have e2:=(bw.cell (p:=⟨b,off+k*2+1,none⟩) hbl).trans c2
   have eP:0<k→wr.cell? ⟨b,off+(k-1)*2,none⟩=some (.int .i64 (L.getD (k -1) (0,0)).1):=fun h0=>(bw.cell (p:=⟨b,off+(k-1)*2,none⟩) hbl).trans (hcell (k-1) (by omega)).1
   have s1:=hb.size
   simp only[World.size_alloc] at s1
   have r0:wr.cell? ⟨w.heap.size,0,none⟩=some (.int .i64 0):=(hb.cell (p:=⟨w.heap.size,0,none⟩) (by simp)).trans (by rw[World.cell?_alloc_at _ _ _ _ rfl];rfl)
   have r1:wr.cell? ⟨w.heap.size,1,none⟩=some (.int .i64 0):=(hb.cell (p:=⟨w.heap.size,1,none⟩) (by simp)).trans (by rw[World.cell?_alloc_at _ _ _ _ rfl];rfl)
   have f0:wr.frozen? ⟨w.heap.size,0,none⟩=false:=(hb.frozen (p:=⟨w.heap.size,0,none⟩) (by simp)).trans (World.frozen?_alloc_at _ _ _ _ rfl)
   have f1:wr.frozen? ⟨w.heap.size,1,none⟩=false:=(hb.frozen (p:=⟨w.heap.size,1,none⟩) (by simp)).trans (World.frozen?_alloc_at _ _ _ _ rfl)
   have G:=fun h=>hg.out.range hlt h
   have G2:=fun h=>hg.out.zero hlt h
   have G3:=fun h=>hg.out.order hlt h
   have G4:=fun h=>hg.out.next hlt h
   clear c1 c2 hcell
   generalize hx:L.getD k (0,0)=x at*
   have Hx:Hid (L.getD k (0,0)=x):=hx
   clear hx
   by_cases hr:inR x=false
   ·have HG:Hid (wrong L=(3,(k :Int))):=G hr
    clear G G2 G3 G4 hg
    go_wp2_with fail
    refine (inRange_any x _).mono ?_
    rintro e w1 ⟨rfl,hb1⟩
    rw[hr]
    obtain ⟨R0,R1,F0,F1,-,-,s2,-⟩:=after_call s1 r0 r1 f0 f1 hb1
    go_wp2
    refine bodyPost_ret (v:=.agg #[.int .i64 3,.int .i64 k]) (by simp[results,Tryz.results24,go_sem,R0,R1]) rfl ⟨?_,((below_call bw hb1).setCell (Nat.le_refl _) _).setCell (Nat.le_refl _) _⟩
    rw[HG.out]
   ·have hr:inR x=true:=by simpa using hr
    by_cases hz:x.2=0
    ·have HG:Hid (wrong L=(2,(k :Int))):=G2 hr hz
     have hz':(x.2==0)=true:=by simpa using hz
     clear G G2 G3 G4 hg hz eP
     go_wp2_with fail
     refine (inRange_any x _).mono ?_
     rintro e w1 ⟨rfl,hb1⟩
     rw[hr]
     obtain ⟨R0,R1,F0,F1,Q0,Q1,s2,-⟩:=after_call s1 r0 r1 f0 f1 hb1
     go_wp2
     go_quiet (fail)
     go_wp2
     refine bodyPost_ret (v:=.agg #[.int .i64 2,.int .i64 k]) (by simp[results,Tryz.results24,go_sem,R0,R1]) rfl ⟨?_,((below_drewN (below_call bw hb1) _).setCell (Nat.le_refl _) _).setCell (Nat.le_refl _) _⟩
     rw[HG.out]
    ·have hz':(x.2==0)=false:=by simpa using hz
     by_cases h0:k=0
     ·have HG:=hid (G4 hr hz (by omega))
      have rb:=inR_true.1 hr
      obtain ⟨-,-,rb1,rb2⟩:=rb
      have hk0:decide (0 <k)=false:=by simp;omega
      have hk1:=hg.out.few
      have tb1:=HG.out.lo
      have tb2:=HG.out.hi
      have hk2:=HG.out.few
      have T1:-58000000000000≤tot+x.2:=by omega
      have T2:tot+x.2≤58000000000000:=by omega
      clear G G2 G3 G4 hg hz eP h0 tb1 tb2
      go_wp2_with fail
      refine (inRange_any x _).mono ?_
      rintro e w1 ⟨rfl,hb1⟩
      rw[hr]
      obtain ⟨R0,R1,F0,F1,Q0,Q1,s2,-⟩:=after_call s1 r0 r1 f0 f1 hb1
      go_wp2
      go_quiet (fail)
      go_wp2
      go_roundw
      case rel=>exact ⟨k+1,tot+x.2,by omega,by go_num,rfl,T1,T2,HG,hb.trans (below_drewN (below_up s1 hb1) _)⟩
      case measure=>simp[intOf];omega
     ·have hk0:decide (0<k)=true:=by simp;omega
      have hk1:0<k:=by omega
      have EP:=eP (by omega)
      generalize hp:(L.getD (k-1) (0,0)).1=pv at*
      clear hp
      by_cases hq:x.1≤pv
      ·have HG:=hid (G3 hr hz (by omega) hq)
       clear G G2 G3 G4 hg hz eP h0
       go_wp2_with fail
       refine (inRange_any x _).mono ?_
       rintro e w1 ⟨rfl,hb1⟩
       rw[hr]
       obtain ⟨R0,R1,F0,F1,Q0,Q1,s2,A1⟩:=after_call s1 r0 r1 f0 f1 hb1
       have EP1:=(A1 b (off+(k -1)*2) (by omega)).trans EP
       clear A1
       go_wp2
       go_quiet (fail)
       go_wp2
       refine bodyPost_ret (v:=.agg #[.int .i64 2,.int .i64 k]) (by simp[results,Tryz.results24,go_sem,R0,R1]) rfl ⟨?_,((below_drewN (below_call bw hb1) _).setCell (Nat.le_refl _) _).setCell (Nat.le_refl _) _⟩
       rw[HG.out]
      ·have HG:=hid (G4 hr hz (by omega))
       obtain ⟨-,-,rb1,rb2⟩:=inR_true.1 hr
       have tb1:=HG.out.lo
       have tb2:=HG.out.hi
       have hk2:=HG.out.few
       have T1:-58000000000000≤tot+x.2:=by omega
       have T2:tot+x.2≤58000000000000:=by omega
       clear G G2 G3 G4 hg hz eP h0 tb1 tb2
       go_wp2_with fail
       refine (inRange_any x _).mono ?_
       rintro e w1 ⟨rfl,hb1⟩
       rw[hr]
       obtain ⟨R0,R1,F0,F1,Q0,Q1,s2,A1⟩:=after_call s1 r0 r1 f0 f1 hb1
       have EP1:=(A1 b (off+(k -1)*2) (by omega)).trans EP
       clear A1
       go_wp2
       go_quiet (fail)
       go_wp2
       go_roundw
       case rel=>exact ⟨k+1,tot+x.2,by omega,by go_num,rfl,T1,T2,HG,hb.trans (below_drewN (below_up s1 hb1) _)⟩
       case measure=>simp[intOf];omega
  ·have s1:=hb.size
   simp only[World.size_alloc] at s1
   have bw:=b1.trans (hb.mono (by omega))
   have r0:wr.cell? ⟨w.heap.size,0,none⟩=some (.int .i64 0):=(hb.cell (p:=⟨w.heap.size,0,none⟩) (by simp)).trans (by rw[World.cell?_alloc_at _ _ _ _ rfl];rfl)
   have r1:wr.cell? ⟨w.heap.size,1,none⟩=some (.int .i64 0):=(hb.cell (p:=⟨w.heap.size,1,none⟩) (by simp)).trans (by rw[World.cell?_alloc_at _ _ _ _ rfl];rfl)
   have f0:wr.frozen? ⟨w.heap.size,0,none⟩=false:=(hb.frozen (p:=⟨w.heap.size,0,none⟩) (by simp)).trans (World.frozen?_alloc_at _ _ _ _ rfl)
   have f1:wr.frozen? ⟨w.heap.size,1,none⟩=false:=(hb.frozen (p:=⟨w.heap.size,1,none⟩) (by simp)).trans (World.frozen?_alloc_at _ _ _ _ rfl)
   by_cases hz:tot=0
   ·have HG:=hid (hg.out.done (by omega) hz)
    have hz':(tot !=0)=false:=by simpa using hz
    clear hz hg
    go_wp2
    refine bodyPost_ret (v:=.agg #[.int .i64 0,.int .i64 0]) (by simp[results,Tryz.results24,go_sem,r0,r1]) rfl ⟨?_,(bw.setCell (Nat.le_refl _) _).setCell (Nat.le_refl _) _⟩
    rw[HG.out]
   ·have HG:=hid (hg.out.fit (by omega) hz)
    have hz':(tot !=0)=true:=by simpa using hz
    clear hz hg
    go_wp2
    refine bodyPost_ret (v:=.agg #[.int .i64 8,.int .i64 0]) (by simp[results,Tryz.results24,go_sem,r0,r1]) rfl ⟨?_,(bw.setCell (Nat.le_refl _) _).setCell (Nat.le_refl _) _⟩
    rw[HG.out]
def row58 (f:Nat→Int):Array Value:=((List.range 58).map fun i=>Value.int .i64 (f i)).toArray
def Sums (w:World) (S:Nat) (f:Nat→Int):Prop:=w.heap[S]?=some (.cells (row58 f) 198 (0,0))
theorem row58_size (f:Nat→Int):(row58 f).size=58:=by simp[row58]
theorem row58_at (f:Nat→Int) (i:Nat) (h:i<58):(row58 f)[i]?=some (.int .i64 (f i)):=by simp[row58,h]
theorem row58_set (f:Nat→Int) (i:Nat) (v:Int):(row58 f).setIfInBounds i (.int .i64 v)=row58 (upd f i v):=by
 apply Array.ext_getElem?
 intro j
 rw[Array.getElem?_setIfInBounds]
 by_cases hj:j<58
 ·rw[row58_at _ _ hj,row58_at _ _ hj,row58_size]
  unfold upd
  by_cases e:i=j
  ·subst e;simp[hj]
  ·simp[e,show¬j=i from fun h=>e h.symm]
 ·have h1:∀g,(row58 g)[j]?=none:=fun g=>Array.getElem?_eq_none (by rw[row58_size];omega)
  rw[h1,h1,row58_size]
  by_cases e:i=j
  ·subst e;simp[hj]
  ·simp[e]
theorem Sums.lt {w:World} {S:Nat} {f:Nat→Int}(h:Sums w S f):S<w.heap.size:=by
 rcases Nat.lt_or_ge S w.heap.size with hl|hl
 ·exact hl
 ·have :=Array.getElem?_eq_none hl;unfold Sums at h;rw[this] at h;cases h
theorem Sums.cell {w:World}{S:Nat}{f:Nat→Int}(h:Sums w S f){i:Nat}(hi:i<58):w.cell? ⟨S,i,none⟩=some (.int .i64 (f i)):=by
 simp only[World.cell?];rw[h];simpa using row58_at f i hi
theorem Sums.frozen {w:World} {S:Nat} {f:Nat→Int} (h:Sums w S f) (i:Nat):w.frozen? ⟨S,i,none⟩=false:=by
 simp only[World.frozen?];rw[h];simp
theorem Sums.set {w:World} {S:Nat} {f:Nat→Int}(h:Sums w S f) (i:Nat) (v:Int):Sums (w.setCell ⟨S,i,none⟩ (.int .i64 v)) S (upd f i v):=by
 unfold Sums at*
 rw[heap_setCell_same w S i _ _ _ h,row58_set]
theorem Sums.below {w w':World} {S B:Nat} {f:Nat→Int} (h:Sums w S f) (hb:Below B w w') (hB:S<B):Sums w' S f:=(hb.block S hB).trans h
theorem Sums.born (w:World):Sums (w.alloc (.cells (row58 fun _=>0) 198)) w.heap.size (fun _=>0):=by
 show (w.heap.push _)[w.heap.size]?=_
 rw[Array.getElem?_push_size]
theorem ledger_any (w:World):
  Calls Tryz.prog 186 #[] w fun e w'=>e=.returned (.tuple #[.func (.func 189) #[] #[.pointer (some ⟨w.heap.size,0,none⟩)],.func (.func 190) #[] #[.pointer (some ⟨w.heap.size,0,none⟩)]])∧
   Below w.heap.size w w'∧Sums w' w.heap.size (fun _=>0)∧w'.heap.size=w.heap.size+1:=by
 have hmf:∀(fn:Fn) (first cap:Array Value) (w:World),(Instr.makeFunc fn first cap).run Tryz.prog w=.ok (.func fn first cap) w:=fun _ _ _ _=>rfl
 have hs:=hid (Sums.born w)
 go_enter Tryz.func186,Tryz.ntmps186
 go_wp2
 go_ret2
 exact ⟨rfl,(Below.refl _ _).alloc (Nat.le_refl _) _,hs.out,by simp⟩
theorem add_any (x1 x2:Int) (S:Nat) (f:Nat→Int) (w:World) (hs:Sums w S f) (i:Nat) (hx:x1=i) (hi:i<58) (f1:-100000000000000≤f i) (f2:f i≤100000000000000) (v1:-1000000000000≤x2) (v2:x2≤1000000000000):
  Calls Tryz.prog 189 #[.agg #[.int .i64 x1,.int .i64 x2],.pointer (some ⟨S,0,none⟩)] w fun e w'=>
   e=.returned (.bool (inTot (f i+x2)))∧Below S w w'∧Sums w' S (upd f i (f i+x2)):=by
 subst hx
 have HS:=hid hs
 have hlt:=hs.lt
 have c0:=hs.cell hi
 have z0:=hs.frozen i
 generalize f i=y at*
 have c1:∀o,(w.alloc o).cell? ⟨S,i,none⟩=some (.int .i64 y):=fun o=>(World.cell?_alloc_past _ _ _ hlt).trans c0
 have z1:∀o,(w.alloc o).frozen? ⟨S,i,none⟩=false:=fun o=>(World.frozen?_alloc_past _ _ _ hlt).trans z0
 clear hs
 go_enter Tryz.func189,Tryz.ntmps189
 go_wp2
 go_region
 go_wp2_with (go_at_call 90;refine (inTotal_any _ _).mono ?_;rintro e w' ⟨rfl,rfl⟩)
 go_ret
 refine ⟨rfl,(((Below.refl S w).setCell (Nat.le_refl _) _).alloc (by simp;omega) _).drew,?_⟩
 exact (HS.out.set i (y +x2)).below ((Below.refl (S+1) _).alloc (by simp;omega) _).drew (by omega)
theorem info_parts {P:Program} {e:TypeId} {z:Value} {size bytes:Nat}(h:(P.info? e).map (fun i=>(i.zero,i.size,i.bytes))=some (some z,size,bytes)):
  ∃i,P.info? e=some i∧i.zero=some z∧i.size=size∧i.bytes=bytes:=by
 cases hi:P.info? e with
 |none=>simp[hi] at h
 |some i=>simp[hi] at h;exact ⟨i,rfl,h⟩
theorem info35:(Tryz.prog.info? 114).map (fun i=>(i.zero,i.size,i.bytes))=some (some (.agg #[.int .i64 0,.int .i64 0]),2,16):=by kernel_rfl
theorem size44:(Tryz.prog.info? 198).map (·.size)=some 58:=by kernel_rfl
def flat (L:List (Int ×Int)):List Value:=L.flatMap fun e=>[Value.int .i64 e.1,Value.int .i64 e.2]
theorem flat_snoc (L:List (Int ×Int)) (e:Int×Int):flat (L ++[e])=flat L++[Value.int .i64 e.1,Value.int .i64 e.2]:=by simp [flat]
theorem index44 (f:Nat→Int) (k:Nat) (h:k<58) (w:World):(Instr.index 198 (.agg (row58 f)) (.int .i64 k)).run Tryz.prog w=.ok (.int .i64 (f k)) w:=by
 simp[Instr.index,run_underlying Tryz.underlying198,asIntOf,go_sem,row58_at f k h]
 intro hc
 omega
theorem ownBlock_ge{w:World}{base:Nat}{e:TypeId}{size:Nat}{v:Value}{n:Nat}{xs:List Value}(h:w.ownsRow base e size v n xs):∀k,v.ownBlock=some k→base≤k:=by
 intro k hk
 rcases h.2 with ⟨rfl,-⟩|⟨g,cap,cur,rfl,hg,-⟩
 ·cases hk
 ·cases hk;exact hg
theorem ents_of_owns{w:World}{base:Nat}{v:Value}{L:List (Int ×Int)}(h:w.ownsRow base 114 2 v L.length (flat L)):∃a cap,v=.slice a L.length cap∧Ents w a L:=by
 obtain ⟨-,h⟩:=h
 rcases h with ⟨rfl,hn⟩|⟨g,cap,cur,rfl,hg,hh,hn,hm,hc,hx⟩
 ·rw[hn]
  exact ⟨none,0,rfl,by simp[maxLen,hn],Or.inl (List.eq_nil_of_length_eq_zero hn)⟩
 ·have hlt:g<w.heap.size:=by
   rcases Nat.lt_or_ge g w.heap.size with hl|hl
   ·exact hl
   ·rw[Array.getElem?_eq_none hl] at hh;cases hh
  have key:∀j u,(flat L)[j]?=some u→w.cell? ⟨g,j,none⟩=some u:=by
   intro j u hj
   simp only[World.cell?,hh]
   rw[←hx,List.getElem?_take] at hj
   split at hj
   ·simpa using hj
   ·cases hj
  refine ⟨some ⟨g,0,none⟩,cap,rfl,Nat.le_trans hn hm,Or.inr ⟨g,0,rfl,hlt,fun i hi=>?_⟩⟩
  have hfl:∀(M:List (Int×Int)) (i:Nat),i<M.length→(flat M)[i*2]?=some (.int .i64 (M.getD i (0,0)).1)∧(flat M)[i*2+1]?=some (.int .i64 (M.getD i (0,0)).2):=by
   intro M
   induction M with
   |nil=>intro i hi;simp at hi
   |cons e r ih=>
    intro i hi
    cases i with
    |zero=>simp[flat]
    |succ i=>
     have:= ih i (by simpa using hi)
     have e1:(i+1)*2=i*2+1+1:=by omega
     rw[e1]
     simpa[flat] using this
  obtain ⟨k1,k2⟩:=hfl L i hi
  rw[Nat.zero_add]
  exact ⟨key _ _ k1,key _ _ k2⟩
theorem listed_any (S:Nat) (f:Nat→Int) (w:World) (hs:Sums w S f):
  Calls Tryz.prog 190 #[.pointer (some ⟨S,0,none⟩)] w fun e w'=>
   ∃v,e=.returned v∧w'.ownsRow w.heap.size 114 2 v (listE f 58).length (flat (listE f 58))∧Below w.heap.size w w':=by
 obtain ⟨i0,hi,hz0,hz1,hz2⟩:=info_parts info35
 go_enter Tryz.func190,Tryz.ntmps190
 go_wp2_with (refine wpList_load_row rfl 198 _ rfl S rfl 198 _ (0,0) _ hs Tryz.underlying198 rfl (by rw[row58_size];exact size44) ?_)
 go_loopw[2,6](fun v i wr=>∃k:Nat,k≤58∧i=.int .i64 k∧wr.ownsRow w.heap.size 114 2 v (listE f k).length (flat (listE f k))∧Below w.heap.size w wr) (fun _ i _=>58-(intOf i).toNat)
 case atStart=>exact ⟨0,by omega,rfl,World.ownsRow_nil _ _ _ _,Below.refl _ _⟩
 case round=>
  obtain ⟨k,hk,rfl,hown,hb⟩:=hrel
  by_cases hlt:k<58
  ·have hlt':(k :Int)<58:=by omega
   have hix:=index44 f k hlt
   have hle:=listE_le f k
   by_cases hz:f k=0
   ·have hz':(f k !=0)=false:=by simpa using hz
    have HM:=hid (listE_miss f k hz)
    clear hz
    go_wp2
    go_roundw
    case rel=>exact ⟨k+1,by omega,by go_num,by rw[HM.out];exact hown,hb⟩
    case measure=>simp[intOf];omega
   ·have hz':(f k !=0)=true:=by simpa using hz
    have HM:=hid (listE_hit f k hz)
    clear hz
    generalize f k=y at*
    go_wp2_with (at_builtin;refine wpList_append_own _ rfl _ _ 41 rfl w.heap.size 114 i0 (.agg #[.int .i64 0,.int .i64 0]) 2 16 Tryz.underlying41 hi hz0 hz1 hz2 rfl (by decide) _ _ _ rfl (hown.alloc _) ⟨wr.heap.size,0,none⟩ 1 1 [.int .i64 k,.int .i64 y] rfl rfl ?c1 ?c2 ?c3 ?c4 ?c5 ?_)
    case c1=>exact cell_two_new _ _ _ _
    case c2=>intro u hu;simp at hu;rcases hu with rfl|rfl<;>rfl
    case c3=>unfold maxLen;omega
    case c4=>omega
    case c5=>have:= hb.size;simp;omega
    intro v' w1 hown' hgrow _
    have hb':Below w.heap.size w w1:=(hb.alloc hb.size _).grown hgrow (by have :=hb.size;simp;omega) (ownBlock_ge hown)
    clear hgrow hown
    go_wp2
    go_roundw
    case rel=>exact ⟨k+1,by omega,by go_num,by rw[HM.out,flat_snoc,List.length_append];exact hown',hb'⟩
    case measure=>simp[intOf];omega
  ·have hk58:k=58:=by omega
   subst hk58
   go_wp2
   go_ret
   exact ⟨_,rfl,hown,hb⟩
theorem wrongEntries_any (a:Option Addr) (cap:Nat) (L:List (Int ×Int)) (w:World) (hL:Ents w a L):
  Calls Tryz.prog 185 #[.slice a L.length cap] w fun e w'=>e=.returned (.int .i64 (wrongEs L))∧Below w.heap.size w w':=by
 obtain ⟨hm,hL⟩:=hL
 unfold maxLen at hm
 by_cases hf:10<L.length
 ·have HG:=hid (wrongEs_many hf)
  have hf':(10:Int)<L.length:=by omega
  go_enter Tryz.func185,Tryz.ntmps185
  go_wp2
  go_ret
  exact ⟨ret_int HG.out.symm,Below.refl _ _⟩
 have HE:=hid (wrongEs_few (E:=L) (by omega))
 have hf':(L.length :Int)≤10:=by omega
 go_enter Tryz.func185,Tryz.ntmps185
 go_wp2
 go_loopw[3,11] (fun t i wr=>∃(k:Nat) (tot:Int),k≤L.length∧i=.int .i64 k∧t=.int .i64 tot∧-10000000000000≤tot∧tot≤10000000000000∧Hid (GoodE L k tot)∧Below w.heap.size w wr) (fun _ i _=>L.length-(intOf i).toNat)
 case atStart=>exact ⟨0,0,Nat.zero_le _,rfl,rfl,by omega,by omega,goodE_zero L,Below.refl _ _⟩
 case round=>
  obtain ⟨k,tot,hk,rfl,rfl,t1,t2,hg,hb⟩:=hrel
  by_cases hlt:k<L.length
  ·rcases hL with rfl|⟨b,off,rfl,hbl,hcell⟩
   ·simp at hlt
   obtain ⟨c1,c2⟩:=hcell k hlt
   have hlt':(k :Int)<L.length:=by omega
   have e1:=(hb.cell (p:=⟨b,off+k*2,none⟩) hbl).trans c1
   have e2:=(hb.cell (p:=⟨b,off+k*2+1,none⟩) hbl).trans c2
   have s1:=hb.size
   have G:=fun h=>hg.out.range hlt h
   have G4:=fun h=>hg.out.next hlt h
   clear c1 c2 hcell
   generalize hx:L.getD k (0,0)=x at*
   clear hx
   by_cases hr:inR x=false
   ·have HG:=hid (G hr)
    clear G G4 hg
    go_wp2_with fail
    refine (inRange_any x _).mono ?_
    rintro e w1 ⟨rfl,hb1⟩
    rw[hr]
    go_wp2
    go_ret
    exact ⟨ret_int (by rw[HE.out,HG.out]),hb.trans (below_up s1 hb1)⟩
   ·have hr:inR x=true:=by simpa using hr
    have HG:=hid (G4 hr)
    obtain ⟨-,-,rb1,rb2⟩:=inR_true.1 hr
    have tb1:=HG.out.lo
    have tb2:=HG.out.hi
    have T1:-10000000000000≤tot+x.2:=by omega
    have T2:tot+x.2≤10000000000000:=by omega
    clear G G4 hg tb1 tb2
    go_wp2_with fail
    refine (inRange_any x _).mono ?_
    rintro e w1 ⟨rfl,hb1⟩
    rw[hr]
    have q1:w1.cell? ⟨wr.heap.size,1,none⟩=some (.int .i64 x.2):=(hb1.cell (p:=⟨wr.heap.size,1,none⟩) (by simp)).trans (by rw[World.cell?_alloc_at _ _ _ _ rfl];rfl)
    go_wp2
    go_roundw
    case rel=>exact ⟨k+1,tot+x.2,by omega,by go_num,rfl,T1,T2,HG,hb.trans (below_up s1 hb1)⟩
    case measure=>simp[intOf];omega
  ·by_cases hz:tot=0
   ·have HG:=hid (hg.out.done (by omega) hz)
    have hz':(tot !=0)=false:=by simpa using hz
    clear hz hg
    go_wp2
    go_ret
    exact ⟨ret_int (by rw[HE.out,HG.out]),hb⟩
   ·have HG:=hid (hg.out.fit (by omega) hz)
    have hz':(tot !=0)=true:=by simpa using hz
    clear hz hg
    go_wp2
    go_ret
    exact ⟨ret_int (by rw[HE.out,HG.out]),hb⟩
def Answers (w:World) (r:List (Int×Int)×Int) (e:Ending) (w':World):Prop:=
 ∃a cap,e=.returned (.tuple #[.slice a r.1.length cap,.int .i64 r.2])∧Ents w' a r.1∧Below w.heap.size w w'
def AnswersN (w:World) (r:List (Int×Int)×Int) (e:Ending) (w':World):Prop:=
 ∃a cap,e=.returned (.tuple #[.slice a r.1.length cap,.int .i64 r.2])∧Ents w' a r.1∧(∀ad,a=some ad→w.heap.size≤ad.block)∧(a =none→cap=0)∧Below w.heap.size w w'
theorem ents_new {w:World} {base:Nat} {v:Value} {L:List (Int×Int)} (h:w.ownsRow base 114 2 v L.length (flat L)):∃a cap,v=.slice a L.length cap∧Ents w a L∧(∀ ad,a=some ad→base≤ad.block)∧(a =none→cap=0):=by
 obtain ⟨a,cap,hv,hE⟩:=ents_of_owns h
 rcases h.2 with ⟨h0,-⟩|⟨g,cap',cur,h0,hg,-⟩
 ·rw[hv] at h0
  obtain ⟨rfl,-,rfl⟩:=Value.slice.inj h0
  exact ⟨none,0,hv,hE,(fun _ h=>by cases h),fun _=>rfl⟩
 ·rw[hv] at h0
  obtain ⟨rfl,-,-⟩:=Value.slice.inj h0
  exact ⟨_,cap,hv,hE,(fun _ h=>by cases h;exact hg),fun h=>by cases h⟩
theorem ents_nil (w:World) (a:Option Addr):Ents w a []:=⟨by simp[maxLen],Or.inl rfl⟩
theorem post_bad (a:Option Addr) (cap:Nat) (l:List (Int×Int)) (a2:Option Addr) (cap2:Nat) (E:List (Int ×Int)) (w:World) (hl:Ents w a l) (_hE:Ents w a2 E) (hw:(wrong l).1≠0):
  Calls Tryz.prog 180 #[.slice a l.length cap,.slice a2 E.length cap2] w fun e w'=>AnswersN w (post l E) e w':=by
 have HP:=hid (post_wrong (E:=E) hw)
 have hne:((wrong l).1 !=0)=true:=by simpa using hw
 clear hw
 go_enter Tryz.func180,Tryz.ntmps180
 go_wp2_with fail
 refine (wrong_any _ _ _ _ hl).mono ?_
 rintro e w1 ⟨rfl,hb1⟩
 generalize wrong l=r at*
 go_wp2
 go_quiet (fail)
 go_wp2
 go_ret2
 unfold AnswersN
 rw[HP.out]
 exact ⟨none,0,rfl,ents_nil _ _,(fun _ h=>by cases h),(fun _=>rfl),below_drewN (hb1.alloc hb1.size _) _⟩
theorem post_entr (a:Option Addr) (cap:Nat) (l:List (Int×Int)) (a2:Option Addr) (cap2:Nat) (E:List (Int×Int)) (w:World) (hl:Ents w a l) (hE:Ents w a2 E) (hw:(wrong l).1=0) (hw2:wrongEs E≠0):
  Calls Tryz.prog 180 #[.slice a l.length cap,.slice a2 E.length cap2] w fun e w'=>AnswersN w (post l E) e w':=by
 have HP:=hid (post_entries hw hw2)
 have hne:((wrong l).1 !=0)=false:=by simpa using hw
 have hne2:(wrongEs E !=0)=true:=by simpa using hw2
 clear hw hw2
 go_enter Tryz.func180,Tryz.ntmps180
 go_wp2_with fail
 refine (wrong_any _ _ _ _ hl).mono ?_
 rintro e w1 ⟨rfl,hb1⟩
 generalize wrong l=r at*
 have hE1:∀o,Ents (w1.alloc o) a2 E:=fun o=>hE.below (hb1.alloc hb1.size o)
 go_wp2_with fail
 refine (wrongEntries_any _ _ _ _ (hE1 _)).mono ?_
 rintro e w2 ⟨rfl,hb2⟩
 go_wp2
 go_ret2
 unfold AnswersN
 rw[HP.out]
 exact ⟨none,0,rfl,ents_nil _ _,(fun _ h=>by cases h),(fun _=>rfl),(hb1.alloc hb1.size _).trans (hb2.mono (by have:= hb1.size;simp;omega))⟩
theorem post_good (a:Option Addr) (cap:Nat) (l:List (Int ×Int)) (a2:Option Addr) (cap2:Nat) (E:List (Int ×Int)) (w:World) (hl:Ents w a l) (hE:Ents w a2 E) (hw:(wrong l).1=0) (hw2:wrongEs E=0):
  Calls Tryz.prog 180 #[.slice a l.length cap,.slice a2 E.length cap2] w fun e w'=>AnswersN w (post l E) e w':=by
 have HR:=hid (wrong_ok.1 hw)
 have HE:=hid (wrongEs_ok.1 hw2)
 have HP:=hid (post_much hw hw2)
 have HQ:=hid (fun f=>post_done (f:=f) hw hw2)
 have hne:((wrong l).1 !=0)=false:=by simpa using hw
 have hne2:(wrongEs E !=0)=false:=by simpa using hw2
 clear hw hw2
 go_enter Tryz.func180,Tryz.ntmps180
 go_wp2_with fail
 refine (wrong_any _ _ _ _ hl).mono ?_
 rintro e w1 ⟨rfl,hb1⟩
 generalize (wrong l).1=r at*
 generalize (wrong l).2=r2 at*
 have hE1:∀o,Ents (w1.alloc o) a2 E:=fun o=>hE.below (hb1.alloc hb1.size o)
 go_wp2_with fail
 refine (wrongEntries_any _ _ _ _ (hE1 _)).mono ?_
 rintro e w2 ⟨rfl,hb2⟩
 generalize wrongEs E=r3 at*
 have hb12:Below w.heap.size w w2:=(hb1.alloc hb1.size _).trans (hb2.mono (by have:= hb1.size;simp;omega))
 clear hE1 hb2
 go_wp2_with fail
 refine (ledger_any _).mono ?_
 rintro e w3 ⟨rfl,hb3,hs3,hz3⟩
 have hb13:Below w.heap.size w w3:=hb12.trans (hb3.mono hb12.size)
 have hsz2:=hb12.size
 generalize w2.heap.size=S at*
 clear hb1 hb12 hb3 hz3
 obtain ⟨hm,hl⟩:=hl
 obtain ⟨hm2,hE⟩:=hE
 unfold maxLen at hm hm2
 have hfew:l.length≤58:=HR.out.few
 have hfew2:E.length≤10:=HE.out.1
 go_wp2
 go_loopw[32] (fun i wr=>∃(k:Nat) (g:Nat→Int),k≤l.length∧i=.int .i64 k∧Hid (AddL l k g)∧Sums wr S g∧Below w.heap.size w wr) (fun i _=>l.length-(intOf i).toNat)
 case atStart=>exact ⟨0,zeroF,Nat.zero_le _,rfl,addL_zero l,hs3,hb13⟩
 case round=>
  obtain ⟨k,g,hk,rfl,hg,hs,hb⟩:=hrel
  have s1:=hb.size
  have hS:=hs.lt
  by_cases hlt:k<l.length
  ·rcases hl with rfl|⟨b,off,rfl,hbl,hcell⟩
   ·simp at hlt
   obtain ⟨c1,c2⟩:=hcell k hlt
   have hlt':(k:Int)<l.length:=by omega
   have e1:=(hb.cell (p:=⟨b,off+k*2,none⟩) hbl).trans c1
   have e2:=(hb.cell (p:=⟨b,off+k*2+1,none⟩) hbl).trans c2
   have hr:=(HR.out.all _ (getD_mem hlt)).1
   have HG:=hid (hg.out.next hlt hr)
   have HB:=hid (fun i=>hg.out.small i)
   clear c1 c2 hcell hg
   generalize l.getD k (0,0)=x at*
   obtain ⟨ra,rb,rc,rd⟩:=inR_true.1 hr
   go_wp2_with fail
   refine (add_any x.1 x.2 S g _ (hs.below ((Below.refl wr.heap.size wr).alloc (Nat.le_refl _) _) hS) x.1.toNat (by omega) (by omega) (by have:= HB.out x.1.toNat;omega) (by have:= HB.out x.1.toNat;omega) rc rd).mono ?_
   rintro e w4 ⟨rfl,hb4,hs4⟩
   go_wp2
   go_roundw
   case rel=>exact ⟨k+1,_,by omega,by go_num,HG,hs4,hb.trans (((Below.refl _ _).alloc s1 _).trans (hb4.mono hsz2))⟩
   case measure=>simp[intOf];omega
  ·have HF:=hid (hg.out.done (by omega))
   have hsm:∀i,-58000000000000≤g i∧g i≤58000000000000:=fun i=>by have:= hg.out.small i;omega
   have HA:=hid (addAll_zero E hsm)
   clear hg hsm hs3 hb13 hl
   go_wp2
   go_loopw[42] (fun i wr2=>∃(k:Nat) (g2:Nat→Int),k≤E.length∧i=.int .i64 k∧Hid (AddAll g E k g2)∧Sums wr2 S g2∧Below w.heap.size w wr2) (fun i _=>E.length-(intOf i).toNat)
   case atStart=>exact ⟨0,g,Nat.zero_le _,rfl,HA,hs,hb⟩
   case round=>
    clear hs hb hS s1 HA
    obtain ⟨j,g2,hj,rfl,hg2,hs2,hb2⟩:=hrel
    have s1:=hb2.size
    have hS:=hs2.lt
    by_cases hlt2:j<E.length
    ·rcases hE with rfl|⟨b,off,rfl,hbl,hcell⟩
     ·simp at hlt2
     obtain ⟨c1,c2⟩:=hcell j hlt2
     have hlt':(j :Int)<E.length:=by omega
     have e1:=(hb2.cell (p:=⟨b,off+j*2,none⟩) hbl).trans c1
     have e2:=(hb2.cell (p:=⟨b,off+j*2+1,none⟩) hbl).trans c2
     have hr:=HE.out.2.1 _ (getD_mem hlt2)
     have HG:=hid (hg2.out.next hlt2 hr)
     have HM:=hid (hg2.out.much hlt2)
     have HB:=hid (fun i=>hg2.out.small i)
     clear c1 c2 hcell hg2
     generalize E.getD j (0,0)=x at*
     obtain ⟨ra,rb,rc,rd⟩:=inR_true.1 hr
     go_wp2_with fail
     refine (add_any x.1 x.2 S g2 _ (hs2.below ((Below.refl _ _).alloc (Nat.le_refl _) _) hS) x.1.toNat (by omega) (by omega) (by have:= HB.out x.1.toNat;omega) (by have:= HB.out x.1.toNat;omega) rc rd).mono ?_
     rintro e w4 ⟨rfl,hb4,hs4⟩
     cases ht:inTot (g2 x.1.toNat+x.2) with
     |true=>
      have HG':=hid (HG.out ht)
      clear HG HM ht
      go_wp2
      go_roundw
      case rel=>exact ⟨j+1,_,by omega,by go_num,HG',hs4,hb2.trans (((Below.refl _ _).alloc s1 _).trans (hb4.mono hsz2))⟩
      case measure=>simp[intOf];omega
     |false=>
      have HG':=hid (HM.out ht)
      clear HG HM ht
      go_wp2
      go_ret2
      unfold AnswersN
      rw[HP.out (by rw[HF.out];exact HG'.out)]
      exact ⟨none,0,rfl,ents_nil _ _,(fun _ h=>by cases h),(fun _=>rfl),hb2.trans (((Below.refl _ _).alloc s1 _).trans (hb4.mono hsz2))⟩
    ·have HG:=hid (hg2.out.done (by omega))
     clear hg2 hE
     go_wp2_with fail
     refine (listed_any S g2 _ hs2).mono ?_
     rintro e w5 ⟨v,rfl,hown,hb5⟩
     obtain ⟨a5,cap5,hv,hent,hpast,hnone⟩:=ents_new hown
     rw[hv]
     clear hown hv
     go_wp2
     go_ret2
     unfold AnswersN
     rw[HQ.out g2 (by rw[HF.out];exact HG.out)]
     exact ⟨a5,cap5,rfl,hent,(fun ad had=>by have:= hpast ad had;omega),hnone,hb2.trans (hb5.mono s1)⟩
theorem post_new (a:Option Addr) (cap:Nat) (l:List (Int×Int)) (a2:Option Addr) (cap2:Nat) (E:List (Int×Int)) (w:World) (hl:Ents w a l) (hE:Ents w a2 E):
  Calls Tryz.prog 180 #[.slice a l.length cap,.slice a2 E.length cap2] w fun e w'=>AnswersN w (post l E) e w':=by
 by_cases h1:(wrong l).1=0
 ·by_cases h2:wrongEs E=0
  ·exact post_good a cap l a2 cap2 E w hl hE h1 h2
  ·exact post_entr a cap l a2 cap2 E w hl hE h1 h2
 ·exact post_bad a cap l a2 cap2 E w hl hE h1
def move (l:List (Int ×Int)) (src dst sum:Int):List (Int ×Int)×Int:=
 if sum<0∨1000000000000<sum then ([],3) else post l [(src,-sum),(dst,sum)]
theorem ents_two (w:World) (x y z u:Int):Ents (w.alloc (.cells #[.int .i64 x,.int .i64 y,.int .i64 z,.int .i64 u] 114)) (some ⟨w.heap.size,0,none⟩) [(x,y),(z,u)]:=by
 refine ⟨by simp[maxLen],Or.inr ⟨w.heap.size,0,rfl,by simp,fun i hi=>?_⟩⟩
 rw[World.cell?_alloc_at _ _ _ _ rfl,World.cell?_alloc_at _ _ _ _ rfl]
 match i,hi with
 |0,_=>exact ⟨rfl,rfl⟩
 |1,_=>exact ⟨rfl,rfl⟩
theorem AnswersN.up {w w1 w':World} {r:List (Int ×Int)×Int} {e:Ending}(hb:Below w.heap.size w w1) (h:AnswersN w1 r e w'):AnswersN w r e w':=by
 obtain ⟨a,cap,he,hE,hp,hn,hb'⟩:=h
 exact ⟨a,cap,he,hE,(fun ad had=>Nat.le_trans hb.size (hp ad had)),hn,hb.trans (hb'.mono hb.size)⟩
theorem move_new (a:Option Addr) (cap:Nat) (l:List (Int ×Int)) (src dst sum:Int) (w:World) (hl:Ents w a l):
  Calls Tryz.prog 170 #[.slice a l.length cap,.int .i64 src,.int .i64 dst,.int .i64 sum] w fun e w'=>AnswersN w (move l src dst sum) e w':=by
 by_cases h:sum<0∨1000000000000<sum
 ·have HM:Hid (move l src dst sum=([],3)):=hid (by unfold move;rw[if_pos h])
  rcases h with h|h
  ·go_enter Tryz.func170,Tryz.ntmps170
   go_wp2
   go_ret2
   unfold AnswersN
   rw[HM.out]
   exact ⟨none,0,rfl,ents_nil _ _,(fun _ h=>by cases h),(fun _=>rfl),Below.refl _ _⟩
  ·have h0:0≤sum:=by omega
   go_enter Tryz.func170,Tryz.ntmps170
   go_wp2
   go_ret2
   unfold AnswersN
   rw[HM.out]
   exact ⟨none,0,rfl,ents_nil _ _,(fun _ h=>by cases h),(fun _=>rfl),Below.refl _ _⟩
 ·have HM:Hid (move l src dst sum=post l [(src,-sum),(dst,sum)]):=hid (by unfold move;rw[if_neg h])
  have h0:0≤sum:=by omega
  have h1:sum≤1000000000000:=by omega
  clear h
  have hb0:∀o,Below w.heap.size w (w.alloc o):=fun o=>(Below.refl _ _).alloc (Nat.le_refl _) o
  go_enter Tryz.func170,Tryz.ntmps170
  go_wp2_with fail
  refine (post_new a cap l (some ⟨w.heap.size,0,none⟩) 2 [(src,-sum),(dst,sum)] _ (hl.below (hb0 _)) (ents_two w src (-sum) dst sum)).mono ?_
  intro e w1 hA
  obtain ⟨a1,cap1,rfl,hE1,hp1,hn1,hb1⟩:=AnswersN.up (hb0 _) hA
  generalize post l [(src,-sum),(dst,sum)]=r at*
  clear hA
  go_wp2
  go_ret2
  unfold AnswersN
  rw[HM.out]
  exact ⟨a1,cap1,rfl,hE1,hp1,hn1,hb1⟩
end Go.Proofs.YtofcnebekmjdoaaGreatDoor.Bk
