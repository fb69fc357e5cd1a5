import Derived.Test.YtofcnebekmjdoaaGreatDoorKau
set_option maxHeartbeats 4000000
set_option maxRecDepth 100000
namespace Go.Proofs.YtofcnebekmjdoaaGreatDoor
open Go.RowKit
theorem below_alloc (w:World) (o:Obj):Below w.heap.size w (w.alloc o):=(Below.refl _ _).alloc (Nat.le_refl _) o
theorem below_call {w wr w1:World}{o:Obj}(bw:Below w.heap.size w wr) (hb1:Below (wr.alloc o).heap.size (wr.alloc o) w1):Below w.heap.size w w1:=
 bw.trans ((((Below.refl _ _).alloc (Nat.le_refl _) o).mono bw.size).trans (hb1.mono (by have :=bw.size;simp;omega)))
theorem below_up {B:Nat}{wr w1:World}{o:Obj}(s1:B≤wr.heap.size) (hb1:Below (wr.alloc o).heap.size (wr.alloc o) w1):Below B wr w1:=
 (((Below.refl _ _).alloc (Nat.le_refl _) o).trans (hb1.mono (by simp))).mono s1
theorem after_call {w wr w1:World}{x:Int×Int}(s1:w.heap.size+1≤wr.heap.size)
  (r0:wr.cell? ⟨w.heap.size,0,none⟩=some (.int .i64 0)) (r1:wr.cell? ⟨w.heap.size,1,none⟩=some (.int .i64 0))
  (f0:wr.frozen? ⟨w.heap.size,0,none⟩=false) (f1:wr.frozen? ⟨w.heap.size,1,none⟩=false)
  (hb1:Below (wr.alloc (.cells #[.int .i64 x.1,.int .i64 x.2] 151)).heap.size (wr.alloc (.cells #[.int .i64 x.1,.int .i64 x.2] 151)) w1):
  w1.cell? ⟨w.heap.size,0,none⟩=some (.int .i64 0)∧w1.cell? ⟨w.heap.size,1,none⟩=some (.int .i64 0)∧w1.frozen? ⟨w.heap.size,0,none⟩=false∧w1.frozen? ⟨w.heap.size,1,none⟩=false∧
  w1.cell? ⟨wr.heap.size,0,none⟩=some (.int .i64 x.1)∧w1.cell? ⟨wr.heap.size,1,none⟩=some (.int .i64 x.2)∧wr.heap.size+1≤w1.heap.size∧
  ∀b o,b<wr.heap.size→w1.cell? ⟨b,o,none⟩=wr.cell? ⟨b,o,none⟩:=by
 have s2:=hb1.size
 simp only[World.size_alloc] at s2
 have a1:∀b o,b<wr.heap.size→w1.cell? ⟨b,o,none⟩=wr.cell? ⟨b,o,none⟩:=fun b o h=>(hb1.cell (p:=⟨b,o,none⟩) (by simp;omega)).trans (World.cell?_alloc_past _ _ _ h)
 have a2:∀b o,b<wr.heap.size→w1.frozen? ⟨b,o,none⟩=wr.frozen? ⟨b,o,none⟩:=fun b o h=>(hb1.frozen (p:=⟨b,o,none⟩) (by simp;omega)).trans (World.frozen?_alloc_past _ _ _ h)
 refine ⟨(a1 _ _ (by omega)).trans r0,(a1 _ _ (by omega)).trans r1,(a2 _ _ (by omega)).trans f0,(a2 _ _ (by omega)).trans f1,?_,?_,s2,a1⟩
 ·exact (hb1.cell (p:=⟨wr.heap.size,0,none⟩) (by simp)).trans (by rw[World.cell?_alloc_at _ _ _ _ rfl];rfl)
 ·exact (hb1.cell (p:=⟨wr.heap.size,1,none⟩) (by simp)).trans (by rw[World.cell?_alloc_at _ _ _ _ rfl];rfl)
theorem fault_cells {w wr:World} (hb:Below (w.heap.size+1) (w.alloc (.cells #[.int .i64 0,.int .i64 0] 47)) wr):
  wr.cell? ⟨w.heap.size,0,none⟩=some (.int .i64 0)∧wr.cell? ⟨w.heap.size,1,none⟩=some (.int .i64 0)∧wr.frozen? ⟨w.heap.size,0,none⟩=false∧wr.frozen? ⟨w.heap.size,1,none⟩=false:=
 ⟨(hb.cell (p:=⟨w.heap.size,0,none⟩) (by simp)).trans (by rw [World.cell?_alloc_at _ _ _ _ rfl];rfl),(hb.cell (p:=⟨w.heap.size,1,none⟩) (by simp)).trans (by rw [World.cell?_alloc_at _ _ _ _ rfl];rfl),
  (hb.frozen (p:=⟨w.heap.size,0,none⟩) (by simp)).trans (World.frozen?_alloc_at _ _ _ _ rfl),(hb.frozen (p:=⟨w.heap.size,1,none⟩) (by simp)).trans (World.frozen?_alloc_at _ _ _ _ rfl)⟩
theorem uses_any (a:Option Addr) (cap:Nat) (L:List (Int ×Int)) (w:World) (hL:Ents w a L):
  Calls Tryz.prog 62 #[.slice a L.length cap] w fun e w'=>e=.returned (.agg #[.int .i64 (uses L).1,.int .i64 (uses L).2])∧Below w.heap.size w w':=by
 obtain ⟨hm,hL⟩:=hL
 unfold maxLen at hm
 have b1:Below w.heap.size w (w.alloc (.cells #[.int .i64 0,.int .i64 0] 47)):=(Below.refl _ _).alloc (Nat.le_refl _) _
 by_cases hf:30<L.length
 ·have HG:=hid (uses_many hf)
  have hf':(30 :Int)<L.length:=by omega
  go_enter Tryz.func62,Tryz.ntmps62
  go_wp2
  refine bodyPost_ret (v:=.agg #[.int .i64 5,.int .i64 0]) (by simp[results,Tryz.results62,go_sem];try rfl) rfl ⟨?_,?_⟩
  ·rw[HG.out]
  ·first|exact (Below.refl _ _).alloc (Nat.le_refl _) _|exact (b1.setCell (Nat.le_refl _) _).setCell (Nat.le_refl _) _
 have hf0:L.length≤30:=by omega
 have hf':(L.length:Int)≤30:=by omega
 clear hf
 go_enter Tryz.func62,Tryz.ntmps62
 go_wp2
 go_loopw[11] (fun i wr=>∃(k:Nat),k≤L.length∧i=.int .i64 k∧Hid (Good L k)∧Below (w.heap.size+1) (w.alloc (.cells #[.int .i64 0,.int .i64 0] 47)) wr) (fun i _=>L.length-(intOf i).toNat)
 case atStart=>exact ⟨0,Nat.zero_le _,rfl,good_zero hf0,Below.refl _ _⟩
 case round=>
  obtain ⟨k,hk,rfl,hg,hb⟩:=hrel
  have s1:=hb.size
  simp only[World.size_alloc] at s1
  have bw:=b1.trans (hb.mono (by omega))
  obtain ⟨r0,r1,f0,f1⟩:=fault_cells hb
  by_cases hlt:k<L.length
  ·rcases hL with rfl|⟨b,off,rfl,hbl,hcell⟩
   ·simp at hlt
   obtain ⟨c1,c2⟩:=hcell k hlt
   have hlt':(k :Int)<L.length:=by omega
   have e1:=(bw.cell (p:=⟨b,off+k*2,none⟩) hbl).trans c1
   have e2:=(bw.cell (p:=⟨b,off+k*2+1,none⟩) hbl).trans c2
   have eP:0<k→wr.cell? ⟨b,off+(k-1)*2,none⟩=some (.int .i64 (L.getD (k -1) (0,0)).1):=fun h0=>(bw.cell (p:=⟨b,off+(k-1)*2,none⟩) hbl).trans (hcell (k -1) (by omega)).1
   have G:=fun h=>hg.out.range hlt h
   have G3:=fun h=>hg.out.order hlt h
   have G4:=fun h=>hg.out.next hlt h
   clear c1 c2 hcell
   generalize hx:L.getD k (0,0)=x at*
   clear hx
   by_cases hr:inU x=false
   ·have HG:=hid (G hr)
    clear G G3 G4 hg eP
    go_wp2_with fail
    refine (inRange_any x _).mono ?_
    rintro e w1 ⟨rfl,hb1⟩
    rw[hr]
    obtain ⟨R0,R1,F0,F1,-,-,s2,-⟩:=after_call s1 r0 r1 f0 f1 hb1
    go_wp2
    refine bodyPost_ret (v:=.agg #[.int .i64 3,.int .i64 k]) (by simp[results,Tryz.results62,go_sem,R0,R1]) rfl ⟨?_,((below_call bw hb1).setCell (Nat.le_refl _) _).setCell (Nat.le_refl _) _⟩
    rw[HG.out]
   ·have hr:inU x=true:=by simpa using hr
    by_cases h0:k=0
    ·have HG:=hid (G4 hr (by omega))
     have hk0:decide (0 <k)=false:=by simp;omega
     clear G G3 G4 hg eP h0
     go_wp2_with fail
     refine (inRange_any x _).mono ?_
     rintro e w1 ⟨rfl,hb1⟩
     rw[hr]
     obtain ⟨R0,R1,F0,F1,Q0,Q1,s2,-⟩:=after_call s1 r0 r1 f0 f1 hb1
     go_wp2
     go_quiet (fail)
     go_wp2
     go_roundw
     case rel=>exact ⟨k+1,by omega,by go_num,HG,hb.trans (below_drewN (below_up s1 hb1) _)⟩
     case measure=>simp[intOf];omega
    ·have hk0:decide (0<k)=true:=by simp;omega
     have hk1:0<k:=by omega
     have EP:=eP (by omega)
     generalize hp:(L.getD (k -1) (0,0)).1=pv at*
     clear hp
     by_cases hq:x.1<pv
     ·have HG:=hid (G3 hr (by omega) hq)
      clear G G3 G4 hg eP h0
      go_wp2_with fail
      refine (inRange_any x _).mono ?_
      rintro e w1 ⟨rfl,hb1⟩
      rw[hr]
      obtain ⟨R0,R1,F0,F1,Q0,Q1,s2,A1⟩:=after_call s1 r0 r1 f0 f1 hb1
      have EP1:=(A1 b (off +(k -1)*2) (by omega)).trans EP
      clear A1
      go_wp2
      go_quiet (fail)
      go_wp2
      refine bodyPost_ret (v:=.agg #[.int .i64 2,.int .i64 k]) (by simp[results,Tryz.results62,go_sem,R0,R1]) rfl ⟨?_,((below_drewN (below_call bw hb1) _).setCell (Nat.le_refl _) _).setCell (Nat.le_refl _) _⟩
      rw[HG.out]
     ·have HG:=hid (G4 hr (by omega))
      clear G G3 G4 hg eP h0
      go_wp2_with fail
      refine (inRange_any x _).mono ?_
      rintro e w1 ⟨rfl,hb1⟩
      rw[hr]
      obtain ⟨R0,R1,F0,F1,Q0,Q1,s2,A1⟩:=after_call s1 r0 r1 f0 f1 hb1
      have EP1:=(A1 b (off +(k-1)*2) (by omega)).trans EP
      clear A1
      go_wp2
      go_quiet (fail)
      go_wp2
      go_roundw
      case rel=>exact ⟨k+1,by omega,by go_num,HG,hb.trans (below_drewN (below_up s1 hb1) _)⟩
      case measure=>simp[intOf];omega
  ·have HG:=hid (hg.out.done (by omega))
   clear hg
   go_wp2
   refine bodyPost_ret (v:=.agg #[.int .i64 0,.int .i64 0]) (by simp[results,Tryz.results62,go_sem,r0,r1]) rfl ⟨?_,(bw.setCell (Nat.le_refl _) _).setCell (Nat.le_refl _) _⟩
   rw[HG.out]
theorem info_parts {P:Program}{e:TypeId}{z:Value}{size bytes:Nat} (h:(P.info? e).map (fun i=>(i.zero,i.size,i.bytes))=some (some z,size,bytes)):
  ∃i,P.info? e=some i∧i.zero=some z∧i.size=size∧i.bytes=bytes:=by
 cases hi:P.info? e with
 |none=>simp [hi] at h
 |some i=>simp [hi] at h;exact ⟨i,rfl,h⟩
theorem infoUse:(Tryz.prog.info? 151).map (fun i=>(i.zero,i.size,i.bytes))=some (some (.agg #[.int .i64 0,.int .i64 0]),2,16):=by kernel_rfl
def flat (L:List (Int ×Int)):List Value:=L.flatMap fun e=>[Value.int .i64 e.1,Value.int .i64 e.2]
theorem flat_snoc (L:List (Int ×Int)) (e:Int×Int):flat (L ++[e])=flat L++[Value.int .i64 e.1,Value.int .i64 e.2]:=by simp [flat]
theorem ownBlock_ge {w:World} {base:Nat} {e:TypeId} {size:Nat} {v:Value} {n:Nat} {xs:List Value}(h:w.ownsRow base e size v n xs):∀k,v.ownBlock=some k→base≤k:=by
 intro k hk
 rcases h.2 with ⟨rfl,-⟩|⟨g,cap,cur,rfl,hg,-⟩
 ·cases hk
 ·cases hk;exact hg
theorem ownsRow_below {w w':World}{base:Nat}{e:TypeId}{size:Nat}{v:Value}{n:Nat}{xs:List Value}(h:w.ownsRow base e size v n xs) (hb:Below w.heap.size w w'):w'.ownsRow base e size v n xs:=by
 refine ⟨h.1,?_⟩
 rcases h.2 with h0|⟨g,cap,cur,hv,hg,hh,r⟩
 ·exact Or.inl h0
 ·exact Or.inr ⟨g,cap,cur,hv,hg,(hb.block g (lt_of_block hh)).trans hh,r⟩
theorem ownsRow_mono {w:World}{base base':Nat}{e:TypeId}{size:Nat}{v:Value}{n:Nat}{xs:List Value}(h:w.ownsRow base e size v n xs) (hb:base'≤base):w.ownsRow base' e size v n xs:=by
 refine ⟨h.1,?_⟩
 rcases h.2 with h0|⟨g,cap,cur,hv,hg,r⟩
 ·exact Or.inl h0
 ·exact Or.inr ⟨g,cap,cur,hv,Nat.le_trans hb hg,r⟩
theorem ents_of_owns {w:World}{base:Nat}{v:Value}{L:List (Int ×Int)} (h:w.ownsRow base 151 2 v L.length (flat L)):∃a cap,v=.slice a L.length cap∧L.length≤cap∧cap≤maxLen∧Ents w a L:=by
 obtain ⟨-,h⟩:=h
 rcases h with ⟨rfl,hn⟩|⟨g,cap,cur,rfl,hg,hh,hn,hm,hc,hx⟩
 ·rw[hn]
  exact ⟨none,0,rfl,by simp,by simp[maxLen],by simp[maxLen,hn],Or.inl (List.eq_nil_of_length_eq_zero hn)⟩
 ·have hlt:g<w.heap.size:=lt_of_block hh
  have key:∀j u,(flat L)[j]?=some u→w.cell? ⟨g,j,none⟩=some u:=by
   intro j u hj
   simp only[World.cell?,hh]
   rw[←hx,List.getElem?_take] at hj
   split at hj
   ·simpa using hj
   ·cases hj
  refine ⟨some ⟨g,0,none⟩,cap,rfl,hn,hm,Nat.le_trans hn hm,Or.inr ⟨g,0,rfl,hlt,fun i hi=>?_⟩⟩
  have hfl:∀(M:List (Int×Int)) (i:Nat),i<M.length→(flat M)[i*2]?=some (.int .i64 (M.getD i (0,0)).1)∧(flat M)[i*2+1]?=some (.int .i64 (M.getD i (0,0)).2):=by
   intro M
   induction M with
   |nil=>intro i hi;simp at hi
   |cons e r ih=>
    intro i hi
    cases i with
    |zero=>simp[flat]
    |succ i=>
     have:= ih i (by simpa using hi)
     have e1:(i+1)*2=i*2+1+1:=by omega
     rw[e1]
     simpa[flat] using this
  obtain ⟨k1,k2⟩:=hfl L i hi
  rw[Nat.zero_add]
  exact ⟨key _ _ k1,key _ _ k2⟩
def Made (w:World) (L:List (Int ×Int)) (e:Ending) (w':World):Prop:=
 ∃v,e=.returned v∧w'.ownsRow w.heap.size 151 2 v L.length (flat L)∧Below w.heap.size w w'
theorem recent_any (p:Pa) (a:Option Addr) (cap:Nat) (L:List (Int×Int)) (time:Int) (w:World) (hL:Ents w a L) (h1:1≤p.t) (h2:p.t≤1000000) (h3:0≤time) (h4:time≤1000000)
  (hreach:L.length*16≤140737488351232):
  Calls Tryz.prog 182 #[pv p,.slice a L.length cap,.int .i64 time] w (Made w (recent (time -p.t) L)):=by
 obtain ⟨i0,hi,hz0,hz1,hz2⟩:=info_parts infoUse
 have hb0:∀o,Below w.heap.size w (w.alloc o):=fun o=>(Below.refl _ _).alloc (Nat.le_refl _) o
 have hw:=fun o=>window_any p time (w.alloc o) h1 h2 h3 h4
 unfold pv at hw⊢
 generalize time-p.t=o at*
 go_enter Tryz.func182,Tryz.ntmps182
 go_wp2_with fail
 refine (hw _).mono ?_
 rintro e w1 ⟨c,rfl,hc1,hc2,hc3,hb1⟩
 have hbb:Below w.heap.size w w1:=(hb0 _).trans (hb1.mono (by simp))
 have hL1:=hL.below hbb
 have hsz:=hbb.size
 clear hw hL hc1 hb1 hb0
 obtain ⟨hm,hL⟩:=hL1
 unfold maxLen at hm
 go_wp2
 go_loopw[8,16](fun v i wr=>∃k:Nat,k≤L.length∧i=.int .i64 k∧wr.ownsRow w1.heap.size 151 2 v (recent o (L.take k)).length (flat (recent o (L.take k)))∧Below w1.heap.size w1 wr) (fun _ i _=>L.length-(intOf i).toNat)
 case atStart=>exact ⟨0,Nat.zero_le _,rfl,World.ownsRow_nil _ _ _ _,Below.refl _ _⟩
 case round=>
  obtain ⟨k,hk,rfl,hown,hb⟩:=hrel
  by_cases hlt:k<L.length
  ·rcases hL with rfl|⟨b,off,rfl,hbl,hcell⟩
   ·simp at hlt
   obtain ⟨c1,c2⟩:=hcell k hlt
   have hlt':(k :Int)<L.length:=by omega
   have e1:=(hb.cell (p:=⟨b,off+k*2,none⟩) hbl).trans c1
   have e2:=(hb.cell (p:=⟨b,off+k*2+1,none⟩) hbl).trans c2
   have e3:∀o',(wr.alloc o').cell? ⟨c,0,none⟩=some (.int .i64 o):=fun o'=>((hb.alloc hb.size o').cell (p:=⟨c,0,none⟩) hc2).trans hc3
   have hsw:=hb.size
   have HH:=hid (recent_hit (o:=o) hlt)
   have HM:=hid (recent_miss (o:=o) hlt)
   have hle:=recent_take_le' o L k
   clear c1 c2 hcell
   generalize hx:L.getD k (0,0)=x at*
   clear hx
   by_cases hq:o<x.1
   ·have HH':=hid (HH.out hq)
    have hlt2:=recent_take_le' o L (k +1)
    rw[HH'.out] at hlt2
    simp at hlt2
    clear HH HM
    go_wp2_with fail
    refine (counts_any x c o _ (e3 _) (by simp;omega)).mono ?_
    rintro e w2 ⟨rfl,hb2⟩
    have hd:decide (o<x.1)=true:=by simpa using hq
    rw[hd]
    have hown2:=ownsRow_below (hown.alloc _) hb2
    have hb12:Below w1.heap.size w1 w2:=hb.trans (below_up hsw hb2)
    have q0:w2.cell? ⟨wr.heap.size,0,none⟩=some (.int .i64 x.1):=(hb2.cell (p:=⟨wr.heap.size,0,none⟩) (by simp)).trans (by rw[World.cell?_alloc_at _ _ _ _ rfl];rfl)
    have q1:w2.cell? ⟨wr.heap.size,1,none⟩=some (.int .i64 x.2):=(hb2.cell (p:=⟨wr.heap.size,1,none⟩) (by simp)).trans (by rw[World.cell?_alloc_at _ _ _ _ rfl];rfl)
    have hs2:=hb12.size
    clear hown hb2 e3
    go_wp2_with (at_builtin;refine wpList_append_own _ rfl _ _ 59 rfl w1.heap.size 151 i0 (.agg #[.int .i64 0,.int .i64 0]) 2 16 Tryz.underlying59 hi hz0 hz1 hz2 rfl (by decide) _ _ _ rfl (hown2.alloc _) ⟨w2.heap.size,0,none⟩ 1 1 [.int .i64 x.1,.int .i64 x.2] rfl rfl ?c1 ?c2 ?c3 ?c4 ?c5 ?_)
    case c1=>exact cell_two_new _ _ _ _
    case c2=>intro u hu;simp at hu;rcases hu with rfl|rfl<;>rfl
    case c3=>unfold maxLen;omega
    case c4=>omega
    case c5=>simp;omega
    intro v' w3 hown' hgrow _
    have hb':Below w1.heap.size w1 w3:=(hb12.alloc hb12.size _).grown hgrow (by simp;omega) (ownBlock_ge hown2)
    clear hgrow hown2
    go_wp2
    go_roundw
    case rel=>exact ⟨k+1,by omega,by go_num,by rw[HH'.out,flat_snoc,List.length_append];exact hown',hb'⟩
    case measure=>simp[intOf];omega
   ·have HM':=hid (HM.out hq)
    clear HH HM
    go_wp2_with fail
    refine (counts_any x c o _ (e3 _) (by simp;omega)).mono ?_
    rintro e w2 ⟨rfl,hb2⟩
    have hd:decide (o<x.1)=false:=by simpa using hq
    rw[hd]
    have hown2:=ownsRow_below (hown.alloc _) hb2
    have hb12:Below w1.heap.size w1 w2:=hb.trans (below_up hsw hb2)
    clear hown hb2 e3
    go_wp2
    go_roundw
    case rel=>exact ⟨k+1,by omega,by go_num,by rw[HM'.out];exact hown2,hb12⟩
    case measure=>simp[intOf];omega
  ·have HA:=hid (recent_all (o:=o) (L:=L) (k:=k) (by omega))
   go_wp2
   go_ret
   exact ⟨_,rfl,ownsRow_mono (by rw[←HA.out];exact hown) hsz,hbb.trans (hb.mono hsz)⟩
theorem wrongAdd_pace {p:Pa}{L:List (Int×Int)}{x:Int×Int} (h:wrongP p≠0):wrongAdd p L x=wrongP p:=by unfold wrongAdd;rw [if_pos h]
theorem wrongAdd_uses {p:Pa}{L:List (Int×Int)}{x:Int×Int} (h:wrongP p=0) (h2:(uses L).1≠0):wrongAdd p L x=(uses L).1:=by unfold wrongAdd;rw [if_neg (by simpa using h),if_pos h2]
theorem wrongAdd_x {p:Pa} {L:List (Int ×Int)} {x:Int×Int} (h:wrongP p=0) (h2:(uses L).1=0) (h3:inU x=false):wrongAdd p L x=3:=by
 unfold wrongAdd;rw[if_neg (by simpa using h),if_neg (by simpa using h2),if_pos h3]
theorem wrongAdd_form {p:Pa}{L:List (Int ×Int)}{x:Int×Int} (h:wrongP p=0) (h2:(uses L).1=0) (h3:inU x=true) (h4:0<L.length∧x.1<(L.getD (L.length-1) (0,0)).1):wrongAdd p L x=2:=by
 unfold wrongAdd;rw [if_neg (by simpa using h),if_neg (by simpa using h2),if_neg (by simpa using h3),if_pos h4]
theorem wrongAdd_none {p:Pa} {L:List (Int×Int)} {x:Int×Int}(h:wrongP p=0) (h2:(uses L).1=0) (h3:inU x=true) (h4:¬(0<L.length∧x.1<(L.getD (L.length-1) (0,0)).1)):wrongAdd p L x=0:=by
 unfold wrongAdd;rw[if_neg (by simpa using h),if_neg (by simpa using h2),if_neg (by simpa using h3),if_neg h4]
theorem boxes{w w1:World}{p:Pa}{x:Int×Int}
  (hb:Below ((w.alloc (.cells #[.int .i64 p.t,.int .i64 p.c,.int .i64 p.s] 58)).alloc (.cells #[.int .i64 x.1,.int .i64 x.2] 151)).heap.size ((w.alloc (.cells #[.int .i64 p.t,.int .i64 p.c,.int .i64 p.s] 58)).alloc (.cells #[.int .i64 x.1,.int .i64 x.2] 151)) w1):
  Below w.heap.size w w1∧w.heap.size+1<w1.heap.size∧w1.heap[w.heap.size]?=some (.cells #[.int .i64 p.t,.int .i64 p.c,.int .i64 p.s] 58)∧w1.heap[w.heap.size+1]?=some (.cells #[.int .i64 x.1,.int .i64 x.2] 151):=by
 have s1:=hb.size
 simp only[World.size_alloc] at s1
 have b1:Below w.heap.size w ((w.alloc (.cells #[.int .i64 p.t,.int .i64 p.c,.int .i64 p.s] 58)).alloc (.cells #[.int .i64 x.1,.int .i64 x.2] 151)):=((Below.refl _ _).alloc (Nat.le_refl _) _).alloc (by simp) _
 refine ⟨b1.trans (hb.mono (by simp;omega)),by omega,?_,?_⟩
 ·rw[hb.block _ (by simp;omega),Below.heap_alloc _ _ _ (by simp)]
  show (w.heap.push _)[w.heap.size]?=_
  rw[Array.getElem?_push_size]
 ·rw[hb.block _ (by simp)]
  have :w.heap.size+1=(w.alloc (.cells #[.int .i64 p.t,.int .i64 p.c,.int .i64 p.s] 58)).heap.size:=by simp
  rw[this]
  show (Array.push _ _)[_]?=_
  rw[Array.getElem?_push_size]
theorem use_cells {w:World}{b:Nat}{x:Int×Int}(h:w.heap[b]?=some (.cells #[.int .i64 x.1,.int .i64 x.2] 151)):w.cell? ⟨b,0,none⟩=some (.int .i64 x.1)∧w.cell? ⟨b,1,none⟩=some (.int .i64 x.2):=by
 constructor<;>simp[World.cell?,h]
theorem pace_cells {w:World}{b:Nat}{p:Pa} (h:w.heap[b]?=some (.cells #[.int .i64 p.t,.int .i64 p.c,.int .i64 p.s] 58)):
  w.cell? ⟨b,0,none⟩=some (.int .i64 p.t)∧w.cell? ⟨b,1,none⟩=some (.int .i64 p.c)∧w.cell? ⟨b,2,none⟩=some (.int .i64 p.s):=by
 refine ⟨?_,?_,?_⟩<;>simp [World.cell?,h]
theorem wrongAdd_any (p:Pa) (a:Option Addr) (cap:Nat) (L:List (Int ×Int)) (x:Int×Int) (w:World) (hL:Ents w a L):
  Calls Tryz.prog 181 #[pv p,.slice a L.length cap,uv x] w fun e w'=>e=.returned (.int .i64 (wrongAdd p L x))∧Below w.heap.size w w':=by
 unfold pv uv
 by_cases h1:wrongP p=0
 rotate_left
 ·have HW:=hid (wrongAdd_pace (L:=L) (x:=x) h1)
  have hne:(wrongP p !=0)=true:=by simpa using h1
  clear h1
  go_enter Tryz.func181,Tryz.ntmps181
  go_wp2_with fail
  refine (wrong_any p _).mono ?_
  rintro e w1 ⟨rfl,hb1⟩
  obtain ⟨bb,-,-,-⟩:=boxes hb1
  generalize wrongP p=r at*
  go_wp2
  go_ret
  exact ⟨ret_int HW.out.symm,bb⟩
 have hne:(wrongP p !=0)=false:=by simpa using h1
 by_cases h2:(uses L).1=0
 rotate_left
 ·have HW:=hid (wrongAdd_uses (L:=L) (x:=x) h1 h2)
  have hne2:((uses L).1 !=0)=true:=by simpa using h2
  clear h1 h2
  go_enter Tryz.func181,Tryz.ntmps181
  go_wp2_with fail
  refine (wrong_any p _).mono ?_
  rintro e w1 ⟨rfl,hb1⟩
  obtain ⟨bb,hs1,-,-⟩:=boxes hb1
  generalize wrongP p=r at*
  have hL1:=hL.below bb
  go_wp2_with fail
  refine (uses_any a cap L _ hL1).mono ?_
  rintro e w2 ⟨rfl,hb2⟩
  generalize (uses L).1=r1 at*
  generalize (uses L).2=r2 at*
  have bb2:Below w.heap.size w w2:=bb.trans (hb2.mono bb.size)
  go_wp2
  go_ret
  exact ⟨ret_int HW.out.symm,bb2.alloc bb2.size _⟩
 have hne2:((uses L).1 !=0)=false:=by simpa using h2
 have H3:=hid (wrongAdd_x (L:=L) (x:=x) h1 h2)
 have H4:=hid (wrongAdd_form (L:=L) (x:=x) h1 h2)
 have H5:=hid (wrongAdd_none (L:=L) (x:=x) h1 h2)
 clear h1 h2
 go_enter Tryz.func181,Tryz.ntmps181
 go_wp2_with fail
 refine (wrong_any p _).mono ?_
 rintro e w1 ⟨rfl,hb1⟩
 obtain ⟨bb,hs1,-,hx1⟩:=boxes hb1
 generalize wrongP p=r at*
 have hL1:=hL.below bb
 clear hL
 go_wp2_with fail
 refine (uses_any a cap L _ hL1).mono ?_
 rintro e w2 ⟨rfl,hb2⟩
 generalize (uses L).1=r1 at*
 generalize (uses L).2=r2 at*
 have bb2:∀o,Below w.heap.size w (w2.alloc o):=fun o=>(bb.trans (hb2.mono bb.size)).alloc (by have:= hb2.size;omega) o
 have hx2:∀o,(w2.alloc o).heap[w.heap.size+1]?=some (.cells #[.int .i64 x.1,.int .i64 x.2] 151):=fun o=>by
  rw[Below.heap_alloc _ _ _ (by have:= hb2.size;omega),hb2.block _ hs1];exact hx1
 have X0:=fun o=>(use_cells (hx2 o)).1
 have X1:=fun o=>(use_cells (hx2 o)).2
 have hL2:∀o,Ents (w2.alloc o) a L:=fun o=>(hL1.below hb2).below ((Below.refl _ _).alloc (Nat.le_refl _) o)
 have hs2:=hb2.size
 clear hb1 hb2 bb hL1
 go_wp2_with fail
 refine (inRange_any x _).mono ?_
 rintro e w3 ⟨rfl,hb3⟩
 have bb3:Below w.heap.size w w3:=(bb2 _).trans (hb3.mono (by simp;omega))
 have hs3:=hb3.size
 simp only[World.size_alloc] at hs3
 have hx3:=(hb3.block _ (by simp;omega)).trans (hx2 _)
 obtain ⟨Y0,Y1⟩:=use_cells hx3
 have hL3:=(hL2 _).below hb3
 clear bb2 hx2 X0 X1 hL2 hb3 hx3
 cases hx:inU x with
 |false=>
  have HW:=hid (H3.out hx)
  clear H3 H4 H5
  go_wp2
  go_ret
  exact ⟨ret_int HW.out.symm,bb3⟩
 |true=>
  obtain ⟨hm,hL⟩:=hL3
  unfold maxLen at hm
  by_cases h0:L.length=0
  ·have HW:=hid (H5.out hx (by omega))
   have hk0:decide (0 <L.length)=false:=decide_eq_false (by omega)
   clear H3 H4 H5 hL h0
   go_wp2
   go_quiet (fail)
   go_wp2
   go_ret
   exact ⟨ret_int HW.out.symm,below_drewN bb3 _⟩
  ·have hk0:decide (0 <L.length)=true:=decide_eq_true (by omega)
   have hk1:0<L.length:=by omega
   rcases hL with rfl|⟨b,off,rfl,hbl,hcell⟩
   ·simp at hk1
   obtain ⟨c1,c2⟩:=hcell (L.length-1) (by omega)
   clear hcell c2
   have H4':=hid (fun h=>H4.out hx ⟨hk1,h⟩)
   have H5':=hid (fun (h:(L.getD (L.length-1) (0,0)).1≤x.1)=>H5.out hx (by omega))
   generalize (L.getD (L.length-1) (0,0)).1=pv at*
   by_cases hq:x.1<pv
   ·have HW:=hid (H4'.out hq)
    clear H3 H4 H5 h0 H4' H5'
    go_wp2
    go_quiet (fail)
    go_wp2
    go_ret
    exact ⟨ret_int HW.out.symm,below_drewN bb3 _⟩
   ·have HW:=hid (H5'.out (by omega))
    have hq':pv≤x.1:=by omega
    clear H3 H4 H5 h0 H4' H5' hq
    go_wp2
    go_quiet (fail)
    go_wp2
    go_ret
    exact ⟨ret_int HW.out.symm,below_drewN bb3 _⟩
end Go.Proofs.YtofcnebekmjdoaaGreatDoor
