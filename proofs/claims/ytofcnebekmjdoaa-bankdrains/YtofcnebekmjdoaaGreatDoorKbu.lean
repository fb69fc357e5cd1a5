import Derived.Test.YtofcnebekmjdoaaGreatDoorKbt
set_option maxHeartbeats 4000000
set_option maxRecDepth 100000
namespace Go.Proofs.YtofcnebekmjdoaaGreatDoor.Bn
open Go.RowKit Go.Proofs.YtofcnebekmjdoaaGreatDoor.Gn Go.Maps
theorem play_start{w X w3:World}{b:Bank}{v:Vs}{cs:List CV}{b0:Bank}{v0:Vs}(zs:Array Value) (hzs:zs.size=20) (SH:Shown w3 (oldL X.heap.size) b v cs []) (hb3:Below X.heap.size X w3) (O:Oth X) (hr:X.heap[w.heap.size+1]?=some (bko b0 v0)) (hf:X.heap[w.heap.size+2]?=some (fo (0,0))) (hbw:Below w.heap.size w X) (_:w.heap.size≤w.heap.size):
  ∃lab0,Keep (((w3.alloc (.map #[] 0)).alloc (.cells zs 98)).setCells (w3.heap.size+1) 0 (cellsB b v (.map (some w3.heap.size))).toList) (w3.heap.size +1) w3.heap.size lab0 b [] v cs [] 0 (.map [])∧
   Bx (((w3.alloc (.map #[] 0)).alloc (.cells zs 98)).setCells (w3.heap.size+1) 0 (cellsB b v (.map (some w3.heap.size))).toList) lab0 (w.heap.size +1) (bko b0 v0)∧Bx (((w3.alloc (.map #[] 0)).alloc (.cells zs 98)).setCells (w3.heap.size+1) 0 (cellsB b v (.map (some w3.heap.size))).toList) lab0 (w.heap.size+2) (fo (0,0))∧
   (Below w.heap.size w (((w3.alloc (.map #[] 0)).alloc (.cells zs 98)).setCells (w3.heap.size +1) 0 (cellsB b v (.map (some w3.heap.size))).toList)∧∀j,j<w.heap.size→(j =0∧lab0 j=0)∨lab0 j=12)∧
   ((∀ (α:Type) (K:Kind α) (a:Option Addr) (c:Nat){L:List α},Gn.Lies K X a c L→Gn.Lies K (((w3.alloc (.map #[] 0)).alloc (.cells zs 98)).setCells (w3.heap.size+1) 0 (cellsB b v (.map (some w3.heap.size))).toList) a c L)∧True):=by
 rw[putAll_cells]
 have e1:=below_alloc w3 (.map #[] 0)
 have e2:=below_alloc (w3.alloc (.map #[] 0)) (.cells zs 98)
 have h12:=e1.trans (e2.mono (by simp))
 have hb:=below_putAll h12 (w3.heap.size+1) 0 (cellsB b v (.map (some w3.heap.size))).toList (Nat.le_succ _)
 have hm:(putAll ((w3.alloc (.map #[] 0)).alloc (.cells zs 98)) (w3.heap.size +1) 0 (cellsB b v (.map (some w3.heap.size))).toList).heap[w3.heap.size]?=(w3.alloc (.map #[] 0)).heap[w3.heap.size]?:=(putAll_other _ _ _ _ _ (by omega)).trans (e2.block _ (by simp))
 have hg:(putAll ((w3.alloc (.map #[] 0)).alloc (.cells zs 98)) (w3.heap.size +1) 0 (cellsB b v (.map (some w3.heap.size))).toList).heap[w3.heap.size+1]?=some (blkB b v (.map (some w3.heap.size))):=by
  have:= putAll_same (cellsB b v (.map (some w3.heap.size))).toList ((w3.alloc (.map #[] 0)).alloc (.cells zs 98)) (w3.heap.size+1) [] zs.toList [] 98 (by simp[hzs];rfl) (by rw[heap_alloc_at _ _ _ (by simp)];simp)
  refine Eq.trans this ?_
  unfold blkB
  simp[tyB]
 generalize putAll ((w3.alloc (.map #[] 0)).alloc (.cells zs 98)) (w3.heap.size +1) 0 (cellsB b v (.map (some w3.heap.size))).toList=Y at*
 have hbX:Below X.heap.size X Y:=hb3.trans (hb.mono hb3.size)
 have rX:=lt_of_block hr
 have fX:=lt_of_block hf
 have x3:=hb3.size
 refine ⟨fun k=>if k=w3.heap.size+1 then 9 else if k=w3.heap.size then 10 else if k=0 then 0 else if k<X.heap.size then 12 else 0,⟨?_,hg,if_pos rfl,?_,Nat.le_refl _,tld_nil,?_,fun k=>?_,O.keep (hbX.block 0 O.lt),?_⟩,⟨(hbX.block _ rX).trans hr,?_⟩,⟨(hbX.block _ fX).trans hf,?_⟩,⟨hbw.trans (hbX.mono hbw.size),fun j hj=>?_⟩,fun _ _ _ _ _ h=>h.below hbX,trivial⟩
 ·have sh1:=SH.lab (lab':=fun k=>if k=0 then 0 else if k<X.heap.size then 12 else 0) fun k hk=>by
   unfold oldL at hk
   repeat' split
   all_goals first|rfl|(exfalso;revert hk;split<;>omega)
  refine sh1.go hb.size (fun k hk=>?_) fun k hk _=>hb.block k hk
  show (if k=w3.heap.size+1 then 9 else if k=w3.heap.size then 10 else if k=0 then 0 else if k<X.heap.size then 12 else 0)=_
  rw[if_neg (by omega),if_neg (by omega)]
 ·exact owns_keep' (World.ownsMap_made w3 Tryz.prog 3 rAn) hm
 ·show (if w3.heap.size=w3.heap.size+1 then 9 else if w3.heap.size=w3.heap.size then 10 else _)=10
  rw[if_neg (by omega),if_pos rfl]
 ·repeat' split
  all_goals omega
 ·show (if 0=w3.heap.size+1 then 9 else if 0=w3.heap.size then 10 else if 0=0 then 0 else _)=0
  have:= O.lt
  rw[if_neg (by omega),if_neg (by omega),if_pos rfl]
 ·show (if w.heap.size+1=w3.heap.size+1 then 9 else if w.heap.size+1=w3.heap.size then 10 else if w.heap.size+1=0 then 0 else if w.heap.size+1<X.heap.size then 12 else 0)=12
  rw[if_neg (by omega),if_neg (by omega),if_neg (by omega),if_pos rX]
 ·show (if w.heap.size+2=w3.heap.size+1 then 9 else if w.heap.size+2=w3.heap.size then 10 else if w.heap.size+2=0 then 0 else if w.heap.size+2<X.heap.size then 12 else 0)=12
  rw[if_neg (by omega),if_neg (by omega),if_neg (by omega),if_pos fX]
 ·show (j =0∧(if j=w3.heap.size+1 then 9 else if j=w3.heap.size then 10 else if j=0 then 0 else if j<X.heap.size then 12 else 0)=0)∨(if j=w3.heap.size+1 then 9 else if j=w3.heap.size then 10 else if j=0 then 0 else if j<X.heap.size then 12 else 0)=12
  have :=hbw.size
  repeat' split
  all_goals omega
theorem below_stq{w wr w':World}{lab lab':Lab}(hb:Below w.heap.size w wr) (hs:Stq wr lab w' lab') (hlo:∀j,j<w.heap.size→(j=0∧lab j=0)∨lab j=12):Below w.heap.size w w':=
 ⟨hs.os.trans hb.os,hs.tape.trans hb.tape,hs.output.trans hb.output,Nat.le_trans hb.size hs.size,fun j hj=>(hs.block j (Nat.lt_of_lt_of_le hj hb.size) (by have :=hlo j hj;omega)).trans (hb.block j hj)⟩
theorem play_step{w W1 w2 X:World}{g m:Nat}{lab1 lab':Lab}{b':Bank}{T':List (Dd ×An)}{v':Vs}{cs':List CV}{ds':List DV}{n':Nat}{D':DataW Unit}{va:Value}{L:List An}{o1 o2:Obj}{z1 z2:Nat}
  (TP1:Tp kAn 53 lab1 w.heap.size W1 va L 11) (B1:Bx W1 lab1 z1 o1) (B2:Bx W1 lab1 z2 o2) (hb:Below w.heap.size w W1) (hlo:∀j,j<w.heap.size→(j =0∧lab1 j=0)∨lab1 j=12) (K':Keep w2 g m lab' b' T' v' cs' ds' n' D') (S':Stq W1 lab1 w2 lab') (hbX:Below w2.heap.size w2 X):
  Row kAn 53 X w.heap.size va L∧w.heap.size≤X.heap.size∧∀(w3:World) (v2:Value) (L':List An),Row kAn 53 w3 w.heap.size v2 L'→X.grownBy w3 va.ownBlock→(∀ j,v2.ownBlock=some j→va.ownBlock=some j∨X.heap.size≤j)→w3.ownsRow w.heap.size 53 kAn.size v2 L'.length (kAn.flat L')→
   ∃lab'',Keep w3 g m lab'' b' T' v' cs' ds' n' D'∧Tp kAn 53 lab'' w.heap.size w3 v2 L' 11∧Bx w3 lab'' z1 o1∧Bx w3 lab'' z2 o2∧Below w.heap.size w w3∧∀j,j<w.heap.size→(j =0∧lab'' j=0)∨lab'' j=12:=by
 have S2:Stq W1 lab1 X (relab lab' w2.heap.size 0):=S'.trans (stq_below hbX 0)
 have TP2:=TP1.stq S2 (by decide)
 have K2:=K'.below hbX (j:=0) (Or.inl rfl)
 have hb2:Below w.heap.size w X:=below_stq hb S2 hlo
 refine ⟨TP2.row,hb2.size,fun w3 v2 L' hr hg ha hn=>?_⟩
 have ho:Only (relab lab' w2.heap.size 0) 11 X w3:=only_grown hg (fun k hk=>TP2.lab k hk) (by decide)
 refine ⟨_,K2.only ho,TP2.grow hr (fun _=>hn) ha,(B1.stq S2).only ho (Or.inr (by decide)),(B2.stq S2).only ho (Or.inr (by decide)),TP2.below hb2 hg (Nat.le_refl _) hb2.size,fun j hj=>?_⟩
 rw[relab_old (Nat.lt_of_lt_of_le hj hb2.size),S2.ext j (Nat.lt_of_lt_of_le hj hb.size)]
 exact hlo j hj
theorem play_end {w wr:World}{g m:Nat}{lab:Lab}{b:Bank}{T:List (Dd ×An)}{v:Vs}{cs:List CV}{ds:List DV}{n:Nat}{D:DataW Unit}{va:Value}{L:List An}{b0:Bank}{v0:Vs}(Kp:Keep wr g m lab b T v cs ds n D) (TP:Tp kAn 53 lab w.heap.size wr va L 11) (B1:Bx wr lab (w.heap.size +1) (bko b0 v0)) (B2:Bx wr lab (w.heap.size +2) (fo (0,0))) (hb:Below w.heap.size w wr) (hlo:∀j,j<w.heap.size→(j=0∧lab j=0)∨lab j=12):
  (wr.setCells (w.heap.size+1) 0 (cellsK b v).toList).heap[w.heap.size+2]?=some (fo (0,0))∧
  (((wr.setCells (w.heap.size +1) 0 (cellsK b v).toList).setCell ⟨w.heap.size+2,0,none⟩ (.int .i64 0)).setCell ⟨w.heap.size+2,1,none⟩ (.int .i64 0)).heap[w.heap.size+1]?=some (bko b v)∧
  (((wr.setCells (w.heap.size +1) 0 (cellsK b v).toList).setCell ⟨w.heap.size+2,0,none⟩ (.int .i64 0)).setCell ⟨w.heap.size+2,1,none⟩ (.int .i64 0)).heap[w.heap.size+2]?=some (fo (0,0))∧
  Shown (((wr.setCells (w.heap.size +1) 0 (cellsK b v).toList).setCell ⟨w.heap.size+2,0,none⟩ (.int .i64 0)).setCell ⟨w.heap.size+2,1,none⟩ (.int .i64 0)) (fl w.heap.size) b v cs ds∧
  Ap kAn (fl w.heap.size) (((wr.setCells (w.heap.size+1) 0 (cellsK b v).toList).setCell ⟨w.heap.size+2,0,none⟩ (.int .i64 0)).setCell ⟨w.heap.size+2,1,none⟩ (.int .i64 0)) va L 0∧
  Below w.heap.size w (((wr.setCells (w.heap.size +1) 0 (cellsK b v).toList).setCell ⟨w.heap.size+2,0,none⟩ (.int .i64 0)).setCell ⟨w.heap.size+2,1,none⟩ (.int .i64 0)):=by
 rw[putAll_cells]
 have hF:=bko_all (b:=b) (v:=v) B1.ob
 have hf2:=(putAll_other wr (w.heap.size +1) 0 (w.heap.size +2) (cellsK b v).toList (by omega)).trans B2.ob
 have hbY:=below_putAll hb (w.heap.size+1) 0 (cellsK b v).toList (Nat.le_succ _)
 have ho:=only_putAll wr (w.heap.size +1) 0 (cellsK b v).toList B1.ol (by decide)
 generalize putAll wr (w.heap.size+1) 0 (cellsK b v).toList=Y at*
 have hF2:=fo_put (a:=(0,0)) hf2
 have ho2:=(ho.trans (only_set Y ⟨w.heap.size+2,0,none⟩ (.int .i64 0) B2.ol (by decide))).trans (only_set _ ⟨w.heap.size+2,1,none⟩ (.int .i64 0) B2.ol (by decide))
 refine ⟨hf2,(heap_setCell_other _ _ _ _ (by simp)).trans ((heap_setCell_other _ _ _ _ (by simp)).trans hF),hF2,(Kp.shown.go ho2.size (fun _ _=>rfl) fun k hk h0=>ho2.block k hk (Or.inr (by rw[h0];decide))).lab (fun k hk=>fl_of hlo hk),ap_fresh (TP.stay ho2 (Or.inr (by decide))),(hbY.setCell (p:=⟨w.heap.size+2,0,none⟩) (by simp) _).setCell (p:=⟨w.heap.size+2,1,none⟩) (by simp) _⟩
theorem there_p' (w:World){b:Bank}{v:Vs}{m:Nat}{cs:Array Value} (hs:cs.size=20):((w.alloc (.map #[] 0)).alloc (.cells cs 98)).there (w.heap.size+1) 0 (cellsB b v (.map (some m))).size:=there_blk (heap_alloc_at _ _ _ (by simp)) (by rw [hs];exact Nat.le_refl 20)
theorem play_yes (n:Nat) (ps:List Pa) (a:Option Addr) (c:Nat) (cap:Int) (al:Option Addr) (cl:Nat) (l:List Dd) (w:World) (hl:Gn.Lies kPa w a c ps) (hd:Gn.Lies kDd w al cl l) (hE:(setErr ps n cap).1=0) (hl150:l.length≤150) (hfit:∀d∈l,FitD d) (O:Oth w):
  Calls Tryz.prog 18 #[suv (.slice a ps.length c) n cap,.slice al l.length cl] w (PlaysN w ((playL (startB ps n cap) l).1,(playL (startB ps n cap) l).2.map (·.2),(0,0))):=by
 have hdw:=hd
 have hok:=set_ok hE
 obtain ⟨o1,o2,o3,o4,o5,o6⟩:=hok
 have hO:=fun (X :World) (h :Gn.Lies kPa X a c ps)=>opened_any ps a c n cap X h o1 (by omega) ⟨o4,o5⟩
 unfold suv at hO
 simp only[bkv_cells] at hO
 have hRdy:=fun k (hk :k≤l.length)=>play_ready (n:=n) o1 (by omega) ⟨o4,o5⟩ o6 l hl150 k hk
 clear o2 o3 o4 o5 o6
 replace hE:=hid hE
 obtain ⟨b0,hb0⟩:∃x,x=zB:=⟨_,rfl⟩
 obtain ⟨v0,hv0⟩:∃x,x=zV:=⟨_,rfl⟩
 have zobj:Hid (Obj.cells #[.int .i64 0,.bool false,.slice none 0 0,.slice none 0 0,.slice none 0 0,.int .i64 0,.slice none 0 0,.int .i64 0,.slice none 0 0,.int .i64 0,.int .i64 0,.slice none 0 0,.slice none 0 0,.int .i64 0,.slice none 0 0,.slice none 0 0,.slice none 0 0,.slice none 0 0,.slice none 0 0] 43=bko b0 v0):=hid (by rw[hb0,hv0];rfl)
 have zcel:Hid (#[.int .i64 0,.bool false,.slice none 0 0,.slice none 0 0,.slice none 0 0,.int .i64 0,.slice none 0 0,.int .i64 0,.slice none 0 0,.int .i64 0,.int .i64 0,.slice none 0 0,.slice none 0 0,.int .i64 0,.slice none 0 0,.slice none 0 0,.slice none 0 0,.slice none 0 0,.slice none 0 0]=cellsK b0 v0):=hid (by rw[hb0,hv0];rfl)
 have zone:(cellsK b0 v0).all (·.oneCell')=true:=by rw[hb0,hv0];exact zero_one
 have zsh:∀Y,Shown Y (fl w.heap.size) b0 v0 [] []:=fun Y=>by rw[hb0,hv0];exact zB_shown Y _
 have zbu:Hid (Tryz.prog.built 43 []=some (cellsK b0 v0)):=hid (by rw[hb0,hv0];exact built_z)
 skip
 replace hb0:=hid hb0
 clear hv0
 replace zone:=hid zone
 have hW:=fun (X:World) (h :Gn.Lies kPa X a c ps)=>swrong_any ps a c (n:Int) cap X h
 unfold suv Dy.fv at hW
 have hmx:=hd.len
 unfold maxLen at hmx
 have e1:=below_alloc w (suo (.slice a ps.length c) (n:Int) cap)
 have e2:=below_alloc (w.alloc (suo (.slice a ps.length c) (n :Int) cap)) (bko b0 v0)
 have e3:=below_alloc ((w.alloc (suo (.slice a ps.length c) (n :Int) cap)).alloc (bko b0 v0)) (fo (0,0))
 have hb:=(e1.trans (e2.mono (by simp))).trans (e3.mono (by simp;omega))
 have hs0:(((w.alloc (suo (.slice a ps.length c) (n :Int) cap)).alloc (bko b0 v0)).alloc (fo (0,0))).heap[w.heap.size]?=some (suo (.slice a ps.length c) (n :Int) cap):=(e3.block _ (by simp;omega)).trans ((e2.block _ (by simp)).trans (heap_alloc_at _ _ _ rfl))
 have hr0:(((w.alloc (suo (.slice a ps.length c) (n :Int) cap)).alloc (bko b0 v0)).alloc (fo (0,0))).heap[w.heap.size+1]?=some (bko b0 v0):=(e3.block _ (by simp)).trans (heap_alloc_at _ _ _ (by simp))
 have hf0:(((w.alloc (suo (.slice a ps.length c) (n:Int) cap)).alloc (bko b0 v0)).alloc (fo (0,0))).heap[w.heap.size+2]?=some (fo (0,0)):=heap_alloc_at _ _ _ (by simp)
 obtain ⟨W,hWd⟩:∃W,((w.alloc (suo (.slice a ps.length c) (n :Int) cap)).alloc (bko b0 v0)).alloc (fo (0,0))=W:=⟨_,rfl⟩
 rw[hWd] at hb hs0 hr0 hf0
 rw[←zobj.out] at hWd
 unfold suo fo at hWd
 dsimp only at hWd
 have hl1:=hl.below hb
 have hd1:=hd.below hb
 obtain ⟨s0,s1,s2⟩:=sul_cells hs0
 have hW1:=hW W hl1
 have zl:=lt_of_block hf0
 clear e1 e2 e3 hl hd
 unfold suv
 go_enter Tryz.func18,Tryz.ntmps18
 go_upto_region 1 with fail
 try rw[hWd]
 clear hWd
 go_upto_region 2 with (go_at_call 20;refine hW1.mono ?_;rintro e w1 ⟨rfl,hb1⟩)
 have hb2:=below_alloc w1 (.cells #[.int .i64 (setErr ps (n :Int) cap).1,.int .i64 (setErr ps (n :Int) cap).2] 47)
 have hfe:(w1.alloc (.cells #[.int .i64 (setErr ps (n :Int) cap).1,.int .i64 (setErr ps (n :Int) cap).2] 47)).heap[w1.heap.size]?=some (fo (setErr ps (n:Int) cap)):=heap_alloc_at _ _ _ rfl
 have hbX:Below W.heap.size W (w1.alloc (.cells #[.int .i64 (setErr ps (n :Int) cap).1,.int .i64 (setErr ps (n :Int) cap).2] 47)):=hb1.trans (hb2.mono hb1.size)
 generalize w1.alloc (.cells #[.int .i64 (setErr ps (n :Int) cap).1,.int .i64 (setErr ps (n :Int) cap).2] 47)=X at*
 have zfW:W.heap.size≤w1.heap.size:=hb1.size
 generalize w1.heap.size=zf at*
 clear hb1 hb2 hW hW1 s0 s1 s2
 have hs1:X.heap[w.heap.size]?=some (suo (.slice a ps.length c) (n:Int) cap):=(hbX.block _ (by omega)).trans hs0
 have hr1:X.heap[w.heap.size+1]?=some (bko b0 v0):=(hbX.block _ (by omega)).trans hr0
 have hf1:X.heap[w.heap.size+2]?=some (fo (0,0)):=(hbX.block _ zl).trans hf0
 have hbw:Below w.heap.size w X:=hb.trans (hbX.mono hb.size)
 have hl2:=hl1.below hbX
 have hd2:=hd1.below hbX
 clear hs0 hr0 hf0 hb hbX hl1 hd1
 obtain ⟨x0,x1,-,-⟩:=fo_cells hfe
 rw[hE.out] at x0
 have hl':¬(150 :Int)<l.length:=by omega
 clear hE hfe x1
 obtain ⟨s0,s1,s2⟩:=sul_cells hs1
 have hO1:=hO X hl2
 have O1:Oth X:=O.keep (hbw.block 0 O.lt)
 clear hO hl2 hs1 o1
 have hmm:=@run_makeMap Tryz.prog
 go_upto_region 7 with (first
  |(go_at_call 44;refine hO1.mono ?_;rintro e w3 ⟨v3,rfl,SH3,hb3⟩;have hone:=hid (oneP (m:=w3.heap.size) SH3.one))
  |(refine wpList_build_p rfl _ _ rfl (startB ps n cap) v3 w3.heap.size rfl rfl ?_)
  |(refine wpList_store_mid rfl 98 _ _ rfl (w3.heap.size+1) 0 (cellsB (startB ps n cap) v3 (.map (some w3.heap.size))) rfl rfl (there_p' w3 rfl) infoG hone.out ?_))
 have hY0:=play_start (b:=startB ps n cap) (v:=v3) (cs:=ps.map cvOf) (X:=X) (w:=w) #[.int .i64 0,.bool false,.slice none 0 0,.slice none 0 0,.slice none 0 0,.int .i64 0,.slice none 0 0,.int .i64 0,.slice none 0 0,.int .i64 0,.int .i64 0,.slice none 0 0,.slice none 0 0,.int .i64 0,.slice none 0 0,.slice none 0 0,.slice none 0 0,.slice none 0 0,.slice none 0 0,.map none] rfl SH3 hb3 O1 hr1 hf1 hbw (by omega)
 generalize ((w3.alloc (.map #[] 0)).alloc (.cells #[.int .i64 0,.bool false,.slice none 0 0,.slice none 0 0,.slice none 0 0,.int .i64 0,.slice none 0 0,.int .i64 0,.slice none 0 0,.int .i64 0,.int .i64 0,.slice none 0 0,.slice none 0 0,.int .i64 0,.slice none 0 0,.slice none 0 0,.slice none 0 0,.slice none 0 0,.slice none 0 0,.map none] 98)).setCells (w3.heap.size+1) 0 (cellsB (startB ps n cap) v3 (.map (some w3.heap.size))).toList=Y at*
 obtain ⟨lab0,K0,B1,B2,hbY,hd3⟩:=hY0
 have hd4:=hd3.1 _ _ _ _ hd2
 clear hd3 hd2 hr1 hf1 hbw hone SH3 hb3 O1 O hO1 x0 s0 s1 s2 zobj zcel zsh zbu zl zfW hmm
 have hdd:∀X:World,Below w.heap.size w X→True:=fun _ _=>trivial
 clear hdd
 generalize w3.heap.size=m at*
 go_upto_region 9 with fail
 go_loopw[30,9](fun i vo wr=>∃(k:Nat) (va:Value) (lab:Lab) (v:Vs) (cs:List CV) (ds:List DV) (nn:Nat) (D:DataW Unit),k≤l.length∧i=.int .i64 k∧vo=va∧Keep wr (m+1) m lab (playL (startB ps n cap) (l.take k)).1 (playL (startB ps n cap) (l.take k)).2 v cs ds nn D∧Tp kAn 53 lab w.heap.size wr va ((playL (startB ps n cap) (l.take k)).2.map (·.2)) 11∧Bx wr lab (w.heap.size +1) (bko b0 v0)∧Bx wr lab (w.heap.size+2) (fo (0,0))∧Below w.heap.size w wr∧Gn.Lies kDd wr al cl l∧(∀j,j<w.heap.size→(j =0∧lab j=0)∨lab j=12)) (fun i _ _=>l.length-(intOf i).toNat)
 case atStart=>exact ⟨0,_,lab0,_,_,_,_,_,Nat.zero_le _,rfl,rfl,K0,tp_nil,B1,B2,hbY.1,hd4,hbY.2⟩
 case round=>
  clear K0 B1 B2 hbY hd4
  obtain ⟨k,va,lab,v,cs,ds,nn,D,hk,rfl,rfl,Kp,TP,B1,B2,hbr,hdr,hlo⟩:=hrel
  obtain ⟨ao,co,rfl,-⟩:=TP.ap.lies
  have hTl:(playL (startB ps n cap) (l.take k)).2.length=k:=by rw[play_len];simp;omega
  have hR:=hRdy k hk
  by_cases hlt:k<l.length
  ·have hlt':(k:Int)<l.length:=by omega
   have hnx:Hid (play1 (playL (startB ps n cap) (l.take k)) (l.getD k zD)=playL (startB ps n cap) (l.take (k+1))):=hid (by rw[take_snoc l hlt,playL_snoc])
   have hfd:=hfit _ (getD_mem' zD hlt)
   obtain ⟨zd,off,rfl,zlt,hcell⟩:=hdr.elem (i:=k) (x:=l.getD k zD) (by simp[List.getD,hlt])
   have e0:=hcell 0 _ rfl
   have e1:=hcell 1 _ rfl
   have e2:=hcell 2 _ rfl
   have e3:=hcell 3 _ rfl
   have e4:=hcell 4 _ rfl
   have e5:=hcell 5 _ rfl
   simp only[Nat.add_zero] at e0
   dsimp only[kDd] at e0 e1 e2 e3 e4 e5
   clear hcell
   generalize l.getD k zD=d at*
   generalize playL (startB ps n cap) (l.take k)=st at*
   obtain ⟨b,T⟩:=st
   dsimp only at*
   have hb1:=below_alloc wr (ddo d)
   have K1:=Kp.below hb1 (j:=0) (Or.inl rfl)
   have TP1:=TP.move (only_below (j:=0) hb1) (Or.inl rfl)
   have B11:=B1.only (only_below (j:=0) hb1) (Or.inl rfl)
   have B21:=B2.only (only_below (j:=0) hb1) (Or.inl rfl)
   have hbr1:Below w.heap.size w (wr.alloc (ddo d)):=hbr.trans (hb1.mono hbr.size)
   have hdr1:=hdr.below hb1
   have hlo1:∀j,j<w.heap.size→(j=0∧relab lab wr.heap.size 0 j=0)∨relab lab wr.heap.size 0 j=12:=fun j hj=>by rw[relab_old (Nat.lt_of_lt_of_le hj hbr.size)];exact hlo j hj
   have hdb:(wr.alloc (ddo d)).heap[wr.heap.size]?=some (ddo d):=heap_alloc_at _ _ _ rfl
   obtain ⟨d0,d1,d2,d3,d4,d5⟩:=ddo_cells hdb
   have hH:=ghear (m +1) m _ b T v cs ds nn D d _ K1 hfd hR (by omega)
   unfold ddv Hears at hH
   unfold ddo at K1 TP1 B11 B21 hbr1 hdr1 hdb hH d0 d1 d2 d3 d4 d5
   clear Kp TP B1 B2 hbr hdr hb1 hlo hdb K1
   generalize relab lab wr.heap.size 0=lab1 at*
   generalize hW1:wr.alloc (.cells #[.int .i64 d.id,.int .i64 d.kind,.int .i64 d.n,.int .i64 d.shop,.int .i64 d.mv,.int .i64 d.sum] 74)=W1 at*
   go_upto_region 11 with fail
   try rw[hW1]
   clear hW1 e0 e1 e2 e3 e4 e5
   have hLl:(T.map (·.2)).length=k:=by rw[List.length_map];exact hTl
   rw[hLl] at TP1⊢
   have hdw':=fun (X:World) (h :Below w.heap.size w X)=>hdw.below h
   clear hdr1 hdw
   have hst:=fun (w2:World) (lab' :Lab) (b':Bank) (T' :List (Dd×An)) (v':Vs) (cs' :List CV) (ds' :List DV) (n' :Nat) (D':DataW Unit) (K' :Keep w2 (m+1) m lab' b' T' v' cs' ds' n' D') (S':Stq W1 lab1 w2 lab') (X :World) (hX :Below w2.heap.size w2 X)=>play_step TP1 B11 B21 hbr1 hlo1 K' S' hX
   have hnl:Hid ((playL (startB ps n cap) (List.take (k+1) l)).2=(play1 (b,T) d).2):=hid (by rw[hnx.out])
   clear TP1 B11 B21 hlo1 hR hfd
   obtain ⟨L,hL⟩:∃L,L=T.map (·.2):=⟨_,rfl⟩
   rw[←hL] at hst hLl
   replace hL:=hid hL
   generalize hst':play1 (b,T) d=st' at*
   go_wp2_with (first
    |(go_at_call 45;refine hH.mono ?_;rintro _ w2 ⟨x,hT',rfl,lab',v',cs',ds',n',D',K',S'⟩;replace hT':=hid hT';have hX:=hst w2 _ _ _ _ _ _ _ _ K' S' (w2.alloc (ano x)) (below_alloc _ _);unfold ano at hX;obtain ⟨hrow,hlo2,hgo⟩:=hX;have hone:Gn.Lies kAn (w2.alloc (.cells #[.int .i64 x.1,.int .i64 x.2] 53)) (some ⟨w2.heap.size,0,none⟩) 1 [x]:=lies_one (K:=kAn) (x:=x) (cs:=#[.int .i64 x.1,.int .i64 x.2]) (heap_alloc_at _ _ _ rfl) rfl _;clear hst K' S' hH;unfold anv)
    |(at_builtin;refine wpList_append elemAn _ rfl _ _ rfl w.heap.size (.slice ao k co) L rfl hrow _ 1 1 [x] rfl rfl hone (by rw[hLl];simp[maxLen];omega) (by rw[hLl];simp;omega) hlo2 ?_;intro v2 w4 hown hgrow hat hon;obtain ⟨a2,m2',rfl,-,-,-⟩:=hown.lies;obtain ⟨lab4,K4,TP4,B14,B24,hb4,hlo4⟩:=hgo _ _ _ hown hgrow hat (hon (by simp))))
   have hl2:(L ++[x]).length=k+1:=by rw[List.length_append,hLl];rfl
   rw[hl2] at TP4
   have hLe:L++[x]=(playL (startB ps n cap) (l.take (k+1))).2.map (·.2):=by rw[←hnx.out,hT'.out,List.map_append,hL.out];rfl
   rw[hLe] at TP4
   rw[hnx.out] at K4
   go_roundw
   case rel=>exact ⟨k+1,_,lab4,_,_,_,_,_,by omega,by go_num,rfl,K4,TP4,B14,B24,hb4,hdw' _ hb4,hlo4⟩
   case measure=>simp[intOf];omega
  ·obtain rfl:k=l.length:=by omega
   have hge:¬((l.length:Int)<l.length):=by omega
   rw[List.take_length] at Kp TP hTl⊢
   generalize hst:playL (startB ps n cap) l=st at Kp TP hTl
   obtain ⟨b,T⟩:=st
   dsimp only at Kp TP hTl
   replace hst:=hid hst
   have hTl':Hid ((T.map (·.2)).length=l.length):=hid (by rw[List.length_map];exact hTl)
   obtain ⟨dK,uK,rK⟩:=underK
   have hrange:=blk_load Kp.blk
   have hthere:=bko_there (b':=b) (v':=v) B1.ob
   have hone:=hid Kp.shown.one
   obtain ⟨E1,E2,E3,E4,E5,E6⟩:=play_end Kp TP B1 B2 hbr hlo
   obtain ⟨t0,t1,t2,t3⟩:=fo_cells E1
   dsimp only at t0 t1
   clear E1 Kp TP B1 B2 hbr hdr hdw hlo hR
   replace E2:=hid E2
   replace E3:=hid E3
   replace E4:=hid E4
   replace E5:=hid E5
   replace E6:=hid E6
   go_upto_region 13 with fail
   have hinf:Hid ((Tryz.prog.info? 43).map (·.size)=some (cellsK b v).size):=hid infoK
   have hbk:Hid (bkv b v=.agg (cellsK b v)):=hid rfl
   have hinl:Hid ((Tryz.prog.info? 43).map (·.size)=some (cellsK b v).toList.length):=hid infoK
   have hmk:Hid ((cellsK b v).toList.toArray=cellsK b v):=hid (by simp)
   generalize cellsK (startB ps n cap) v3=zz1 at*
   generalize cellsB (startB ps n cap) v3 (.map (some m))=zz2 at*
   generalize m+1=g at*
   generalize cellsK b v=cc at*
   go_wp2_with (first
    |(refine wpList_load_mid rfl 43 _ rfl g 0 rfl cc.toList dK hrange uK rK hinl.out ?_;rw[hmk.out])
    |(refine wpList_store_mid rfl 43 _ _ rfl (w.heap.size +1) 0 cc rfl rfl hthere hinf.out hone.out ?_))
   replace E2:=E2.out
   replace E3:=E3.out
   replace E4:=E4.out
   replace E5:=E5.out
   replace E6:=E6.out
   rw[hTl'.out] at E5
   generalize ((wr.setCells (w.heap.size+1) 0 cc.toList).setCell ⟨w.heap.size+2,0,none⟩ (.int .i64 0)).setCell ⟨w.heap.size+2,1,none⟩ (.int .i64 0)=Z at*
   exact bodyPost_ret (v:=.tuple #[bkv b v,.slice ao l.length co,Dy.fv (0,0)]) (results_csc Tryz.results18 rfl rfl rfl (loadVar_bank E2) (loadVar_f E3)) rfl ⟨v,cs,ds,.slice ao l.length co,by rw[hst.out],by rw[hst.out];exact E4,by rw[hst.out];exact E5,E6⟩
theorem play_new (ps:List Pa) (a:Option Addr) (c:Nat) (shops cap:Int) (al:Option Addr) (cl:Nat) (l:List Dd) (w:World) (hl:Gn.Lies kPa w a c ps) (hd:Gn.Lies kDd w al cl l) (hfit:∀d∈l,FitD d) (O:Oth w):
  Calls Tryz.prog 18 #[suv (.slice a ps.length c) shops cap,.slice al l.length cl] w (PlaysN w (playR ps shops cap l)):=by
 unfold playR
 by_cases h1:(setErr ps shops cap).1≠0
 ·rw[if_pos h1];exact play_wrong ps a c shops cap al cl l w hl hd h1
 rw[if_neg h1]
 have h0:(setErr ps shops cap).1=0:=by simpa using h1
 by_cases h2:150<l.length
 ·rw[if_pos h2];exact play_many ps a c shops cap al cl l w hl hd h0 h2
 rw[if_neg h2]
 have hs:=(set_ok h0).2.1
 have e:shops=(shops.toNat :Int):=by omega
 generalize shops.toNat=n at e⊢
 subst e
 exact play_yes n ps a c cap al cl l w hl hd h0 (by omega) hfit O
theorem play_any (ps:List Pa) (a:Option Addr) (c:Nat) (shops cap:Int) (al:Option Addr) (cl:Nat) (l:List Dd) (w:World) (hl:Gn.Lies kPa w a c ps) (hd:Gn.Lies kDd w al cl l) (hfit:∀d∈l,FitD d) (O:Oth w):
  Calls Tryz.prog 18 #[suv (.slice a ps.length c) shops cap,.slice al l.length cl] w (Plays w (playR ps shops cap l)):=
 (play_new ps a c shops cap al cl l w hl hd hfit O).mono fun _ _ ⟨v,cs,ds,va,h1,h2,h3,h4⟩=>⟨v,cs,ds,va,h1,h2.shows,ap_plain h3,h4⟩
structure Hs (L:List Int) (D:DataW Unit):Prop where
 is:IsMap D
 at':∀id:Int,D.atKey (.int .i64 id) (.lit (.bool false))=.lit (.bool (decide (id∈L)))
theorem Hs.put {L:List Int}{D:DataW Unit}(h:Hs L D) (id:Int):Hs (L ++[id]) (D.put (.int .i64 id) (.lit (.bool true))):=by
 refine ⟨h.is.put _ _,fun i=>?_⟩
 by_cases e:i=id
 ·subst e
  rw[atKey_put_same h.is (key_lit _)];simp
 ·have ne:(Lit.int .i64 i)≠.int .i64 id:=fun q=>by injection q with _ q;exact e q
  rw[atKey_put_other ne,h.at' i]
  simp[e]
open Go.Proofs.YtofcnebekmjdoaaGreatDoor
structure Plain (b x:Bank):Prop where
 auths:x.auths=b.auths
 time:x.time=b.time
 down:x.down=b.down
 stand:x.stand=b.stand
 today:x.today=b.today
 days:x.days=b.days
end Go.Proofs.YtofcnebekmjdoaaGreatDoor.Bn
