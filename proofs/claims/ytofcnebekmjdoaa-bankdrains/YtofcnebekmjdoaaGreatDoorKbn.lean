import Derived.Test.YtofcnebekmjdoaaGreatDoorKbm
set_option maxHeartbeats 4000000
set_option maxRecDepth 100000
namespace Go.Proofs.YtofcnebekmjdoaaGreatDoor.Bn
open Go.RowKit Go.Proofs.YtofcnebekmjdoaaGreatDoor.Gn
theorem gsend_yes (g base:Nat)(lab:Lab)(b:Bank)(tm:Value)(i:Bool)(w:World)(h:GoesF w g base lab b tm)(w60:∀i,(b.way i).length≤60)(k40:∀i,(b.snd i).kept.length≤40)(O:Oth w)(h0:lab 0=0):
  Calls Tryz.prog 100 #[.pointer (some ⟨g,0,none⟩),.int .i64 (sideN i)] w (DoneE w g base lab tm (if 60<(sent b i).length then (b,5) else ({ b with way:=upd b.way (!i) (sent b i)},0))):=by
 have hS:=fun X=>isSide_any (sideN i) X
 rw[isIn_true.2 (by cases i<;>decide)] at hS
 obtain⟨v,cs,ds,H,hT⟩:=h
 have hsent:=hid (sentK_end b i)
 generalize hR:(if 60<(sent b i).length then (b,(5 :Int)) else ({b with way:=upd b.way (!i) (sent b i)},0))=R
 replace hR:=hid hR
 cases i with
 |false=>
  have hTj:Tp kP 111 lab base w (v.wy true) (b.way true) (wl true):=hT true
  obtain⟨a0,cap0,hv0,-⟩:=hTj.ap.lies
  obtain⟨ak,capk,hvk,-⟩:=(H.mem.kept false).lies
  have M0:Mid w lab w lab g base b v cs ds tm true (.slice a0 (b.way true).length cap0) (sentK b false 0):=by
   rw[sentK_zero,←hv0]
   exact⟨by
    have e1:upd b.way true (b.way true)=b.way:=upd_self _ _
    have e2:upd v.wy true (v.wy true)=v.wy:=upd_self _ _
    show Mem w lab base {b with way:=upd b.way true (b.way true)} _ cs ds
    rw[e1,e2]
    exact H.mem,hTj,H.blk,H.lb,Stp.refl _ _⟩
  obtain⟨-,-,-,-,-,-,ck,-,-,cn,-,-,cw,-,-,-,-,-,-,-⟩:=blk_cells H.blk
  rw[hv0] at cw
  rw[hvk] at ck
  replace hv0:=hid hv0
  replace hvk:=hid hvk
  have hl:=fun k=>sentK_len b false k
  have lw:=w60 true
  have lk:=k40 false
  have oc:=O.c0
  unfold sideN
  simp only[Bool.false_eq_true,if_false]
  unfold sideN at hS
  simp only[Bool.false_eq_true,if_false] at hS
  clear hT hTj H
  have M1:=M0.drew
  go_enter Tryz.func100,Tryz.ntmps100
  go_upto_region 3 with (go_at_call 134;refine (hS _).mono ?_;rintro e w1⟨rfl,hw1⟩;rw[hw1];clear hw1 w1)
  go_region
  go_upto_region 5 with fail
  go_loopw[29,5](fun c wy wr=>∃(k:Nat)(va:Value)(l:Lab),k≤(b.snd false).kept.length∧c=.int .i64 k∧wy=va∧Mid w lab wr l g base b v cs ds tm true va (sentK b false k))(fun c _ _=>(b.snd false).kept.length-(intOf c).toNat)
  case atStart=>exact⟨0,_,lab,Nat.zero_le _,rfl,rfl,M1⟩
  case round=>
   clear M0 M1 cw ck cn
   obtain⟨k,va,l,hk,rfl,rfl,M⟩:=hrel
   by_cases hlt:k<(b.snd false).kept.length
   ·have hlt':(k:Int)<(b.snd false).kept.length:=by omega
    have hn:=hid (sentK_next (b:=b) (i:=false) hlt)
    obtain⟨ak',capk',hvk',hlies,-⟩:=M.mem.kept false
    have hve:Value.slice ak (b.snd false).kept.length capk=.slice ak' (b.snd false).kept.length capk':=hvk.out.symm.trans hvk'
    obtain⟨rfl,-,rfl⟩:=Value.slice.inj hve
    have hx:(b.snd false).kept[k]?=some ((b.snd false).kept.getD k Po.zeroT):=by simp[List.getD,hlt]
    obtain⟨zk,off,hak,zlt,hcell⟩:=hlies.elem hx
    subst hak
    have hlk:=hl k
    clear hve hvk' hlies hx
    generalize (b.snd false).kept.getD k Po.zeroT=t at*
    obtain⟨n,kd,au,sm⟩:=t
    have e0:=hcell 0 _ rfl
    have e1:=hcell 1 _ rfl
    have e2:=hcell 2 _ rfl
    have e3:=hcell 3 _ rfl
    simp only[Nat.add_zero] at e0
    dsimp only[Po.kT] at e0 e1 e2 e3
    clear hcell
    have hb1:=below_alloc wr (.cells #[.int .i64 n,.int .i64 kd,.int .i64 au,.int .i64 sm] 64)
    have M1:=M.below hb1
    obtain⟨aw,capw,rfl,-⟩:=M.tp.ap.lies
    have hb2:=below_alloc (wr.alloc (.cells #[.int .i64 n,.int .i64 kd,.int .i64 au,.int .i64 sm] 64)) (.cells #[.int .i64 n,.int .i64 kd,.int .i64 au,.int .i64 sm,.int .i64 (-1)] 111)
    have M2:=M1.below hb2
    have hone:Gn.Lies kP ((wr.alloc (.cells #[.int .i64 n,.int .i64 kd,.int .i64 au,.int .i64 sm] 64)).alloc (.cells #[.int .i64 n,.int .i64 kd,.int .i64 au,.int .i64 sm,.int .i64 (-1)] 111)) (some ⟨wr.heap.size+1,0,none⟩) 1 [⟨⟨n,kd,au,sm⟩,-1⟩]:=lies_one (K:=kP) (x:=⟨⟨n,kd,au,sm⟩,-1⟩) (cs:=#[.int .i64 n,.int .i64 kd,.int .i64 au,.int .i64 sm,.int .i64 (-1)]) (heap_alloc_at _ _ _ (by simp)) rfl _
    have h63:(sentK b false k).length+[(⟨⟨n,kd,au,sm⟩,-1⟩:Pk)].length≤maxLen:=by simp[maxLen] at hlk⊢;omega
    have hby:((sentK b false k).length+[(⟨⟨n,kd,au,sm⟩,-1⟩:Pk)].length)*40≤140737488355328:=by simp at hlk⊢;omega
    have hrow:=M2.tp.row
    have hlo:=M2.mem.lo
    clear hb1 hb2 M M1
    go_wp2_with (at_builtin;refine wpList_append elemP _ rfl _ _ rfl base (.slice aw (sentK b false k).length capw) (sentK b false k) rfl hrow _ 1 1 [⟨⟨n,kd,au,sm⟩,-1⟩] rfl rfl hone h63 hby hlo ?_;intro v2 w2 hown hgrow hat hon)
    have M3:=M2.more hown hgrow hat hon
    rw[hn.out] at M3
    go_roundw
    case rel=>exact⟨k+1,_,_,by omega,by go_num,rfl,M3⟩
    case measure=>simp[intOf];omega
   ·obtain rfl:k=(b.snd false).kept.length:=by omega
    obtain⟨aw,capw,rfl,-⟩:=M.tp.ap.lies
    obtain⟨-,-,-,-,-,-,-,-,-,cn,-,-,-,-,-,-,-,-,-,-⟩:=blk_cells M.blk
    have hb1:=below_alloc wr (.cells #[.int .i64 0,.int .i64 0,.int .i64 0,.int .i64 0,.int .i64 (b.seen false)] 111)
    have M1:=M.below hb1
    have hone:Gn.Lies kP (wr.alloc (.cells #[.int .i64 0,.int .i64 0,.int .i64 0,.int .i64 0,.int .i64 (b.seen false)] 111)) (some ⟨wr.heap.size,0,none⟩) 1 [⟨Po.zeroT,b.seen false⟩]:=lies_one (K:=kP) (x:=⟨Po.zeroT,b.seen false⟩) (cs:=#[.int .i64 0,.int .i64 0,.int .i64 0,.int .i64 0,.int .i64 (b.seen false)]) (heap_alloc_at _ _ _ rfl) rfl _
    have hlk:=hl (b.snd false).kept.length
    have h63:(sentK b false (b.snd false).kept.length).length+[(⟨Po.zeroT,b.seen false⟩:Pk)].length≤maxLen:=by simp[maxLen] at hlk⊢;omega
    have hby:((sentK b false (b.snd false).kept.length).length+[(⟨Po.zeroT,b.seen false⟩:Pk)].length)*40≤140737488355328:=by simp at hlk⊢;omega
    have hrow:=M1.tp.row
    have hlo:=M1.mem.lo
    have hslen:(sent b false).length≤200:=by
     rw[←hsent.out,List.length_append]
     simp at hlk⊢;omega
    clear hb1 M hk hlk hl hlt
    go_upto_region 10 with (at_builtin;refine wpList_append elemP _ rfl _ _ rfl base (.slice aw (sentK b false (b.snd false).kept.length).length capw) (sentK b false (b.snd false).kept.length) rfl hrow _ 1 1 [⟨Po.zeroT,b.seen false⟩] rfl rfl hone h63 hby hlo ?_;intro v2 w2 hown hgrow hat hon)
    have M3:=M1.more hown hgrow hat hon
    rw[hsent.out] at M3
    obtain⟨a2,m2,hv2,-⟩:=M3.tp.ap.lies
    subst hv2
    clear hown hgrow hat hon M1 hrow hlo hone h63 hby
    by_cases q:60<(sent b false).length
    ·have q':(60 :Int)<(sent b false).length:=by omega
     have hRe:=hR.out
     rw[if_pos q] at hRe
     go_wp2_with fail
     go_ret
     rw[←hRe]
     exact⟨rfl,_,M3.stp,fun h=>absurd h (by show¬((5 :Int)=0);decide)⟩
    ·have q':¬(60 :Int)<(sent b false).length:=by omega
     have hRe:=hR.out
     rw[if_neg q] at hRe
     have O3:=O.stp M3.stp h0
     have oc3:=O3.c0
     obtain⟨-,-,-,-,-,-,-,-,-,-,-,-,cw,-,-,-,-,-,-,-⟩:=blk_cells M3.blk
     have fw:=blk_free M3.blk 12
     obtain⟨G4,S4⟩:=M3.drew.put (i:=12) rfl
     rw[hv0.out] at cw
     go_upto_region 12 with fail
     go_region
     go_wp2_with fail
     go_ret
     rw[←hRe]
     exact⟨rfl,_,S4,fun _=>G4⟩
 |true=>
  have hTj:Tp kP 111 lab base w (v.wy false) (b.way false) (wl false):=hT false
  obtain⟨a0,cap0,hv0,-⟩:=hTj.ap.lies
  obtain⟨ak,capk,hvk,-⟩:=(H.mem.kept true).lies
  have M0:Mid w lab w lab g base b v cs ds tm false (.slice a0 (b.way false).length cap0) (sentK b true 0):=by
   rw[sentK_zero,←hv0]
   exact⟨by
    have e1:upd b.way false (b.way false)=b.way:=upd_self _ _
    have e2:upd v.wy false (v.wy false)=v.wy:=upd_self _ _
    show Mem w lab base {b with way:=upd b.way false (b.way false)} _ cs ds
    rw[e1,e2]
    exact H.mem,hTj,H.blk,H.lb,Stp.refl _ _⟩
  obtain⟨-,-,-,-,-,-,-,-,ck,-,cn,cw,-,-,-,-,-,-,-,-⟩:=blk_cells H.blk
  rw[hv0] at cw
  rw[hvk] at ck
  replace hv0:=hid hv0
  replace hvk:=hid hvk
  have hl:=fun k=>sentK_len b true k
  have lw:=w60 false
  have lk:=k40 true
  have oc:=O.c1
  unfold sideN
  simp only[if_true]
  unfold sideN at hS
  simp only[if_true] at hS
  clear hT hTj H
  have M1:=M0.drew
  go_enter Tryz.func100,Tryz.ntmps100
  go_upto_region 3 with (go_at_call 134;refine (hS _).mono ?_;rintro e w1⟨rfl,hw1⟩;rw[hw1];clear hw1 w1)
  go_region
  go_upto_region 5 with fail
  go_loopw[29,5](fun c wy wr=>∃(k:Nat)(va:Value)(l:Lab),k≤(b.snd true).kept.length∧c=.int .i64 k∧wy=va∧Mid w lab wr l g base b v cs ds tm false va (sentK b true k))(fun c _ _=>(b.snd true).kept.length-(intOf c).toNat)
  case atStart=>exact⟨0,_,lab,Nat.zero_le _,rfl,rfl,M1⟩
  case round=>
   clear M0 M1 cw ck cn
   obtain⟨k,va,l,hk,rfl,rfl,M⟩:=hrel
   by_cases hlt:k<(b.snd true).kept.length
   ·have hlt':(k :Int)<(b.snd true).kept.length:=by omega
    have hn:=hid (sentK_next (b:=b) (i:=true) hlt)
    obtain⟨ak',capk',hvk',hlies,-⟩:=M.mem.kept true
    have hve:Value.slice ak (b.snd true).kept.length capk=.slice ak' (b.snd true).kept.length capk':=hvk.out.symm.trans hvk'
    obtain⟨rfl,-,rfl⟩:=Value.slice.inj hve
    have hx:(b.snd true).kept[k]?=some ((b.snd true).kept.getD k Po.zeroT):=by simp[List.getD,hlt]
    obtain⟨zk,off,hak,zlt,hcell⟩:=hlies.elem hx
    subst hak
    have hlk:=hl k
    clear hve hvk' hlies hx
    generalize (b.snd true).kept.getD k Po.zeroT=t at*
    obtain⟨n,kd,au,sm⟩:=t
    have e0:=hcell 0 _ rfl
    have e1:=hcell 1 _ rfl
    have e2:=hcell 2 _ rfl
    have e3:=hcell 3 _ rfl
    simp only[Nat.add_zero] at e0
    dsimp only[Po.kT] at e0 e1 e2 e3
    clear hcell
    have hb1:=below_alloc wr (.cells #[.int .i64 n,.int .i64 kd,.int .i64 au,.int .i64 sm] 64)
    have M1:=M.below hb1
    obtain⟨aw,capw,rfl,-⟩:=M.tp.ap.lies
    have hb2:=below_alloc (wr.alloc (.cells #[.int .i64 n,.int .i64 kd,.int .i64 au,.int .i64 sm] 64)) (.cells #[.int .i64 n,.int .i64 kd,.int .i64 au,.int .i64 sm,.int .i64 (-1)] 111)
    have M2:=M1.below hb2
    have hone:Gn.Lies kP ((wr.alloc (.cells #[.int .i64 n,.int .i64 kd,.int .i64 au,.int .i64 sm] 64)).alloc (.cells #[.int .i64 n,.int .i64 kd,.int .i64 au,.int .i64 sm,.int .i64 (-1)] 111)) (some ⟨wr.heap.size+1,0,none⟩) 1 [⟨⟨n,kd,au,sm⟩,-1⟩]:=lies_one (K:=kP) (x:=⟨⟨n,kd,au,sm⟩,-1⟩) (cs := #[.int .i64 n, .int .i64 kd, .int .i64 au, .int .i64 sm, .int .i64 (-1)]) (heap_alloc_at _ _ _ (by simp)) rfl _
    have h63 : (sentK b true k).length + [(⟨⟨n, kd, au, sm⟩, -1⟩ : Pk)].length ≤ maxLen := by simp [maxLen] at hlk ⊢; omega
    have hby : ((sentK b true k).length + [(⟨⟨n, kd, au, sm⟩, -1⟩ : Pk)].length) * 40 ≤ 140737488355328 := by simp at hlk ⊢; omega
    have hrow := M2.tp.row
    have hlo := M2.mem.lo
    clear hb1 hb2 M M1
    go_wp2_with (at_builtin; refine wpList_append elemP _ rfl _ _ rfl base (.slice aw (sentK b true k).length capw) (sentK b true k) rfl hrow _ 1 1 [⟨⟨n, kd, au, sm⟩, -1⟩] rfl rfl hone h63 hby hlo ?_; intro v2 w2 hown hgrow hat hon)
    have M3 := M2.more hown hgrow hat hon
    rw [hn.out] at M3
    go_roundw
    case rel => exact ⟨k + 1, _, _, by omega, by go_num, rfl, M3⟩
    case measure => simp [intOf]; omega
   ·obtain rfl : k = (b.snd true).kept.length := by omega
    obtain ⟨aw, capw, rfl, -⟩ := M.tp.ap.lies
    obtain ⟨-, -, -, -, -, -, -, -, -, -, cn, -, -, -, -, -, -, -, -, -⟩ := blk_cells M.blk
    have hb1 := below_alloc wr (.cells #[.int .i64 0, .int .i64 0, .int .i64 0, .int .i64 0, .int .i64 (b.seen true)] 111)
    have M1 := M.below hb1
    have hone : Gn.Lies kP (wr.alloc (.cells #[.int .i64 0, .int .i64 0, .int .i64 0, .int .i64 0, .int .i64 (b.seen true)] 111)) (some ⟨wr.heap.size, 0, none⟩) 1 [⟨Po.zeroT, b.seen true⟩] := lies_one (K := kP) (x := ⟨Po.zeroT, b.seen true⟩) (cs := #[.int .i64 0, .int .i64 0, .int .i64 0, .int .i64 0, .int .i64 (b.seen true)]) (heap_alloc_at _ _ _ rfl) rfl _
    have hlk := hl (b.snd true).kept.length
    have h63 : (sentK b true (b.snd true).kept.length).length + [(⟨Po.zeroT, b.seen true⟩ : Pk)].length ≤ maxLen := by simp [maxLen] at hlk ⊢; omega
    have hby : ((sentK b true (b.snd true).kept.length).length + [(⟨Po.zeroT, b.seen true⟩ : Pk)].length) * 40 ≤ 140737488355328 := by simp at hlk ⊢; omega
    have hrow := M1.tp.row
    have hlo := M1.mem.lo
    have hslen : (sent b true).length ≤ 200 := by
     rw [← hsent.out, List.length_append]
     simp at hlk ⊢; omega
    clear hb1 M hk hlk hl hlt
    go_upto_region 10 with (at_builtin; refine wpList_append elemP _ rfl _ _ rfl base (.slice aw (sentK b true (b.snd true).kept.length).length capw) (sentK b true (b.snd true).kept.length) rfl hrow _ 1 1 [⟨Po.zeroT, b.seen true⟩] rfl rfl hone h63 hby hlo ?_; intro v2 w2 hown hgrow hat hon)
    have M3 := M1.more hown hgrow hat hon
    rw [hsent.out] at M3
    obtain ⟨a2, m2, hv2, -⟩ := M3.tp.ap.lies
    subst hv2
    clear hown hgrow hat hon M1 hrow hlo hone h63 hby
    by_cases q : 60 < (sent b true).length
    ·have q' : (60 : Int) < (sent b true).length := by omega
     have hRe := hR.out
     rw [if_pos q] at hRe
     go_wp2_with fail
     go_ret
     rw [← hRe]
     exact ⟨rfl, _, M3.stp, fun h => absurd h (by show ¬ ((5 : Int) = 0); decide)⟩
    ·have q' : ¬ (60 : Int) < (sent b true).length := by omega
     have hRe := hR.out
     rw [if_neg q] at hRe
     have O3 := O.stp M3.stp h0
     have oc3 := O3.c1
     obtain ⟨-, -, -, -, -, -, -, -, -, -, -, cw, -, -, -, -, -, -, -, -⟩ := blk_cells M3.blk
     have fw := blk_free M3.blk 11
     obtain ⟨G4, S4⟩ := M3.drew.put (i := 11) rfl
     rw [hv0.out] at cw
     go_upto_region 12 with fail
     go_region
     go_wp2_with fail
     go_ret
     rw [← hRe]
     exact ⟨rfl, _, S4, fun _ => G4⟩
theorem gsend (g base:Nat) (lab:Lab) (b:Bank) (tm:Value) (d:Dd) (w:World) (h:GoesF w g base lab b tm) (I:Inv b) (O:Oth w) (h0:lab 0=0):
  Calls Tryz.prog 100 #[.pointer (some ⟨g,0,none⟩),.int .i64 d.n] w (DoneE w g base lab tm (sendB b d)):=by
 by_cases q:d.n<0∨1<d.n
 ·have e:sendB b d=(b,6):=by unfold sendB;rw[if_pos q]
  rw[e]
  have hS:=isSide_any d.n w
  rw[isIn_false.2 (by omega)] at hS
  clear q I e
  go_enter Tryz.func100,Tryz.ntmps100
  go_wp2_with (go_at_call 134;refine hS.mono ?_;rintro e w1 ⟨rfl,rfl⟩)
  go_ret
  exact ⟨rfl,_,Stp.refl _ _,fun h=>absurd h (by show¬((6 :Int)=0);decide)⟩
 ·have e:sendB b d=(if 60<(sent b (sideOf d.n)).length then (b,5) else ({b with way:=upd b.way (!sideOf d.n) (sent b (sideOf d.n))},0)):=by unfold sendB;rw[if_neg q]
  rw[e,side_of q]
  have hs:sideOf (sideN (sideOf d.n))=sideOf d.n:=by cases sideOf d.n<;>rfl
  rw[hs]
  exact gsend_yes g base lab b tm (sideOf d.n) w h I.sent.way60 (fun i=>(I.sent.right i).few) O h0
def anv (a:An):Value:=.agg #[.int .i64 a.1,.int .i64 a.2]
def ano (a:An):Obj:=.cells #[.int .i64 a.1,.int .i64 a.2] 53
def DoneA (w:World) (g base:Nat) (lab:Lab) (tm:Value) (r:Bank×Int×Int) (e:Ending) (w':World):Prop:=e=.returned (anv r.2)∧∃lab',Stp w lab w' lab'∧(r.2.1=0→Goes w' g base lab' r.1 tm)
structure Aft (w0:World) (lab0:Lab) (w:World) (lab:Lab) (g base:Nat) (tm:Value) (r:Bank×Int×Int) (z:Nat):Prop where
 stp:Stp w0 lab0 w lab
 goes:r.2.1=0→Goes w g base lab r.1 tm
 ge:w0.heap.size≤z
 lb:lab z=9
 lt:z<w.heap.size
theorem Aft.set {w0:World}{lab0:Lab}{w:World}{lab:Lab}{g base:Nat}{tm:Value}{r:Bank×Int×Int}{z:Nat}(A:Aft w0 lab0 w lab g base tm r z) (i:Nat) (x:Value):Aft w0 lab0 (w.setCell ⟨z,i,none⟩ x) (relab lab w.heap.size 9) g base tm r z:=by
 have ho:Only lab 9 w (w.setCell ⟨z,i,none⟩ x):=only_set w ⟨z,i,none⟩ x A.lb (by decide)
 refine ⟨⟨fun k hk=>?_,ho.os.trans A.stp.os,ho.tape.trans A.stp.tape,ho.output.trans A.stp.output,Nat.le_trans A.stp.size ho.size,fun k hk hl=>?_⟩,fun h=>?_,A.ge,by rw[relab_old A.lt];exact A.lb,by simpa using A.lt⟩
 ·rw[relab_old (Nat.lt_of_lt_of_le hk A.stp.size)];exact A.stp.ext k hk
 ·exact (heap_setCell_other _ _ _ _ (by have :=A.ge;dsimp only;omega)).trans (A.stp.block k hk hl)
 ·obtain ⟨v,cs,ds,H⟩:=A.goes h
  exact (H.onj ho (by decide)).goes
theorem Aft.at {w0:World}{lab0:Lab}{w:World}{lab:Lab}{g base:Nat}{tm:Value}{r:Bank×Int×Int}{z z':Nat} (A:Aft w0 lab0 w lab g base tm r z) (h1:w0.heap.size≤z') (h2:lab z'=9) (h3:z'<w.heap.size):Aft w0 lab0 w lab g base tm r z':=⟨A.stp,A.goes,h1,h2,h3⟩
theorem ano_cells{w:World}{z:Nat}{a:An}(h:w.heap[z]?=some (ano a)):w.cell? ⟨z,0,none⟩=some (.int .i64 a.1)∧w.cell? ⟨z,1,none⟩=some (.int .i64 a.2)∧∀p,w.frozen? ⟨z,p,none⟩=false:=by
 unfold ano at h
 refine ⟨?_,?_,fun p=>?_⟩
 ·simp[World.cell?,h]
 ·simp[World.cell?,h]
 ·simp[World.frozen?,h]
structure Box3 (w:World) (l:Lab) (z:Nat) (d:Dd) (a:An):Prop where
 d0:w.heap[z]?=some (ddo d)
 r0:∃x,w.heap[z+1]?=some (ano x)
 a0:w.heap[z+2]?=some (ano a)
 l0:l z=9
 l1:l (z +1)=9
 l2:l (z+2)=9
theorem Box3.on {w w':World}{l l':Lab}{z:Nat}{d:Dd}{a:An}(h:Box3 w l z d a) (hs:Stp w l w' l'):Box3 w' l' z d a:=by
 obtain ⟨x,hx⟩:=h.r0
 have k0:=lt_of_block h.d0
 have k1:=lt_of_block hx
 have k2:=lt_of_block h.a0
 exact ⟨(hs.block _ k0 (Or.inr (by rw[h.l0];decide))).trans h.d0,⟨x,(hs.block _ k1 (Or.inr (by rw[h.l1];decide))).trans hx⟩,(hs.block _ k2 (Or.inr (by rw[h.l2];decide))).trans h.a0,(hs.ext _ k0).trans h.l0,(hs.ext _ k1).trans h.l1,(hs.ext _ k2).trans h.l2⟩
theorem GoesF.onj {w w':World}{g base:Nat}{lab:Lab}{b:Bank}{tm:Value}{j:Nat}(h:GoesF w g base lab b tm) (ho:Only lab j w w') (hj:8<j):GoesF w' g base (relab lab w.heap.size j) b tm:=by
 obtain ⟨v,cs,ds,H,hT⟩:=h
 exact ⟨v,cs,ds,H.onj ho hj,fun i=>(hT i).move ho (Or.inr (by have :=wl_le i;omega))⟩
end Go.Proofs.YtofcnebekmjdoaaGreatDoor.Bn
