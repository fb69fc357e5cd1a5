import Derived.Test.YtofcnebekmjdoaaGreatDoorKbp
import Derived.Test.YtofcnebekmjdoaaGreatDoorKbr
set_option maxHeartbeats 4000000
set_option maxRecDepth 100000
namespace Go.Proofs.YtofcnebekmjdoaaGreatDoor.Bn
open Go.RowKit Go.Proofs.YtofcnebekmjdoaaGreatDoor.Gn
def oldL (n:Nat):Lab:=fun k=>if k<n then 12 else 0
theorem ap_old {α:Type}{K:Kind α}{lab:Lab}{w:World}{v:Value}{L:List α}{j r n:Nat}(h:Ap K lab w v L j) (hj:j≠9) (ho:∀k,k<r→lab k=9) (hn:n≤r):Ap K (oldL n) w v L 0:=by
 obtain ⟨a,cap,hv,hl,hb⟩:=h
 refine ⟨a,cap,hv,hl,fun ad ha hne=>?_⟩
 have h1:=hb ad ha hne
 by_cases q:ad.block<r
 ·exact absurd ((ho _ q).symm.trans h1).symm hj
 ·exact if_neg (by omega)
def stK (ps:List Pa) (n:Nat) (cap:Int) (k:Nat):Bank:={startB ps n cap with cards:=(ps.take k).map fun p=>⟨0,0,p,[]⟩}
theorem stK_end (ps:List Pa) (n:Nat) (cap:Int):stK ps n cap ps.length=startB ps n cap:=by unfold stK startB;simp
def cvOf (p:Pa):CV:=⟨⟨0,0,p,[]⟩,none,0⟩
def vsO (vc vd vu va:Value):Vs:=⟨vc,vd,.slice none 0 0,fun _=>.slice none 0 0,fun _=>.slice none 0 0,vu,va,.slice none 0 0,.slice none 0 0,.slice none 0 0⟩
structure Opn (w0 w:World) (lab:Lab) (r z:Nat) (ps:List Pa) (n:Nat) (cap:Int) (k:Nat) (vc vd vu va:Value):Prop where
 cards:Tp kC 61 lab w0.heap.size w vc ((ps.take k).map cvOf) 2
 due:Ap kI lab w vd (List.replicate n 0) 0
 used:Ap kI lab w vu (List.replicate ps.length 0) 0
 adv:Ap St.kA lab w va [] 0
 blk:w.heap[z]?=some (bko (stK ps n cap k) (vsO vc vd vu va))
 lb:lab z=9
 bel:Below w0.heap.size w0 w
 ge:w0.heap.size≤z
 rl:lab r=9
 rb:r<w0.heap.size
 old:∀k,k<r→lab k=9
theorem Opn.shown{w0 w:World}{lab:Lab}{r z:Nat}{ps:List Pa}{n:Nat}{cap:Int}{k:Nat}{vc vd vu va:Value}(O:Opn w0 w lab r z ps n cap k vc vd vu va){X:World}(ho:Only lab 9 w X){q:Nat}(hq:q≤r):Shown X (oldL q) (stK ps n cap k) (vsO vc vd vu va) ((ps.take k).map cvOf) []:=by
 have rw0:=Nat.lt_of_lt_of_le O.rb O.bel.size
 have hold:∀k,k<r→relab lab w.heap.size 9 k=9:=fun k hk=>by rw[relab_old (by omega)];exact O.old k hk
 refine ⟨ap_old (O.cards.ap.move ho (Or.inr (by decide))) (by decide) hold hq,?_,fun x hx=>?_,ap_old (O.due.move ho (Or.inr (by decide))) (by decide) hold hq,ap_nil _ _ _ _,fun i=>ap_nil _ _ _ _,fun i=>ap_nil _ _ _ _,ap_old (O.used.move ho (Or.inr (by decide))) (by decide) hold hq,ap_old (O.adv.move ho (Or.inr (by decide))) (by decide) hold hq,ap_nil _ _ _ _,ap_nil _ _ _ _,rfl,(fun _ hx=>by cases hx),ap_nil _ _ _ _⟩
 ·rw[List.map_map];rfl
 ·obtain ⟨p,-,rfl⟩:=List.mem_map.1 hx
  exact ap_nil _ _ _ _
theorem Opn.more {w0 w X w2:World}{lab:Lab}{r z:Nat}{ps:List Pa}{n:Nat}{cap:Int}{k:Nat}{vc vd vu va v2:Value}(O:Opn w0 w lab r z ps n cap k vc vd vu va) (hk:k<ps.length) (hb:Below w.heap.size w X)
  (hrow:Row kC 61 w2 w0.heap.size v2 ((ps.take k).map cvOf++[cvOf (ps.getD k zPa)])) (hgrow:X.grownBy w2 vc.ownBlock) (hat:∀j,v2.ownBlock=some j→vc.ownBlock=some j∨X.heap.size≤j) (hon:[cvOf (ps.getD k zPa)]≠[]→w2.ownsRow w0.heap.size 61 kC.size v2 ((ps.take k).map cvOf++[cvOf (ps.getD k zPa)]).length (kC.flat ((ps.take k).map cvOf++[cvOf (ps.getD k zPa)]))):
  ∃lab',Opn w0 (w2.setCell ⟨z,2,none⟩ v2) lab' r z ps n cap (k+1) v2 vd vu va∧w2.heap[z]?=some (bko (stK ps n cap k) (vsO vc vd vu va)):=by
 have e:(ps.take k).map cvOf++[cvOf (ps.getD k zPa)]=(ps.take (k +1)).map cvOf:=by
  rw[take_one _ _ zPa hk,List.map_append];rfl
 have o0:Only lab 0 w X:=only_below hb
 have zl:=lt_of_block O.blk
 have c1:=O.cards.move o0 (Or.inl rfl)
 have d1:=O.due.move o0 (Or.inl rfl)
 have u1:=O.used.move o0 (Or.inl rfl)
 have a1:=O.adv.move o0 (Or.inl rfl)
 have b1:X.heap[z]?=some (bko (stK ps n cap k) (vsO vc vd vu va)):=(hb.block _ zl).trans O.blk
 have l1:relab lab w.heap.size 0 z=9:=by rw[relab_old zl];exact O.lb
 have rw0:=Nat.lt_of_lt_of_le O.rb O.bel.size
 have rX:=Nat.lt_of_lt_of_le rw0 hb.size
 have r1:relab lab w.heap.size 0 r=9:=by rw[relab_old rw0];exact O.rl
 have q1:∀k,k<r→relab lab w.heap.size 0 k=9:=fun k hk=>by rw[relab_old (by omega)];exact O.old k hk
 generalize relab lab w.heap.size 0=lab1 at*
 have o2:Only lab1 2 X w2:=only_grown hgrow (fun j hj=>c1.lab j hj) (by decide)
 have c2:=c1.grow hrow (fun _=>hon (by simp)) hat
 have zlX:=lt_of_block b1
 have b2:w2.heap[z]?=some (bko (stK ps n cap k) (vsO vc vd vu va)):=(o2.block z zlX (Or.inr (by rw[l1];decide))).trans b1
 have d2:=d1.move o2 (Or.inr (by decide))
 have u2:=u1.move o2 (Or.inr (by decide))
 have a2:=a1.move o2 (Or.inr (by decide))
 have l2:relab lab1 X.heap.size 2 z=9:=by rw[relab_old zlX];exact l1
 have r2:relab lab1 X.heap.size 2 r=9:=by rw[relab_old rX];exact r1
 have r2l:=Nat.lt_of_lt_of_le rX o2.size
 have q2:∀k,k<r→relab lab1 X.heap.size 2 k=9:=fun k hk=>by rw[relab_old (by omega)];exact q1 k hk
 generalize relab lab1 X.heap.size 2=lab2 at*
 have o3:Only lab2 9 w2 (w2.setCell ⟨z,2,none⟩ v2):=only_set w2 ⟨z,2,none⟩ v2 l2 (by decide)
 have hbX:Below w0.heap.size w0 X:=O.bel.trans (hb.mono O.bel.size)
 have hb2:Below w0.heap.size w0 w2:=c1.below hbX hgrow (Nat.le_refl _) hbX.size
 rw[e] at c2
 refine ⟨relab lab2 w2.heap.size 9,⟨c2.move o3 (Or.inr (by decide)),d2.move o3 (Or.inr (by decide)),u2.move o3 (Or.inr (by decide)),a2.move o3 (Or.inr (by decide)),?_,by rw[relab_old (lt_of_block b2)];exact l2,hb2.setCell (p:=⟨z,2,none⟩) O.ge v2,O.ge,by rw[relab_old r2l];exact r2,O.rb,fun k hk=>by rw[relab_old (by omega)];exact q2 k hk⟩,b2⟩
 unfold bko at b2⊢
 rw[heap_setCell_same _ _ _ _ _ _ b2]
 rfl
theorem made_ap (n:Nat) (h:n≤8){w X:World}{z:Nat}(hX:X.heap[z]?=(w.alloc (.cells (madeCells #[.int .i64 0] n) 3)).heap[w.heap.size]?) (lab:Lab) (hl:lab z=0):Ap kI lab X (.slice (some ⟨z,0,none⟩) n n) (List.replicate n 0) 0:=by
 have hI:=ints_made w 3 n
 have hJ:Ints X 3 z (List.replicate n 0):=hX.trans hI
 obtain ⟨a,cap,hv,hlies,-,-⟩:=(hJ.row 0 (Nat.zero_le _) (by simp[maxLen];omega)).lies
 obtain ⟨rfl,-,rfl⟩:=Value.slice.inj hv
 refine ⟨some ⟨z,0,none⟩,n,by simp,?_,fun ad ha _=>by cases ha;exact hl⟩
 rw[List.length_replicate] at hlies
 exact hlies
structure Ldy (w X0:World) (ps:List Pa) (n:Nat) (cap:Int) (p1:Option Addr) (m1:Nat) (p2:Option Addr) (m2:Nat):Prop where
 used:Gn.Lies kI X0 p1 m1 (List.replicate ps.length 0)
 adv:Gn.Lies St.kA X0 p2 m2 []
 bel:Below w.heap.size w X0
 past:Past (w.heap.size +2) p1
 big:w.heap.size+1<X0.heap.size
theorem oneO (b:Bank) (a1 a2 a3 a4:Option Addr) (n1 n2 n3 n4 c1 c2 c3 c4:Nat):(cellsK b (vsO (.slice a1 n1 c1) (.slice a2 n2 c2) (.slice a3 n3 c3) (.slice a4 n4 c4))).all (·.oneCell')=true:=by
 rw[←Array.all_toList]
 rfl
theorem opn_start{w X0 X:World}{ps:List Pa}{n:Nat}{cap:Int}{p1:Option Addr}{m1:Nat}{p2:Option Addr}{m2:Nat}(Rd:Ldy w X0 ps n cap p1 m1 p2 m2) (n8:n≤8){z5 zd:Nat}(hbX:Below X0.heap.size X0 X) (hblk:X.heap[z5]?=some (bko (stK ps n cap 0) (vsO (.slice none 0 0) (.slice (some ⟨zd,0,none⟩) n n) (.slice p1 ps.length m1) (.slice p2 0 m2))))
  (hmade:X.heap[zd]?=(X0.alloc (.cells (madeCells #[.int .i64 0] n) 3)).heap[X0.heap.size]?) (h5:X0.heap.size≤z5) (hd5:X0.heap.size≤zd) (hne:z5≠zd):
  ∃lab,Opn X0 X lab (w.heap.size+1) z5 ps n cap 0 (.slice none 0 0) (.slice (some ⟨zd,0,none⟩) n n) (.slice p1 ps.length m1) (.slice p2 0 m2):=by
 have hb:=Rd.big
 refine ⟨fun k=>if k=z5∨k<w.heap.size+2 then 9 else 0,⟨tp_nil,made_ap n n8 hmade _ (if_neg (by omega)),?_,?_,hblk,if_pos (Or.inl rfl),hbX,h5,if_pos (Or.inr (by omega)),hb,fun k hk=>if_pos (Or.inr (by omega))⟩⟩
 ·refine ⟨p1,m1,by simp,Rd.used.below hbX,fun ad ha hn=>?_⟩
  have:= lies_lt Rd.used hn ad ha
  have h2:=Rd.past ad ha
  exact if_neg (by omega)
 ·exact ⟨p2,m2,rfl,Rd.adv.below hbX,fun ad ha hn=>absurd rfl hn⟩
theorem opened_any(ps:List Pa)(a:Option Addr)(c n:Nat)(cap:Int)(w:World)(hl:Gn.Lies kPa w a c ps)(h8:ps.length≤8)(n8:n≤8)(hc:0≤cap∧cap≤1000000):
  Calls Tryz.prog 44 #[suv (.slice a ps.length c) n cap] w fun e w'=>∃v,e=.returned (bkv (startB ps n cap) v)∧Shown w' (oldL w.heap.size) (startB ps n cap) v (ps.map cvOf) []∧Below w.heap.size w w':=by
 have hN:∀X:World,Calls Tryz.prog 76 #[.int .i64 cap,.int .i64 (ps.length:Int)] X (St.AnswersD X (⟨cap,List.replicate ps.length 0,[]⟩,0)):=fun X=>by
  have:= St.new_any cap (ps.length :Int) X
  rw[St.new_ok (by omega) (by unfold St.Lim;omega),Int.toNat_natCast]at this
  exact this
 unfold St.AnswersD St.dv at hN
 dsimp only at hN
 have zb:∃b1 v1,Obj.cells #[.int .i64 0,.bool false,.slice none 0 0,.slice none 0 0,.slice none 0 0,.int .i64 0,.slice none 0 0,.int .i64 0,.slice none 0 0,.int .i64 0,.int .i64 0,.slice none 0 0,.slice none 0 0,.int .i64 0,.slice none 0 0,.slice none 0 0,.slice none 0 0,.slice none 0 0,.slice none 0 0] 43=bko b1 v1:=
  ⟨⟨0,false,[],[],[],fun _=>⟨0,[]⟩,fun _=>0,fun _=>[],⟨0,[],[]⟩,[],[],[]⟩,⟨.slice none 0 0,.slice none 0 0,.slice none 0 0,fun _=>.slice none 0 0,fun _=>.slice none 0 0,.slice none 0 0,.slice none 0 0,.slice none 0 0,.slice none 0 0,.slice none 0 0⟩,rfl⟩
 obtain⟨b1,v1,hzb⟩:=zb
 have e1:=below_alloc w (suo (.slice a ps.length c) n cap)
 have e2:=below_alloc (w.alloc (suo (.slice a ps.length c) n cap)) (bko b1 v1)
 have hb:=e1.trans (e2.mono (by simp))
 have hs0:((w.alloc (suo (.slice a ps.length c) n cap)).alloc (bko b1 v1)).heap[w.heap.size]?=some (suo (.slice a ps.length c) n cap):=(e2.block _ (by simp)).trans (heap_alloc_at _ _ _ rfl)
 have hf0:((w.alloc (suo (.slice a ps.length c) n cap)).alloc (bko b1 v1)).heap[w.heap.size+1]?=some (bko b1 v1):=heap_alloc_at _ _ _ (by simp)
 have hl1:=hl.below (hb.mono (Nat.le_refl _))
 obtain⟨W,hW⟩:∃W,(w.alloc (suo (.slice a ps.length c) n cap)).alloc (bko b1 v1)=W:=⟨_,rfl⟩
 rw[hW]at hb hs0 hf0 hl1
 rw[←hzb]at hW
 unfold suo at hW
 obtain⟨s0,s1,s2⟩:=sul_cells hs0
 have zl:=lt_of_block hs0
 have zl1:=lt_of_block hf0
 clear e1 e2 hl
 replace hzb:=hid hzb
 unfold suv
 go_enter Tryz.func44,Tryz.ntmps44
 go_upto_region 1 with fail
 try rw[hW]
 clear hW
 go_upto_region 2 with(go_at_call 76;refine(hN _).mono ?_;rintro e w1⟨u1,u2,rfl,hu1,hu2,hb1⟩;obtain⟨p1,m1,rfl,hp1,-,-⟩:=hu1.lies;obtain⟨p2,m2,rfl,hp2,-,-⟩:=hu2.lies)
 have hb2:=below_alloc w1 (.cells #[.int .i64 cap,.slice p1 ps.length m1,.slice p2 0 m2] 38)
 have hst:(w1.alloc (.cells #[.int .i64 cap,.slice p1 ps.length m1,.slice p2 0 m2] 38)).heap[w1.heap.size]?=some (dno cap (.slice p1 ps.length m1) (.slice p2 0 m2)):=heap_alloc_at _ _ _ rfl
 have hbX:Below W.heap.size W (w1.alloc (.cells #[.int .i64 cap,.slice p1 ps.length m1,.slice p2 0 m2] 38)):=hb1.trans (hb2.mono hb1.size)
 have hq1:=hp1.below hb2
 have hq2:=hp2.below hb2
 have hpa1:Past W.heap.size p1:=by
  obtain⟨a',c',hv',-,hp',-⟩:=hu1.lies
  obtain⟨rfl,-,rfl⟩:=Value.slice.inj hv'
  exact hp'
 clear hu1 hu2 hp1 hp2 hb1 hb2 hN
 generalize w1.alloc (.cells #[.int .i64 cap,.slice p1 ps.length m1,.slice p2 0 m2] 38)=X0 at*
 generalize w1.heap.size=zs at*
 have hs1:X0.heap[w.heap.size]?=some (suo (.slice a ps.length c) n cap):=(hbX.block _ zl).trans hs0
 have hf1:X0.heap[w.heap.size+1]?=some (bko b1 v1):=(hbX.block _ zl1).trans hf0
 have hl2:=hl1.below hbX
 have hbw:Below w.heap.size w X0:=hb.trans (hbX.mono hb.size)
 obtain⟨s0',s1',s2'⟩:=sul_cells hs1
 have keep:∀X:World,Below X0.heap.size X0 X→X.cell? ⟨w.heap.size,1,none⟩=some (.int .i64 (n:Int))∧X.heap[zs]?=some (dno cap (.slice p1 ps.length m1) (.slice p2 0 m2)):=fun X hX=>⟨(hX.cell (p:=⟨w.heap.size,1,none⟩) (lt_of_block hs1)).trans s1',(hX.block zs (lt_of_block hst)).trans hst⟩
 have hmk:=fun X:World=>St.make_ints n (by omega) X
 have Rd : Ldy w X0 ps n cap p1 m1 p2 m2 := ⟨hq1, hq2, hbw, fun ad had => by have := hpa1 ad had; omega, by have := lt_of_block hf1; omega⟩
 clear s0 s1 s2 s0' s1' s2' hl1 hs0 hf0 hb hbX hq1 hq2
 go_cut [5] from 17 to 21 (fun p wc => ∃ (z5 : Nat) (lab : Lab) (vd : Value), p = .pointer (some ⟨z5, 0, none⟩) ∧ Opn X0 wc lab (w.heap.size + 1) z5 ps n cap 0 (.slice none 0 0) vd (.slice p1 ps.length m1) (.slice p2 0 m2))
 case first =>
  refine wp_region_held_drew (S := (fun X => X.cell? ⟨w.heap.size, 1, none⟩ = some (.int .i64 (n : Int)) ∧ X.heap[zs]? = some (dno cap (.slice p1 ps.length m1) (.slice p2 0 m2)))) (by kernel_rfl) (keep _ ((Below.refl _ _).drew)) (fun hS => ?_)
  refine tk 0 (.pointer (some ⟨w.heap.size, 1, none⟩)) hS ?_ ?_
  ·intro w' _; go_simp
  refine tk 1 (.int .i64 (n : Int)) hS ?_ ?_
  ·intro w' hS'; obtain ⟨Q1, Qs⟩ := hS'; obtain ⟨y0, y1, y2⟩ := dno_cells Qs; go_simp
  refine tk 3 (.agg #[.int .i64 cap, .slice p1 ps.length m1, .slice p2 0 m2]) hS ?_ ?_
  ·intro w' hS'; obtain ⟨Q1, Qs⟩ := hS'; obtain ⟨y0, y1, y2⟩ := dno_cells Qs; go_simp
  try simp only [Act.put]
  refine wpAnyH_ready (rs := [2, 5]) (by kernel_rfl) (by simp) ?_
  refine AllReadyH.cons rfl (fun K hK => ?_) (AllReadyH.cons rfl (fun K hK => ?_) AllReadyH.nil)
  ·go_simp
   have hbA : Below X0.heap.size X0 (X0.drew.alloc (.cells (madeCells #[.int .i64 0] n) 3)) := ((Below.refl X0.heap.size X0).drew).trans (show Below X0.heap.size X0.drew (X0.drew.alloc (.cells (madeCells #[.int .i64 0] n) 3)) from below_alloc X0.drew (.cells (madeCells #[.int .i64 0] n) 3))
   refine hK.out _ _ (keep _ hbA) (fun hS => ?_)
   clear hK K
   refine tk 4 (.agg (cellsK (stK ps n cap 0) (vsO (.slice none 0 0) (.slice (some ⟨X0.heap.size, 0, none⟩) n n) (.slice p1 ps.length m1) (.slice p2 0 m2)))) hS ?_ ?_
   ·intro w' _; go_simp; rfl
   try simp only [Act.put]
   refine rd 5 (.cons rfl (fun K hK => ?_) .nil)
   go_simp
   have hbB : Below X0.heap.size X0 ((X0.drew.alloc (.cells (madeCells #[.int .i64 0] n) 3)).alloc (.cells #[.int .i64 0, .bool false, .slice none 0 0, .slice none 0 0, .slice none 0 0, .int .i64 0, .slice none 0 0, .int .i64 0, .slice none 0 0, .int .i64 0, .int .i64 0, .slice none 0 0, .slice none 0 0, .int .i64 0, .slice none 0 0, .slice none 0 0, .slice none 0 0, .slice none 0 0, .slice none 0 0] 43)) := hbA.trans ((below_alloc (X0.drew.alloc (.cells (madeCells #[.int .i64 0] n) 3)) (.cells #[.int .i64 0, .bool false, .slice none 0 0, .slice none 0 0, .slice none 0 0, .int .i64 0, .slice none 0 0, .int .i64 0, .slice none 0 0, .int .i64 0, .int .i64 0, .slice none 0 0, .slice none 0 0, .int .i64 0, .slice none 0 0, .slice none 0 0, .slice none 0 0, .slice none 0 0, .slice none 0 0] 43)).mono hbA.size)
   refine hK.out _ _ (keep _ hbB) (fun hS => ?_)
   clear hK K
   try simp only [nrm, Act.put]
   refine rd 6 (.cons rfl (fun K hK => ?_) .nil)
   rw [if_pos (by kernel_rfl)]
   have hz5 : (((X0.alloc (.cells (madeCells #[.int .i64 0] n) 3)).alloc (.cells #[.int .i64 0, .bool false, .slice none 0 0, .slice none 0 0, .slice none 0 0, .int .i64 0, .slice none 0 0, .int .i64 0, .slice none 0 0, .int .i64 0, .int .i64 0, .slice none 0 0, .slice none 0 0, .int .i64 0, .slice none 0 0, .slice none 0 0, .slice none 0 0, .slice none 0 0, .slice none 0 0] 43)).drew).heap[X0.heap.size + 1]? = some (bko b1 v1) := (heap_alloc_at _ _ _ (by simp)).trans (congrArg some hzb.out)
   have hbk := bko_all (b := stK ps n cap 0) (v := vsO (.slice none 0 0) (.slice (some ⟨X0.heap.size, 0, none⟩) n n) (.slice p1 ps.length m1) (.slice p2 0 m2)) hz5
   have hbC : Below X0.heap.size X0 ((((X0.alloc (.cells (madeCells #[.int .i64 0] n) 3)).alloc (.cells #[.int .i64 0, .bool false, .slice none 0 0, .slice none 0 0, .slice none 0 0, .int .i64 0, .slice none 0 0, .int .i64 0, .slice none 0 0, .int .i64 0, .int .i64 0, .slice none 0 0, .slice none 0 0, .int .i64 0, .slice none 0 0, .slice none 0 0, .slice none 0 0, .slice none 0 0, .slice none 0 0] 43)).drew).setCells (X0.heap.size + 1) 0 (cellsK (stK ps n cap 0) (vsO (.slice none 0 0) (.slice (some ⟨X0.heap.size, 0, none⟩) n n) (.slice p1 ps.length m1) (.slice p2 0 m2))).toList) := by
    rw [putAll_cells]
    exact below_putAll hbB (X0.heap.size + 1) 0 _ (Nat.le_succ _)
   have hmd : ((((X0.alloc (.cells (madeCells #[.int .i64 0] n) 3)).alloc (.cells #[.int .i64 0, .bool false, .slice none 0 0, .slice none 0 0, .slice none 0 0, .int .i64 0, .slice none 0 0, .int .i64 0, .slice none 0 0, .int .i64 0, .int .i64 0, .slice none 0 0, .slice none 0 0, .int .i64 0, .slice none 0 0, .slice none 0 0, .slice none 0 0, .slice none 0 0, .slice none 0 0] 43)).drew).setCells (X0.heap.size + 1) 0 (cellsK (stK ps n cap 0) (vsO (.slice none 0 0) (.slice (some ⟨X0.heap.size, 0, none⟩) n n) (.slice p1 ps.length m1) (.slice p2 0 m2))).toList).heap[X0.heap.size]? = (X0.alloc (.cells (madeCells #[.int .i64 0] n) 3)).heap[X0.heap.size]? := by
    rw [putAll_cells, putAll_other _ _ _ _ _ (by omega)]
    exact (below_alloc (X0.alloc (.cells (madeCells #[.int .i64 0] n) 3)) (.cells #[.int .i64 0, .bool false, .slice none 0 0, .slice none 0 0, .slice none 0 0, .int .i64 0, .slice none 0 0, .int .i64 0, .slice none 0 0, .int .i64 0, .int .i64 0, .slice none 0 0, .slice none 0 0, .int .i64 0, .slice none 0 0, .slice none 0 0, .slice none 0 0, .slice none 0 0, .slice none 0 0] 43)).block _ (by simp)
   rw [← putAll_cells] at hbk
   refine wp_store_mid 43 _ _ rfl (X0.heap.size + 1) 0 (cellsK (stK ps n cap 0) (vsO (.slice none 0 0) (.slice (some ⟨X0.heap.size, 0, none⟩) n n) (.slice p1 ps.length m1) (.slice p2 0 m2))) rfl rfl (bko_there hz5) infoK (oneO _ _ _ _ _ _ _ _ _ _ _ _ _) ?_
   refine hK.out _ _ (keep _ hbC) (fun hS => ?_)
   clear hK K
   try simp only [List.getElem_toArray, List.getElem_cons_zero, List.getElem_cons_succ, Act.put]
   refine wpAnyH_done (by kernel_rfl) ?_ _
   go_wp2_with fail
   go_meet
   obtain ⟨lab, hO⟩ := opn_start Rd n8 hbC hbk hmd (Nat.le_succ _) (Nat.le_refl _) (by omega)
   exact ⟨X0.heap.size + 1, lab, _, rfl, hO⟩
  ·go_simp
   have hbA : Below X0.heap.size X0 (X0.drew.alloc (.cells #[.int .i64 0, .bool false, .slice none 0 0, .slice none 0 0, .slice none 0 0, .int .i64 0, .slice none 0 0, .int .i64 0, .slice none 0 0, .int .i64 0, .int .i64 0, .slice none 0 0, .slice none 0 0, .int .i64 0, .slice none 0 0, .slice none 0 0, .slice none 0 0, .slice none 0 0, .slice none 0 0] 43)) := ((Below.refl X0.heap.size X0).drew).trans (show Below X0.heap.size X0.drew (X0.drew.alloc (.cells #[.int .i64 0, .bool false, .slice none 0 0, .slice none 0 0, .slice none 0 0, .int .i64 0, .slice none 0 0, .int .i64 0, .slice none 0 0, .int .i64 0, .int .i64 0, .slice none 0 0, .slice none 0 0, .int .i64 0, .slice none 0 0, .slice none 0 0, .slice none 0 0, .slice none 0 0, .slice none 0 0] 43)) from below_alloc X0.drew _)
   refine hK.out _ _ (keep _ hbA) (fun hS => ?_)
   clear hK K
   try simp only [nrm, Act.put]
   refine rd 2 (.cons rfl (fun K hK => ?_) .nil)
   go_simp
   have hbB : Below X0.heap.size X0 ((X0.drew.alloc (.cells #[.int .i64 0, .bool false, .slice none 0 0, .slice none 0 0, .slice none 0 0, .int .i64 0, .slice none 0 0, .int .i64 0, .slice none 0 0, .int .i64 0, .int .i64 0, .slice none 0 0, .slice none 0 0, .int .i64 0, .slice none 0 0, .slice none 0 0, .slice none 0 0, .slice none 0 0, .slice none 0 0] 43)).alloc (.cells (madeCells #[.int .i64 0] n) 3)) := hbA.trans ((below_alloc (X0.drew.alloc (.cells #[.int .i64 0, .bool false, .slice none 0 0, .slice none 0 0, .slice none 0 0, .int .i64 0, .slice none 0 0, .int .i64 0, .slice none 0 0, .int .i64 0, .int .i64 0, .slice none 0 0, .slice none 0 0, .int .i64 0, .slice none 0 0, .slice none 0 0, .slice none 0 0, .slice none 0 0, .slice none 0 0] 43)) (.cells (madeCells #[.int .i64 0] n) 3)).mono hbA.size)
   refine hK.out _ _ (keep _ hbB) (fun hS => ?_)
   clear hK K
   refine tk 4 (.agg (cellsK (stK ps n cap 0) (vsO (.slice none 0 0) (.slice (some ⟨X0.heap.size + 1, 0, none⟩) n n) (.slice p1 ps.length m1) (.slice p2 0 m2)))) hS ?_ ?_
   ·intro w' _; go_simp; rfl
   try simp only [Act.put]
   refine rd 6 (.cons rfl (fun K hK => ?_) .nil)
   rw [if_pos (by kernel_rfl)]
   have hz5 : (((X0.alloc (.cells #[.int .i64 0, .bool false, .slice none 0 0, .slice none 0 0, .slice none 0 0, .int .i64 0, .slice none 0 0, .int .i64 0, .slice none 0 0, .int .i64 0, .int .i64 0, .slice none 0 0, .slice none 0 0, .int .i64 0, .slice none 0 0, .slice none 0 0, .slice none 0 0, .slice none 0 0, .slice none 0 0] 43)).alloc (.cells (madeCells #[.int .i64 0] n) 3)).drew).heap[X0.heap.size]? = some (bko b1 v1) := ((below_alloc (X0.alloc (.cells #[.int .i64 0, .bool false, .slice none 0 0, .slice none 0 0, .slice none 0 0, .int .i64 0, .slice none 0 0, .int .i64 0, .slice none 0 0, .int .i64 0, .int .i64 0, .slice none 0 0, .slice none 0 0, .int .i64 0, .slice none 0 0, .slice none 0 0, .slice none 0 0, .slice none 0 0, .slice none 0 0] 43)) (.cells (madeCells #[.int .i64 0] n) 3)).block _ (by simp)).trans ((heap_alloc_at _ _ _ rfl).trans (congrArg some hzb.out))
   have hbk := bko_all (b := stK ps n cap 0) (v := vsO (.slice none 0 0) (.slice (some ⟨X0.heap.size + 1, 0, none⟩) n n) (.slice p1 ps.length m1) (.slice p2 0 m2)) hz5
   have hbC : Below X0.heap.size X0 ((((X0.alloc (.cells #[.int .i64 0, .bool false, .slice none 0 0, .slice none 0 0, .slice none 0 0, .int .i64 0, .slice none 0 0, .int .i64 0, .slice none 0 0, .int .i64 0, .int .i64 0, .slice none 0 0, .slice none 0 0, .int .i64 0, .slice none 0 0, .slice none 0 0, .slice none 0 0, .slice none 0 0, .slice none 0 0] 43)).alloc (.cells (madeCells #[.int .i64 0] n) 3)).drew).setCells X0.heap.size 0 (cellsK (stK ps n cap 0) (vsO (.slice none 0 0) (.slice (some ⟨X0.heap.size + 1, 0, none⟩) n n) (.slice p1 ps.length m1) (.slice p2 0 m2))).toList) := by
    rw [putAll_cells]
    exact below_putAll hbB X0.heap.size 0 _ (Nat.le_refl _)
   have hmd : ((((X0.alloc (.cells #[.int .i64 0, .bool false, .slice none 0 0, .slice none 0 0, .slice none 0 0, .int .i64 0, .slice none 0 0, .int .i64 0, .slice none 0 0, .int .i64 0, .int .i64 0, .slice none 0 0, .slice none 0 0, .int .i64 0, .slice none 0 0, .slice none 0 0, .slice none 0 0, .slice none 0 0, .slice none 0 0] 43)).alloc (.cells (madeCells #[.int .i64 0] n) 3)).drew).setCells X0.heap.size 0 (cellsK (stK ps n cap 0) (vsO (.slice none 0 0) (.slice (some ⟨X0.heap.size + 1, 0, none⟩) n n) (.slice p1 ps.length m1) (.slice p2 0 m2))).toList).heap[X0.heap.size + 1]? = (X0.alloc (.cells (madeCells #[.int .i64 0] n) 3)).heap[X0.heap.size]? := by
    rw [putAll_cells, putAll_other _ _ _ _ _ (by omega), heap_alloc_at X0 _ _ rfl]
    exact heap_alloc_at _ _ _ (by simp)
   rw [← putAll_cells] at hbk
   refine wp_store_mid 43 _ _ rfl X0.heap.size 0 (cellsK (stK ps n cap 0) (vsO (.slice none 0 0) (.slice (some ⟨X0.heap.size + 1, 0, none⟩) n n) (.slice p1 ps.length m1) (.slice p2 0 m2))) rfl rfl (bko_there hz5) infoK (oneO _ _ _ _ _ _ _ _ _ _ _ _ _) ?_
   refine hK.out _ _ (keep _ hbC) (fun hS => ?_)
   clear hK K
   try simp only [List.getElem_toArray, List.getElem_cons_zero, List.getElem_cons_succ, Act.put]
   refine wpAnyH_done (by kernel_rfl) ?_ _
   go_wp2_with fail
   go_meet
   obtain ⟨lab, hO⟩ := opn_start Rd n8 hbC hbk hmd (Nat.le_refl _) (Nat.le_succ _) (by omega)
   exact ⟨X0.heap.size, lab, _, rfl, hO⟩
 case rest =>
  obtain ⟨z5, lab, vd, rfl, hO⟩ := hcut
  clear keep hmk Rd hst hzb
  have hs2 : wc.heap[w.heap.size]? = some (suo (.slice a ps.length c) n cap) := (hO.bel.block _ (lt_of_block hs1)).trans hs1
  obtain ⟨s0, s1, s2⟩ := sul_cells hs2
  have hmx := hl2.len
  unfold maxLen at hmx
  go_upto_region 4 with fail
  clear s0 s1 s2 hs2
  go_loopw [25] (fun i wr => ∃ (k : Nat) (vc : Value) (l : Lab), k ≤ ps.length ∧ i = .int .i64 k ∧ Opn X0 wr l (w.heap.size + 1) z5 ps n cap k vc vd (.slice p1 ps.length m1) (.slice p2 0 m2)) (fun i _ => ps.length - (intOf i).toNat)
  case atStart => exact ⟨0, _, lab, Nat.zero_le _, rfl, hO⟩
  case round =>
   clear hO
   obtain ⟨k, vc, l, hk, rfl, O⟩ := hrel
   obtain ⟨ac, mc, hvc, -⟩ := O.cards.ap.lies
   subst hvc
   obtain ⟨dK, uK, rK⟩ := underK
   have hlen : ((ps.take k).map cvOf).length = k := by simp; omega
   rw [hlen] at O
   by_cases hlt : k < ps.length
   ·have hlt' : (k : Int) < ps.length := by omega
    have hlr := hl2.below O.bel
    obtain ⟨z, off, rfl, zlt, hcell⟩ := hlr.elem (i := k) (x := ps.getD k zPa) (by simp [List.getD, hlt])
    have e0 := hcell 0 _ rfl
    have e1 := hcell 1 _ rfl
    have e2 := hcell 2 _ rfl
    simp only [Nat.add_zero] at e0
    dsimp only [kPa] at e0 e1 e2
    obtain ⟨-, -, c2, -⟩ := bko_cells O.blk
    have f2 := bko_free O.blk 2
    have hmore := fun (X w2 : World) (v2 : Value) => O.more (X := X) (w2 := w2) (v2 := v2) hlt
    have hb1 := below_alloc wr (.cells #[.int .i64 (ps.getD k zPa).t, .int .i64 (ps.getD k zPa).c, .int .i64 (ps.getD k zPa).s] 58)
    have hb2 := below_alloc (wr.alloc (.cells #[.int .i64 (ps.getD k zPa).t, .int .i64 (ps.getD k zPa).c, .int .i64 (ps.getD k zPa).s] 58)) (.cells #[.int .i64 0, .int .i64 0, .int .i64 (ps.getD k zPa).t, .int .i64 (ps.getD k zPa).c, .int .i64 (ps.getD k zPa).s, .slice none 0 0] 61)
    have hb3 := hb1.trans (hb2.mono (by simp))
    have hrow := (O.cards.row).below hb3
    have hone : Gn.Lies kC ((wr.alloc (.cells #[.int .i64 (ps.getD k zPa).t, .int .i64 (ps.getD k zPa).c, .int .i64 (ps.getD k zPa).s] 58)).alloc (.cells #[.int .i64 0, .int .i64 0, .int .i64 (ps.getD k zPa).t, .int .i64 (ps.getD k zPa).c, .int .i64 (ps.getD k zPa).s, .slice none 0 0] 61)) (some ⟨wr.heap.size + 1, 0, none⟩) 1 [cvOf (ps.getD k zPa)] := lies_one (K := kC) (x := cvOf (ps.getD k zPa)) (cs := #[.int .i64 0, .int .i64 0, .int .i64 (ps.getD k zPa).t, .int .i64 (ps.getD k zPa).c, .int .i64 (ps.getD k zPa).s, .slice none 0 0]) (heap_alloc_at _ _ _ (by simp)) rfl _
    have h63 : ((ps.take k).map cvOf).length + [cvOf (ps.getD k zPa)].length ≤ maxLen := by rw [hlen]; simp [maxLen]; omega
    have hby : (((ps.take k).map cvOf).length + [cvOf (ps.getD k zPa)].length) * 64 ≤ 140737488355328 := by rw [hlen]; simp; omega
    have hlo : X0.heap.size ≤ ((wr.alloc (.cells #[.int .i64 (ps.getD k zPa).t, .int .i64 (ps.getD k zPa).c, .int .i64 (ps.getD k zPa).s] 58)).alloc (.cells #[.int .i64 0, .int .i64 0, .int .i64 (ps.getD k zPa).t, .int .i64 (ps.getD k zPa).c, .int .i64 (ps.getD k zPa).s, .slice none 0 0] 61)).heap.size := by have := O.bel.size; simp; omega
    have z5l := lt_of_block O.blk
    clear hcell hlr hb1 hb2
    unfold vsO at c2
    dsimp only at c2
    replace hlen := hid hlen
    generalize ps.getD k zPa = p at *
    go_wp2_with (at_builtin; refine wpList_append elemC _ rfl _ _ rfl X0.heap.size (.slice ac k mc) ((ps.take k).map cvOf) rfl hrow _ 1 1 [cvOf p] rfl rfl hone h63 hby hlo ?_; intro v2 w2 hown hgrow hat hon; obtain ⟨a2, m2', rfl, -, -, -⟩ := hown.lies; obtain ⟨l', O', hz⟩ := hmore _ _ _ hb3 hown hgrow hat hon; obtain ⟨-, -, c2', -⟩ := bko_cells hz; have f2' := bko_free hz 2; unfold vsO at c2'; dsimp only at c2')
    have hl2' : (List.map cvOf (List.take k ps) ++ [cvOf p]).length = k + 1 := by rw [List.length_append, hlen.out]; rfl
    rw [hl2'] at O'
    go_roundw
    case rel => exact ⟨k + 1, _, _, by omega, by go_num, O'⟩
    case measure => simp [intOf]; omega
   ·obtain rfl : k = ps.length := by omega
    have hblk := O.blk
    rw [stK_end] at hblk
    have hrange := bko_load hblk
    have hf2 : wr.heap[w.heap.size + 1]? = some (bko b1 v1) := (O.bel.block _ (lt_of_block hf1)).trans hf1
    obtain ⟨vv, hvv⟩ : ∃ x, x = vsO (.slice ac ps.length mc) vd (.slice p1 ps.length m1) (.slice p2 0 m2) := ⟨_, rfl⟩
    have hthere := bko_there (b' := startB ps n cap) (v' := vv) hf2
    have hF := bko_all (b := startB ps n cap) (v := vv) hf2
    have hbF := below_putAll (hbw.trans (O.bel.mono hbw.size)) (w.heap.size + 1) 0 (cellsK (startB ps n cap) vv).toList (Nat.le_succ _)
    have SH := O.shown (only_putAll wr (w.heap.size + 1) 0 (cellsK (startB ps n cap) vv).toList O.rl (by decide)) (Nat.le_succ w.heap.size)
    have SO := O.shown (Only.refl l 9 wr) (Nat.le_succ w.heap.size)
    rw [stK_end, List.take_length, ← hvv] at SH SO
    rw [← hvv] at hrange
    have hone := hid SO.one
    rw [← putAll_cells] at hF hbF SH
    have hres := loadVar_bank hF
    clear hF hf2 hblk O hvv SO
    obtain ⟨bb, hbb⟩ : ∃ x, x = startB ps n cap := ⟨_, rfl⟩
    rw [← hbb] at hrange hthere hone SH hbF hres
    replace hbb := hid hbb
    go_wp2_with (first
     | (refine wpList_load_mid rfl 43 _ rfl z5 0 rfl (cellsK bb vv).toList dK hrange uK rK infoK ?_)
     | (refine wpList_store_mid rfl 43 _ _ rfl (w.heap.size + 1) 0 (cellsK bb vv) rfl rfl hthere infoK hone.out ?_))
    exact bodyPost_ret (v := bkv bb vv) (results_cell Tryz.results44 rfl hres) rfl ⟨vv, by rw [← hbb.out], by rw [← hbb.out]; exact SH, hbF⟩
end Go.Proofs.YtofcnebekmjdoaaGreatDoor.Bn
