import Derived.Test.YtofcnebekmjdoaaGreatDoorKbf
import Derived.Test.YtofcnebekmjdoaaGreatDoorKbi
set_option maxHeartbeats 4000000
set_option maxRecDepth 100000
namespace Go.Proofs.YtofcnebekmjdoaaGreatDoor.Bn
open Go.RowKit Go.Proofs.YtofcnebekmjdoaaGreatDoor.Gn
theorem Goes.time {w:World}{g base:Nat}{lab:Lab}{b:Bank}{tm:Value}(h:Goes w g base lab b tm):w.cell? ⟨g,0,none⟩=some (.int .i64 b.time):=by
 obtain ⟨v,cs,ds,H⟩:=h
 exact (blk_cells H.blk).1
theorem Goes.down {w:World} {g base:Nat} {lab:Lab} {b:Bank} {tm:Value} (h:Goes w g base lab b tm):w.cell? ⟨g,1,none⟩=some (.bool b.down):=by
 obtain ⟨v,cs,ds,H⟩:=h
 exact (blk_cells H.blk).2.1
theorem askDown_time (b:Bank) (d:Dd):(askDown b d).1.time=b.time:=by
 unfold askDown
 repeat' split
 all_goals rfl
theorem gask (g base:Nat) (lab:Lab) (b:Bank) (tm:Value) (d:Dd) (w:World) (h:Goes w g base lab b tm) (I:Inv b):
  Calls Tryz.prog 97 #[.pointer (some ⟨g,0,none⟩),ddv d] w (Done3 w g base lab tm (askB b d)):=by
 have hb0:=below_alloc w (ddo d)
 have G1:=h.below hb0
 have S1:=stp_below (lab:=lab) hb0
 have D1:Dz (w.alloc (ddo d)) (relab lab w.heap.size 0) w.heap.size d:=⟨heap_alloc_at _ _ _ rfl,relab_new (Nat.le_refl _)⟩
 have hd:b.down=true∨b.down=false:=by cases b.down<;>simp
 have hfew:=I.held.few
 have hcd:=I.held.cards8
 have N0:Hid (d.n <0∨(b.cards.length:Int)≤d.n∨d.shop<0∨(b.due.length :Int)≤d.shop→askB b d=(b,6,0)):=hid (fun q=>by unfold askB;rw[if_pos q])
 have N1:Hid (¬(d.n <0∨(b.cards.length:Int)≤d.n∨d.shop<0∨(b.due.length :Int)≤d.shop)→b.down=true→askB b d=askDown b d):=hid (fun q q2=>by unfold askB;rw[if_neg q,if_pos q2])
 have N2:Hid (¬(d.n <0∨(b.cards.length:Int)≤d.n∨d.shop<0∨(b.due.length :Int)≤d.shop)→b.down=false→askB b d=askUp b d):=hid (fun q q2=>by unfold askB;rw[if_neg q,if_neg (by rw[q2];simp)])
 have aS:=fun (X:World) (l :Lab) (hX :Goes X g base l b tm)=>gaskStand g base l b tm d X hX (by omega)
 have aC:=fun (X :World) (l :Lab) (k :Nat) (hX:Goes X g base l b tm) (e :d.n=k) (hk:k<b.cards.length)=>gaskCard g base l b tm d k X hX e hk (by omega)
 have htd:=askDown_time b d
 have hC:∀X:World,Goes X g base (relab lab w.heap.size 0) b tm→_:=fun X hX=>isCard_any g base (relab lab w.heap.size 0) b tm d.n X hX
 have hS:∀X:World,Goes X g base (relab lab w.heap.size 0) b tm→_:=fun X hX=>isShop_any g base (relab lab w.heap.size 0) b tm d.shop X hX
 clear I hb0
 obtain ⟨d0,d1,d2,d3,d4,d5⟩:=ddo_cells D1.db
 obtain ⟨id,kind,n,shop,mv,sum⟩:=d
 unfold advOf at aS
 dsimp only at*
 unfold ddv
 unfold ddo at d0 d1 d2 d3 d4 d5 G1 S1
 by_cases q1:n<0∨(b.cards.length:Int)≤n
 ·have hE:=hid (N0.out (by omega))
  rw[isIn_false.2 q1] at hC
  clear N0 N1 N2 aS aC htd q1
  go_enter Tryz.func97,Tryz.ntmps97
  go_wp2_with (first
   |(go_at_call 123;refine (hC _ G1).mono ?_;rintro e w1 ⟨rfl,rfl⟩)
   |(go_at_call 125;refine (hS _ G1).mono ?_;rintro e w1 ⟨rfl,rfl⟩))
  refine bodyPost_ret (v:=.tuple #[.int .i64 0,.int .i64 6]) (by simp[results,Tryz.results97,go_sem]) rfl ?_
  unfold Done3
  rw[hE.out]
  exact ⟨rfl,_,G1,S1⟩
 rw[isIn_true.2 (by omega)] at hC
 by_cases q2:shop<0∨(b.due.length :Int)≤shop
 ·have hE:=hid (N0.out (by omega))
  rw[isIn_false.2 q2] at hS
  clear N0 N1 N2 aS aC htd q1 q2
  go_enter Tryz.func97,Tryz.ntmps97
  go_wp2_with (first
   |(go_at_call 123;refine (hC _ G1).mono ?_;rintro e w1 ⟨rfl,rfl⟩)
   |(go_at_call 125;refine (hS _ G1).mono ?_;rintro e w1 ⟨rfl,rfl⟩))
  refine bodyPost_ret (v:=.tuple #[.int .i64 0,.int .i64 6]) (by simp[results,Tryz.results97,go_sem]) rfl ?_
  unfold Done3
  rw[hE.out]
  exact ⟨rfl,_,G1,S1⟩
 rw[isIn_true.2 (by omega)] at hS
 obtain ⟨k,rfl⟩:∃k:Nat,n=k:=⟨n.toNat,by omega⟩
 have hk:k<b.cards.length:=by omega
 have g1:=G1.down
 have g0:=G1.time
 rcases hd with hd|hd
 ·have hE:=hid (N1.out (by omega) hd)
  rw[hd] at g1
  clear N0 N1 N2 aC q1 q2 hd
  rw[←hE.out] at aS htd
  unfold Done3 at aS
  generalize askB b ⟨id,kind,k,shop,mv,sum⟩=R at*
  replace htd:=hid htd
  go_enter Tryz.func97,Tryz.ntmps97
  go_upto_region 4 with (first
   |(go_at_call 123;refine (hC _ G1).mono ?_;rintro e w1 ⟨rfl,rfl⟩)
   |(go_at_call 125;refine (hS _ G1).mono ?_;rintro e w1 ⟨rfl,rfl⟩))
  generalize relab lab w.heap.size 0=l1 at*
  unfold ddo at D1
  generalize w.alloc (.cells #[.int .i64 id,.int .i64 kind,.int .i64 (k:Int),.int .i64 shop,.int .i64 mv,.int .i64 sum] 74)=W at*
  clear hE hC hS
  have hLz:D6 W.drew w.heap.size id kind k shop mv sum∧W.drew.cell? ⟨g,0,none⟩=some (.int .i64 b.time):=⟨ddo_six D1.drew.db,G1.drew.time⟩
  refine wp_region_held_drew (S:=(fun X=>D6 X w.heap.size id kind k shop mv sum∧X.cell? ⟨g,0,none⟩=some (.int .i64 b.time))) (by kernel_rfl) (hLz) (fun hS=>?_)
  refine tk 0 (.pointer (some ⟨g,0,none⟩)) hS ?_ ?_
  ·intro w' _;go_simp
  refine tk 1 (.pointer (some ⟨w.heap.size,2,none⟩)) hS ?_ ?_
  ·intro w' _;go_simp
  refine tk 2 (.int .i64 (k:Int)) hS ?_ ?_
  ·intro w' hS';obtain ⟨Q6,Q0⟩:=hS';obtain ⟨e0,e1,e2,e3,e4,e5⟩:=Q6.all;go_simp
  refine tk 3 (.pointer (some ⟨w.heap.size,3,none⟩)) hS ?_ ?_
  ·intro w' _;go_simp
  try simp only[Act.put]
  refine tk 4 (.int .i64 shop) hS ?_ ?_
  ·intro w' hS';obtain ⟨Q6,Q0⟩:=hS';obtain ⟨e0,e1,e2,e3,e4,e5⟩:=Q6.all;go_simp
  refine tk 5 (.pointer (some ⟨w.heap.size,5,none⟩)) hS ?_ ?_
  ·intro w' _;go_simp
  refine tk 6 (.int .i64 sum) hS ?_ ?_
  ·intro w' hS';obtain ⟨Q6,Q0⟩:=hS';obtain ⟨e0,e1,e2,e3,e4,e5⟩:=Q6.all;go_simp
  refine tk 7 (.pointer (some ⟨g,0,none⟩)) hS ?_ ?_
  ·intro w' _;go_simp
  try simp only[Act.put]
  refine tk 8 (.pointer (some ⟨g,0,none⟩)) hS ?_ ?_
  ·intro w' _;go_simp
  refine tk 9 (.pointer (some ⟨g,0,none⟩)) hS ?_ ?_
  ·intro w' _;go_simp
  refine tk 10 (.pointer (some ⟨g,0,none⟩)) hS ?_ ?_
  ·intro w' _;go_simp
  refine tk 11 (.int .i64 b.time) hS ?_ ?_
  ·intro w' hS';obtain ⟨Q6,Q0⟩:=hS';obtain ⟨e0,e1,e2,e3,e4,e5⟩:=Q6.all;go_simp
  try simp only[Act.put]
  refine tk 12 (.agg #[.int .i64 (k :Int),.int .i64 shop,.int .i64 sum,.int .i64 b.time]) hS ?_ ?_
  ·intro w' _;go_simp
  try simp only[Act.put]
  refine rd 13 (.cons rfl (fun K hK=>?_) .nil)
  go_simp
  refine (aS _ _ G1.drew).mono ?_
  rintro e w5 ⟨rfl,lab5,G5,S5⟩
  have D5:=D1.drew.on S5
  have t5:=G5.time
  rw[htd.out] at t5
  go_simp
  refine hK.out _ _ (⟨ddo_six D5.db,t5⟩) (fun hS=>?_)
  clear hK K
  refine tk 14 (.int .i64 R.2.2) hS ?_ ?_
  ·intro w' _;go_simp
  refine tk 15 (.int .i64 R.2.1) hS ?_ ?_
  ·intro w' _;go_simp
  try simp only[Act.put]
  refine rd 16 (.cons rfl (fun K hK=>?_) .nil)
  go_simp
  refine hK.out _ _ (⟨ddo_six D5.db,t5⟩) (fun hS=>?_)
  clear hK K
  try simp only[nrm,Act.put]
  refine rd 17 (.cons rfl (fun K hK=>?_) .nil)
  go_simp
  refine hK.out _ _ (⟨ddo_six D5.db,t5⟩) (fun hS=>?_)
  clear hK K
  try simp only[nrm,Act.put]
  refine wpAnyH_done (by kernel_rfl) ?_ _
  go_wp2_with fail
  refine bodyPost_ret (v:=.tuple #[.int .i64 R.2.2,.int .i64 R.2.1]) (by simp[results,Tryz.results97,go_sem]) rfl ?_
  exact ⟨rfl,_,G5,S1.drew.trans S5⟩
 ·have hE:=hid (N2.out (by omega) hd)
  rw[hd] at g1
  clear N0 N1 N2 aS htd q1 q2 hd
  rw[←hE.out] at aC
  unfold Done3 at aC
  generalize askB b ⟨id,kind,k,shop,mv,sum⟩=R at*
  go_enter Tryz.func97,Tryz.ntmps97
  go_wp2_with (first
   |(go_at_call 123;refine (hC _ G1).mono ?_;rintro e w1 ⟨rfl,rfl⟩)
   |(go_at_call 125;refine (hS _ G1).mono ?_;rintro e w1 ⟨rfl,rfl⟩)
   |(go_at_call 127;refine (aC _ _ k G1 rfl hk).mono ?_;rintro e w5 ⟨rfl,lab5,G5,S5⟩))
  refine bodyPost_ret (v:=.tuple #[.int .i64 R.2.2,.int .i64 R.2.1]) (by simp[results,Tryz.results97,go_sem]) rfl ?_
  exact ⟨rfl,_,G5,S1.trans S5⟩
theorem row_room {α:Type}{K:Kind α}{e:TypeId}{w:World}{base:Nat}{a:Option Addr}{cap:Nat}{L:List α}(h:Row K e w base (.slice a L.length cap) L):L.length≤cap:=by
 rcases h with ⟨-,h0⟩|h|⟨g,h1,-,-,-⟩
 ·rw[h0];exact Nat.zero_le _
 ·rcases h.2 with ⟨-,hn⟩|⟨g,cap',cur,hv,-,-,hn,-,-,-⟩
  ·rw[hn];exact Nat.zero_le _
  ·injection hv with _ _ h3
   rw[h3];exact hn
 ·injection h1 with _ _ h3
  rw[h3];exact Nat.le_refl _
theorem Hand.dayGrown {X0 w2:World}{g base:Nat}{l1:Lab}{b:Bank}{v:Vs}{cs:List CV}{ds:List DV}{tm:Value} (H1:Hand X0 g base l1 b v cs ds tm) {a8 a2 a1:Option Addr}{cap8 m1 m2:Nat}{F:List Int} (hF:F.length≤m1) (hv8:Hid (v.dy =.slice a8 ds.length cap8))
  (hown:Row kD 82 w2 base (.slice a2 (ds ++[(⟨F,a1,m1,hF⟩:DV)]).length m2) (ds++[⟨F,a1,m1,hF⟩])) (hgrow:(X0.alloc (.cells #[.slice a1 F.length m1] 82)).grownBy w2 (Value.slice a8 ds.length cap8).ownBlock)
  (hat:∀k,(Value.slice a2 (ds ++[(⟨F,a1,m1,hF⟩:DV)]).length m2).ownBlock=some k→(Value.slice a8 ds.length cap8).ownBlock=some k∨(X0.alloc (.cells #[.slice a1 F.length m1] 82)).heap.size≤k)
  (hon:[(⟨F,a1,m1,hF⟩:DV)]≠[]→w2.ownsRow base 82 kD.size (.slice a2 (ds ++[(⟨F,a1,m1,hF⟩:DV)]).length m2) (ds ++[(⟨F,a1,m1,hF⟩:DV)]).length (kD.flat (ds ++[⟨F,a1,m1,hF⟩]))) (pF:Ap kB l1 X0 (.slice a1 F.length m1) F 0):
  w2.heap[g]?=some (blkB b v tm)∧∃l3,Hand (w2.setCell ⟨g,17,none⟩ (.slice a2 (ds ++[(⟨F,a1,m1,hF⟩:DV)]).length m2)) g base l3 {b with days:=(ds ++[(⟨F,a1,m1,hF⟩:DV)]).map DV.l} {v with dy:=.slice a2 (ds ++[(⟨F,a1,m1,hF⟩:DV)]).length m2} cs (ds ++[⟨F,a1,m1,hF⟩]) tm∧Stp X0 l1 (w2.setCell ⟨g,17,none⟩ (.slice a2 (ds++[(⟨F,a1,m1,hF⟩:DV)]).length m2)) l3:=by
 have B2:=bel_alloc (Below.refl X0.heap.size X0) (.cells #[.slice a1 F.length m1] 82)
 have H2:=H1.below B2
 have pF2:=pF.stp (stp_below B2)
 have hT:=H2.mem.days
 rw[hv8.out] at hT
 have ho:=only_grown hgrow hT.lab (by decide)
 have hg2:=H2.appBlk ho (by decide)
 refine ⟨hg2,_,H2.app ho (by decide) (H2.mem.daysTo ho (hT.grow hown (fun _=>hon (by simp)) hat) (fun x hx=>?_)) (i:=17) (x:=.slice a2 (ds ++[(⟨F,a1,m1,hF⟩:DV)]).length m2) (by rfl),(stp_below B2).trans ((stp_only ho (by decide)).trans (stp_set (x:=.slice a2 (ds ++[(⟨F,a1,m1,hF⟩:DV)]).length m2) (i:=17) (by rw[relab_old (lt_of_block H2.blk)];exact H2.lb)))⟩
 rcases List.mem_append.1 hx with hx|hx
 ·exact H2.mem.files x hx
 ·obtain rfl:=List.mem_singleton.1 hx
  exact pF2
theorem gday (g base:Nat) (lab:Lab) (b:Bank) (tm:Value) (w:World) (h:Goes w g base lab b tm) (hR:Dy.Right b.today) (hdays:b.days.length≤1000000):
  Calls Tryz.prog 105 #[.pointer (some ⟨g,0,none⟩)] w (Done w g base lab tm (dayB b)):=by
 obtain ⟨v,cs,ds,H⟩:=h
 have hE:Hid (dayB b=({ b with days:=b.days++[Dy.fileB b.today],today:=[]},0)):=hid rfl
 have hB:=Dy.bytes_any b.today v.td w H.mem.today.ap.lies
 rw[Dy.bytes_ok (Dy.wrong_ok.2 hR)] at hB
 obtain ⟨a7,cap7,hv7⟩:=H.mem.today.form
 obtain ⟨-,-,-,-,-,-,-,-,-,-,-,-,-,-,-,-,c16,c17,-⟩:=blk_cells H.blk
 rw[hv7] at c16 hB
 have hlen:=H.mem.daysLen
 have hdsv:=hid H.mem.dsv
 unfold Dy.AnswersB Dy.fv at hB
 dsimp only at hB
 generalize Dy.fileB b.today=F at*
 clear hR
 go_enter Tryz.func105,Tryz.ntmps105
 go_upto_region 4 with (go_at_call 140;refine hB.mono ?_;rintro e w1 ⟨v1,rfl,hr1,hb1⟩;obtain ⟨a1,m1,rfl,hl1,hp1,-⟩:=hr1.lies;have hF:=row_room hr1)
 have hbW:=bel_alloc hb1 (.cells #[.int .i64 0,.int .i64 0] 47)
 have pF:Ap kB (relab lab w.heap.size 0) (w1.alloc (.cells #[.int .i64 0,.int .i64 0] 47)) (.slice a1 F.length m1) F 0:=ap_new rfl (hl1.alloc _) hp1
 have H1:=H.below hbW
 have S1:=stp_below (lab:=lab) hbW
 generalize w1.alloc (.cells #[.int .i64 0,.int .i64 0] 47)=X0 at*
 generalize relab lab w.heap.size 0=l1 at*
 clear hbW hb1 hr1 hl1 hp1 hB c16 c17 H
 obtain ⟨a8,cap8,hv8⟩:=H1.mem.days.form
 obtain ⟨-,-,-,-,-,-,-,-,-,-,-,-,-,-,-,-,c16,c17,-⟩:=blk_cells H1.blk
 rw[hv7] at c16
 rw[hv8] at c17
 have hrow:=H1.mem.days.row
 rw[hv8] at hrow
 replace hv7:=hid hv7
 replace hv8:=hid hv8
 replace hlen:=hid hlen
 have hl63:ds.length≤1000000:=by rw[hlen.out];exact hdays
 have hbase:base≤X0.heap.size:=H1.mem.lo
 have hone:Gn.Lies kD (X0.alloc (.cells #[.slice a1 F.length m1] 82)) (some ⟨X0.heap.size,0,none⟩) 1 [⟨F,a1,m1,hF⟩]:=lies_one (K:=kD) (x:=⟨F,a1,m1,hF⟩) (cs:=#[.slice a1 F.length m1]) (heap_alloc_at _ _ _ rfl) rfl _
 have hc2:ds.length+[(⟨F,a1,m1,hF⟩:DV)].length≤maxLen:=by simp[maxLen];omega
 have hc3:(ds.length +[(⟨F,a1,m1,hF⟩:DV)].length)*24≤140737488355328:=by simp;omega
 have hc4:base≤(X0.alloc (.cells #[.slice a1 F.length m1] 82)).heap.size:=by simp;omega
 go_upto_region 5 with (at_builtin;refine wpList_append elemD _ rfl _ _ rfl base (.slice a8 ds.length cap8) ds rfl (hrow.alloc _) _ 1 1 [⟨F,a1,m1,hF⟩] rfl rfl hone hc2 hc3 hc4 ?_;intro v2 w2 hown hgrow hat hon;obtain ⟨a2,m2,rfl,-,-,-⟩:=hown.lies;have D:=H1.dayGrown hF hv8 hown hgrow hat hon pF;obtain ⟨hg2,l3,H3,S3'⟩:=D;obtain ⟨-,-,-,-,-,-,-,-,-,-,-,-,-,-,-,-,D16,D17,-⟩:=blk_cells hg2;have F17:=blk_free hg2 17;rw[hv7.out] at D16;rw[hv8.out] at D17)
 have S3:=S1.trans S3'
 clear S3' hgrow hat hon hown pF H1 S1 hrow hg2 hone hc2 hc3 hc4
 have hdv:(ds ++[(⟨F,a1,m1,hF⟩:DV)]).map DV.l=b.days++[F]:=by
  rw[List.map_append,hdsv.out]
  rfl
 rw[hdv] at H3
 rw[List.length_append] at H3 S3
 simp only[List.length_singleton] at H3 S3
 clear D16 D17 F17
 generalize w2.setCell ⟨g,17,none⟩ (.slice a2 (ds.length +1) m2)=W3 at*
 obtain ⟨-,-,-,-,-,-,-,-,-,-,-,-,-,-,-,-,E16,-⟩:=blk_cells H3.blk
 have hv9:v.td=_:=hv7.out
 try dsimp only at E16
 rw[hv9] at E16
 have F16:=blk_free H3.blk 16
 have H4:=H3.put1 (b':={b with days:=b.days++[F],today:=[]}) H3.mem.todayNil (i:=16) (x:=.slice none 0 0) rfl
 have S4:=S3.trans (stp_set (w:=W3) H3.lb 16 (.slice none 0 0))
 replace hv9:=hid hv9
 clear H3 S3
 go_wp2_with fail
 go_ret
 unfold Done
 rw[hE.out]
 exact ⟨rfl,_,H4.goes,S4⟩
theorem wl_le' (i:Bool):wl i≤8:=by cases i<;>decide
structure Shown (w:World) (lab:Lab) (b:Bank) (v:Vs) (cs:List CV) (ds:List DV):Prop where
 cards:Ap kC lab w v.c cs 0
 csv:cs.map CV.c=b.cards
 uses:∀x∈cs,Ap kU lab w (.slice x.a x.c.u.length x.cap) x.c.u 0
 due:Ap kI lab w v.d b.due 0
 auths:Ap kAu lab w v.a b.auths 0
 kept:∀i,Ap Po.kT lab w (v.kp i) (b.snd i).kept 0
 ways:∀i,Ap kP lab w (v.wy i) (b.way i) 0
 used:Ap kI lab w v.us b.stand.used 0
 adv:Ap St.kA lab w v.ad b.stand.adv 0
 today:Ap Dy.kR lab w v.td b.today 0
 days:Ap kD lab w v.dy ds 0
 dsv:ds.map DV.l=b.days
 files:∀x∈ds,Ap kB lab w (.slice x.a x.l.length x.cap) x.l 0
 book:Ap kU lab w v.bk b.book 0
structure Stq (w:World) (lab:Lab) (w':World) (lab':Lab):Prop where
 ext:∀k,k<w.heap.size→lab' k=lab k
 os:w'.os=w.os
 tape:w'.tape=w.tape
 output:w'.output=w.output
 size:w.heap.size≤w'.heap.size
 block:∀k,k<w.heap.size→(lab k=0∨10<lab k)→w'.heap[k]?=w.heap[k]?
theorem Stq.trans{w w1 w2:World}{lab lab1 lab2:Lab}(h:Stq w lab w1 lab1) (h2:Stq w1 lab1 w2 lab2):Stq w lab w2 lab2:=
 ⟨fun k hk=>(h2.ext k (Nat.lt_of_lt_of_le hk h.size)).trans (h.ext k hk),h2.os.trans h.os,h2.tape.trans h.tape,h2.output.trans h.output,Nat.le_trans h.size h2.size,fun k hk hl=>(h2.block k (Nat.lt_of_lt_of_le hk h.size) (by rw[h.ext k hk];exact hl)).trans (h.block k hk hl)⟩
theorem stq_below {lab:Lab}{w w':World}(h:Below w.heap.size w w') (j:Nat):Stq w lab w' (relab lab w.heap.size j):=
 ⟨fun _ hk=>relab_old hk,h.os,h.tape,h.output,h.size,fun k hk _=>h.block k hk⟩
theorem ap_stq{α:Type}{K:Kind α}{lab lab':Lab}{w w':World}{v:Value}{L:List α}(h:Ap K lab w v L 0) (hs:w.heap.size≤w'.heap.size) (he:∀k,k<w.heap.size→lab' k=lab k) (hk:∀k,k<w.heap.size→lab k=0→w'.heap[k]?=w.heap[k]?):Ap K lab' w' v L 0:=by
 obtain ⟨a,cap,hv,hl,hb⟩:=h
 by_cases h0:L=[]
 ·exact ⟨a,cap,hv,lies_empty hl h0,fun _ _ hn=>absurd h0 hn⟩
 ·exact ⟨a,cap,hv,hl.keep hs fun ad ha hlt=>hk _ hlt (hb ad ha h0),fun ad ha hn=>(he _ (lies_lt hl h0 ad ha)).trans (hb ad ha hn)⟩
theorem Shown.go {w w':World}{lab lab':Lab}{b:Bank}{v:Vs}{cs:List CV}{ds:List DV}(h:Shown w lab b v cs ds) (hs:w.heap.size≤w'.heap.size) (he:∀k,k<w.heap.size→lab' k=lab k) (hk:∀k,k<w.heap.size→lab k=0→w'.heap[k]?=w.heap[k]?):Shown w' lab' b v cs ds:=
 ⟨ap_stq h.cards hs he hk,h.csv,fun x hx=>ap_stq (h.uses x hx) hs he hk,ap_stq h.due hs he hk,ap_stq h.auths hs he hk,fun i=>ap_stq (h.kept i) hs he hk,fun i=>ap_stq (h.ways i) hs he hk,ap_stq h.used hs he hk,ap_stq h.adv hs he hk,
  ap_stq h.today hs he hk,ap_stq h.days hs he hk,h.dsv,fun x hx=>ap_stq (h.files x hx) hs he hk,ap_stq h.book hs he hk⟩
theorem ap_shown {α:Type}{K:Kind α}{lab lab0:Lab}{base:Nat}{w:World}{v:Value}{L:List α}{j:Nat}(h:Ap K lab w v L j) (hj:j≤8) (hi:∀k,1≤lab k→lab k≤8→base≤k) (he:∀k,k<base→lab k=lab0 k):Ap K (relab lab0 base 0) w v L 0:=by
 obtain ⟨a,cap,hv,hl,hb⟩:=h
 refine ⟨a,cap,hv,hl,fun ad ha hn=>?_⟩
 have hl:=hb ad ha hn
 by_cases hk:ad.block<base
 ·rw[relab_old hk,←he _ hk,hl]
  rcases Nat.eq_zero_or_pos j with h0|h0
  ·exact h0
  ·have:= hi ad.block (by omega) (by omega);omega
 ·exact relab_new (by omega)
theorem Mem.shown{w:World}{lab lab0:Lab}{base:Nat}{b:Bank}{v:Vs}{cs:List CV}{ds:List DV}(h:Mem w lab base b v cs ds) (he:∀k,k<base→lab k=lab0 k):Shown w (relab lab0 base 0) b v cs ds:=
 ⟨ap_shown h.cards.ap (by decide) h.hi he,h.csv,fun x hx=>ap_shown (h.uses x hx) (by decide) h.hi he,ap_shown h.due.ap (by decide) h.hi he,ap_shown h.auths.ap (by decide) h.hi he,fun i=>ap_shown (h.kept i) (by decide) h.hi he,fun i=>ap_shown (h.ways i) (wl_le' i) h.hi he,
  ap_shown h.used (by decide) h.hi he,ap_shown h.adv (by decide) h.hi he,ap_shown h.today.ap (by decide) h.hi he,ap_shown h.days.ap (by decide) h.hi he,h.dsv,fun x hx=>ap_shown (h.files x hx) (by decide) h.hi he,ap_shown h.book (by decide) h.hi he⟩
def bkv (b:Bank) (v:Vs):Value:=.agg #[.int .i64 b.time,.bool b.down,v.c,v.d,v.a,.int .i64 (b.snd false).sent,v.kp false,.int .i64 (b.snd true).sent,v.kp true,.int .i64 (b.seen false),.int .i64 (b.seen true),v.wy false,v.wy true,.int .i64 b.stand.cap,v.us,v.ad,v.td,v.dy,v.bk]
def cellsK (b:Bank) (v:Vs):Array Value:=#[.int .i64 b.time,.bool b.down,v.c,v.d,v.a,.int .i64 (b.snd false).sent,v.kp false,.int .i64 (b.snd true).sent,v.kp true,.int .i64 (b.seen false),.int .i64 (b.seen true),v.wy false,v.wy true,.int .i64 b.stand.cap,v.us,v.ad,v.td,v.dy,v.bk]
def bko (b:Bank) (v:Vs):Obj:=.cells (cellsK b v) 43
variable {α : Type}
structure Mx (K:Kind α) (e:TypeId) (lab:Lab) (base:Nat) (w:World) (v:Value) (L:List α) (j n:Nat):Prop where
 done:j≤n→Tp K e lab base w v L j
 yet:n<j→Ap K lab w v L 0
theorem Mx.next {K:Kind α} {e:TypeId} {lab:Lab} {base:Nat} {w w':World} {v:Value} {L:List α} {j n:Nat} (h:Mx K e lab base w v L j n) (ho:Only lab (n +1) w w') (hj:j≠n+1):Mx K e (relab lab w.heap.size (n+1)) base w' v L j (n +1):=
 ⟨fun q=>(h.done (by omega)).move ho (Or.inr hj),fun q=>(h.yet (by omega)).move ho (Or.inr (by omega))⟩
theorem Mx.far {K:Kind α} {e:TypeId} {lab:Lab} {base:Nat} {w w':World} {v:Value} {L:List α} {i j n:Nat} (h:Mx K e lab base w v L j n) (ho:Only lab i w w') (hi:i=0∨8<i) (hj:j≤8):Mx K e (relab lab w.heap.size i) base w' v L j n:=
 ⟨fun q=>(h.done q).move ho (by omega),fun q=>(h.yet q).move ho (by omega)⟩
theorem tp_copied {K:Kind α} {e:TypeId} {lab:Lab} {base:Nat} {w w':World} {v':Value} {L:List α} {j:Nat}(hr:Row K e w' base v' L) (hn:L≠[]→w'.ownsRow base e K.size v' L.length (K.flat L)) (ha:∀k,v'.ownBlock=some k→w.heap.size≤k):Tp K e (relab lab w.heap.size j) base w' v' L j:=
 ⟨hr,hn,fun k hk=>relab_new (ha k hk)⟩
theorem Mx.copied {K:Kind α} {e:TypeId} {lab:Lab} {base:Nat} {w w':World} {v v':Value} {L:List α} {n:Nat}(_:Mx K e lab base w v L (n +1) n) (hr:Row K e w' base v' L) (hn:L≠[]→w'.ownsRow base e K.size v' L.length (K.flat L)) (ha:∀k,v'.ownBlock=some k→w.heap.size≤k):Mx K e (relab lab w.heap.size (n +1)) base w' v' L (n+1) (n +1):=
 ⟨fun _=>tp_copied hr hn ha,fun q=>by omega⟩
structure Mix (w:World) (lab:Lab) (base:Nat) (b:Bank) (v:Vs) (cs:List CV) (ds:List DV) (n:Nat):Prop where
 cards:Mx kC 61 lab base w v.c cs 2 n
 csv:cs.map CV.c=b.cards
 uses:∀x∈cs,Ap kU lab w (.slice x.a x.c.u.length x.cap) x.c.u 0
 due:Mx kI 3 lab base w v.d b.due 3 n
 auths:Mx kAu 66 lab base w v.a b.auths 4 n
 kept:∀i,Ap Po.kT lab w (v.kp i) (b.snd i).kept 0
 ways:∀i,Mx kP 111 lab base w (v.wy i) (b.way i) (wl i) n
 used:Ap kI lab w v.us b.stand.used 0
 adv:Ap St.kA lab w v.ad b.stand.adv 0
 today:Mx Dy.kR 79 lab base w v.td b.today 7 n
 days:Mx kD 82 lab base w v.dy ds 8 n
 dsv:ds.map DV.l=b.days
 files:∀x∈ds,Ap kB lab w (.slice x.a x.l.length x.cap) x.l 0
 book:Ap kU lab w v.bk b.book 0
 hi:∀k,1≤lab k→lab k≤8→base≤k
 lo:base≤w.heap.size
theorem Shown.mix {w:World}{lab:Lab}{b:Bank}{v:Vs}{cs:List CV}{ds:List DV}(h:Shown w lab b v cs ds) (hl:∀k,lab k=0∨8<lab k):Mix w lab w.heap.size b v cs ds 1:=
 ⟨⟨fun q=>by omega,fun _=>h.cards⟩,h.csv,h.uses,⟨fun q=>by omega,fun _=>h.due⟩,⟨fun q=>by omega,fun _=>h.auths⟩,h.kept,fun i=>⟨fun q=>absurd q (by cases i<;>decide),fun _=>h.ways i⟩,h.used,h.adv,
  ⟨fun q=>by omega,fun _=>h.today⟩,⟨fun q=>by omega,fun _=>h.days⟩,h.dsv,h.files,h.book,fun k h1 h2=>by have :=hl k;omega,Nat.le_refl _⟩
theorem Mix.mem {w:World}{lab:Lab}{base:Nat}{b:Bank}{v:Vs}{cs:List CV}{ds:List DV}(h:Mix w lab base b v cs ds 8):Mem w lab base b v cs ds∧∀i,Tp kP 111 lab base w (v.wy i) (b.way i) (wl i):=
 ⟨⟨h.cards.done (by decide),h.csv,h.uses,h.due.done (by decide),h.auths.done (by decide),h.kept,fun i=>((h.ways i).done (wl_le' i)).ap,h.used,h.adv,h.today.done (by decide),h.days.done (by decide),h.dsv,h.files,h.book,h.hi,h.lo⟩,fun i=>(h.ways i).done (wl_le' i)⟩
theorem Mix.far {w w':World}{lab:Lab}{base:Nat}{b:Bank}{v:Vs}{cs:List CV}{ds:List DV}{i n:Nat}(h:Mix w lab base b v cs ds n) (ho:Only lab i w w') (hi:i=0∨8<i):Mix w' (relab lab w.heap.size i) base b v cs ds n:=
 ⟨h.cards.far ho hi (by decide),h.csv,fun x hx=>(h.uses x hx).move ho (by omega),h.due.far ho hi (by decide),h.auths.far ho hi (by decide),fun k=>(h.kept k).move ho (by omega),fun k=>(h.ways k).far ho hi (wl_le' k),h.used.move ho (by omega),h.adv.move ho (by omega),
  h.today.far ho hi (by decide),h.days.far ho hi (by decide),h.dsv,fun x hx=>(h.files x hx).move ho (by omega),h.book.move ho (by omega),hi_relab h.hi h.lo,Nat.le_trans h.lo ho.size⟩
theorem Mix.toCards {w w':World}{lab:Lab}{base:Nat}{b:Bank}{v:Vs}{cs:List CV}{ds:List DV}(h:Mix w lab base b v cs ds 1) (hb:Below w.heap.size w w'){v':Value}(hr:Row kC 61 w' base v' cs) (hn:cs≠[]→w'.ownsRow base 61 kC.size v' cs.length (kC.flat cs)) (ha:∀k,v'.ownBlock=some k→w.heap.size≤k):
  Mix w' (relab lab w.heap.size 2) base b {v with c:=v'} cs ds 2:=
 have ho:Only lab 2 w w':=only_below hb
 ⟨h.cards.copied hr hn ha,h.csv,fun x hx=>(h.uses x hx).move ho (by omega),h.due.next ho (by decide),h.auths.next ho (by decide),fun k=>(h.kept k).move ho (by omega),fun k=>(h.ways k).next ho (by cases k<;>decide),h.used.move ho (by omega),h.adv.move ho (by omega),
  h.today.next ho (by decide),h.days.next ho (by decide),h.dsv,fun x hx=>(h.files x hx).move ho (by omega),h.book.move ho (by omega),hi_relab h.hi h.lo,Nat.le_trans h.lo ho.size⟩
theorem Mix.toDue {w w':World}{lab:Lab}{base:Nat}{b:Bank}{v:Vs}{cs:List CV}{ds:List DV} (h:Mix w lab base b v cs ds 2) (hb:Below w.heap.size w w') {v':Value} (hr:Row kI 3 w' base v' b.due) (hn:b.due≠[]→w'.ownsRow base 3 kI.size v' b.due.length (kI.flat b.due)) (ha:∀k,v'.ownBlock=some k→w.heap.size≤k):
  Mix w' (relab lab w.heap.size 3) base b {v with d:=v'} cs ds 3:=
 have ho:Only lab 3 w w':=only_below hb
 ⟨h.cards.next ho (by decide),h.csv,fun x hx=>(h.uses x hx).move ho (by omega),h.due.copied hr hn ha,h.auths.next ho (by decide),fun k=>(h.kept k).move ho (by omega),fun k=>(h.ways k).next ho (by cases k<;>decide),h.used.move ho (by omega),h.adv.move ho (by omega),
  h.today.next ho (by decide),h.days.next ho (by decide),h.dsv,fun x hx=>(h.files x hx).move ho (by omega),h.book.move ho (by omega),hi_relab h.hi h.lo,Nat.le_trans h.lo ho.size⟩
theorem Mix.toAuths {w w':World}{lab:Lab}{base:Nat}{b:Bank}{v:Vs}{cs:List CV}{ds:List DV}(h:Mix w lab base b v cs ds 3) (hb:Below w.heap.size w w'){v':Value}(hr:Row kAu 66 w' base v' b.auths) (hn:b.auths≠[]→w'.ownsRow base 66 kAu.size v' b.auths.length (kAu.flat b.auths)) (ha:∀k,v'.ownBlock=some k→w.heap.size≤k):
  Mix w' (relab lab w.heap.size 4) base b {v with a:=v'} cs ds 4:=
 have ho:Only lab 4 w w':=only_below hb
 ⟨h.cards.next ho (by decide),h.csv,fun x hx=>(h.uses x hx).move ho (by omega),h.due.next ho (by decide),h.auths.copied hr hn ha,fun k=>(h.kept k).move ho (by omega),fun k=>(h.ways k).next ho (by cases k<;>decide),h.used.move ho (by omega),h.adv.move ho (by omega),
  h.today.next ho (by decide),h.days.next ho (by decide),h.dsv,fun x hx=>(h.files x hx).move ho (by omega),h.book.move ho (by omega),hi_relab h.hi h.lo,Nat.le_trans h.lo ho.size⟩
theorem Mix.toWay {w w':World}{lab:Lab}{base:Nat}{b:Bank}{v:Vs}{cs:List CV}{ds:List DV}{n:Nat} (i:Bool) (h:Mix w lab base b v cs ds n) (hi:wl i=n+1) (hb:Below w.heap.size w w') {v':Value} (hr:Row kP 111 w' base v' (b.way i)) (hn:b.way i≠[]→w'.ownsRow base 111 kP.size v' (b.way i).length (kP.flat (b.way i))) (ha:∀k,v'.ownBlock=some k→w.heap.size≤k):
  Mix w' (relab lab w.heap.size (n +1)) base b {v with wy:=upd v.wy i v'} cs ds (n+1):=by
 have ho:Only lab (n+1) w w':=only_below hb
 have n2:=wl_ne i 2 (by omega)
 have n3:=wl_ne i 3 (by omega)
 have n4:=wl_ne i 4 (by omega)
 have n7:=wl_ne i 7 (by omega)
 have n8:=wl_ne i 8 (by omega)
 refine ⟨h.cards.next ho (by omega),h.csv,fun x hx=>(h.uses x hx).move ho (by omega),h.due.next ho (by omega),h.auths.next ho (by omega),fun k=>(h.kept k).move ho (by omega),fun k=>?_,h.used.move ho (by omega),h.adv.move ho (by omega),
  h.today.next ho (by omega),h.days.next ho (by omega),h.dsv,fun x hx=>(h.files x hx).move ho (by omega),h.book.move ho (by omega),hi_relab h.hi h.lo,Nat.le_trans h.lo ho.size⟩
 show Mx kP 111 _ base w' (upd v.wy i v' k) (b.way k) (wl k) (n+1)
 unfold upd
 by_cases e:k=i
 ·subst e
  rw[if_pos rfl,hi]
  have:= h.ways k
  rw[hi] at this
  exact this.copied hr hn ha
 ·rw[if_neg e]
  exact (h.ways k).next ho (by rw[←hi];exact wl_other e)
theorem Mix.toToday {w w':World}{lab:Lab}{base:Nat}{b:Bank}{v:Vs}{cs:List CV}{ds:List DV} (h:Mix w lab base b v cs ds 6) (hb:Below w.heap.size w w'){v':Value} (hr:Row Dy.kR 79 w' base v' b.today) (hn:b.today≠[]→w'.ownsRow base 79 Dy.kR.size v' b.today.length (Dy.kR.flat b.today)) (ha:∀k,v'.ownBlock=some k→w.heap.size≤k):
  Mix w' (relab lab w.heap.size 7) base b {v with td:=v'} cs ds 7:=
 have ho:Only lab 7 w w':=only_below hb
 ⟨h.cards.next ho (by decide),h.csv,fun x hx=>(h.uses x hx).move ho (by omega),h.due.next ho (by decide),h.auths.next ho (by decide),fun k=>(h.kept k).move ho (by omega),fun k=>(h.ways k).next ho (by cases k<;>decide),h.used.move ho (by omega),h.adv.move ho (by omega),
  h.today.copied hr hn ha,h.days.next ho (by decide),h.dsv,fun x hx=>(h.files x hx).move ho (by omega),h.book.move ho (by omega),hi_relab h.hi h.lo,Nat.le_trans h.lo ho.size⟩
theorem Mix.toDays{w w':World}{lab:Lab}{base:Nat}{b:Bank}{v:Vs}{cs:List CV}{ds:List DV}(h:Mix w lab base b v cs ds 7) (hb:Below w.heap.size w w'){v':Value}(hr:Row kD 82 w' base v' ds) (hn:ds≠[]→w'.ownsRow base 82 kD.size v' ds.length (kD.flat ds)) (ha:∀k,v'.ownBlock=some k→w.heap.size≤k):
  Mix w' (relab lab w.heap.size 8) base b {v with dy:=v'} cs ds 8:=
 have ho:Only lab 8 w w':=only_below hb
 ⟨h.cards.next ho (by decide),h.csv,fun x hx=>(h.uses x hx).move ho (by omega),h.due.next ho (by decide),h.auths.next ho (by decide),fun k=>(h.kept k).move ho (by omega),fun k=>(h.ways k).next ho (by cases k<;>decide),h.used.move ho (by omega),h.adv.move ho (by omega),
  h.today.next ho (by decide),h.days.copied hr hn ha,h.dsv,fun x hx=>(h.files x hx).move ho (by omega),h.book.move ho (by omega),hi_relab h.hi h.lo,Nat.le_trans h.lo ho.size⟩
abbrev Shows (w:World) (b:Bank) (v:Vs) (cs:List CV) (ds:List DV):Prop:=Shown w (fun _=>0) b v cs ds
theorem ap_plain {K:Kind α}{lab:Lab}{w:World}{v:Value}{L:List α}{j:Nat} (h:Ap K lab w v L j):Ap K (fun _=>0) w v L 0:=by
 obtain ⟨a,cap,hv,hl,-⟩:=h
 exact ⟨a,cap,hv,hl,fun _ _ _=>rfl⟩
theorem Shown.shows {w:World}{lab:Lab}{b:Bank}{v:Vs}{cs:List CV}{ds:List DV}(h:Shown w lab b v cs ds):Shows w b v cs ds:=
 ⟨ap_plain h.cards,h.csv,fun x hx=>ap_plain (h.uses x hx),ap_plain h.due,ap_plain h.auths,fun i=>ap_plain (h.kept i),fun i=>ap_plain (h.ways i),ap_plain h.used,ap_plain h.adv,ap_plain h.today,ap_plain h.days,h.dsv,fun x hx=>ap_plain (h.files x hx),ap_plain h.book⟩
end Go.Proofs.YtofcnebekmjdoaaGreatDoor.Bn
