import Derived.Test.YtofcnebekmjdoaaGreatDoorKaz
set_option maxHeartbeats 4000000
set_option maxRecDepth 100000
namespace Go.Proofs.YtofcnebekmjdoaaGreatDoor.Bn
open Go.RowKit Go.Proofs.YtofcnebekmjdoaaGreatDoor.Gn
theorem sender_put {W:World} {z:Nat} {x y:Value} (h:W.heap[z]?=some (.cells #[x,y] 31)) (u v:Value):((W.setCell ⟨z,0,none⟩ u).setCell ⟨z,1,none⟩ v).heap[z]?=some (.cells #[u,v] 31):=by
 have h1:=heap_setCell_same W z 0 _ _ u h
 have h2:=heap_setCell_same _ z 1 _ _ v h1
 rw[h2];simp
theorem row_other {W:World}{z B:Nat}{e:TypeId}{v:Value}{L:List Po.Tr} (h:Row Po.kT e W (B +1) v L) (i j:Nat) (u x:Value) (hz:z≤B):Row Po.kT e ((W.setCell ⟨z,i,none⟩ u).setCell ⟨z,j,none⟩ x) B v L:=by
 refine (h.mono (Nat.le_succ _)).keep (by simp) fun k hk _=>?_
 have:= (h.block_lt k hk).1
 rw [heap_setCell_other _ ⟨z,j,none⟩ _ _ (by simp;omega),heap_setCell_other _ ⟨z,i,none⟩ _ _ (by simp;omega)]
theorem gput (g base:Nat) (lab:Lab) (b:Bank) (tm:Value) (i:Bool) (t:Po.Tr) (w:World) (h:Goes w g base lab b tm):
    Calls Tryz.prog 158 #[.pointer (some ⟨g,0,none⟩),.int .i64 (sideN i),Po.tv t] w (Done w g base lab tm (putP b i t)):=by
  obtain ⟨v,cs,ds,H⟩:=h.hand
  have hb0:=below_alloc w (.cells #[.int .i64 t.n,.int .i64 t.k,.int .i64 t.a,.int .i64 t.s] 64)
  have H1:=H.below hb0
  have hbx:(w.alloc (.cells #[.int .i64 t.n,.int .i64 t.k,.int .i64 t.a,.int .i64 t.s] 64)).heap[w.heap.size]?=some (.cells #[.int .i64 t.n,.int .i64 t.k,.int .i64 t.a,.int .i64 t.s] 64):=heap_alloc_at _ _ _ rfl
  obtain ⟨W,hWd⟩:∃W,w.alloc (.cells #[.int .i64 t.n,.int .i64 t.k,.int .i64 t.a,.int .i64 t.s] 64)=W:=⟨_,rfl⟩
  rw[hWd] at hb0 H1 hbx
  obtain ⟨t0,t1,t2,t3⟩:W.cell? ⟨w.heap.size,0,none⟩=some (.int .i64 t.n)∧W.cell? ⟨w.heap.size,1,none⟩=some (.int .i64 t.k)∧W.cell? ⟨w.heap.size,2,none⟩=some (.int .i64 t.a)∧W.cell? ⟨w.heap.size,3,none⟩=some (.int .i64 t.s):=by
    refine ⟨?_,?_,?_,?_⟩<;>simp[World.cell?,hbx]
  obtain ⟨a,cap,hv,hl,hn⟩:=H1.mem.kept i
  obtain ⟨-,-,-,-,-,c5,c6,c7,c8,-⟩:=blk_cells H1.blk
  have hS:∀X:World,Below W.heap.size W X→Calls Tryz.prog 176 #[.agg #[.int .i64 (b.snd i).sent,.slice a (b.snd i).kept.length cap],.agg #[.int .i64 t.n,.int .i64 t.k,.int .i64 t.a,.int .i64 t.s]] X (Po.AnswersS X (Po.putS (b.snd i) t)):=fun X hX=>Po.put_any (b.snd i) a cap t X (hl.below hX)
  unfold Po.AnswersS at hS
  have N1:=hid (putP_no (b:=b) (i:=i) (t:=t))
  have N2:=hid (put_done (x:=b) (i:=i) (t:=t))
  unfold Po.tv
  have hwW:w.heap.size≤W.heap.size:=hb0.size
  have HQ:Hid (((Po.putS (b.snd i) t).2≠0→putP b i t=(b,(Po.putS (b.snd i) t).2))∧((Po.putS (b.snd i) t).2=0→putP b i t=({ b with snd:=upd b.snd i (Po.putS (b.snd i) t).1},0))):=⟨N1.out,N2.out⟩
  clear N1 N2
  generalize (Po.putS (b.snd i) t).1=r1 at*
  generalize (Po.putS (b.snd i) t).2=r2 at*
  cases i with
    |false=>
      rw[hv] at c6
      show Calls _ _ #[_,.int .i64 0,_] _ _
      have keep:∀X:World,Below W.heap.size W X→X.cell? ⟨g,5,none⟩=some (.int .i64 (b.snd false).sent)∧X.cell? ⟨g,6,none⟩=some (.slice a (b.snd false).kept.length cap)∧X.cell? ⟨w.heap.size,0,none⟩=some (.int .i64 t.n)∧X.cell? ⟨w.heap.size,1,none⟩=some (.int .i64 t.k)∧X.cell? ⟨w.heap.size,2,none⟩=some (.int .i64 t.a)∧X.cell? ⟨w.heap.size,3,none⟩=some (.int .i64 t.s):=fun X hX=>
        ⟨(hX.cell (p:=⟨g,5,none⟩) (lt_of_block H1.blk)).trans c5,(hX.cell (p:=⟨g,6,none⟩) (lt_of_block H1.blk)).trans c6,(hX.cell (p:=⟨w.heap.size,0,none⟩) (lt_of_block hbx)).trans t0,(hX.cell (p:=⟨w.heap.size,1,none⟩) (lt_of_block hbx)).trans t1,(hX.cell (p:=⟨w.heap.size,2,none⟩) (lt_of_block hbx)).trans t2,(hX.cell (p:=⟨w.heap.size,3,none⟩) (lt_of_block hbx)).trans t3⟩
      go_enter Tryz.func158,Tryz.ntmps158
      go_upto_region 1 with fail
      try rw[hWd]
      clear hWd
      go_cut[7,8] from 9 to 20 (fun p q wc=>∃Z a1 cap1,p=.pointer (some ⟨Z,0,none⟩)∧q=.int .i64 r2∧W.heap.size≤Z∧wc.heap[Z]?=some (.cells #[.int .i64 r1.sent,.slice a1 r1.kept.length cap1] 31)∧Row Po.kT 64 wc W.heap.size (.slice a1 r1.kept.length cap1) r1.kept∧Below W.heap.size W wc)
      case first=>
        go_region_held3 (fun X=>X.cell? ⟨g,5,none⟩=some (.int .i64 (b.snd false).sent)∧X.cell? ⟨g,6,none⟩=some (.slice a (b.snd false).kept.length cap)∧X.cell? ⟨w.heap.size,0,none⟩=some (.int .i64 t.n)∧X.cell? ⟨w.heap.size,1,none⟩=some (.int .i64 t.k)∧X.cell? ⟨w.heap.size,2,none⟩=some (.int .i64 t.a)∧X.cell? ⟨w.heap.size,3,none⟩=some (.int .i64 t.s))
          ((refine keep _ ?_;repeat (first|exact hb1|exact Below.refl _ _|refine Below.drew ?_|refine bel_alloc ?_ _|refine Below.setCell ?_ (by simp) _)))
          (first
            | (go_at_call 176
               refine (hS W.drew ((Below.refl _ _).drew)).mono ?_
               rintro e w1 ⟨u,rfl,hr1,hb1⟩
               obtain ⟨a1,cap1,rfl,-,-,-⟩:=hr1.lies
               have hb1:Below W.heap.size W w1:=((Below.refl _ _).drew).trans hb1
               have hr1:Row Po.kT 64 w1 W.heap.size (.slice a1 r1.kept.length cap1) r1.kept:=hr1)
            | (go_at_call 176
               refine (hS (W.alloc (.cells #[.int .i64 0,.slice none 0 0] 31)).drew ((below_alloc _ _).drew)).mono ?_
               rintro e w1 ⟨u,rfl,hr1,hb1⟩
               obtain ⟨a1,cap1,rfl,-,-,-⟩:=hr1.lies
               have hz1:w1.heap[W.heap.size]?=some (.cells #[.int .i64 0,.slice none 0 0] 31):=(hb1.block _ (by simp)).trans (heap_alloc_at _ _ _ rfl)
               have hb1:Below W.heap.size W w1:=((below_alloc W (.cells #[.int .i64 0,.slice none 0 0] 31)).drew).trans (hb1.mono (by simp))
               have hr2:Row Po.kT 64 w1 (W.heap.size +1) (.slice a1 r1.kept.length cap1) r1.kept:=hr1.mono (by simp)
               obtain ⟨x0,x1⟩:=so_cells' hz1
               have y0:w1.frozen? ⟨W.heap.size,0,none⟩=false:=by simp[World.frozen?,hz1]
               have y1:w1.frozen? ⟨W.heap.size,1,none⟩=false:=by simp[World.frozen?,hz1])
            |fail)
        all_goals
          go_wp2_with fail
          go_meet
          first
            |exact ⟨_,a1,cap1,rfl,rfl,hb1.size,heap_alloc_at _ _ _ rfl,hr1.alloc _,bel_alloc hb1 _⟩
            |exact ⟨W.heap.size,a1,cap1,rfl,rfl,Nat.le_refl _,sender_put hz1 _ _,row_other hr2 _ _ _ _ (by omega),(hb1.setCell (Nat.le_refl _) _).setCell (Nat.le_refl _) _⟩
            |fail
      case rest=>
        obtain ⟨Z,a1,cap1,rfl,rfl,hZ,hZb,hrw,hbc⟩:=hcut
        clear hS keep t0 t1 t2 t3 c5 c6 c7 c8
        generalize wc=X at*
        have H2:=H1.below hbc
        have hbX:=(stp_below (lab:=lab) hb0).trans (stp_below hbc)
        by_cases hq:r2=0
        · have hq':(r2 !=0)=false:=by simpa using hq
          have hE:=hid (HQ.out.2 hq)
          clear hq
          have hnew:Ap Po.kT (relab (relab lab w.heap.size 0) W.heap.size 0) X (.slice a1 r1.kept.length cap1) r1.kept 0:=ap_row hrw
          have H3:=H2.put2 (H2.mem.keptTo false hnew) (i:=5) (j:=6) (x:=.int .i64 r1.sent) (y:=.slice a1 r1.kept.length cap1) (by rfl)
          obtain ⟨-,-,-,-,-,d5,d6,-⟩:=blk_cells H2.blk
          have f0:=blk_free H2.blk 5
          have f1:=blk_free H2.blk 6
          obtain ⟨u0,u1⟩:=so_cells' hZb
          rw[hv] at d6
          go_upto_region 4 with fail
          go_region
          all_goals
            go_wp2_with fail
            go_ret
            unfold Done
            rw[hE.out]
            exact ⟨rfl,_,H3.goes.drew,(hbX.trans (H2.stp2 _ _ _ _)).drew⟩
        · have hq':(r2 !=0)=true:=by simpa using hq
          have hE:=hid (HQ.out.1 hq)
          clear hq
          go_wp2_with fail
          go_ret
          unfold Done
          rw[hE.out]
          exact ⟨rfl,_,H2.goes,hbX⟩
    |true=>
      rw[hv] at c8
      show Calls _ _ #[_,.int .i64 1,_] _ _
      have keep:∀X:World,Below W.heap.size W X→X.cell? ⟨g,7,none⟩=some (.int .i64 (b.snd true).sent)∧X.cell? ⟨g,8,none⟩=some (.slice a (b.snd true).kept.length cap)∧X.cell? ⟨w.heap.size,0,none⟩=some (.int .i64 t.n)∧X.cell? ⟨w.heap.size,1,none⟩=some (.int .i64 t.k)∧X.cell? ⟨w.heap.size,2,none⟩=some (.int .i64 t.a)∧X.cell? ⟨w.heap.size,3,none⟩=some (.int .i64 t.s):=fun X hX=>
        ⟨(hX.cell (p:=⟨g,7,none⟩) (lt_of_block H1.blk)).trans c7,(hX.cell (p:=⟨g,8,none⟩) (lt_of_block H1.blk)).trans c8,(hX.cell (p:=⟨w.heap.size,0,none⟩) (lt_of_block hbx)).trans t0,(hX.cell (p:=⟨w.heap.size,1,none⟩) (lt_of_block hbx)).trans t1,(hX.cell (p:=⟨w.heap.size,2,none⟩) (lt_of_block hbx)).trans t2,(hX.cell (p:=⟨w.heap.size,3,none⟩) (lt_of_block hbx)).trans t3⟩
      go_enter Tryz.func158,Tryz.ntmps158
      go_upto_region 1 with fail
      try rw[hWd]
      clear hWd
      go_cut[7,8] from 9 to 20 (fun p q wc=>∃Z a1 cap1,p=.pointer (some ⟨Z,0,none⟩)∧q=.int .i64 r2∧W.heap.size≤Z∧wc.heap[Z]?=some (.cells #[.int .i64 r1.sent,.slice a1 r1.kept.length cap1] 31)∧Row Po.kT 64 wc W.heap.size (.slice a1 r1.kept.length cap1) r1.kept∧Below W.heap.size W wc)
      case first=>
        go_region_held3 (fun X=>X.cell? ⟨g,7,none⟩=some (.int .i64 (b.snd true).sent)∧X.cell? ⟨g,8,none⟩=some (.slice a (b.snd true).kept.length cap)∧X.cell? ⟨w.heap.size,0,none⟩=some (.int .i64 t.n)∧X.cell? ⟨w.heap.size,1,none⟩=some (.int .i64 t.k)∧X.cell? ⟨w.heap.size,2,none⟩=some (.int .i64 t.a)∧X.cell? ⟨w.heap.size,3,none⟩=some (.int .i64 t.s))
          ((refine keep _ ?_;repeat (first|exact hb1|exact Below.refl _ _|refine Below.drew ?_|refine bel_alloc ?_ _|refine Below.setCell ?_ (by simp) _)))
          (first
            | (go_at_call 176
               refine (hS W.drew ((Below.refl _ _).drew)).mono ?_
               rintro e w1 ⟨u,rfl,hr1,hb1⟩
               obtain ⟨a1,cap1,rfl,-,-,-⟩:=hr1.lies
               have hb1:Below W.heap.size W w1:=((Below.refl _ _).drew).trans hb1
               have hr1:Row Po.kT 64 w1 W.heap.size (.slice a1 r1.kept.length cap1) r1.kept:=hr1)
            | (go_at_call 176
               refine (hS (W.alloc (.cells #[.int .i64 0,.slice none 0 0] 31)).drew ((below_alloc _ _).drew)).mono ?_
               rintro e w1 ⟨u,rfl,hr1,hb1⟩
               obtain ⟨a1,cap1,rfl,-,-,-⟩:=hr1.lies
               have hz1:w1.heap[W.heap.size]?=some (.cells #[.int .i64 0,.slice none 0 0] 31):=(hb1.block _ (by simp)).trans (heap_alloc_at _ _ _ rfl)
               have hb1:Below W.heap.size W w1:=((below_alloc W (.cells #[.int .i64 0,.slice none 0 0] 31)).drew).trans (hb1.mono (by simp))
               have hr2:Row Po.kT 64 w1 (W.heap.size +1) (.slice a1 r1.kept.length cap1) r1.kept:=hr1.mono (by simp)
               obtain ⟨x0,x1⟩:=so_cells' hz1
               have y0:w1.frozen? ⟨W.heap.size,0,none⟩=false:=by simp[World.frozen?,hz1]
               have y1:w1.frozen? ⟨W.heap.size,1,none⟩=false:=by simp[World.frozen?,hz1])
            |fail)
        all_goals
          go_wp2_with fail
          go_meet
          first
            |exact ⟨_,a1,cap1,rfl,rfl,hb1.size,heap_alloc_at _ _ _ rfl,hr1.alloc _,bel_alloc hb1 _⟩
            |exact ⟨W.heap.size,a1,cap1,rfl,rfl,Nat.le_refl _,sender_put hz1 _ _,row_other hr2 _ _ _ _ (by omega),(hb1.setCell (Nat.le_refl _) _).setCell (Nat.le_refl _) _⟩
            |fail
      case rest=>
        obtain ⟨Z,a1,cap1,rfl,rfl,hZ,hZb,hrw,hbc⟩:=hcut
        clear hS keep t0 t1 t2 t3 c5 c6 c7 c8
        generalize wc=X at*
        have H2:=H1.below hbc
        have hbX:=(stp_below (lab:=lab) hb0).trans (stp_below hbc)
        by_cases hq:r2=0
        · have hq':(r2 !=0)=false:=by simpa using hq
          have hE:=hid (HQ.out.2 hq)
          clear hq
          have hnew:Ap Po.kT (relab (relab lab w.heap.size 0) W.heap.size 0) X (.slice a1 r1.kept.length cap1) r1.kept 0:=ap_row hrw
          have H3:=H2.put2 (H2.mem.keptTo true hnew) (i:=7) (j:=8) (x:=.int .i64 r1.sent) (y:=.slice a1 r1.kept.length cap1) (by rfl)
          obtain ⟨-,-,-,-,-,-,-,d7,d8,-⟩:=blk_cells H2.blk
          have f0:=blk_free H2.blk 7
          have f1:=blk_free H2.blk 8
          obtain ⟨u0,u1⟩:=so_cells' hZb
          rw[hv] at d8
          go_upto_region 4 with fail
          go_region
          all_goals
            go_wp2_with fail
            go_ret
            unfold Done
            rw[hE.out]
            exact ⟨rfl,_,H3.goes.drew,(hbX.trans (H2.stp2 _ _ _ _)).drew⟩
        · have hq':(r2 !=0)=true:=by simpa using hq
          have hE:=hid (HQ.out.1 hq)
          clear hq
          go_wp2_with fail
          go_ret
          unfold Done
          rw[hE.out]
          exact ⟨rfl,_,H2.goes,hbX⟩
theorem Tp.form {α:Type}{K:Kind α}{e:TypeId}{lab:Lab}{base:Nat}{w:World}{v:Value}{L:List α}{j:Nat}(h:Tp K e lab base w v L j):∃a cap,v=.slice a L.length cap:=by
 obtain ⟨a,cap,hv,-⟩:=h.row.lies
 exact ⟨a,cap,hv⟩
theorem Hand.off {w:World}{g base:Nat}{lab:Lab}{b:Bank}{v:Vs}{cs:List CV}{ds:List DV}{tm:Value}(h:Hand w g base lab b v cs ds tm){α:Type}{K:Kind α}{e:TypeId}{u:Value}{L:List α}{j:Nat}(ht:Tp K e lab base w u L j) (hj:j≠1):u.ownBlock≠some g:=fun hk=>by
 have:= ht.lab g hk
 rw[h.lb] at this
 exact hj this.symm
theorem Hand.app {w w2:World} {g base:Nat} {lab:Lab} {b b':Bank} {v v':Vs} {cs cs':List CV} {ds ds':List DV} {tm:Value} {j:Nat} (H:Hand w g base lab b v cs ds tm) (ho:Only lab j w w2) (hj:j≠1) (hm:Mem w2 (relab lab w.heap.size j) base b' v' cs' ds') {i:Nat} {x:Value} (hc:(cellsB b v tm).setIfInBounds i x=cellsB b' v' tm):
  Hand (w2.setCell ⟨g,i,none⟩ x) g base (relab (relab lab w.heap.size j) w2.heap.size 1) b' v' cs' ds' tm:=by
 have hgl:=lt_of_block H.blk
 have hg2:w2.heap[g]?=some (blkB b v tm):=(ho.block g hgl (Or.inr (by rw[H.lb];exact fun h=>hj h.symm))).trans H.blk
 have hl2:relab lab w.heap.size j g=1:=by rw[relab_old hgl];exact H.lb
 exact ⟨hm.gput hl2 i x,by rw[blk_put hg2,hc];rfl,by rw[relab_old (lt_of_block hg2)];exact hl2⟩
theorem Hand.appBlk {w w2:World}{g base:Nat}{lab:Lab}{b:Bank}{v:Vs}{cs:List CV}{ds:List DV}{tm:Value}{j:Nat}(H:Hand w g base lab b v cs ds tm) (ho:Only lab j w w2) (hj:j≠1):w2.heap[g]?=some (blkB b v tm):=
 (ho.block g (lt_of_block H.blk) (Or.inr (by rw[H.lb];exact fun h=>hj h.symm))).trans H.blk
theorem gnote (g base:Nat) (lab:Lab) (b:Bank) (tm:Value) (r:Dy.Rc) (w:World) (h:Goes w g base lab b tm) (hfew:b.today.length≤100):
    Calls Tryz.prog 132 #[.pointer (some ⟨g,0,none⟩),.agg #[.int .i64 r.sh,.int .i64 r.au,.int .i64 r.k,.int .i64 r.m]] w (Done w g base lab tm (noteP b r)):=by
  obtain ⟨v,cs,ds,H⟩:=h.hand
  have hb0:=below_alloc w (.cells #[.int .i64 r.sh,.int .i64 r.au,.int .i64 r.k,.int .i64 r.m] 79)
  have H1:=H.below hb0
  have hbx:(w.alloc (.cells #[.int .i64 r.sh,.int .i64 r.au,.int .i64 r.k,.int .i64 r.m] 79)).heap[w.heap.size]?=some (.cells #[.int .i64 r.sh,.int .i64 r.au,.int .i64 r.k,.int .i64 r.m] 79):=heap_alloc_at _ _ _ rfl
  obtain ⟨W,hWd⟩:∃W,w.alloc (.cells #[.int .i64 r.sh,.int .i64 r.au,.int .i64 r.k,.int .i64 r.m] 79)=W:=⟨_,rfl⟩
  rw[hWd] at hb0 H1 hbx
  have hwW:w.heap.size≤W.heap.size:=hb0.size
  obtain ⟨T0,T1,T2,T3⟩:W.cell? ⟨w.heap.size,0,none⟩=some (.int .i64 r.sh)∧W.cell? ⟨w.heap.size,1,none⟩=some (.int .i64 r.au)∧W.cell? ⟨w.heap.size,2,none⟩=some (.int .i64 r.k)∧W.cell? ⟨w.heap.size,3,none⟩=some (.int .i64 r.m):=by
    refine ⟨?_,?_,?_,?_⟩<;>simp[World.cell?,hbx]
  obtain ⟨a,cap,hv⟩:=H1.mem.today.form
  have C16:=(blk_cells H1.blk).2.2.2.2.2.2.2.2.2.2.2.2.2.2.2.2.1
  rw[hv] at C16
  by_cases hq:100≤b.today.length
  · have hE:Hid (noteP b r=(b,5)):=hid (by unfold noteP;rw[if_pos hq])
    have hq':(100:Int)≤b.today.length:=by omega
    go_enter Tryz.func132,Tryz.ntmps132
    go_wp2_with fail
    go_ret
    unfold Done
    rw[hE.out]
    exact ⟨rfl,_,H1.goes,stp_below hb0⟩
  · have hE:Hid (noteP b r=({ b with today:=b.today++[r]},0)):=hid (by unfold noteP;rw[if_neg hq])
    have hq':¬((100 :Int)≤b.today.length):=by omega
    have hgl:=lt_of_block H1.blk
    have CA:∀o,(W.alloc o).cell? ⟨g,16,none⟩=some (.slice a b.today.length cap):=fun o=>(World.cell?_alloc_past _ _ _ hgl).trans C16
    have hrow:=H1.mem.today.row
    rw[hv] at hrow
    have hoff:=H1.off H1.mem.today (by decide)
    rw[hv] at hoff
    have hWb:base≤W.heap.size:=H1.mem.lo
    go_enter Tryz.func132,Tryz.ntmps132
    go_upto_region 3 with fail
    try rw[hWd]
    clear hWd
    go_region_law
      (first
        | (refine step_append Dy.elemR _ rfl (.tmp 17) (.tmp 19) rfl base (.slice a b.today.length cap) b.today rfl (by repeat (first|exact hrow|refine Row.drew ?_|refine Row.alloc ?_ _)) _ 1 1 [r] rfl rfl (lies_one (by repeat (first|exact heap_alloc_at _ _ _ (by first|omega|(simp;done)|(simp;omega))|rw[heap_drew])) rfl _) (by simp[maxLen];omega) (by simp;omega) (by first|omega|(simp;done)|(simp;omega)) ?_
           intro v1 w2 hown hgrow hat hon
           have H2:=H1.below (bel_alloc (Below.refl _ _) (.cells #[.int .i64 r.sh,.int .i64 r.au,.int .i64 r.k,.int .i64 r.m] 79)).drew
           have hT:=H2.mem.today
           rw[hv] at hT
           have ho:=only_grown hgrow hT.lab (by decide)
           have hg2:=H2.appBlk ho (by decide)
           have D16:=(blk_cells hg2).2.2.2.2.2.2.2.2.2.2.2.2.2.2.2.2.1
           rw[hv] at D16
           have F16:=blk_free hg2 16
           obtain ⟨a1,cap1,rfl,-,-,-⟩:=hown.lies
           have H3:=H2.app ho (by decide) (H2.mem.todayTo ho (hT.grow hown (fun _=>hon (by simp)) hat)) (i:=16) (x:=.slice a1 (b.today ++[r]).length cap1) (by rfl)
           have hbel:=((stp_below (lab:=lab) hb0).trans (stp_below (bel_alloc (Below.refl _ _) (.cells #[.int .i64 r.sh,.int .i64 r.au,.int .i64 r.k,.int .i64 r.m] 79)).drew)).trans ((stp_only ho (by decide)).trans (stp_set (x:=.slice a1 (b.today++[r]).length cap1) (i:=16) (by rw[relab_old (lt_of_block H2.blk)];exact H2.lb))))
        |fail)
    all_goals
      go_wp2_with fail
      go_ret
      unfold Done
      rw[hE.out]
      rw[List.length_append] at H3 hbel
      exact ⟨rfl,_,H3.goes,hbel⟩
theorem wrap64' {x:Int} (h1:-9223372036854775808≤x) (h2:x≤9223372036854775807):IntKind.i64.wrap x=x:=by
 simp[IntKind.wrap,IntKind.bits,IntKind.signed]
 omega
structure DueIn (w:World) (lab:Lab) (base:Nat) (v:Vs) (L:List Int) (k gd cap:Nat):Prop where
 val:v.d=.slice (some ⟨gd,0,none⟩) L.length cap
 ge:base≤gd
 lt:gd<w.heap.size
 lb:lab gd=3
 c0:w.cell? ⟨gd,k,none⟩=some (.int .i64 (L.getD k 0))
 fz:w.frozen? ⟨gd,k,none⟩=false
 put:∀y:Int,(w.setCell ⟨gd,k,none⟩ (.int .i64 y)).ownsRow base 3 kI.size v.d (L.set k y).length (kI.flat (L.set k y))
theorem Mem.dueAt {w:World} {lab:Lab} {base:Nat} {b:Bank} {v:Vs} {cs:List CV} {ds:List DV} (h:Mem w lab base b v cs ds) {k:Nat} (hk:k<b.due.length):∃gd cap,DueIn w lab base v b.due k gd cap:=by
 have hne:b.due≠[]:=by intro h0;rw[h0] at hk;simp at hk
 obtain ⟨gd,cap,hv,hge,hlt,hcap,hfz,hput⟩:=Row.put (h.due.own hne) hk
 obtain ⟨a,c,hv2,hl⟩:=h.due.ap.lies
 rw[hv] at hv2
 obtain ⟨rfl,-,rfl⟩:=Value.slice.inj hv2
 obtain ⟨g',off,ha,-,hc⟩:=int_cell hl hk
 cases ha
 rw[Nat.zero_add] at hc
 refine ⟨gd,cap,hv,hge,hlt,h.due.lab gd (by rw[hv];rfl),hc,hfz _,fun y=>?_⟩
 have :=hput y
 rw[show k*kI.size=k from Nat.mul_one k] at this
 exact this
theorem Hand.duePut {w:World}{g base:Nat}{lab:Lab}{b:Bank}{v:Vs}{cs:List CV}{ds:List DV}{tm:Value}(H:Hand w g base lab b v cs ds tm){k gd cap:Nat}(D:DueIn w lab base v b.due k gd cap) (y:Int):Hand (w.setCell ⟨gd,k,none⟩ (.int .i64 y)) g base (relab lab w.heap.size 3) {b with due:=b.due.set k y} v cs ds tm:=by
 have ho:Only lab 3 w (w.setCell ⟨gd,k,none⟩ (.int .i64 y)):=only_set w ⟨gd,k,none⟩ _ D.lb (by decide)
 refine ⟨H.mem.dueTo ho ⟨.own _ _ (D.put y),fun _=>D.put y,fun j hj=>by rw[relab_old (H.mem.due.row.block_lt j hj).2];exact H.mem.due.lab j hj⟩,H.appBlk ho (by decide),by rw[relab_old (lt_of_block H.blk)];exact H.lb⟩
theorem Hand.dueStp {w:World} {g base:Nat} {lab:Lab} {b:Bank} {v:Vs} {cs:List CV} {ds:List DV} {tm:Value}(_:Hand w g base lab b v cs ds tm) {k gd cap:Nat}(D:DueIn w lab base v b.due k gd cap) (y:Int):Stp w lab (w.setCell ⟨gd,k,none⟩ (.int .i64 y)) (relab lab w.heap.size 3):=stp_only (only_set w ⟨gd,k,none⟩ _ D.lb (by decide)) (by decide)
theorem gshopGets (g base:Nat) (lab:Lab) (b:Bank) (tm:Value) (k:Nat) (src sum:Int) (w:World) (h:Goes w g base lab b tm) (hk:k<b.due.length) (hk9:k≤1000000) (f1:-1000000000000000≤b.due.getD k 0) (f2:b.due.getD k 0≤1000000000000000) (f3:-1000000000000000≤sum) (f4:sum≤1000000000000000):
  Calls Tryz.prog 161 #[.pointer (some ⟨g,0,none⟩),.int .i64 (k :Int),.int .i64 src,.int .i64 sum] w (Done w g base lab tm (shopGetsP b k src sum)):=by
 obtain ⟨v,cs,ds,H⟩:=h.hand
 obtain ⟨gd,cap,D⟩:=H.mem.dueAt hk
 have hk2:(k:Int)<b.due.length:=by omega
 obtain ⟨-,-,-,c3,-⟩:=blk_cells H.blk
 rw[D.val] at c3
 have d0:=D.c0
 have d1:=D.fz
 have H1:=H.duePut D (b.due.getD k 0+sum)
 have hE:Hid (shopGetsP b k src sum=enterP {b with due:=b.due.set k (b.due.getD k 0+sum)} src (50 +k) sum):=hid (by unfold shopGetsP dueP Bank.dueOf;rw[Int.toNat_natCast])
 have hb1:=H.dueStp D (b.due.getD k 0+sum)
 generalize b.due.getD k 0=x at*
 have hS:∀(X:World) (l:Lab),Goes X g base l {b with due:=b.due.set k (x +sum)} tm→Calls Tryz.prog 152 #[.pointer (some ⟨g,0,none⟩),.int .i64 src,.int .i64 (50 +k),.int .i64 sum] X (Done X g base l tm (enterP {b with due:=b.due.set k (x +sum)} src (50+k) sum)):=fun X l hX=>genter g base l _ tm src (50+k) sum X hX
 rw[←hE.out] at hS
 have G1:=H1.goes
 clear hE H1 H D
 generalize shopGetsP b k src sum=r at*
 go_enter Tryz.func161,Tryz.ntmps161
 go_upto_region 2 with fail
 generalize w.setCell ⟨gd,k,none⟩ (.int .i64 (x +sum))=W at*
 go_wp2_with (go_at_call 152;refine (hS _ _ G1).mono ?_;rintro e w1 ⟨rfl,lab1,hG,hB⟩)
 go_ret
 exact ⟨rfl,_,hG,hb1.trans hB⟩
theorem gshopGives (g base:Nat) (lab:Lab) (b:Bank) (tm:Value) (k:Nat) (dst sum:Int) (w:World) (h:Goes w g base lab b tm) (hk:k<b.due.length) (hk9:k≤1000000) (f1:-1000000000000000≤b.due.getD k 0) (f2:b.due.getD k 0≤1000000000000000) (f3:-1000000000000000≤sum) (f4:sum≤1000000000000000):
  Calls Tryz.prog 141 #[.pointer (some ⟨g,0,none⟩),.int .i64 (k :Int),.int .i64 dst,.int .i64 sum] w (Done w g base lab tm (shopGivesP b k dst sum)):=by
 obtain ⟨v,cs,ds,H⟩:=h.hand
 obtain ⟨gd,cap,D⟩:=H.mem.dueAt hk
 have hk2:(k :Int)<b.due.length:=by omega
 obtain ⟨-,-,-,c3,-⟩:=blk_cells H.blk
 rw [D.val] at c3
 have d0:=D.c0
 have d1:=D.fz
 have H1:=H.duePut D (b.due.getD k 0-sum)
 have hE:Hid (shopGivesP b k dst sum=enterP {b with due:=b.due.set k (b.due.getD k 0-sum)} (50 +k) dst sum):=hid (by unfold shopGivesP dueP Bank.dueOf;rw [Int.toNat_natCast,←Int.sub_eq_add_neg])
 have hb1:=H.dueStp D (b.due.getD k 0-sum)
 generalize b.due.getD k 0=x at*
 have hS:∀(X:World) (l:Lab),Goes X g base l {b with due:=b.due.set k (x-sum)} tm→Calls Tryz.prog 152 #[.pointer (some ⟨g,0,none⟩),.int .i64 (50+k),.int .i64 dst,.int .i64 sum] X (Done X g base l tm (enterP {b with due:=b.due.set k (x-sum)} (50+k) dst sum)):=fun X l hX=>genter g base l _ tm (50+k) dst sum X hX
 rw [←hE.out] at hS
 have G1:=H1.goes
 clear hE H1 H D
 generalize shopGivesP b k dst sum=r at*
 go_enter Tryz.func141,Tryz.ntmps141
 go_upto_region 2 with fail
 generalize w.setCell ⟨gd,k,none⟩ (.int .i64 (x-sum))=W at*
 go_wp2_with (go_at_call 152;refine (hS _ _ G1).mono ?_;rintro e w1 ⟨rfl,lab1,hG,hB⟩)
 go_ret
 exact ⟨rfl,_,hG,hb1.trans hB⟩
theorem or_two (x y:Int) (c:Nat) (w:World):Calls Tryz.prog 129 #[.slice (some ⟨w.heap.size,0,none⟩) 2 c] (w.alloc (.cells #[.int .i64 x,.int .i64 y] 45)) fun e w'=>e=.returned (.int .i64 (orE x y))∧w'=w.alloc (.cells #[.int .i64 x,.int .i64 y] 45):=by
 have :=or_any [x,y] w.heap.size c (w.alloc (.cells #[.int .i64 x,.int .i64 y] 45)) (by simp) (fun i hi=>by
  match i,hi with
  |0,_=>simp
  |1,_=>simp)
 rw[orL_two] at this
 exact this
theorem or_three (x y z:Int) (c:Nat) (w:World):Calls Tryz.prog 129 #[.slice (some ⟨w.heap.size,0,none⟩) 3 c] (w.alloc (.cells #[.int .i64 x,.int .i64 y,.int .i64 z] 45)) fun e w'=>e=.returned (.int .i64 (orE x (orE y z)))∧w'=w.alloc (.cells #[.int .i64 x,.int .i64 y,.int .i64 z] 45):=by
 have:= or_any [x,y,z] w.heap.size c (w.alloc (.cells #[.int .i64 x,.int .i64 y,.int .i64 z] 45)) (by simp) (fun i hi=>by
  match i,hi with
  |0,_=>simp
  |1,_=>simp
  |2,_=>simp)
 rw[orL_three] at this
 exact this
theorem gcardGets (g base:Nat) (lab:Lab) (b:Bank) (tm:Value) (k:Nat) (src sum:Int) (w:World) (h:Goes w g base lab b tm) (hk:k<b.cards.length) (hk9:k≤1000000):
  Calls Tryz.prog 124 #[.pointer (some ⟨g,0,none⟩),.int .i64 (k :Int),.int .i64 src,.int .i64 sum] w (Done w g base lab tm (cardGetsP b k src sum)):=by
 have hS:=gshift g base lab b tm k 0 sum w h hk
 have hE:Hid (cardGetsP b k src sum=((enterP (shiftP b k 0 sum).1 src (10 +k) sum).1,orE (shiftP b k 0 sum).2 (enterP (shiftP b k 0 sum).1 src (10 +k) sum).2)):=hid rfl
 have hN:∀(X:World) (l:Lab),Goes X g base l (shiftP b k 0 sum).1 tm→Calls Tryz.prog 152 #[.pointer (some ⟨g,0,none⟩),.int .i64 src,.int .i64 (10+k),.int .i64 sum] X (Done X g base l tm (enterP (shiftP b k 0 sum).1 src (10+k) sum)):=fun X l hX=>genter g base l _ tm src (10+k) sum X hX
 unfold Done at hS hN
 generalize shiftP b k 0 sum=r at*
 generalize enterP r.1 src (10+k) sum=q at*
 go_enter Tryz.func124,Tryz.ntmps124
 go_wp2_with (first
  |(go_at_call 151;refine hS.mono ?_;rintro e w1 ⟨rfl,lab1,hG1,hB1⟩)
  |(go_at_call 152;refine (hN _ _ hG1).mono ?_;rintro e w2 ⟨rfl,lab2,hG2,hB2⟩)
  |(go_at_call 129;refine (or_two r.2 q.2 _ w2).mono ?_;rintro e w3 ⟨rfl,rfl⟩))
 go_ret
 unfold Done
 rw[hE.out]
 exact ⟨rfl,_,hG2.below (below_alloc _ _),(hB1.trans hB2).trans (stp_below (below_alloc _ _))⟩
theorem gcardGives (g base:Nat) (lab:Lab) (b:Bank) (tm:Value) (k:Nat) (dst sum:Int) (w:World) (h:Goes w g base lab b tm) (hk:k<b.cards.length) (hk9:k≤1000000) (f3:-1000000000000000≤sum) (f4:sum≤1000000000000000):
  Calls Tryz.prog 157 #[.pointer (some ⟨g,0,none⟩),.int .i64 (k :Int),.int .i64 dst,.int .i64 sum] w (Done w g base lab tm (cardGivesP b k dst sum)):=by
 have hS:=gshift g base lab b tm k 0 (-sum) w h hk
 have hE:Hid (cardGivesP b k dst sum=((enterP (shiftP b k 0 (-sum)).1 (10 +k) dst sum).1,orE (shiftP b k 0 (-sum)).2 (enterP (shiftP b k 0 (-sum)).1 (10 +k) dst sum).2)):=hid rfl
 have hN:∀(X:World) (l:Lab),Goes X g base l (shiftP b k 0 (-sum)).1 tm→Calls Tryz.prog 152 #[.pointer (some ⟨g,0,none⟩),.int .i64 (10+k),.int .i64 dst,.int .i64 sum] X (Done X g base l tm (enterP (shiftP b k 0 (-sum)).1 (10 +k) dst sum)):=fun X l hX=>genter g base l _ tm (10 +k) dst sum X hX
 unfold Done at hS hN
 generalize shiftP b k 0 (-sum)=r at*
 generalize enterP r.1 (10 +k) dst sum=q at*
 go_enter Tryz.func157,Tryz.ntmps157
 go_wp2_with (first
  |(go_at_call 151;refine hS.mono ?_;rintro e w1 ⟨rfl,lab1,hG1,hB1⟩)
  |(go_at_call 152;refine (hN _ _ hG1).mono ?_;rintro e w2 ⟨rfl,lab2,hG2,hB2⟩)
  |(go_at_call 129;refine (or_two r.2 q.2 _ w2).mono ?_;rintro e w3 ⟨rfl,rfl⟩))
 go_ret
 unfold Done
 rw[hE.out]
 exact ⟨rfl,_,hG2.below (below_alloc _ _),(hB1.trans hB2).trans (stp_below (below_alloc _ _))⟩
end Go.Proofs.YtofcnebekmjdoaaGreatDoor.Bn
