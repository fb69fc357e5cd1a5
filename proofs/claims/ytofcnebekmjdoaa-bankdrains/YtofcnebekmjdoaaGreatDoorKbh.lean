import Derived.Test.YtofcnebekmjdoaaGreatDoorKbg
set_option maxHeartbeats 4000000
set_option maxRecDepth 100000
namespace Go.Proofs.YtofcnebekmjdoaaGreatDoor.Bn
open Go.RowKit Go.Proofs.YtofcnebekmjdoaaGreatDoor.Gn
structure Dz (X:World) (l:Lab) (z:Nat) (d:Dd):Prop where
 db:X.heap[z]?=some (ddo d)
 dl:l z=0
theorem Dz.on {X Y:World} {l l':Lab} {z:Nat} {d:Dd}(h:Dz X l z d) (hs:Stp X l Y l'):Dz Y l' z d:=⟨hs.at h.db h.dl,hs.zero (lt_of_block h.db) h.dl⟩
theorem Dz.drew {X:World}{l:Lab}{z:Nat}{d:Dd}(h:Dz X l z d):Dz X.drew l z d:=⟨h.db,h.dl⟩
structure Az (X:World) (l:Lab) (z:Nat) (a:Au.Au):Prop where
 ab:X.heap[z]?=some (auo a)
 al:l z=0
theorem Az.on {X Y:World}{l l':Lab}{z:Nat}{a:Au.Au}(h:Az X l z a) (hs:Stp X l Y l'):Az Y l' z a:=⟨hs.at h.ab h.al,hs.zero (lt_of_block h.ab) h.al⟩
theorem Az.drew {X:World} {l:Lab} {z:Nat} {a:Au.Au}(h:Az X l z a):Az X.drew l z a:=⟨h.ab,h.al⟩
theorem auo_put {W:World}{z:Nat}{x a:Au.Au}(h:W.heap[z]?=some (auo x)):(((((((W.setCell ⟨z,0,none⟩ (.int .i64 a.card)).setCell ⟨z,1,none⟩ (.int .i64 a.shop)).setCell ⟨z,2,none⟩ (.int .i64 a.sum)).setCell ⟨z,3,none⟩ (.int .i64 a.cap)).setCell ⟨z,4,none⟩ (.int .i64 a.ref)).setCell ⟨z,5,none⟩ (.int .i64 a.dis)).setCell ⟨z,6,none⟩ (.int .i64 a.till)).setCell ⟨z,7,none⟩ (.bool a.shut)|>.heap[z]?=some (auo a):=by
 unfold auo at h⊢
 have h0:=heap_setCell_same W z 0 _ _ (.int .i64 a.card) h
 have h1:=heap_setCell_same _ z 1 _ _ (.int .i64 a.shop) h0
 have h2:=heap_setCell_same _ z 2 _ _ (.int .i64 a.sum) h1
 have h3:=heap_setCell_same _ z 3 _ _ (.int .i64 a.cap) h2
 have h4:=heap_setCell_same _ z 4 _ _ (.int .i64 a.ref) h3
 have h5:=heap_setCell_same _ z 5 _ _ (.int .i64 a.dis) h4
 have h6:=heap_setCell_same _ z 6 _ _ (.int .i64 a.till) h5
 have h7:=heap_setCell_same _ z 7 _ _ (.bool a.shut) h6
 rw[h7];simp
theorem shiftP_keeps (b:Bank) (n h m:Int):(shiftP b n h m).1.cards.length=b.cards.length∧(shiftP b n h m).1.due=b.due∧(shiftP b n h m).1.today=b.today:=by
 unfold shiftP;split
 ·exact ⟨rfl,rfl,rfl⟩
 ·exact ⟨by simp,rfl,rfl⟩
theorem enterP_keeps (b:Bank) (x y z:Int):(enterP b x y z).1.today=b.today:=by unfold enterP;split<;>rfl
theorem putP_keeps (b:Bank) (i:Bool) (t:Po.Tr):(putP b i t).1.today=b.today:=by unfold putP;split<;>rfl
theorem cardGetsP_keeps (b:Bank) (n x y:Int):(cardGetsP b n x y).1.today=b.today:=by
 unfold cardGetsP andE;dsimp only;rw [enterP_keeps];exact (shiftP_keeps _ _ _ _).2.2
theorem cardGivesP_keeps (b:Bank) (n x y:Int):(cardGivesP b n x y).1.today=b.today:=by
 unfold cardGivesP andE;dsimp only;rw[enterP_keeps];exact (shiftP_keeps _ _ _ _).2.2
theorem shopGivesP_keeps (b:Bank) (n x y:Int):(shopGivesP b n x y).1.today=b.today:=by unfold shopGivesP;rw[enterP_keeps];rfl
theorem passP_keeps (b:Bank) (a:Au.Au) (d:Dd):(passP b a d).1.today=b.today:=by
 unfold passP
 repeat' split
 ·unfold andE;dsimp only;rw[putP_keeps];exact cardGivesP_keeps _ _ _ _
 ·unfold andE;dsimp only;rw[putP_keeps];exact shopGivesP_keeps _ _ _ _
 ·exact cardGetsP_keeps _ _ _ _
 ·exact putP_keeps _ _ _
 ·exact cardGivesP_keeps _ _ _ _
 ·rfl
theorem becomeP_keeps (b:Bank) (n:Int) (a:Au.Au):(becomeP b n a).1.cards.length=b.cards.length∧(becomeP b n a).1.due=b.due∧(becomeP b n a).1.today=b.today:=shiftP_keeps _ _ _ _
structure D6 (w:World) (z:Nat) (id kind n shop mv sum:Int):Prop where
 c0:w.cell? ⟨z,0,none⟩=some (.int .i64 id)
 c1:w.cell? ⟨z,1,none⟩=some (.int .i64 kind)
 c2:w.cell? ⟨z,2,none⟩=some (.int .i64 n)
 c3:w.cell? ⟨z,3,none⟩=some (.int .i64 shop)
 c4:w.cell? ⟨z,4,none⟩=some (.int .i64 mv)
 c5:w.cell? ⟨z,5,none⟩=some (.int .i64 sum)
theorem D6.all{w:World}{z:Nat}{id kind n shop mv sum:Int}(h:D6 w z id kind n shop mv sum):w.cell? ⟨z,0,none⟩=some (.int .i64 id)∧w.cell? ⟨z,1,none⟩=some (.int .i64 kind)∧w.cell? ⟨z,2,none⟩=some (.int .i64 n)∧w.cell? ⟨z,3,none⟩=some (.int .i64 shop)∧w.cell? ⟨z,4,none⟩=some (.int .i64 mv)∧w.cell? ⟨z,5,none⟩=some (.int .i64 sum):=⟨h.c0,h.c1,h.c2,h.c3,h.c4,h.c5⟩
theorem ddo_six {w:World}{z:Nat}{id kind n shop mv sum:Int} (h:w.heap[z]?=some (ddo ⟨id,kind,n,shop,mv,sum⟩)):D6 w z id kind n shop mv sum:=by
 obtain ⟨h0,h1,h2,h3,h4,h5⟩:=ddo_cells h
 exact ⟨h0,h1,h2,h3,h4,h5⟩
structure Okm (b:Bank) (d:Dd):Prop where
 few:b.today.length≤100
 auths:∀k:Nat,k<b.auths.length→Au.wrongA (b.auths.getD k zA)=0∧(b.auths.getD k zA).card<b.cards.length∧(b.auths.getD k zA).shop<b.due.length
 c8:b.cards.length≤8
 d8:b.due.length≤8
 money:∀k:Nat,k<b.cards.length→-1000000000000≤(b.cards.getD k zeroC).m∧(b.cards.getD k zeroC).m≤1000000000000∧0≤(b.cards.getD k zeroC).h∧(b.cards.getD k zeroC).h≤1000000000000
 due:∀k:Nat,k<b.due.length→-1000000000000≤b.due.getD k 0∧b.due.getD k 0≤1000000000000
 n30:b.auths.length≤1000
theorem gmove_go(g base:Nat)(lab:Lab)(b:Bank)(tm:Value)(d:Dd)(w:World)(h:Goes w g base lab b tm)(O:Okm b d)(hdn:b.down=false)(k:Nat)(hk:d.n=k)(hkl:k<b.auths.length)(he:Au.mvErr (b.auths.getD k zA) d.mv d.sum=0)
  (hfree:¬(d.mv =1∧(b.card (b.auths.getD k zA).card).m-(b.card (b.auths.getD k zA).card).h<d.sum)):
  Calls Tryz.prog 98 #[.pointer (some ⟨g,0,none⟩),ddv d] w (Done w g base lab tm (goP b d (Au.step (b.auths.getD k zA) d.mv d.sum))):=by
 obtain⟨v,cs,ds,H⟩:=h.hand
 have may:=Au.mvErr_zero.1 he
 obtain⟨s1,s2,s3,s4,-⟩:=step_right may
 obtain⟨o1,o2,o3⟩:=O.auths k hkl
 have wst:Au.wrongA (Au.step (b.auths.getD k zA) d.mv d.sum)=0:=Au.wrongA_ok.2 ⟨s1,s2⟩
 have hmv:=Au.mv_yes he
 have hM:∀X:World,Calls Tryz.prog 128 #[Au.av (b.auths.getD k zA),.int .i64 d.mv,.int .i64 d.sum] X fun e w'=>e=.returned (.tuple #[Au.av (Au.step (b.auths.getD k zA) d.mv d.sum),.int .i64 0])∧Below X.heap.size X w':=fun X=>by
  have :=Au.move_any (b.auths.getD k zA) d.mv d.sum X
  rw[hmv]at this
  exact this
 have hb0:=below_alloc w (ddo d)
 obtain⟨W,hWd⟩:∃W,Hid (W=w.alloc (ddo d)):=⟨_,rfl⟩
 rw[←hWd.out]at hb0
 have H1:=H.below hb0
 have S1:=stp_below (lab:=lab) hb0
 have D1:Dz W (relab lab w.heap.size 0) w.heap.size d:=⟨by rw[hWd.out];exact heap_alloc_at _ _ _ rfl,relab_new (Nat.le_refl _)⟩
 obtain⟨d0,d1,d2,d3,d4,d5⟩:=ddo_cells D1.db
 obtain⟨ga,cap,A⟩:=H1.mem.authAt hkl
 obtain⟨-,c1,-,-,c4,-⟩:=blk_cells H1.blk
 rw[A.val]at c4
 rw[hdn]at c1
 have hk2:(k :Int)<b.auths.length:=by omega
 have hkn:k≤1000:=by have:= O.n30;omega
 obtain⟨id,kind,n,shop,mv,sum⟩:=d
 dsimp only at*
 subst hk
 obtain⟨x,hx⟩:∃x,Hid (x=b.auths.getD k zA):=⟨_,rfl⟩
 obtain⟨y,hy⟩:∃y,Hid (y =Au.step (b.auths.getD k zA) mv sum):=⟨_,rfl⟩
 have A8:=A.cells
 rw[←hx.out]at A8
 rw[←hy.out,←hx.out]at hM
 rw[←hy.out]at wst
 rw[←hy.out]
 rw[←hy.out,←hx.out]at s3 s4
 replace s3:=hid s3
 replace s4:=hid s4
 unfold Au.av at hM
 have hgl:=lt_of_block H1.blk
 have hzl:=lt_of_block D1.db
 have keep:∀X:World,Below W.heap.size W X→(X.cell? ⟨g,4,none⟩=some (.slice (some ⟨ga,0,none⟩) b.auths.length cap))∧Au8 X ga (k*8) x∧X.cell? ⟨w.heap.size,2,none⟩=some (.int .i64 k)∧X.cell? ⟨w.heap.size,4,none⟩=some (.int .i64 mv)∧X.cell? ⟨w.heap.size,5,none⟩=some (.int .i64 sum):=fun X hX=>
  ⟨(hX.cell (p:=⟨g,4,none⟩) hgl).trans c4,A8.on (hX.block _ A.lt),(hX.cell (p:=⟨w.heap.size,2,none⟩) hzl).trans d2,(hX.cell (p:=⟨w.heap.size,4,none⟩) hzl).trans d4,(hX.cell (p:=⟨w.heap.size,5,none⟩) hzl).trans d5⟩
 unfold ddv
 have hWd2:=hWd
 unfold ddo at hWd2
 dsimp only at hWd2
 have g1:decide ((k:Int)<0)=false:=decide_eq_false (by omega)
 have g2:decide ((b.auths.length :Int)≤(k:Int))=false:=decide_eq_false (by omega)
 have g1':¬((k :Int)<0):=by omega
 have g2':¬((b.auths.length :Int)≤(k:Int)):=by omega
 go_enter Tryz.func98,Tryz.ntmps98
 go_upto_region 1 with fail
 rw[←hWd2.out]
 go_upto_region 3 with fail
 go_quiet(fail)
 have hq0:=below_drewN (Below.refl W.heap.size W) nq
 generalize W.drewN nq=X0 at*
 go_upto_region 5 with fail
 go_cut[5,6]from 26 to 42(fun p q wc=>∃Z,p=.pointer (some ⟨Z,0,none⟩)∧q=.int .i64 0∧W.heap.size≤Z∧wc.heap[Z]?=some (auo y)∧Below W.heap.size W wc)
 case first=>
  refine wp_region_held_drew (S:=(fun X=>X.cell? ⟨g,4,none⟩=some (.slice (some ⟨ga,0,none⟩) b.auths.length cap)∧Au8 X ga (k * 8) x ∧ X.cell? ⟨w.heap.size, 2, none⟩ = some (.int .i64 k) ∧ X.cell? ⟨w.heap.size, 4, none⟩ = some (.int .i64 mv) ∧ X.cell? ⟨w.heap.size, 5, none⟩ = some (.int .i64 sum))) (by kernel_rfl) (keep _ hq0.drew) (fun hS => ?_)
  refine tk 0 (.pointer (some ⟨g, 0, none⟩)) hS ?_ ?_
  ·intro w' _; go_simp
  refine tk 1 (.pointer (some ⟨g, 0, none⟩)) hS ?_ ?_
  ·intro w' _; go_simp
  refine tk 2 (.pointer (some ⟨g, 0, none⟩)) hS ?_ ?_
  ·intro w' _; go_simp
  refine tk 3 (.pointer (some ⟨g, 4, none⟩)) hS ?_ ?_
  ·intro w' _; go_simp
  try simp only [List.getElem_toArray, List.getElem_cons_zero, List.getElem_cons_succ, Act.put, List.setIfInBounds_toArray, List.set_cons_zero, List.set_cons_succ]
  refine tk 4 (.slice (some ⟨ga, 0, none⟩) b.auths.length cap) hS ?_ ?_
  ·intro w' hS'; obtain ⟨C4, Q2, E2, E4, E5⟩ := hS'; obtain ⟨e0, e1, e2, e3, e4, e5, e6, e7⟩ := Q2.all; go_simp
  refine tk 5 (.pointer (some ⟨w.heap.size, 2, none⟩)) hS ?_ ?_
  ·intro w' _; go_simp
  refine tk 6 (.int .i64 (k : Int)) hS ?_ ?_
  ·intro w' hS'; obtain ⟨C4, Q2, E2, E4, E5⟩ := hS'; obtain ⟨e0, e1, e2, e3, e4, e5, e6, e7⟩ := Q2.all; go_simp
  refine tk 7 (.pointer (some ⟨ga, k * 8, none⟩)) hS ?_ ?_
  ·intro w' _; go_simp
  try simp only [List.getElem_toArray, List.getElem_cons_zero, List.getElem_cons_succ, Act.put, List.setIfInBounds_toArray, List.set_cons_zero, List.set_cons_succ]
  refine tk 8 (.agg #[.int .i64 x.card, .int .i64 x.shop, .int .i64 x.sum, .int .i64 x.cap, .int .i64 x.ref, .int .i64 x.dis, .int .i64 x.till, .bool x.shut]) hS ?_ ?_
  ·intro w' hS'; obtain ⟨C4, Q2, E2, E4, E5⟩ := hS'; obtain ⟨e0, e1, e2, e3, e4, e5, e6, e7⟩ := Q2.all; go_simp
  refine tk 9 (.pointer (some ⟨w.heap.size, 4, none⟩)) hS ?_ ?_
  ·intro w' _; go_simp
  refine tk 10 (.int .i64 mv) hS ?_ ?_
  ·intro w' hS'; obtain ⟨C4, Q2, E2, E4, E5⟩ := hS'; obtain ⟨e0, e1, e2, e3, e4, e5, e6, e7⟩ := Q2.all; go_simp
  refine tk 11 (.pointer (some ⟨w.heap.size, 5, none⟩)) hS ?_ ?_
  ·intro w' _; go_simp
  try simp only [List.getElem_toArray, List.getElem_cons_zero, List.getElem_cons_succ, Act.put, List.setIfInBounds_toArray, List.set_cons_zero, List.set_cons_succ]
  refine tk 12 (.int .i64 sum) hS ?_ ?_
  ·intro w' hS'; obtain ⟨C4, Q2, E2, E4, E5⟩ := hS'; obtain ⟨e0, e1, e2, e3, e4, e5, e6, e7⟩ := Q2.all; go_simp
  try simp only [List.getElem_toArray, List.getElem_cons_zero, List.getElem_cons_succ, Act.put, List.setIfInBounds_toArray, List.set_cons_zero, List.set_cons_succ]
  refine wpAnyH_ready (rs := [13, 17]) (by kernel_rfl) (by simp) ?_
  refine AllReadyH.cons rfl (fun K hK => ?_) (AllReadyH.cons rfl (fun K hK => ?_) AllReadyH.nil)
  ·go_simp
   refine (hM _).mono ?_
   rintro e w1 ⟨rfl, hb1⟩
   have hb1 : Below W.heap.size W w1 := hq0.drew.trans (hb1.mono hq0.size)
   go_simp
   refine hK.out _ _ (keep _ hb1) (fun hS => ?_)
   clear hK K
   refine tk 14 (.tuple #[.agg #[.int .i64 y.card, .int .i64 y.shop, .int .i64 y.sum, .int .i64 y.cap, .int .i64 y.ref, .int .i64 y.dis, .int .i64 y.till, .bool y.shut], .int .i64 0]) hS ?_ ?_
   ·intro w' _; go_simp
   refine tk 15 (.agg #[.int .i64 y.card, .int .i64 y.shop, .int .i64 y.sum, .int .i64 y.cap, .int .i64 y.ref, .int .i64 y.dis, .int .i64 y.till, .bool y.shut]) hS ?_ ?_
   ·intro w' _; go_simp
   refine tk 16 (.int .i64 0) hS ?_ ?_
   ·intro w' _; go_simp
   try simp only [List.getElem_toArray, List.getElem_cons_zero, List.getElem_cons_succ, Act.put, List.setIfInBounds_toArray, List.set_cons_zero, List.set_cons_succ]
   refine rd 17 (.cons rfl (fun K hK => ?_) .nil)
   go_simp
   refine hK.out _ _ (keep _ (bel_alloc hb1 _)) (fun hS => ?_)
   clear hK K
   try simp only [List.getElem_toArray, List.getElem_cons_zero, List.getElem_cons_succ, Act.put, List.setIfInBounds_toArray, List.set_cons_zero, List.set_cons_succ]
   refine rd 18 (.cons rfl (fun K hK => ?_) .nil)
   go_simp
   refine hK.out _ _ (keep _ (bel_alloc hb1 _)) (fun hS => ?_)
   clear hK K
   try simp only [List.getElem_toArray, List.getElem_cons_zero, List.getElem_cons_succ, Act.put, List.setIfInBounds_toArray, List.set_cons_zero, List.set_cons_succ]
   refine rd 19 (.cons rfl (fun K hK => ?_) .nil)
   go_simp
   refine hK.out _ _ (keep _ (bel_alloc hb1 _)) (fun hS => ?_)
   clear hK K
   try simp only [List.getElem_toArray, List.getElem_cons_zero, List.getElem_cons_succ, Act.put, List.setIfInBounds_toArray, List.set_cons_zero, List.set_cons_succ]
   refine wpAnyH_done (by kernel_rfl) ?_ _
   go_wp2_with fail
   go_meet
   exact ⟨w1.heap.size, rfl, rfl, hb1.size, heap_alloc_at w1 (auo y) _ rfl, bel_alloc hb1 _⟩
  ·go_simp
   refine hK.out _ _ (keep _ (bel_alloc hq0 _).drew) (fun hS => ?_)
   clear hK K
   try simp only [List.getElem_toArray, List.getElem_cons_zero, List.getElem_cons_succ, Act.put, List.setIfInBounds_toArray, List.set_cons_zero, List.set_cons_succ]
   refine rd 13 (.cons rfl (fun K hK => ?_) .nil)
   go_simp
   refine (hM _).mono ?_
   rintro e w1 ⟨rfl, hb1⟩
   have hz1 : w1.heap[X0.heap.size]? = some (auo zA) := (hb1.block _ (by simp)).trans (heap_alloc_at _ _ _ rfl)
   have hb1 : Below W.heap.size W w1 := (bel_alloc hq0 (.cells #[.int .i64 0, .int .i64 0, .int .i64 0, .int .i64 0, .int .i64 0, .int .i64 0, .int .i64 0, .bool false] 66)).drew.trans (hb1.mono (by have := hq0.size; simp; omega))
   go_simp
   refine hK.out _ _ (keep _ hb1) (fun hS => ?_)
   clear hK K
   refine tk 14 (.tuple #[.agg #[.int .i64 y.card, .int .i64 y.shop, .int .i64 y.sum, .int .i64 y.cap, .int .i64 y.ref, .int .i64 y.dis, .int .i64 y.till, .bool y.shut], .int .i64 0]) hS ?_ ?_
   ·intro w' _; go_simp
   refine tk 15 (.agg #[.int .i64 y.card, .int .i64 y.shop, .int .i64 y.sum, .int .i64 y.cap, .int .i64 y.ref, .int .i64 y.dis, .int .i64 y.till, .bool y.shut]) hS ?_ ?_
   ·intro w' _; go_simp
   refine tk 16 (.int .i64 0) hS ?_ ?_
   ·intro w' _; go_simp
   have Z8 := (auo_cells hz1).all
   obtain ⟨z0, z1, z2, z3, z4, z5, z6, z7⟩ := Z8
   have zf : ∀ p, w1.frozen? ⟨X0.heap.size, p, none⟩ = false := fun p => by unfold auo at hz1; simp [World.frozen?, hz1]
   have zf0 := zf 0
   have zf1 := zf 1
   have zf2 := zf 2
   have zf3 := zf 3
   have zf4 := zf 4
   have zf5 := zf 5
   have zf6 := zf 6
   have zf7 := zf 7
   have hX0 : W.heap.size ≤ X0.heap.size := hq0.size
   try simp only [List.getElem_toArray, List.getElem_cons_zero, List.getElem_cons_succ, Act.put, List.setIfInBounds_toArray, List.set_cons_zero, List.set_cons_succ]
   refine rd 18 (.cons rfl (fun K hK => ?_) .nil)
   go_simp
   have hY8 := auo_put (a := y) hz1
   have hbY : Below W.heap.size W ((((((((w1.setCell ⟨X0.heap.size, 0, none⟩ (.int .i64 y.card)).setCell ⟨X0.heap.size, 1, none⟩ (.int .i64 y.shop)).setCell ⟨X0.heap.size, 2, none⟩ (.int .i64 y.sum)).setCell ⟨X0.heap.size, 3, none⟩ (.int .i64 y.cap)).setCell ⟨X0.heap.size, 4, none⟩ (.int .i64 y.ref)).setCell ⟨X0.heap.size, 5, none⟩ (.int .i64 y.dis)).setCell ⟨X0.heap.size, 6, none⟩ (.int .i64 y.till)).setCell ⟨X0.heap.size, 7, none⟩ (.bool y.shut)) := (by repeat (first | refine Below.setCell ?_ (by first | (simp; omega) | (simp; done) | omega) _ | refine Below.drew ?_ | exact hb1))
   generalize ((((((((w1.setCell ⟨X0.heap.size, 0, none⟩ (.int .i64 y.card)).setCell ⟨X0.heap.size, 1, none⟩ (.int .i64 y.shop)).setCell ⟨X0.heap.size, 2, none⟩ (.int .i64 y.sum)).setCell ⟨X0.heap.size, 3, none⟩ (.int .i64 y.cap)).setCell ⟨X0.heap.size, 4, none⟩ (.int .i64 y.ref)).setCell ⟨X0.heap.size, 5, none⟩ (.int .i64 y.dis)).setCell ⟨X0.heap.size, 6, none⟩ (.int .i64 y.till)).setCell ⟨X0.heap.size, 7, none⟩ (.bool y.shut)) = Y at *
   refine hK.out _ _ (keep _ hbY) (fun hS => ?_)
   clear hK K
   try simp only [List.getElem_toArray, List.getElem_cons_zero, List.getElem_cons_succ, Act.put, List.setIfInBounds_toArray, List.set_cons_zero, List.set_cons_succ]
   refine rd 19 (.cons rfl (fun K hK => ?_) .nil)
   go_simp
   refine hK.out _ _ (keep _ hbY) (fun hS => ?_)
   clear hK K
   try simp only [List.getElem_toArray, List.getElem_cons_zero, List.getElem_cons_succ, Act.put, List.setIfInBounds_toArray, List.set_cons_zero, List.set_cons_succ]
   refine wpAnyH_done (by kernel_rfl) ?_ _
   go_wp2_with fail
   go_meet
   exact ⟨X0.heap.size, rfl, rfl, hX0, hY8, hbY⟩
 case rest =>
  obtain ⟨Z, rfl, rfl, hZ, hZb, hbc⟩ := hcut
  clear keep hM hmv c1 c4 d0 d1 d2 d3 d4 d5 hq0
  generalize wc = X at *
  have H2 := H1.below hbc
  have S2 := S1.trans (stp_below hbc)
  have D2 := D1.on (stp_below hbc)
  have A2 : Az X (relab (relab lab w.heap.size 0) W.heap.size 0) Z y := ⟨hZb, relab_new hZ⟩
  have hx3 : y.card = x.card := s3.out
  have hx4 : y.shop = x.shop := s4.out
  have o2' : y.card < b.cards.length := by rw [hx3, hx.out]; exact o2
  have o3' : y.shop < b.due.length := by rw [hx4, hx.out]; exact o3
  have rg := (Au.wrongA_ok.1 wst).1
  have y0 : 0 ≤ y.card := rg.2.2.2.2.1.1
  have y8 : y.card < 8 := rg.2.2.2.2.1.2
  have v0 : 0 ≤ y.shop := rg.2.2.2.2.2.1.1
  have v8 : y.shop < 8 := rg.2.2.2.2.2.1.2
  obtain ⟨c, hcn⟩ : ∃ c : Nat, Hid (y.card = c) := ⟨y.card.toNat, hid (by omega)⟩
  have hcl : c < b.cards.length := by have := hcn.out; omega
  have hfr2 : Hid (¬ (mv = 1 ∧ (b.card (c : Int)).m - (b.card (c : Int)).h < sum)) := by rw [← hcn.out, hx3, hx.out]; exact hid hfree
  have mny := O.money c hcl
  have dd0 := O.due y.shop.toNat (by omega)
  have few := O.few
  have may2 := hid may
  have m1 : 1 ≤ mv := may.2.2.1
  have m8 : mv ≤ 8 := may.2.2.2.1
  have n1 : 1 ≤ sum := may.2.2.2.2.1
  have n2 : sum ≤ 1000000 := may.2.2.2.2.2.1
  replace hx3 := hid hx3
  replace hx4 := hid hx4
  clear he hfree may s1 s2 O
  go_upto_region 8 with fail
  go_cut [63] from 46 to 62 (fun p wc => p = .bool false ∧ Below X.heap.size X wc)
  case first =>
   obtain ⟨e0, e1, e2, e3, e4, e5⟩ := ddo_cells D2.db
   dsimp only at e0 e1 e2 e3 e4 e5
   by_cases hm1 : mv = 1
   ·subst hm1
    obtain ⟨gc, cap2, CI, hcc⟩ := H2.mem.card hcl
    have hlen := H2.mem.cardsLen
    have hcl2 : c < cs.length := by omega
    have hcl3 : (c : Int) < cs.length := by omega
    obtain ⟨-, -, g2c, -⟩ := blk_cells H2.blk
    rw [CI.val] at g2c
    have yc := (auo_cells A2.ab).c0
    rw [hcn.out] at yc
    have hq : ¬ ((b.card (c : Int)).m - (b.card (c : Int)).h < sum) := fun hh => hfr2.out ⟨rfl, hh⟩
    have hmn : -1000000000000 ≤ (b.card (c : Int)).m ∧ (b.card (c : Int)).m ≤ 1000000000000 ∧ 0 ≤ (b.card (c : Int)).h ∧ (b.card (c : Int)).h ≤ 1000000000000 := mny
    rw [← hcc] at hq hmn
    have hFr : ∀ Y : World, Calls Tryz.prog 32 #[cv (cs.getD c zCV).c (cs.getD c zCV).a (cs.getD c zCV).cap] Y fun e w' => e = .returned (.int .i64 ((cs.getD c zCV).c.m - (cs.getD c zCV).c.h)) ∧ Below Y.heap.size Y w' := fun Y => free_any _ _ _ Y hmn.1 hmn.2.1 hmn.2.2.1 hmn.2.2.2
    unfold cv at hFr
    clear hcc
    generalize cs.getD c zCV = q at *
    have hdf : decide (q.c.m - q.c.h < sum) = false := decide_eq_false hq
    have hgX := lt_of_block H2.blk
    have hzX := lt_of_block D2.db
    have hZX := lt_of_block A2.ab
    have kp8 : ∀ X' : World, Below X.heap.size X X' → X'.cell? ⟨w.heap.size, 4, none⟩ = some (.int .i64 1) ∧ X'.cell? ⟨w.heap.size, 5, none⟩ = some (.int .i64 sum) ∧ X'.cell? ⟨g, 2, none⟩ = some (.slice (some ⟨gc, 0, none⟩) cs.length cap2) ∧ X'.cell? ⟨gc, c * 6, none⟩ = some (.int .i64 q.c.m) ∧ X'.cell? ⟨gc, c * 6 + 1, none⟩ = some (.int .i64 q.c.h) ∧ X'.cell? ⟨gc, c * 6 + 2, none⟩ = some (.int .i64 q.c.p.t) ∧ X'.cell? ⟨gc, c * 6 + 3, none⟩ = some (.int .i64 q.c.p.c) ∧ X'.cell? ⟨gc, c * 6 + 4, none⟩ = some (.int .i64 q.c.p.s) ∧ X'.cell? ⟨gc, c * 6 + 5, none⟩ = some (.slice q.a q.c.u.length q.cap) ∧ X'.cell? ⟨Z, 0, none⟩ = some (.int .i64 (c : Int)) := fun Y hY =>
     ⟨(hY.cell (p := ⟨w.heap.size, 4, none⟩) hzX).trans e4, (hY.cell (p := ⟨w.heap.size, 5, none⟩) hzX).trans e5, (hY.cell (p := ⟨g, 2, none⟩) hgX).trans g2c, (hY.cell (p := ⟨gc, c * 6, none⟩) CI.lt).trans CI.c0, (hY.cell (p := ⟨gc, c * 6 + 1, none⟩) CI.lt).trans CI.c1, (hY.cell (p := ⟨gc, c * 6 + 2, none⟩) CI.lt).trans CI.c2, (hY.cell (p := ⟨gc, c * 6 + 3, none⟩) CI.lt).trans CI.c3, (hY.cell (p := ⟨gc, c * 6 + 4, none⟩) CI.lt).trans CI.c4, (hY.cell (p := ⟨gc, c * 6 + 5, none⟩) CI.lt).trans CI.c5, (hY.cell (p := ⟨Z, 0, none⟩) hZX).trans yc⟩
    clear e0 e1 e2 e3 e4 e5 CI g2c yc hlen
    refine wp_region_held_drew (S := (fun X => X.cell? ⟨w.heap.size, 4, none⟩ = some (.int .i64 1) ∧ X.cell? ⟨w.heap.size, 5, none⟩ = some (.int .i64 sum) ∧ X.cell? ⟨g, 2, none⟩ = some (.slice (some ⟨gc, 0, none⟩) cs.length cap2) ∧ X.cell? ⟨gc, c * 6, none⟩ = some (.int .i64 q.c.m) ∧ X.cell? ⟨gc, c * 6 + 1, none⟩ = some (.int .i64 q.c.h) ∧ X.cell? ⟨gc, c * 6 + 2, none⟩ = some (.int .i64 q.c.p.t) ∧ X.cell? ⟨gc, c * 6 + 3, none⟩ = some (.int .i64 q.c.p.c) ∧ X.cell? ⟨gc, c * 6 + 4, none⟩ = some (.int .i64 q.c.p.s) ∧ X.cell? ⟨gc, c * 6 + 5, none⟩ = some (.slice q.a q.c.u.length q.cap) ∧ X.cell? ⟨Z, 0, none⟩ = some (.int .i64 (c : Int)))) (by kernel_rfl) (kp8 _ ((Below.refl _ _).drew)) (fun hS => ?_)
    refine tk 0 (.pointer (some ⟨w.heap.size, 4, none⟩)) hS ?_ ?_
    ·intro w' _; go_simp
    refine tk 1 (.int .i64 1) hS ?_ ?_
    ·intro w' hS'; obtain ⟨E4, E5, G2, k0, k1, k2, k3, k4, k5, Y0⟩ := hS'; go_simp
    refine tk 2 (.bool true) hS ?_ ?_
    ·intro w' _; go_simp
    refine tk 3 (.bool true) hS ?_ ?_
    ·intro w' _; go_simp
    try simp only [List.getElem_toArray, List.getElem_cons_zero, List.getElem_cons_succ, Act.put, List.setIfInBounds_toArray, List.set_cons_zero, List.set_cons_succ]
    refine tk 4 (.pointer (some ⟨w.heap.size, 5, none⟩)) hS ?_ ?_
    ·intro w' _; go_simp
    refine tk 5 (.int .i64 sum) hS ?_ ?_
    ·intro w' hS'; obtain ⟨E4, E5, G2, k0, k1, k2, k3, k4, k5, Y0⟩ := hS'; go_simp
    refine tk 6 (.pointer (some ⟨g, 0, none⟩)) hS ?_ ?_
    ·intro w' _; go_simp
    refine tk 7 (.pointer (some ⟨g, 0, none⟩)) hS ?_ ?_
    ·intro w' _; go_simp
    try simp only [List.getElem_toArray, List.getElem_cons_zero, List.getElem_cons_succ, Act.put, List.setIfInBounds_toArray, List.set_cons_zero, List.set_cons_succ]
    refine tk 8 (.pointer (some ⟨g, 0, none⟩)) hS ?_ ?_
    ·intro w' _; go_simp
    refine tk 9 (.pointer (some ⟨g, 2, none⟩)) hS ?_ ?_
    ·intro w' _; go_simp
    refine tk 10 (.slice (some ⟨gc, 0, none⟩) cs.length cap2) hS ?_ ?_
    ·intro w' hS'; obtain ⟨E4, E5, G2, k0, k1, k2, k3, k4, k5, Y0⟩ := hS'; go_simp
    refine tk 11 (.pointer (some ⟨Z, 0, none⟩)) hS ?_ ?_
    ·intro w' _; go_simp
    try simp only [List.getElem_toArray, List.getElem_cons_zero, List.getElem_cons_succ, Act.put, List.setIfInBounds_toArray, List.set_cons_zero, List.set_cons_succ]
    refine tk 12 (.int .i64 (c : Int)) hS ?_ ?_
    ·intro w' hS'; obtain ⟨E4, E5, G2, k0, k1, k2, k3, k4, k5, Y0⟩ := hS'; go_simp
    refine tk 13 (.pointer (some ⟨gc, c * 6, none⟩)) hS ?_ ?_
    ·intro w' _; go_simp
    refine tk 14 (.agg #[.int .i64 q.c.m, .int .i64 q.c.h, .int .i64 q.c.p.t, .int .i64 q.c.p.c, .int .i64 q.c.p.s, .slice q.a q.c.u.length q.cap]) hS ?_ ?_
    ·intro w' hS'; obtain ⟨E4, E5, G2, k0, k1, k2, k3, k4, k5, Y0⟩ := hS'; go_simp
    try simp only [List.getElem_toArray, List.getElem_cons_zero, List.getElem_cons_succ, Act.put, List.setIfInBounds_toArray, List.set_cons_zero, List.set_cons_succ]
    refine rd 15 (.cons rfl (fun K hK => ?_) .nil)
    go_simp
    refine (hFr _).mono ?_
    rintro e wF ⟨rfl, hbF⟩
    have hbF : Below X.heap.size X wF := ((Below.refl _ _).drew).trans hbF
    go_simp
    refine hK.out _ _ (kp8 _ hbF) (fun hS => ?_)
    clear hK K
    refine tk 16 (.bool false) hS ?_ ?_
    ·intro w' _; go_simp
    refine tk 17 (.bool false) hS ?_ ?_
    ·intro w' _; go_simp
    try simp only [List.getElem_toArray, List.getElem_cons_zero, List.getElem_cons_succ, Act.put, List.setIfInBounds_toArray, List.set_cons_zero, List.set_cons_succ]
    refine wpAnyH_done (by kernel_rfl) ?_ _
    go_wp2_with fail
    go_meet
    exact ⟨rfl, hbF⟩
   ·have hm2 : (mv == 1) = false := by simpa using hm1
    clear hm1
    go_quiet (fail)
    go_wp2_with fail
    go_meet
    exact ⟨rfl, below_drewN (Below.refl _ _) _⟩
  case rest =>
   obtain ⟨rfl, hbd⟩ := hcut
   generalize wc = Y at *
   have H3 := H2.below hbd
   have D3 := D2.on (stp_below hbd)
   have A3 := A2.on (stp_below hbd)
   have S3 := S2.trans (stp_below hbd)
   have G4 := H3.goes.drew
   have D4 := D3.drew
   have A4 := A3.drew
   have S4 := S3.drew
   obtain ⟨k1, k2, k3⟩ := becomeP_keeps b k y
   have k4 := passP_keeps (becomeP b k y).1 y ⟨id, kind, k, shop, mv, sum⟩
   have GB : ∀ (X' : World) (l : Lab), Goes X' g base l b tm → Calls Tryz.prog 130 #[.pointer (some ⟨g, 0, none⟩), .int .i64 (k : Int), Au.av y] X' (Done X' g base l tm (becomeP b k y)) := fun X' l hX => gbecome g base l b tm k y X' hX hkl wst o1 o2'
   have GP : ∀ (X' : World) (l : Lab), Goes X' g base l (becomeP b k y).1 tm → Calls Tryz.prog 131 #[.pointer (some ⟨g, 0, none⟩), Au.av y, ddv ⟨id, kind, k, shop, mv, sum⟩] X' (Done X' g base l tm (passP (becomeP b k y).1 y ⟨id, kind, k, shop, mv, sum⟩)) := fun X' l hX => gpass g base l _ tm y _ X' hX (by rw [k1]; exact o2') y0 (by rw [k2]; exact o3') v0 y8 v8 (by unfold Bank.dueOf; rw [k2]; exact dd0.1) (by unfold Bank.dueOf; rw [k2]; exact dd0.2) m1 m8 n1 n2
   have GN : ∀ (X' : World) (l : Lab), Goes X' g base l (passP (becomeP b k y).1 y ⟨id, kind, k, shop, mv, sum⟩).1 tm → Calls Tryz.prog 132 #[.pointer (some ⟨g, 0, none⟩), .agg #[.int .i64 y.shop, .int .i64 k, .int .i64 mv, .int .i64 sum]] X' (Done X' g base l tm (noteP (passP (becomeP b k y).1 y ⟨id, kind, k, shop, mv, sum⟩).1 ⟨y.shop, k, mv, sum⟩)) := fun X' l hX => gnote g base l _ tm ⟨y.shop, k, mv, sum⟩ X' hX (by rw [k4, k3]; exact few)
   unfold Done at GB GP GN
   unfold Au.av at GB GP
   unfold ddv at GP
   have hE : Hid (goP b ⟨id, kind, k, shop, mv, sum⟩ y = ((noteP (passP (becomeP b k y).1 y ⟨id, kind, k, shop, mv, sum⟩).1 ⟨y.shop, k, mv, sum⟩).1, orE (becomeP b k y).2 (orE (passP (becomeP b k y).1 y ⟨id, kind, k, shop, mv, sum⟩).2 (noteP (passP (becomeP b k y).1 y ⟨id, kind, k, shop, mv, sum⟩).1 ⟨y.shop, k, mv, sum⟩).2))) := hid rfl
   clear k1 k2 k3 k4 o1 o2 o3 o2' o3' rg mny dd0 few may2 hfr2 wst H1 H2 H3 D1 D2 D3 A2 A3 S1 S2 S3 hbc hbd hb0 A A8 hx3 hx4 hcn H
   dsimp only at GB GP GN
   generalize noteP (passP (becomeP b k y).1 y ⟨id, kind, k, shop, mv, sum⟩).1 ⟨y.shop, k, mv, sum⟩ = r3 at *
   generalize passP (becomeP b k y).1 y ⟨id, kind, k, shop, mv, sum⟩ = r2 at *
   generalize becomeP b k y = r1 at *
   go_upto_region 10 with fail
   refine wp_region_held_drew (S := (fun X => Au8 X Z 0 y ∧ D6 X w.heap.size id kind k shop mv sum)) (by kernel_rfl) (⟨auo_cells A4.ab, ddo_six D4.db⟩) (fun hS => ?_)
   refine tk 0 (.pointer (some ⟨g, 0, none⟩)) hS ?_ ?_
   ·intro w' _; go_simp
   refine tk 1 (.pointer (some ⟨w.heap.size, 2, none⟩)) hS ?_ ?_
   ·intro w' _; go_simp
   refine tk 2 (.int .i64 (k : Int)) hS ?_ ?_
   ·intro w' hS'; obtain ⟨Q1, Q2⟩ := hS'; obtain ⟨e0, e1, e2, e3, e4, e5, e6, e7⟩ := Q1.all; obtain ⟨x0, x1, x2, x3, x4, x5⟩ := Q2.all; go_simp
   refine tk 3 (.agg #[.int .i64 y.card, .int .i64 y.shop, .int .i64 y.sum, .int .i64 y.cap, .int .i64 y.ref, .int .i64 y.dis, .int .i64 y.till, .bool y.shut]) hS ?_ ?_
   ·intro w' hS'; obtain ⟨Q1, Q2⟩ := hS'; obtain ⟨e0, e1, e2, e3, e4, e5, e6, e7⟩ := Q1.all; obtain ⟨x0, x1, x2, x3, x4, x5⟩ := Q2.all; go_simp
   try simp only [List.getElem_toArray, List.getElem_cons_zero, List.getElem_cons_succ, Act.put, List.setIfInBounds_toArray, List.set_cons_zero, List.set_cons_succ]
   refine tk 5 (.pointer (some ⟨g, 0, none⟩)) hS ?_ ?_
   ·intro w' _; go_simp
   refine tk 6 (.agg #[.int .i64 y.card, .int .i64 y.shop, .int .i64 y.sum, .int .i64 y.cap, .int .i64 y.ref, .int .i64 y.dis, .int .i64 y.till, .bool y.shut]) hS ?_ ?_
   ·intro w' hS'; obtain ⟨Q1, Q2⟩ := hS'; obtain ⟨e0, e1, e2, e3, e4, e5, e6, e7⟩ := Q1.all; obtain ⟨x0, x1, x2, x3, x4, x5⟩ := Q2.all; go_simp
   refine tk 7 (.agg #[.int .i64 id, .int .i64 kind, .int .i64 (k : Int), .int .i64 shop, .int .i64 mv, .int .i64 sum]) hS ?_ ?_
   ·intro w' hS'; obtain ⟨Q1, Q2⟩ := hS'; obtain ⟨e0, e1, e2, e3, e4, e5, e6, e7⟩ := Q1.all; obtain ⟨x0, x1, x2, x3, x4, x5⟩ := Q2.all; go_simp
   refine tk 9 (.pointer (some ⟨g, 0, none⟩)) hS ?_ ?_
   ·intro w' _; go_simp
   try simp only [List.getElem_toArray, List.getElem_cons_zero, List.getElem_cons_succ, Act.put, List.setIfInBounds_toArray, List.set_cons_zero, List.set_cons_succ]
   refine tk 10 (.pointer (some ⟨Z, 1, none⟩)) hS ?_ ?_
   ·intro w' _; go_simp
   refine tk 11 (.int .i64 y.shop) hS ?_ ?_
   ·intro w' hS'; obtain ⟨Q1, Q2⟩ := hS'; obtain ⟨e0, e1, e2, e3, e4, e5, e6, e7⟩ := Q1.all; obtain ⟨x0, x1, x2, x3, x4, x5⟩ := Q2.all; go_simp
   refine tk 12 (.pointer (some ⟨w.heap.size, 2, none⟩)) hS ?_ ?_
   ·intro w' _; go_simp
   refine tk 13 (.int .i64 (k : Int)) hS ?_ ?_
   ·intro w' hS'; obtain ⟨Q1, Q2⟩ := hS'; obtain ⟨e0, e1, e2, e3, e4, e5, e6, e7⟩ := Q1.all; obtain ⟨x0, x1, x2, x3, x4, x5⟩ := Q2.all; go_simp
   try simp only [List.getElem_toArray, List.getElem_cons_zero, List.getElem_cons_succ, Act.put, List.setIfInBounds_toArray, List.set_cons_zero, List.set_cons_succ]
   refine tk 14 (.pointer (some ⟨w.heap.size, 4, none⟩)) hS ?_ ?_
   ·intro w' _; go_simp
   refine tk 15 (.int .i64 mv) hS ?_ ?_
   ·intro w' hS'; obtain ⟨Q1, Q2⟩ := hS'; obtain ⟨e0, e1, e2, e3, e4, e5, e6, e7⟩ := Q1.all; obtain ⟨x0, x1, x2, x3, x4, x5⟩ := Q2.all; go_simp
   refine tk 16 (.pointer (some ⟨w.heap.size, 5, none⟩)) hS ?_ ?_
   ·intro w' _; go_simp
   refine tk 17 (.int .i64 sum) hS ?_ ?_
   ·intro w' hS'; obtain ⟨Q1, Q2⟩ := hS'; obtain ⟨e0, e1, e2, e3, e4, e5, e6, e7⟩ := Q1.all; obtain ⟨x0, x1, x2, x3, x4, x5⟩ := Q2.all; go_simp
   try simp only [List.getElem_toArray, List.getElem_cons_zero, List.getElem_cons_succ, Act.put, List.setIfInBounds_toArray, List.set_cons_zero, List.set_cons_succ]
   refine tk 18 (.agg #[.int .i64 y.shop, .int .i64 (k : Int), .int .i64 mv, .int .i64 sum]) hS ?_ ?_
   ·intro w' _; go_simp
   try simp only [List.getElem_toArray, List.getElem_cons_zero, List.getElem_cons_succ, Act.put, List.setIfInBounds_toArray, List.set_cons_zero, List.set_cons_succ]
   refine rd 4 (.cons rfl (fun K hK => ?_) .nil)
   go_simp
   refine (GB _ _ G4).mono ?_
   rintro e w5 ⟨rfl, lab5, hG5, hS5⟩
   have A5 := A4.on hS5
   have D5 := D4.on hS5
   go_simp
   refine hK.out _ _ (⟨auo_cells A5.ab, ddo_six D5.db⟩) (fun hS => ?_)
   clear hK K
   try simp only [List.getElem_toArray, List.getElem_cons_zero, List.getElem_cons_succ, Act.put, List.setIfInBounds_toArray, List.set_cons_zero, List.set_cons_succ]
   refine rd 8 (.cons rfl (fun K hK => ?_) .nil)
   go_simp
   refine (GP _ _ hG5).mono ?_
   rintro e w6 ⟨rfl, lab6, hG6, hS6⟩
   have A6 := A5.on hS6
   have D6' := D5.on hS6
   go_simp
   refine hK.out _ _ (⟨auo_cells A6.ab, ddo_six D6'.db⟩) (fun hS => ?_)
   clear hK K
   try simp only [List.getElem_toArray, List.getElem_cons_zero, List.getElem_cons_succ, Act.put, List.setIfInBounds_toArray, List.set_cons_zero, List.set_cons_succ]
   refine rd 19 (.cons rfl (fun K hK => ?_) .nil)
   go_simp
   refine (GN _ _ hG6).mono ?_
   rintro e w7 ⟨rfl, lab7, hG7, hS7⟩
   have A7 := A6.on hS7
   have D7 := D6'.on hS7
   go_simp
   refine hK.out _ _ (⟨auo_cells A7.ab, ddo_six D7.db⟩) (fun hS => ?_)
   clear hK K
   try simp only [List.getElem_toArray, List.getElem_cons_zero, List.getElem_cons_succ, Act.put, List.setIfInBounds_toArray, List.set_cons_zero, List.set_cons_succ]
   refine rd 20 (.cons rfl (fun K hK => ?_) .nil)
   go_simp
   have A8 := A7.on (stp_below (below_alloc w7 (.cells #[.int .i64 r1.2, .int .i64 r2.2, .int .i64 r3.2] 45)))
   have D8 := D7.on (stp_below (below_alloc w7 (.cells #[.int .i64 r1.2, .int .i64 r2.2, .int .i64 r3.2] 45)))
   refine hK.out _ _ (⟨auo_cells A8.ab, ddo_six D8.db⟩) (fun hS => ?_)
   clear hK K
   try simp only [List.getElem_toArray, List.getElem_cons_zero, List.getElem_cons_succ, Act.put, List.setIfInBounds_toArray, List.set_cons_zero, List.set_cons_succ]
   refine rd 21 (.cons rfl (fun K hK => ?_) .nil)
   go_simp
   refine (or_three _ _ _ _ w7).mono ?_
   rintro e w8 ⟨rfl, rfl⟩
   go_simp
   refine hK.out _ _ (⟨auo_cells A8.ab, ddo_six D8.db⟩) (fun hS => ?_)
   clear hK K
   try simp only [List.getElem_toArray, List.getElem_cons_zero, List.getElem_cons_succ, Act.put, List.setIfInBounds_toArray, List.set_cons_zero, List.set_cons_succ]
   refine rd 22 (.cons rfl (fun K hK => ?_) .nil)
   go_simp
   refine hK.out _ _ (⟨auo_cells A8.ab, ddo_six D8.db⟩) (fun hS => ?_)
   clear hK K
   try simp only [List.getElem_toArray, List.getElem_cons_zero, List.getElem_cons_succ, Act.put, List.setIfInBounds_toArray, List.set_cons_zero, List.set_cons_succ]
   refine wpAnyH_done (by kernel_rfl) ?_ _
   go_wp2_with fail
   go_ret
   unfold Done
   rw [hE.out]
   exact ⟨rfl, _, hG7.below (below_alloc _ _), (((S4.trans hS5).trans hS6).trans hS7).trans (stp_below (below_alloc _ _))⟩
end Go.Proofs.YtofcnebekmjdoaaGreatDoor.Bn
